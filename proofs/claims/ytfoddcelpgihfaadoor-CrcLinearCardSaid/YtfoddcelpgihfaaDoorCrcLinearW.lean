/- The walk of CrcLinear. -/
import Derived.Test.YtfoddcelpgihfaaDoorCrcSaysW
import Derived.Test.YtfoddcelpgihfaaDoorCrcRow8
import Derived.Laws.OwnMore
import Derived.StillTailTactics
namespace Go.Proofs.YtfoddcelpgihfaaDoor
open Go.RowKit

theorem made_zero (n : Nat) : (madeCells (Value.int .u8 0).cells (n * 1)).toList = bv (List.replicate n 0) := by
  unfold madeCells bv
  apply List.ext_getElem
  · simp
  · intro i h1 h2
    simp [Value.cells, Nat.mod_one]
/-- The first k bytes of l are those of the three texts put over one another. -/
def Three (a b c l : List UInt8) (k : Nat) : Prop := ∀ i, i < k → ∀ (h0 : i < a.length) (h1 : i < b.length) (h2 : i < c.length) (h3 : i < l.length), l[i] = a[i] ^^^ b[i] ^^^ c[i]
theorem Three.step {a b c l : List UInt8} {k : Nat} (h : Three a b c l k) (j : Nat) (hj : j = k) (h0 : k < a.length) (h1 : k < b.length) (h2 : k < c.length) (x : UInt8) (hx : x = a[k] ^^^ b[k] ^^^ c[k]) : Three a b c (l.set k x) (k + 1) := by
  intro i hi a0 a1 a2 a3
  by_cases e : i = k
  · subst e
    rw [List.getElem_set_self, hx]
  · rw [List.getElem_set_ne (fun h => e h.symm)]
    exact h i (by omega) a0 a1 a2 (by simpa using a3)
theorem bits_xor8 (a b : UInt8) : bits .xor .u8 (a.toNat : Int) (b.toNat : Int) = ((a ^^^ b).toNat : Int) := by
  rw [u8_xor_nat _ _ a.toNat_lt b.toNat_lt, UInt8.toNat_xor]

set_option maxHeartbeats 1600000 in
set_option maxRecDepth 100000 in
theorem crcLinear_walk (A0 : Option Addr) (n0 c0 : Nat) (l0 : List UInt8) (e0 : n0 = l0.length) (h0 : n0 ≤ c0) (_m0 : c0 ≤ maxLen) (r0 : c0 ≤ 140737488351232) (A1 : Option Addr) (n1 c1 : Nat) (l1 : List UInt8) (e1 : n1 = l1.length) (h1 : n1 ≤ c1) (_m1 : c1 ≤ maxLen) (r1 : c1 ≤ 140737488351232)
    (A2 : Option Addr) (n2 c2 : Nat) (l2 : List UInt8) (e2 : n2 = l2.length) (h2 : n2 ≤ c2) (_m2 : c2 ≤ maxLen) (r2 : c2 ≤ 140737488351232) (w : World)
    (s0 : Sees w w.heap.size A0 l0) (s1 : Sees w w.heap.size A1 l1) (s2 : Sees w w.heap.size A2 l2) (ht : Lib.TabIs Tryd.prog w "franking/crc.halfByte" .u32 crcTab) :
    Calls Tryd.prog 5 #[.slice A0 n0 c0, .slice A1 n1 c1, .slice A2 n2 c2] w fun e w' => e = .returned (.bool true) ∧ Below w.heap.size w w' := by
  subst e0 e1 e2
  have HT := Lib.hid (tabAt ht)
  have HM0 := Lib.hid _m0
  have HM1 := Lib.hid _m1
  have HM2 := Lib.hid _m2
  clear ht _m0 _m1 _m2
  obtain ⟨i0, hi, hz0, hz1, hz2⟩ := info_parts Tryd.infoB
  have b0 : (l0.length : Int) ≤ 140737488351232 := by omega
  have b1 : (l1.length : Int) ≤ 140737488351232 := by omega
  have b2 : (l2.length : Int) ≤ 140737488351232 := by omega
  by_cases q0 : 200 < (l0.length : Int)
  · go_enter Tryd.func5, Tryd.ntmps5
    go_wp2_with (go_at_call 7; refine (crcAwake_any _ HT.out).mono ?_; rintro e w1 ⟨rfl, hb1⟩)
    all_goals (go_ret; exact ⟨rfl, hb1⟩)
  by_cases q1 : l1.length ≠ l0.length
  · have q1' : ((l1.length : Int) != (l0.length : Int)) = true := by rw [bne_iff_ne]; omega
    clear q1
    go_enter Tryd.func5, Tryd.ntmps5
    go_wp2_with (go_at_call 7; refine (crcAwake_any _ HT.out).mono ?_; rintro e w1 ⟨rfl, hb1⟩)
    all_goals (go_ret; exact ⟨rfl, hb1⟩)
  have q1 := Decidable.not_not.1 q1
  by_cases q2 : l2.length ≠ l0.length
  · have q1' : ((l1.length : Int) != (l0.length : Int)) = false := by rw [bne_eq_false_iff_eq]; omega
    have q2' : ((l2.length : Int) != (l0.length : Int)) = true := by rw [bne_iff_ne]; omega
    clear q1 q2
    go_enter Tryd.func5, Tryd.ntmps5
    go_wp2_with (go_at_call 7; refine (crcAwake_any _ HT.out).mono ?_; rintro e w1 ⟨rfl, hb1⟩)
    all_goals (go_ret; exact ⟨rfl, hb1⟩)
  have q2 := Decidable.not_not.1 q2
  obtain ⟨n, hn⟩ : ∃ n, l0.length = n := ⟨_, rfl⟩
  rw [hn] at q1 q2 q0 h0
  rw [q1] at h1 b1
  rw [q2] at h2 b2
  rw [hn] at b0
  rw [hn, q1, q2]
  have HN0 := Lib.hid hn
  have HN1 := Lib.hid q1
  have HN2 := Lib.hid q2
  clear hn q1 q2
  go_enter Tryd.func5, Tryd.ntmps5
  go_wp2_with fail
  refine (crcAwake_any _ HT.out).mono ?_
  rintro e w1 ⟨rfl, hb1⟩
  have hw1 := hb1.size
  obtain ⟨w2, hmk, hown2, hg2⟩ := run_make_full (P := Tryd.prog) (w := w1) w1.heap.size 22 5 i0 (.int .u8 0) 1 Tryd.underlying22 hi hz0 hz1 .i64 .i64 n (by rw [hz2]; omega) (by unfold maxLen; omega) (Nat.le_refl _)
  rw [made_zero] at hown2
  have hb2 : Below w1.heap.size w1 w2 := (Below.refl _ _).grown hg2 (Nat.le_refl _) (fun k hk => by cases hk)
  have hb02 := hb1.trans (hb2.mono hw1)
  have hrow2 : Row8 w2 w1.heap.size (List.replicate n 0) := Row8.of_own hown2
  have HS0 := Lib.hid s0
  have HS1 := Lib.hid s1
  have HS2 := Lib.hid s2
  clear hown2 hg2 hb2 hi hz0 hz1 hz2 hb1 s0 s1 s2
  go_wp2
  clear hmk
  generalize w1.heap.size = g at *
  go_loopw [8] (fun i wr => ∃ k : Nat, k ≤ n ∧ i = .int .i64 k ∧ ∃ l : List UInt8, l.length = n ∧ Row8 wr g l ∧ Hid (Three l0 l1 l2 l k) ∧ Below w.heap.size w wr) (fun i _ => n - (intOf i).toNat)
  case atStart => exact ⟨0, Nat.zero_le _, rfl, List.replicate n 0, by simp, hrow2, Lib.hid (fun i hi => by omega), hb02⟩
  case round =>
    clear hrow2 hb02
    obtain ⟨k, hk, rfl, l, hl, hrow, HL, hb⟩ := hrel
    by_cases hlt : k < n
    · have k0 : k < l0.length := by have := HN0.out; omega
      have k1 : k < l1.length := by have := HN1.out; omega
      have k2 : k < l2.length := by have := HN2.out; omega
      obtain ⟨ga, oa, rfl, hga, hca⟩ := (HS0.out.below hb (Nat.le_refl _)) (List.length_pos_iff.1 (by omega))
      obtain ⟨gb, ob, rfl, hgb, hcb⟩ := (HS1.out.below hb (Nat.le_refl _)) (List.length_pos_iff.1 (by omega))
      obtain ⟨gc, oc, rfl, hgc, hcc⟩ := (HS2.out.below hb (Nat.le_refl _)) (List.length_pos_iff.1 (by omega))
      have ha := hca k k0
      have hb' := hcb k k1
      have hc := hcc k k2
      obtain ⟨a, Ha⟩ : ∃ a, Hid (a = l0[k]'k0) := ⟨_, Lib.hid rfl⟩
      obtain ⟨b, Hb⟩ : ∃ b, Hid (b = l1[k]'k1) := ⟨_, Lib.hid rfl⟩
      obtain ⟨c, Hc⟩ : ∃ c, Hid (c = l2[k]'k2) := ⟨_, Lib.hid rfl⟩
      rw [← Ha.out] at ha
      rw [← Hb.out] at hb'
      rw [← Hc.out] at hc
      obtain ⟨hcell, hfree⟩ := hrow k (by omega)
      have x1 := bits_xor8 a b
      have x2 := bits_xor8 (a ^^^ b) c
      obtain ⟨ab, Hab⟩ : ∃ x, Hid (x = a ^^^ b) := ⟨_, Lib.hid rfl⟩
      rw [← Hab.out] at x1 x2
      obtain ⟨abc, Habc⟩ : ∃ x, Hid (x = ab ^^^ c) := ⟨_, Lib.hid rfl⟩
      rw [← Habc.out] at x2
      have hnew := HL.out.step k rfl k0 k1 k2 abc (by rw [Habc.out, Hab.out, Ha.out, Hb.out, Hc.out])
      have HN := Lib.hid hnew
      clear hnew hca hcb hcc HS0 HS1 HS2
      go_wp2
      go_still_tail 17, (by kernel_rfl)
      go_wp2
      go_roundw
      case rel => exact ⟨k + 1, by omega, by go_num, _, by simpa using hl, (hrow.drewN 1).store k (by omega) abc, HN, (below_drewN hb 1).setCell (by show w.heap.size ≤ g; omega) _⟩
      case measure => simp [intOf]; omega
    · obtain rfl : k = n := by omega
      have zr := hb.size
      have hgw : l.length ≠ 0 → g < wr.heap.size := fun h0 => by
        have h1 := World.block_lt_of_cell? wr _ (hrow 0 (by omega)).1
        exact h1
      have hs : Sees wr wr.heap.size (some ⟨g, 0, none⟩) l := fun hn => by
        have h0 : l.length ≠ 0 := fun h => hn (List.eq_nil_of_length_eq_zero h)
        exact (hrow.sees.mono (by have := hgw h0; omega)) hn
      have hthree := Crc.add_three 0#32 l0 l1 l2 l (by rw [HN0.out, HN1.out]) (by rw [HN0.out, HN2.out]) (by rw [HN0.out, hl]) (fun i hi => HL.out i (by rw [← HN0.out]; exact hi) _ _ _ _)
      obtain ⟨qx, Hqx⟩ : ∃ x, Hid (x = Crc.add 0#32 l) := ⟨_, Lib.hid rfl⟩
      obtain ⟨qa, Hqa⟩ : ∃ x, Hid (x = Crc.add 0#32 l0) := ⟨_, Lib.hid rfl⟩
      obtain ⟨qb, Hqb⟩ : ∃ x, Hid (x = Crc.add 0#32 l1) := ⟨_, Lib.hid rfl⟩
      obtain ⟨qc, Hqc⟩ : ∃ x, Hid (x = Crc.add 0#32 l2) := ⟨_, Lib.hid rfl⟩
      rw [← Hqx.out, ← Hqa.out, ← Hqb.out, ← Hqc.out] at hthree
      have x1 := bits_xor qa qb
      have x2 := bits_xor (qa ^^^ qb) qc
      rw [← hthree] at x2
      generalize qa ^^^ qb = qab at x1 x2
      have S0 := Lib.hid ((HS0.out.below hb (Nat.le_refl _)).mono zr)
      have S1 := Lib.hid ((HS1.out.below hb (Nat.le_refl _)).mono zr)
      have S2 := Lib.hid ((HS2.out.below hb (Nat.le_refl _)).mono zr)
      have HTr : Hid (TabAt wr 0) := Lib.hid (HT.out.below hb (Nat.le_refl _))
      have HK := Lib.hid hl
      clear hrow HL hthree HS0 HS1 HS2 hl
      go_wp2_with fail
      refine (crcOf_any _ 1 1 [l] _ _ rfl (by decide) (by decide) (grid_one _ _ _ _ _ _ HK.out.symm (Nat.le_refl _) (by unfold maxLen; omega) hs _ rfl) (HTr.out.alloc _)).mono ?_
      rintro e w5 ⟨rfl, rfl⟩
      rw [show ([l] : List (List UInt8)).flatten = l by simp, ← Hqx.out]
      go_wp2_with fail
      refine (crcOf_any _ 1 1 [l0] _ _ rfl (by decide) (by decide) (grid_one _ _ _ _ _ _ HN0.out.symm h0 HM0.out ?g1 _ ?n1) ?t1).mono ?_
      case g1 => exact (S0.out.alloc (Nat.le_refl _) _).mono (by simp)
      case n1 => simp
      case t1 => exact (HTr.out.alloc _).alloc _
      rintro e w5 ⟨rfl, rfl⟩
      rw [show ([l0] : List (List UInt8)).flatten = l0 by simp, ← Hqa.out]
      go_wp2_with fail
      refine (crcOf_any _ 1 1 [l1] _ _ rfl (by decide) (by decide) (grid_one _ _ _ _ _ _ HN1.out.symm h1 HM1.out ?g1 _ ?n1) ?t1).mono ?_
      case g1 => exact ((S1.out.alloc (Nat.le_refl _) _).alloc (by simp) _).mono (by simp; omega)
      case n1 => simp
      case t1 => exact ((HTr.out.alloc _).alloc _).alloc _
      rintro e w5 ⟨rfl, rfl⟩
      rw [show ([l1] : List (List UInt8)).flatten = l1 by simp, ← Hqb.out]
      go_wp2_with fail
      refine (crcOf_any _ 1 1 [l2] _ _ rfl (by decide) (by decide) (grid_one _ _ _ _ _ _ HN2.out.symm h2 HM2.out ?g1 _ ?n1) ?t1).mono ?_
      case g1 => exact (((S2.out.alloc (Nat.le_refl _) _).alloc (by simp) _).alloc (by simp; omega) _).mono (by simp; omega)
      case n1 => simp
      case t1 => exact (((HTr.out.alloc _).alloc _).alloc _).alloc _
      rintro e w5 ⟨rfl, rfl⟩
      rw [show ([l2] : List (List UInt8)).flatten = l2 by simp, ← Hqc.out]
      go_wp2
      go_ret
      exact ⟨rfl, (((hb.alloc zr _).alloc (by simp; omega) _).alloc (by simp; omega) _).alloc (by simp; omega) _⟩
end Go.Proofs.YtfoddcelpgihfaaDoor
