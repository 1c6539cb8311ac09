/- The walk of RecSays. -/
import Derived.Test.YtdnbbnjmdddfdaaDoorRecTurnedW
import Derived.Test.YtdnbbnjmdddfdaaDoorRefPut
import Derived.Test.YtdnbbnjmdddfdaaDoorRefScan
namespace Go.Proofs.YtdnbbnjmdddfdaaDoor
open Go.RowKit
set_option linter.unusedVariables false

/-- What Put answers, as bytes and an error. -/
def putV (l : List UInt8) (z : Int) (b : List UInt8) : List UInt8 × Nat := if z < 1 ∨ 200000 < b.length then ([], 1) else (l ++ Rc.enc z.toNat b, 0)
def PutSee (l : List UInt8) (z : Int) (b : List UInt8) (w : World) (e : Ending) (w' : World) : Prop :=
  ∃ A c L E, Hid (L = (putV l z b).1) ∧ Hid (E = (putV l z b).2) ∧ e = .returned (.tuple #[.slice A L.length c, .int .i64 (E : Int)]) ∧ Sees w' w'.heap.size A L ∧ Below w.heap.size w w'
theorem put_see (A : Option Addr) (n c : Nat) (l : List UInt8) (z : Int) (A2 : Option Addr) (n2 c2 : Nat) (l2 : List UInt8) (w : World) (hn : n = l.length) (hs : Sees w w.heap.size A l) (hn2 : n2 = l2.length) (hs2 : Sees w w.heap.size A2 l2)
    (hz : z ≤ 9223372036854775807) (h2 : l2.length ≤ maxLen) (hl : l.length ≤ 140737488000000) (ht : TabAt w 0) :
    Calls Tryd.prog 11 #[.slice A n c, .agg #[.int .i64 z, .slice A2 n2 c2]] w (PutSee l z l2 w) := by
  subst hn2
  by_cases hb : z < 1 ∨ 200000 < l2.length
  · refine (put_no A n c z A2 l2.length c2 w h2 hb).mono ?_
    rintro e w' ⟨rfl, hb'⟩
    exact ⟨none, 0, [], 1, Lib.hid (by unfold putV; rw [if_pos hb]), Lib.hid (by unfold putV; rw [if_pos hb]), rfl, Sees.nil _ _ _, hb'⟩
  · refine (put_okZ A n c l z z.toNat (by omega) A2 l2.length c2 l2 w hn hs rfl hs2 (by omega) (by omega) (by omega) hl ht).mono ?_
    rintro e w' ⟨A', c', L, HL, rfl, ho, hb', _, _⟩
    exact ⟨A', c', L, 0, Lib.hid (by unfold putV; rw [if_neg hb, HL.out]), Lib.hid (by unfold putV; rw [if_neg hb]), rfl, Sees.of_own ho, hb'⟩
theorem rput_see (A : Option Addr) (n c : Nat) (l : List UInt8) (z : Int) (A2 : Option Addr) (n2 c2 : Nat) (l2 : List UInt8) (w : World) (hn : n = l.length) (hs : Sees w w.heap.size A l) (hn2 : n2 = l2.length) (hs2 : Sees w w.heap.size A2 l2)
    (hz : z ≤ 9223372036854775807) (h2 : l2.length ≤ maxLen) (hl : l.length ≤ 140737488000000) :
    Calls Tryd.prog 15 #[.slice A n c, .agg #[.int .i64 z, .slice A2 n2 c2]] w (PutSee l z l2 w) := by
  subst hn2
  by_cases hb : z < 1 ∨ 200000 < l2.length
  · refine (rput_no A n c z A2 l2.length c2 w h2 hb).mono ?_
    rintro e w' ⟨rfl, hb'⟩
    exact ⟨none, 0, [], 1, Lib.hid (by unfold putV; rw [if_pos hb]), Lib.hid (by unfold putV; rw [if_pos hb]), rfl, Sees.nil _ _ _, hb'⟩
  · have e : z = (z.toNat : Int) := by omega
    have hp := rput_ok A n c l z.toNat A2 l2.length c2 l2 w hn hs rfl hs2 (by omega) (by omega) (by omega) hl
    rw [← e] at hp
    refine hp.mono ?_
    rintro e w' ⟨A', c', L, HL, rfl, ho, hb', _, _⟩
    exact ⟨A', c', L, 0, Lib.hid (by unfold putV; rw [if_neg hb, HL.out]), Lib.hid (by unfold putV; rw [if_neg hb]), rfl, Sees.of_own ho, hb'⟩
/-- What Get answers: the number, the body, the size. -/
def getV (l : List UInt8) : Int × List UInt8 × Int := if Rc.getE l = 0 then ((Rc.nr l : Int), Rc.body l, (Rc.len l : Int) + 16) else (0, [], 0)
def GetSee (l : List UInt8) (w : World) (e : Ending) (w' : World) : Prop :=
  ∃ A c Y L T E, Hid (Y = (getV l).1) ∧ Hid (L = (getV l).2.1) ∧ Hid (T = (getV l).2.2) ∧ Hid (E = Rc.getE l) ∧ e = .returned (.tuple #[.agg #[.int .i64 Y, .slice A L.length c], .int .i64 T, .int .i64 (E : Int)]) ∧ Sees w' w'.heap.size A L ∧ Below w.heap.size w w'
theorem GetEnd.see {l : List UInt8} {w : World} {e : Ending} {w' : World} (h : GetEnd l w e w') : GetSee l w e w' := by
  rcases h with ⟨hE, rfl, hb⟩ | ⟨hE, A, n, c, rfl, rfl, ho, _, _, hb⟩
  · exact ⟨none, 0, 0, [], 0, Rc.getE l, Lib.hid (by unfold getV; rw [if_neg hE]), Lib.hid (by unfold getV; rw [if_neg hE]), Lib.hid (by unfold getV; rw [if_neg hE]), Lib.hid rfl, rfl, Sees.nil _ _ _, hb⟩
  · exact ⟨A, c, _, _, _, 0, Lib.hid (by unfold getV; rw [if_pos hE]), Lib.hid (by unfold getV; rw [if_pos hE]), Lib.hid (by unfold getV; rw [if_pos hE]), Lib.hid hE.symm, rfl, Sees.of_own ho, hb⟩

set_option maxHeartbeats 4000000 in
set_option maxRecDepth 100000 in
theorem recSays_walk (z : Int) (A0 : Option Addr) (n0 c0 : Nat) (l0 : List UInt8) (e0 : n0 = l0.length) (h0 : n0 ≤ c0) (_m0 : c0 ≤ maxLen) (hz : -9223372036854775808 ≤ z ∧ z ≤ 9223372036854775807)
    (A1 : Option Addr) (n1 c1 : Nat) (l1 : List UInt8) (e1 : n1 = l1.length) (h1 : n1 ≤ c1) (_m1 : c1 ≤ maxLen) (first : Int) (hfirst : (Lit.int .i64 first).wf = true) (w : World)
    (s0 : Sees w w.heap.size A0 l0) (s1 : Sees w w.heap.size A1 l1) (ht : Lib.TabIs Tryd.prog w "franking/crc.halfByte" .u32 crcTab) :
    Calls Tryd.prog 4 #[.agg #[.int .i64 z, .slice A0 n0 c0], .slice A1 n1 c1, .int .i64 first] w fun e w' => e = .returned (.bool true) ∧ Below w.heap.size w w' := by
  subst e0 e1
  have HT := Lib.hid (tabAt ht)
  have HM1 := Lib.hid _m1
  clear ht
  unfold maxLen at _m0 _m1
  have hfi : -9223372036854775808 ≤ first ∧ first ≤ 9223372036854775807 := by
    have a0 : IntKind.i64.min = -9223372036854775808 := rfl
    have a1 : IntKind.i64.max = 9223372036854775807 := rfl
    simp [Lit.wf, a0, a1] at hfirst
    omega
  obtain ⟨w1, Hw1⟩ : ∃ w1, Hid (w1 = w.alloc (.cells #[.int .i64 z, .slice A0 l0.length c0] 28)) := ⟨_, Lib.hid rfl⟩
  have HBX : Hid (Boxed w w1 z A0 l0.length c0) := Lib.hid (by rw [Hw1.out]; exact Boxed.start w z A0 l0.length c0)
  have HAW := Lib.hid (recAwake_any w1 (HT.out.below HBX.out.below (Nat.le_refl _)))
  by_cases q0 : (500 : Int) < l0.length
  · go_enter Tryd.func4, Tryd.ntmps4
    go_wp2_with fail
    rw [← Hw1.out]
    refine HAW.out.mono ?_
    rintro e w2 ⟨rfl, hb2⟩
    obtain ⟨k0, k1, kb⟩ := HBX.out.later hb2
    have KB := Lib.hid kb
    clear hb2 kb
    go_wp2
    go_ret
    exact ⟨rfl, KB.out⟩
  by_cases q1 : (900 : Int) < l1.length
  · go_enter Tryd.func4, Tryd.ntmps4
    go_wp2_with fail
    rw [← Hw1.out]
    refine HAW.out.mono ?_
    rintro e w2 ⟨rfl, hb2⟩
    obtain ⟨k0, k1, kb⟩ := HBX.out.later hb2
    have KB := Lib.hid kb
    clear hb2 kb
    go_wp2
    go_ret
    exact ⟨rfl, KB.out⟩
  have q0' : l0.length ≤ 500 := by omega
  have q1' : l1.length ≤ 900 := by omega
  have HS0 := Lib.hid s0
  have HS1 := Lib.hid s1
  have keep : ∀ W, Below w.heap.size w W → Sees W W.heap.size A0 l0 ∧ Sees W W.heap.size A1 l1 ∧ TabAt W 0 := fun W hb => ⟨(HS0.out.below hb (Nat.le_refl _)).mono hb.size, (HS1.out.below hb (Nat.le_refl _)).mono hb.size, HT.out.below hb (Nat.le_refl _)⟩
  have KEEP := Lib.hid keep
  clear s0 s1 keep
  go_enter Tryd.func4, Tryd.ntmps4
  go_wp2_with fail
  rw [← Hw1.out]
  refine HAW.out.mono ?_
  rintro e w2 ⟨rfl, hb2⟩
  obtain ⟨k0, k1, kb2⟩ := HBX.out.later hb2
  have HB2 := Lib.hid kb2
  have HBB2 := Lib.hid hb2
  clear hb2 kb2
  go_wp2_with fail
  refine (put_see A1 l1.length c1 l1 z A0 l0.length c0 l0 w2 rfl (KEEP.out _ HB2.out).2.1 rfl (KEEP.out _ HB2.out).1 hz.2 (by unfold maxLen; omega) (by omega) (KEEP.out _ HB2.out).2.2).mono ?_
  rintro e w3 ⟨A3, c3, L3, E3, HL3, HE3, rfl, hs3, hb3⟩
  have HB3 := Lib.hid (HB2.out.trans (hb3.mono HB2.out.size))
  obtain ⟨k0', k1', -⟩ := HBX.out.later (HBB2.out.trans (hb3.mono HBB2.out.size))
  have HS3 := Lib.hid hs3
  clear k0 k1 hs3 hb3
  go_wp2_with fail
  refine (rput_see A1 l1.length c1 l1 z A0 l0.length c0 l0 w3 rfl (KEEP.out _ HB3.out).2.1 rfl (KEEP.out _ HB3.out).1 hz.2 (by unfold maxLen; omega) (by omega)).mono ?_
  rintro e w4 ⟨A4, c4, L4, E4, HL4, HE4, rfl, hs4, hb4⟩
  obtain rfl : L4 = L3 := HL4.out.trans HL3.out.symm
  obtain rfl : E4 = E3 := HE4.out.trans HE3.out.symm
  have HB4 := Lib.hid (HB3.out.trans (hb4.mono HB3.out.size))
  have HS34 := Lib.hid (HS3.out.below hb4 (Nat.le_refl _))
  have HS4 := Lib.hid hs4
  have HZ4 := Lib.hid hb4.size
  clear k0' k1' hs4 hb4 HS3
  go_wp2_with fail
  refine (get_any A1 l1.length c1 l1 w4 rfl h1 HM1.out (KEEP.out _ HB4.out).2.1 (KEEP.out _ HB4.out).2.2).mono ?_
  rintro e w5 hg5
  obtain ⟨A5, c5, Y5, L5, T5, E5, HY5, HL5, HT5, HE5, rfl, hs5, hb5⟩ := hg5.see
  obtain ⟨w5b, Hw5b⟩ : ∃ x, Hid (x = w5.alloc (.cells #[.int .i64 Y5, .slice A5 L5.length c5] 28)) := ⟨_, Lib.hid rfl⟩
  have hb5b : Below w5.heap.size w5 w5b := by rw [Hw5b.out]; exact (Below.refl _ _).alloc (Nat.le_refl _) _
  have hz5b : w5b.heap.size = w5.heap.size + 1 := by rw [Hw5b.out]; simp
  have HX5 : Hid (w5b.cell? ⟨w5.heap.size, 0, none⟩ = some (.int .i64 Y5) ∧ w5b.cell? ⟨w5.heap.size, 1, none⟩ = some (.slice A5 L5.length c5)) := Lib.hid (by
    rw [Hw5b.out]; exact ⟨by rw [World.cell?_alloc_at _ _ _ _ rfl]; rfl, by rw [World.cell?_alloc_at _ _ _ _ rfl]; rfl⟩)
  have hb45 := hb5.trans (hb5b.mono hb5.size)
  have HB5 := Lib.hid (HB4.out.trans (hb45.mono HB4.out.size))
  have HB45 := Lib.hid hb45
  have HS5 := Lib.hid (hs5.below hb5b (Nat.le_refl _))
  have HZ5 := Lib.hid hz5b
  clear hg5 hs5 hb5 hb5b hz5b hb45
  go_wp2_with fail
  rw [← Hw5b.out]
  refine (rget_any A1 l1.length c1 l1 w5b rfl h1 HM1.out (KEEP.out _ HB5.out).2.1).mono ?_
  rintro e w6 hg6
  obtain ⟨A6, c6, Y6, L6, T6, E6, HY6, HL6, HT6, HE6, rfl, hs6, hb6⟩ := hg6.see
  obtain rfl : Y6 = Y5 := HY6.out.trans HY5.out.symm
  obtain rfl : L6 = L5 := HL6.out.trans HL5.out.symm
  obtain rfl : T6 = T5 := HT6.out.trans HT5.out.symm
  obtain rfl : E6 = E5 := HE6.out.trans HE5.out.symm
  obtain ⟨w6b, Hw6b⟩ : ∃ x, Hid (x = w6.alloc (.cells #[.int .i64 Y6, .slice A6 L6.length c6] 36)) := ⟨_, Lib.hid rfl⟩
  have hb6b : Below w6.heap.size w6 w6b := by rw [Hw6b.out]; exact (Below.refl _ _).alloc (Nat.le_refl _) _
  have hz6b : w6b.heap.size = w6.heap.size + 1 := by rw [Hw6b.out]; simp
  have HX6 : Hid (w6b.cell? ⟨w6.heap.size, 0, none⟩ = some (.int .i64 Y6) ∧ w6b.cell? ⟨w6.heap.size, 1, none⟩ = some (.slice A6 L6.length c6)) := Lib.hid (by
    rw [Hw6b.out]; exact ⟨by rw [World.cell?_alloc_at _ _ _ _ rfl]; rfl, by rw [World.cell?_alloc_at _ _ _ _ rfl]; rfl⟩)
  have hb56 := hb6.trans (hb6b.mono hb6.size)
  have HB6 := Lib.hid (HB5.out.trans (hb56.mono HB5.out.size))
  have HB56 := Lib.hid hb56
  have HS6 := Lib.hid (hs6.below hb6b (Nat.le_refl _))
  have HZ6 := Lib.hid hz6b
  clear hg6 hs6 hb6 hb6b hz6b hb56
  go_wp2_with fail
  rw [← Hw6b.out]
  refine (scan_any A1 l1.length c1 l1 first w6b rfl h1 HM1.out (by omega) hfi (KEEP.out _ HB6.out).2.1 (KEEP.out _ HB6.out).2.2).mono ?_
  unfold ScanEnd
  obtain ⟨rs, Hrs⟩ : ∃ rs, Hid (rs = (Rc.scan l1 first).1) := ⟨_, Lib.hid rfl⟩
  obtain ⟨T7, HT7⟩ : ∃ x : Nat, Hid (x = (Rc.scan l1 first).2) := ⟨_, Lib.hid rfl⟩
  rw [← Hrs.out, ← HT7.out]
  rintro e w7 ⟨A7, c7, rfl, hr7, h7a, h7b, hb7⟩
  have HB7 := Lib.hid (HB6.out.trans (hb7.mono HB6.out.size))
  have HB67 := Lib.hid hb7
  have HR7 := Lib.hid hr7
  clear hr7 hb7
  go_wp2_with fail
  refine (rscan_any A1 l1.length c1 l1 first w7 rfl h1 HM1.out (by omega) hfi (KEEP.out _ HB7.out).2.1).mono ?_
  unfold ScanEnd
  rw [← Hrs.out, ← HT7.out]
  rintro e w8 ⟨A8, c8, rfl, hr8, h8a, h8b, hb8⟩
  have HB8 := Lib.hid (HB7.out.trans (hb8.mono HB7.out.size))
  have h58 : Below w5b.heap.size w5b w8 := HB56.out.trans ((HB67.out.mono HB56.out.size).trans (hb8.mono (Nat.le_trans HB56.out.size HB67.out.size)))
  have h68 : Below w6b.heap.size w6b w8 := HB67.out.trans (hb8.mono HB67.out.size)
  have h48 : Below w4.heap.size w4 w8 := HB45.out.trans (h58.mono HB45.out.size)
  have z5 := HZ5.out
  have z6 := HZ6.out
  have x50 : w8.cell? ⟨w5.heap.size, 0, none⟩ = some (.int .i64 Y6) := (h58.cell (p := ⟨w5.heap.size, 0, none⟩) (by show w5.heap.size < _; omega)).trans HX5.out.1
  have x51 : w8.cell? ⟨w5.heap.size, 1, none⟩ = some (.slice A5 L6.length c5) := (h58.cell (p := ⟨w5.heap.size, 1, none⟩) (by show w5.heap.size < _; omega)).trans HX5.out.2
  have x60 : w8.cell? ⟨w6.heap.size, 0, none⟩ = some (.int .i64 Y6) := (h68.cell (p := ⟨w6.heap.size, 0, none⟩) (by show w6.heap.size < _; omega)).trans HX6.out.1
  have x61 : w8.cell? ⟨w6.heap.size, 1, none⟩ = some (.slice A6 L6.length c6) := (h68.cell (p := ⟨w6.heap.size, 1, none⟩) (by show w6.heap.size < _; omega)).trans HX6.out.2
  have v3 := run_sees_string (P := Tryd.prog) w8 23 9 5 Tryd.underlying23 Tryd.underlying5 Tryd.underlying9 (HS34.out.below h48 HZ4.out) L4.length c3 rfl
  have v4 := run_sees_string (P := Tryd.prog) w8 23 9 5 Tryd.underlying23 Tryd.underlying5 Tryd.underlying9 (HS4.out.below h48 (Nat.le_refl _)) L4.length c4 rfl
  have v5 := run_sees_string (P := Tryd.prog) w8 23 9 5 Tryd.underlying23 Tryd.underlying5 Tryd.underlying9 (HS5.out.below h58 (by omega)) L6.length c5 rfl
  have v6 := run_sees_string (P := Tryd.prog) w8 23 9 5 Tryd.underlying23 Tryd.underlying5 Tryd.underlying9 (HS6.out.below h68 (by omega)) L6.length c6 rfl
  have HR78 := Lib.hid (HR7.out.below hb8)
  have HR8 := Lib.hid hr8
  have HC7 := Lib.hid h7b
  have HC8 := Lib.hid h8b
  have HN7 := Lib.hid h7a
  have hrl : (rs.length : Int) ≤ 9223372036854775807 := by unfold maxLen at h7b; omega
  clear hr8 hb8 h58 h68 h48 z5 z6 h7a h8a h7b h8b
  go_wp2_with fail
  clear v3 v4 v5 v6 x50 x51 x60 x61
  go_loopw [21] (fun i wr => ∃ k : Nat, k ≤ rs.length ∧ i = .int .i64 k ∧ Below w8.heap.size w8 wr) (fun i _ => rs.length - (intOf i).toNat)
  case atStart => exact ⟨0, Nat.zero_le _, rfl, Below.refl _ _⟩
  case round =>
    obtain ⟨k, hk, rfl, hb⟩ := hrel
    by_cases hlt : k < rs.length
    · have r7 := HR78.out.below hb
      have r8 := HR8.out.below hb
      obtain ⟨g7, B7, d7, rfl, y70, y71, -, -, y72⟩ := r7.at k hlt
      obtain ⟨g8, B8, d8, rfl, y80, y81, -, -, y82⟩ := r8.at k hlt
      obtain ⟨nk, HNK⟩ : ∃ nk : Nat, Hid (nk = rs[k].1) := ⟨_, Lib.hid rfl⟩
      obtain ⟨lk, HLK⟩ : ∃ lk : List UInt8, Hid (lk = rs[k].2) := ⟨_, Lib.hid rfl⟩
      rw [← HNK.out] at y70 y80
      rw [← HLK.out] at y71 y72 y81 y82
      have v7 := fun q => run_sees_string (P := Tryd.prog) (wr.drewN q) 23 9 5 Tryd.underlying23 Tryd.underlying5 Tryd.underlying9 (Sees.drewN y72 q) lk.length d7 rfl
      have v8 := fun q => run_sees_string (P := Tryd.prog) (wr.drewN q) 23 9 5 Tryd.underlying23 Tryd.underlying5 Tryd.underlying9 (Sees.drewN y82 q) lk.length d8 rfl
      have HB := Lib.hid hb
      have hkI : (k : Int) < rs.length := by omega
      clear r7 r8 y72 y82 hb
      go_wp2
      go_quiet (fail)
      go_wp2
      go_roundw
      case rel => exact ⟨k + 1, by omega, by go_num, below_drewN HB.out _⟩
      case measure => simp [intOf]; omega
    · obtain rfl : k = rs.length := by omega
      have HB := Lib.hid (HB8.out.trans (hb.mono HB8.out.size))
      clear hb
      go_wp2
      go_ret
      exact ⟨rfl, HB.out⟩
end Go.Proofs.YtdnbbnjmdddfdaaDoor
