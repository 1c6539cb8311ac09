/- The walks of rec.Size and rec.Put. -/
import Derived.Test.YtambddncncaehaaDoorBigNum
import Derived.Test.YtambddncncaehaaDoorCrcAdd
import Derived.Test.YtambddncncaehaaDoorCrcGrid
import Derived.Outline
namespace Go.Proofs.YtambddncncaehaaDoor
open Go.RowKit
set_option linter.unusedVariables false

/-- A row of one's own under way: it lies from block B on, and so does all that has been written since w0. -/
structure Acc (B : Nat) (w0 w : World) (v : Value) (l : List UInt8) : Prop where
  row : BRow w v l
  high : ∀ k, k ∈ blk v → B ≤ k
  below : Below B w0 w
  size : B ≤ w.heap.size

theorem Only.belowF {S : List Nat} {w w' : World} {B : Nat} (h : Only S w w') (hB : B ≤ w.heap.size) (hs : ∀ k, k ∈ S → B ≤ k) : Below B w w' := h.below hB hs
theorem Acc.step {B : Nat} {w0 w w' : World} {v v' : Value} {l l' : List UInt8} (h : Acc B w0 w v l) (hr : BRow w' v' l') (ho : Only (blk v) w w') (hg : Grows (blk v) (blk v') w) : Acc B w0 w' v' l' :=
  ⟨hr, fun k hk => by
    rcases hg k hk with h1 | h1
    · exact h.high k h1
    · have := h.size; omega, h.below.trans (ho.belowF h.size h.high), Nat.le_trans h.size ho.size⟩
theorem Acc.alloc {B : Nat} {w0 w : World} {v : Value} {l : List UInt8} (h : Acc B w0 w v l) (o : Obj) : Acc B w0 (w.alloc o) v l :=
  ⟨h.row.alloc o, h.high, h.below.alloc h.size o, by simpa using Nat.le_succ_of_le h.size⟩
theorem Acc.sees {B : Nat} {w0 w : World} {v : Value} {l : List UInt8} (h : Acc B w0 w v l) (C : Nat) (A : Option Addr) (m c : Nat) (r : List UInt8) (hm : m = r.length) (hr : Sees w C A r) (hl : l.length + r.length ≤ 140737488355328) (ty : TypeId) :
    ∃ (A' : Option Addr) (c' : Nat) (w' : World) (L : List UInt8), Hid (L = l ++ r) ∧ (Builtin.append_ #[31, 31] ty #[v, .slice A m c]).run Tryd.prog w = .ok (.slice A' L.length c') w' ∧ Acc B w0 w' (.slice A' L.length c') L ∧ L.length ≤ c' ∧ c' ≤ maxLen := by
  obtain ⟨v', w', hrun, h1, h2, h3⟩ := brow_sees w v l h.row C A m c r hm hr hl ty
  obtain ⟨A', c', rfl, h4, h5⟩ := h1.shape
  exact ⟨A', c', w', _, Lib.hid rfl, hrun, h.step h1 h2 h3, h4, h5⟩
def AccEnd (B : Nat) (w0 : World) (l : List UInt8) (e : Ending) (w' : World) : Prop :=
  ∃ (A' : Option Addr) (c' : Nat) (L : List UInt8), Hid (L = l) ∧ e = .returned (.slice A' L.length c') ∧ Acc B w0 w' (.slice A' L.length c') L ∧ L.length ≤ c' ∧ c' ≤ maxLen
theorem Acc.num {B : Nat} {w0 w : World} {v : Value} {l : List UInt8} (h : Acc B w0 w v l) (x s : Nat) (hs : s ≤ 8) (hl : l.length + 8 ≤ 140737488355328) (X S : Int) (hX : X = (x : Int)) (hS : S = (s : Int)) :
    Calls Tryd.prog 38 #[v, .int .u64 X, .int .i64 S] w (AccEnd B w0 (l ++ Rc.big x s)) := by
  subst hX; subst hS
  refine (appendNumber_any v l x s w h.row hs hl).mono ?_
  rintro e w' ⟨v', rfl, h1, h2, h3⟩
  obtain ⟨A', c', rfl, h4, h5⟩ := h1.shape
  exact ⟨A', c', _, Lib.hid rfl, rfl, h.step h1 h2 h3, h4, h5⟩
theorem own_raise {w : World} {B : Nat} {e : TypeId} {size n : Nat} {v : Value} {xs : List Value} (h : w.ownsRow 0 e size v n xs) (hb : ∀ k, k ∈ blk v → B ≤ k) : w.ownsRow B e size v n xs := by
  refine ⟨h.1, ?_⟩
  rcases h.2 with hn | ⟨g, cap, cur, rfl, _, rest⟩
  · exact .inl hn
  · exact .inr ⟨g, cap, cur, rfl, hb g (mem_blk.2 rfl), rest⟩

set_option maxHeartbeats 400000 in
theorem recSize_any (z : Int) (A : Option Addr) (n c : Nat) (w : World) (hn : n ≤ maxLen) (sz : Nat) (hsz : sz = if z < 1 ∨ 200000 < n then 0 else n + 16) :
    Calls Tryd.prog 26 #[.agg #[.int .i64 z, .slice A n c]] w fun e w' => e = .returned (.int .i64 (sz : Int)) ∧ Below w.heap.size w w' := by
  unfold maxLen at hn
  have hb : Below w.heap.size w (w.alloc (.cells #[.int .i64 z, .slice A n c] 61)) := (Below.refl _ _).alloc (Nat.le_refl _) _
  have HB := Lib.hid hb
  clear hb
  by_cases h1 : z < 1
  · rw [if_pos (.inl h1)] at hsz
    subst hsz
    go_enter Tryd.func26, Tryd.ntmps26
    go_wp2
    go_ret
    exact ⟨rfl, HB.out⟩
  · by_cases h2 : 200000 < n
    · rw [if_pos (.inr h2)] at hsz
      subst hsz
      have h3 : (200000 : Int) < n := by omega
      go_enter Tryd.func26, Tryd.ntmps26
      go_wp2
      go_ret
      exact ⟨rfl, HB.out⟩
    · rw [if_neg (by omega)] at hsz
      subst hsz
      go_enter Tryd.func26, Tryd.ntmps26
      go_wp2
      go_ret
      exact ⟨by simp; omega, HB.out⟩

set_option maxHeartbeats 800000 in
theorem put_no (A : Option Addr) (n c : Nat) (z : Int) (A2 : Option Addr) (n2 c2 : Nat) (w : World) (hn2 : n2 ≤ maxLen) (hz : z < 1 ∨ 200000 < n2) :
    Calls Tryd.prog 25 #[.slice A n c, .agg #[.int .i64 z, .slice A2 n2 c2]] w fun e w' => e = .returned (.tuple #[.slice none 0 0, .int .i64 1]) ∧ Below w.heap.size w w' := by
  have hs := fun w => recSize_any z A2 n2 c2 w hn2 0 (by rw [if_pos hz])
  have HS := Lib.hid hs
  clear hs hz
  go_enter Tryd.func25, Tryd.ntmps25
  go_wp2_with fail
  refine (HS.out _).mono ?_
  rintro e w2 ⟨rfl, hb⟩
  go_wp2
  go_ret2
  exact ⟨rfl, ((Below.refl w.heap.size w).alloc (Nat.le_refl _) _).trans (hb.mono (by simp))⟩

set_option maxHeartbeats 1600000 in
set_option maxRecDepth 100000 in
theorem put_ok (A : Option Addr) (n c : Nat) (l : List UInt8) (z : Nat) (A2 : Option Addr) (n2 c2 : Nat) (l2 : List UInt8) (w : World) (hn : n = l.length) (hs : Sees w w.heap.size A l) (hn2 : n2 = l2.length) (hs2 : Sees w w.heap.size A2 l2)
    (hz : 1 ≤ z) (hz2 : z ≤ 9223372036854775807) (h2 : l2.length ≤ 200000) (hl : l.length ≤ 140737488000000) (ht : TabAt w 0) :
    Calls Tryd.prog 25 #[.slice A n c, .agg #[.int .i64 (z : Int), .slice A2 n2 c2]] w fun e w' => ∃ A' c' L, Hid (L = l ++ Rc.enc z l2) ∧ e = .returned (.tuple #[.slice A' L.length c', .int .i64 0]) ∧ w'.ownsRow w.heap.size 5 1 (.slice A' L.length c') L.length (bv L) ∧ Below w.heap.size w w' ∧ L.length ≤ c' ∧ c' ≤ maxLen := by
  subst hn hn2
  obtain ⟨sz, Hsz⟩ : ∃ s : Nat, Hid (s = l2.length + 16) := ⟨_, Lib.hid rfl⟩
  have hsz := Hsz.out
  have hs := fun w => recSize_any (z : Int) A2 l2.length c2 w (by unfold maxLen; omega) sz (by rw [hsz, if_neg (by omega)])
  have HZ := Lib.hid hs
  obtain ⟨i0, hi, hz0, hz1, hz2'⟩ := info_parts Tryd.infoB1
  have HI := Lib.hid hi
  have HT := Lib.hid ht
  have hszn : ((sz : Int) == 0) = false := by simp; omega
  have hszle : sz ≤ 200016 := by omega
  clear hs hi ht hsz
  obtain ⟨w1, Hw1⟩ : ∃ w1, Hid (w1 = w.alloc (.cells #[.int .i64 (z : Int), .slice A2 l2.length c2] 61)) := ⟨_, Lib.hid rfl⟩
  have hb1 : Below w.heap.size w w1 := by rw [Hw1.out]; exact (Below.refl _ _).alloc (Nat.le_refl _) _
  have hz1s : w1.heap.size = w.heap.size + 1 := by rw [Hw1.out]; simp
  have hc0 : w1.cell? ⟨w.heap.size, 0, none⟩ = some (.int .i64 (z : Int)) := by rw [Hw1.out, World.cell?_alloc_at _ _ _ _ rfl]; rfl
  have hc1 : w1.cell? ⟨w.heap.size, 1, none⟩ = some (.slice A2 l2.length c2) := by rw [Hw1.out, World.cell?_alloc_at _ _ _ _ rfl]; rfl
  have HB1 := Lib.hid hb1
  have HC0 := Lib.hid hc0
  have HC1 := Lib.hid hc1
  have keep : ∀ W : World, Below (w.heap.size + 1) w1 W → (W.cell? ⟨w.heap.size, 0, none⟩ = some (.int .i64 (z : Int)) ∧ W.cell? ⟨w.heap.size, 1, none⟩ = some (.slice A2 l2.length c2)) ∧ Sees W w.heap.size A l ∧ Sees W w.heap.size A2 l2 ∧ TabAt W 0 := fun W hb => by
    have hbw : Below w.heap.size w W := HB1.out.trans (hb.mono (by omega))
    refine ⟨⟨(hb.cell (p := ⟨w.heap.size, 0, none⟩) (by show w.heap.size < _; omega)).trans HC0.out, (hb.cell (p := ⟨w.heap.size, 1, none⟩) (by show w.heap.size < _; omega)).trans HC1.out⟩, hs.below hbw (Nat.le_refl _), hs2.below hbw (Nat.le_refl _), HT.out.below hbw (Nat.le_refl _)⟩
  have KEEP := Lib.hid keep
  clear hb1 hc0 hc1 keep hs hs2
  go_enter Tryd.func25, Tryd.ntmps25
  go_wp2_with fail
  refine (HZ.out _).mono ?_
  rw [← Hw1.out]
  rintro e w2 ⟨rfl, hb2⟩
  rw [hz1s] at hb2
  have hz2s := hb2.size
  rw [hz1s] at hz2s
  obtain ⟨w3, hmk, hown3, hg3⟩ := run_make_own (P := Tryd.prog) (w := w2) 0 31 5 i0 (.int .u8 0) 1 Tryd.underlying31 HI.out hz0 hz1 .i64 .i64 (l.length + sz) (by rw [hz2']; omega) (by unfold maxLen; omega) (Nat.zero_le _)
  have hacc3 : Acc (w.heap.size + 1) w1 w3 (.slice (some ⟨w2.heap.size, 0, none⟩) 0 (l.length + sz)) [] := ⟨hown3, fun k hk => by
    have := mem_blk.1 hk
    simp [Value.ownBlock] at this; omega, hb2.trans ((Below.refl _ _).grown hg3 (by omega) (fun k hk => by cases hk)), by have := hg3.size; omega⟩
  rw [show ((l.length + sz : Nat) : Int) = (l.length : Int) + (sz : Int) by simp] at hmk
  obtain ⟨A4, c4, w4, L4, HL4, hap4, hacc4, h4a, h4b⟩ := hacc3.sees w.heap.size A l.length c l rfl (KEEP.out _ hacc3.below).2.1 (by simp; omega) 31
  have HAP4 := Lib.hid hap4
  have HL4n : Hid (L4.length = l.length) := Lib.hid (by rw [HL4.out]; rfl)
  obtain ⟨⟨k40, k41⟩, -⟩ := KEEP.out _ hacc4.below
  have HNUM5 := Lib.hid (hacc4.num l2.length 4 (by omega) (by have := HL4n.out; omega) _ _ rfl rfl)
  clear hown3 hg3 hap4 hacc3 hb2 hacc4
  go_wp2_with (at_builtin; refine wpList_append_run rfl _ _ 31 rfl _ _ _ rfl rfl _ _ (by exact HAP4.out) ?_)
  refine HNUM5.out.mono ?_
  rintro e w5 ⟨A5, c5, L5, HL5, rfl, hacc5, h5a, h5b⟩
  have HL5n : Hid (L5.length = l.length + 4) := Lib.hid (by rw [HL5.out, List.length_append, HL4n.out, Rc.big_length])
  clear HAP4 HNUM5 hmk k40 k41
  obtain ⟨⟨k50, k51⟩, -⟩ := KEEP.out _ hacc5.below
  have HNUM6 := Lib.hid (hacc5.num z 8 (by omega) (by have := HL5n.out; omega) _ _ rfl rfl)
  clear hacc5
  go_wp2_with fail
  refine HNUM6.out.mono ?_
  rintro e w6 ⟨A6, c6, L6, HL6, rfl, hacc6, h6a, h6b⟩
  have HL6n : Hid (L6.length = l.length + 12) := Lib.hid (by rw [HL6.out, List.length_append, HL5n.out, Rc.big_length])
  clear HNUM6 k50 k51
  obtain ⟨⟨k60, k61⟩, -, hs62, -⟩ := KEEP.out _ hacc6.below
  obtain ⟨A7, c7, w7, L7, HL7, hap7, hacc7, h7a, h7b⟩ := hacc6.sees w.heap.size A2 l2.length c2 l2 rfl hs62 (by have := HL6n.out; omega) 31
  have HAP7 := Lib.hid hap7
  have HL7e : Hid (L7 = l ++ Rc.hd z l2) := Lib.hid (by rw [HL7.out, HL6.out, HL5.out, HL4.out]; simp [Rc.hd])
  have HL7n : Hid (L7.length = l.length + 12 + l2.length) := Lib.hid (by rw [HL7.out, List.length_append, HL6n.out])
  have hsee7 := hacc7.row.sees
  obtain ⟨A8, hsl, hsee8⟩ := run_tail (P := Tryd.prog) Tryd.underlying31 (fun w => by exact Tryd.sizeOf5 w) hsee7 L7.length c7 l.length rfl (by have := HL7n.out; omega) h7a
  have e8 : L7.drop l.length = Rc.hd z l2 := by rw [HL7e.out, List.drop_append_of_le_length (Nat.le_refl _), List.drop_of_length_le (Nat.le_refl _), List.nil_append]
  rw [e8] at hsee8
  obtain ⟨n8, Hn8⟩ : ∃ n, Hid (n = L7.length - l.length) := ⟨_, Lib.hid rfl⟩
  rw [← Hn8.out] at hsl
  have hn8 : n8 = (Rc.hd z l2).length := by rw [Hn8.out, HL7n.out, Rc.hd_length]; omega
  obtain ⟨q, Hq⟩ : ∃ q : Nat, Hid (q = Rc.sum (Rc.hd z l2)) := ⟨_, Lib.hid rfl⟩
  have hcrc := crcOf_any (some ⟨w7.heap.size, 0, none⟩) 1 1 [Rc.hd z l2] _ _ rfl (by decide) (by decide) (grid_one w7 31 A8 n8 (c7 - l.length) _ hn8 (by have := HL7n.out; have := Hn8.out; omega) (by omega) hsee8 _ rfl) (((KEEP.out _ hacc7.below).2.2.2).alloc _)
  rw [show ([Rc.hd z l2] : List (List UInt8)).flatten = Rc.hd z l2 by simp, show (Crc.add 0#32 (Rc.hd z l2)).toNat = q from Hq.out.symm] at hcrc
  have HCRC := Lib.hid hcrc
  have hq : q < 4294967296 := by rw [Hq.out]; exact Rc.sum_lt _
  have HNUM9 := Lib.hid ((hacc7.alloc (.cells #[.slice A8 n8 (c7 - l.length)] 31)).num q 4 (by omega) (by have := HL7n.out; omega) _ _ rfl rfl)
  clear hap7 hacc6 hacc7 hsee7 hsee8 e8 hcrc hn8 hs62
  go_wp2_with (at_builtin; refine wpList_append_run rfl _ _ 31 rfl _ _ _ rfl rfl _ _ (by exact HAP7.out) ?_)
  refine HCRC.out.mono ?_
  rintro e w9 ⟨rfl, rfl⟩
  clear HCRC HAP7 hsl k60 k61
  go_wp2_with fail
  refine HNUM9.out.mono ?_
  rintro e w9 ⟨A9, c9, L9, HL9, rfl, hacc9, h9a, h9b⟩
  have key : Hid (L9 = l ++ Rc.enc z l2) := Lib.hid (by rw [HL9.out, HL7e.out, Hq.out]; simp [Rc.enc])
  have hb := HB1.out.trans (hacc9.below.mono (by omega))
  have KEY := Lib.hid (show w9.ownsRow w.heap.size 5 1 (.slice A9 L9.length c9) L9.length (bv L9) ∧ Below w.heap.size w w9 from ⟨own_raise hacc9.row (fun k hk => by have := hacc9.high k hk; omega), hb⟩)
  clear HNUM9 hacc9 hb
  go_wp2
  go_ret2
  exact ⟨A9, c9, L9, key, rfl, KEY.out.1, KEY.out.2, h9a, h9b⟩
end Go.Proofs.YtambddncncaehaaDoor
