/- The walk of RecTurned. -/
import Derived.Test.YtdnbbnjmdddfdaaDoorRecAwake
import Derived.Test.YtdnbbnjmdddfdaaDoorCrcRow8
namespace Go.Proofs.YtdnbbnjmdddfdaaDoor
open Go.RowKit
set_option linter.unusedVariables false

theorem bits_flip (b : UInt8) (m : Nat) (hm : m < 8) : bits .xor .u8 (b.toNat : Int) (2 ^ m % 256) = ((b ^^^ Crc.bit m).toNat : Int) := by
  have h1 := b.toNat_lt
  have e : ∀ i : Fin 8, ((2 : Int) ^ i.val % 256) = (((Crc.bit i.val).toNat : Nat) : Int) := by decide
  rw [e ⟨m, hm⟩, u8_xor_nat _ _ h1 (Crc.bit m).toNat_lt, UInt8.toNat_xor]
/-- The box that a record's parameter is moved to. -/
structure Boxed (w w1 : World) (z : Int) (A : Option Addr) (n c : Nat) : Prop where
  c0 : w1.cell? ⟨w.heap.size, 0, none⟩ = some (.int .i64 z)
  c1 : w1.cell? ⟨w.heap.size, 1, none⟩ = some (.slice A n c)
  size : w1.heap.size = w.heap.size + 1
  below : Below w.heap.size w w1
theorem Boxed.start (w : World) (z : Int) (A : Option Addr) (n c : Nat) : Boxed w (w.alloc (.cells #[.int .i64 z, .slice A n c] 28)) z A n c :=
  ⟨by rw [World.cell?_alloc_at _ _ _ _ rfl]; rfl, by rw [World.cell?_alloc_at _ _ _ _ rfl]; rfl, by simp, (Below.refl _ _).alloc (Nat.le_refl _) _⟩
theorem Boxed.later {w w1 W : World} {z : Int} {A : Option Addr} {n c : Nat} (h : Boxed w w1 z A n c) (hb : Below w1.heap.size w1 W) :
    W.cell? ⟨w.heap.size, 0, none⟩ = some (.int .i64 z) ∧ W.cell? ⟨w.heap.size, 1, none⟩ = some (.slice A n c) ∧ Below w.heap.size w W := by
  have := h.size
  exact ⟨(hb.cell (p := ⟨w.heap.size, 0, none⟩) (by show w.heap.size < _; omega)).trans h.c0, (hb.cell (p := ⟨w.heap.size, 1, none⟩) (by show w.heap.size < _; omega)).trans h.c1, h.below.trans (hb.mono (by omega))⟩

set_option maxHeartbeats 1600000 in
set_option maxRecDepth 100000 in
theorem recTurned_walk (z : Int) (A0 : Option Addr) (n0 c0 : Nat) (l0 : List UInt8) (e0 : n0 = l0.length) (h0 : n0 ≤ c0) (_m0 : c0 ≤ maxLen) (hz : -9223372036854775808 ≤ z ∧ z ≤ 9223372036854775807) (at_ : Int) (hat : (Lit.int .i64 at_).wf = true) (bit : Int) (hbit : (Lit.int .i64 bit).wf = true) (w : World)
    (s0 : Sees w w.heap.size A0 l0) (ht : Lib.TabIs Tryd.prog w "franking/crc.halfByte" .u32 crcTab) :
    Calls Tryd.prog 6 #[.agg #[.int .i64 z, .slice A0 n0 c0], .int .i64 at_, .int .i64 bit] w fun e w' => e = .returned (.bool true) ∧ Below w.heap.size w w' := by
  subst e0
  have HT := Lib.hid (tabAt ht)
  clear ht
  unfold maxLen at _m0
  obtain ⟨w1, Hw1⟩ : ∃ w1, Hid (w1 = w.alloc (.cells #[.int .i64 z, .slice A0 l0.length c0] 28)) := ⟨_, Lib.hid rfl⟩
  have HBX : Hid (Boxed w w1 z A0 l0.length c0) := Lib.hid (by rw [Hw1.out]; exact Boxed.start w z A0 l0.length c0)
  have HAW := Lib.hid (recAwake_any w1 (HT.out.below HBX.out.below (Nat.le_refl _)))
  by_cases q0 : z < 1
  · go_enter Tryd.func6, Tryd.ntmps6
    go_wp2_with fail
    rw [← Hw1.out]
    refine HAW.out.mono ?_
    rintro e w2 ⟨rfl, hb2⟩
    obtain ⟨k0, k1, kb⟩ := HBX.out.later hb2
    have KB := Lib.hid kb
    clear hb2 kb
    go_wp2
    go_ret
    exact ⟨rfl, KB.out⟩
  by_cases q1 : (100 : Int) < l0.length
  · go_enter Tryd.func6, Tryd.ntmps6
    go_wp2_with fail
    rw [← Hw1.out]
    refine HAW.out.mono ?_
    rintro e w2 ⟨rfl, hb2⟩
    obtain ⟨k0, k1, kb⟩ := HBX.out.later hb2
    have KB := Lib.hid kb
    clear hb2 kb
    go_wp2
    go_ret
    exact ⟨rfl, KB.out⟩
  by_cases q2 : at_ < 4
  · go_enter Tryd.func6, Tryd.ntmps6
    go_wp2_with fail
    rw [← Hw1.out]
    refine HAW.out.mono ?_
    rintro e w2 ⟨rfl, hb2⟩
    obtain ⟨k0, k1, kb⟩ := HBX.out.later hb2
    have KB := Lib.hid kb
    clear hb2 kb
    go_wp2
    go_ret
    exact ⟨rfl, KB.out⟩
  by_cases q3 : bit < 0
  · go_enter Tryd.func6, Tryd.ntmps6
    go_wp2_with fail
    rw [← Hw1.out]
    refine HAW.out.mono ?_
    rintro e w2 ⟨rfl, hb2⟩
    obtain ⟨k0, k1, kb⟩ := HBX.out.later hb2
    have KB := Lib.hid kb
    clear hb2 kb
    go_wp2
    go_ret
    exact ⟨rfl, KB.out⟩
  by_cases q4 : 7 < bit
  · go_enter Tryd.func6, Tryd.ntmps6
    go_wp2_with fail
    rw [← Hw1.out]
    refine HAW.out.mono ?_
    rintro e w2 ⟨rfl, hb2⟩
    obtain ⟨k0, k1, kb⟩ := HBX.out.later hb2
    have KB := Lib.hid kb
    clear hb2 kb
    go_wp2
    go_ret
    exact ⟨rfl, KB.out⟩
  obtain ⟨y, rfl⟩ : ∃ y : Nat, z = (y : Int) := ⟨z.toNat, by omega⟩
  obtain ⟨j, rfl⟩ : ∃ j : Nat, at_ = (j : Int) := ⟨at_.toNat, by omega⟩
  obtain ⟨m, rfl⟩ : ∃ m : Nat, bit = (m : Int) := ⟨bit.toNat, by omega⟩
  have hl : l0.length ≤ 100 := by omega
  have hy1 : 1 ≤ y := by omega
  have hy2 : y ≤ 9223372036854775807 := by omega
  have hj4 : 4 ≤ j := by omega
  have hm7 : m ≤ 7 := by omega
  have hPUT : ∀ w2, Below w1.heap.size w1 w2 → _ := fun w2 hb2 => put_ok none 0 0 [] y A0 l0.length c0 l0 w2 rfl (Sees.nil _ _ _) rfl (s0.below (HBX.out.later hb2).2.2 (Nat.le_refl _) |>.mono (HBX.out.later hb2).2.2.size) hy1 hy2 (by omega) (by decide) (HT.out.below (HBX.out.later hb2).2.2 (Nat.le_refl _))
  have HPUT := Lib.hid hPUT
  have HS0 := Lib.hid s0
  clear hPUT s0
  go_enter Tryd.func6, Tryd.ntmps6
  go_wp2_with fail
  rw [← Hw1.out]
  refine HAW.out.mono ?_
  rintro e w2 ⟨rfl, hb2⟩
  obtain ⟨k0, k1, kb⟩ := HBX.out.later hb2
  have KB := Lib.hid kb
  have HB2 := Lib.hid hb2
  clear hb2 kb
  go_wp2_with fail
  refine (HPUT.out w2 HB2.out).mono ?_
  rintro e w3 ⟨A3, c3, L3, HL3, rfl, hown3, hb3, h3a, h3b⟩
  rw [List.nil_append] at HL3
  have hb03 := KB.out.trans (hb3.mono KB.out.size)
  clear HPUT k0 k1
  by_cases q5 : (L3.length : Int) ≤ j
  · have HB := Lib.hid hb03
    clear hown3 hb3 hb03
    go_wp2
    go_ret
    exact ⟨rfl, HB.out⟩
  have hj : j < L3.length := by omega
  obtain ⟨g, c', e3, hg1, hg2, hc3, hm3⟩ := own_form hown3 (by omega)
  injection e3 with e3 e3' e3''
  subst e3
  clear e3' e3''
  have hrow3 := Row8.of_own hown3
  obtain ⟨hcell, hfree⟩ := hrow3 j hj
  obtain ⟨b, Hb⟩ : ∃ b, Hid (b = L3[j]) := ⟨_, Lib.hid rfl⟩
  rw [← Hb.out] at hcell
  have hflip := bits_flip b m (by omega)
  obtain ⟨x, Hx⟩ : ∃ x, Hid (x = b ^^^ Crc.bit m) := ⟨_, Lib.hid rfl⟩
  rw [← Hx.out] at hflip
  have hb256 : b.toNat < 256 := b.toNat_lt
  obtain ⟨L4, HL4⟩ : ∃ L, Hid (L = L3.set j x) := ⟨_, Lib.hid rfl⟩
  obtain ⟨w4, Hw4⟩ : ∃ w4, Hid (w4 = w3.setCell ⟨g, j, none⟩ (.int .u8 (x.toNat : Int))) := ⟨_, Lib.hid rfl⟩
  have hrow4 : Row8 w4 g L4 := by rw [Hw4.out, HL4.out]; exact hrow3.store j hj _
  have hlen4 : L4.length = L3.length := by rw [HL4.out]; simp
  have hE4 : Rc.getE L4 = 3 := by
    have := Rc.get_turned y l0 (by omega) j m hj4 (by rw [← HL3.out]; exact hj) (by omega)
    rw [HL4.out, Hx.out, Hb.out]
    simp only [HL3.out]
    exact this
  have hw2 := KB.out.size
  have hb04 : Below w.heap.size w w4 := by rw [Hw4.out]; exact hb03.setCell (by show w.heap.size ≤ g; omega) _
  have hg4 : g < w4.heap.size := by rw [Hw4.out]; simpa [World.setCell] using hg2
  have hget := get_any (some ⟨g, 0, none⟩) L3.length c3 L4 w4 hlen4.symm h3a h3b (hrow4.sees.mono (by omega)) (HT.out.below hb04 (Nat.le_refl _))
  have HGET := Lib.hid hget
  have HE4 := Lib.hid hE4
  have HB4 := Lib.hid hb04
  clear hget hE4 hb04 hrow4 hrow3 hown3 hb3 hb03 hlen4
  go_wp2_with fail
  rw [← Hw4.out]
  refine HGET.out.mono ?_
  rintro e w5 (⟨hE, rfl, hb5⟩ | ⟨hE, _⟩)
  · rw [HE4.out, show ((3 : Nat) : Int) = 3 from rfl]
    have HB := Lib.hid ((HB4.out.trans (hb5.mono HB4.out.size)).alloc (Nat.le_trans HB4.out.size hb5.size) (.cells #[.int .i64 0, .slice none 0 0] 28))
    clear HGET hb5 hE
    go_wp2
    go_ret
    exact ⟨rfl, HB.out⟩
  · rw [HE4.out] at hE; cases hE
end Go.Proofs.YtdnbbnjmdddfdaaDoor
