/- What every statement of package rec asks first: a record of two letters. -/
import Derived.Test.YtdnbbnjmdddfdaaDoorRecScan
namespace Go.Proofs.YtdnbbnjmdddfdaaDoor
open Go.RowKit
set_option linter.unusedVariables false

theorem Tryd.infoB : (Tryd.prog.info? 5).map (fun i => (i.zero, i.size, i.bytes)) = some (some (.int .u8 0), 1, 1) := by kernel_rfl
theorem tabAt {w : World} (h : Lib.TabIs Tryd.prog w "franking/crc.halfByte" .u32 crcTab) : TabAt w 0 := fun i hi => by
  have hg : Tryd.prog.globalNamed "franking/crc.halfByte" = some 0 := by kernel_rfl
  have := h.cell hg i (by have e : crcTab.length = 16 := by decide
                          omega)
  rw [this]
  have e : ∀ i : Fin 16, crcTab.getD i.val 0 = ((Crc.tab.getD i.val 0 : Nat) : Int) := by decide
  rw [e ⟨i, hi⟩]
/-- Get, of the bytes that a record is at the head of. -/
theorem get_enc_any (A : Option Addr) (n c : Nat) (l : List UInt8) (z : Nat) (b t : List UInt8) (hl : l = Rc.enc z b ++ t) (w : World) (hn : n = l.length) (hnc : n ≤ c) (hcm : c ≤ maxLen) (hb : b.length ≤ 200000) (h1 : 1 ≤ z) (h2 : z ≤ 9223372036854775807) (hs : Sees w w.heap.size A l) (ht : TabAt w 0) :
    Calls Tryd.prog 12 #[.slice A n c] w fun e w' => ∃ A' c', e = .returned (.tuple #[.agg #[.int .i64 (z : Int), .slice A' b.length c'], .int .i64 ((b.length : Int) + 16), .int .i64 0]) ∧ Sees w' w'.heap.size A' b ∧ b.length ≤ c' ∧ c' ≤ maxLen ∧ Below w.heap.size w w' := by
  obtain ⟨g0, g1, g2, g3⟩ := Rc.get_enc z b t hb h1 h2
  rw [← hl] at g0 g1 g2 g3
  refine (get_any A n c l w hn hnc hcm hs ht).mono ?_
  rintro e w' (⟨hE, _⟩ | ⟨_, A', n', c', rfl, hn', ho, h3, h4, hb'⟩)
  · exact absurd g0 hE
  · rw [g3] at hn' ho
    subst hn'
    exact ⟨A', c', by rw [g2, g1], Sees.of_own ho, h3, h4, hb'⟩

theorem put_okZ (A : Option Addr) (n c : Nat) (l : List UInt8) (Z : Int) (z : Nat) (hZ : Z = (z : Int)) (A2 : Option Addr) (n2 c2 : Nat) (l2 : List UInt8) (w : World) (hn : n = l.length) (hs : Sees w w.heap.size A l) (hn2 : n2 = l2.length) (hs2 : Sees w w.heap.size A2 l2)
    (hz : 1 ≤ z) (hz2 : z ≤ 9223372036854775807) (h2 : l2.length ≤ 200000) (hl : l.length ≤ 140737488000000) (ht : TabAt w 0) :
    Calls Tryd.prog 11 #[.slice A n c, .agg #[.int .i64 Z, .slice A2 n2 c2]] w fun e w' => ∃ A' c' L, Hid (L = l ++ Rc.enc z l2) ∧ e = .returned (.tuple #[.slice A' L.length c', .int .i64 0]) ∧ w'.ownsRow w.heap.size 5 1 (.slice A' L.length c') L.length (bv L) ∧ Below w.heap.size w w' ∧ L.length ≤ c' ∧ c' ≤ maxLen := by
  subst hZ; exact put_ok A n c l z A2 n2 c2 l2 w hn hs hn2 hs2 hz hz2 h2 hl ht

set_option maxHeartbeats 1600000 in
set_option maxRecDepth 100000 in
theorem recAwake_any (w : World) (ht : TabAt w 0) : Calls Tryd.prog 10 #[] w fun e w' => e = .returned (.bool true) ∧ Below w.heap.size w w' := by
  have HT := Lib.hid ht
  clear ht
  have kc := fun (w : World) (C : Array Value) (n c : Nat) => Lib.run_convert_bytes_const (P := Tryd.prog) w 23 5 C n c Tryd.underlying23 Tryd.underlying5
  go_enter Tryd.func10, Tryd.ntmps10
  go_wp2_with fail
  refine (put_okZ none 0 0 [] 1 1 rfl _ 2 2 [97, 98] _ rfl (Sees.nil _ _ _) rfl ?s (by decide) (by decide) (by decide) (by decide) ?t).mono ?_
  case s => exact (sees_new_at w 5 _ _ [97, 98] rfl _ rfl).mono (by simp)
  case t => exact HT.out.alloc _
  rintro e w1 ⟨A1, c1, L1, HL1, rfl, hown1, hb1, h1a, h1b⟩
  have hL1 : L1.length = 18 := by rw [HL1.out]; decide
  have hb01 : Below w.heap.size w w1 := ((Below.refl _ _).alloc (Nat.le_refl _) _).trans (hb1.mono (by simp))
  have hs1 := Sees.of_own hown1
  have HGET := Lib.hid (get_enc_any A1 18 c1 L1 1 [97, 98] [] (by rw [HL1.out]; simp) w1 hL1.symm (by omega) h1b (by decide) (by decide) (by decide) hs1 (HT.out.below hb01 (Nat.le_refl _)))
  clear hs1 hown1 kc hb1
  go_wp2_with fail
  refine HGET.out.mono ?_
  rw [show (([97, 98] : List UInt8).length) = 2 from rfl, show ((2 : Nat) : Int) + 16 = 18 from rfl, show ((1 : Nat) : Int) = 1 from rfl]
  rintro e w2 ⟨A2, c2, rfl, hs2, h2a, h2b, hb2⟩
  clear HGET
  have hb02 : Below w.heap.size w w2 := hb01.trans (hb2.mono hb01.size)
  have hconv := run_sees_string (P := Tryd.prog) (w2.alloc (.cells #[.int .i64 1, .slice A2 2 c2] 28)) 23 9 5 Tryd.underlying23 Tryd.underlying5 Tryd.underlying9 (hs2.alloc (Nat.le_refl _) _) 2 c2 rfl
  have HB := Lib.hid (hb02.alloc hb02.size (.cells #[.int .i64 1, .slice A2 2 c2] 28))
  clear hs2 hb2 hb02 hb01
  go_wp2
  go_ret
  exact ⟨rfl, HB.out⟩
end Go.Proofs.YtdnbbnjmdddfdaaDoor
