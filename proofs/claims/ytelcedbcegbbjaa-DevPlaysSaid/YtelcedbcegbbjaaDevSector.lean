/- The statements' sector of one byte. -/
import Derived.Test.YtelcedbcegbbjaaDevNew
namespace Go.Proofs.Ytelcedbcegbbjaa
open Go.RowKit Dk
set_option linter.unusedVariables false

/-- 512 bytes of one's own, the first k are c. -/
def Fills (w : World) (N k : Nat) (c : UInt8) : Prop := N < w.heap.size ∧ ∀ j, j < 512 → ∃ z : Int, w.cell? ⟨N, j, none⟩ = some (.int .u8 z) ∧ w.frozen? ⟨N, j, none⟩ = false ∧ (j < k → z = (c.toNat : Int))
theorem Fills.store {w : World} {N k : Nat} {c : UInt8} (h : Fills w N k c) (hk : k < 512) : Fills (w.setCell ⟨N, k, none⟩ (.int .u8 (c.toNat : Int))) N (k + 1) c :=
  ⟨by simpa [World.setCell] using h.1, fun j hj => by
    obtain ⟨zk, hck, hfk, _⟩ := h.2 k hk
    obtain ⟨z, hc, hf, hz⟩ := h.2 j hj
    by_cases e : j = k
    · subst e
      exact ⟨_, World.cell?_setCell_same _ _ _ hc, (World.frozen?_setCell _ _ _ _).trans hf, fun _ => rfl⟩
    · exact ⟨z, (World.cell?_setCell_other _ _ _ _ (fun h => e (by injection h with _ h2 _; omega))).trans hc, (World.frozen?_setCell _ _ _ _).trans hf, fun hj => hz (by omega)⟩⟩
theorem Fills.sees {w : World} {N : Nat} {c : UInt8} (h : Fills w N 512 c) : Sees w (N + 1) (some ⟨N, 0, none⟩) (secOf c) := fun _ =>
  ⟨N, 0, rfl, by omega, fun j hj => by
    obtain ⟨z, hc, _, hz⟩ := h.2 j (by rw [secOf_length] at hj; exact hj)
    rw [Nat.zero_add, hc, secOf_at, hz (by rw [secOf_length] at hj; exact hj)]⟩

def SectorEnd (c : UInt8) (w : World) (e : Ending) (w' : World) : Prop :=
  e = .returned (.slice (some ⟨w.heap.size, 0, none⟩) 512 512) ∧ Sees w' (w.heap.size + 1) (some ⟨w.heap.size, 0, none⟩) (secOf c) ∧ w.heap.size < w'.heap.size ∧ Below w.heap.size w w'
theorem sector_any (c : UInt8) (w : World) : Calls Try.prog 11 #[.int .u8 (c.toNat : Int)] w (SectorEnd c w) := by
  obtain ⟨i0, hi, hz0, hz1, hz2⟩ := info_parts Try.infoByte
  obtain ⟨w2, hmk, hown2, hg2⟩ := run_make_full (P := Try.prog) (w := w) 0 28 5 i0 _ 1 Try.underlying28 hi hz0 hz1 .i64 .i64 512 (by rw [hz2]; decide) (by decide) (Nat.zero_le _)
  rw [show (Value.int .u8 0).cells = #[Value.int .u8 0] from rfl] at hown2
  rw [toList_madeCells_one, Nat.mul_one] at hown2
  rw [show ((512 : Nat) : Int) = 512 from rfl] at hmk
  have hb2 : Below w.heap.size w w2 := (Below.refl _ _).grown hg2 (Nat.le_refl _) (fun k hk => by cases hk)
  have hf0 : Fills w2 w.heap.size 0 c := ⟨(hown2.lt w.heap.size rfl).2, fun j hj => ⟨0, by rw [hown2.cellAt j (by omega), List.getElem?_replicate, if_pos hj], hown2.frozenAt j, fun h => by omega⟩⟩
  obtain ⟨N, HN⟩ : ∃ N, Hid (N = w.heap.size) := ⟨_, Lib.hid rfl⟩
  unfold SectorEnd
  rw [← HN.out] at hmk hf0 hb2 ⊢
  obtain ⟨z, HZ⟩ : ∃ z : Int, Hid (z = (c.toNat : Int)) := ⟨_, Lib.hid rfl⟩
  rw [← HZ.out]
  have HF := Lib.hid hf0
  have HB := Lib.hid hb2
  obtain ⟨w0, rfl⟩ : ∃ w0, w0 = w := ⟨_, rfl⟩
  clear hown2 hg2 hi hz0 hz1 hz2 hf0 hb2
  go_enter Try.func11, Try.ntmps11
  go_wp2
  go_loopw [4] (fun i wr => ∃ k : Nat, k ≤ 512 ∧ i = .int .i64 k ∧ Fills wr N k c ∧ Below N w0 wr) (fun i _ => 512 - (intOf i).toNat)
  case atStart => exact ⟨0, Nat.zero_le _, rfl, HF.out, HB.out⟩
  case round =>
    clear HF HB hmk
    obtain ⟨k, hk, rfl, hf, hb⟩ := hrel
    by_cases hlt : k < 512
    · obtain ⟨zk, hck, hfk, -⟩ := hf.2 k hlt
      have hltI : (k : Int) < 512 := by omega
      have HF := Lib.hid hf
      have HB := Lib.hid hb
      clear hf hb
      go_wp2
      go_roundw
      case rel => exact ⟨k + 1, by omega, by go_num, by rw [HZ.out]; exact HF.out.store hlt, HB.out.setCell (Nat.le_refl _) _⟩
      case measure => simp [intOf]; omega
    · have hkn : k = 512 := by omega
      subst hkn
      have HF := Lib.hid hf
      clear hf hlt
      go_wp2
      go_ret
      exact ⟨rfl, HF.out.sees, HF.out.1, hb⟩
end Go.Proofs.Ytelcedbcegbbjaa
