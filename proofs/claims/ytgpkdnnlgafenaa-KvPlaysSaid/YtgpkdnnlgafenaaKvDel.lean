/- slices.Delete of one pair, of one block. -/
import Derived.Test.YtgpkdnnlgafenaaKvIns
namespace Go.Proofs.Ytgpkdnnlgafenaa
open Go.RowKit Kv
set_option linter.unusedVariables false
set_option linter.unusedSimpArgs false

theorem Try.infoBl : (Try.prog.info? 37).map (fun i => (i.zero, i.size, i.bytes)) = some (some (.slice none 0 0), 1, 24) := by kernel_rfl

set_option maxHeartbeats 1600000 in
set_option maxRecDepth 100000 in
theorem delete_any (g n c i : Nat) (xs : List Value) (w : World) (hown : w.ownsRow 0 63 2 (.slice (some ⟨g, 0, none⟩) n c) n xs) (hx : ∀ u ∈ xs, u.oneCell' = true) (hn : n ≤ 1000000) (hi : i < n) (ys : List Value) (hys : ys = xs.take (i * 2) ++ xs.drop ((i + 1) * 2)) :
    Calls Try.prog 41 #[.slice (some ⟨g, 0, none⟩) n c, .int .i64 (i : Int), .int .i64 ((i : Int) + 1)] w fun e w' => e = .returned (.slice (some ⟨g, 0, none⟩) (n - 1) c) ∧ w'.ownsRow 0 63 2 (.slice (some ⟨g, 0, none⟩) (n - 1) c) (n - 1) ys ∧ Only [g] w w' := by
  obtain ⟨i0, hi0, hz0, hz1, hz2⟩ := info_parts Try.infoPr
  obtain ⟨C, hg, hnc, hcm, hCs, hCt⟩ := own_block hown
  have hxl : xs.length = n * 2 := hown.1
  have hcells := hown.cells (g := g) rfl
  have hdl : (xs.drop ((i + 1) * 2)).length = (n - (i + 1)) * 2 := by rw [List.length_drop, hxl]; omega
  obtain ⟨A0, hsl0⟩ := run_slice_3 (P := Try.prog) Try.underlying37 Try.sizeOf63 (some ⟨g, 0, none⟩) n c i (i + 1) n (by omega) (by omega) hnc ((i : Int) + 1) (n : Int) (by omega) rfl
  have hsl1 := run_slice_hi (P := Try.prog) Try.underlying37 Try.sizeOf63 g n c i (by omega) _ rfl
  obtain ⟨o, hsl2, ho⟩ := run_slice_lo_some (P := Try.prog) Try.underlying37 Try.sizeOf63 g n c (i + 1) (by omega) ((i : Int) + 1) (by omega)
  obtain ⟨R1, HR1⟩ : ∃ R1 : Array Value, Hid (R1 = (C.toList.take (i * 2) ++ xs.drop ((i + 1) * 2) ++ C.toList.drop (i * 2 + (xs.drop ((i + 1) * 2)).length)).toArray) := ⟨_, Lib.hid rfl⟩
  have hap : ∀ W : World, W.heap = w.heap → (Builtin.append_ #[37, 37] 37 #[.slice (some ⟨g, 0, none⟩) i c, .slice (some ⟨g, o, none⟩) (n - (i + 1)) (c - (i + 1))]).run Try.prog W = .ok (.slice (some ⟨g, 0, none⟩) (n - 1) c) (W.setRow g R1) := fun W hW => by
    have h := run_append_room (P := Try.prog) (w := W) (ty := 37) 37 63 i0 Try.underlying37 hi0 g i c C (by rw [hW]; exact hg) ⟨g, o, none⟩ (n - (i + 1)) (c - (i + 1)) (xs.drop ((i + 1) * 2)) (by rw [hz1]; exact hdl) (fun j v hj => ?_) (fun u hu => hx u (List.mem_of_mem_drop hu)) (by omega) (by rw [hz1, hdl]; omega)
    · rw [hz1, show i + (n - (i + 1)) = n - 1 by omega, ← HR1.out] at h
      exact h
    · have hjl : j < (n - (i + 1)) * 2 := by
        have := (List.getElem?_eq_some_iff.1 hj).1
        rwa [hdl] at this
      obtain rfl := ho (by omega)
      rw [List.getElem?_drop] at hj
      have := hcells ((i + 1) * 2 + j) v hj
      rw [add_to] at this ⊢
      rw [Nat.zero_add] at this
      rw [World.cell?_of_block (w := w) (by rw [hW])]
      exact this
  have hR1s : R1.size = c * 2 := by
    rw [HR1.out]
    simp only [List.size_toArray, List.length_append, List.length_take, List.length_drop, Array.length_toList, hCs, hdl, hxl]
    omega
  have hR1t : R1.toList.take ((n - 1) * 2) = ys := by
    have e1 : C.toList.take (i * 2) = xs.take (i * 2) := by
      have hxs : C.toList.take (n * 2) = xs := hCt
      rw [← hxs, List.take_take, Nat.min_eq_left (by omega)]
    have hl : (xs.take (i * 2) ++ xs.drop ((i + 1) * 2)).length = (n - 1) * 2 := by
      simp only [List.length_append, List.length_take, hdl, hxl]; omega
    rw [HR1.out, hys, List.toList_toArray, e1, List.take_append_of_le_length (by omega), List.take_of_length_le (by omega)]
  have hsl3 := run_slice_lh2 (P := Try.prog) Try.underlying37 Try.sizeOf63 g (n - 1) c (n - 1) n (by omega) hnc (by omega) ((n - 1 : Nat) : Int) (n : Int) rfl rfl
  rw [show n - (n - 1) = 1 by omega, show c - (n - 1) = c - n + 1 by omega] at hsl3
  have hclr : ∀ W : World, W.heap[g]? = some (.cells R1 63 (0, 0)) → ∃ R2, R2.size = c * 2 ∧ R2.toList.take ((n - 1) * 2) = ys ∧ (Builtin.clear_ #[37] 0 #[.slice (some ⟨g, (n - 1) * 2, none⟩) 1 (c - n + 1)]).run Try.prog W = .ok (.tuple #[]) (W.setRow g R2) := fun W hW => by
    refine ⟨_, ?_, ?_, run_clear_rowK (P := Try.prog) W 37 63 0 (.agg #[.string ByteArray.empty, .slice none 0 0]) 2 g ((n - 1) * 2) 1 (c - n + 1) R1 63 Try.underlying37 (Try.zeroValue63) rfl (by intro u hu; simp [Value.cells] at hu; rcases hu with rfl | rfl <;> rfl) (by decide) hW (by rw [hR1s]; omega)⟩
    · simp only [List.size_toArray, List.length_append, List.length_take, List.length_drop, Array.length_toList, hR1s, size_zeroCells]
      have e2 : (.agg #[.string ByteArray.empty, .slice none 0 0] : Value).cells.size = 2 := rfl
      rw [e2]; omega
    · rw [List.toList_toArray, List.append_assoc, List.take_append_of_le_length (by rw [List.length_take, Array.length_toList]; omega), List.take_take, Nat.min_self, hR1t]
  have hyl : ys.length = (n - 1) * 2 := by rw [← hR1t, List.length_take, Array.length_toList, hR1s]; omega
  have fin : ∀ W : World, W.heap = w.heap → W.os = w.os → W.tape = w.tape → W.output = w.output → ((W.setRow g R1).heap[g]? = some (.cells R1 63 (0, 0)) ∧ ∀ R2 : Array Value, R2.size = c * 2 → R2.toList.take ((n - 1) * 2) = ys → (((W.setRow g R1).setRow g R2).ownsRow 0 63 2 (.slice (some ⟨g, 0, none⟩) (n - 1) c) (n - 1) ys ∧ Only [g] w ((W.setRow g R1).setRow g R2))) := fun W e1 e2 e3 e4 => by
    have h1 : (W.setRow g R1).heap[g]? = some (.cells R1 63 (0, 0)) := setRow_heap W g C R1 _ _ (by rw [e1]; exact hg)
    refine ⟨h1, fun R2 h2 h3 => ⟨⟨hyl, .inr ⟨g, c, R2, rfl, Nat.zero_le _, setRow_heap _ g R1 R2 _ _ h1, by omega, hcm, h2, h3⟩⟩, ?_⟩⟩
    have ho1 : Only [g] w W := ⟨e2, e3, e4, by rw [e1]; exact Nat.le_refl _, fun b _ _ => by rw [e1]⟩
    exact (ho1.setRow (g := g) (.inl (by simp)) _).setRow (g := g) (.inl (by simp)) _
  have FIN := Lib.hid fin
  have HAP := Lib.hid hap
  have HCL := Lib.hid hclr
  have hc63 : (c : Int) ≤ 9223372036854775807 := by unfold maxLen at hcm; omega
  have hcn : (n : Int) ≤ (c : Int) := by omega
  have hin : (i : Int) < (n : Int) := by omega
  have hine : ((i : Int) == (i : Int) + 1) = false := by simp; omega
  clear fin hap hclr hR1s hR1t hcells hown hx hg hCs hCt hxl hcm hdl hys hyl ho hi0 hz0 hz1 hz2
  have HSL3 := Lib.hid hsl3
  clear hsl3
  go_enter Try.func41, Try.ntmps41
  go_wp2_with fail
  go_still_tail 6, (by kernel_rfl)
  generalize hW : ({ heap := w.heap, tape := w.tape, drawn := w.drawn + 1, os := w.os, output := w.output } : World) = W
  have HAPW := Lib.hid (HAP.out W (by rw [← hW]))
  obtain ⟨f1, f2⟩ := FIN.out W (by rw [← hW]) (by rw [← hW]) (by rw [← hW]) (by rw [← hW])
  obtain ⟨R2, r1, r2, r3⟩ := HCL.out (W.setRow g R1) f1
  have HF := Lib.hid (f2 R2 r1 r2)
  clear hW f1 f2 r1 r2
  have hsl3 := HSL3.out
  go_wp2_with (at_builtin; refine wpList_append_run rfl _ _ 37 rfl _ _ _ rfl rfl _ _ (by exact HAPW.out) ?_)
  go_ret
  exact ⟨rfl, HF.out.1, HF.out.2⟩

set_option maxHeartbeats 1600000 in
set_option maxRecDepth 100000 in
theorem deleteB_any (g n c i : Nat) (xs : List Value) (w : World) (hown : w.ownsRow 0 37 1 (.slice (some ⟨g, 0, none⟩) n c) n xs) (hx : ∀ u ∈ xs, u.oneCell' = true) (hn : n ≤ 1000000) (hi : i < n) (ys : List Value) (hys : ys = xs.take (i * 1) ++ xs.drop ((i + 1) * 1)) :
    Calls Try.prog 42 #[.slice (some ⟨g, 0, none⟩) n c, .int .i64 (i : Int), .int .i64 ((i : Int) + 1)] w fun e w' => e = .returned (.slice (some ⟨g, 0, none⟩) (n - 1) c) ∧ w'.ownsRow 0 37 1 (.slice (some ⟨g, 0, none⟩) (n - 1) c) (n - 1) ys ∧ Only [g] w w' := by
  obtain ⟨i0, hi0, hz0, hz1, hz2⟩ := info_parts Try.infoBl
  obtain ⟨C, hg, hnc, hcm, hCs, hCt⟩ := own_block hown
  have hxl : xs.length = n * 1 := hown.1
  have hcells := hown.cells (g := g) rfl
  have hdl : (xs.drop ((i + 1) * 1)).length = (n - (i + 1)) * 1 := by rw [List.length_drop, hxl]; omega
  obtain ⟨A0, hsl0⟩ := run_slice_3 (P := Try.prog) Try.underlying65 Try.sizeOf37 (some ⟨g, 0, none⟩) n c i (i + 1) n (by omega) (by omega) hnc ((i : Int) + 1) (n : Int) (by omega) rfl
  have hsl1 := run_slice_hi (P := Try.prog) Try.underlying65 Try.sizeOf37 g n c i (by omega) _ rfl
  obtain ⟨o, hsl2, ho⟩ := run_slice_lo_some (P := Try.prog) Try.underlying65 Try.sizeOf37 g n c (i + 1) (by omega) ((i : Int) + 1) (by omega)
  obtain ⟨R1, HR1⟩ : ∃ R1 : Array Value, Hid (R1 = (C.toList.take (i * 1) ++ xs.drop ((i + 1) * 1) ++ C.toList.drop (i * 1 + (xs.drop ((i + 1) * 1)).length)).toArray) := ⟨_, Lib.hid rfl⟩
  have hap : ∀ W : World, W.heap = w.heap → (Builtin.append_ #[65, 65] 65 #[.slice (some ⟨g, 0, none⟩) i c, .slice (some ⟨g, o, none⟩) (n - (i + 1)) (c - (i + 1))]).run Try.prog W = .ok (.slice (some ⟨g, 0, none⟩) (n - 1) c) (W.setRow g R1) := fun W hW => by
    have h := run_append_room (P := Try.prog) (w := W) (ty := 65) 65 37 i0 Try.underlying65 hi0 g i c C (by rw [hW]; exact hg) ⟨g, o, none⟩ (n - (i + 1)) (c - (i + 1)) (xs.drop ((i + 1) * 1)) (by rw [hz1]; exact hdl) (fun j v hj => ?_) (fun u hu => hx u (List.mem_of_mem_drop hu)) (by omega) (by rw [hz1, hdl]; omega)
    · rw [hz1, show i + (n - (i + 1)) = n - 1 by omega, ← HR1.out] at h
      exact h
    · have hjl : j < (n - (i + 1)) * 1 := by
        have := (List.getElem?_eq_some_iff.1 hj).1
        rwa [hdl] at this
      obtain rfl := ho (by omega)
      rw [List.getElem?_drop] at hj
      have := hcells ((i + 1) * 1 + j) v hj
      rw [add_to] at this ⊢
      rw [Nat.zero_add] at this
      rw [World.cell?_of_block (w := w) (by rw [hW])]
      exact this
  have hR1s : R1.size = c * 1 := by
    rw [HR1.out]
    simp only [List.size_toArray, List.length_append, List.length_take, List.length_drop, Array.length_toList, hCs, hdl, hxl]
    omega
  have hR1t : R1.toList.take ((n - 1) * 1) = ys := by
    have e1 : C.toList.take (i * 1) = xs.take (i * 1) := by
      have hxs : C.toList.take (n * 1) = xs := hCt
      rw [← hxs, List.take_take, Nat.min_eq_left (by omega)]
    have hl : (xs.take (i * 1) ++ xs.drop ((i + 1) * 1)).length = (n - 1) * 1 := by
      simp only [List.length_append, List.length_take, hdl, hxl]; omega
    rw [HR1.out, hys, List.toList_toArray, e1, List.take_append_of_le_length (by omega), List.take_of_length_le (by omega)]
  have hsl3 := run_slice_lh2 (P := Try.prog) Try.underlying65 Try.sizeOf37 g (n - 1) c (n - 1) n (by omega) hnc (by omega) ((n - 1 : Nat) : Int) (n : Int) rfl rfl
  rw [show n - (n - 1) = 1 by omega, show c - (n - 1) = c - n + 1 by omega] at hsl3
  have hclr : ∀ W : World, W.heap[g]? = some (.cells R1 37 (0, 0)) → ∃ R2, R2.size = c * 1 ∧ R2.toList.take ((n - 1) * 1) = ys ∧ (Builtin.clear_ #[65] 0 #[.slice (some ⟨g, (n - 1) * 1, none⟩) 1 (c - n + 1)]).run Try.prog W = .ok (.tuple #[]) (W.setRow g R2) := fun W hW => by
    refine ⟨_, ?_, ?_, run_clear_rowK (P := Try.prog) W 65 37 0 (.slice none 0 0) 1 g ((n - 1) * 1) 1 (c - n + 1) R1 37 Try.underlying65 (Try.zeroValue37) rfl (by intro u hu; simp [Value.cells] at hu; subst hu; rfl) (by decide) hW (by rw [hR1s]; omega)⟩
    · simp only [List.size_toArray, List.length_append, List.length_take, List.length_drop, Array.length_toList, hR1s, size_zeroCells]
      have e2 : (.slice none 0 0 : Value).cells.size = 1 := rfl
      rw [e2]; omega
    · rw [List.toList_toArray, List.append_assoc, List.take_append_of_le_length (by rw [List.length_take, Array.length_toList]; omega), List.take_take, Nat.min_self, hR1t]
  have hyl : ys.length = (n - 1) * 1 := by rw [← hR1t, List.length_take, Array.length_toList, hR1s]; omega
  have fin : ∀ W : World, W.heap = w.heap → W.os = w.os → W.tape = w.tape → W.output = w.output → ((W.setRow g R1).heap[g]? = some (.cells R1 37 (0, 0)) ∧ ∀ R2 : Array Value, R2.size = c * 1 → R2.toList.take ((n - 1) * 1) = ys → (((W.setRow g R1).setRow g R2).ownsRow 0 37 1 (.slice (some ⟨g, 0, none⟩) (n - 1) c) (n - 1) ys ∧ Only [g] w ((W.setRow g R1).setRow g R2))) := fun W e1 e2 e3 e4 => by
    have h1 : (W.setRow g R1).heap[g]? = some (.cells R1 37 (0, 0)) := setRow_heap W g C R1 _ _ (by rw [e1]; exact hg)
    refine ⟨h1, fun R2 h2 h3 => ⟨⟨hyl, .inr ⟨g, c, R2, rfl, Nat.zero_le _, setRow_heap _ g R1 R2 _ _ h1, by omega, hcm, h2, h3⟩⟩, ?_⟩⟩
    have ho1 : Only [g] w W := ⟨e2, e3, e4, by rw [e1]; exact Nat.le_refl _, fun b _ _ => by rw [e1]⟩
    exact (ho1.setRow (g := g) (.inl (by simp)) _).setRow (g := g) (.inl (by simp)) _
  have FIN := Lib.hid fin
  have HAP := Lib.hid hap
  have HCL := Lib.hid hclr
  have hc63 : (c : Int) ≤ 9223372036854775807 := by unfold maxLen at hcm; omega
  have hcn : (n : Int) ≤ (c : Int) := by omega
  have hin : (i : Int) < (n : Int) := by omega
  have hine : ((i : Int) == (i : Int) + 1) = false := by simp; omega
  clear fin hap hclr hR1s hR1t hcells hown hx hg hCs hCt hxl hcm hdl hys hyl ho hi0 hz0 hz1 hz2
  have HSL3 := Lib.hid hsl3
  clear hsl3
  go_enter Try.func42, Try.ntmps42
  go_wp2_with fail
  go_still_tail 6, (by kernel_rfl)
  generalize hW : ({ heap := w.heap, tape := w.tape, drawn := w.drawn + 1, os := w.os, output := w.output } : World) = W
  have HAPW := Lib.hid (HAP.out W (by rw [← hW]))
  obtain ⟨f1, f2⟩ := FIN.out W (by rw [← hW]) (by rw [← hW]) (by rw [← hW]) (by rw [← hW])
  obtain ⟨R2, r1, r2, r3⟩ := HCL.out (W.setRow g R1) f1
  have HF := Lib.hid (f2 R2 r1 r2)
  clear hW f1 f2 r1 r2
  have hsl3 := HSL3.out
  simp only [Nat.mul_one] at hsl3 r3
  go_wp2_with (at_builtin; refine wpList_append_run rfl _ _ 65 rfl _ _ _ rfl rfl _ _ (by exact HAPW.out) ?_)
  go_ret
  exact ⟨rfl, HF.out.1, HF.out.2⟩
end Go.Proofs.Ytgpkdnnlgafenaa
