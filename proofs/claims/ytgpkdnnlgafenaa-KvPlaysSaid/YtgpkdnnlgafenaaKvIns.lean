/- slices.Insert of one pair into a row of pairs of one's own: its three roads. -/
import Derived.Test.YtgpkdnnlgafenaaKvFnd
import Derived.Test.YtgpkdnnlgafenaaRowK
import Derived.StillTailTactics
namespace Go.Proofs.Ytgpkdnnlgafenaa
open Go.RowKit Kv
set_option linter.unusedVariables false
set_option linter.unusedSimpArgs false

theorem Try.infoPr : (Try.prog.info? 63).map (fun i => (i.zero, i.size, i.bytes)) = some (some (.agg #[.string ByteArray.empty, .slice none 0 0]), 2, 40) := by kernel_rfl
theorem Try.sizePr : (Try.prog.info? 63).map (·.size) = some 2 := by kernel_rfl
/-- A row that a call has made of the row v. -/
def InsEnd (v : Value) (N : Nat) (ys : List Value) (w : World) (e : Ending) (w' : World) : Prop :=
  ∃ v', e = .returned v' ∧ w'.ownsRow 0 63 2 v' N ys ∧ Only (blk v) w w' ∧ Grows (blk v) (blk v') w
theorem pair_lit {w : World} {vb : Nat} {u1 u2 : Value} {e : TypeId} (hv : w.heap[vb]? = some (.cells #[u1, u2] e (0, 0))) (j : Nat) (v : Value) (h : ([u1, u2] : List Value)[j]? = some v) : w.cell? ((⟨vb, 0, none⟩ : Addr).add j) = some v := by
  rw [add_at]
  simp only [World.cell?, hv]
  simpa [← Array.getElem?_toList] using h

set_option maxHeartbeats 800000 in
set_option maxRecDepth 100000 in
theorem insert_end (A : Option Addr) (n c : Nat) (xs : List Value) (w : World) (vb : Nat) (u1 u2 : Value) (hown : w.ownsRow 0 63 2 (.slice A n c) n xs) (hv : w.heap[vb]? = some (.cells #[u1, u2] 63 (0, 0)))
    (h1 : u1.oneCell' = true) (h2 : u2.oneCell' = true) (hn : n ≤ 1000000) :
    Calls Try.prog 43 #[.slice A n c, .int .i64 (n : Int), .slice (some ⟨vb, 0, none⟩) 1 1] w (InsEnd (.slice A n c) (n + 1) (xs ++ [u1, u2]) w) := by
  obtain ⟨i0, hi, hz0, hz1, hz2⟩ := info_parts Try.infoPr
  obtain ⟨A1, hsl, _⟩ := run_slice_lo (P := Try.prog) Try.underlying37 Try.sizeOf63 A n c n (Nat.le_refl _)
  obtain ⟨v', w', hap, k1, k2, k3⟩ := run_append_here (P := Try.prog) w 37 37 63 i0 _ 2 40 Try.underlying37 hi hz0 hz1 hz2 rfl (by decide) _ n xs hown ⟨vb, 0, none⟩ 1 1 [u1, u2] rfl (pair_lit hv) (by intro u hu; simp at hu; rcases hu with rfl | rfl <;> assumption) (by unfold maxLen; omega) (by omega)
  have HAP := Lib.hid hap
  have key : InsEnd (.slice A n c) (n + 1) (xs ++ [u1, u2]) w (.returned v') w' := ⟨v', rfl, k1, Only.of_grown k2 (fun k hk => mem_blk.2 hk), fun k hk => (k3 k (mem_blk.1 hk)).imp (fun h => mem_blk.2 h) id⟩
  have KEY := Lib.hid key
  clear hap k1 k2 k3 hown hv hi hz0 hz1 hz2 key
  go_enter Try.func43, Try.ntmps43
  go_wp2_with (at_builtin; refine wpList_append_run rfl _ _ 37 rfl _ _ _ rfl rfl _ _ (by exact HAP.out) ?_)
  go_ret
  exact KEY.out

set_option maxHeartbeats 1600000 in
set_option maxRecDepth 100000 in
theorem insert_grow (g n c i : Nat) (xs : List Value) (w : World) (vb : Nat) (u1 u2 : Value) (hown : w.ownsRow 0 63 2 (.slice (some ⟨g, 0, none⟩) n c) n xs) (hv : w.heap[vb]? = some (.cells #[u1, u2] 63 (0, 0)))
    (h1 : u1.oneCell' = true) (h2 : u2.oneCell' = true) (hx : ∀ u ∈ xs, u.oneCell' = true) (hn : n ≤ 1000000) (hi : i < n) (hc : c < n + 1) (ys : List Value) (hys : ys = xs.take (i * 2) ++ [u1, u2] ++ xs.drop (i * 2)) :
    Calls Try.prog 43 #[.slice (some ⟨g, 0, none⟩) n c, .int .i64 (i : Int), .slice (some ⟨vb, 0, none⟩) 1 1] w (InsEnd (.slice (some ⟨g, 0, none⟩) n c) (n + 1) ys w) := by
  obtain ⟨i0, hi0, hz0, hz1, hz2⟩ := info_parts Try.infoPr
  obtain ⟨C, hg, hnc, hcm, hCs, hCt⟩ := own_block hown
  have hxl : xs.length = n * 2 := hown.1
  have hcells := hown.cells (g := g) rfl
  have hsl2 := run_slice_hi (P := Try.prog) Try.underlying37 Try.sizeOf63 g n c i (by omega) _ rfl
  have hold : (Builtin.firstCells i0.size i (.slice (some ⟨g, 0, none⟩) i c)).run Try.prog w.drew = .ok (xs.take (i * 2)).toArray w.drew := by
    rw [hz1]
    exact run_firstCells_some w.drew 2 i ⟨g, 0, none⟩ i c (xs.take (i * 2)) (by rw [List.length_take]; omega) (fun j v hj => by
      rw [List.getElem?_take] at hj
      split at hj
      · exact hcells j v hj
      · cases hj)
  have happ := Lib.run_append_grow_zeros (P := Try.prog) w 37 3 37 63 i0 _ .i64 .i64 Try.underlying37 Try.underlying3 hi0 hz0 (some ⟨g, 0, none⟩) i c (xs.take (i * 2)) hold (n + 1 - i) (by omega) (by omega) (by omega) (by omega) (by rw [hz2]; omega) (growslice_fits (by omega) (by rw [hz2]; omega))
  rw [show i + (n + 1 - i) = n + 1 by omega] at happ
  obtain ⟨G, HG⟩ : ∃ G, Hid (G = grownCap w (n + 1) c 63) := ⟨_, Lib.hid rfl⟩
  have hG1 : n + 1 ≤ G := by rw [HG.out]; exact grownCap_ge w _ _ _
  have hG2 : G ≤ maxLen := by rw [HG.out]; exact grownCap_le_maxLen w (n + 1) c _ (by unfold maxLen; omega)
  rw [← HG.out] at happ
  obtain ⟨R0, HR0⟩ : ∃ R0 : Array Value, Hid (R0 = (xs.take (i * 2)).toArray ++ Builtin.zeroCells (Value.agg #[.string ByteArray.empty, .slice none 0 0]).cells (n + 1 - i) ++ Builtin.zeroCells (Value.agg #[.string ByteArray.empty, .slice none 0 0]).cells (G - (n + 1))) := ⟨_, Lib.hid rfl⟩
  rw [← HR0.out] at happ
  have hR0s : R0.size = G * 2 := by
    rw [HR0.out]
    simp only [Array.size_append, List.size_toArray, size_zeroCells, List.length_take]
    have e2 : (Value.agg #[.string ByteArray.empty, .slice none 0 0]).cells.size = 2 := rfl
    rw [e2]; omega
  have hR0t : R0.toList.take (i * 2) = xs.take (i * 2) := by
    rw [HR0.out]
    simp only [Array.toList_append, List.append_assoc]
    rw [List.take_append_of_le_length (by simp; omega), List.take_of_length_le (by simp; exact Nat.min_le_left _ _)]
  obtain ⟨w1, Hw1⟩ : ∃ w1, Hid (w1 = w.drew.alloc (.cells R0 63)) := ⟨_, Lib.hid rfl⟩
  rw [← Hw1.out] at happ
  obtain ⟨N, HN⟩ : ∃ N, Hid (N = w.heap.size) := ⟨_, Lib.hid rfl⟩
  rw [← HN.out] at happ
  have ho1 : Only [] w w1 := by rw [Hw1.out]; exact ((Only.refl [] w).drewN 1).alloc _
  have hN1 : w1.heap[N]? = some (.cells R0 63 (0, 0)) := by rw [Hw1.out, HN.out]; exact heap_alloc_new w.drew _
  have hvl : vb < w.heap.size := (Array.getElem?_eq_some_iff.1 hv).1
  have hgl : g < w.heap.size := (Array.getElem?_eq_some_iff.1 hg).1
  -- the first copy: the pair
  have hcp1 := run_copy_rowK (P := Try.prog) w1 37 37 3 63 2 N (i * 2) (n + 1 - i) (G - i) ⟨vb, 0, none⟩ 1 1 R0 63 [u1, u2] Try.underlying37 Try.sizePr hN1
    (by rw [show Nat.min 1 (n + 1 - i) = 1 from Nat.min_eq_left (by omega)]; rfl) (pair_lit (by rw [ho1.block vb hvl (by simp)]; exact hv)) (by simp; omega) (by intro u hu; simp at hu; rcases hu with rfl | rfl <;> assumption)
  obtain ⟨R1, HR1⟩ : ∃ R1 : Array Value, Hid (R1 = (R0.toList.take (i * 2) ++ [u1, u2] ++ R0.toList.drop (i * 2 + [u1, u2].length)).toArray) := ⟨_, Lib.hid rfl⟩
  rw [← HR1.out] at hcp1
  obtain ⟨w2, Hw2⟩ : ∃ w2, Hid (w2 = w1.setRow N R1) := ⟨_, Lib.hid rfl⟩
  rw [← Hw2.out] at hcp1
  have hN2 : w2.heap[N]? = some (.cells R1 63 (0, 0)) := by rw [Hw2.out]; exact setRow_heap w1 N R0 R1 _ _ hN1
  have ho2 : Only [] w w2 := by rw [Hw2.out]; exact ho1.setRow (.inr (by rw [HN.out]; exact Nat.le_refl _)) _
  have hR1s : R1.size = G * 2 := by rw [HR1.out]; simp [hR0s]; omega
  -- the second: what stood from i on
  have hcp2 : ∀ W, W.heap = w2.heap → (Builtin.copy_ #[37, 37] 3 #[.slice (some ⟨N, (i + 1) * 2, none⟩) (n + 1 - (i + 1)) (G - (i + 1)), .slice (some ⟨g, i * 2, none⟩) (n - i) (c - i)]).run Try.prog W = .ok (goInt (Nat.min (n - i) (n + 1 - (i + 1)))) (W.setRow N (R1.toList.take ((i + 1) * 2) ++ xs.drop (i * 2) ++ R1.toList.drop ((i + 1) * 2 + (xs.drop (i * 2)).length)).toArray) := fun W hW => by
    refine run_copy_rowK (P := Try.prog) W 37 37 3 63 2 N ((i + 1) * 2) (n + 1 - (i + 1)) (G - (i + 1)) ⟨g, i * 2, none⟩ (n - i) (c - i) R1 63 (xs.drop (i * 2)) Try.underlying37 Try.sizePr (by rw [hW]; exact hN2)
      (by rw [show Nat.min (n - i) (n + 1 - (i + 1)) = n - i from Nat.min_eq_left (by omega), List.length_drop]; omega) (fun j v hj => ?_) (by rw [List.length_drop]; omega) (fun u hu => hx u (List.mem_of_mem_drop hu))
    rw [List.getElem?_drop] at hj
    have := hcells (i * 2 + j) v hj
    rw [add_to] at this ⊢
    rw [Nat.zero_add] at this
    rw [World.cell?_of_block (w := w) (by rw [hW]; exact ho2.block g hgl (by simp))]
    exact this
  obtain ⟨R2, HR2⟩ : ∃ R2 : Array Value, Hid (R2 = (R1.toList.take ((i + 1) * 2) ++ xs.drop (i * 2) ++ R1.toList.drop ((i + 1) * 2 + (xs.drop (i * 2)).length)).toArray) := ⟨_, Lib.hid rfl⟩
  rw [← HR2.out] at hcp2
  have eR1 : R1.toList.take ((i + 1) * 2) = xs.take (i * 2) ++ [u1, u2] := by
    rw [HR1.out]
    simp only [List.toList_toArray]
    rw [hR0t, List.take_append_of_le_length (by simp; omega), List.take_of_length_le (by simp; omega)]
  have hR2s : R2.size = G * 2 := by
    rw [HR2.out]
    simp only [List.size_toArray, List.length_append, List.length_take, List.length_drop, Array.length_toList, hR1s, hxl]
    omega
  have hR2t : R2.toList.take ((n + 1) * 2) = xs.take (i * 2) ++ [u1, u2] ++ xs.drop (i * 2) := by
    rw [HR2.out]
    simp only [List.toList_toArray]
    rw [eR1, List.take_append_of_le_length (by simp; omega), List.take_of_length_le (by simp; omega)]
  have fin : ∀ W : World, W.heap = w2.heap → W.os = w2.os → W.tape = w2.tape → W.output = w2.output → InsEnd (.slice (some ⟨g, 0, none⟩) n c) (n + 1) ys w (.returned (.slice (some ⟨N, 0, none⟩) (n + 1) G)) (W.setRow N R2) := fun W e1 e2 e3 e4 => by
    have hoW : Only [] w W := ⟨e2.trans ho2.os, e3.trans ho2.tape, e4.trans ho2.output, by rw [e1]; exact ho2.size, fun b hb hn => by rw [e1]; exact ho2.block b hb hn⟩
    have hN3 : (W.setRow N R2).heap[N]? = some (.cells R2 63 (0, 0)) := setRow_heap W N R1 R2 _ _ (by rw [e1]; exact hN2)
    refine ⟨_, rfl, ⟨by rw [hys]; simp [List.length_append, List.length_take, List.length_drop, hxl]; omega, .inr ⟨N, G, R2, rfl, Nat.zero_le _, hN3, hG1, hG2, hR2s, by rw [hys]; exact hR2t⟩⟩, ?_, ?_⟩
    · exact (hoW.setRow (g := N) (.inr (by rw [HN.out]; exact Nat.le_refl _)) _).more (fun b hb => by cases hb)
    · intro b hb
      simp [blk, Value.ownBlock] at hb
      exact .inr (by rw [hb, HN.out]; exact Nat.le_refl _)
  have FIN := Lib.hid fin
  have HAP := Lib.hid happ
  have HC1 := Lib.hid hcp1
  rw [show n + 1 - (i + 1) = n - i by omega] at hcp2
  have HC2 := Lib.hid hcp2
  have hG3 : (G : Int) ≤ 9223372036854775807 := by unfold maxLen at hG2; omega
  have hsl3 := run_slice_lo (P := Try.prog) Try.underlying37 Try.sizeOf63 (some ⟨N, 0, none⟩) (n + 1) G i (by omega)
  obtain ⟨A3, hsl3, hA3⟩ := hsl3
  obtain rfl := hA3 (by omega)
  obtain ⟨A4, hsl4, hA4⟩ := run_slice_lo (P := Try.prog) Try.underlying37 Try.sizeOf63 (some ⟨N, 0, none⟩) (n + 1) G (i + 1) (by omega)
  obtain rfl := hA4 (by omega)
  obtain ⟨A5, hsl5, hA5⟩ := run_slice_lo (P := Try.prog) Try.underlying37 Try.sizeOf63 (some ⟨g, 0, none⟩) n c i (by omega)
  obtain rfl := hA5 (by omega)
  simp only [Option.map_some, add_to, Nat.zero_add] at hsl3 hsl4 hsl5
  rw [show ((i + 1 : Nat) : Int) = (i : Int) + 1 by omega] at hsl4
  have hk : ((n + 1 - i : Nat) : Int) = (n : Int) + 1 - (i : Int) := by omega
  rw [hk] at HAP
  have hcn : (c : Int) < (n : Int) + 1 := by omega
  have hin : (i : Int) < (n : Int) := by omega
  have hine : ((i : Int) == (n : Int)) = false := by simp; omega
  clear fin happ hcp1 hcp2 hA3 hA4 hA5 eR1 hR2s hR2t hN1 hN2 ho1 ho2 hR1s hR0s hR0t hcells hold hown hv hx hi0 hz0 hz1 hz2 hg hCs hCt hxl hk hvl hgl hcm hG2 hys
  go_enter Try.func43, Try.ntmps43
  have hc1 := HC1.out
  go_wp2_with (at_builtin; refine wpList_append_run2 rfl _ _ 37 3 rfl _ _ _ rfl rfl _ _ (by exact HAP.out) ?_)
  clear hc1
  have hw1 : IntKind.i64.wrap ((i : Int) + 1) = (i : Int) + 1 := by rw [IntKind.wrap_i64]; omega
  go_still_tail 8, (by kernel_rfl)
  generalize hW : ({ heap := w2.heap, tape := w2.tape, drawn := w2.drawn + 1, os := w2.os, output := w2.output } : World) = W
  have hc2 := HC2.out W (by rw [← hW])
  have HFIN := Lib.hid (FIN.out W (by rw [← hW]) (by rw [← hW]) (by rw [← hW]) (by rw [← hW]))
  clear hW
  go_wp2
  go_ret
  exact HFIN.out
set_option maxHeartbeats 1600000 in
set_option maxRecDepth 100000 in
theorem insert_room (g n c i : Nat) (xs : List Value) (w : World) (vb : Nat) (u1 u2 : Value) (hown : w.ownsRow 0 63 2 (.slice (some ⟨g, 0, none⟩) n c) n xs) (hv : w.heap[vb]? = some (.cells #[u1, u2] 63 (0, 0))) (hvg : vb ≠ g)
    (h1 : u1.oneCell' = true) (h2 : u2.oneCell' = true) (hx : ∀ u ∈ xs, u.oneCell' = true) (hn : n ≤ 1000000) (hi : i < n) (hc : n + 1 ≤ c) (ys : List Value) (hys : ys = xs.take (i * 2) ++ [u1, u2] ++ xs.drop (i * 2)) :
    Calls Try.prog 43 #[.slice (some ⟨g, 0, none⟩) n c, .int .i64 (i : Int), .slice (some ⟨vb, 0, none⟩) 1 1] w (InsEnd (.slice (some ⟨g, 0, none⟩) n c) (n + 1) ys w) := by
  obtain ⟨C, hg, hnc, hcm, hCs, hCt⟩ := own_block hown
  have hxl : xs.length = n * 2 := hown.1
  have hcells := hown.cells (g := g) rfl
  have hvl : vb < w.heap.size := (Array.getElem?_eq_some_iff.1 hv).1
  have hgl : g < w.heap.size := (Array.getElem?_eq_some_iff.1 hg).1
  have hov : ∀ lb cb, (callFunc 53 #[.slice (some ⟨vb, 0, none⟩) 1 1, .slice (some ⟨g, (i + 1) * 2, none⟩) lb cb]).run Try.prog w = .ok (.value (.bool false)) w := fun lb cb => by
    rw [run_callFunc_extern Try.func53 (by kernel_rfl) (by kernel_rfl) (by kernel_rfl) (e := Extern.SlicesOverlaps.overlaps #[37, 37] #[4]) (by kernel_rfl),
      Lib.run_overlaps_apart w 37 4 63 Try.underlying37 2 Try.sizeOf63 ⟨vb, 0, none⟩ ⟨g, (i + 1) * 2, none⟩ 1 1 lb cb hvg 63 63 2 C.size (by simp [World.shape?, hv]) (by simp [World.shape?, hg]) (by rw [hCs]; omega) (by simp [World.frozen?, hv]) (by simp [World.frozen?, hv])]
    rfl
  -- the first copy: what stood from i on
  obtain ⟨R1, HR1⟩ : ∃ R1 : Array Value, Hid (R1 = (C.toList.take ((i + 1) * 2) ++ xs.drop (i * 2) ++ C.toList.drop ((i + 1) * 2 + (xs.drop (i * 2)).length)).toArray) := ⟨_, Lib.hid rfl⟩
  have hdl : (xs.drop (i * 2)).length = (n - i) * 2 := by rw [List.length_drop, hxl]; omega
  have hcp1 : ∀ W : World, W.heap = w.heap → (Builtin.copy_ #[37, 37] 3 #[.slice (some ⟨g, (i + 1) * 2, none⟩) (n - i) (c - (i + 1)), .slice (some ⟨g, i * 2, none⟩) (n + 1 - i) (c - i)]).run Try.prog W = .ok (goInt (Nat.min (n + 1 - i) (n - i))) (W.setRow g R1) := fun W hW => by
    rw [HR1.out]
    refine run_copy_rowK (P := Try.prog) W 37 37 3 63 2 g ((i + 1) * 2) (n - i) (c - (i + 1)) ⟨g, i * 2, none⟩ (n + 1 - i) (c - i) C 63 (xs.drop (i * 2)) Try.underlying37 Try.sizePr (by rw [hW]; exact hg)
      (by rw [show Nat.min (n + 1 - i) (n - i) = n - i from Nat.min_eq_right (by omega), hdl]) (fun j v hj => ?_) (by rw [hdl]; omega) (fun u hu => hx u (List.mem_of_mem_drop hu))
    rw [List.getElem?_drop] at hj
    have := hcells (i * 2 + j) v hj
    rw [add_to] at this ⊢
    rw [Nat.zero_add] at this
    rw [World.cell?_of_block (w := w) (by rw [hW])]
    exact this
  have hR1s : R1.size = c * 2 := by
    rw [HR1.out]
    simp only [List.size_toArray, List.length_append, List.length_take, List.length_drop, Array.length_toList, hCs, hdl, hxl]
    omega
  -- the second: the pair
  have hcp2 : ∀ W : World, W.heap[g]? = some (.cells R1 63 (0, 0)) → W.heap[vb]? = w.heap[vb]? → (Builtin.copy_ #[37, 37] 3 #[.slice (some ⟨g, i * 2, none⟩) (n + 1 - i) (c - i), .slice (some ⟨vb, 0, none⟩) 1 1]).run Try.prog W = .ok (goInt (Nat.min 1 (n + 1 - i))) (W.setRow g (R1.toList.take (i * 2) ++ [u1, u2] ++ R1.toList.drop (i * 2 + [u1, u2].length)).toArray) := fun W e1 e2 =>
    run_copy_rowK (P := Try.prog) W 37 37 3 63 2 g (i * 2) (n + 1 - i) (c - i) ⟨vb, 0, none⟩ 1 1 R1 63 [u1, u2] Try.underlying37 Try.sizePr e1
      (by rw [show Nat.min 1 (n + 1 - i) = 1 from Nat.min_eq_left (by omega)]; rfl) (pair_lit (e2.trans hv)) (by simp; omega) (by intro u hu; simp at hu; rcases hu with rfl | rfl <;> assumption)
  obtain ⟨R2, HR2⟩ : ∃ R2 : Array Value, Hid (R2 = (R1.toList.take (i * 2) ++ [u1, u2] ++ R1.toList.drop (i * 2 + [u1, u2].length)).toArray) := ⟨_, Lib.hid rfl⟩
  rw [← HR2.out] at hcp2
  have hR2s : R2.size = c * 2 := by
    rw [HR2.out]
    simp only [List.size_toArray, List.length_append, List.length_take, List.length_drop, Array.length_toList, hR1s, List.length_cons, List.length_nil]
    omega
  have hxs : C.toList.take (n * 2) = xs := hCt
  have hR2t : R2.toList.take ((n + 1) * 2) = ys := by
    have e1 : R1.toList.take (i * 2) = xs.take (i * 2) := by
      rw [HR1.out, List.toList_toArray, List.append_assoc, List.take_append_of_le_length (by rw [List.length_take, Array.length_toList]; omega), List.take_take, Nat.min_eq_left (by omega), ← hxs, List.take_take, Nat.min_eq_left (by omega)]
    have e2 : R1.toList.drop (i * 2 + 2) = xs.drop (i * 2) ++ C.toList.drop ((i + 1) * 2 + (xs.drop (i * 2)).length) := by
      rw [HR1.out, List.toList_toArray, List.append_assoc, show i * 2 + 2 = (i + 1) * 2 by omega]
      have hl : (C.toList.take ((i + 1) * 2)).length = (i + 1) * 2 := by rw [List.length_take, Array.length_toList]; omega
      rw [List.drop_append_of_le_length (by omega), List.drop_of_length_le (by omega), List.nil_append]
    rw [HR2.out, hys, List.toList_toArray, e1, show i * 2 + [u1, u2].length = i * 2 + 2 from rfl, e2, ← List.append_assoc]
    have hl : (xs.take (i * 2) ++ [u1, u2] ++ xs.drop (i * 2)).length = (n + 1) * 2 := by
      simp only [List.length_append, List.length_take, hdl, hxl, List.length_cons, List.length_nil]; omega
    rw [List.take_append_of_le_length (by omega), List.take_of_length_le (by omega)]
  have fin : ∀ W : World, W.heap = w.heap → W.os = w.os → W.tape = w.tape → W.output = w.output → (∀ V : World, V.heap = (W.setRow g R1).heap → V.os = W.os → V.tape = W.tape → V.output = W.output → InsEnd (.slice (some ⟨g, 0, none⟩) n c) (n + 1) ys w (.returned (.slice (some ⟨g, 0, none⟩) (n + 1) c)) (V.setRow g R2)) := fun W e1 e2 e3 e4 V f1 f2 f3 f4 => by
    have hW1 : (W.setRow g R1).heap[g]? = some (.cells R1 63 (0, 0)) := setRow_heap W g C R1 _ _ (by rw [e1]; exact hg)
    have hV2 : (V.setRow g R2).heap[g]? = some (.cells R2 63 (0, 0)) := setRow_heap V g R1 R2 _ _ (by rw [f1]; exact hW1)
    have ho1 : Only [g] w W := ⟨e2, e3, e4, by rw [e1]; exact Nat.le_refl _, fun b _ _ => by rw [e1]⟩
    have ho2 : Only [g] w (W.setRow g R1) := ho1.setRow (.inl (by simp)) _
    have ho3 : Only [g] w V := ⟨f2.trans e2, f3.trans e3, f4.trans e4, by rw [f1]; exact ho2.size, fun b hb hn => by rw [f1]; exact ho2.block b hb hn⟩
    refine ⟨_, rfl, ⟨by rw [← hR2t, List.length_take, Array.length_toList, hR2s]; omega, .inr ⟨g, c, R2, rfl, Nat.zero_le _, hV2, hc, hcm, hR2s, hR2t⟩⟩, ?_, Grows.refl _ _⟩
    exact (ho3.setRow (g := g) (.inl (by simp)) _)
  have hC2 : ∀ W V : World, W.heap = w.heap → V.heap = (W.setRow g R1).heap → (V.heap[g]? = some (.cells R1 63 (0, 0)) ∧ V.heap[vb]? = w.heap[vb]?) := fun W V e1 f1 =>
    ⟨by rw [f1]; exact setRow_heap W g C R1 _ _ (by rw [e1]; exact hg), by rw [f1, (only_setRow W g R1).block vb (by rw [e1]; exact hvl) (by simpa using hvg), e1]⟩
  have FIN := Lib.hid fin
  have HC1 := Lib.hid hcp1
  have HC2 := Lib.hid hcp2
  have HV := Lib.hid hC2
  have HOV := Lib.hid hov
  have hc63 : (c : Int) ≤ 9223372036854775807 := by unfold maxLen at hcm; omega
  obtain ⟨A1, hsl1, hA1⟩ := run_slice_lo (P := Try.prog) Try.underlying37 Try.sizeOf63 (some ⟨g, 0, none⟩) n c i (by omega)
  have hsl2 := run_slice_hi (P := Try.prog) Try.underlying37 Try.sizeOf63 g n c (n + 1) (by omega) ((n : Int) + 1) (by omega)
  obtain ⟨A3, hsl3, hA3⟩ := run_slice_lo (P := Try.prog) Try.underlying37 Try.sizeOf63 (some ⟨g, 0, none⟩) (n + 1) c i (by omega)
  obtain rfl := hA3 (by omega)
  obtain ⟨A4, hsl4, hA4⟩ := run_slice_lo (P := Try.prog) Try.underlying37 Try.sizeOf63 (some ⟨g, 0, none⟩) (n + 1) c (i + 1) (by omega)
  obtain rfl := hA4 (by omega)
  simp only [Option.map_some, add_to, Nat.zero_add] at hsl3 hsl4
  rw [show ((i + 1 : Nat) : Int) = (i : Int) + 1 by omega, show n + 1 - (i + 1) = n - i by omega] at hsl4
  have hcn : (n : Int) + 1 ≤ (c : Int) := by omega
  have hin : (i : Int) < (n : Int) := by omega
  have hine : ((i : Int) == (n : Int)) = false := by simp; omega
  clear fin hcp1 hcp2 hC2 hA1 hA3 hA4 hR1s hR2s hR2t hcells hown hv hx hg hCs hCt hxl hvl hgl hcm hdl hxs hys
  have hw1 : IntKind.i64.wrap ((i : Int) + 1) = (i : Int) + 1 := by rw [IntKind.wrap_i64]; omega
  go_enter Try.func43, Try.ntmps43
  go_wp2_with (simp only [hov])
  clear hov
  go_still_tail 8, (by kernel_rfl)
  generalize hW : ({ heap := w.heap, tape := w.tape, drawn := w.drawn + 1, os := w.os, output := w.output } : World) = W
  have hc1 := HC1.out W (by rw [← hW])
  have HFIN := Lib.hid (FIN.out W (by rw [← hW]) (by rw [← hW]) (by rw [← hW]) (by rw [← hW]) (W.setRow g R1) rfl rfl rfl rfl)
  obtain ⟨v1, v2⟩ := HV.out W (W.setRow g R1) (by rw [← hW]) rfl
  have hc2 := HC2.out (W.setRow g R1) v1 v2
  clear hW v1 v2
  go_wp2
  go_ret
  exact HFIN.out
/-- slices.Insert of one pair. -/
theorem insert_any (A : Option Addr) (n c i : Nat) (xs : List Value) (w : World) (vb : Nat) (u1 u2 : Value) (hown : w.ownsRow 0 63 2 (.slice A n c) n xs) (hv : w.heap[vb]? = some (.cells #[u1, u2] 63 (0, 0))) (hvg : ∀ g, A = some ⟨g, 0, none⟩ → vb ≠ g)
    (h1 : u1.oneCell' = true) (h2 : u2.oneCell' = true) (hx : ∀ u ∈ xs, u.oneCell' = true) (hn : n ≤ 1000000) (hi : i ≤ n) :
    Calls Try.prog 43 #[.slice A n c, .int .i64 (i : Int), .slice (some ⟨vb, 0, none⟩) 1 1] w (InsEnd (.slice A n c) (n + 1) (xs.take (i * 2) ++ [u1, u2] ++ xs.drop (i * 2)) w) := by
  rcases Nat.lt_or_ge i n with hlt | hge
  · obtain ⟨g, c', e, _⟩ := own_form hown (by omega)
    injection e with e1 e2 e3
    subst e1; subst e3
    rcases Nat.lt_or_ge c (n + 1) with h | h
    · exact insert_grow g n c i xs w vb u1 u2 hown hv h1 h2 hx hn hlt h _ rfl
    · exact insert_room g n c i xs w vb u1 u2 hown hv (hvg g rfl) h1 h2 hx hn hlt h _ rfl
  · obtain rfl : i = n := by omega
    have hl := hown.1
    rw [List.take_of_length_le (by omega), List.drop_of_length_le (by omega), List.append_nil]
    exact insert_end A i c xs w vb u1 u2 hown hv h1 h2 hn
end Go.Proofs.Ytgpkdnnlgafenaa
