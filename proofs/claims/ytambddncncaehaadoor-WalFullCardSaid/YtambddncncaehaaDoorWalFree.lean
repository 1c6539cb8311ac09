/- The walk of the log's Free. -/
import Derived.Test.YtambddncncaehaaDoorWalAll
namespace Go.Proofs.YtambddncncaehaaDoor
open Go.RowKit Dk Wl
set_option linter.unusedVariables false
set_option maxRecDepth 100000

section
variable {w : World} {G : List Nat} {d l sz half used : Nat} {tl base : List UInt8} {recs : List (List UInt8)} {dn : Bool}
set_option maxRecDepth 100000 in
theorem free_any (h : LogI w G l d sz half used tl base recs dn) (hz : sz ≤ 8192) (hu : used ≤ 100000000) : Calls Tryd.prog 21 #[.pointer (some ⟨l, 0, none⟩)] w fun e w' => e = .returned (.int .i64 (min (max ((sz : Int) * 512 - (used : Int) - 16) 0) 200000)) ∧ Below w.heap.size w w' := by
  obtain ⟨q0, q1, q2, q3, q7⟩ := h.cells
  clear h q0 q2 q7
  go_enter Tryd.func21, Tryd.ntmps21
  go_wp2
  refine fr1_run l sz used (by show 13 < 17; omega) rfl hz hu q1 q3 ?_
  intro af w3 hfr h3 hbel3
  have ha := hfr.eq (by intro t ht; simp at ht; show t < 17; omega)
  simp only [List.foldl_cons, List.foldl_nil] at ha
  clear hfr
  rw [h3] at ha
  clear h3
  generalize af.eval (.tmp 4) = u4 at ha
  generalize af.eval (.tmp 5) = u5 at ha
  generalize af.eval (.tmp 6) = u6 at ha
  generalize af.eval (.tmp 7) = u7 at ha
  generalize af.eval (.tmp 8) = u8 at ha
  generalize af.eval (.tmp 9) = u9 at ha
  generalize af.eval (.tmp 10) = u10 at ha
  generalize af.eval (.tmp 11) = u11 at ha
  generalize af.eval (.tmp 12) = u12 at ha
  generalize af.eval (.tmp 13) = u13 at ha
  subst ha
  simp only [Act.put, List.setIfInBounds_toArray, List.set_cons_zero, List.set_cons_succ]
  have HB := Lib.hid hbel3
  clear hbel3 q1 q3
  go_wp2
  go_ret
  exact ⟨rfl, HB.out⟩
end
end Go.Proofs.YtambddncncaehaaDoor
