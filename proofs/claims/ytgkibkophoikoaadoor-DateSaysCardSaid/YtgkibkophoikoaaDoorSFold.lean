/- unicode.SimpleFold at an ASCII letter. -/
import Derived.Test.YtgkibkophoikoaaDoorLib
import Derived.Test.YtgkibkophoikoaaDoorProg
import Derived.WalkMore
import Derived.WalkSpells
import Derived.IntWalk
import Derived.Laws.BitsAllLaws
namespace Go.Proofs.YtgkibkophoikoaaDoor
open Go.RowKit
set_option linter.unusedVariables false

def foldTab : List Int := [0, 1, 2, 3, 4, 5, 6, 7, 8, 9, 10, 11, 12, 13, 14, 15, 16, 17, 18, 19, 20, 21, 22, 23, 24, 25, 26, 27, 28, 29, 30, 31, 32, 33, 34, 35, 36, 37, 38, 39, 40, 41, 42, 43, 44, 45, 46, 47, 48, 49, 50, 51, 52, 53, 54, 55, 56, 57, 58, 59, 60, 61, 62, 63, 64, 97, 98, 99, 100, 101, 102, 103, 104, 105, 106, 107, 108, 109, 110, 111, 112, 113, 114, 115, 116, 117, 118, 119, 120, 121, 122, 91, 92, 93, 94, 95, 96, 65, 66, 67, 68, 69, 70, 71, 72, 73, 74, 8490, 76, 77, 78, 79, 80, 81, 82, 383, 84, 85, 86, 87, 88, 89, 90, 123, 124, 125, 126, 127]
/-- unicode.asciiFold's cells. -/
def AFold (w : World) : Prop := ∀ i, i < 128 → w.cell? ⟨0, i, none⟩ = some (.int .u16 (foldTab.getD i 0))
theorem AFold.below {w w' : World} (h : AFold w) (hb : Below w.heap.size w w') : AFold w' := fun i hi => (hb.cell (p := ⟨0, i, none⟩) (World.block_lt_of_cell? w _ (h i hi))).trans (h i hi)

set_option maxHeartbeats 800000 in
set_option maxRecDepth 100000 in
theorem simpleFold_ascii (r q : Nat) (hr : r < 128) (hq : foldTab.getD r 0 = (q : Int)) (hq2 : q < 65536) (w : World) (hT : AFold w) :
    Calls Tryd.prog 55 #[.int .i32 (r : Int)] w fun e w' => e = .returned (.int .i32 (q : Int)) ∧ w = w' := by
  have hc := hT r hr
  rw [hq] at hc
  have h0 : ¬ (r : Int) < 0 := by omega
  have h1 : ¬ 1114111 < (r : Int) := by omega
  have h2 : (r : Int) < 128 := by omega
  have h3 : r ≤ 127 := by omega
  clear hT hq
  go_enter Tryd.func55, Tryd.ntmps55
  go_wp2
  go_ret
  exact ⟨rfl, rfl⟩

end Go.Proofs.YtgkibkophoikoaaDoor
