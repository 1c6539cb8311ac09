/- The drawn regions of the log's space, put to use: Free, and Add's question. -/
import Derived.Test.YtambddncncaehaaDoorWalStore
import Derived.Test.YtambddncncaehaaDoorWalRegs
namespace Go.Proofs.YtambddncncaehaaDoor
open Go.RowKit
set_option linter.unusedVariables false
set_option maxRecDepth 100000

theorem setR0 (R : Nat → Value) (j : Nat) (v : Value) : setR R j v j = v := by simp [setR]
theorem setR1 (R : Nat → Value) {j k : Nat} (v : Value) (h : k ≠ j) : setR R j v k = R k := by simp [setR, h]
def SpS (wp : World) (x y : Value) (p : Nat) (R : Nat → Value) (w : World) : Prop := Below wp.heap.size wp w ∧ (0 < p → R 0 = x) ∧ (1 < p → R 1 = y)
theorem ad7_run {Q : Exit → Act → World → Prop} {a0 : Act} {wp : World} (l rb sz used n2 c2 : Nat) (z : Int) (A2 : Option Addr) (bb : Bool) (hsz : 42 < a0.tmps.size) (in0 : a0.eval (.tmp 0) = .pointer (some ⟨l, 0, none⟩)) (in5 : a0.eval (.tmp 5) = .pointer (some ⟨rb, 0, none⟩))
    (hz : sz ≤ 8192) (hu : used ≤ 100000000) (c1 : wp.cell? ⟨l, 1, none⟩ = some (.int .i64 (sz : Int))) (c3 : wp.cell? ⟨l, 3, none⟩ = some (.int .i64 (used : Int))) (b0 : wp.cell? ⟨rb, 0, none⟩ = some (.int .i64 z)) (b1 : wp.cell? ⟨rb, 1, none⟩ = some (.slice A2 n2 c2))
    (hn2 : n2 ≤ 200000) (hz1 : 1 ≤ z) (hbb : decide ((sz : Int) * 512 - (used : Int) < (n2 : Int) + 16) = bb)
    (fin : ∀ a w, Fr [33, 34, 35, 36, 37, 38, 39, 40, 41, 42] a0 a → a.eval (.tmp 42) = .bool bb → Below wp.heap.size wp w → Q .normal a w) :
    (Code.region 7 opsAd7 true).wp Tryd.prog Q a0 wp := by
  have hl : l < wp.heap.size := World.block_lt_of_cell? wp _ c1
  have hr : rb < wp.heap.size := World.block_lt_of_cell? wp _ b0
  refine ad7 l rb sz used n2 c2 z A2 bb (SpS wp (.int .i64 ((n2 : Int) + 16)) (.int .i64 ((sz : Int) * 512))) hsz in0 in5 (by omega) (by omega) ?_ ?_ ?_ hbb ?_ ?_ ?_ ?_ ?_ ?_
  · intro p R w hS; exact (hS.1.cell (p := ⟨l, 3, none⟩) hl).trans c3
  · intro p R w hS; exact (hS.1.cell (p := ⟨rb, 0, none⟩) hr).trans b0
  · intro p R w hS; exact (hS.1.cell (p := ⟨rb, 1, none⟩) hr).trans b1
  · intro R w hS
    refine (recSize_any z A2 n2 c2 w (by unfold maxLen; omega) (n2 + 16) (by rw [if_neg (by omega)])).mono ?_
    rintro e w' ⟨rfl, hb⟩
    exact ⟨_, rfl, hS.1.trans (hb.mono hS.1.size), fun _ => by rw [setR0]; simp, fun h => absurd h (by omega)⟩
  · intro R w hS
    refine (space_any w ((hS.1.cell (p := ⟨l, 1, none⟩) hl).trans c1) hz).mono ?_
    rintro e w' ⟨rfl, rfl⟩
    exact ⟨_, rfl, hS.1, fun _ => by rw [setR1 _ _ (by decide)]; exact hS.2.1 (by decide), fun _ => setR0 _ _ _⟩
  · intro p R w hS hp; exact hS.2.1 hp
  · intro p R w hS hp; exact hS.2.2 hp
  · exact ⟨(Below.refl _ _).drew, fun h => absurd h (by omega), fun h => absurd h (by omega)⟩
  · intro a w hfr h42 hS; exact fin a w hfr h42 hS.1
theorem fr1_run {Q : Exit → Act → World → Prop} {a0 : Act} {wp : World} (l sz used : Nat) (hsz : 13 < a0.tmps.size) (in0 : a0.eval (.tmp 0) = .pointer (some ⟨l, 0, none⟩))
    (hz : sz ≤ 8192) (hu : used ≤ 100000000) (c1 : wp.cell? ⟨l, 1, none⟩ = some (.int .i64 (sz : Int))) (c3 : wp.cell? ⟨l, 3, none⟩ = some (.int .i64 (used : Int)))
    (fin : ∀ a w, Fr [4, 5, 6, 7, 8, 9, 10, 11, 12, 13, 3] a0 a → a.eval (.tmp 3) = .int .i64 ((sz : Int) * 512 - (used : Int) - 16) → Below wp.heap.size wp w → Q .normal a w) :
    (Code.region 1 opsFr1 true).wp Tryd.prog Q a0 wp := by
  have hl : l < wp.heap.size := World.block_lt_of_cell? wp _ c1
  refine fr1 l sz used (SpS wp (.int .i64 ((sz : Int) * 512)) (.int .i64 16)) hsz in0 (by omega) (by omega) ?_ ?_ ?_ ?_ ?_ ?_ ?_
  · intro p R w hS; exact (hS.1.cell (p := ⟨l, 3, none⟩) hl).trans c3
  · intro R w hS
    refine (space_any w ((hS.1.cell (p := ⟨l, 1, none⟩) hl).trans c1) hz).mono ?_
    rintro e w' ⟨rfl, rfl⟩
    exact ⟨_, rfl, hS.1, fun _ => setR0 _ _ _, fun h => absurd h (by omega)⟩
  · intro R w hS
    refine (recSize_any 1 none 0 0 w (by decide) 16 (by rw [if_neg (by omega)])).mono ?_
    rintro e w' ⟨rfl, hb⟩
    exact ⟨_, rfl, hS.1.trans (hb.mono hS.1.size), fun _ => by rw [setR1 _ _ (by decide)]; exact hS.2.1 (by decide), fun _ => by rw [setR0]; rfl⟩
  · intro p R w hS hp; exact hS.2.1 hp
  · intro p R w hS hp; exact hS.2.2 hp
  · exact ⟨(Below.refl _ _).drew, fun h => absurd h (by omega), fun h => absurd h (by omega)⟩
  · intro a w hfr h3 hS; exact fin a w hfr h3 hS.1
end Go.Proofs.YtambddncncaehaaDoor
