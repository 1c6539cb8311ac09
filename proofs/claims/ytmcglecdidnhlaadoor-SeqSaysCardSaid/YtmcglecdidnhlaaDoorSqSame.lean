/- The law's sets and longs at equal sets, equal lists: the walks. -/
import Derived.Test.YtmcglecdidnhlaaDoorSqOwn
import Derived.Deep.QuietTactic
import Derived.BigQuiet
namespace Go.Proofs.YtmcglecdidnhlaaDoor
open Go.RowKit
set_option linter.unusedVariables false
set_option maxRecDepth 100000

set_option maxHeartbeats 3200000 in
theorem sets_same (A A' : Option Addr) (n c c' : Nat) (L : List (Int × Int)) (w : World) (hn : n = L.length) (hp : Pairs w w.heap.size A L) (hp' : Pairs w w.heap.size A' L) (hm : n ≤ 1000) :
    Calls Tryd.prog 16 #[.agg #[.slice A n c], .agg #[.slice A' n c']] w fun e w' => e = .returned (.bool true) ∧ Below w.heap.size w w' := by
  subst hn
  obtain ⟨w0, rfl⟩ : ∃ w0, w0 = w := ⟨_, rfl⟩
  obtain ⟨w1, Hw1⟩ : ∃ w1, Hid (w1 = (w0.alloc (.cells #[.slice A L.length c] 25)).alloc (.cells #[.slice A' L.length c'] 37)) := ⟨_, Lib.hid rfl⟩
  have hb1 : Below w0.heap.size w0 w1 := by rw [Hw1.out]; exact ((Below.refl _ w0).alloc (Nat.le_refl _) _).alloc (by simp) _
  have hx1 : Blk w1 w0.heap.size 25 #[.slice A L.length c] := by rw [Hw1.out]; exact (Blk.new w0 _ _).alloc _
  have hr1 : Blk w1 (w0.heap.size + 1) 37 #[.slice A' L.length c'] := by
    rw [Hw1.out]
    have := Blk.new (w0.alloc (.cells #[.slice A L.length c] 25)) 37 #[.slice A' L.length c']
    simpa [Blk] using this
  have HP := Lib.hid (And.intro (hp.below hb1 (Nat.le_refl _)) (hp'.below hb1 (Nat.le_refl _)))
  have HX := Lib.hid (And.intro hb1 (And.intro hx1 hr1))
  clear hp hp' hb1 hx1 hr1
  go_enter Tryd.func16, Tryd.ntmps16
  go_wp2
  rw [← Hw1.out]
  go_loopw [5] (fun i wr => ∃ (k q : Nat), k ≤ L.length ∧ i = .int .i64 k ∧ wr = w1.drewN q) (fun i _ => L.length - (intOf i).toNat)
  case atStart => exact ⟨0, 0, Nat.zero_le _, rfl, rfl⟩
  case round =>
    obtain ⟨k, q, hk, rfl, hwr⟩ := hrel
    have z0 : wr.cell? ⟨w0.heap.size, 0, none⟩ = some (.slice A L.length c) := by rw [hwr]; exact HX.out.2.1.cell 0 _ rfl
    have z1 : wr.cell? ⟨w0.heap.size + 1, 0, none⟩ = some (.slice A' L.length c') := by rw [hwr]; exact HX.out.2.2.cell 0 _ rfl
    have HBW : Hid (∀ q, Below w0.heap.size w0 (wr.drewN q)) := Lib.hid (fun q' => by rw [hwr]; exact below_drewN (below_drewN HX.out.1 q) q')
    have HNX : Hid (∀ q', ∃ q'', wr.drewN q' = w1.drewN q'') := Lib.hid (fun q' => ⟨q + q', by rw [hwr]; simp [World.drewN, Nat.add_assoc]⟩)
    by_cases hlt : k < L.length
    · obtain ⟨g, o, rfl, hg, k1, k2⟩ := HP.out.1.at k hlt
      obtain ⟨g', o', rfl, hg', k3, k4⟩ := HP.out.2.at k hlt
      obtain ⟨x, Hx⟩ : ∃ x, Hid (x = L[k]) := ⟨_, Lib.hid rfl⟩
      rw [← Hx.out] at k1 k2 k3 k4
      obtain ⟨a, b⟩ := x
      simp only at k1 k2 k3 k4
      have y1 : wr.cell? ⟨g, o + k * 2, none⟩ = some (.int .i64 a) := by rw [hwr]; exact k1
      have y2 : wr.cell? ⟨g, o + k * 2 + 1, none⟩ = some (.int .i64 b) := by rw [hwr]; exact k2
      have y3 : wr.cell? ⟨g', o' + k * 2, none⟩ = some (.int .i64 a) := by rw [hwr]; exact k3
      have y4 : wr.cell? ⟨g', o' + k * 2 + 1, none⟩ = some (.int .i64 b) := by rw [hwr]; exact k4
      have i1 : (k : Int) < (L.length : Int) := by omega
      have i2 : (0 : Int) ≤ (k : Int) := by omega
      have d1 : (a != a) = false := by simp
      have d2 : (b != b) = false := by simp
      clear k1 k2 k3 k4 hwr
      go_wp2
      go_quiet (fail)
      go_wp2
      go_roundw
      case rel =>
        obtain ⟨q'', e⟩ := HNX.out nq
        exact ⟨k + 1, q'', by omega, by go_num, e⟩
      case measure => simp [intOf]; omega
    · obtain rfl : k = L.length := by omega
      have hb := HBW.out 0
      clear hwr
      go_wp2
      go_ret
      exact ⟨rfl, hb⟩

set_option maxHeartbeats 3200000 in
theorem longs_same (A A' : Option Addr) (n c c' : Nat) (l : List Int) (w : World) (hn : n = l.length) (hp : Ints w w.heap.size A l) (hp' : Ints w w.heap.size A' l) (hm : n ≤ 1000) :
    Calls Tryd.prog 13 #[.slice A n c, .slice A' n c'] w fun e w' => e = .returned (.bool true) ∧ Below w.heap.size w w' := by
  subst hn
  obtain ⟨w0, rfl⟩ : ∃ w0, w0 = w := ⟨_, rfl⟩
  have HP := Lib.hid (And.intro hp hp')
  clear hp hp'
  go_enter Tryd.func13, Tryd.ntmps13
  go_wp2
  go_loopw [5] (fun i wr => ∃ (k q : Nat), k ≤ l.length ∧ i = .int .i64 k ∧ wr = w0.drewN q) (fun i _ => l.length - (intOf i).toNat)
  case atStart => exact ⟨0, 0, Nat.zero_le _, rfl, rfl⟩
  case round =>
    obtain ⟨k, q, hk, rfl, hwr⟩ := hrel
    have HBW : Hid (Below w0.heap.size w0 wr) := Lib.hid (by rw [hwr]; exact below_drewN (Below.refl _ _) q)
    have HNX : Hid (∀ q', ∃ q'', wr.drewN q' = w0.drewN q'') := Lib.hid (fun q' => ⟨q + q', by rw [hwr]; simp [World.drewN, Nat.add_assoc]⟩)
    by_cases hlt : k < l.length
    · obtain ⟨g, o, rfl, hg, k1⟩ := HP.out.1.at k hlt
      obtain ⟨g', o', rfl, hg', k3⟩ := HP.out.2.at k hlt
      obtain ⟨x, Hx⟩ : ∃ x, Hid (x = l[k]) := ⟨_, Lib.hid rfl⟩
      rw [← Hx.out] at k1 k3
      have y1 : wr.cell? ⟨g, o + k, none⟩ = some (.int .i64 x) := by rw [hwr]; exact k1
      have y3 : wr.cell? ⟨g', o' + k, none⟩ = some (.int .i64 x) := by rw [hwr]; exact k3
      have i1 : (k : Int) < (l.length : Int) := by omega
      have i2 : (0 : Int) ≤ (k : Int) := by omega
      have d1 : (x != x) = false := by simp
      clear k1 k3 hwr
      go_wp2
      go_quiet (fail)
      go_wp2
      go_roundw
      case rel =>
        obtain ⟨q'', e⟩ := HNX.out nq
        exact ⟨k + 1, q'', by omega, by go_num, e⟩
      case measure => simp [intOf]; omega
    · obtain rfl : k = l.length := by omega
      clear hwr
      go_wp2
      go_ret
      exact ⟨rfl, HBW.out⟩
end Go.Proofs.YtmcglecdidnhlaaDoor
