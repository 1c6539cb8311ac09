/- unicode.SimpleFold at U+017F: the search in caseOrbit; what the row lists of it. -/
import Derived.Test.YtgkibkophoikoaaDoorSFold
import Derived.LoopTactic
import Derived.Deep.LoopGhost
namespace Go.Proofs.YtgkibkophoikoaaDoor
open Go.RowKit
set_option linter.unusedVariables false
set_option maxRecDepth 100000

def orbit : List (Nat × Nat) := [(75, 107), (83, 115), (107, 8490), (115, 383), (181, 924), (197, 229), (223, 7838), (229, 8491), (304, 304), (305, 305), (383, 83), (452, 453), (453, 454), (454, 452), (455, 456), (456, 457), (457, 455), (458, 459), (459, 460), (460, 458), (497, 498), (498, 499), (499, 497), (837, 921), (912, 8147), (914, 946), (917, 949), (920, 952), (921, 953), (922, 954), (924, 956), (928, 960), (929, 961), (931, 962), (934, 966), (937, 969), (944, 8163), (946, 976), (949, 1013), (952, 977), (953, 8126), (954, 1008), (956, 181), (960, 982), (961, 1009), (962, 963), (963, 931), (966, 981), (969, 8486), (976, 914), (977, 1012), (981, 934), (982, 928), (1008, 922), (1009, 929), (1012, 920), (1013, 917), (1042, 1074), (1044, 1076), (1054, 1086), (1057, 1089), (1058, 1090), (1066, 1098), (1074, 7296), (1076, 7297), (1086, 7298), (1089, 7299), (1090, 7300), (1098, 7302), (1122, 1123), (1123, 7303), (7296, 1042), (7297, 1044), (7298, 1054), (7299, 1057), (7300, 7301), (7301, 1058), (7302, 1066), (7303, 1122), (7304, 42570), (7776, 7777), (7777, 7835), (7835, 7776), (7838, 223), (8126, 837), (8147, 912), (8163, 944), (8486, 937), (8490, 75), (8491, 197), (42570, 42571), (42571, 7304), (64261, 64262), (64262, 64261)]
theorem orbit_len : orbit.length = 94 := by decide
/-- unicode.caseOrbit's header and cells. -/
def Orb (w : World) : Prop := ∃ R o cap, w.cell? ⟨1, 0, none⟩ = some (.slice (some ⟨R, o, none⟩) 94 cap) ∧ ∀ i, i < 94 → w.cell? ⟨R, o + i * 2, none⟩ = some (.int .u16 ((orbit.getD i (0, 0)).1 : Int)) ∧ w.cell? ⟨R, o + i * 2 + 1, none⟩ = some (.int .u16 ((orbit.getD i (0, 0)).2 : Int))
theorem Orb.below {w w' : World} (h : Orb w) (hb : Below w.heap.size w w') : Orb w' := by
  obtain ⟨R, o, cap, h1, h2⟩ := h
  refine ⟨R, o, cap, (hb.cell (p := ⟨1, 0, none⟩) (World.block_lt_of_cell? w _ h1)).trans h1, fun i hi => ?_⟩
  obtain ⟨k1, k2⟩ := h2 i hi
  exact ⟨(hb.cell (p := ⟨R, o + i * 2, none⟩) (World.block_lt_of_cell? w _ k1)).trans k1, (hb.cell (p := ⟨R, o + i * 2 + 1, none⟩) (World.block_lt_of_cell? w _ k2)).trans k2⟩
theorem orbit_side : ∀ i : Fin 94, (orbit.getD i.val (0, 0)).1 ≤ 65535 ∧ (i.val < 10 → (orbit.getD i.val (0, 0)).1 < 383) ∧ (10 ≤ i.val → 383 ≤ (orbit.getD i.val (0, 0)).1) := by decide

set_option maxHeartbeats 3200000 in
theorem simpleFold_383 (w : World) (hO : Orb w) : Calls Tryd.prog 55 #[.int .i32 383] w fun e w' => e = .returned (.int .i32 83) ∧ w = w' := by
  obtain ⟨R, o, cap, h0, hc⟩ := hO
  have HC := Lib.hid hc
  have c10 := (hc 10 (by decide)).1
  have c11 := (hc 10 (by decide)).2
  rw [show ((orbit.getD 10 (0, 0)).1 : Int) = 383 from rfl] at c10
  rw [show ((orbit.getD 10 (0, 0)).2 : Int) = 83 from rfl] at c11
  clear hc
  go_enter Tryd.func55, Tryd.ntmps55
  go_wp2
  go_loop [3, 4] (fun s3 s4 => ∃ lo hi : Nat, lo ≤ 10 ∧ 10 ≤ hi ∧ hi ≤ 94 ∧ s3 = .int .i64 lo ∧ s4 = .int .i64 hi) (fun s3 s4 => (intOf s4).toNat - (intOf s3).toNat)
  case atStart => exact ⟨0, 94, by omega, by omega, by omega, rfl, rfl⟩
  case round =>
    obtain ⟨lo, hi, h1, h2, h3, rfl, rfl⟩ := hrel
    by_cases hlt : lo < hi
    · obtain ⟨m, hm⟩ : ∃ m, (lo + hi) / 2 = m := ⟨_, rfl⟩
      have hmz : ((lo : Int) + (hi : Int)) / 2 = (m : Int) := by omega
      have hmr : lo ≤ m ∧ m < hi := by omega
      obtain ⟨f, hf⟩ : ∃ f, (orbit.getD m (0, 0)).1 = f := ⟨_, rfl⟩
      have cm := (HC.out m (by omega)).1
      obtain ⟨s0, s1, s2⟩ := orbit_side ⟨m, by omega⟩
      simp only at s0 s1 s2
      rw [hf] at cm s0 s1 s2
      have hltz : (lo : Int) < (hi : Int) := by omega
      have iu : IntKind.u64.wrap ((lo : Int) + (hi : Int)) = (lo : Int) + (hi : Int) := IntWalk.u64_in _ (by omega)
      have ii : IntKind.i64.wrap (m : Int) = (m : Int) := IntWalk.i64_in _ (by omega)
      by_cases hm10 : m < 10
      · have hs : (f : Int) < 383 := by have := s1 hm10; omega
        clear s1 s2 hf hm
        go_wp2
        go_round
        case rel => exact ⟨m + 1, hi, by omega, h2, h3, by go_num, rfl⟩
        case measure => simp [intOf]; omega
      · have hs : ¬ (f : Int) < 383 := by have := s2 (by omega); omega
        clear s1 s2 hf hm
        go_wp2
        go_round
        case rel => exact ⟨lo, m, h1, by omega, by omega, rfl, rfl⟩
        case measure => simp [intOf]; omega
    · obtain rfl : lo = 10 := by omega
      obtain rfl : hi = 10 := by omega
      go_wp2
      go_ret
      exact ⟨rfl, rfl⟩
end Go.Proofs.YtgkibkophoikoaaDoor
