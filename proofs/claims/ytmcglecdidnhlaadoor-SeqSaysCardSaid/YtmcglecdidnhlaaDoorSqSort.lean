/- seq's sortedNumbers: the walk, over the contract of slices.Sort. -/
import Derived.Test.YtmcglecdidnhlaaDoorSqApp
import Derived.Test.YtmcglecdidnhlaaDoorSqRet
import Derived.Test.YtmcglecdidnhlaaDoorShelC
namespace Go.Proofs.YtmcglecdidnhlaaDoor
open Go.RowKit
open Go.Sort (Holds putRow mapBlock grow heap_grow_old holds_putRow holds_ahead holds_grow)
set_option linter.unusedVariables false
set_option maxRecDepth 100000

theorem below_put {B : Nat} (w : World) (n blk off : Nat) (d : Array Int) (os : Array Obj) (hB : B ≤ blk) (hBw : B ≤ w.heap.size) : Below B w (grow (putRow (Value.int .i64) (Go.Sort.ahead w n) blk off d) os) := by
  have hs : (putRow (Value.int .i64) (Go.Sort.ahead w n) blk off d).heap.size = w.heap.size := by
    simp [putRow, mapBlock, Go.Sort.ahead]
  refine ⟨rfl, rfl, rfl, ?_, fun k hk => ?_⟩
  · show _ ≤ ((putRow (Value.int .i64) (Go.Sort.ahead w n) blk off d).heap ++ os).size
    rw [Array.size_append, hs]; omega
  · rw [heap_grow_old _ _ (by rw [hs]; omega)]
    show (w.heap.modify blk _)[k]? = _
    rw [Array.getElem?_modify, if_neg (by omega)]
theorem holds_ints {w : World} {g o : Nat} {l : List Int} (hc : ∀ j (h : j < l.length), w.cell? ⟨g, o + j, none⟩ = some (.int .i64 l[j])) (hf : ∀ j, j < l.length → w.frozen? ⟨g, o + j, none⟩ = false) : Holds (Value.int .i64) w g o l.toArray := fun j hj => by
  have hj' : j < l.length := by simpa using hj
  refine ⟨?_, hf j hj'⟩
  rw [hc j hj', getElem!_pos l.toArray j hj]; simp
theorem ints_of_holds {w : World} {g o : Nat} {l : List Int} (hg : g < w.heap.size) (h : Holds (Value.int .i64) w g o l.toArray) : Ints w w.heap.size (some ⟨g, o, none⟩) l := fun _ =>
  ⟨g, o, rfl, hg, fun j hj => by
    have hj' : j < l.toArray.size := by simpa using hj
    rw [(h j hj').1, getElem!_pos l.toArray j hj']; simp⟩
/-- slices.Sort on a row of the call's own. -/
theorem sort_own (B : Nat) (A : Option Addr) (n c : Nat) (l : List Int) (w : World) (hn : n = l.length) (h : w.ownsRow B 2 1 (.slice A n c) n (li l)) (hB : B ≤ w.heap.size) (hl : n ≤ 1000000) :
    Calls Tryd.prog 36 #[.slice A n c] w fun e w' => e = .returned (.tuple #[]) ∧ Below B w w' ∧ Ints w' w'.heap.size A (Sq.sorted l) := by
  subst hn
  by_cases h0 : l = []
  · subst h0
    refine (Tryd.slices_Sort_i64_none A c w).mono ?_
    rintro e w' ⟨rfl, rfl⟩
    exact ⟨rfl, Below.refl _ _, fun hn => absurd (by simp [Sq.sorted]) hn⟩
  · have hpos : 0 < l.length := List.length_pos_iff.2 h0
    rcases h.2 with ⟨hv, hz⟩ | ⟨g, cap, cur, hv, hb, hg, hnc, hcm, hcs, htake⟩
    · omega
    · injection hv with h1 h2 h3
      subst h1 h3
      have hg' : g < w.heap.size := (Array.getElem?_eq_some_iff.1 hg).1
      have hH : Holds (Value.int .i64) w g 0 l.toArray := holds_ints (fun j hj => by
        have := h.cells (g := g) rfl j _ (li_at l j hj)
        rwa [add_to] at this) (fun j hj => by simp [World.frozen?, hg])
      refine (Tryd.slices_Sort_i64 g 0 c l w hH hg' (by omega)).mono ?_
      rintro e w' ⟨rfl, n, os, rfl⟩
      have hs : (putRow (Value.int .i64) (Go.Sort.ahead w n) g 0 (Sq.sorted l).toArray).heap.size = w.heap.size := by simp [putRow, mapBlock, Go.Sort.ahead]
      have h2 : Holds (Value.int .i64) (putRow (Value.int .i64) (Go.Sort.ahead w n) g 0 (Sq.sorted l).toArray) g 0 (Sq.sorted l).toArray := holds_putRow _ _ _ _ l.toArray _ (holds_ahead _ w n g 0 _ hH) (by simp [Sq.sorted])
      have h3 := holds_grow (Value.int .i64) _ os g 0 _ (by rw [hs]; exact hg') h2
      refine ⟨rfl, below_put w n g 0 _ os hb hB, ints_of_holds ?_ h3⟩
      show g < ((putRow (Value.int .i64) (Go.Sort.ahead w n) g 0 (Sq.sorted l).toArray).heap ++ os).size
      rw [Array.size_append, hs]; omega

def SortEnd (l : List Int) (w : World) (e : Ending) (w' : World) : Prop := ∃ A c, e = .returned (.slice A l.length c) ∧ l.length ≤ c ∧ c ≤ maxLen ∧ Ints w' w'.heap.size A l ∧ Below w.heap.size w w'
set_option maxHeartbeats 1600000 in
theorem sorted_any (A : Option Addr) (n c : Nat) (l : List Int) (w : World) (hn : n = l.length) (hm : n ≤ 1000) (hp : Ints w w.heap.size A l) :
    Calls Tryd.prog 24 #[.slice A n c] w (SortEnd (Sq.sorted (l.filter Sq.ok)) w) := by
  subst hn
  obtain ⟨w0, rfl⟩ : ∃ w0, w0 = w := ⟨_, rfl⟩
  have HP := Lib.hid hp
  clear hp
  go_enter Tryd.func24, Tryd.ntmps24
  go_wp2
  go_loopw [3, 8] (fun b i wr => ∃ (k : Nat) (Ab : Option Addr) (cb : Nat) (q : List Int), k ≤ l.length ∧ b = .slice Ab q.length cb ∧ i = .int .i64 k ∧ q.length ≤ k ∧ Hid (q = (l.take k).filter Sq.ok) ∧ Hid (wr.ownsRow w0.heap.size 2 1 (.slice Ab q.length cb) q.length (li q) ∧ Below w0.heap.size w0 wr)) (fun _ i _ => l.length - (intOf i).toNat)
  case atStart => exact ⟨0, none, 0, [], Nat.zero_le _, rfl, rfl, Nat.zero_le _, Lib.hid rfl, Lib.hid ⟨World.ownsRow_nil _ _ _ _, Below.refl _ _⟩⟩
  case round =>
    obtain ⟨k, Ab, cb, q, hk, rfl, rfl, hqk, HQ, HR⟩ := hrel
    by_cases hlt : k < l.length
    · have hwz := HR.out.2.size
      obtain ⟨g, o, rfl, hg, k1⟩ := (HP.out.below HR.out.2 (Nat.le_refl _)).at k hlt
      have hgw : g < wr.heap.size := by omega
      have hso : (l.take (k + 1)).filter Sq.ok = q ++ (if Sq.ok l[k] then [l[k]] else []) := by
        rw [List.take_succ_eq_append_getElem hlt, List.filter_append, HQ.out]
        congr 1
        cases h : Sq.ok l[k] <;> simp [h]
      obtain ⟨x, Hx⟩ : ∃ x, Hid (x = l[k]) := ⟨_, Lib.hid rfl⟩
      rw [← Hx.out] at k1 hso
      have HSO := Lib.hid hso
      clear hso
      by_cases h1 : 1 ≤ x
      · have d1 : decide (1 ≤ x) = true := by simpa using h1
        by_cases h2 : x ≤ 4294967295
        · have d2 : decide (x ≤ 4294967295) = true := by simpa using h2
          have HN : Hid ((l.take (k + 1)).filter Sq.ok = q ++ [x]) := Lib.hid (by rw [HSO.out, if_pos (by unfold Sq.ok; rw [d1, d2]; rfl)])
          obtain ⟨v', w3, hr, h31, h32, h33, A3, c3, rfl⟩ := int_app wr 30 w0.heap.size _ q q.length rfl HR.out.1 x (by omega) hwz
          have HR3 := Lib.hid hr
          have e3 : (q ++ [x]).length = q.length + 1 := by simp
          have HW3 : Hid (w3.ownsRow w0.heap.size 2 1 (.slice A3 (q ++ [x]).length c3) (q ++ [x]).length (li (q ++ [x])) ∧ Below w0.heap.size w0 w3) := Lib.hid ⟨by rw [e3]; exact h31, HR.out.2.trans h33⟩
          clear h1 h2 hr h31 h32 h33 e3
          go_wp2_with (at_builtin; refine wpList_append_run rfl _ _ 30 rfl _ _ _ rfl rfl _ _ (by exact HR3.out) ?_)
          go_roundw
          case rel => exact ⟨k + 1, A3, c3, q ++ [x], by omega, by simp, by go_num, by simp; omega, Lib.hid HN.out.symm, HW3⟩
          case measure => simp [intOf]; omega
        · have d2 : decide (x ≤ 4294967295) = false := by simpa using h2
          have HN : Hid ((l.take (k + 1)).filter Sq.ok = q) := Lib.hid (by rw [HSO.out, if_neg (by unfold Sq.ok; rw [d1, d2]; simp)]; simp)
          clear h1 h2
          go_wp2
          go_roundw
          case rel => exact ⟨k + 1, Ab, cb, q, by omega, rfl, by go_num, by omega, Lib.hid HN.out.symm, HR⟩
          case measure => simp [intOf]; omega
      · have d1 : decide (1 ≤ x) = false := by simpa using h1
        have HN : Hid ((l.take (k + 1)).filter Sq.ok = q) := Lib.hid (by rw [HSO.out, if_neg (by unfold Sq.ok; rw [d1]; simp)]; simp)
        clear h1
        go_wp2
        go_roundw
        case rel => exact ⟨k + 1, Ab, cb, q, by omega, rfl, by go_num, by omega, Lib.hid HN.out.symm, HR⟩
        case measure => simp [intOf]; omega
    · obtain rfl : k = l.length := by omega
      have HF : Hid (q = l.filter Sq.ok) := Lib.hid (by rw [HQ.out, List.take_length])
      have HC := Lib.hid (sort_own w0.heap.size Ab q.length cb q wr rfl HR.out.1 HR.out.2.size (by omega))
      have HCAP : Hid (q.length ≤ cb ∧ cb ≤ maxLen) := Lib.hid (by
        obtain ⟨_, _, e1, hcap, hcm⟩ := own_shape HR.out.1
        injection e1 with _ _ e1
        subst e1
        exact ⟨hcap, hcm⟩)
      go_wp2_with fail
      refine HC.out.mono ?_
      rintro e w1 ⟨rfl, hb1, hi1⟩
      have key : SortEnd (Sq.sorted (l.filter Sq.ok)) w0 (.returned (.slice Ab q.length cb)) w1 := by
        refine ⟨Ab, cb, ?_, ?_, HCAP.out.2, ?_, HR.out.2.trans hb1⟩
        · rw [Sq.sorted_length, ← HF.out]
        · rw [Sq.sorted_length, ← HF.out]; exact HCAP.out.1
        · rw [← HF.out]; exact hi1
      have KEY := Lib.hid key
      clear key hb1 hi1
      go_wp2
      go_ret
      exact KEY.out
end Go.Proofs.YtmcglecdidnhlaaDoor
