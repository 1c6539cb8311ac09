/- sort.Search over one place; the table's find. -/
import Derived.Test.YtgpkdnnlgafenaaKvFind
import Derived.Test.YtgpkdnnlgafenaaKvFi5
namespace Go.Proofs.Ytgpkdnnlgafenaa
open Go.RowKit Kv
set_option linter.unusedVariables false

set_option maxHeartbeats 800000 in
theorem search1_any (f : Nat) (cb : Array Value) (w : World) (ef : ∀ args w, (callFunc f args).run Try.prog w = .ok (.enter f args) w)
    (hf : ∀ W, Below w.heap.size w W → Calls Try.prog f (#[.int .i64 0] ++ cb) W fun e w' => ∃ b, e = .returned (.bool b) ∧ Below W.heap.size W w') :
    Calls Try.prog 48 #[.int .i64 1, .func (.func f) #[] cb] w fun e w' => ∃ k : Nat, k ≤ 1 ∧ e = .returned (.int .i64 k) ∧ Below w.heap.size w w' := by
  obtain ⟨w0, rfl⟩ : ∃ w0, w0 = w := ⟨_, rfl⟩
  have HF := Lib.hid hf
  clear hf
  go_enter Try.func48, Try.ntmps48
  go_wp2_with fail
  go_loopw [5, 6] (fun a b wr => ∃ lo hi : Nat, a = .int .i64 lo ∧ b = .int .i64 hi ∧ (lo = 0 ∧ hi = 1 ∨ lo = hi ∧ hi ≤ 1) ∧ Below w0.heap.size w0 wr) (fun a b _ => (intOf b - intOf a).toNat)
  case atStart => exact ⟨0, 1, rfl, rfl, .inl ⟨rfl, rfl⟩, Below.refl _ _⟩
  case round =>
    obtain ⟨lo, hi, rfl, rfl, hh, hbel⟩ := hrel
    have HB := Lib.hid hbel
    clear hbel
    rcases hh with ⟨rfl, rfl⟩ | ⟨rfl, hk⟩
    · have hcall := HF.out wr HB.out
      have HC := Lib.hid hcall
      clear hcall
      go_wp2_with fail
      refine HC.out.mono ?_
      rintro e w2 ⟨b, rfl, hb2⟩
      have hb3 : Below w0.heap.size w0 w2 := HB.out.trans (hb2.mono HB.out.size)
      have HB3 := Lib.hid hb3
      clear hb2 hb3
      cases b with
      | true =>
        go_wp2
        go_roundw
        case rel => exact ⟨0, 0, rfl, rfl, .inr ⟨rfl, by omega⟩, HB3.out⟩
        case measure => simp [intOf]
      | false =>
        go_wp2
        go_roundw
        case rel => exact ⟨1, 1, rfl, rfl, .inr ⟨rfl, by omega⟩, HB3.out⟩
        case measure => simp [intOf]
    · go_wp2
      go_ret
      exact ⟨lo, hk, rfl, HB.out⟩
set_option maxHeartbeats 800000 in
theorem find_none (w : World) (t : Nat) (key : ByteArray) (A : Option Addr) (c : Nat) (x : Value) (fr : Nat × Nat) (hh : w.heap[t]? = some (.cells #[.slice A 0 c, x] 67 fr)) :
    Calls Try.prog 38 #[.pointer (some ⟨t, 0, none⟩), .string key] w fun e w' => e = .returned (.tuple #[.int .i64 0, .int .i64 0, .bool false]) ∧ Below w.heap.size w w' := by
  have hlt := (Array.getElem?_eq_some_iff.1 hh).1
  have hc : w.cell? ⟨t, 0, none⟩ = some (.slice A 0 c) := by simp [World.cell?, hh]
  obtain ⟨w1, Hw1⟩ : ∃ w1, Hid (w1 = (w.alloc (.cells #[.pointer (some ⟨t, 0, none⟩)] 23)).alloc (.cells #[.string key] 9)) := ⟨_, Lib.hid rfl⟩
  have hb : Below w.heap.size w w1 := by rw [Hw1.out]; exact ((Below.refl _ _).alloc (Nat.le_refl _) _).alloc (by simp) _
  have HB := Lib.hid hb
  clear hb hh
  go_enter Try.func38, Try.ntmps38
  go_wp2_with fail
  go_ret3
  exact ⟨rfl, by rw [← Hw1.out]; exact HB.out⟩

set_option maxHeartbeats 1600000 in
set_option maxRecDepth 100000 in
theorem find_any (w : World) (t r c1 g c2 : Nat) (F : List Nat) (L : List Ent) (key : ByteArray) (ht : TabN w t F r c1 g c2 L) (hasc : Asc (L.map Ent.pr)) (hlen : L.length ≤ 1000000) :
    Calls Try.prog 38 #[.pointer (some ⟨t, 0, none⟩), .string key] w fun e w' => e = .returned (.tuple #[.int .i64 0, .int .i64 (pos (L.map Ent.pr) key : Int), .bool (hit (L.map Ent.pr) key)]) ∧ Below w.heap.size w w' := by
  obtain ⟨k1, _, k3, k4, _⟩ := ht.cells
  obtain ⟨w1, Hw1⟩ : ∃ w1, Hid (w1 = (w.alloc (.cells #[.pointer (some ⟨t, 0, none⟩)] 23)).alloc (.cells #[.string key] 9)) := ⟨_, Lib.hid rfl⟩
  have hb : Below w.heap.size w w1 := by rw [Hw1.out]; exact ((Below.refl _ _).alloc (Nat.le_refl _) _).alloc (by simp) _
  have hsz : w1.heap.size = w.heap.size + 2 := by rw [Hw1.out]; simp
  obtain ⟨hb0, hb1⟩ := box2 w (.pointer (some ⟨t, 0, none⟩)) (.string key) 23 9
  rw [← Hw1.out] at hb0 hb1
  have hlt : t < w.heap.size := World.block_lt_of_cell? w _ k1
  have hlr : r < w.heap.size := World.block_lt_of_cell? w _ k3
  have keep : ∀ W, Below w1.heap.size w1 W → W.cell? ⟨w.heap.size, 0, none⟩ = some (.pointer (some ⟨t, 0, none⟩)) ∧ W.cell? ⟨w.heap.size + 1, 0, none⟩ = some (.string key) ∧ TabN W t F r c1 g c2 L ∧ Below w.heap.size w W := fun W hW => by
    refine ⟨(hW.cell (p := ⟨w.heap.size, 0, none⟩) (by show w.heap.size < _; omega)).trans hb0, (hW.cell (p := ⟨w.heap.size + 1, 0, none⟩) (by show w.heap.size + 1 < _; omega)).trans hb1, ?_, hb.trans (hW.mono (by omega))⟩
    exact ht.below (hb.trans (hW.mono (by omega)))
  have KEEP := Lib.hid keep
  have HT := Lib.hid ht
  have HASC := Lib.hid hasc
  clear keep hb hb0 hb1 ht hasc hsz
  go_enter Try.func38, Try.ntmps38
  go_wp2_with fail
  rw [← Hw1.out]
  refine (search1_any 49 #[.pointer (some ⟨w.heap.size, 0, none⟩), .pointer (some ⟨w.heap.size + 1, 0, none⟩)] w1 (enters_of Try.func49 (by kernel_rfl) rfl) (fun W hW => by
    obtain ⟨q0, q1, q2, _⟩ := KEEP.out W hW
    refine (first_any _ _ t r c1 g c2 F L key W q0 q1 q2).mono ?_
    rintro e w' ⟨b, rfl, q, rfl⟩
    exact ⟨b, rfl, below_drewN (Below.refl _ _) q⟩)).mono ?_
  rintro e w2 ⟨k, hk, rfl, hb2⟩
  have HB2 := Lib.hid hb2
  obtain ⟨j0, j1, j2, j3⟩ := KEEP.out w2 hb2
  have HJ2 := Lib.hid j2
  have HJ3 := Lib.hid j3
  have h5 := bsf_any g c2 L key
  have H5 := Lib.hid h5
  obtain ⟨P, HP⟩ : ∃ P : Nat, Hid (P = pos (L.map Ent.pr) key) := ⟨_, Lib.hid rfl⟩
  obtain ⟨hh, HH⟩ : ∃ b, Hid (b = hit (L.map Ent.pr) key) := ⟨_, Lib.hid rfl⟩
  rw [← HP.out, ← HH.out] at h5
  replace H5 := Lib.hid h5
  clear hb2 j0 j1 j2 j3 k1 k3 k4 h5
  have hk' : k = 0 ∨ k = 1 := by omega
  rcases hk' with rfl | rfl
  all_goals
    go_wp2_with fail
    refine fi5 w.heap.size (w.heap.size + 1) t r c1 g c2 L.length key (P : Int) hh (fun p R W => Below w1.heap.size w1 W ∧ (0 < p → R 0 = .tuple #[.int .i64 (P : Int), .bool hh])) (by show 35 < 39; omega) rfl rfl rfl
      (fun p R W hS => by
        obtain ⟨q0, q1, q2, _⟩ := KEEP.out W hS.1
        obtain ⟨z1, _, z3, _⟩ := q2.cells
        exact ⟨q0, q1, z1, z3⟩)
      (fun R W hS => (H5.out W (KEEP.out W hS.1).2.2.1.row HASC.out hlen).mono fun e w' he => ⟨_, he.1, hS.1.trans (he.2.mono hS.1.size), fun _ => rfl⟩)
      (fun p R W hS hp => hS.2 hp) ⟨HB2.out.drew, fun h => absurd h (Nat.lt_irrefl _)⟩ ?_
    intro af wN hfr h5 h6 hS
    have HF := Lib.hid (KEEP.out wN hS.1).2.2.2
    clear hS
    have ha := hfr.eq (by intro t ht; simp at ht; show t < 39; omega)
    simp only [List.foldl_cons, List.foldl_nil] at ha
    clear hfr
    rw [h5] at ha
    clear h5
    rw [h6] at ha
    clear h6
    generalize af.eval (.tmp 25) = u25 at ha
    generalize af.eval (.tmp 26) = u26 at ha
    generalize af.eval (.tmp 27) = u27 at ha
    generalize af.eval (.tmp 28) = u28 at ha
    generalize af.eval (.tmp 29) = u29 at ha
    generalize af.eval (.tmp 30) = u30 at ha
    generalize af.eval (.tmp 31) = u31 at ha
    generalize af.eval (.tmp 32) = u32 at ha
    generalize af.eval (.tmp 33) = u33 at ha
    generalize af.eval (.tmp 24) = u24 at ha
    generalize af.eval (.tmp 34) = u34 at ha
    generalize af.eval (.tmp 35) = u35 at ha
    subst ha
    simp only [Act.put, List.setIfInBounds_toArray, List.set_cons_zero, List.set_cons_succ]
    go_wp2
    go_ret3
    exact ⟨by rw [← HP.out, ← HH.out]; rfl, HF.out⟩
end Go.Proofs.Ytgpkdnnlgafenaa
