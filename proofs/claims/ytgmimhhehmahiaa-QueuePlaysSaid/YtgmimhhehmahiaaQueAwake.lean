/- What every statement of package queue asks first: that the package answers at all. -/
import Derived.Test.YtgmimhhehmahiaaQueMove
import Derived.Lib.SlBytesConst
namespace Go.Proofs.Ytgmimhhehmahiaa
open Go.Conc Go.RowKit

theorem below_alloc (w : World) (o : Obj) : Below w.heap.size w (w.alloc o) := (Below.refl _ _).alloc (Nat.le_refl _) _
theorem Try.sizeByte : ∀ w, (Go.sizeOf 5).run Try.prog w = .ok 1 w := fun _ => by kernel_rfl

/-- Put of a slice in a new block. -/
theorem put_new (w : World) (cs : Array Value) (fr : Nat × Nat) (l : List UInt8) (hcs : cs.toList = bv l) (n : Nat) (hn : n = l.length) (cp : Nat) (hl : l.length ≤ 140737488355328) {q c room : Nat} {xs : List (List UInt8)} (h : Que w q c room false xs) (hlt : xs.length < room) :
    Calls Try.prog 11 #[.pointer (some ⟨q, 0, none⟩), .slice (some ⟨w.heap.size, 0, none⟩) n cp] (w.alloc (.cells cs 5 fr)) fun e w' => e = .returned (.bool true) ∧ Que w' q c room false (xs ++ [l]) ∧ Only [c] w w' ∧ w.heap.size < w'.heap.size := by
  have hs := (Sees.newMark w 5 cs fr l hcs)
  refine (put_ok _ n cp l hn _ (h.below (below_alloc w _)) hlt (hs.mono (by simp)) hl).mono ?_
  rintro e w' ⟨rfl, h1, h2⟩
  refine ⟨rfl, h1, (Only.of_below (below_alloc w _)).trans h2, ?_⟩
  have := h2.size
  simp at this
  omega
theorem put_new_full (w : World) (cs : Array Value) (fr : Nat × Nat) (l : List UInt8) (hcs : cs.toList = bv l) (n : Nat) (hn : n = l.length) (cp : Nat) (hl : l.length ≤ 140737488355328) {q c room : Nat} {xs : List (List UInt8)} (h : Que w q c room false xs) (hlt : room ≤ xs.length) :
    Calls Try.prog 11 #[.pointer (some ⟨q, 0, none⟩), .slice (some ⟨w.heap.size, 0, none⟩) n cp] (w.alloc (.cells cs 5 fr)) fun e w' => e = .returned (.bool false) ∧ Below w.heap.size w w' := by
  have hs := (Sees.newMark w 5 cs fr l hcs)
  refine (put_full _ n cp l hn _ (h.below (below_alloc w _)) hlt (hs.mono (by simp)) hl).mono ?_
  rintro e w' ⟨rfl, h1⟩
  exact ⟨rfl, (below_alloc w _).trans (h1.mono (by simp))⟩

set_option maxHeartbeats 800000 in
theorem awake_any (w : World) : Calls Try.prog 8 #[] w fun e w' => e = .returned (.bool true) ∧ Below w.heap.size w w' := by
  have hkc := fun (w : World) (C : Array Value) (n c : Nat) => Lib.run_convert_bytes_const (P := Try.prog) w 27 5 C n c Try.underlying27 Try.underlying5
  go_enter Try.func8, Try.ntmps8
  go_wp2_with fail
  refine (new_ok 2 _ (by omega) (by omega)).mono ?_
  rintro e w1 ⟨q, rfl, hq, hq1, hq2, hb1⟩
  go_wp2_with fail
  refine (put_new w1 _ _ [120] rfl _ rfl _ (by decide) hq (by decide)).mono ?_
  rintro e w2 ⟨rfl, h2, o2, z2⟩
  go_wp2_with fail
  refine (put_new w2 _ _ [121] rfl _ rfl _ (by decide) h2 (by decide)).mono ?_
  rintro e w3 ⟨rfl, h3, o3, z3⟩
  go_wp2_with fail
  refine (put_new_full w3 _ _ [122] rfl _ rfl _ (by decide) h3 (by decide)).mono ?_
  rintro e w4 ⟨rfl, b4⟩
  have h4 := h3.below b4
  go_wp2_with fail
  refine (take_ok w4 h4).mono ?_
  rintro e w5 ⟨A, cp, rfl, a1, a2, a3, a4, a5⟩
  have hconv := run_sees_string (P := Try.prog) w5 27 9 5 Try.underlying27 Try.underlying5 Try.underlying9 a3 1 cp rfl
  go_wp2_with fail
  refine (len_any w5 a4).mono ?_
  rintro e w6 ⟨rfl, rfl⟩
  go_wp2
  go_ret
  refine ⟨rfl, ?_⟩
  have z1 := hb1.size
  have b5 : Only [w.heap.size] w1 w5 := ((o2.trans o3).trans (Only.of_below b4)).trans a5
  exact hb1.trans (b5.below1 z1 (Nat.le_refl _))
end Go.Proofs.Ytgmimhhehmahiaa
