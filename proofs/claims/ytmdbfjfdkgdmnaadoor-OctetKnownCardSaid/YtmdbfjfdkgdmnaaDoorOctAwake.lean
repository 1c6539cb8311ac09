/- What every statement of package octet asks first: that the package answers at all. -/
import Derived.Test.YtmdbfjfdkgdmnaaDoorOctAtom
import Derived.Test.YtmdbfjfdkgdmnaaDoorOctFold
import Derived.Test.YtmdbfjfdkgdmnaaDoorOctUnq
namespace Go.Proofs.YtmdbfjfdkgdmnaaDoor
open Go.RowKit

theorem quote_ok (s : ByteArray) (q : ByteArray) (w : World) (h : s.size ≤ 8192) (hq : Oct.quotable s.data.toList = true) (he : q = ⟨(Oct.quoted s.data.toList).toArray⟩) :
    Calls Tryd.prog 6 #[.string s] w fun e w' => e = .returned (.tuple #[.string q, .bool true]) ∧ Below w.heap.size w w' := by
  subst he
  refine (quote_short s w h).mono ?_
  rintro e w' ⟨he, hb⟩
  rw [hq] at he
  exact ⟨he, hb⟩
theorem quote_no (s : ByteArray) (w : World) (hs : s.size ≤ maxLen) (hq : Oct.quotable s.data.toList = false) :
    Calls Tryd.prog 6 #[.string s] w fun e w' => e = .returned (.tuple #[.string ⟨#[]⟩, .bool false]) ∧ Below w.heap.size w w' := by
  by_cases h : s.size ≤ 8192
  · refine (quote_short s w h).mono ?_
    rintro e w' ⟨he, hb⟩
    rw [hq] at he
    exact ⟨he, hb⟩
  · exact quote_long s w hs (by omega)
theorem unquote_ok (s t : ByteArray) (n e : Nat) (w : World) (hs : s.size ≤ 140737488351232) (h : Oct.unquote s.data.toList = (t.data.toList, n, e)) :
    Calls Tryd.prog 7 #[.string s] w fun x w' => x = .returned (.tuple #[.string t, .int .i64 (n : Int), .int .i64 (e : Int)]) ∧ Below w.heap.size w w' := by
  refine (unquote_any s w hs).mono ?_
  rintro x w' ⟨he, hb⟩
  rw [h] at he
  exact ⟨he, hb⟩
theorem fold_ok (s t : ByteArray) (w : World) (hs : s.size ≤ maxLen) (h : t = ⟨(Oct.fold s.data.toList).toArray⟩) :
    Calls Tryd.prog 17 #[.string s] w fun e w' => e = .returned (.string t) ∧ Below w.heap.size w w' := by
  subst h
  exact fold_any s w hs

set_option maxHeartbeats 800000 in
theorem awake_any (w : World) : Calls Tryd.prog 5 #[] w fun e w' => e = .returned (.bool true) ∧ Below w.heap.size w w' := by
  go_enter Tryd.func5, Tryd.ntmps5
  go_wp2_with fail
  refine (quote_ok ⟨#[97, 34, 98]⟩ ⟨#[34, 97, 92, 34, 98, 34]⟩ _ (by decide) (by decide) (by decide)).mono ?_
  rintro e w1 ⟨rfl, hb1⟩
  go_wp2_with fail
  refine (unquote_ok ⟨#[34, 97, 92, 34, 98, 34, 32, 120]⟩ ⟨#[97, 34, 98]⟩ 6 0 _ (by decide) (by decide)).mono ?_
  rintro e w2 ⟨rfl, hb2⟩
  go_wp2_with fail
  refine (atom_any ⟨#[97]⟩ true (by decide) _ (by decide)).mono ?_
  rintro e w3 ⟨rfl, rfl⟩
  go_wp2_with fail
  refine (fold_ok ⟨#[97, 66]⟩ ⟨#[97, 98]⟩ _ (by decide) (by decide)).mono ?_
  rintro e w4 ⟨rfl, hb4⟩
  go_wp2
  go_ret
  exact ⟨rfl, hb1.trans ((hb2.mono hb1.size).trans (hb4.mono (Nat.le_trans hb1.size hb2.size)))⟩
end Go.Proofs.YtmdbfjfdkgdmnaaDoor
