/- The walks of package octet's quotable, escaped and Quote. -/
import Derived.Test.YtmdbfjfdkgdmnaaDoorProg
import Derived.Test.YtmdbfjfdkgdmnaaDoorLib
import Derived.Test.YtmdbfjfdkgdmnaaDoorOctPure
namespace Go.Proofs.YtmdbfjfdkgdmnaaDoor
open Go.RowKit

theorem ret_bool {a b : Bool} (h : a = b) : Ending.returned (.bool a) = .returned (.bool b) := by rw [h]

set_option maxHeartbeats 400000 in
theorem quotable_int (c : Int) (w : World) (h : 0 ≤ c) : Calls Tryd.prog 22 #[.int .u8 c] w fun e w' => e = .returned (.bool (c.toNat != 0 && c.toNat != 10 && c.toNat != 13 && decide (c.toNat ≤ 127))) ∧ w = w' := by
  by_cases h0 : c = 0
  · subst h0
    go_enter Tryd.func22, Tryd.ntmps22
    go_wp2
    go_ret
    exact ⟨rfl, rfl⟩
  · go_enter Tryd.func22, Tryd.ntmps22
    go_wp2
    all_goals
      go_ret
      refine ⟨ret_bool ?_, rfl⟩
      rw [Bool.eq_iff_iff]; simp; omega

theorem quotable_any (b : UInt8) (r : Bool) (hr : Oct.plainB b = r) (w : World) : Calls Tryd.prog 22 #[.int .u8 (b.toNat : Int)] w fun e w' => e = .returned (.bool r) ∧ w = w' := by
  subst hr
  exact quotable_int _ w (by omega)

set_option maxHeartbeats 400000 in
theorem escaped_int (c : Int) (w : World) (h : 0 ≤ c) : Calls Tryd.prog 23 #[.int .u8 c] w fun e w' => e = .returned (.bool (c.toNat == 34 || c.toNat == 92)) ∧ w = w' := by
  by_cases h0 : c = 34
  · subst h0
    go_enter Tryd.func23, Tryd.ntmps23
    go_wp2
    go_ret
    exact ⟨rfl, rfl⟩
  · go_enter Tryd.func23, Tryd.ntmps23
    go_wp2
    all_goals
      go_ret
      refine ⟨ret_bool ?_, rfl⟩
      rw [Bool.eq_iff_iff]; simp; omega

theorem escaped_any (b : UInt8) (r : Bool) (hr : Oct.escB b = r) (w : World) : Calls Tryd.prog 23 #[.int .u8 (b.toNat : Int)] w fun e w' => e = .returned (.bool r) ∧ w = w' := by
  subst hr
  exact escaped_int _ w (by omega)
end Go.Proofs.YtmdbfjfdkgdmnaaDoor
