/- date's monthOf: the walk. -/
import Derived.Test.YtgkibkophoikoaaDoorDtFold
import Derived.Test.YtgkibkophoikoaaDoorDtShow
namespace Go.Proofs.YtgkibkophoikoaaDoor
open Go.RowKit
set_option linter.unusedVariables false
set_option maxRecDepth 100000

set_option maxHeartbeats 1600000 in
theorem monthOf_any (t : ByteArray) (ht : t.size = 3) (r : Int) (hr : r = (Dt.mon t.data.toList : Int)) (w : World) (hW : FW w) : Calls Tryd.prog 25 #[.string t] w fun e w' => e = .returned (.int .i64 r) ∧ Below w.heap.size w w' := by
  have HT := Lib.hid ht
  have HR := Lib.hid hr
  have HW := Lib.hid hW
  clear ht hr hW
  obtain ⟨w0, rfl⟩ : ∃ w0, w0 = w := ⟨_, rfl⟩
  go_enter Tryd.func25, Tryd.ntmps25
  go_wp2
  go_loopw [3] (fun i wr => ∃ k : Nat, 1 ≤ k ∧ k ≤ 13 ∧ i = .int .i64 k ∧ Hid (∀ j, 1 ≤ j → j < k → Dt.fits j t.data.toList = false) ∧ Hid (Below w0.heap.size w0 wr)) (fun i _ => 13 - (intOf i).toNat)
  case atStart => exact ⟨1, by omega, by omega, rfl, Lib.hid (fun j h1 h2 => by omega), Lib.hid (Below.refl _ _)⟩
  case round =>
    obtain ⟨k, h1, h2, rfl, HN, HB⟩ := hrel
    by_cases hlt : k ≤ 12
    · obtain ⟨x, Hx⟩ : ∃ x : ByteArray, Hid (x.data.toList = Dt.mname k) := ⟨⟨(Dt.mname k).toArray⟩, Lib.hid rfl⟩
      have HM := Lib.hid (monthName_any k h1 hlt x Hx.out)
      obtain ⟨b, Hb⟩ : ∃ b, Hid (b = Dt.fits k t.data.toList) := ⟨_, Lib.hid rfl⟩
      have HE := Lib.hid (equalFold_month k h1 hlt x t Hx.out HT.out wr (HW.out.below HB.out))
      rw [← Hb.out] at HE
      go_wp2_with fail
      refine (HM.out _).mono ?_
      rintro e w1 ⟨rfl, rfl⟩
      go_wp2_with fail
      refine HE.out.mono ?_
      rintro e w2 ⟨rfl, hb2⟩
      have HB2 := Lib.hid (HB.out.trans (hb2.mono HB.out.size))
      clear hb2
      cases b with
      | true =>
        have HV : Hid (r = (k : Int)) := Lib.hid (by rw [HR.out, Dt.mon_of h1 hlt Hb.out.symm])
        go_wp2
        go_ret
        exact ⟨by rw [HV.out]; rfl, HB2.out⟩
      | false =>
        have HN2 : Hid (∀ j, 1 ≤ j → j < k + 1 → Dt.fits j t.data.toList = false) := Lib.hid (fun j i1 i2 => by
          by_cases e : j = k
          · subst e; exact Hb.out.symm
          · exact HN.out j i1 (by omega))
        go_wp2
        go_roundw
        case rel => exact ⟨k + 1, by omega, by omega, by go_num, HN2, HB2⟩
        case measure => simp [intOf]; omega
    · obtain rfl : k = 13 := by omega
      have HV : Hid (r = 0) := Lib.hid (by rw [HR.out, Dt.mon_none (fun j i1 i2 => HN.out j i1 (by omega))]; rfl)
      go_wp2
      go_ret
      exact ⟨by rw [HV.out]; rfl, HB.out⟩
end Go.Proofs.YtgkibkophoikoaaDoor
