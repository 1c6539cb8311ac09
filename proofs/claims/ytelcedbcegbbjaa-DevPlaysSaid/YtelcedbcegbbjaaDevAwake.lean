/- What every statement of package dev asks first: that what was flushed is there behind a crash. -/
import Derived.Test.YtelcedbcegbbjaaDevSt
import Derived.Test.YtelcedbcegbbjaaDevAw10
namespace Go.Proofs.Ytelcedbcegbbjaa
open Go.RowKit Dk
set_option linter.unusedVariables false

/-- The conversion of a slice that reads l, in whatever world that the walk has come to. -/
theorem conv_in {w : World} {A : Option Addr} {l : List UInt8} (h : Sees w w.heap.size A l) (z : ByteArray) (hz : z = ⟨l.toArray⟩) (c : Nat) : ∀ W, Below w.heap.size w W → (convert 28 9 (.slice A l.length c)).run Try.prog W = .ok (.string z) W := fun W hb => by
  subst hz
  exact run_sees_string (P := Try.prog) W 28 9 5 Try.underlying28 Try.underlying5 Try.underlying9 (h.below hb (Nat.le_refl _)) l.length c rfl
theorem conv_at {w : World} {B : Nat} {A : Option Addr} {x : UInt8} (h : Sees w B A (secOf x)) (z : ByteArray) (hz : z = secB x) (c : Nat) : (convert 28 9 (.slice A 512 c)).run Try.prog w = .ok (.string z) w := by
  subst hz
  exact run_sees_string (P := Try.prog) w 28 9 5 Try.underlying28 Try.underlying5 Try.underlying9 h 512 c (secOf_length x).symm
/-- Behind world w1, but for a sector of its own once the call has come up. -/
def AwS (w1 : World) (x : UInt8) (p : Nat) (R : Nat → Value) (w : World) : Prop := Below w1.heap.size w1 w ∧ (0 < p → ∃ A2 B2, R 0 = .slice A2 512 512 ∧ Sees w B2 A2 (secOf x))
theorem AwS.conv {w1 w : World} {x : UInt8} {p : Nat} {R : Nat → Value} (h : AwS w1 x p R w) (z : ByteArray) (hz : z = secB x) (hp : 0 < p) : ∃ A2, R 0 = .slice A2 512 512 ∧ (convert 28 9 (.slice A2 512 512)).run Try.prog w = .ok (.string z) w := by
  obtain ⟨A2, B2, h1, h2⟩ := h.2 hp
  exact ⟨A2, h1, conv_at h2 z hz 512⟩
theorem AwS.call (w1 : World) (x : UInt8) (R : Nat → Value) (w : World) (h : AwS w1 x 0 R w) : Calls Try.prog 11 #[.int .u8 (x.toNat : Int)] w fun e w' => ∃ v, e = .returned v ∧ AwS w1 x 1 (setR R 0 v) w' :=
  (sector_any x w).mono fun e w' ⟨h1, h2, h3, h4⟩ => ⟨_, h1, h.1.trans (h4.mono h.1.size), fun _ => ⟨_, _, rfl, h2⟩⟩
theorem below_on {a b c : World} (h : Below a.heap.size a b) (k : Below b.heap.size b c) : Below a.heap.size a c := h.trans (k.mono h.size)

set_option maxHeartbeats 4000000 in
set_option maxRecDepth 100000 in
theorem awake_any (w : World) : Calls Try.prog 8 #[] w fun e w' => e = .returned (.bool true) ∧ Below w.heap.size w w' := by
  obtain ⟨w0, HW0⟩ : ∃ x : World, Hid (x = w) := ⟨_, Lib.hid rfl⟩
  obtain ⟨B, HB⟩ : ∃ B, Hid (B = w.heap.size) := ⟨_, Lib.hid rfl⟩
  have hb0 : Below B w0 w := by rw [HW0.out]; exact Below.refl _ _
  have hB0 : B ≤ w.heap.size := by rw [HB.out]; exact Nat.le_refl _
  rw [← HB.out]
  have hnew := one_new (w0 := w0) 9 (by omega) (by omega) hb0 hB0
  rw [show ((9 : Nat) : Int) = 9 from rfl] at hnew
  have HNEW := Lib.hid hnew
  clear hnew hb0 hB0
  go_enter Try.func8, Try.ntmps8
  go_wp2_with fail
  refine HNEW.out.mono ?_
  rintro e w1 ⟨d, rfl, h1⟩
  go_wp2_with fail
  refine (sector_any 7 _).mono ?_
  rintro e w2 hs
  have e2 := hs.1
  obtain rfl := e2
  rw [fresh_st] at h1
  have hl9 : ∀ x : ByteArray, (List.replicate 9 x).length = 9 := fun x => List.length_replicate
  have HWR := Lib.hid (st_writeSec h1 hs (by decide) 1 (by rw [hl9]; omega))
  obtain ⟨D0, HD0⟩ : ∃ x, Hid (x = List.replicate 9 (secB 0)) := ⟨_, Lib.hid rfl⟩
  have HL := Lib.hid (show D0.length = 9 by rw [HD0.out]; exact hl9 _)
  rw [← HD0.out] at HWR
  clear hs h1 hl9
  go_wp2_with fail
  refine HWR.out.mono ?_
  rintro e w3 ⟨rfl, h3, -⟩
  have HFL := Lib.hid (st_flush h3 (by decide))
  clear h3
  go_wp2_with fail
  refine HFL.out.mono ?_
  rintro e w4 ⟨rfl, h4, -⟩
  obtain ⟨D1, HD1⟩ : ∃ x, Hid (x = putAll D0 ([] ++ [(1, secB 7)])) := ⟨_, Lib.hid rfl⟩
  rw [← HD1.out] at h4
  have HL1 := Lib.hid (show D1.length = 9 by rw [HD1.out, putAll_length]; exact HL.out)
  have H4 := Lib.hid h4
  clear h4
  go_wp2_with fail
  refine (sector_any 8 _).mono ?_
  rintro e w5 hs
  have e2 := hs.1
  obtain rfl := e2
  have HWR2 := Lib.hid (st_writeSec H4.out hs (by decide) 1 (by rw [HL1.out]; omega))
  clear hs
  go_wp2_with fail
  refine HWR2.out.mono ?_
  rintro e w6 ⟨rfl, h6, -⟩
  have HCR := Lib.hid (st_crashes h6 (by decide) none 0 0 [] rfl (Nat.le_refl _) (Nat.zero_le _) (SeesI.nil _ _ _) (-1))
  clear h6
  go_wp2_with fail
  refine HCR.out.mono ?_
  rintro e w7 ⟨rfl, h7, -⟩
  have hfall : fallTo [] (-1) D1 ([] ++ [(1, secB 8)]) ([] ++ [(1, secB 8)]).length = D1 := rfl
  rw [hfall] at h7
  have H7 := Lib.hid h7
  clear h7 hfall
  go_wp2_with fail
  refine (sector_any 9 _).mono ?_
  rintro e w8 hs
  have e2 := hs.1
  obtain rfl := e2
  have HWR3 := Lib.hid (dark_writeSec H7.out hs ((1 : Nat) : Int))
  clear hs
  go_wp2_with fail
  refine HWR3.out.mono ?_
  rintro e w9 ⟨rfl, h9, -⟩
  have HON := Lib.hid (dark_ons h9)
  clear h9
  go_wp2_with fail
  refine HON.out.mono ?_
  rintro e w10 ⟨rfl, h10, -⟩
  have HRD := Lib.hid (st_read h10 1 (secB 7) (by show D1[1]? = _; rw [HD1.out, HD0.out]; exact secs_len 1 9 _ (by omega)))
  have HBB := Lib.hid h10
  clear h10
  go_wp2_with fail
  refine HRD.out.mono ?_
  rintro e w11 ⟨bb, c, rfl, c1, c2, hsee, bb1, bb2, b11⟩
  have h11 := HBB.out.past b11
  obtain ⟨A, HA⟩ : ∃ A : Option Addr, Hid (A = some ⟨bb, 0, none⟩) := ⟨_, Lib.hid rfl⟩
  rw [← HA.out] at hsee ⊢
  rw [secB_toList] at hsee c1
  rw [secB_toList]
  obtain ⟨z, HZ⟩ : ∃ x, Hid (x = secB 7) := ⟨_, Lib.hid rfl⟩
  have hcv := conv_in hsee z HZ.out c
  obtain ⟨n7, HN7⟩ : ∃ x, Hid (x = (secOf 7).length) := ⟨_, Lib.hid rfl⟩
  rw [← HN7.out] at hcv c1 ⊢
  have HBL := Lib.hid h11.bel
  have HBS := Lib.hid h11.size
  have HCV := Lib.hid hcv
  clear hsee h11 b11 hcv bb1 bb2
  go_wp2
  have HBL' : Below B w w11 := by rw [← HW0.out]; exact HBL.out
  refine aw10 A n7 c z (AwS w11 7) (by show 63 < 64; omega) rfl rfl rfl rfl rfl rfl (fun p R w hS => HCV.out w hS.1) (fun p R w hS hp => hS.conv z HZ.out hp) (AwS.call w11 7) ⟨(Below.refl _ _).drew, fun h => absurd h (by decide)⟩ ?_
  intro af wf hfr h0 hS
  go_wp2
  refine bodyPost_ret (results_tmp rfl _ _ _) (hfr.defers.trans rfl) ⟨?_, ?_⟩
  · exact congrArg Ending.returned h0
  · exact HBL'.trans (hS.1.mono HBS.out)
end Go.Proofs.Ytelcedbcegbbjaa
