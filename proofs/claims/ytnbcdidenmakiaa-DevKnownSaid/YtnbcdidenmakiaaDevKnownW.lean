/- The walk of DevKnown. -/
import Derived.Test.YtnbcdidenmakiaaDevAwake
import Derived.Test.YtnbcdidenmakiaaDevKn25
namespace Go.Proofs.Ytnbcdidenmakiaa
open Go.RowKit Dk
set_option linter.unusedVariables false

theorem tear_lo (a b : UInt8) (j : Nat) (h : j < 256) : (tear (secB a) (secB b)).data.toList[j]? = some a := by
  show ((secOf a).take 256 ++ (secOf b).drop 256)[j]? = some a
  have hl : ((secOf a).take 256).length = 256 := by rw [List.length_take, secOf_length]; rfl
  rw [List.getElem?_append_left (by omega), List.getElem?_take, if_pos h, List.getElem?_eq_getElem (by rw [secOf_length]; omega), secOf_at]
theorem tear_hi (a b : UInt8) (j : Nat) (h : 256 ≤ j) (h2 : j < 512) : (tear (secB a) (secB b)).data.toList[j]? = some b := by
  show ((secOf a).take 256 ++ (secOf b).drop 256)[j]? = some b
  have hl : ((secOf a).take 256).length = 256 := by rw [List.length_take, secOf_length]; rfl
  rw [List.getElem?_append_right (by omega), hl, List.getElem?_drop, List.getElem?_eq_getElem (by rw [secOf_length]; omega), secOf_at]
theorem sees_cell {w : World} {B b j : Nat} {l : List UInt8} {x : UInt8} (h : Sees w B (some ⟨b, 0, none⟩) l) (hj : l[j]? = some x) : w.cell? ⟨b, j, none⟩ = some (.int .u8 (x.toNat : Int)) := by
  obtain ⟨hl, e⟩ := List.getElem?_eq_some_iff.1 hj
  obtain ⟨g, o, e1, _, hc⟩ := h (List.length_pos_iff.1 (by omega))
  injection e1 with e1
  injection e1 with e1 e2 _
  subst e1; subst e2
  have := hc j hl
  rw [Nat.zero_add, e] at this
  exact this
/-- Behind world w1, but for a sector of its own once the first call has come up; the second has answered 4. -/
def KnS (w1 : World) (p : Nat) (R : Nat → Value) (w : World) : Prop := Below w1.heap.size w1 w ∧ (0 < p → ∃ A2 B2, R 0 = .slice A2 512 512 ∧ Sees w B2 A2 (secOf 0)) ∧ (1 < p → R 1 = .int .i64 4)
theorem KnS.conv {w1 w : World} {p : Nat} {R : Nat → Value} (h : KnS w1 p R w) (z : ByteArray) (hz : z = secB 0) (hp : 0 < p) : ∃ A2, R 0 = .slice A2 512 512 ∧ (convert 28 9 (.slice A2 512 512)).run Try.prog w = .ok (.string z) w := by
  obtain ⟨A2, B2, h1, h2⟩ := h.2.1 hp
  exact ⟨A2, h1, conv_at h2 z hz 512⟩
theorem KnS.one (w1 : World) (R : Nat → Value) (w : World) (h : KnS w1 0 R w) : Calls Try.prog 11 #[.int .u8 0] w fun e w' => ∃ v, e = .returned v ∧ KnS w1 1 (setR R 0 v) w' :=
  (sector_any 0 w).mono fun e w' ⟨h1, h2, h3, h4⟩ => ⟨_, h1, h.1.trans (h4.mono h.1.size), fun _ => ⟨_, _, rfl, h2⟩, fun h => absurd h (by decide)⟩
theorem KnS.two (w1 : World) (d : Nat) (hc : ∀ W, Below w1.heap.size w1 W → Calls Try.prog 19 #[.pointer (some ⟨d, 0, none⟩)] W fun e w' => e = .returned (.int .i64 4) ∧ W = w') (R : Nat → Value) (w : World) (h : KnS w1 1 R w) :
    Calls Try.prog 19 #[.pointer (some ⟨d, 0, none⟩)] w fun e w' => ∃ v, e = .returned v ∧ KnS w1 2 (setR R 1 v) w' :=
  (hc w h.1).mono fun e w' ⟨h1, h2⟩ => by
    subst h2
    obtain ⟨A2, B2, e1, e2⟩ := h.2.1 (by decide)
    exact ⟨_, h1, h.1, fun _ => ⟨A2, B2, e1, e2⟩, fun _ => rfl⟩
theorem write_bad (S : Disk) (at_ : Int) (b : ByteArray) (h : S.takes at_ b.size = false) : S.write at_ b = S ∧ (S.off = false → S.writeE at_ b.size = 1) := by
  unfold Disk.write Disk.writeE
  rw [h]
  cases S.off
  · exact ⟨rfl, fun _ => rfl⟩
  · exact ⟨rfl, fun h => by cases h⟩

theorem sees_keeps {w w' : World} {B b : Nat} {l : List UInt8} {G : List Nat} (h : Sees w B (some ⟨b, 0, none⟩) l) (hk : Keeps G w w') (hb : b ∈ G) (hlt : b < w'.heap.size) : Sees w' w'.heap.size (some ⟨b, 0, none⟩) l := fun hn => by
  obtain ⟨g, o, e1, _, hc⟩ := h hn
  injection e1 with e1
  injection e1 with e1 e2 _
  subst e1; subst e2
  exact ⟨b, 0, rfl, hlt, fun j hj => (hk.cell hb _).trans (hc j hj)⟩

set_option maxHeartbeats 16000000 in
set_option maxRecDepth 100000 in
theorem devKnown_walk (w : World) : Calls Try.prog 3 #[] w fun e w' => e = .returned (.bool true) ∧ Below w.heap.size w w' := by
  obtain ⟨B, HB⟩ : ∃ B, Hid (B = w.heap.size) := ⟨_, Lib.hid rfl⟩
  obtain ⟨w0, HW0⟩ : ∃ x : World, Hid (x = w) := ⟨_, Lib.hid rfl⟩
  rw [← HB.out]
  go_enter Try.func3, Try.ntmps3
  go_wp2_with fail
  refine (awake_any _).mono ?_
  rintro e w1 ⟨rfl, b1⟩
  have hb1 : Below B w0 w1 := by rw [HB.out, HW0.out]; exact b1
  have hB1 : B ≤ w1.heap.size := by rw [HB.out]; exact b1.size
  have hnew := one_new 4 (by omega) (by omega) hb1 hB1
  rw [show ((4 : Nat) : Int) = 4 from rfl] at hnew
  have HNEW := Lib.hid hnew
  clear hnew hb1 hB1 b1
  go_wp2_with fail
  refine (new_bad 0 _ (by omega)).mono ?_
  rintro e w' ⟨rfl, rfl⟩
  go_wp2_with fail
  refine (new_bad 8193 _ (by omega)).mono ?_
  rintro e w' ⟨rfl, rfl⟩
  go_wp2_with fail
  refine HNEW.out.mono ?_
  rintro e w2 ⟨d, rfl, h2⟩
  have h2 : DevB B w0 [] w2 d (st [secB 0, secB 0, secB 0, secB 0] []) := h2
  obtain ⟨z, HZ⟩ : ∃ x, Hid (x = secB 0) := ⟨_, Lib.hid rfl⟩
  rw [← HZ.out] at h2
  have H2 := Lib.hid h2
  clear h2
  go_wp2_with fail
  refine (sector_any 1 _).mono ?_
  rintro e w3 hs
  have e2 := hs.1
  obtain rfl := e2
  have hw := one_writeSec H2.out hs (Nat.zero_le _) 4
  have hbad := write_bad (st [z, z, z, z] []) 4 (secB 1) (by unfold Disk.takes; rw [secB_size]; rfl)
  rw [secB_size] at hbad
  rw [hbad.1, hbad.2 rfl] at hw
  have HWR := Lib.hid hw
  clear hs hw hbad
  go_wp2_with fail
  refine HWR.out.mono ?_
  rintro e w4 ⟨rfl, h4, -⟩
  have H4 := Lib.hid h4
  clear h4
  go_wp2_with fail
  refine (sector_any 1 _).mono ?_
  rintro e w5 ⟨rfl, s1, s2, s3⟩
  have hsl : ∀ W, (Instr.slice 28 (.slice (some ⟨w4.heap.size, 0, none⟩) 512 512) none (some (.int .i64 511)) none).run Try.prog W = .ok (.slice (some ⟨w4.heap.size, 0, none⟩) 511 512) W := fun W => by
    have ht : Try.prog.underlying 28 = some (.slice (Try.prog.elem 28)) := by simp [Program.elem, Try.underlying28]
    have he : Try.prog.elem 28 = 5 := by simp [Program.elem, Try.underlying28]
    have hz : (Go.sizeOf 5).run Try.prog W = .ok 1 W := by kernel_rfl
    rw [run_slice_h W _ _ _ _ ht .i64 _ (by omega) (by omega), he, hz]
    simp [Result.andThen, sliced, add_to]
  have hw := one_write H4.out s3 (Nat.zero_le _) 0 w4.heap.size 511 512 ((secOf 1).take 511) (by rw [List.length_take, secOf_length]; rfl) (by omega) (by decide) ((s1.take 511).mono s2) (Nat.le_refl _)
  have hl5 : ((secOf 1).take 511).length = 511 := by rw [List.length_take, secOf_length]; rfl
  have hz5 : (⟨((secOf 1).take 511).toArray⟩ : ByteArray).size = 511 := by show ((secOf 1).take 511).toArray.size = 511; rw [List.size_toArray, hl5]
  have hbad := write_bad (st [z, z, z, z] []) 0 ⟨((secOf 1).take 511).toArray⟩ (by rw [hz5]; rfl)
  rw [hz5] at hbad
  rw [hl5, hbad.1, hbad.2 rfl] at hw
  have HWR2 := Lib.hid hw
  clear s1 s2 s3 hw hbad hl5 hz5
  go_wp2_with fail
  refine HWR2.out.mono ?_
  rintro e w6 ⟨rfl, h6, -⟩
  have H6 := Lib.hid h6
  have hrd := one_read h6 (-1)
  have HRD := Lib.hid hrd
  clear h6 hrd
  go_wp2_with fail
  refine HRD.out.mono ?_
  rintro e w7 ⟨A7, n7, c7, rfl, e2, e3, e4, e5, e6, -⟩
  have hre : (st [z, z, z, z] []).readE (-1) = 1 := rfl
  rw [hre]
  have h7 := H6.out.past e6
  have H7 := Lib.hid h7
  clear e2 e3 e4 e5 e6 h7 hre
  go_wp2_with fail
  refine (sector_any 1 _).mono ?_
  rintro e w8 hs
  have e2 := hs.1
  obtain rfl := e2
  have HWR3 := Lib.hid (st_writeSec H7.out hs (Nat.zero_le _) 0 (by show 0 < 4; omega))
  clear hs
  go_wp2_with fail
  refine HWR3.out.mono ?_
  rintro e w9 ⟨rfl, h9, -⟩
  have H9 := Lib.hid h9
  clear h9
  go_wp2_with fail
  refine (sector_any 2 _).mono ?_
  rintro e w10 hs
  have e2 := hs.1
  obtain rfl := e2
  have HWR4 := Lib.hid (st_writeSec H9.out hs (by simp) 1 (by show 1 < 4; omega))
  clear hs
  go_wp2_with fail
  refine HWR4.out.mono ?_
  rintro e w11 ⟨rfl, h11, -⟩
  have H11 := Lib.hid h11
  clear h11
  go_wp2_with fail
  refine (sector_any 3 _).mono ?_
  rintro e w12 hs
  have e2 := hs.1
  obtain rfl := e2
  have HWR5 := Lib.hid (st_writeSec H11.out hs (by simp) 0 (by show 0 < 4; omega))
  clear hs
  go_wp2_with fail
  refine HWR5.out.mono ?_
  rintro e w13 ⟨rfl, h13, -⟩
  have h13 : DevB B w0 [] w13 d (st [z, z, z, z] [(0, secB 1), (1, secB 2), (0, secB 3)]) := h13
  have HUN := Lib.hid (one_unsafe h13)
  have H13 := Lib.hid h13
  clear h13
  go_wp2_with fail
  refine HUN.out.mono ?_
  rintro e w' ⟨rfl, rfl⟩
  have hlen3 : (((st [z, z, z, z] [(0, secB 1), (1, secB 2), (0, secB 3)]).cache.length : Nat) : Int) = 3 := rfl
  rw [hlen3]
  clear hlen3
  have hkp : ∀ W, Below w13.heap.size w13 W → ∀ N, W.cell? ⟨N, 0, none⟩ = some (.int .i64 0) → N < W.heap.size → Calls Try.prog 14 #[.pointer (some ⟨d, 0, none⟩), .slice (some ⟨N, 0, none⟩) 1 1, .int .i64 2] W (OneEnd B w0 [] d (dark [tear (secB 3) (secB 1), z, z, z]) (.tuple #[]) W) := fun W hb N hN hlt =>
    one_crash (H13.out.past hb) (by show 3 ≤ 1000; omega) (some ⟨N, 0, none⟩) 1 1 [0] rfl (Nat.le_refl _) (by decide) (fun _ => ⟨N, 0, rfl, hlt, fun j hj => by
      have : j = 0 := by simp at hj; omega
      subst this; exact hN⟩) 2
  have HKP := Lib.hid hkp
  clear hkp
  go_wp2_with fail
  refine (HKP.out _ ((Below.refl _ _).alloc (Nat.le_refl _) _) _ (cell_new _ _ rfl _ _ 0) (by simp)).mono ?_
  rintro e w14 ⟨rfl, h14, -⟩
  have H14 := Lib.hid h14
  have HOF := Lib.hid (one_off h14)
  clear h14
  go_wp2_with fail
  refine HOF.out.mono ?_
  rintro e w' ⟨rfl, rfl⟩
  have hoff : (dark [tear (secB 3) (secB 1), z, z, z]).off = true := rfl
  rw [hoff]
  clear hoff
  have HON := Lib.hid (dark_ons H14.out)
  go_wp2_with fail
  refine HON.out.mono ?_
  rintro e w15 ⟨rfl, h15, -⟩
  have H15 := Lib.hid h15
  have HRX := Lib.hid (st_read h15 0 (tear (secB 3) (secB 1)) rfl)
  rw [show ((0 : Nat) : Int) = 0 from rfl] at HRX
  clear h15
  have hlt' : (tear (secB 3) (secB 1)).data.toList.length = 512 := tear_size (secB_size 3) (secB_size 1)
  have HLT := Lib.hid hlt'
  clear hlt'
  go_wp2_with fail
  refine HRX.out.mono ?_
  rintro e w16 ⟨bx, cx, rfl, c1, c2, hsee, bx1, bx2, b16⟩
  have hx0 := sees_cell hsee (tear_lo 3 1 0 (by omega))
  have hx1 := sees_cell hsee (tear_lo 3 1 255 (by omega))
  have hx2 := sees_cell hsee (tear_hi 3 1 256 (by omega) (by omega))
  have h16 := H15.out.more b16 bx bx1 bx2
  rw [HLT.out]
  have HX := Lib.hid (⟨hx0, hx1, hx2⟩ : _ ∧ _ ∧ _)
  have H16 := Lib.hid h16
  have HRY := Lib.hid (st_read h16 1 z rfl)
  rw [show ((1 : Nat) : Int) = 1 from rfl] at HRY
  have HC1 : Hid (512 ≤ cx) := Lib.hid (by rw [← HLT.out]; exact c1)
  clear hsee hx0 hx1 hx2 h16 b16 bx1 bx2 c1 c2
  go_wp2_with fail
  refine HRY.out.mono ?_
  rintro e w17 ⟨by_, cy, rfl, c1, c2, hsee, by1, by2, b17⟩
  have hzl : z.data.toList = secOf 0 := by rw [HZ.out]; rfl
  rw [hzl] at hsee ⊢
  rw [secOf_length]
  have hy0 := sees_cell (j := 0) hsee (by rw [List.getElem?_eq_getElem (by rw [secOf_length]; omega), secOf_at])
  have h17 := H16.out.more b17 by_ by1 by2
  have hk17 := H16.out.keeps b17
  have HX17 : Hid (w17.cell? ⟨bx, 0, none⟩ = some (.int .u8 3) ∧ w17.cell? ⟨bx, 255, none⟩ = some (.int .u8 3) ∧ w17.cell? ⟨bx, 256, none⟩ = some (.int .u8 1) ∧ w17.cell? ⟨by_, 0, none⟩ = some (.int .u8 0)) :=
    Lib.hid ⟨(hk17.cell (List.mem_singleton.2 rfl) 0).trans HX.out.1, (hk17.cell (List.mem_singleton.2 rfl) 255).trans HX.out.2.1, (hk17.cell (List.mem_singleton.2 rfl) 256).trans HX.out.2.2, hy0⟩
  have H17 := Lib.hid h17
  have HC2 : Hid (512 ≤ cy) := Lib.hid (by rw [hzl, secOf_length] at c1; exact c1)
  clear hsee hy0 h17 hk17 b17 by1 by2 c1 c2 HX hzl
  have harm := one_arm H17.out 2 (by decide) none 0 0 [] rfl (by decide) (SeesI.nil _ _ _) (fun a ha => by cases ha) (-1)
  have HARM : Hid (Calls Try.prog 17 #[.pointer (some ⟨d, 0, none⟩), .int .i64 2, .slice none 0 0, .int .i64 (-1)] w17 (OneEnd B w0 [by_, bx] d ⟨[tear (secB 3) (secB 1), z, z, z], [], false, 2, [], -1⟩ (.tuple #[]) w17)) := Lib.hid harm
  clear harm
  go_wp2_with fail
  refine HARM.out.mono ?_
  rintro e w18 ⟨rfl, h18, k18⟩
  have hw := one_writeNil h18 (Nat.zero_le _) 9
  have hbad := write_bad (⟨[tear (secB 3) (secB 1), z, z, z], [], false, 2, [], -1⟩ : Disk) 9 ⟨#[]⟩ rfl
  rw [show (⟨#[]⟩ : ByteArray).size = 0 from rfl] at hbad
  rw [hbad.1, hbad.2 rfl] at hw
  have HWN := Lib.hid hw
  have K18 := Lib.hid k18
  clear hw hbad h18 k18
  go_wp2_with fail
  refine HWN.out.mono ?_
  rintro e w19 ⟨rfl, h19, k19⟩
  have H19 := Lib.hid h19
  have K19 := Lib.hid (K18.out.trans k19)
  clear h19 k19 K18
  go_wp2_with fail
  refine (sector_any 5 _).mono ?_
  rintro e w20 hs
  have e2 := hs.1
  obtain rfl := e2
  have hw := one_writeSec H19.out hs (Nat.zero_le _) 2
  have hwe : (⟨[tear (secB 3) (secB 1), z, z, z], [], false, 2, [], -1⟩ : Disk).write 2 (secB 5) = ⟨[tear (secB 3) (secB 1), z, z, z], [(2, secB 5)], false, 1, [], -1⟩ := by
    simp [Disk.write, Disk.takes, Disk.blows, Disk.blow, secB_size]
  have hwf : (⟨[tear (secB 3) (secB 1), z, z, z], [], false, 2, [], -1⟩ : Disk).writeE 2 512 = 0 := by
    simp [Disk.writeE, Disk.takes, Disk.blows]
  rw [hwe, hwf] at hw
  have HWA := Lib.hid hw
  clear hw hwe hwf hs
  go_wp2_with fail
  refine HWA.out.mono ?_
  rintro e w21 ⟨rfl, h21, k21⟩
  have hfl := one_flush h21 (by show 1 ≤ 1000; omega)
  have HFL : Hid (Calls Try.prog 18 #[.pointer (some ⟨d, 0, none⟩)] w21 (OneEnd B w0 [by_, bx] d (dark [tear (secB 3) (secB 1), z, z, z]) (.int .i64 7) w21)) := Lib.hid hfl
  have K21 := Lib.hid (K19.out.trans k21)
  clear hfl h21 k21 K19
  go_wp2_with fail
  refine HFL.out.mono ?_
  rintro e w22 ⟨rfl, h22, k22⟩
  have HON2 := Lib.hid (dark_ons h22)
  have K22 := Lib.hid (K21.out.trans k22)
  clear h22 k22 K21
  go_wp2_with fail
  refine HON2.out.mono ?_
  rintro e w23 ⟨rfl, h23, k23⟩
  have H23 := Lib.hid h23
  have K23 := Lib.hid (K22.out.trans k23)
  have HRZ := Lib.hid (st_read h23 2 z rfl)
  rw [show ((2 : Nat) : Int) = 2 from rfl] at HRZ
  clear h23 k23 K22
  go_wp2_with fail
  refine HRZ.out.mono ?_
  rintro e w24 ⟨bz, cz, rfl, c1, c2, hsee, bz1, bz2, b24⟩
  have hzl : z.data.toList = secOf 0 := by rw [HZ.out]; rfl
  rw [hzl] at hsee c1 ⊢
  rw [secOf_length] at c1 ⊢
  have h24 := H23.out.more b24 bz bz1 bz2
  have K24 := Lib.hid (K23.out.trans (H23.out.keeps b24))
  have H24 := Lib.hid h24
  have HSZ := Lib.hid hsee
  have HFL2 := Lib.hid (st_flush h24 (by decide))
  clear hsee h24 b24 bz1 bz2 K23 hzl
  go_wp2_with fail
  refine HFL2.out.mono ?_
  rintro e w25 ⟨rfl, h25, k25⟩
  have hk := K24.out.trans (k25.less (G' := [by_, bx]) (fun x hx => List.mem_cons_of_mem _ hx))
  have hs25 := sees_keeps HSZ.out k25 (List.mem_cons_self ..) (h25.glt (List.mem_cons_self ..)).2
  have hz25 : (secOf 0).length = 512 := secOf_length 0
  have hcz := conv_in hs25 z HZ.out cz
  rw [hz25] at hcz
  obtain ⟨f0, f1, f2, f3⟩ := HX17.out
  have g0 := (hk.cell (b := bx) (by simp) 0).trans f0
  have g1 := (hk.cell (b := bx) (by simp) 255).trans f1
  have g2 := (hk.cell (b := bx) (by simp) 256).trans f2
  have g3 := (hk.cell (b := by_) (by simp) 0).trans f3
  have hbx := (h25.glt (b := bx) (by simp)).2
  have hby := (h25.glt (b := by_) (by simp)).2
  have HG : Hid (∀ W, Below w25.heap.size w25 W → W.cell? ⟨bx, 0, none⟩ = some (.int .u8 3) ∧ W.cell? ⟨bx, 255, none⟩ = some (.int .u8 3) ∧ W.cell? ⟨bx, 256, none⟩ = some (.int .u8 1) ∧ W.cell? ⟨by_, 0, none⟩ = some (.int .u8 0)) :=
    Lib.hid (fun W hW => ⟨(hW.cell (p := ⟨bx, 0, none⟩) hbx).trans g0, (hW.cell (p := ⟨bx, 255, none⟩) hbx).trans g1, (hW.cell (p := ⟨bx, 256, none⟩) hbx).trans g2, (hW.cell (p := ⟨by_, 0, none⟩) hby).trans g3⟩)
  have H25 := Lib.hid h25
  have HNS := Lib.hid (fun W (hb : Below w25.heap.size w25 W) => one_sectors (h25.past hb))
  have HCZ := Lib.hid hcz
  have HCC := Lib.hid (⟨HC1.out, HC2.out⟩ : 512 ≤ cx ∧ 512 ≤ cy)
  clear h25 k25 hk hs25 f0 f1 f2 f3 HX17 g0 g1 g2 g3 hbx hby hcz hz25
  go_wp2
  refine kn25 d bx cx by_ cy bz cz z (KnS w25) (by show 179 < 180; omega) rfl rfl rfl rfl rfl rfl rfl rfl rfl rfl rfl rfl rfl rfl rfl HCC.out (fun p R w hS => HG.out w hS.1) (fun p R w hS => HCZ.out w hS.1) (fun p R w hS hp => hS.conv z HZ.out hp)
    (KnS.one w25) (KnS.two w25 d HNS.out) (fun p R w hS hp => hS.2.2 hp) ⟨(Below.refl _ _).drew, fun h => absurd h (by decide), fun h => absurd h (by decide)⟩ ?_
  intro af wf hfr h0 hS
  go_wp2
  refine bodyPost_ret (results_tmp rfl _ _ _) (hfr.defers.trans rfl) ⟨?_, ?_⟩
  · exact congrArg Ending.returned h0
  · rw [← HW0.out]; exact (H25.out.past hS.1).bel
end Go.Proofs.Ytnbcdidenmakiaa
