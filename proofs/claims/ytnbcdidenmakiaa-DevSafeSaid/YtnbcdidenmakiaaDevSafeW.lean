/- The walk of DevSafe. -/
import Derived.Test.YtnbcdidenmakiaaDevLastW
import Derived.Test.YtnbcdidenmakiaaDevSa9
import Derived.Test.YtnbcdidenmakiaaDevSa22
namespace Go.Proofs.Ytnbcdidenmakiaa
open Go.RowKit Dk
set_option linter.unusedVariables false

/-- What the sectors held, in the law's own array: the first k are laid. -/
def WasAt (w : World) (b : Nat) (D : List ByteArray) (k : Nat) : Prop := ∀ j, j < 8 → ∃ s, w.cell? ⟨b, j, none⟩ = some (.string s) ∧ w.frozen? ⟨b, j, none⟩ = false ∧ (j < k → D[j]? = some s)
theorem WasAt.same {w w' : World} {b k : Nat} {D : List ByteArray} {G : List Nat} (h : WasAt w b D k) (hk : Keeps G w w') (hl : b ∈ G) : WasAt w' b D k := fun j hj => by
  obtain ⟨s, h1, h2, h3⟩ := h j hj
  exact ⟨s, (hk.cell hl j).trans h1, (hk.frozen hl j).trans h2, h3⟩
theorem WasAt.put {w : World} {b k : Nat} {D : List ByteArray} (h : WasAt w b D k) (hk : k < 8) (s : ByteArray) (hs : D[k]? = some s) : WasAt (w.setCell ⟨b, k, none⟩ (.string s)) b D (k + 1) := fun j hj => by
  obtain ⟨t, h1, h2, h3⟩ := h j hj
  by_cases e : j = k
  · subst e
    exact ⟨s, World.cell?_setCell_same _ _ _ h1, (World.frozen?_setCell _ _ _ _).trans h2, fun _ => hs⟩
  · exact ⟨t, (World.cell?_setCell_other _ _ _ _ (fun h => e (by injection h with _ h2 _; omega))).trans h1, (World.frozen?_setCell _ _ _ _).trans h2, fun hj => h3 (by omega)⟩
theorem putAll_nil (D : List ByteArray) : putAll D [] = D := rfl

def SafeInv1 (B : Nat) (w0 : World) (d k : Nat) (wr : World) : Prop := ∃ c : List Wr, c.length ≤ k ∧ DevB B w0 [] wr d (st (List.replicate 8 (secB 0)) c)
def SafeInv3 (B : Nat) (w0 : World) (wb ob d : Nat) (D : List ByteArray) (k : Nat) (wr : World) : Prop :=
  ∃ (c : List Wr) (g : Nat → Bool), c.length ≤ k ∧ (∀ j, j < 8 → g j = false → ∀ x ∈ c, x.1 ≠ j) ∧ DevB B w0 [ob, wb] wr d (st D c) ∧ MarkAt wr ob 8 g ∧ WasAt wr wb D 8

set_option maxHeartbeats 8000000 in
set_option maxRecDepth 100000 in
theorem devSafe_walk (A : Option Addr) (len cap : Nat) (l : List ActD) (hlen : len = l.length) (hcap : len ≤ cap) (hmax : cap ≤ maxLen) (A2 : Option Addr) (len2 cap2 : Nat) (l2 : List ActD) (hlen2 : len2 = l2.length) (hcap2 : len2 ≤ cap2) (hmax2 : cap2 ≤ maxLen)
    (A3 : Option Addr) (len3 cap3 : Nat) (keep : List Int) (hlen3 : len3 = keep.length) (hcap3 : len3 ≤ cap3) (hmax3 : cap3 ≤ maxLen) (torn : Int) (htorn : (Lit.int .i64 torn).wf = true) (w : World) (hl : Acts w w.heap.size A l) (hl2 : Acts w w.heap.size A2 l2) (hl3 : SeesI w w.heap.size A3 keep) :
    Calls Try.prog 5 #[.slice A len cap, .slice A2 len2 cap2, .slice A3 len3 cap3, .int .i64 torn] w fun e w' => e = .returned (.bool true) ∧ Below w.heap.size w w' := by
  subst hlen hlen2 hlen3
  have HM3 := Lib.hid hmax3
  unfold maxLen at hmax hmax2 hmax3
  obtain ⟨B, HB⟩ : ∃ B, Hid (B = w.heap.size) := ⟨_, Lib.hid rfl⟩
  obtain ⟨w0, HW0⟩ : ∃ x : World, Hid (x = w) := ⟨_, Lib.hid rfl⟩
  rw [← HB.out]
  have hl0 : Acts w0 B A l := by rw [HW0.out, HB.out]; exact hl
  have hl20 : Acts w0 B A2 l2 := by rw [HW0.out, HB.out]; exact hl2
  have hl30 : SeesI w0 B A3 keep := by rw [HW0.out, HB.out]; exact hl3
  have HAC := Lib.hid hl0
  have HAC2 := Lib.hid hl20
  have HAC3 := Lib.hid hl30
  clear hl hl0 hl2 hl20 hl3 hl30 htorn
  by_cases hbig : 20 < (l.length : Int)
  · go_enter Try.func5, Try.ntmps5
    go_wp2_with fail
    refine (awake_any _).mono ?_
    rintro e w1 ⟨rfl, b1⟩
    rw [← HB.out] at b1
    go_wp2
    go_ret
    exact ⟨rfl, b1⟩
  by_cases hbig2 : 20 < (l2.length : Int)
  · go_enter Try.func5, Try.ntmps5
    go_wp2_with fail
    refine (awake_any _).mono ?_
    rintro e w1 ⟨rfl, b1⟩
    rw [← HB.out] at b1
    go_wp2
    go_ret
    exact ⟨rfl, b1⟩
  by_cases hbig3 : 20 < (keep.length : Int)
  · go_enter Try.func5, Try.ntmps5
    go_wp2_with fail
    refine (awake_any _).mono ?_
    rintro e w1 ⟨rfl, b1⟩
    rw [← HB.out] at b1
    go_wp2
    go_ret
    exact ⟨rfl, b1⟩
  have hd1 : decide (20 < (l.length : Int)) = false := by simpa using hbig
  have hd2 : decide (20 < (l2.length : Int)) = false := by simpa using hbig2
  have hd3 : decide (20 < (keep.length : Int)) = false := by simpa using hbig3
  go_enter Try.func5, Try.ntmps5
  go_wp2_with fail
  refine (awake_any _).mono ?_
  rintro e w1 ⟨rfl, b1⟩
  have hb1 : Below B w0 w1 := by rw [HB.out, HW0.out]; exact b1
  have hB1 : B ≤ w1.heap.size := by rw [HB.out]; exact b1.size
  have hnew := one_new 8 (by omega) (by omega) hb1 hB1
  rw [show ((8 : Nat) : Int) = 8 from rfl] at hnew
  have HNEW := Lib.hid hnew
  clear hnew hb1 hB1 b1
  go_wp2_with fail
  refine HNEW.out.mono ?_
  rintro e w2 ⟨d, rfl, h2⟩
  rw [fresh_st] at h2
  have HI := Lib.hid (show SafeInv1 B w0 d 0 w2 from ⟨[], Nat.le_refl _, h2⟩)
  clear h2
  go_wp2
  go_loopw [11] (fun i wr => ∃ k : Nat, k ≤ l.length ∧ i = .int .i64 k ∧ SafeInv1 B w0 d k wr) (fun i _ => l.length - (intOf i).toNat)
  case atStart => exact ⟨0, Nat.zero_le _, rfl, HI.out⟩
  case round =>
    clear HI
    obtain ⟨k, hk, rfl, c, hc, hd⟩ := hrel
    by_cases hlt : k < l.length
    · obtain ⟨g, o, rfl, hg, hacts⟩ := HAC.out (List.length_pos_iff.1 (by omega))
      have hx := hacts k hlt
      clear hacts
      obtain ⟨x, HX⟩ : ∃ x, Hid (x = l[k]) := ⟨_, Lib.hid rfl⟩
      rw [← HX.out] at hx
      obtain ⟨m, hm8, hm⟩ := and7 x.at_
      have HXX := Lib.hid hx
      have HD := Lib.hid hd
      have HM := Lib.hid hm
      clear hx hd hm
      go_wp2
      refine sa9 g o l.length cap d k m x (WrS B w0 [] wr d (List.replicate 8 (secB 0)) c m x.c) (by show 59 < 144; omega) rfl rfl rfl w0 B hlt hcap (by omega) hg HXX.out HM.out (WrS.base HD.out) (WrS.one HD.out) (WrS.two HD.out (by rw [List.length_replicate]; exact hm8) (by omega)) (Below.refl _ _).drew ?_
      intro af w4 hfr hS
      have ha := hfr.eq (by intro t ht; simp at ht; show t < 144; omega)
      simp only [List.foldl_cons, List.foldl_nil] at ha
      clear hfr
      generalize af.eval (.tmp 46) = u46 at ha
      generalize af.eval (.tmp 47) = u47 at ha
      generalize af.eval (.tmp 48) = u48 at ha
      generalize af.eval (.tmp 49) = u49 at ha
      generalize af.eval (.tmp 50) = u50 at ha
      generalize af.eval (.tmp 51) = u51 at ha
      generalize af.eval (.tmp 52) = u52 at ha
      generalize af.eval (.tmp 53) = u53 at ha
      generalize af.eval (.tmp 54) = u54 at ha
      generalize af.eval (.tmp 55) = u55 at ha
      generalize af.eval (.tmp 56) = u56 at ha
      generalize af.eval (.tmp 57) = u57 at ha
      generalize af.eval (.tmp 58) = u58 at ha
      generalize af.eval (.tmp 59) = u59 at ha
      subst ha
      simp only [Act.put, List.setIfInBounds_toArray, List.set_cons_zero, List.set_cons_succ]
      have HI := Lib.hid (show SafeInv1 B w0 d (k + 1) w4 from ⟨c ++ [(m, secB x.c)], by simp; omega, hS.1⟩)
      clear hS
      go_wp2
      go_roundw
      case rel => exact ⟨k + 1, by omega, by go_num, HI.out⟩
      case measure => simp [intOf]; omega
    · have hkn : k = l.length := by omega
      subst hkn
      have HFL := Lib.hid (st_flush hd (by omega))
      clear hd hlt
      go_wp2_with fail
      refine HFL.out.mono ?_
      rintro e w4 ⟨rfl, h4, -⟩
      obtain ⟨D, HDD⟩ : ∃ D, Hid (D = putAll (List.replicate 8 (secB 0)) c) := ⟨_, Lib.hid rfl⟩
      have hD8 : D.length = 8 := by rw [HDD.out, putAll_length, List.length_replicate]
      rw [← HDD.out] at h4
      have HD8 := Lib.hid hD8
      have h5 := h4.alloc (.cells #[.string ⟨#[]⟩, .string ⟨#[]⟩, .string ⟨#[]⟩, .string ⟨#[]⟩, .string ⟨#[]⟩, .string ⟨#[]⟩, .string ⟨#[]⟩, .string ⟨#[]⟩] 47)
      obtain ⟨w5, HW5⟩ : ∃ x, Hid (x = w4.alloc (.cells #[.string ⟨#[]⟩, .string ⟨#[]⟩, .string ⟨#[]⟩, .string ⟨#[]⟩, .string ⟨#[]⟩, .string ⟨#[]⟩, .string ⟨#[]⟩, .string ⟨#[]⟩] 47)) := ⟨_, Lib.hid rfl⟩
      obtain ⟨wb, HWB⟩ : ∃ x, Hid (x = w4.heap.size) := ⟨_, Lib.hid rfl⟩
      rw [← HWB.out, ← HW5.out] at h5
      have hwas : WasAt w5 wb D 0 := fun j hj => by
        rw [HW5.out, HWB.out]
        refine ⟨⟨#[]⟩, ?_, ?_, fun h => by omega⟩
        · rw [cell_new w4 _ rfl _ _ j]
          match j, hj with
          | 0, _ => rfl
          | 1, _ => rfl
          | 2, _ => rfl
          | 3, _ => rfl
          | 4, _ => rfl
          | 5, _ => rfl
          | 6, _ => rfl
          | 7, _ => rfl
          | n + 8, h => omega
        · have hg := heap_alloc_new w4 (.cells #[.string ⟨#[]⟩, .string ⟨#[]⟩, .string ⟨#[]⟩, .string ⟨#[]⟩, .string ⟨#[]⟩, .string ⟨#[]⟩, .string ⟨#[]⟩, .string ⟨#[]⟩] 47)
          unfold World.frozen?
          simp only [hg]
          simp
      have H5 := Lib.hid h5
      have HWA := Lib.hid hwas
      clear h4 h5 hwas hD8
      go_wp2
      rw [← HW5.out, ← HWB.out]
      obtain ⟨wo, rfl⟩ : ∃ x : World, x = wr := ⟨_, rfl⟩
      go_loopw [13] (fun i wr => ∃ k : Nat, k ≤ 8 ∧ i = .int .i64 k ∧ DevB B w0 [wb] wr d (st D []) ∧ WasAt wr wb D k) (fun i _ => 8 - (intOf i).toNat)
      case atStart => exact ⟨0, Nat.zero_le _, rfl, H5.out, HWA.out⟩
      case round =>
        clear H5 HWA
        obtain ⟨k, hk8, rfl, hd, hwa⟩ := hrel
        by_cases hlt : k < 8
        · obtain ⟨s, HS⟩ : ∃ s, Hid (D[k]? = some s) := ⟨_, Lib.hid (List.getElem?_eq_getElem (by rw [HD8.out]; exact hlt))⟩
          have HRD := Lib.hid (st_read hd k s HS.out)
          have HDQ := Lib.hid hd
          have HWQ := Lib.hid hwa
          clear hd hwa
          go_wp2_with fail
          refine HRD.out.mono ?_
          rintro e w7 ⟨bb, cp, rfl, c1, c2', hsee, bb1, bb2, b7⟩
          obtain ⟨Ab, HAb⟩ : ∃ A : Option Addr, Hid (A = some ⟨bb, 0, none⟩) := ⟨_, Lib.hid rfl⟩
          rw [← HAb.out] at hsee ⊢
          have hss : s = ⟨s.data.toList.toArray⟩ := by cases s; simp
          have hcv := conv_in hsee s hss cp w7 (Below.refl _ _)
          obtain ⟨n7, HN7⟩ : ∃ x, Hid (x = s.data.toList.length) := ⟨_, Lib.hid rfl⟩
          rw [← HN7.out] at hcv ⊢
          have h7 := HDQ.out.past b7
          have hw7 := HWQ.out.same (HDQ.out.keeps b7) (List.mem_singleton.2 rfl)
          obtain ⟨t0, t1, t2, _⟩ := hw7 k hlt
          have i1 : (k : Int) < 8 := by omega
          have i2 : (0 : Int) ≤ (k : Int) := by omega
          have H7 := Lib.hid (h7.put (a := ⟨wb, k, none⟩) (List.mem_singleton.2 rfl) (.string s))
          have HW7 := Lib.hid (hw7.put hlt s HS.out)
          clear hsee hss h7 hw7 b7 bb1 bb2 c1 c2'
          go_wp2
          go_roundw
          case rel => exact ⟨k + 1, by omega, by go_num, H7.out, HW7.out⟩
          case measure => simp [intOf]; omega
        · have hk9 : k = 8 := by omega
          subst hk9
          have h8 := hd.alloc (.cells #[.bool false, .bool false, .bool false, .bool false, .bool false, .bool false, .bool false, .bool false] 48)
          obtain ⟨w8, HW8⟩ : ∃ x, Hid (x = wr.alloc (.cells #[.bool false, .bool false, .bool false, .bool false, .bool false, .bool false, .bool false, .bool false] 48)) := ⟨_, Lib.hid rfl⟩
          obtain ⟨ob, HOB⟩ : ∃ x, Hid (x = wr.heap.size) := ⟨_, Lib.hid rfl⟩
          have hk8 : Keeps [wb] wr w8 := by rw [HW8.out]; exact hd.keeps ((Below.refl _ _).alloc (Nat.le_refl _) _)
          have hov : MarkAt w8 ob 8 (fun _ => false) := by
            rw [HW8.out, HOB.out]
            refine ⟨by simp, fun j hj => ⟨?_, ?_⟩⟩
            · rw [cell_new wr _ rfl _ _ j]
              match j, hj with
              | 0, _ => rfl
              | 1, _ => rfl
              | 2, _ => rfl
              | 3, _ => rfl
              | 4, _ => rfl
              | 5, _ => rfl
              | 6, _ => rfl
              | 7, _ => rfl
              | n + 8, h => omega
            · have hg := heap_alloc_new wr (.cells #[.bool false, .bool false, .bool false, .bool false, .bool false, .bool false, .bool false, .bool false] 48)
              unfold World.frozen?
              simp only [hg]
              simp
          rw [← HOB.out, ← HW8.out] at h8
          have HI := Lib.hid (show SafeInv3 B w0 wb ob d D 0 w8 from ⟨[], fun _ => false, Nat.le_refl _, (fun j _ _ x hx => by cases hx), h8, hov, hwa.same hk8 (List.mem_singleton.2 rfl)⟩)
          clear hd hwa hlt h8 hk8 hov
          go_wp2
          rw [← HW8.out, ← HOB.out]
          obtain ⟨wo2, rfl⟩ : ∃ x : World, x = wr := ⟨_, rfl⟩
          go_loopw [17] (fun i wr => ∃ k : Nat, k ≤ l2.length ∧ i = .int .i64 k ∧ SafeInv3 B w0 wb ob d D k wr) (fun i _ => l2.length - (intOf i).toNat)
          case atStart => exact ⟨0, Nat.zero_le _, rfl, HI.out⟩
          case round =>
            clear HI
            obtain ⟨k, hk, rfl, c, g2, hc, hg2, hd, hov, hwa⟩ := hrel
            by_cases hlt : k < l2.length
            · obtain ⟨g, o, rfl, hg, hacts⟩ := HAC2.out (List.length_pos_iff.1 (by omega))
              have hx := hacts k hlt
              clear hacts
              obtain ⟨x, HX⟩ : ∃ x, Hid (x = l2[k]) := ⟨_, Lib.hid rfl⟩
              rw [← HX.out] at hx
              obtain ⟨m, hm8, hm⟩ := and7 x.at_
              have HXX := Lib.hid hx
              have HD := Lib.hid hd
              have HM := Lib.hid hm
              have HG2 := Lib.hid hg2
              have HOV := Lib.hid hov
              have HWA := Lib.hid hwa
              clear hx hd hm hg2 hov hwa
              go_wp2
              refine sa22 g o l2.length cap2 d k m x (WrS B w0 [ob, wb] wr d D c m x.c) (by show 96 < 144; omega) rfl rfl rfl w0 B hlt hcap2 (by omega) hg HXX.out HM.out (WrS.base HD.out) (WrS.one HD.out) (WrS.two HD.out (by rw [HD8.out]; exact hm8) (by omega)) (Below.refl _ _).drew ?_
              intro af w9 hfr hS
              have ha := hfr.eq (by intro t ht; simp at ht; show t < 144; omega)
              simp only [List.foldl_cons, List.foldl_nil] at ha
              clear hfr
              generalize af.eval (.tmp 83) = u83 at ha
              generalize af.eval (.tmp 84) = u84 at ha
              generalize af.eval (.tmp 85) = u85 at ha
              generalize af.eval (.tmp 86) = u86 at ha
              generalize af.eval (.tmp 87) = u87 at ha
              generalize af.eval (.tmp 88) = u88 at ha
              generalize af.eval (.tmp 89) = u89 at ha
              generalize af.eval (.tmp 90) = u90 at ha
              generalize af.eval (.tmp 91) = u91 at ha
              generalize af.eval (.tmp 92) = u92 at ha
              generalize af.eval (.tmp 93) = u93 at ha
              generalize af.eval (.tmp 94) = u94 at ha
              generalize af.eval (.tmp 95) = u95 at ha
              generalize af.eval (.tmp 96) = u96 at ha
              subst ha
              simp only [Act.put, List.setIfInBounds_toArray, List.set_cons_zero, List.set_cons_succ]
              have hd9 := hS.1
              have hob := hd9.glt (b := ob) (by simp)
              have a1 := (hd9.bel.cell (p := ⟨g, o + k * 5 + 1, none⟩) hg).trans HXX.out.at_
              have n1 : ob ≠ g := by omega
              have n2 : g ≠ ob := by omega
              have hov9 : MarkAt w9 ob 8 g2 := ⟨hob.2, fun j hj => ⟨(hS.2.cell (b := ob) (by simp) j).trans (HOV.out.2 j hj).1, (hS.2.frozen (b := ob) (by simp) j).trans (HOV.out.2 j hj).2⟩⟩
              have hwa9 := HWA.out.same hS.2 (b := wb) (by simp)
              obtain ⟨a4, a5⟩ := hov9.2 m hm8
              have hmm := HM.out
              have i1 : (k : Int) < (l2.length : Int) := by omega
              have i2 : (0 : Int) ≤ (k : Int) := by omega
              have i3 : (m : Int) < 8 := by omega
              have i4 : (0 : Int) ≤ (m : Int) := by omega
              have hwbob : wb ≠ ob := by
                intro e
                subst e
                obtain ⟨s, e1, _⟩ := HWA.out 0 (by omega)
                have := (HOV.out.2 0 (by omega)).1
                rw [e1] at this
                cases this
              have HI : Hid (SafeInv3 B w0 wb ob d D (k + 1) (w9.setCell ⟨ob, m, none⟩ (.bool true))) := Lib.hid ⟨c ++ [(m, secB x.c)], fun j => if j = m then true else g2 j, by simp; omega, fun j hj hgj y hy => by
                have hjm : j ≠ m := fun e => by simp [e] at hgj
                have hgj' : g2 j = false := by simpa [hjm] using hgj
                rcases List.mem_append.1 hy with hy | hy
                · exact HG2.out j hj hgj' y hy
                · rw [List.mem_singleton] at hy; subst hy; exact fun e => hjm e.symm,
                hd9.put (a := ⟨ob, m, none⟩) (by simp) _, hov9.store m hm8 true (fun j _ => rfl), fun j hj => by
                  obtain ⟨s, e1, e2, e3⟩ := hwa9 j hj
                  exact ⟨s, (World.cell?_setCell_other _ _ _ _ (fun h => hwbob (congrArg Addr.block h).symm)).trans e1, (World.frozen?_setCell _ _ _ _).trans e2, e3⟩⟩
              clear hS hd9 hob hov9 hwa9
              go_wp2
              go_roundw
              case rel => exact ⟨k + 1, by omega, by go_num, HI.out⟩
              case measure => simp [intOf]; omega
            · have hkn : k = l2.length := by omega
              subst hkn
              have HCR := Lib.hid (st_crashes hd (by omega) A3 keep.length cap3 keep rfl hcap3 HM3.out ((HAC3.out.below hd.bel (Nat.le_refl _)).mono hd.size) torn)
              have HG2 := Lib.hid hg2
              have HOV := Lib.hid hov
              have HWA := Lib.hid hwa
              clear hd hlt hg2 hov hwa
              go_wp2_with fail
              refine HCR.out.mono ?_
              rintro e w10 ⟨rfl, h10, k10⟩
              have HON := Lib.hid (dark_ons h10)
              have hov10 := (HOV.out.2)
              have HK10 := Lib.hid k10
              clear h10 k10 hov10
              go_wp2_with fail
              refine HON.out.mono ?_
              rintro e w11 ⟨rfl, h11, k11⟩
              obtain ⟨D2, HD2⟩ : ∃ D2, Hid (D2 = fallTo keep torn D c c.length) := ⟨_, Lib.hid rfl⟩
              rw [← HD2.out] at h11
              have hkk := HK10.out.trans k11
              have hov11 : MarkAt w11 ob 8 g2 := ⟨(h11.glt (b := ob) (by simp)).2, fun j hj => ⟨(hkk.cell (b := ob) (by simp) j).trans (HOV.out.2 j hj).1, (hkk.frozen (b := ob) (by simp) j).trans (HOV.out.2 j hj).2⟩⟩
              have hwa11 := HWA.out.same hkk (b := wb) (by simp)
              have hD28 : D2.length = 8 := by rw [HD2.out, fallTo_length]; exact HD8.out
              have hsame : ∀ j, j < 8 → g2 j = false → D2[j]? = D[j]? := fun j hj hgj => by rw [HD2.out]; exact fallTo_over keep torn D c c.length j (HG2.out j hj hgj)
              have H11 := Lib.hid h11
              have HOV11 := Lib.hid hov11
              have HWA11 := Lib.hid hwa11
              have HD28 := Lib.hid hD28
              have HSAME := Lib.hid hsame
              clear h11 k11 hkk hov11 hwa11 hD28 hsame HOV HWA HG2
              go_wp2
              obtain ⟨wo3, rfl⟩ : ∃ x : World, x = wr := ⟨_, rfl⟩
              go_loopw [18] (fun i wr => ∃ k : Nat, k ≤ 8 ∧ i = .int .i64 k ∧ DevB B w0 [ob, wb] wr d (st D2 []) ∧ MarkAt wr ob 8 g2 ∧ WasAt wr wb D 8) (fun i _ => 8 - (intOf i).toNat)
              case atStart => exact ⟨0, Nat.zero_le _, rfl, H11.out, HOV11.out, HWA11.out⟩
              case round =>
                clear H11 HOV11 HWA11
                obtain ⟨k, hk8, rfl, hd, hov, hwa⟩ := hrel
                by_cases hlt : k < 8
                · obtain ⟨s, HS⟩ : ∃ s, Hid (D2[k]? = some s) := ⟨_, Lib.hid (List.getElem?_eq_getElem (by rw [HD28.out]; exact hlt))⟩
                  have hs512 : s.data.toList.length = 512 := hd.ok.sec s (List.mem_of_getElem? HS.out)
                  have HS5 := Lib.hid hs512
                  have HRD := Lib.hid (st_read hd k s HS.out)
                  have HDQ := Lib.hid hd
                  have HOQ := Lib.hid hov
                  have HWQ := Lib.hid hwa
                  clear hd hov hwa hs512
                  go_wp2_with fail
                  refine HRD.out.mono ?_
                  rintro e w12 ⟨bb, cp, rfl, c1, c2', hsee, bb1, bb2, b12⟩
                  obtain ⟨Ab, HAb⟩ : ∃ A : Option Addr, Hid (A = some ⟨bb, 0, none⟩) := ⟨_, Lib.hid rfl⟩
                  rw [← HAb.out] at hsee ⊢
                  have hss : s = ⟨s.data.toList.toArray⟩ := by cases s; simp
                  have hcv0 := conv_in hsee s hss cp
                  rw [HS5.out] at hcv0 ⊢
                  have hcv := fun n => hcv0 (w12.drewN n) (below_drewN (Below.refl _ _) n)
                  have h12 := HDQ.out.past b12
                  have hk12 := HDQ.out.keeps b12
                  have hov12 : MarkAt w12 ob 8 g2 := ⟨(h12.glt (b := ob) (by simp)).2, fun j hj => ⟨(hk12.cell (b := ob) (by simp) j).trans (HOQ.out.2 j hj).1, (hk12.frozen (b := ob) (by simp) j).trans (HOQ.out.2 j hj).2⟩⟩
                  have hwa12 := HWQ.out.same hk12 (b := wb) (by simp)
                  obtain ⟨t0, t1, _, t3⟩ := hwa12 k hlt
                  obtain ⟨o0, _⟩ := hov12.2 k hlt
                  have i1 : (k : Int) < 8 := by omega
                  have i2 : (0 : Int) ≤ (k : Int) := by omega
                  have H12 := Lib.hid h12
                  have HOV12 := Lib.hid hov12
                  have HWA12 := Lib.hid hwa12
                  have ht3 : D[k]? = some t0 := t3 hlt
                  have HT3 := Lib.hid ht3
                  clear hsee hss hcv0 h12 hk12 hov12 hwa12 t3 ht3 b12 bb1 bb2 c1 c2'
                  cases hgk : g2 k
                  case' true =>
                    rw [hgk] at o0
                    clear hcv t1
                  case' false =>
                    have hst : t0 = s := by
                      have e1 := HSAME.out k hlt hgk
                      rw [HS.out, HT3.out] at e1
                      injection e1 with e1
                      exact e1.symm
                    rw [hgk] at o0
                    subst hst
                  all_goals
                    clear hgk
                    go_wp2
                    go_quiet (fail)
                    go_wp2
                    go_roundw
                    case rel => exact ⟨k + 1, by omega, by go_num, H12.out.drewN _, HOV12.out.only (S := []) (Only.of_below (below_drewN (Below.refl _ _) _)) (by simp), HWA12.out.same (G := [wb]) (fun _ _ => rfl) (List.mem_singleton.2 rfl)⟩
                    case measure => simp [intOf]; omega
                · have hk9 : k = 8 := by omega
                  subst hk9
                  have HUN := Lib.hid (one_unsafe hd)
                  have hb := hd.bel
                  have HBB := Lib.hid hb
                  clear hd hov hwa hb hlt
                  go_wp2_with fail
                  refine HUN.out.mono ?_
                  rintro e w' ⟨rfl, rfl⟩
                  have hz0 : (((st D2 []).cache.length : Nat) : Int) = 0 := rfl
                  rw [hz0]
                  go_wp2
                  go_ret
                  exact ⟨rfl, by rw [← HW0.out]; exact HBB.out⟩
end Go.Proofs.Ytnbcdidenmakiaa
