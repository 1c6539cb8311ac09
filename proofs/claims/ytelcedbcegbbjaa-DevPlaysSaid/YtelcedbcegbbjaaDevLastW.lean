/- The walk of DevLast. -/
import Derived.Test.YtelcedbcegbbjaaDevAwake
import Derived.Test.YtelcedbcegbbjaaDevActs
import Derived.Test.YtelcedbcegbbjaaDevLa12
import Derived.Test.YtelcedbcegbbjaaDevLa20
import Derived.StillTailTactics
namespace Go.Proofs.Ytelcedbcegbbjaa
open Go.RowKit Dk
set_option linter.unusedVariables false

theorem and7 (x : Int) : ∃ m : Nat, m < 8 ∧ bits .and .i64 x 7 = (m : Int) := by
  refine ⟨(BitVec.ofInt 64 x &&& BitVec.ofInt 64 7).toNat, ?_, ?_⟩
  · have : (BitVec.ofInt 64 x &&& BitVec.ofInt 64 7).toNat ≤ (BitVec.ofInt 64 7).toNat := by
      rw [BitVec.toNat_and]; exact Nat.and_le_right
    have h7 : (BitVec.ofInt 64 7).toNat = 7 := by decide
    omega
  · have : (BitVec.ofInt 64 x &&& BitVec.ofInt 64 7).toNat ≤ (BitVec.ofInt 64 7).toNat := by
      rw [BitVec.toNat_and]; exact Nat.and_le_right
    have h7 : (BitVec.ofInt 64 7).toNat = 7 := by decide
    show IntKind.i64.wrap ((BitVec.ofInt 64 x &&& BitVec.ofInt 64 7).toNat : Int) = _
    rw [IntWalk.i64_in _ (by omega)]

/-- Behind world wr, the device at d: a sector made, then written. -/
def WrS (B : Nat) (w0 : World) (G : List Nat) (wr : World) (d : Nat) (D : List ByteArray) (c : List Wr) (m : Nat) (x : UInt8) (p : Nat) (R : Nat → Value) (w : World) : Prop :=
  match p with
  | 0 => Below wr.heap.size wr w
  | 1 => ∃ w1, Below wr.heap.size wr w1 ∧ R 0 = .slice (some ⟨w1.heap.size, 0, none⟩) 512 512 ∧ SectorEnd x w1 (.returned (R 0)) w
  | _ => DevB B w0 G w d (st D (c ++ [(m, secB x)])) ∧ Keeps G wr w
section
variable {B d m : Nat} {w0 wr : World} {G : List Nat} {D : List ByteArray} {c : List Wr} {x : UInt8}
theorem WrS.base (h : DevB B w0 G wr d (st D c)) (p : Nat) (R : Nat → Value) (w : World) (hs : WrS B w0 G wr d D c m x p R w) : Below B w0 w := by
  match p, hs with
  | 0, hs => exact h.bel.trans (Below.mono hs h.size)
  | 1, hs =>
    obtain ⟨w1, h1, _, h2⟩ := hs
    have h3 : Below w1.heap.size w1 w := h2.2.2.2
    exact h.bel.trans ((h1.trans (h3.mono h1.size)).mono h.size)
  | p + 2, hs => exact hs.1.bel
theorem WrS.one (h : DevB B w0 G wr d (st D c)) (R : Nat → Value) (w : World) (hs : WrS B w0 G wr d D c m x 0 R w) :
    Calls Try.prog 11 #[.int .u8 (x.toNat : Int)] w fun e w' => ∃ v, e = .returned v ∧ WrS B w0 G wr d D c m x 1 (setR R 0 v) w' := by
  refine (sector_any x w).mono ?_
  rintro e w' he
  obtain ⟨h1, h2, h3, h4⟩ := he
  exact ⟨_, h1, w, hs, rfl, rfl, h2, h3, h4⟩
theorem WrS.two (h : DevB B w0 G wr d (st D c)) (hm : m < D.length) (hc : c.length ≤ 1000) (R : Nat → Value) (w : World) (hs : WrS B w0 G wr d D c m x 1 R w) :
    ∃ A2, R 0 = .slice A2 512 512 ∧ Calls Try.prog 10 #[.pointer (some ⟨d, 0, none⟩), .int .i64 (m : Int), .slice A2 512 512] w fun e w' => ∃ v, e = .returned v ∧ WrS B w0 G wr d D c m x 2 (setR R 1 v) w' := by
  obtain ⟨w1, h1, h2, h3⟩ := hs
  refine ⟨_, h2, (st_writeSec (h.past h1) h3 hc m hm).mono ?_⟩
  rintro e w' ⟨rfl, h4, h5⟩
  exact ⟨_, rfl, h4, (h.keeps h1).trans h5⟩
end

/-- What was written last, in the law's own array. -/
def LastAt (w : World) (lb : Nat) (f : Nat → UInt8) : Prop := ∀ j, j < 8 → w.cell? ⟨lb, j, none⟩ = some (.int .u8 ((f j).toNat : Int)) ∧ w.frozen? ⟨lb, j, none⟩ = false
theorem LastAt.same {w w' : World} {lb : Nat} {f : Nat → UInt8} {G : List Nat} (h : LastAt w lb f) (hk : Keeps G w w') (hl : lb ∈ G) : LastAt w' lb f := fun j hj => ⟨(hk.cell hl j).trans (h j hj).1, (hk.frozen hl j).trans (h j hj).2⟩
theorem LastAt.put {w : World} {lb : Nat} {f g : Nat → UInt8} (h : LastAt w lb f) (m : Nat) (hm : m < 8) (x : UInt8) (hg : ∀ j, g j = if j = m then x else f j) : LastAt (w.setCell ⟨lb, m, none⟩ (.int .u8 (x.toNat : Int))) lb g := fun j hj => by
  rw [hg j]
  refine ⟨?_, (World.frozen?_setCell _ _ _ _).trans (h j hj).2⟩
  by_cases e : j = m
  · subst e
    rw [if_pos rfl]
    exact World.cell?_setCell_same _ _ _ (h j hj).1
  · rw [if_neg e]
    exact (World.cell?_setCell_other _ _ _ _ (fun h => e (by injection h with _ h2 _; omega))).trans (h j hj).1

def LastInv (B : Nat) (w0 : World) (lb d k : Nat) (wr : World) : Prop :=
  ∃ (D : List ByteArray) (c : List Wr) (f : Nat → UInt8), c.length ≤ k ∧ D.length = 8 ∧ (∀ j, j < 8 → (putAll D c)[j]? = some (secB (f j))) ∧ DevB B w0 [lb] wr d (st D c) ∧ LastAt wr lb f
theorem last_write {D : List ByteArray} {c : List Wr} {f : Nat → UInt8} (hD : D.length = 8) (h : ∀ j, j < 8 → (putAll D c)[j]? = some (secB (f j))) (m : Nat) (hm : m < 8) (x : UInt8) : ∀ j, j < 8 → (putAll D (c ++ [(m, secB x)]))[j]? = some (secB (if j = m then x else f j)) := fun j hj => by
  rw [putAll_snoc]
  by_cases e : j = m
  · subst e
    rw [if_pos rfl, List.getElem?_set_self (by rw [putAll_length, hD]; exact hj)]
  · rw [if_neg e, List.getElem?_set_ne (fun h => e h.symm)]
    exact h j hj

set_option maxHeartbeats 8000000 in
set_option maxRecDepth 100000 in
theorem devLast_walk (A : Option Addr) (len cap : Nat) (l : List ActD) (hlen : len = l.length) (hcap : len ≤ cap) (hmax : cap ≤ maxLen) (w : World) (hl : Acts w w.heap.size A l) :
    Calls Try.prog 7 #[.slice A len cap] w fun e w' => e = .returned (.bool true) ∧ Below w.heap.size w w' := by
  subst hlen
  unfold maxLen at hmax
  obtain ⟨B, HB⟩ : ∃ B, Hid (B = w.heap.size) := ⟨_, Lib.hid rfl⟩
  obtain ⟨w0, HW0⟩ : ∃ x : World, Hid (x = w) := ⟨_, Lib.hid rfl⟩
  rw [← HB.out]
  have hl0 : Acts w0 B A l := by rw [HW0.out, HB.out]; exact hl
  have HAC := Lib.hid hl0
  clear hl hl0
  by_cases hbig : 40 < (l.length : Int)
  · go_enter Try.func7, Try.ntmps7
    go_wp2_with fail
    refine (awake_any _).mono ?_
    rintro e w1 ⟨rfl, b1⟩
    rw [← HB.out] at b1
    go_wp2
    go_ret
    exact ⟨rfl, b1⟩
  go_enter Try.func7, Try.ntmps7
  go_wp2_with fail
  refine (awake_any _).mono ?_
  rintro e w1 ⟨rfl, b1⟩
  have hb1 : Below B w0 w1 := by rw [HB.out, HW0.out]; exact b1
  have hB1 : B ≤ w1.heap.size := by rw [HB.out]; exact b1.size
  have hnew := one_new 8 (by omega) (by omega) hb1 hB1
  rw [show ((8 : Nat) : Int) = 8 from rfl] at hnew
  have HNEW := Lib.hid hnew
  clear hnew hb1 hB1 b1
  go_wp2_with fail
  refine HNEW.out.mono ?_
  rintro e w2 ⟨d, rfl, h2⟩
  rw [fresh_st] at h2
  have h3 := h2.alloc (.cells #[.int .u8 0, .int .u8 0, .int .u8 0, .int .u8 0, .int .u8 0, .int .u8 0, .int .u8 0, .int .u8 0] 51)
  obtain ⟨w3, HW3⟩ : ∃ x, Hid (x = w2.alloc (.cells #[.int .u8 0, .int .u8 0, .int .u8 0, .int .u8 0, .int .u8 0, .int .u8 0, .int .u8 0, .int .u8 0] 51)) := ⟨_, Lib.hid rfl⟩
  obtain ⟨lb, HLB⟩ : ∃ x, Hid (x = w2.heap.size) := ⟨_, Lib.hid rfl⟩
  have hinv : LastInv B w0 lb d 0 w3 := by
    rw [← HLB.out, ← HW3.out] at h3
    refine ⟨List.replicate 8 (secB 0), [], fun _ => 0, Nat.le_refl _, List.length_replicate, fun j hj => ?_, h3, fun j hj => ?_⟩
    · show (List.replicate 8 (secB 0))[j]? = _
      rw [List.getElem?_replicate, if_pos hj]
    · rw [HW3.out, HLB.out]
      refine ⟨?_, ?_⟩
      · rw [cell_new w2 _ rfl _ _ j]
        match j, hj with
        | 0, _ => rfl
        | 1, _ => rfl
        | 2, _ => rfl
        | 3, _ => rfl
        | 4, _ => rfl
        | 5, _ => rfl
        | 6, _ => rfl
        | 7, _ => rfl
        | n + 8, h => omega
      · have hg := heap_alloc_new w2 (.cells #[.int .u8 0, .int .u8 0, .int .u8 0, .int .u8 0, .int .u8 0, .int .u8 0, .int .u8 0, .int .u8 0] 51)
        unfold World.frozen?
        simp only [hg]
        simp
  have HI := Lib.hid hinv
  clear h2 h3 hinv
  go_wp2
  rw [← HW3.out, ← HLB.out]
  go_loopw [6] (fun i wr => ∃ k : Nat, k ≤ l.length ∧ i = .int .i64 k ∧ LastInv B w0 lb d k wr) (fun i _ => l.length - (intOf i).toNat)
  case atStart => exact ⟨0, Nat.zero_le _, rfl, HI.out⟩
  case round =>
    clear HI
    obtain ⟨k, hk, rfl, D, c, f, hc, hD, hf, hd, hla⟩ := hrel
    by_cases hlt : k < l.length
    · obtain ⟨g, o, rfl, hg, hacts⟩ := HAC.out (List.length_pos_iff.1 (by omega))
      have hx := hacts k hlt
      clear hacts
      obtain ⟨x, HX⟩ : ∃ x, Hid (x = l[k]) := ⟨_, Lib.hid rfl⟩
      rw [← HX.out] at hx
      obtain ⟨m, hm8, hm⟩ := and7 x.at_
      have HXX := Lib.hid hx
      have HD := Lib.hid hd
      have HF := Lib.hid hf
      have HLA := Lib.hid hla
      have HDL := Lib.hid hD
      have HM := Lib.hid hm
      clear hx hd hf hla hD hm
      go_wp2
      refine la12 g o l.length cap d k m x (WrS B w0 [lb] wr d D c m x.c) (by show 40 < 83; omega) rfl rfl rfl w0 B hlt hcap (by omega) hg HXX.out HM.out (WrS.base HD.out) (WrS.one HD.out) (WrS.two HD.out (by rw [HDL.out]; exact hm8) (by omega)) (Below.refl _ _).drew ?_
      intro af w4 hfr hS
      have ha := hfr.eq (by intro t ht; simp at ht; show t < 83; omega)
      simp only [List.foldl_cons, List.foldl_nil] at ha
      clear hfr
      generalize af.eval (.tmp 27) = u27 at ha
      generalize af.eval (.tmp 28) = u28 at ha
      generalize af.eval (.tmp 29) = u29 at ha
      generalize af.eval (.tmp 30) = u30 at ha
      generalize af.eval (.tmp 31) = u31 at ha
      generalize af.eval (.tmp 32) = u32 at ha
      generalize af.eval (.tmp 33) = u33 at ha
      generalize af.eval (.tmp 34) = u34 at ha
      generalize af.eval (.tmp 35) = u35 at ha
      generalize af.eval (.tmp 36) = u36 at ha
      generalize af.eval (.tmp 37) = u37 at ha
      generalize af.eval (.tmp 38) = u38 at ha
      generalize af.eval (.tmp 39) = u39 at ha
      generalize af.eval (.tmp 40) = u40 at ha
      subst ha
      simp only [Act.put, List.setIfInBounds_toArray, List.set_cons_zero, List.set_cons_succ]
      have hd4 := hS.1
      have hla4 := HLA.out.same hS.2 (List.mem_singleton.2 rfl)
      have hlb := hd4.glt (List.mem_singleton.2 rfl)
      have n1 : lb ≠ g := by omega
      have n2 : g ≠ lb := by omega
      have a1 := (hd4.bel.cell (p := ⟨g, o + k * 5 + 1, none⟩) hg).trans HXX.out.at_
      have a2 := (hd4.bel.cell (p := ⟨g, o + k * 5 + 3, none⟩) hg).trans HXX.out.c
      have a3 := (hd4.bel.cell (p := ⟨g, o + k * 5, none⟩) hg).trans HXX.out.op
      obtain ⟨a4, a5⟩ := hla4 m hm8
      have i1 : (k : Int) < (l.length : Int) := by omega
      have i2 : (0 : Int) ≤ (k : Int) := by omega
      have i3 : (m : Int) < 8 := by omega
      have i4 : (0 : Int) ≤ (m : Int) := by omega
      have hmm := HM.out
      obtain ⟨f2, HF2⟩ : ∃ f2 : Nat → UInt8, Hid (f2 = fun j => if j = m then x.c else f j) := ⟨_, Lib.hid rfl⟩
      have hd5 := hd4.put (a := ⟨lb, m, none⟩) (List.mem_singleton.2 rfl) (.int .u8 (x.c.toNat : Int))
      have hla5 := hla4.put m hm8 x.c (g := f2) (fun j => by rw [HF2.out])
      have hf5 : ∀ j, j < 8 → (putAll D (c ++ [(m, secB x.c)]))[j]? = some (secB (f2 j)) := by rw [HF2.out]; exact last_write HDL.out HF.out m hm8 x.c
      have HD5 := Lib.hid hd5
      have HLA5 := Lib.hid hla5
      have HF5 := Lib.hid hf5
      obtain ⟨c2, HC2⟩ : ∃ c2, Hid (c2 = c ++ [(m, secB x.c)]) := ⟨_, Lib.hid rfl⟩
      have HCL : Hid (c2.length ≤ k + 1) := by rw [HC2.out]; exact Lib.hid (by simp; omega)
      rw [← HC2.out] at HD5 HF5
      clear hS hd4 hla4 hlb hd5 hla5 hf5
      by_cases hop : x.op = 2
      case' pos =>
        have hopb : (x.op == 2) = true := by simpa using hop
        go_wp2
        go_still_tail 12, (by kernel_rfl)
        go_wp2_with fail
        have HFLU := Lib.hid (st_flush ((HD5.out).past (Below.refl _ _).drew) (by have := HCL.out; omega))
        refine HFLU.out.mono ?_
        rintro e w6 ⟨rfl, h6, k6⟩
        have hI : LastInv B w0 lb d (k + 1) w6 := by
          refine ⟨putAll D c2, [], f2, by simp, by rw [putAll_length]; exact HDL.out, HF5.out, h6, ?_⟩
          have hx : LastAt (w4.setCell ⟨lb, m, none⟩ (.int .u8 (x.c.toNat : Int))).drew lb f2 := HLA5.out
          exact hx.same k6 (List.mem_singleton.2 rfl)
        have HI := Lib.hid hI
        clear h6 k6 hI a1 a2 a3 a4 a5
        go_wp2
      case' neg =>
        have hopb : (x.op == 2) = false := by simpa using hop
        have hI : LastInv B w0 lb d (k + 1) (w4.setCell ⟨lb, m, none⟩ (.int .u8 (x.c.toNat : Int))).drew := ⟨D, c2, f2, HCL.out, HDL.out, HF5.out, HD5.out.past (Below.refl _ _).drew, HLA5.out⟩
        have HI := Lib.hid hI
        clear hI
        go_wp2
        go_still_tail 12, (by kernel_rfl)
        go_wp2
      case' neg =>
        generalize (w4.setCell ⟨lb, m, none⟩ (.int .u8 (x.c.toNat : Int))).drew = w6 at HI ⊢
        clear a1 a2 a3 a4 a5
      all_goals
        clear HD5 HLA5 HF5 HCL hopb hmm HD HLA HF
        obtain ⟨D', c', f', hc6, hD6, hf6, hd6, hla6⟩ := HI.out
        have HF6 := Lib.hid hf6
        have HD6 := Lib.hid hd6
        have HLA6 := Lib.hid hla6
        have HC6 := Lib.hid hc6
        have HDL6 := Lib.hid hD6
        clear HI hc6 hD6 hf6 hd6 hla6
        obtain ⟨wo, rfl⟩ : ∃ x : World, x = wr := ⟨_, rfl⟩
        go_loopw [7] (fun j wq => ∃ q : Nat, q ≤ 8 ∧ j = .int .i64 q ∧ DevB B w0 [lb] wq d (st D' c') ∧ LastAt wq lb f') (fun j _ => 8 - (intOf j).toNat)
        case atStart => exact ⟨0, Nat.zero_le _, rfl, HD6.out, HLA6.out⟩
        case round =>
          clear HD6 HLA6
          obtain ⟨q, hq, rfl, hdq, hlaq⟩ := hrel
          by_cases hq8 : q < 8
          · have HRD := Lib.hid (st_read hdq q (secB (f' q)) (HF6.out q hq8))
            have HDQ := Lib.hid hdq
            have HLQ := Lib.hid hlaq
            clear hdq hlaq
            go_wp2_with fail
            refine HRD.out.mono ?_
            rintro e w7 ⟨bb, cp, rfl, c1, c2', hsee, bb1, bb2, b7⟩
            rw [secB_toList] at hsee c1
            rw [secB_toList]
            obtain ⟨z, HZ⟩ : ∃ x, Hid (x = secB (f' q)) := ⟨_, Lib.hid rfl⟩
            obtain ⟨A, HA⟩ : ∃ A : Option Addr, Hid (A = some ⟨bb, 0, none⟩) := ⟨_, Lib.hid rfl⟩
            rw [← HA.out] at hsee ⊢
            have hcv := conv_in hsee z HZ.out cp
            obtain ⟨n7, HN7⟩ : ∃ x, Hid (x = (secOf (f' q)).length) := ⟨_, Lib.hid rfl⟩
            rw [← HN7.out] at hcv c1 ⊢
            have HCV := Lib.hid hcv
            have HB7 := Lib.hid b7
            have hc7 := (((HDQ.out.keeps b7).cell (List.mem_singleton.2 rfl) q).trans (HLQ.out q hq8).1)
            have hlb7 := (HDQ.out.past b7).glt (b := lb) (List.mem_singleton.2 rfl)
            have HCC : Hid (∀ W, Below w7.heap.size w7 W → W.cell? ⟨lb, q, none⟩ = some (.int .u8 ((f' q).toNat : Int))) := Lib.hid (fun W hW => (hW.cell (p := ⟨lb, q, none⟩) hlb7.2).trans hc7)
            clear hsee hcv b7 hc7 hlb7 bb1 bb2
            go_wp2
            refine la20 A n7 cp lb q (f' q) z (AwS w7 (f' q)) (by show 82 < 83; omega) rfl rfl rfl rfl hq8 (fun p R w hS => HCC.out w hS.1) (fun p R w hS => HCV.out w hS.1) (fun p R w hS hp => hS.conv z HZ.out hp) (AwS.call w7 (f' q)) ⟨(Below.refl _ _).drew, fun h => absurd h (by decide)⟩ ?_
            intro af w8 hfr h82 hS
            have ha := hfr.eq (by intro t ht; simp at ht; show t < 83; omega)
            simp only [List.foldl_cons, List.foldl_nil] at ha
            clear hfr
            rw [h82] at ha
            clear h82
            generalize af.eval (.tmp 71) = u71 at ha
            generalize af.eval (.tmp 72) = u72 at ha
            generalize af.eval (.tmp 73) = u73 at ha
            generalize af.eval (.tmp 74) = u74 at ha
            generalize af.eval (.tmp 75) = u75 at ha
            generalize af.eval (.tmp 76) = u76 at ha
            generalize af.eval (.tmp 77) = u77 at ha
            generalize af.eval (.tmp 78) = u78 at ha
            generalize af.eval (.tmp 79) = u79 at ha
            generalize af.eval (.tmp 80) = u80 at ha
            generalize af.eval (.tmp 81) = u81 at ha
            subst ha
            simp only [Act.put, List.setIfInBounds_toArray, List.set_cons_zero, List.set_cons_succ]
            have hb8 := HB7.out.trans (hS.1.mono HB7.out.size)
            have HK8 := Lib.hid hb8
            clear hS hb8
            go_wp2
            go_roundw
            case rel => exact ⟨q + 1, by omega, by go_num, HDQ.out.past HK8.out, HLQ.out.same (HDQ.out.keeps HK8.out) (List.mem_singleton.2 rfl)⟩
            case measure => simp [intOf]; omega
          · have hq9 : q = 8 := by omega
            subst hq9
            have hI : LastInv B w0 lb d (k + 1) wr := ⟨D', c', f', HC6.out, HDL6.out, HF6.out, hdq, hlaq⟩
            have HI := Lib.hid hI
            clear hI hdq hlaq hq8
            go_wp2
            go_roundw
            case rel => exact ⟨k + 1, by omega, by go_num, HI.out⟩
            case measure => simp [intOf]; omega
    · have hkn : k = l.length := by omega
      subst hkn
      have hb := hd.bel
      clear hd hf hla hlt
      go_wp2
      go_ret
      exact ⟨rfl, by rw [← HW0.out]; exact hb⟩
end Go.Proofs.Ytelcedbcegbbjaa
