/- SeqOrder: the walk. -/
import Derived.Test.YtmcglecdidnhlaaDoorSqAwake
import Derived.Test.YtmcglecdidnhlaaDoorSqOr10
import Derived.Test.YtmcglecdidnhlaaDoorSqOrd9
import Derived.Test.YtmcglecdidnhlaaDoorSqPar
namespace Go.Proofs.YtmcglecdidnhlaaDoor
open Go.RowKit
set_option linter.unusedVariables false
set_option maxRecDepth 100000

def turned (L : List (Int × Int)) (j : Nat) : List (Int × Int) := (L.drop j).reverse.map Sq.flip2
theorem turned_next (L : List (Int × Int)) (j : Nat) (h : j < L.length) : turned L j = turned L (j + 1) ++ [(L[j].2, L[j].1)] := by
  unfold turned
  rw [List.drop_eq_getElem_cons h, List.reverse_cons, List.map_append]
  rfl

set_option maxHeartbeats 6400000 in
theorem seqOrder_walk (A : Option Addr) (n c : Nat) (L : List (Int × Int)) (hn : n = L.length) (hc : n ≤ c) (hcm : c ≤ maxLen) (x : Int) (wx : (Lit.int .i64 x).wf = true) (y : Int) (wy : (Lit.int .i64 y).wf = true) (w : World) (hp : Pairs w w.heap.size A L) (hw : SW w) :
    Calls Tryd.prog 6 #[.agg #[.slice A n c], .int .i64 x, .int .i64 y] w fun e w' => e = .returned (.bool true) ∧ Below w.heap.size w w' := by
  subst hn
  clear wx wy hc hcm
  obtain ⟨w0, rfl⟩ : ∃ w0, w0 = w := ⟨_, rfl⟩
  obtain ⟨w1, Hw1⟩ : ∃ w1, Hid (w1 = w0.alloc (.cells #[.slice A L.length c] 25)) := ⟨_, Lib.hid rfl⟩
  have hb1 : Below w0.heap.size w0 w1 := by rw [Hw1.out]; exact (Below.refl _ w0).alloc (Nat.le_refl _) _
  have hs1 : w1.heap.size = w0.heap.size + 1 := by rw [Hw1.out]; simp
  have hx1 : Blk w1 w0.heap.size 25 #[.slice A L.length c] := by rw [Hw1.out]; exact Blk.new w0 _ _
  have HW : Hid (∀ W, Below w1.heap.size w1 W → Below w0.heap.size w0 W ∧ Pairs W w0.heap.size A L ∧ SW W ∧ W.cell? ⟨w0.heap.size, 0, none⟩ = some (.slice A L.length c)) := Lib.hid (fun W hb => by
    have h0 := hb1.trans (hb.mono hb1.size)
    exact ⟨h0, hp.below h0 (Nat.le_refl _), hw.below h0, (hx1.below hb hx1.lt).cell 0 _ rfl⟩)
  have HS1 := Lib.hid hs1
  clear hp hw hb1 hx1 hs1
  go_enter Tryd.func6, Tryd.ntmps6
  go_wp2_with fail
  rw [← Hw1.out]
  refine (awake_any w1 (HW.out w1 (Below.refl _ _)).2.2.1).mono ?_
  rintro e w2 ⟨rfl, hb2⟩
  have HB2 := Lib.hid hb2
  have z0 := (HW.out w2 hb2).2.2.2
  clear hb2
  by_cases h60 : L.length ≤ 60
  case neg =>
    have b1 : (60 : Int) < (L.length : Int) := by omega
    have b2 : 60 < L.length := by omega
    go_wp2
    go_ret
    exact ⟨rfl, (HW.out w2 HB2.out).1⟩
  have b1 : ¬ (60 : Int) < (L.length : Int) := by omega
  have b2 : ¬ 60 < L.length := by omega
  obtain ⟨w3, Hw3⟩ : ∃ w3, Hid (w3 = w2.alloc (.cells #[.slice none 0 0] 25)) := ⟨_, Lib.hid rfl⟩
  have hb3 : Below w2.heap.size w2 w3 := by rw [Hw3.out]; exact (Below.refl _ w2).alloc (Nat.le_refl _) _
  have hx3 : Blk w3 w2.heap.size 25 #[.slice none 0 0] := by rw [Hw3.out]; exact Blk.new w2 _ _
  have HB3 : Hid (Below w1.heap.size w1 w3) := Lib.hid (HB2.out.trans (hb3.mono HB2.out.size))
  have z1 : (w2.alloc (.cells #[.slice none 0 0] 25)).cell? ⟨w0.heap.size, 0, none⟩ = some (.slice A L.length c) := by rw [← Hw3.out]; exact (HW.out w3 HB3.out).2.2.2
  obtain ⟨bt, Hbt⟩ : ∃ bt, Hid (bt = w2.heap.size) := ⟨_, Lib.hid rfl⟩
  have HI0 : Hid (PaInv 25 48 w2.heap.size w2 w3 bt none 0 0 (turned L L.length)) := Lib.hid (by
    refine ⟨hb3, by rw [Hbt.out]; exact hx3, by simp [turned], ?_⟩
    have : turned L L.length = [] := by simp [turned]
    rw [this]
    exact World.ownsRow_nil _ _ _ _)
  have hbw : w0.heap.size < w2.heap.size := by have := HB2.out.size; rw [HS1.out] at this; omega
  have HBW := Lib.hid hbw
  clear hb3 hx3 hbw
  go_wp2
  rw [← Hw3.out, ← Hbt.out]
  clear z1
  go_loopw [8] (fun i wr => ∃ (j m : Nat) (A2 : Option Addr) (c2 : Nat), j ≤ L.length ∧ m + j = L.length ∧ i = .int .i64 ((j : Int) - 1) ∧ Hid (PaInv 25 48 w2.heap.size w2 wr bt A2 m c2 (turned L j))) (fun i _ => (intOf i + 1).toNat)
  case atStart => exact ⟨L.length, 0, none, 0, Nat.le_refl _, by omega, by go_num, HI0⟩
  case round =>
    obtain ⟨j0, m, A2, c2, hj, hmj, rfl, HI⟩ := hrel
    have HBR : Hid (Below w1.heap.size w1 wr) := Lib.hid (HB2.out.trans (HI.out.bel.mono HB2.out.size))
    have z2 := (HW.out wr HBR.out).2.2.2
    cases j0 with
    | succ j =>
      have hlt : j < L.length := by omega
      have e1 : ((j + 1 : Nat) : Int) - 1 = (j : Int) := by omega
      rw [e1]
      have HP := Lib.hid (HW.out wr HBR.out).2.1
      obtain ⟨g, o, rfl, hg, k1, k2⟩ := HP.out.at j hlt
      have i1 : (j : Int) < (L.length : Int) := by omega
      have i2 : (0 : Int) ≤ (j : Int) := by omega
      obtain ⟨x2, Hx⟩ : ∃ x, Hid (x = L[j]) := ⟨_, Lib.hid rfl⟩
      rw [← Hx.out] at k1 k2
      obtain ⟨a, b⟩ := x2
      simp only at k1 k2
      have HTK : Hid (turned L j = turned L (j + 1) ++ [(b, a)]) := Lib.hid (by rw [turned_next L j hlt, ← Hx.out])
      have hbtB : w2.heap.size ≤ bt := by rw [Hbt.out]; exact Nat.le_refl _
      have hml : m ≤ 1000 := by omega
      have HPW : Hid (∀ W : World, (∀ i, i < w2.heap.size → W.heap[i]? = w2.heap[i]?) → W.cell? ⟨w0.heap.size, 0, none⟩ = some (.slice (some ⟨g, o, none⟩) L.length c) ∧ W.cell? ⟨g, o + j * 2 + 1, none⟩ = some (.int .i64 b) ∧ W.cell? ⟨g, o + j * 2, none⟩ = some (.int .i64 a)) := Lib.hid (fun W hW => by
        have hcl : ∀ q j, q < w2.heap.size → W.cell? ⟨q, j, none⟩ = wr.cell? ⟨q, j, none⟩ := fun q j hq => World.cell?_of_block (w := wr) ((hW q hq).trans (HI.out.bel.block q hq).symm)
        have := HBW.out
        exact ⟨(hcl _ _ (by omega)).trans z2, (hcl _ _ (by omega)).trans k2, (hcl _ _ (by omega)).trans k1⟩)
      clear k1 k2 z2
      go_wp2
      refine sqord9 w0.heap.size g o L.length c j bt m c2 A2 b a (PaS 25 48 w2.heap.size wr bt (.slice A2 m c2) m (turned L (j + 1)) b a) (by show 41 < 51; omega) rfl rfl rfl i1 (fun f R w h => HPW.out w fun i hi => (h.far HI.out.row hbtB hi (by have := HI.out.bel.size; omega)).trans (HI.out.bel.block i hi)) (fun f R w h h2 => (h.box0 h2).cell 0 _ rfl) (fun f R w h h0 h1 h2 => h.s0 h1 h2) (fun f R w h h0 h1 h2 => h.s1 Tryd.infoSpan Tryd.underlying23 (by decide) h0 h1 h2 HI.out.len (by omega) HI.out.bel.size _) (fun f R w h h1 h2 => h.s2 (by decide) h1 h2) (.start HI.out.box HI.out.row) ?_
      intro af wN f hfr hall hS
      obtain ⟨A', c', hI'⟩ := HI.out.more hbtB (Nat.le_refl _) hS hall
      rw [← HTK.out] at hI'
      have HI2 := Lib.hid hI'
      clear hI' hS
      have ha := hfr.eq (by intro t ht; simp at ht; show t < 51; omega)
      simp only [List.foldl_cons, List.foldl_nil] at ha
      clear hfr
      generalize af.eval (.tmp 24) = u24 at ha
      generalize af.eval (.tmp 25) = u25 at ha
      generalize af.eval (.tmp 26) = u26 at ha
      generalize af.eval (.tmp 27) = u27 at ha
      generalize af.eval (.tmp 28) = u28 at ha
      generalize af.eval (.tmp 29) = u29 at ha
      generalize af.eval (.tmp 30) = u30 at ha
      generalize af.eval (.tmp 31) = u31 at ha
      generalize af.eval (.tmp 32) = u32 at ha
      generalize af.eval (.tmp 33) = u33 at ha
      generalize af.eval (.tmp 34) = u34 at ha
      generalize af.eval (.tmp 35) = u35 at ha
      generalize af.eval (.tmp 36) = u36 at ha
      generalize af.eval (.tmp 37) = u37 at ha
      generalize af.eval (.tmp 38) = u38 at ha
      generalize af.eval (.tmp 39) = u39 at ha
      generalize af.eval (.tmp 40) = u40 at ha
      generalize af.eval (.tmp 41) = u41 at ha
      subst ha
      simp only [Act.put, List.setIfInBounds_toArray, List.set_cons_zero, List.set_cons_succ]
      go_wp2
      go_roundw
      case rel => exact ⟨j, m + 1, A', c', by omega, by omega, by go_num, HI2⟩
      case measure => simp [intOf]
    | zero =>
      obtain ⟨B, HB⟩ : ∃ B, Hid (B = Sq.has L x y) := ⟨_, Lib.hid rfl⟩
      have b0 := HI.out.box.cell 0 (.slice A2 m c2) rfl
      have hm0 : m = L.length := by omega
      have HPT := Lib.hid (Pairs.of_own (n := m) (by have := HI.out.row; rw [HI.out.len] at this ⊢; exact this))
      have HBT : Hid (∀ W : World, Below wr.heap.size wr W → W.cell? ⟨bt, 0, none⟩ = some (.slice A2 m c2)) := Lib.hid (fun W hb => (HI.out.box.below hb HI.out.box.lt).cell 0 _ rfl)
      have HX : Hid (∀ W : World, Below wr.heap.size wr W → W.cell? ⟨w0.heap.size, 0, none⟩ = some (.slice A L.length c) ∧ W.cell? ⟨bt, 0, none⟩ = some (.slice A2 m c2)) := Lib.hid (fun W hb => ⟨(HW.out W (HBR.out.trans (hb.mono HBR.out.size))).2.2.2, HBT.out W hb⟩)
      have HM : Hid (m = (turned L 0).length) := Lib.hid HI.out.len
      have hmx : L.length ≤ maxLen := by unfold maxLen; omega
      go_wp2
      refine sqor10 w0.heap.size bt L.length c m c2 A A2 x y B (fun f R W => Below wr.heap.size wr W ∧ (f 0 = true → R 0 = .bool B) ∧ (f 1 = true → R 1 = .bool B)) (by show 50 < 51; omega) rfl rfl rfl rfl (fun f R W h => HX.out W h.1) (fun f R W h => h.2) (fun f R W h h0 => ?_) (fun f R W h h1 => ?_) ⟨(Below.refl _ _).drew, fun h => absurd h (by simp), fun h => absurd h (by simp)⟩ ?_
      · have hbw := HBR.out.trans (h.1.mono HBR.out.size)
        have h0w := HW.out W hbw
        refine (has_any A L.length c L x y W rfl hmx (h0w.2.1.mono h0w.1.size) B HB.out).mono ?_
        rintro e w' ⟨rfl, hb⟩
        exact ⟨rfl, h.1.trans (hb.mono h.1.size), fun _ => setR_self .., fun c => by rw [setF_ne _ (by decide)] at c; rw [setR_ne _ _ (by decide)]; exact h.2.2 c⟩
      · refine (has_any A2 m c2 (turned L 0) x y W HM.out (by omega) ((HPT.out.below h.1 (Nat.le_refl _)).mono h.1.size) B (by rw [HB.out]; exact (Sq.has_turn L x y).symm)).mono ?_
        rintro e w' ⟨rfl, hb⟩
        exact ⟨rfl, h.1.trans (hb.mono h.1.size), fun c => by rw [setF_ne _ (by decide)] at c; rw [setR_ne _ _ (by decide)]; exact h.2.1 c, fun _ => setR_self ..⟩
      · intro af wN f hfr h6 hall hS
        have HE : Hid (Below w0.heap.size w0 wN) := Lib.hid (HW.out wN (HBR.out.trans (hS.1.mono HBR.out.size))).1
        clear hS hall
        have ha := hfr.eq (by intro t ht; simp at ht; show t < 51; omega)
        simp only [List.foldl_cons, List.foldl_nil] at ha
        clear hfr
        rw [h6] at ha
        clear h6
        generalize af.eval (.tmp 42) = u42 at ha
        generalize af.eval (.tmp 43) = u43 at ha
        generalize af.eval (.tmp 44) = u44 at ha
        generalize af.eval (.tmp 45) = u45 at ha
        generalize af.eval (.tmp 46) = u46 at ha
        generalize af.eval (.tmp 47) = u47 at ha
        generalize af.eval (.tmp 48) = u48 at ha
        generalize af.eval (.tmp 49) = u49 at ha
        generalize af.eval (.tmp 50) = u50 at ha
        subst ha
        simp only [Act.put, List.setIfInBounds_toArray, List.set_cons_zero, List.set_cons_succ]
        go_wp2
        go_ret
        exact ⟨rfl, HE.out⟩
end Go.Proofs.YtmcglecdidnhlaaDoor
