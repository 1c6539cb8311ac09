/- The law's own, sets, longs: the walks. -/
import Derived.Test.YtmcglecdidnhlaaDoorSqOwn5
import Derived.Test.YtmcglecdidnhlaaDoorSqPar
import Derived.Test.YtmcglecdidnhlaaDoorSqPick
namespace Go.Proofs.YtmcglecdidnhlaaDoor
open Go.RowKit
set_option linter.unusedVariables false
set_option maxRecDepth 100000

theorem own_ret (w : World) (tmps : Array Value) (g : Nat) (hp : tmps.getD 2 undef = .pointer (some ⟨g, 0, none⟩)) (v : Value) (hg : Blk w g 37 #[v]) :
    (results Tryd.f18 tmps).run Tryd.prog w = .ok (.agg #[v]) w :=
  ret_cell1 rfl tmps w g hp _ _ hg _ Tryd.underlying37 rfl (by kernel_rfl)
def OwnEnd (L : List (Int × Int)) (w : World) (e : Ending) (w' : World) : Prop := ∃ A c, e = .returned (.agg #[.slice A L.length c]) ∧ L.length ≤ c ∧ c ≤ maxLen ∧ Pairs w' w'.heap.size A L ∧ Below w.heap.size w w'

set_option maxHeartbeats 6400000 in
theorem own_any (A : Option Addr) (n c : Nat) (L : List (Int × Int)) (w : World) (hn : n = L.length) (hm : n ≤ 1000) (hp : Pairs w w.heap.size A L) :
    Calls Tryd.prog 18 #[.agg #[.slice A n c]] w (OwnEnd L w) := by
  subst hn
  obtain ⟨w0, rfl⟩ : ∃ w0, w0 = w := ⟨_, rfl⟩
  obtain ⟨w1, Hw1⟩ : ∃ w1, Hid (w1 = (w0.alloc (.cells #[.slice A L.length c] 25)).alloc (.cells #[.slice none 0 0] 37)) := ⟨_, Lib.hid rfl⟩
  have hs1 : w1.heap.size = w0.heap.size + 2 := by rw [Hw1.out]; simp
  have hb1 : Below w0.heap.size w0 w1 := by rw [Hw1.out]; exact ((Below.refl _ w0).alloc (Nat.le_refl _) _).alloc (by simp) _
  have hx1 : Blk w1 w0.heap.size 25 #[.slice A L.length c] := by rw [Hw1.out]; exact (Blk.new w0 _ _).alloc _
  have hr1 : Blk w1 (w0.heap.size + 1) 37 #[.slice none 0 0] := by
    rw [Hw1.out]
    have := Blk.new (w0.alloc (.cells #[.slice A L.length c] 25)) 37 #[.slice none 0 0]
    simpa [Blk] using this
  have HP := Lib.hid (hp.below hb1 (Nat.le_refl _))
  have HX := Lib.hid (And.intro hb1 (And.intro hx1 hr1))
  have HS1 := Lib.hid hs1
  have hwa : ((w0.alloc (.cells #[.slice A L.length c] 25)).alloc (.cells #[.slice none 0 0] 37)).alloc (.cells #[.slice none 0 0] 37) = w1.alloc (.cells #[.slice none 0 0] 37) := by rw [Hw1.out]
  have HWA := Lib.hid hwa
  clear hp hb1 hx1 hr1 hwa
  go_enter Tryd.func18, Tryd.ntmps18
  go_wp2
  rw [HWA.out]
  obtain ⟨bt, Hbt⟩ : ∃ bt, Hid (bt = w0.heap.size + 1 + 1) := ⟨_, Lib.hid rfl⟩
  rw [← Hbt.out]
  have HI0 : Hid (PaInv 37 65 (w0.heap.size + 2) w1 (w1.alloc (.cells #[.slice none 0 0] 37)) bt none 0 0 []) := Lib.hid (by
    refine ⟨?_, ?_, rfl, World.ownsRow_nil _ _ _ _⟩
    · rw [← hs1]; exact (Below.refl _ w1).alloc (Nat.le_refl _) _
    · have := Blk.new w1 37 #[.slice none 0 0]
      rw [hs1] at this
      rw [Hbt.out]; exact this)
  have hbtB : w0.heap.size + 2 ≤ bt := by rw [Hbt.out]; omega
  clear hs1
  go_loopw [4] (fun i wr => ∃ (k m : Nat) (A2 : Option Addr) (c2 : Nat), k ≤ L.length ∧ m ≤ k ∧ i = .int .i64 k ∧ Hid (PaInv 37 65 (w0.heap.size + 2) w1 wr bt A2 m c2 (L.take k))) (fun i _ => L.length - (intOf i).toNat)
  case atStart => exact ⟨0, 0, none, 0, Nat.zero_le _, Nat.le_refl _, rfl, HI0⟩
  case round =>
    obtain ⟨k, m, A2, c2, hk, hmk, rfl, HI⟩ := hrel
    have z0 := (HX.out.2.1.below HI.out.bel (by omega)).cell 0 (.slice A L.length c) rfl
    by_cases hlt : k < L.length
    · obtain ⟨g, o, rfl, hg, k1, k2⟩ := HP.out.at k hlt
      have i1 : (k : Int) < (L.length : Int) := by omega
      obtain ⟨x, Hx⟩ : ∃ x, Hid (x = L[k]) := ⟨_, Lib.hid rfl⟩
      rw [← Hx.out] at k1 k2
      obtain ⟨a, b⟩ := x
      simp only at k1 k2
      have HTK : Hid (L.take (k + 1) = L.take k ++ [(a, b)]) := Lib.hid (by rw [List.take_succ_eq_append_getElem hlt, ← Hx.out])
      have HK := Lib.hid (And.intro k1 k2)
      have hbw : w0.heap.size + 2 ≤ w1.heap.size := by rw [HS1.out]; exact Nat.le_refl _
      have hml : m ≤ 1000 := by omega
      clear k1 k2
      go_wp2
      refine sqown5 w0.heap.size g o L.length c k bt m c2 A2 a b (PaS 37 65 (w0.heap.size + 2) wr bt (.slice A2 m c2) m (L.take k) a b) (by show 30 < 32; omega) rfl rfl rfl i1 (fun f R w h => ?_) (fun f R w h h2 => (h.box0 h2).cell 0 _ rfl) (fun f R w h h0 h1 h2 => h.s0 h1 h2) (fun f R w h h0 h1 h2 => h.s1 Tryd.infoSpanR Tryd.underlying35 (by decide) h0 h1 h2 HI.out.len (by omega) (Nat.le_trans hbw HI.out.bel.size) _) (fun f R w h h1 h2 => h.s2 (by decide) h1 h2) (.start HI.out.box HI.out.row) ?_
      · have hf : ∀ i, i < w0.heap.size + 2 → w.heap[i]? = w1.heap[i]? := fun i hi => (h.far HI.out.row hbtB hi (by have := HI.out.bel.size; omega)).trans (HI.out.bel.block i hi)
        have hcl : ∀ q j, q < w0.heap.size + 2 → w.cell? ⟨q, j, none⟩ = w1.cell? ⟨q, j, none⟩ := fun q j hq => World.cell?_of_block (w := w1) (hf q hq)
        exact ⟨(hcl _ _ (by omega)).trans (HX.out.2.1.cell 0 _ rfl), (hcl _ _ (by omega)).trans HK.out.1, (hcl _ _ (by omega)).trans HK.out.2⟩
      · intro af wN f hfr hall hS
        obtain ⟨A', c', hI'⟩ := HI.out.more hbtB hbw hS hall
        rw [← HTK.out] at hI'
        have HI2 := Lib.hid hI'
        clear hI' hS
        have ha := hfr.eq (by intro t ht; simp at ht; show t < 32; omega)
        simp only [List.foldl_cons, List.foldl_nil] at ha
        clear hfr
        generalize af.eval (.tmp 13) = u13 at ha
        generalize af.eval (.tmp 14) = u14 at ha
        generalize af.eval (.tmp 15) = u15 at ha
        generalize af.eval (.tmp 16) = u16 at ha
        generalize af.eval (.tmp 17) = u17 at ha
        generalize af.eval (.tmp 18) = u18 at ha
        generalize af.eval (.tmp 19) = u19 at ha
        generalize af.eval (.tmp 20) = u20 at ha
        generalize af.eval (.tmp 21) = u21 at ha
        generalize af.eval (.tmp 22) = u22 at ha
        generalize af.eval (.tmp 23) = u23 at ha
        generalize af.eval (.tmp 24) = u24 at ha
        generalize af.eval (.tmp 25) = u25 at ha
        generalize af.eval (.tmp 26) = u26 at ha
        generalize af.eval (.tmp 27) = u27 at ha
        generalize af.eval (.tmp 28) = u28 at ha
        generalize af.eval (.tmp 29) = u29 at ha
        generalize af.eval (.tmp 30) = u30 at ha
        subst ha
        simp only [Act.put, List.setIfInBounds_toArray, List.set_cons_zero, List.set_cons_succ]
        go_wp2
        go_roundw
        case rel => exact ⟨k + 1, m + 1, A', c', by omega, by omega, by go_num, HI2⟩
        case measure => simp [intOf]; omega
    · obtain rfl : k = L.length := by omega
      have b0 := HI.out.box.cell 0 (.slice A2 m c2) rfl
      have hres := HX.out.2.2.below HI.out.bel (by omega)
      have HRES := Lib.hid hres
      have r0 := hres.cell 0 (.slice none 0 0) rfl
      have rf := hres.frozen 0
      have hne : w0.heap.size + 1 ≠ bt := by omega
      have key : OwnEnd L w0 (.returned (.agg #[.slice A2 m c2])) (wr.setCell ⟨w0.heap.size + 1, 0, none⟩ (.slice A2 m c2)) := by
        have hrow := HI.out.row
        rw [List.take_length] at hrow
        have hmL : m = L.length := by rw [HI.out.len, List.take_length]
        have hown := row_set hrow (hres.apart (by decide) hrow) (i := 0) (.slice A2 m c2)
        rw [hmL] at hown ⊢
        obtain ⟨_, _, e, h1, h2⟩ := own_shape hown
        injection e with _ _ e
        subst e
        exact ⟨A2, c2, rfl, h1, h2, Pairs.of_own hown, below_set (HX.out.1.trans (HI.out.bel.mono (by omega))) (by omega) _ _⟩
      have KEY := Lib.hid key
      clear key hres
      go_wp2
      refine bodyPost_ret (own_ret _ _ (w0.heap.size + 1) rfl _ (HRES.out.set 0 _)) rfl KEY.out
end Go.Proofs.YtmcglecdidnhlaaDoor
