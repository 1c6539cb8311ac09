/- seq's Parse: the walk itself. -/
import Derived.Test.YtmcglecdidnhlaaDoorSqParse
namespace Go.Proofs.YtmcglecdidnhlaaDoor
open Go.RowKit
set_option linter.unusedVariables false
attribute [local go_sem] Oper.semAt_some

theorem keeps_below {W W' : World} (h : Below W.heap.size W W') (B : Nat) : KeepsFrom B W W' :=
  KeepsFrom.of_grownBy (row := none) ⟨h.os, h.tape, h.output, h.size, fun i hi _ => h.block i hi⟩ (fun j e => by cases e)
theorem keeps_row {W W' : World} {base e size k : Nat} {v : Value} {xs : List Value} (hg : W.grownBy W' v.ownBlock) (h : W.ownsRow base e size v k xs) : KeepsOthers W W' :=
  KeepsOthers.of_grownBy hg fun j o hj ho => by
    rcases h.2 with ⟨rfl, _⟩ | ⟨g, cap, cur, rfl, _, hgg, _⟩
    · cases hj
    · simp [Value.ownBlock] at hj
      subst hj
      rw [hgg] at ho
      injection ho with ho
      subst ho; rfl
/-- The two results stored, the loop's block taken. -/
theorem ps_fin (w W : World) (D : Nat) (v : Value) (E : Int) {cs cs' : Value} (hb : Below w.heap.size w W) (h1 : Blk W w.heap.size 25 #[cs]) (h2 : Blk W (w.heap.size + 1) 26 #[cs']) (hD : w.heap.size + 6 ≤ D) (hK : W.heap[D]? = some (.deferred (some []))) :
    ((W.setCell ⟨w.heap.size, 0, none⟩ v).setCell ⟨w.heap.size + 1, 0, none⟩ (.int .i64 E)).heap[D]? = some (.deferred (some [])) ∧
    Blk (((W.setCell ⟨w.heap.size, 0, none⟩ v).setCell ⟨w.heap.size + 1, 0, none⟩ (.int .i64 E)).putObj D (.deferred none)) w.heap.size 25 #[v] ∧
    Blk (((W.setCell ⟨w.heap.size, 0, none⟩ v).setCell ⟨w.heap.size + 1, 0, none⟩ (.int .i64 E)).putObj D (.deferred none)) (w.heap.size + 1) 26 #[.int .i64 E] ∧
    Below w.heap.size w (((W.setCell ⟨w.heap.size, 0, none⟩ v).setCell ⟨w.heap.size + 1, 0, none⟩ (.int .i64 E)).putObj D (.deferred none)) ∧
    (∀ base e n u xs, 25 ≠ e → 26 ≠ e → W.ownsRow base e 2 u n xs → (((W.setCell ⟨w.heap.size, 0, none⟩ v).setCell ⟨w.heap.size + 1, 0, none⟩ (.int .i64 E)).putObj D (.deferred none)).ownsRow base e 2 u n xs) := by
  have q1 : Blk ((W.setCell ⟨w.heap.size, 0, none⟩ v).setCell ⟨w.heap.size + 1, 0, none⟩ (.int .i64 E)) w.heap.size 25 #[v] := (h1.set 0 v).other (by omega) _
  have q2 : Blk ((W.setCell ⟨w.heap.size, 0, none⟩ v).setCell ⟨w.heap.size + 1, 0, none⟩ (.int .i64 E)) (w.heap.size + 1) 26 #[.int .i64 E] := (h2.other (by omega) v).set 0 _
  have q3 : ((W.setCell ⟨w.heap.size, 0, none⟩ v).setCell ⟨w.heap.size + 1, 0, none⟩ (.int .i64 E)).heap[D]? = some (.deferred (some [])) := ((KeepsOthers.setCell W _ _).trans (KeepsOthers.setCell _ _ _)).same D _ hK rfl
  have q4 : Below w.heap.size w ((W.setCell ⟨w.heap.size, 0, none⟩ v).setCell ⟨w.heap.size + 1, 0, none⟩ (.int .i64 E)) := below_set (below_set hb (Nat.le_refl _) _ _) (by omega) _ _
  have q5 : ∀ base e n u xs, 25 ≠ e → 26 ≠ e → W.ownsRow base e 2 u n xs → ((W.setCell ⟨w.heap.size, 0, none⟩ v).setCell ⟨w.heap.size + 1, 0, none⟩ (.int .i64 E)).ownsRow base e 2 u n xs := fun base e n u xs e1 e2 h => row_set (row_set h (h1.apart e1 h) _) (h2.apart e2 h) _
  generalize (W.setCell ⟨w.heap.size, 0, none⟩ v).setCell ⟨w.heap.size + 1, 0, none⟩ (.int .i64 E) = V at *
  have hg := grownBy_putObj' V D (.deferred none)
  have hr : ∀ r, some D = some r → w.heap.size + 6 ≤ r ∧ ∃ o : Obj, V.heap[r]? = some o ∧ o.isCells = false := fun r e => by injection e with e; subst e; exact ⟨hD, _, q3, rfl⟩
  exact ⟨q3, q1.turned hg (fun r e => (hr r e).2), q2.turned hg (fun r e => (hr r e).2), below_turned q4 hg hr (Nat.le_refl _) (by omega), fun base e n u xs e1 e2 h => row_turned (q5 base e n u xs e1 e2 h) hg (fun r e => (hr r e).2)⟩

set_option maxHeartbeats 4000000 in
set_option maxRecDepth 100000 in
theorem parse_any (s : ByteArray) (w : World) (hs : s.size ≤ 1000000) (hw : SW w) :
    Calls Tryd.prog 9 #[.string s] w (ParseEnd s.data.toList w) := by
  refine (callsIn_wide (n := 10)).1 ?_
  refine callsIn_of_wp_marks Tryd.func9 rfl trivial ?_ rfl
  simp only [Tryd.ntmps9, List.size_toArray, List.length_cons, List.length_nil, Nat.reduceAdd, Nat.reduceSub, Array.replicate_succ, Array.replicate_zero, List.push_toArray, List.append_toArray, List.nil_append, List.cons_append]
  gi_wp2
  refine ⟨trivial, (callsIn_wide.2 (splitSeq_any s ⟨#[44]⟩ _)).mono ?_⟩
  rintro e w1 ⟨rfl, rfl⟩
  gi_wp2
  obtain ⟨w1, Hw1⟩ : ∃ w1, Hid (w1 = (((((w.alloc (.cells #[.slice none 0 0] 25)).alloc (.cells #[.int .i64 0] 26)).alloc (.cells #[.slice none 0 0] 23)).alloc (.cells #[.string s] 9)).alloc (.cells #[.string ⟨#[44]⟩] 9)).alloc (.cells #[.int .i64 0] 3)) := ⟨_, Lib.hid rfl⟩
  rw [← Hw1.out]
  have hsz : w1.heap.size = w.heap.size + 6 := by rw [Hw1.out]; simp
  have hinv : PsInv w ([], s) w1 := by
    rw [Hw1.out]
    refine ⟨?_, ?_, ?_, ⟨none, 0, 0, [], ?_, rfl, World.ownsRow_nil _ _ _ _, rfl⟩, ?_, ?_, ?_⟩
    · exact ((((((Below.refl _ w).alloc (Nat.le_refl _) _).alloc (by simp) _).alloc (by simp; omega) _).alloc (by simp; omega) _).alloc (by simp; omega) _).alloc (by simp; omega) _
    · exact (((((Blk.new w _ _).alloc _).alloc _).alloc _).alloc _).alloc _
    · have := ((((Blk.new (w.alloc (.cells #[.slice none 0 0] 25)) 26 #[.int .i64 0]).alloc (.cells #[.slice none 0 0] 23)).alloc (.cells #[.string s] 9)).alloc (.cells #[.string ⟨#[44]⟩] 9)).alloc (.cells #[.int .i64 0] 3)
      simpa [Blk] using this
    · have := (((Blk.new ((w.alloc (.cells #[.slice none 0 0] 25)).alloc (.cells #[.int .i64 0] 26)) 23 #[.slice none 0 0]).alloc (.cells #[.string s] 9)).alloc (.cells #[.string ⟨#[44]⟩] 9)).alloc (.cells #[.int .i64 0] 3)
      simpa [Blk] using this
    · have := ((Blk.new (((w.alloc (.cells #[.slice none 0 0] 25)).alloc (.cells #[.int .i64 0] 26)).alloc (.cells #[.slice none 0 0] 23)) 9 #[.string s]).alloc (.cells #[.string ⟨#[44]⟩] 9)).alloc (.cells #[.int .i64 0] 3)
      simpa [Blk] using this
    · have := (Blk.new ((((w.alloc (.cells #[.slice none 0 0] 25)).alloc (.cells #[.int .i64 0] 26)).alloc (.cells #[.slice none 0 0] 23)).alloc (.cells #[.string s] 9)) 9 #[.string ⟨#[44]⟩]).alloc (.cells #[.int .i64 0] 3)
      simpa [Blk] using this
    · have := Blk.new (((((w.alloc (.cells #[.slice none 0 0] 25)).alloc (.cells #[.int .i64 0] 26)).alloc (.cells #[.slice none 0 0] 23)).alloc (.cells #[.string s] 9)).alloc (.cells #[.string ⟨#[44]⟩] 9)) 3 #[.int .i64 0]
      simpa [Blk] using this
  have HINV := Lib.hid hinv
  have HSZ := Lib.hid hsz
  have HW := Lib.hid hw
  have hit := split_iter 9 (by omega) w1.heap.size (w.heap.size + 1 + 1 + 1 + 1) (w.heap.size + 1 + 1 + 1) (w.heap.size + 1 + 1 + 1 + 1 + 1) (by omega) s hs (PsInv w) (fun _ W => PsRet w (Sq.parts 44 s.data.toList) W)
    (fun t W h => ⟨h.sep.cell 0 _ rfl, h.left.cell 0 _ rfl, h.save.cell 0 _ rfl, h.left.frozen 0⟩) (fun t W r h => h.left_set r)
  clear hinv
  refine range_own rfl (by omega) (gf := 41) (lb := #[.pointer (some ⟨w.heap.size + 1 + 1 + 1 + 1, 0, none⟩), .pointer (some ⟨w.heap.size + 1 + 1 + 1, 0, none⟩), .pointer (some ⟨w.heap.size + 1 + 1 + 1 + 1 + 1, 0, none⟩)]) rfl trivial (enters_of Tryd.func41 (by kernel_rfl) rfl)
    (fun _ => rfl) hit (fun t W W' row h hg hr => h.turned hg hr (by omega)) (fun t W W' row h hg hr => h.turned hg hr (by omega)) HINV.out (fun x => { tmps := #[.string s, undef, .pointer (some ⟨w.heap.size, 0, none⟩), .pointer (some ⟨w.heap.size + 1, 0, none⟩), .pointer (some ⟨w.heap.size + 1 + 1, 0, none⟩), .string x, undef, undef, .string s,
      .func (.func 41) #[] #[.pointer (some ⟨w.heap.size + 1 + 1 + 1 + 1, 0, none⟩), .pointer (some ⟨w.heap.size + 1 + 1 + 1, 0, none⟩), .pointer (some ⟨w.heap.size + 1 + 1 + 1 + 1 + 1, 0, none⟩)],
      .string x, undef, undef, undef, undef, undef, undef, undef, undef, undef, undef, undef, undef, undef, undef, undef, undef, undef, undef, undef, undef, undef], defers := [] }) ?assign ?body ?done ?stop
  case assign =>
    intro l x W K hK
    gi_wp2
    exact hK
  case body =>
    rintro l ⟨pre, r⟩ x W hl ⟨q, hq⟩ hI
    simp only at hq
    have hxs : x.size ≤ 1000000 := by
      have h1 := part_le 44 s.data.toList x.data.toList (by rw [← hq]; simp)
      have h2 : s.data.toList.length = s.size := rfl
      have h3 : x.data.toList.length = x.size := rfl
      omega
    have HC := Lib.hid ((callsIn_wide (n := 7)).2 (pspan_any x W hxs (HW.out.below hI.bel)))
    obtain ⟨P, HP⟩ : ∃ P, Hid (Sq.pspan x.data.toList = P) := ⟨_, Lib.hid rfl⟩
    rw [HP.out] at HC
    have HI := Lib.hid hI
    have HQ := Lib.hid hq
    clear hI hq hit hs hw
    cases P with
    | none =>
      simp only [spanV] at HC
      gi_wp2
      refine ⟨trivial, (CallsIn.inRound l HC.out).mono ?_⟩
      rintro e w2 ⟨rfl, hb2⟩
      have hI2 := HI.out.below hb2
      have HI2 := Lib.hid hI2
      have HK2 := Lib.hid hb2
      have hlt2 : w.heap.size + 6 ≤ w2.heap.size := by have := hI2.save.lt; omega
      have g0 : w.heap.size < w2.heap.size := by omega
      have g1 : w.heap.size + 1 < w2.heap.size := by omega
      have c1 := hI2.set.cell 0 (.slice none 0 0) rfl
      have c2 := hI2.err.cell 0 (.int .i64 0) rfl
      have f1 := hI2.set.frozen 0
      have f2 := hI2.err.frozen 0
      clear hI2 hb2
      have fin : ∀ W', Below w.heap.size w2 W' → KeepsOthers w2 W' → Blk W' w.heap.size 25 #[.slice none 0 0] → Blk W' (w.heap.size + 1) 26 #[.int .i64 3] → KeepsFrom (w.heap.size + 6) W W' ∧ PsRet w (Sq.parts 44 s.data.toList) W' := fun W' hb hk h1 h2 => by
        obtain ⟨A, m, c, acc, _, _, _, hga⟩ := HI.out.acc
        exact ⟨(keeps_below HK2.out _).trans (hk.from _), HI2.out.bel.trans hb, h1, h2, gather_no _ pre q x.data.toList acc HQ.out hga HP.out⟩
      have FIN := Lib.hid fin
      clear fin
      gi_wp2
      refine FIN.out _ ?_ ?_ ?_ ?_
      · exact (below_set (below_set (Below.refl w.heap.size w2) (Nat.le_refl _) 0 _) (by omega) 0 _).alloc (by simp; omega) _
      · exact ((KeepsOthers.setCell w2 _ _).trans (KeepsOthers.setCell _ _ _)).trans (KeepsOthers.alloc _ _)
      · exact ((HI2.out.set.set 0 _).other (by omega) _).alloc _
      · exact ((HI2.out.err.other (by omega) _).set 0 _).alloc _
    | some sp0 =>
      obtain ⟨a, b⟩ := sp0
      simp only [spanV] at HC
      obtain ⟨A, m, c, acc, hA1, hA2, hA3, hA4⟩ := HI.out.acc
      have HA4 : Hid (Sq.gather [] (pre ++ [x.data.toList]) = some (acc ++ [(a, b)])) := Lib.hid (by rw [gather_app, hA4]; simp only; rw [Sq.gather_cons, HP.out]; rfl)
      have hml : m ≤ 101 := by rw [hA2, List.length_take]; omega
      have HA2 := Lib.hid hA2
      have HA1 := Lib.hid hA1
      have HA3 := Lib.hid hA3
      clear hA1 hA2 hA3 hA4
      by_cases hle : m ≤ 100
      · have hd : decide ((m : Int) ≤ 100) = true := by simp; omega
        have hacc : acc.length ≤ 100 := by have := HA2.out; rw [List.length_take] at this; omega
        have HTK := Lib.hid (take_more acc (a, b) hacc)
        gi_wp2
        refine ⟨trivial, (CallsIn.inRound l HC.out).mono ?_⟩
        rintro e w2 ⟨rfl, hb2⟩
        have hI2 := HI.out.below hb2
        have HI2 := Lib.hid hI2
        have HK2 := Lib.hid hb2
        have HR2 : Hid (w2.ownsRow w.heap.size 48 2 (.slice A m c) m (sp (acc.take 101))) := Lib.hid (own_below HA3.out hb2 (Nat.le_refl _))
        have HX2 : Hid (Blk w2 (w.heap.size + 1 + 1) 23 #[.slice A m c]) := Lib.hid (HA1.out.below hb2 HA1.out.lt)
        have g6 : w.heap.size + 6 ≤ w2.heap.size := by have := hI2.save.lt; omega
        have G6 := Lib.hid g6
        have g2 : w.heap.size + 1 + 1 < w2.heap.size := by omega
        have c2 := HX2.out.cell 0 (.slice A m c) rfl
        have f2 := HX2.out.frozen 0
        clear hI2 hb2 g6
        have happ := span_app (w2.alloc (.cells #[.int .i64 a, .int .i64 b] 48)) 23 23 48 Tryd.infoSpan Tryd.underlying23 w.heap.size (.slice A m c) (acc.take 101) m HA2.out (HR2.out.alloc _) a b (by omega) (by simp; omega)
        obtain ⟨v', w3, hrun, hown3, hg3, hb3, A3, c3, rfl⟩ := happ
        rw [World.size_alloc] at hrun
        have HRUN := Lib.hid hrun
        have hI3 : PsInv w (pre, r) w2 := HI2.out
        have k0 : ∀ b' t C, Blk w2 b' t C → t ≠ 48 → Blk w3 b' t C := fun b' t C h hne => ((h.alloc _).alloc _).grown hg3 (h.apart hne HR2.out)
        have hX3 := k0 _ _ _ HX2.out (by decide)
        have g3 : w.heap.size + 1 + 1 < w3.heap.size := hX3.lt
        have c3' := hX3.cell 0 (.slice A m c) rfl
        have f3' := hX3.frozen 0
        have HFIN : Hid (KeepsFrom (w.heap.size + 6) W (w3.setCell ⟨w.heap.size + 1 + 1, 0, none⟩ (.slice A3 (m + 1) c3)) ∧ PsInv w (splNx (pre, r) x) (w3.setCell ⟨w.heap.size + 1 + 1, 0, none⟩ (.slice A3 (m + 1) c3))) := Lib.hid (by
          refine ⟨(keeps_below HK2.out _).trans ((((KeepsOthers.alloc w2 _).trans (KeepsOthers.alloc _ _)).trans (keeps_row hg3 ((HR2.out.alloc _).alloc _))).trans (KeepsOthers.setCell _ _ _) |>.from _), ?_⟩
          refine ⟨below_set ((HI2.out.bel.alloc HI2.out.bel.size _).trans (hb3.mono (by omega))) (by omega) _ _, (k0 _ _ _ hI3.set (by decide)).other (by omega) _, (k0 _ _ _ hI3.err (by decide)).other (by omega) _, ⟨A3, m + 1, c3, acc ++ [(a, b)], hX3.set 0 _, ?_, row_set (by rw [HTK.out]; exact hown3) (hX3.apart (by decide) hown3) _, HA4.out⟩, (k0 _ _ _ hI3.left (by decide)).other (by omega) _, (k0 _ _ _ hI3.sep (by decide)).other (by omega) _, (k0 _ _ _ hI3.save (by decide)).other (by omega) _⟩
          rw [HTK.out, List.length_append, ← HA2.out]; rfl)
        clear hrun hI3 k0 hX3 hown3 hg3 hb3
        gi_wp2_with (gi_at_builtin; refine wpListIn_append_run rfl _ _ 23 rfl _ _ _ rfl rfl _ _ (by exact HRUN.out) ?_)
        exact HFIN.out
      · have hd : decide ((m : Int) ≤ 100) = false := by simp; omega
        have hacc : 101 ≤ acc.length := by have := HA2.out; rw [List.length_take] at this; omega
        have HTK := Lib.hid (take_full acc (a, b) hacc)
        gi_wp2
        refine ⟨trivial, (CallsIn.inRound l HC.out).mono ?_⟩
        rintro e w2 ⟨rfl, hb2⟩
        have hI2 := HI.out.below hb2
        have HI2 := Lib.hid hI2
        have HK2 := Lib.hid hb2
        have HR2 : Hid (w2.ownsRow w.heap.size 48 2 (.slice A m c) m (sp (acc.take 101))) := Lib.hid (own_below HA3.out hb2 (Nat.le_refl _))
        have HX2 : Hid (Blk w2 (w.heap.size + 1 + 1) 23 #[.slice A m c]) := Lib.hid (HA1.out.below hb2 HA1.out.lt)
        have g6 : w.heap.size + 6 ≤ w2.heap.size := by have := hI2.save.lt; omega
        have g2 : w.heap.size + 1 + 1 < w2.heap.size := by omega
        have c2 := HX2.out.cell 0 (.slice A m c) rfl
        have HFIN : Hid (KeepsFrom (w.heap.size + 6) W (w2.alloc (.cells #[.int .i64 a, .int .i64 b] 48)) ∧ PsInv w (splNx (pre, r) x) (w2.alloc (.cells #[.int .i64 a, .int .i64 b] 48))) := Lib.hid (by
          refine ⟨(keeps_below HK2.out _).trans ((KeepsOthers.alloc w2 _).from _), ?_⟩
          refine ⟨HI2.out.bel.alloc HI2.out.bel.size _, HI2.out.set.alloc _, HI2.out.err.alloc _, ⟨A, m, c, acc ++ [(a, b)], HX2.out.alloc _, ?_, ?_, HA4.out⟩, HI2.out.left.alloc _, HI2.out.sep.alloc _, HI2.out.save.alloc _⟩
          · rw [HTK.out]; exact HA2.out
          · rw [HTK.out]; exact HR2.out.alloc _)
        clear hI2 hb2 g6
        gi_wp2
        exact HFIN.out
  case done =>
    rintro D ⟨pre, r⟩ W hD ht hI hK
    simp only at ht
    subst ht
    obtain ⟨A, m, c, acc, hA1, hA2, hA3, hA4⟩ := hI.acc
    simp only at hA4
    have g0 : w.heap.size < W.heap.size := hI.set.lt
    have g1 : w.heap.size + 1 < W.heap.size := hI.err.lt
    have g2 : w.heap.size + 1 + 1 < W.heap.size := hA1.lt
    have c0 := hI.set.cell 0 (.slice none 0 0) rfl
    have c1 := hI.err.cell 0 (.int .i64 0) rfl
    have c2 := hA1.cell 0 (.slice A m c) rfl
    have f0 := hI.set.frozen 0
    have f1 := hI.err.frozen 0
    have HI := Lib.hid hI
    have HK := Lib.hid hK
    have hml : m ≤ 101 := by rw [hA2, List.length_take]; omega
    have hlen : m = min 101 acc.length := by rw [hA2, List.length_take]
    have HA1 := Lib.hid hA1
    have HA2 := Lib.hid hA2
    have HA3 := Lib.hid hA3
    have HA4 := Lib.hid hA4
    clear hI hA1 hA2 hA3 hA4
    by_cases hle : m ≤ 100
    · have hd : decide ((100 : Int) < (m : Int)) = false := by simp; omega
      have hal : acc.length ≤ 100 := by omega
      have htk : acc.take 101 = acc := List.take_of_length_le (by omega)
      have hP : Sq.parse s.data.toList = (acc, 0) := by
        unfold Sq.parse Sq.ended
        rw [HA4.out]
        simp only
        rw [if_neg (by omega)]
      obtain ⟨z1, z2, z3, z4, z5⟩ := ps_fin w W D (.slice A m c) 0 HI.out.bel HI.out.set HI.out.err (by omega) HK.out
      have hrow := z5 _ _ _ _ _ (by decide) (by decide) HA3.out
      rw [htk] at hrow
      have hmm : m = acc.length := by omega
      have key : ParseEnd s.data.toList w (.returned (.tuple #[.agg #[.slice A m c], .int .i64 0])) (((W.setCell ⟨w.heap.size, 0, .none⟩ (.slice A m c)).setCell ⟨w.heap.size + 1, 0, .none⟩ (.int .i64 0)).putObj D (.deferred .none)) := by
        unfold ParseEnd
        rw [hP]
        rw [hmm] at hrow
        refine ⟨_, rfl, ?_, z4⟩
        rw [hmm]
        exact SetAt.own (by rw [← hmm] at hrow ⊢; exact hrow)
      have KEY := Lib.hid key
      have Z1 := Lib.hid z1
      have Z2 := Lib.hid z2
      have Z3 := Lib.hid z3
      clear key z1 z2 z3 z4 z5 hrow hmm htk hal hlen hK
      gi_wp2
      refine ⟨by simp, .inl ⟨_, _, rfl, run_takeDeferred Z1.out, ?_⟩⟩
      exact ⟨_, parse_ret _ _ w.heap.size (w.heap.size + 1) rfl rfl _ _ Z2.out Z3.out, KEY.out⟩
    · have hd : decide ((100 : Int) < (m : Int)) = true := by simp; omega
      have hP : Sq.parse s.data.toList = ([], 2) := by
        unfold Sq.parse Sq.ended
        rw [HA4.out]
        simp only
        rw [if_pos (by omega)]
      obtain ⟨z1, z2, z3, z4, z5⟩ := ps_fin w W D (.slice none 0 0) 2 HI.out.bel HI.out.set HI.out.err (by omega) HK.out
      have key : ParseEnd s.data.toList w (.returned (.tuple #[.agg #[.slice none 0 0], .int .i64 2])) (((W.setCell ⟨w.heap.size, 0, .none⟩ (.slice none 0 0)).setCell ⟨w.heap.size + 1, 0, .none⟩ (.int .i64 2)).putObj D (.deferred .none)) := by
        unfold ParseEnd
        rw [hP]
        exact ⟨_, rfl, SetAt.empty _, z4⟩
      have KEY := Lib.hid key
      have Z1 := Lib.hid z1
      have Z2 := Lib.hid z2
      have Z3 := Lib.hid z3
      clear key z1 z2 z3 z4 z5 hlen hK
      gi_wp2
      refine ⟨by simp, .inl ⟨_, _, rfl, run_takeDeferred Z1.out, ?_⟩⟩
      exact ⟨_, parse_ret _ _ w.heap.size (w.heap.size + 1) rfl rfl _ _ Z2.out Z3.out, KEY.out⟩
  case stop =>
    rintro D t W hD hI hK
    have hP : Sq.parse s.data.toList = ([], 3) := by
      unfold Sq.parse
      rw [hI.none]; rfl
    have hg := grownBy_putObj' W D (.deferred .none)
    have hr : ∀ r, some D = some r → w1.heap.size ≤ r ∧ ∃ o : Obj, W.heap[r]? = some o ∧ o.isCells = false := fun r e => by injection e with e; subst e; exact ⟨hD, _, hK, rfl⟩
    have h2 := hI.turned hg hr (by omega)
    have key : ParseEnd s.data.toList w (.returned (.tuple #[.agg #[.slice none 0 0], .int .i64 3])) (W.putObj D (.deferred .none)) := by
      unfold ParseEnd
      rw [hP]
      exact ⟨_, rfl, SetAt.empty _, h2.bel⟩
    have KEY := Lib.hid key
    have H2 := Lib.hid h2
    clear key hg hr h2 hI
    gi_wp2
    refine ⟨by simp, .inl ⟨_, _, rfl, run_takeDeferred hK, ?_⟩⟩
    exact ⟨_, parse_ret _ _ w.heap.size (w.heap.size + 1) rfl rfl _ _ H2.out.set H2.out.err, KEY.out⟩
end Go.Proofs.YtmcglecdidnhlaaDoor
