/- seq's Of: the walk. -/
import Derived.Test.YtmcglecdidnhlaaDoorSqSort
namespace Go.Proofs.YtmcglecdidnhlaaDoor
open Go.RowKit
set_option linter.unusedVariables false
set_option maxRecDepth 100000

theorem sp_length (L : List (Int × Int)) : (sp L).length = L.length * 2 := flat2_length L
theorem sp_last (T : List (Int × Int)) (a b n : Int) : (sp (T ++ [(a, b)])).set (T.length * 2 + 1) (.int .i64 n) = sp (T ++ [(a, n)]) := by
  rw [sp_append, sp_append, List.set_append_right _ _ (by rw [sp_length]; omega), sp_length, show T.length * 2 + 1 - T.length * 2 = 1 by omega]
  rfl
theorem of_ret (w : World) (tmps : Array Value) (g : Nat) (hp : tmps.getD 2 undef = .pointer (some ⟨g, 0, none⟩)) (v : Value) (hg : Blk w g 25 #[v]) :
    (results Tryd.f10 tmps).run Tryd.prog w = .ok (.agg #[v]) w :=
  ret_cell1 rfl tmps w g hp _ _ hg _ Tryd.underlying25 rfl (by kernel_rfl)
def SetEnd (L : List (Int × Int)) (w : World) (e : Ending) (w' : World) : Prop := ∃ v, e = .returned v ∧ SetAt w' v L ∧ Below w.heap.size w w'
theorem take_foldl (l : List Int) (k : Nat) (hk : k < l.length) : (l.take (k + 1)).foldl Sq.step [] = Sq.step ((l.take k).foldl Sq.step []) l[k] := by
  rw [List.take_succ_eq_append_getElem hk, List.foldl_append]; rfl
theorem take_good (l : List Int) (k : Nat) : Sq.Good (((Sq.sorted (l.filter Sq.ok)).take k).foldl Sq.step []) ((Sq.sorted (l.filter Sq.ok)).take k) := by
  have := Sq.good_fold ((Sq.sorted (l.filter Sq.ok)).take k) [] [] Sq.Good.nil ((Sq.sorted_pair _).sublist (List.take_sublist _ _)) (fun x h => by cases h) (fun y hy => by
    have := List.mem_of_mem_take hy
    rw [Sq.sorted_mem] at this
    exact (List.mem_filter.1 this).2)
  rw [List.nil_append] at this
  exact this

set_option maxHeartbeats 3200000 in
theorem of_any (A : Option Addr) (n c : Nat) (l : List Int) (w : World) (hn : n = l.length) (hm : n ≤ 60) (hp : Ints w w.heap.size A l) :
    Calls Tryd.prog 10 #[.slice A n c] w (SetEnd (Sq.spans l) w) := by
  subst hn
  obtain ⟨w0, rfl⟩ : ∃ w0, w0 = w := ⟨_, rfl⟩
  have hb0 : ∀ o, Below w0.heap.size w0 (w0.alloc o) := fun o => (Below.refl _ _).alloc (Nat.le_refl _) o
  have HC := Lib.hid (sorted_any A l.length c l (w0.alloc (.cells #[.slice none 0 0] 25)) rfl (by omega) ((hp.below (hb0 _) (Nat.le_refl _)).mono (hb0 _).size))
  have HB0 := Lib.hid (hb0 (.cells #[.slice none 0 0] 25))
  clear hp hb0
  obtain ⟨N, HN⟩ : ∃ N, Hid (N = Sq.sorted (l.filter Sq.ok)) := ⟨_, Lib.hid rfl⟩
  have hNl : N.length ≤ 60 := by
    rw [HN.out, Sq.sorted_length]
    have := List.length_filter_le Sq.ok l
    omega
  have HG : Hid (∀ k, Sq.Good ((N.take k).foldl Sq.step []) (N.take k)) := Lib.hid (fun k => by rw [HN.out]; exact take_good l k)
  have HNO : Hid (∀ x ∈ N, 1 ≤ x ∧ x ≤ 4294967295) := Lib.hid (fun x hx => by
    rw [HN.out, Sq.sorted_mem] at hx
    have := (List.mem_filter.1 hx).2
    simpa [Sq.ok] using this)
  have HF : Hid (N.foldl Sq.step [] = Sq.spans l) := Lib.hid (by rw [HN.out]; rfl)
  rw [← HN.out] at HC
  go_enter Tryd.func10, Tryd.ntmps10
  go_wp2_with fail
  refine HC.out.mono ?_
  rintro e w1 ⟨A1, c1, rfl, hc1, hc2, hi1, hb1⟩
  have HI := Lib.hid hi1
  have HB1 : Hid (Below w0.heap.size w0 w1) := Lib.hid (HB0.out.trans (hb1.mono HB0.out.size))
  have HX1 : Hid (Blk w1 w0.heap.size 25 #[.slice none 0 0]) := Lib.hid ((Blk.new w0 _ _).below hb1 (by simp))
  clear hc1 hc2 hi1 hb1
  go_wp2
  go_loopw [3, 10] (fun b i wr => ∃ (k m : Nat) (Ab : Option Addr) (cb : Nat) (S : List (Int × Int)), k ≤ N.length ∧ m ≤ k ∧ b = .slice Ab m cb ∧ i = .int .i64 k ∧ Hid (m = S.length ∧ S = (N.take k).foldl Sq.step []) ∧ Hid (wr.ownsRow w1.heap.size 48 2 (.slice Ab m cb) m (sp S) ∧ Below w1.heap.size w1 wr)) (fun _ i _ => N.length - (intOf i).toNat)
  case atStart => exact ⟨0, 0, none, 0, [], Nat.zero_le _, Nat.zero_le _, rfl, rfl, Lib.hid ⟨rfl, rfl⟩, Lib.hid ⟨World.ownsRow_nil _ _ _ _, Below.refl _ _⟩⟩
  case round =>
    obtain ⟨k, m, Ab, cb, S, hk, hmk, rfl, rfl, HS, HR⟩ := hrel
    have hwz := HR.out.2.size
    by_cases hlt : k < N.length
    · obtain ⟨g, o, rfl, hg, k1⟩ := (HI.out.below HR.out.2 (Nat.le_refl _)).at k hlt
      have hgw : g < wr.heap.size := by omega
      have hst := take_foldl N k hlt
      rw [← HS.out.2] at hst
      have hxr := HNO.out _ (List.getElem_mem hlt)
      obtain ⟨x, Hx⟩ : ∃ x, Hid (x = N[k]) := ⟨_, Lib.hid rfl⟩
      rw [← Hx.out] at k1 hst hxr
      have HST := Lib.hid hst
      clear hst
      have hm100 : decide ((m : Int) < 100) = true := by simp; omega
      obtain ⟨v', w3, hr, h31, h32, h33, A3, c3, rfl⟩ := span_app wr 23 23 48 Tryd.infoSpan Tryd.underlying23 w1.heap.size _ S m HS.out.1 HR.out.1 x x (by omega) hwz
      have HR3 := Lib.hid hr
      have HW3 : Hid (w3.ownsRow w1.heap.size 48 2 (.slice A3 (m + 1) c3) (m + 1) (sp (S ++ [(x, x)])) ∧ Below w1.heap.size w1 w3) := Lib.hid ⟨h31, HR.out.2.trans h33⟩
      clear hr h31 h32 h33
      rcases Sq.snoc_cases S with hS0 | ⟨T, ⟨a, b⟩, hS1⟩
      · have hm0 : m = 0 := by rw [HS.out.1, hS0]; rfl
        have HN2 : Hid (S ++ [(x, x)] = (N.take (k + 1)).foldl Sq.step []) := Lib.hid (by rw [HST.out, hS0]; rfl)
        have HS2 : Hid (m + 1 = (S ++ [(x, x)]).length) := Lib.hid (by rw [List.length_append, ← HS.out.1]; rfl)
        clear hS0
        subst hm0
        go_wp2_with (at_builtin; refine wpList_append_run rfl _ _ 23 rfl _ _ _ rfl rfl _ _ (by exact HR3.out) ?_)
        go_roundw
        case rel => exact ⟨k + 1, 1, A3, c3, S ++ [(x, x)], by omega, by omega, rfl, by go_num, Lib.hid ⟨HS2.out, HN2.out⟩, HW3⟩
        case measure => simp [intOf]; omega
      · obtain ⟨e1, e2, e3⟩ := (HG.out k).each (a, b) (by rw [← HS.out.2, hS1]; simp)
        simp only at e1 e2 e3
        obtain ⟨t, Ht⟩ : ∃ t, Hid (t = T.length) := ⟨_, Lib.hid rfl⟩
        have hmt : Hid (m = t + 1) := Lib.hid (by rw [HS.out.1, hS1, List.length_append, Ht.out]; rfl)
        have hsub : (m : Int) - 1 = (t : Int) := by have := hmt.out; omega
        have htm : t < m := by have := hmt.out; omega
        have hown := HR.out.1
        rw [hS1] at hown
        obtain ⟨g2, cap2, e4, _, hg2, _⟩ := own_form hown (by have := hmt.out; omega)
        injection e4 with e5 e6 e7
        subst e5 e7
        have hcb := hown.cells (g := g2) rfl (T.length * 2 + 1) (.int .i64 b) (by
          have := flat2_snd (f := fun s : Int × Int => Value.int .i64 s.1) (g := fun s => .int .i64 s.2) (T ++ [(a, b)]) T.length (by simp)
          rw [List.getElem_concat_length] at this
          · exact this
          · rfl)
        rw [add_to, Nat.zero_add, ← Ht.out] at hcb
        have hfb := hown.frozenAt (t * 2 + 1)
        have hadd : IntKind.i64.wrap (b + 1) = b + 1 := IntWalk.i64_in _ (by omega)
        by_cases hle : x ≤ b + 1
        · have hd : decide (x ≤ b + 1) = true := by simpa using hle
          have h5 := (hown.stored (t * 2 + 1) (.int .i64 x)).1
          rw [Ht.out, sp_last, ← Ht.out] at h5
          have HN2 : Hid (T ++ [(a, x)] = (N.take (k + 1)).foldl Sq.step []) := Lib.hid (by rw [HST.out, hS1, Sq.step_snoc, if_pos hle])
          have HS2 : Hid (m = (T ++ [(a, x)]).length) := Lib.hid (by rw [List.length_append, ← Ht.out, hmt.out]; rfl)
          have HW5 : Hid ((wr.setCell ⟨g2, t * 2 + 1, none⟩ (.int .i64 x)).ownsRow w1.heap.size 48 2 (.slice (some ⟨g2, 0, none⟩) m cb) m (sp (T ++ [(a, x)])) ∧ Below w1.heap.size w1 (wr.setCell ⟨g2, t * 2 + 1, none⟩ (.int .i64 x))) := Lib.hid ⟨h5, below_set HR.out.2 (hown.lt g2 rfl).1 _ _⟩
          clear hS1 hown h5 hle
          go_wp2
          go_roundw
          case rel => exact ⟨k + 1, m, _, cb, T ++ [(a, x)], by omega, by omega, rfl, by go_num, Lib.hid ⟨HS2.out, HN2.out⟩, HW5⟩
          case measure => simp [intOf]; omega
        · have hd : decide (x ≤ b + 1) = false := by simpa using hle
          have HN2 : Hid (S ++ [(x, x)] = (N.take (k + 1)).foldl Sq.step []) := Lib.hid (by rw [HST.out, hS1, Sq.step_snoc, if_neg hle])
          have HS2 : Hid (m + 1 = (S ++ [(x, x)]).length) := Lib.hid (by rw [List.length_append, ← HS.out.1]; rfl)
          clear hS1 hown hle
          go_wp2_with (at_builtin; refine wpList_append_run rfl _ _ 23 rfl _ _ _ rfl rfl _ _ (by exact HR3.out) ?_)
          go_roundw
          case rel => exact ⟨k + 1, m + 1, A3, c3, S ++ [(x, x)], by omega, by omega, rfl, by go_num, Lib.hid ⟨HS2.out, HN2.out⟩, HW3⟩
          case measure => simp [intOf]; omega
    · obtain rfl : k = N.length := by omega
      have HX := Lib.hid (HX1.out.below HR.out.2 HX1.out.lt)
      have c0 := HX.out.cell 0 (.slice none 0 0) rfl
      have f0 := HX.out.frozen 0
      have hown := row_set HR.out.1 (HX.out.apart (by decide) HR.out.1) (i := 0) (.slice Ab m cb)
      have key : SetEnd (Sq.spans l) w0 (.returned (.agg #[.slice Ab m cb])) (wr.setCell ⟨w0.heap.size, 0, none⟩ (.slice Ab m cb)) := by
        have hS : S = Sq.spans l := by rw [HS.out.2, List.take_length, HF.out]
        refine ⟨_, rfl, ?_, below_set (HB1.out.trans (HR.out.2.mono HB1.out.size)) (Nat.le_refl _) _ _⟩
        rw [← hS]
        rw [HS.out.1] at hown ⊢
        exact SetAt.own hown
      have KEY := Lib.hid key
      clear key hown
      go_wp2
      refine bodyPost_ret (of_ret _ _ w0.heap.size rfl _ (HX.out.set 0 _)) rfl KEY.out
end Go.Proofs.YtmcglecdidnhlaaDoor
