/- A region that draws its order, walked by an invariant, in a round of a range over a function. -/
import Derived.Test.YtgpkdnnlgafenaaRegion
import Derived.RangeFuncCalls
import Derived.OrdersIn
import Derived.TacticsIn
namespace Go.Proofs.Ytgpkdnnlgafenaa
open Go

/-- No operation defers. -/
def noDefer (ops : Array Oper) : Bool := ops.toList.all fun o => match o.op with
  | .defer _ => false
  | _ => true
theorem noDefer_spec {ops : Array Oper} (h : noDefer ops = true) {i : Nat} {o : Oper} (ho : ops[i]? = some o) : ∀ c, o.op ≠ .defer c := fun c e => by
  have hm : o ∈ ops.toList := Array.mem_toList_iff.2 (Array.mem_of_getElem? ho)
  have := List.all_eq_true.1 h o hm
  rw [e] at this; cases this
/-- What an operation does plainly it does in a round. -/
theorem oper_in {lr nr : Nat} {P : Program} {o : Oper} {a : Act} {w : World} {K : Act → World → Prop} {Q : Exit → Act → World → Prop} (hd : ∀ c, o.op ≠ .defer c) (h : Oper.wp P o a w K Q) : Oper.wpIn (Fence.wide.inRound lr) nr P o a w K Q := by
  refine ⟨fun _ _ => trivial, ?_⟩
  rw [show (Fence.wide.inRound lr).round = some lr from rfl, Oper.semAt_some lr _ o hd]
  unfold Oper.wp at h
  generalize (execOp a.eval o).run P w = r at h ⊢
  cases r with
  | ok nx w' =>
    cases nx with
    | value v => exact h
    | skip => exact h
    | defer d => exact h
    | enter f args => exact ⟨(fun h0 => by cases h0), CallsIn.inRound lr (callsIn_wide.2 h)⟩
    | row row args =>
      refine ⟨(fun h0 => by cases h0), fun c cs _ => ?_⟩
      obtain ⟨v, w2, r, s⟩ := h c cs
      exact ⟨v, w2, r, stepsIn_wide.2 s⟩
    | round l f tmps assign body => exact h.elim
    | _ => exact h.elim
  | halt e w' =>
    cases e with
    | panic v => exact h
    | _ => exact h.elim

theorem region_in {lr nr : Nat} {P : Program} {ops : Array Oper} {Q : Exit → Act → World → Prop} {id : Nat} {a0 : Act} {w0 : World} (hm : P.follows .mixedOrders = true) (hno : noDefer ops = true) (D : List Nat) (hB : backB ops = true) (hds : dstsB ops D = true) (hD : ∀ t ∈ D, t < a0.tmps.size)
    (G : (Nat → Bool) → (Nat → Value) → World → Prop)
    (start : G (fun _ => false) (fun t => a0.eval (.tmp t)) w0.drew)
    (step : ∀ i o, ops[i]? = some o → Owes P ops Q G D a0 i o)
    (fin : ∀ L a w, Fr D a0 a → (∀ i, i < ops.size → L i = true) → G L (fun t => a.eval (.tmp t)) w → Q .normal a w) :
    (Code.region id ops true).wpIn (Fence.wide.inRound lr) nr P Q a0 w0 := by
  refine wpIn_region_any hm ?_
  have main : ∀ (fuel : Nat) (l : Array Bool) (a : Act) (w : World), l.size = ops.size → l.toList.count false ≤ fuel → Fr D a0 a → G (fun j => l.getD j false) (fun t => a.eval (.tmp t)) w →
      (∀ j oj, ops[j]? = some oj → l.getD j false = true → ∀ e ∈ oj.after, Region.binds .any e = true → l.getD e.on false = true) → wpAnyIn (Fence.wide.inRound lr) nr P .any ops Q fuel l a w := by
    intro fuel
    induction fuel with
    | zero =>
      intro l a w hs hc hf hG hcl
      have hr : Region.ready .any ops l = [] := by
        cases hr : Region.ready .any ops l with
        | nil => rfl
        | cons x xs =>
          have hx : x ∈ Region.ready .any ops l := by rw [hr]; simp
          have h0 := (mem_ready.1 hx).1
          have hxl : x < l.size := by
            rcases Nat.lt_or_ge x l.size with h' | h'
            · exact h'
            · simp [Array.getElem?_eq_none h'] at h0
          have h1 : l[x] = false := by simpa [hxl] using h0
          have : 0 < l.toList.count false := List.count_pos_iff.2 (by rw [← h1, Array.mem_toList_iff]; exact Array.getElem_mem hxl)
          omega
      exact ⟨hr, fin _ a w hf (fun i hi => all_listed hB hs hr i i (Nat.le_refl _) hi) hG⟩
    | succ fuel ih =>
      intro l a w hs hc hf hG hcl
      refine ⟨fun hr => fin _ a w hf (fun i hi => all_listed hB hs hr i i (Nat.le_refl _) hi) hG, fun i hi => ?_⟩
      obtain ⟨h0, o, ho, hall⟩ := mem_ready.1 hi
      have hil : i < l.size := by
        rcases Nat.lt_or_ge i l.size with h' | h'
        · exact h'
        · simp [Array.getElem?_eq_none h'] at h0
      have hdst : ∀ t, o.dst = some t → t ∈ D := fun t ht => dstsB_spec hds ho ht
      have key := step i o ho (fun j => l.getD j false) a w hf hG (getD_both' h0) hall hcl (wpAnyIn (Fence.wide.inRound lr) nr P .any ops Q fuel (l.setIfInBounds i true)) (fun v w' hG' => by
        refine ih _ _ _ (by simp [hs]) ?_ (hf.put o.dst hdst v) ?_ ?_
        · have h1 : l[i] = false := by simpa [hil] using h0
          have h2 : l.toList[i]'(by simpa using hil) = false := by rw [Array.getElem_toList]; exact h1
          have h3 := List.count_set (a := true) (b := false) (l := l.toList) (i := i) (by simpa using hil)
          rw [h2] at h3
          have h4 : 0 < l.toList.count false := List.count_pos_iff.2 (by rw [← h1, Array.mem_toList_iff]; exact Array.getElem_mem hil)
          rw [Array.toList_setIfInBounds]
          have h5 : (l.toList.set i true).count false = l.toList.count false - 1 := by rw [h3]; simp
          omega
        · have e1 : (fun j => (l.setIfInBounds i true).getD j false) = setL (fun j => l.getD j false) i := by
            funext j
            by_cases e : j = i
            · subst e; rw [setL_self]; exact getD_set_self h0 false
            · rw [setL_ne _ e]; exact getD_set_ne false (fun h => e h.symm)
          have e2 : (fun t => (a.put o.dst v).eval (.tmp t)) = setE (fun t => a.eval (.tmp t)) o.dst v := funext fun t => eval_put hf hD o.dst hdst v t
          rw [e1, e2]; exact hG'
        · intro j oj hj hl e he hb
          by_cases e1 : j = i
          · subst e1
            obtain rfl : oj = o := Option.some.inj (hj.symm.trans ho)
            exact getD_set_true (hall e he hb)
          · rw [getD_set_ne false (fun h => e1 h.symm)] at hl
            exact getD_set_true (hcl j oj hj hl e he hb))
      unfold wpOpIn
      rw [ho]
      simp only []
      split
      · rename_i hw
        rw [if_pos hw] at key
        exact oper_in (noDefer_spec hno ho) key
      · rename_i hw
        rw [if_neg hw] at key
        exact ⟨fun _ _ => trivial, key⟩
  have hrep : ∀ j, (Array.replicate ops.size false).getD j false = false := fun j => by
    rcases Nat.lt_or_ge j ops.size with h | h
    · simp [h]
    · simp [h]
  refine main ops.size (Array.replicate ops.size false) a0 _ (by simp) (by simp) (Fr.refl _ _) ?_ ?_
  · rw [show (fun j => (Array.replicate ops.size false).getD j false) = fun _ => false from funext hrep]
    exact start
  · intro j oj _ hl
    rw [hrep j] at hl; cases hl

end Go.Proofs.Ytgpkdnnlgafenaa
