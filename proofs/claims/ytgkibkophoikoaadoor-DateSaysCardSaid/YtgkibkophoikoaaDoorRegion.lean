/- A region that draws its order, walked by an invariant: what is known of each operation that has come up, whatever the order; one obligation an operation. -/
import Derived.Orders
import Derived.WalkKit
namespace Go.Proofs.YtgkibkophoikoaaDoor
open Go

/-- Every edge that binds whatever the mode leads back. -/
def backB (ops : Array Oper) : Bool := (List.range ops.size).all fun i => match ops[i]? with
  | some o => o.after.all fun e => !Region.binds .any e || decide (e.on < i)
  | none => true
/-- Every operation's temporary is one of D. -/
def dstsB (ops : Array Oper) (D : List Nat) : Bool := (List.range ops.size).all fun i => match ops[i]? with
  | some o => (match o.dst with
    | some t => D.contains t
    | none => true)
  | none => true

theorem backB_spec {ops : Array Oper} (h : backB ops = true) {i : Nat} {o : Oper} (ho : ops[i]? = some o) : ∀ e ∈ o.after, Region.binds .any e = true → e.on < i := by
  have hi : i < ops.size := (Array.getElem?_eq_some_iff.1 ho).1
  have h1 := List.all_eq_true.1 h i (List.mem_range.2 hi)
  rw [ho] at h1
  intro e he hbd
  have := Array.all_eq_true'.1 h1 e he
  simpa [hbd] using this
theorem dstsB_spec {ops : Array Oper} {D : List Nat} (h : dstsB ops D = true) {i : Nat} {o : Oper} (ho : ops[i]? = some o) {t : Nat} (ht : o.dst = some t) : t ∈ D := by
  have hi : i < ops.size := (Array.getElem?_eq_some_iff.1 ho).1
  have h1 := List.all_eq_true.1 h i (List.mem_range.2 hi)
  simp only [ho, ht] at h1
  simpa using h1

theorem getD_both' {l : Array Bool} {i : Nat} (h : l.getD i true = false) : l.getD i false = false := by
  rcases Nat.lt_or_ge i l.size with h' | h'
  · simp [h'] at h ⊢; exact h
  · simp [Array.getElem?_eq_none h'] at h
theorem getD_set_self {l : Array Bool} {i : Nat} (h : l.getD i true = false) (d : Bool) : (l.setIfInBounds i true).getD i d = true := by
  rcases Nat.lt_or_ge i l.size with h' | h'
  · simp [h']
  · simp [Array.getElem?_eq_none h'] at h

/-- Where nothing may come up, all has come up. -/
theorem all_listed {ops : Array Oper} {l : Array Bool} (hb : backB ops = true) (hs : l.size = ops.size) (h : Region.ready .any ops l = []) : ∀ n i, i ≤ n → i < ops.size → l.getD i false = true := by
  intro n
  induction n with
  | zero =>
    intro i hi hlt
    obtain rfl : i = 0 := by omega
    cases hl : l.getD 0 false with
    | true => rfl
    | false =>
      have h0 : l.getD 0 true = false := by
        have : 0 < l.size := by omega
        simp [this] at hl ⊢; exact hl
      have : 0 ∈ Region.ready .any ops l := mem_ready.2 ⟨h0, ops[0], Array.getElem?_eq_getElem hlt, fun e he hbd => by
        have := backB_spec hb (Array.getElem?_eq_getElem hlt) e he hbd
        omega⟩
      rw [h] at this; cases this
  | succ n ih =>
    intro i hi hlt
    cases hl : l.getD i false with
    | true => rfl
    | false =>
      have h0 : l.getD i true = false := by
        have : i < l.size := by omega
        simp [this] at hl ⊢; exact hl
      have : i ∈ Region.ready .any ops l := mem_ready.2 ⟨h0, ops[i], Array.getElem?_eq_getElem hlt, fun e he hbd => by
        have := backB_spec hb (Array.getElem?_eq_getElem hlt) e he hbd
        exact ih e.on (by omega) (by omega)⟩
      rw [h] at this; cases this

/-- The frame but for the temporaries D. -/
structure Fr (D : List Nat) (a0 a : Act) : Prop where
  defers : a.defers = a0.defers
  size : a.tmps.size = a0.tmps.size
  same : ∀ t, t ∉ D → a.eval (.tmp t) = a0.eval (.tmp t)
theorem Fr.refl (D : List Nat) (a : Act) : Fr D a a := ⟨rfl, rfl, fun _ _ => rfl⟩
theorem Fr.put {D : List Nat} {a0 a : Act} (h : Fr D a0 a) (d : Option Nat) (hd : ∀ t, d = some t → t ∈ D) (v : Value) : Fr D a0 (a.put d v) := by
  cases d with
  | none => exact h
  | some s =>
    refine ⟨h.defers, by simp [Act.put, h.size], fun t ht => ?_⟩
    have hne : s ≠ t := fun e => ht (e ▸ hd s rfl)
    rw [← h.same t ht]
    simp [Act.put, Act.eval, Array.getElem?_setIfInBounds_ne hne]

/-- What the temporaries hold, one of them anew. -/
def setE (E : Nat → Value) : Option Nat → Value → Nat → Value
  | some s, v => fun t => if t = s then v else E t
  | none, _ => E
theorem eval_put {D : List Nat} {a0 a : Act} (h : Fr D a0 a) (hD : ∀ t ∈ D, t < a0.tmps.size) (d : Option Nat) (hd : ∀ t, d = some t → t ∈ D) (v : Value) (t : Nat) : (a.put d v).eval (.tmp t) = setE (fun t => a.eval (.tmp t)) d v t := by
  cases d with
  | none => rfl
  | some s =>
    have hs : s < a.tmps.size := by rw [h.size]; exact hD s (hd s rfl)
    by_cases e : t = s
    · subst e
      simp [Act.put, Act.eval, setE, hs]
    · simp [Act.put, Act.eval, setE, e, Array.getElem?_setIfInBounds_ne (fun h => e h.symm)]

/-- Which operations have come up, one more. -/
def setL (L : Nat → Bool) (i : Nat) : Nat → Bool := fun j => if j = i then true else L j
theorem setL_self (L : Nat → Bool) (i : Nat) : setL L i i = true := by simp [setL]
theorem setL_ne (L : Nat → Bool) {i j : Nat} (h : j ≠ i) : setL L i j = L j := by simp [setL, h]
theorem setL_false {L : Nat → Bool} {i j : Nat} (h : setL L i j = false) : L j = false := by
  unfold setL at h
  split at h
  · cases h
  · exact h

/-- What an operation owes: behind it, G with it among those that have come up. -/
def Owes (P : Program) (ops : Array Oper) (Q : Exit → Act → World → Prop) (G : (Nat → Bool) → (Nat → Value) → World → Prop) (D : List Nat) (a0 : Act) (i : Nat) (o : Oper) : Prop :=
  ∀ (L : Nat → Bool) (a : Act) (w : World), Fr D a0 a → G L (fun t => a.eval (.tmp t)) w → L i = false →
    (∀ e ∈ o.after, Region.binds .any e = true → L e.on = true) → (∀ j oj, ops[j]? = some oj → L j = true → ∀ e ∈ oj.after, Region.binds .any e = true → L e.on = true) →
    ∀ K : Act → World → Prop, (∀ v w', G (setL L i) (setE (fun t => a.eval (.tmp t)) o.dst v) w' → K (a.put o.dst v) w') →
      if Region.wanted o (yielded ops a.tmps) = true then Oper.wp P o a w K Q else K (a.put o.dst undef) w

theorem region_inv {P : Program} {ops : Array Oper} {Q : Exit → Act → World → Prop} {id : Nat} {a0 : Act} {w0 : World} (hm : P.follows .mixedOrders = true) (D : List Nat) (hB : backB ops = true) (hds : dstsB ops D = true) (hD : ∀ t ∈ D, t < a0.tmps.size)
    (G : (Nat → Bool) → (Nat → Value) → World → Prop)
    (start : G (fun _ => false) (fun t => a0.eval (.tmp t)) w0.drew)
    (step : ∀ i o, ops[i]? = some o → Owes P ops Q G D a0 i o)
    (fin : ∀ L a w, Fr D a0 a → (∀ i, i < ops.size → L i = true) → G L (fun t => a.eval (.tmp t)) w → Q .normal a w) :
    (Code.region id ops true).wp P Q a0 w0 := by
  refine wp_region_any hm ?_
  have main : ∀ (fuel : Nat) (l : Array Bool) (a : Act) (w : World), l.size = ops.size → l.toList.count false ≤ fuel → Fr D a0 a → G (fun j => l.getD j false) (fun t => a.eval (.tmp t)) w →
      (∀ j oj, ops[j]? = some oj → l.getD j false = true → ∀ e ∈ oj.after, Region.binds .any e = true → l.getD e.on false = true) → wpAny P .any ops Q fuel l a w := by
    intro fuel
    induction fuel with
    | zero =>
      intro l a w hs hc hf hG hcl
      have hr : Region.ready .any ops l = [] := by
        cases hr : Region.ready .any ops l with
        | nil => rfl
        | cons x xs =>
          have hx : x ∈ Region.ready .any ops l := by rw [hr]; simp
          have h0 := (mem_ready.1 hx).1
          have hxl : x < l.size := by
            rcases Nat.lt_or_ge x l.size with h' | h'
            · exact h'
            · simp [Array.getElem?_eq_none h'] at h0
          have h1 : l[x] = false := by simpa [hxl] using h0
          have : 0 < l.toList.count false := List.count_pos_iff.2 (by rw [← h1, Array.mem_toList_iff]; exact Array.getElem_mem hxl)
          omega
      exact ⟨hr, fin _ a w hf (fun i hi => all_listed hB hs hr i i (Nat.le_refl _) hi) hG⟩
    | succ fuel ih =>
      intro l a w hs hc hf hG hcl
      refine ⟨fun hr => fin _ a w hf (fun i hi => all_listed hB hs hr i i (Nat.le_refl _) hi) hG, fun i hi => ?_⟩
      obtain ⟨h0, o, ho, hall⟩ := mem_ready.1 hi
      have hil : i < l.size := by
        rcases Nat.lt_or_ge i l.size with h' | h'
        · exact h'
        · simp [Array.getElem?_eq_none h'] at h0
      have hdst : ∀ t, o.dst = some t → t ∈ D := fun t ht => dstsB_spec hds ho ht
      have key := step i o ho (fun j => l.getD j false) a w hf hG (getD_both' h0) hall hcl (wpAny P .any ops Q fuel (l.setIfInBounds i true)) (fun v w' hG' => by
        refine ih _ _ _ (by simp [hs]) ?_ (hf.put o.dst hdst v) ?_ ?_
        · have h1 : l[i] = false := by simpa [hil] using h0
          have h2 : l.toList[i]'(by simpa using hil) = false := by rw [Array.getElem_toList]; exact h1
          have h3 := List.count_set (a := true) (b := false) (l := l.toList) (i := i) (by simpa using hil)
          rw [h2] at h3
          have h4 : 0 < l.toList.count false := List.count_pos_iff.2 (by rw [← h1, Array.mem_toList_iff]; exact Array.getElem_mem hil)
          rw [Array.toList_setIfInBounds]
          have h5 : (l.toList.set i true).count false = l.toList.count false - 1 := by rw [h3]; simp
          omega
        · have e1 : (fun j => (l.setIfInBounds i true).getD j false) = setL (fun j => l.getD j false) i := by
            funext j
            by_cases e : j = i
            · subst e; rw [setL_self]; exact getD_set_self h0 false
            · rw [setL_ne _ e]; exact getD_set_ne false (fun h => e h.symm)
          have e2 : (fun t => (a.put o.dst v).eval (.tmp t)) = setE (fun t => a.eval (.tmp t)) o.dst v := funext fun t => eval_put hf hD o.dst hdst v t
          rw [e1, e2]; exact hG'
        · intro j oj hj hl e he hb
          by_cases e1 : j = i
          · subst e1
            obtain rfl : oj = o := Option.some.inj (hj.symm.trans ho)
            exact getD_set_true (hall e he hb)
          · rw [getD_set_ne false (fun h => e1 h.symm)] at hl
            exact getD_set_true (hcl j oj hj hl e he hb))
      unfold wpOp
      rw [ho]
      simp only []
      split
      · rename_i hw
        rw [if_pos hw] at key
        exact .inl key
      · rename_i hw
        rw [if_neg hw] at key
        exact key
  have hrep : ∀ j, (Array.replicate ops.size false).getD j false = false := fun j => by
    rcases Nat.lt_or_ge j ops.size with h | h
    · simp [h]
    · simp [h]
  refine main ops.size (Array.replicate ops.size false) a0 _ (by simp) (by simp) (Fr.refl _ _) ?_ ?_
  · rw [show (fun j => (Array.replicate ops.size false).getD j false) = fun _ => false from funext hrep]
    exact start
  · intro j oj _ hl
    rw [hrep j] at hl; cases hl

/-- Operation n waits for each one ahead of it. -/
def lastB (ops : Array Oper) (n : Nat) : Bool := (List.range n).all fun j => match ops[n]? with
  | some o => o.after.any fun e => e.on == j && Region.binds .any e
  | none => false
theorem last_false {ops : Array Oper} {n : Nat} (h : lastB ops n = true) {L : Nat → Bool} (hcl : ∀ j oj, ops[j]? = some oj → L j = true → ∀ e ∈ oj.after, Region.binds .any e = true → L e.on = true) {i : Nat} (hi : i < n) (hL : L i = false) : L n = false := by
  cases hl : L n with
  | false => rfl
  | true =>
    have h1 := List.all_eq_true.1 h i (List.mem_range.2 hi)
    split at h1
    · rename_i o ho
      obtain ⟨e, he, hb⟩ := Array.any_eq_true'.1 h1
      simp only [Bool.and_eq_true, beq_iff_eq] at hb
      have := hcl n o ho hl e he hb.2
      rw [hb.1, hL] at this; cases this
    · cases h1

/-- The frame behind the region, written out. -/
theorem Fr.eq {D : List Nat} {a0 a : Act} (h : Fr D a0 a) (hD : ∀ t ∈ D, t < a0.tmps.size) : a = D.foldl (fun b t => b.put (some t) (a.eval (.tmp t))) a0 := by
  have gen : ∀ (D : List Nat) (b : Act), (∀ t ∈ D, t < b.tmps.size) → (D.foldl (fun b t => b.put (some t) (a.eval (.tmp t))) b).defers = b.defers ∧ (D.foldl (fun b t => b.put (some t) (a.eval (.tmp t))) b).tmps.size = b.tmps.size ∧
      ∀ t, (D.foldl (fun b t => b.put (some t) (a.eval (.tmp t))) b).eval (.tmp t) = if t ∈ D then a.eval (.tmp t) else b.eval (.tmp t) := by
    intro D
    induction D with
    | nil => intro b _; exact ⟨rfl, rfl, fun t => by simp⟩
    | cons s D ih =>
      intro b hb
      have hs : s < b.tmps.size := hb s (by simp)
      have hb' : ∀ t ∈ D, t < (b.put (some s) (a.eval (.tmp s))).tmps.size := fun t ht => by
        have := hb t (by simp [ht])
        simpa [Act.put] using this
      obtain ⟨e1, e2, e3⟩ := ih _ hb'
      refine ⟨e1, by rw [List.foldl_cons, e2]; simp [Act.put], fun t => ?_⟩
      rw [List.foldl_cons, e3]
      by_cases h1 : t ∈ D
      · simp [h1]
      · by_cases h2 : t = s
        · subst h2
          simp only [h1, if_false, List.mem_cons, true_or, if_true]
          simp [Act.put, Act.eval, hs]
        · simp only [h1, if_false, List.mem_cons, h2, or_self]
          simp [Act.put, Act.eval, Array.getElem?_setIfInBounds_ne (fun h => h2 h.symm)]
  obtain ⟨e1, e2, e3⟩ := gen D a0 hD
  have hd : a.defers = _ := h.defers.trans e1.symm
  have ht : a.tmps = (D.foldl (fun b t => b.put (some t) (a.eval (.tmp t))) a0).tmps := by
    apply Array.ext
    · rw [h.size, e2]
    · intro i h1 h2
      have e4 := e3 i
      have e5 : (if i ∈ D then a.eval (.tmp i) else a0.eval (.tmp i)) = a.eval (.tmp i) := by
        split
        · rfl
        · rename_i hn; exact (h.same i hn).symm
      rw [e5] at e4
      have e6 : a.eval (.tmp i) = a.tmps[i] := by simp [Act.eval, h1]
      have e7 : (D.foldl (fun b t => b.put (some t) (a.eval (.tmp t))) a0).eval (.tmp i) = (D.foldl (fun b t => b.put (some t) (a.eval (.tmp t))) a0).tmps[i] := by
        generalize D.foldl (fun b t => b.put (some t) (a.eval (.tmp t))) a0 = b at h2
        simp [Act.eval, h2]
      rw [← e6, ← e4, e7]
  cases a with
  | mk t d =>
    simp only at hd ht ⊢
    generalize D.foldl (fun b t_1 => b.put (some t_1) (Act.eval { tmps := t, defers := d } (.tmp t_1))) a0 = b at hd ht
    cases b
    simp only at hd ht
    rw [hd, ht]
end Go.Proofs.YtgkibkophoikoaaDoor
