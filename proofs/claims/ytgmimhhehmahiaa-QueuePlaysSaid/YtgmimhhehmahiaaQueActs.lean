/- What each call on three queues makes of them. -/
import Derived.Test.YtgmimhhehmahiaaQueInv
namespace Go.Proofs.Ytgmimhhehmahiaa
open Go.Conc Go.RowKit
set_option linter.unusedVariables false

section
variable {N room : Nat} {Fq Fw : Nat → List ByteArray} {Cq Ck : Nat → Bool}

theorem elems_append (a : List ByteArray) (s : ByteArray) : elems (a ++ [s]) = elems a ++ [s.data.toList] := by simp [elems]

def PutEnd (N room : Nat) (Fq Fw : Nat → List ByteArray) (Cq Ck : Nat → Bool) (k : Nat) (s : ByteArray) (b : Bool) (w : World) (e : Ending) (w' : World) : Prop :=
  e = .returned (.bool b) ∧ Inv w' N room (if b then upd Fq k (Fq k ++ [s]) else Fq) Fw Cq Ck ∧ Step N w w'

theorem put_inv {w : World} (h : Inv w N room Fq Fw Cq Ck) {k : Nat} (hk : k < 3) (s : ByteArray) (hs : s.size ≤ 100) (A : Option Addr) (cp : Nat) (hsee : Sees w w.heap.size A s.data.toList) (b : Bool) (hb : b = (decide ((Fq k).length < room) && !Cq k)) :
    Calls Try.prog 11 #[.pointer (some ⟨N + 2 * k + 1, 0, none⟩), .slice A s.size cp] w (PutEnd N room Fq Fw Cq Ck k s b w) := by
  have hq := h.que k hk
  have hle : (Fq k).length ≤ room := by have := hq.le; rwa [elems_length] at this
  cases hc : Cq k with
  | true =>
    rw [hc] at hq hb
    have e : b = false := by rw [hb]; simp
    subst e
    refine (put_shut A s.size cp w hq).mono ?_
    rintro e w' ⟨rfl, rfl⟩
    exact ⟨rfl, h, .of_below (Below.refl _ _)⟩
  | false =>
    rw [hc] at hq hb
    by_cases hlt : (Fq k).length < room
    · have e : b = true := by rw [hb]; simp [hlt]
      subst e
      refine (put_ok A s.size cp s.data.toList rfl w hq (by rw [elems_length]; exact hlt) hsee (by show s.size ≤ _; omega)).mono ?_
      rintro e w' ⟨rfl, h1, h2⟩
      rw [← elems_append] at h1
      have := h.one hk (.inr rfl) h2 h1 (fun x hx => by
        rcases List.mem_append.1 hx with hx | hx
        · exact h.small k hk x hx
        · rw [List.mem_singleton] at hx; subst hx; exact hs)
      have e2 : upd Cq k false = Cq := by rw [← hc]; exact upd_self _ _
      rw [e2] at this
      exact ⟨rfl, this.1, this.2⟩
    · have e : b = false := by rw [hb]; simp [hlt]
      subst e
      refine (put_full A s.size cp s.data.toList rfl w hq (by rw [elems_length]; omega) hsee (by show s.size ≤ _; omega)).mono ?_
      rintro e w' ⟨rfl, h1⟩
      exact ⟨rfl, h.below h1, .of_below h1⟩

def TakeEnd (N room : Nat) (Fq Fw : Nat → List ByteArray) (Cq Ck : Nat → Bool) (k : Nat) (x : ByteArray) (r : List ByteArray) (w : World) (e : Ending) (w' : World) : Prop :=
  ∃ A cp, e = .returned (.tuple #[.slice A x.size cp, .bool true]) ∧ Sees w' w'.heap.size A x.data.toList ∧ Inv w' N room (upd Fq k r) Fw Cq Ck ∧ Step N w w'
theorem take_inv {w : World} (h : Inv w N room Fq Fw Cq Ck) {k : Nat} (hk : k < 3) {x : ByteArray} {r : List ByteArray} (hx : Fq k = x :: r) :
    Calls Try.prog 14 #[.pointer (some ⟨N + 2 * k + 1, 0, none⟩)] w (TakeEnd N room Fq Fw Cq Ck k x r w) := by
  have hq := h.que k hk
  rw [hx] at hq
  refine (take_ok (x := x.data.toList) (xs := elems r) w hq).mono ?_
  rintro e w' ⟨A, cp, rfl, _, _, h1, h2, h3⟩
  have := h.one hk (.inr rfl) h3 h2 (fun y hy => h.small k hk y (by rw [hx]; exact List.mem_cons_of_mem _ hy))
  rw [upd_self] at this
  exact ⟨A, cp, rfl, h1, this.1, this.2⟩
theorem take_inv_none {w : World} (h : Inv w N room Fq Fw Cq Ck) {k : Nat} (hk : k < 3) (hx : Fq k = []) :
    Calls Try.prog 14 #[.pointer (some ⟨N + 2 * k + 1, 0, none⟩)] w fun e w' => e = .returned (.tuple #[.slice none 0 0, .bool false]) ∧ w = w' := by
  have hq := h.que k hk
  rw [hx] at hq
  exact take_none w hq

theorem close_inv {w : World} (h : Inv w N room Fq Fw Cq Ck) {k : Nat} (hk : k < 3) :
    Calls Try.prog 12 #[.pointer (some ⟨N + 2 * k + 1, 0, none⟩)] w fun e w' => e = .returned (.tuple #[]) ∧ Inv w' N room Fq Fw (upd Cq k true) Ck ∧ Step N w w' := by
  refine (close_any w (h.que k hk)).mono ?_
  rintro e w' ⟨rfl, h1, h2⟩
  have := h.one hk (.inl rfl) h2 h1 (h.small k hk)
  rw [upd_self] at this
  exact ⟨rfl, this.1, this.2⟩

/-- What Move does to the elements. -/
def moved (F : Nat → List ByteArray) (k t : Nat) : Nat → List ByteArray := upd (upd F t (F t ++ [(F k).headD ⟨#[]⟩])) k (F k).tail
def mayMove (room : Nat) (F : Nat → List ByteArray) (C : Nat → Bool) (k t : Nat) : Bool := decide (k ≠ t) && decide (0 < (F k).length) && decide ((F t).length < room) && !C t
def MoveEnd (N room : Nat) (Fq Fw : Nat → List ByteArray) (Cq Ck : Nat → Bool) (k t : Nat) (b : Bool) (w : World) (e : Ending) (w' : World) : Prop :=
  e = .returned (.bool b) ∧ Inv w' N room (if b then moved Fq k t else Fq) Fw Cq Ck ∧ Step N w w'
theorem move_inv {w : World} (h : Inv w N room Fq Fw Cq Ck) {k t : Nat} (hk : k < 3) (ht : t < 3) (b : Bool) (hb : b = mayMove room Fq Cq k t) :
    Calls Try.prog 13 #[.pointer (some ⟨N + 2 * k + 1, 0, none⟩), .pointer (some ⟨N + 2 * t + 1, 0, none⟩)] w (MoveEnd N room Fq Fw Cq Ck k t b w) := by
  unfold mayMove at hb
  have hq := h.que k hk
  have hr := h.que t ht
  have quiet : ∀ w', (∃ n, w' = w.drewN n) → Inv w' N room Fq Fw Cq Ck ∧ Step N w w' := by
    rintro w' ⟨n, rfl⟩
    exact ⟨h.drewN n, .of_below (below_drewN (Below.refl _ _) n)⟩
  by_cases hkt : k = t
  · subst hkt
    have e : b = false := by rw [hb]; simp
    subst e
    refine (move_same _ w).mono ?_
    rintro e w' ⟨rfl, rfl⟩
    exact ⟨rfl, h, .of_below (Below.refl _ _)⟩
  · have hne : N + 2 * k + 1 ≠ N + 2 * t + 1 := by omega
    by_cases hs : (!Cq t && decide ((elems (Fq t)).length < room)) = false
    · have e : b = false := by
        rw [hb]
        rw [elems_length] at hs
        cases h1 : Cq t <;> cases h2 : decide ((Fq t).length < room) <;> simp_all
      subst e
      refine (move_shut w hq hr hs hne).mono ?_
      rintro e w' ⟨rfl, hw⟩
      exact ⟨rfl, quiet w' hw⟩
    · have hct : Cq t = false := by
        cases h1 : Cq t
        · rfl
        · rw [h1] at hs; simp at hs
      have hlt : (elems (Fq t)).length < room := by
        rw [hct] at hs; simpa using hs
      have hlt' : (Fq t).length < room := by rwa [elems_length] at hlt
      rw [hct] at hr
      cases hx : Fq k with
      | nil =>
        rw [hx] at hq hb
        have e : b = false := by rw [hb]; simp
        subst e
        refine (move_empty w hq hr hlt hne).mono ?_
        rintro e w' ⟨rfl, hw⟩
        exact ⟨rfl, quiet w' hw⟩
      | cons x r =>
        have e : b = true := by rw [hb, hx, hct]; simp [hkt, hlt']
        subst e
        rw [hx] at hq
        have hxs : x.data.toList.length ≤ 140737488355328 := by
          have := h.small k hk x (by rw [hx]; simp)
          show x.size ≤ _
          omega
        refine (move_ok (x := x.data.toList) (xs := elems r) w hq hr hlt hxs hne (by omega) (by omega) (by omega)).mono ?_
        rintro e w' ⟨rfl, h1, h2, h3⟩
        rw [← elems_append] at h2
        have hst : Step N w w' := .of_only h3 (fun s hs => by simp at hs; omega)
        refine ⟨rfl, h.step hst (fun j hj => ?_) (fun j hj => ?_), hst⟩
        · unfold moved
          rw [if_pos rfl, hx]
          by_cases e1 : j = k
          · subst e1; rw [upd_same]; exact h1
          · rw [upd_other _ _ e1]
            by_cases e2 : j = t
            · subst e2; rw [upd_same, hct]; exact h2
            · rw [upd_other _ _ e2]
              refine (h.que j hj).only h3 (fun s hs => ?_) (by simp; omega) (by simp; omega)
              simp at hs
              rcases hs with rfl | rfl
              · exact (h.que k hk).noByte.2
              · exact (h.que t ht).noByte.2
        · unfold moved
          rw [if_pos rfl, hx]
          by_cases e1 : j = k
          · subst e1; rw [upd_same]; exact fun s hs => h.small j hj s (by rw [hx]; exact List.mem_cons_of_mem _ hs)
          · rw [upd_other _ _ e1]
            by_cases e2 : j = t
            · subst e2; rw [upd_same]
              intro s hs
              rcases List.mem_append.1 hs with hs | hs
              · exact h.small j hj s hs
              · rw [List.mem_singleton] at hs; subst hs; exact h.small k hk _ (by rw [hx]; simp)
            · rw [upd_other _ _ e2]; exact h.small j hj

/-- The first queue that has an element; 2 if none of the first two has one. -/
def first (F : Nat → List ByteArray) : Nat := if F 0 = [] then (if F 1 = [] then 2 else 1) else 0
theorem first_lt (F : Nat → List ByteArray) : first F < 3 := by unfold first; split <;> (try split) <;> omega
theorem first_before (F : Nat → List ByteArray) (j : Nat) (h : j < first F) : F j = [] := by
  unfold first at h
  split at h
  · split at h
    · match j, h with
      | 0, _ => assumption
      | 1, _ => assumption
    · match j, h with
      | 0, _ => assumption
  · omega
theorem first_none (F : Nat → List ByteArray) (h : F (first F) = []) : ∀ j, j < 3 → F j = [] := by
  unfold first at h
  split at h
  · split at h
    · intro j hj
      match j, hj with
      | 0, _ => assumption
      | 1, _ => assumption
      | 2, _ => assumption
    · exact absurd h (by assumption)
  · exact absurd h (by assumption)

theorem first_nil (F : Nat → List ByteArray) (h : F (first F) = []) : first F = 2 := by
  have h0 := first_none F h 0 (by omega)
  have h1 := first_none F h 1 (by omega)
  unfold first
  rw [if_pos h0, if_pos h1]

theorem ready_inv {w : World} (h : Inv w N room Fq Fw Cq Ck) {x : ByteArray} {r : List ByteArray} (hx : Fq (first Fq) = x :: r) :
    Calls Try.prog 10 #[.slice (some ⟨w.heap.size, 0, none⟩) 3 3] (w.alloc (.cells #[.pointer (some ⟨N + 1, 0, none⟩), .pointer (some ⟨N + 3, 0, none⟩), .pointer (some ⟨N + 5, 0, none⟩)] 23)) fun e w' =>
      ∃ A cp, e = .returned (.tuple #[.int .i64 (first Fq : Int), .slice A x.size cp, .bool true]) ∧ Sees w' w'.heap.size A x.data.toList ∧ Inv w' N room (upd Fq (first Fq) r) Fw Cq Ck ∧ Step N w w' := by
  have hb := below_alloc w (.cells #[.pointer (some ⟨N + 1, 0, none⟩), .pointer (some ⟨N + 3, 0, none⟩), .pointer (some ⟨N + 5, 0, none⟩)] 23)
  have h' := h.below hb
  have hk := first_lt Fq
  have hq := h'.que _ hk
  rw [hx] at hq
  have hp : ∀ j (hj : j < 3), ([some ⟨N + 1, 0, none⟩, some ⟨N + 3, 0, none⟩, some ⟨N + 5, 0, none⟩] : List (Option Addr))[j]'(by simpa using hj) = some ⟨N + 2 * j + 1, 0, none⟩ := by
    intro j hj
    match j, hj with
    | 0, _ => rfl
    | 1, _ => rfl
    | 2, _ => rfl
  refine (ready_ok (x := x.data.toList) (xs := elems r) _ 3 [some ⟨N + 1, 0, none⟩, some ⟨N + 3, 0, none⟩, some ⟨N + 5, 0, none⟩] 3 rfl (first Fq) (by simpa using hk) _ (Ptrs.new w _ _ _ rfl) (by simp) (by decide) (fun j hj => ?_) (hp _ hk) hq).mono ?_
  · rw [hp j (by omega)]
    have hqj := h'.que j (by omega)
    rw [first_before Fq j hj] at hqj
    exact Empt.que hqj
  · rintro e w' ⟨A, cp, rfl, _, _, h1, h2, h3⟩
    have := h'.one hk (.inr rfl) h3 h2 (fun y hy => h'.small _ hk y (by rw [hx]; exact List.mem_cons_of_mem _ hy))
    rw [upd_self] at this
    obtain ⟨S, hS, ho⟩ := this.2
    exact ⟨A, cp, rfl, h1, this.1, S, hS, (Only.of_below hb).trans ho⟩
theorem ready_inv_none {w : World} (h : Inv w N room Fq Fw Cq Ck) (hx : Fq (first Fq) = []) :
    Calls Try.prog 10 #[.slice (some ⟨w.heap.size, 0, none⟩) 3 3] (w.alloc (.cells #[.pointer (some ⟨N + 1, 0, none⟩), .pointer (some ⟨N + 3, 0, none⟩), .pointer (some ⟨N + 5, 0, none⟩)] 23)) fun e w' =>
      e = .returned (.tuple #[.int .i64 0, .slice none 0 0, .bool false]) ∧ Inv w' N room Fq Fw Cq Ck ∧ Step N w w' := by
  have hb := below_alloc w (.cells #[.pointer (some ⟨N + 1, 0, none⟩), .pointer (some ⟨N + 3, 0, none⟩), .pointer (some ⟨N + 5, 0, none⟩)] 23)
  have h' := h.below hb
  have hn := first_none Fq hx
  have hE : ∀ j, j < 3 → Empt (w.alloc (.cells #[.pointer (some ⟨N + 1, 0, none⟩), .pointer (some ⟨N + 3, 0, none⟩), .pointer (some ⟨N + 5, 0, none⟩)] 23)) (some ⟨N + 2 * j + 1, 0, none⟩) := fun j hj => by
    have hqj := h'.que j hj
    rw [hn j hj] at hqj
    exact Empt.que hqj
  refine (ready_none _ 3 [some ⟨N + 1, 0, none⟩, some ⟨N + 3, 0, none⟩, some ⟨N + 5, 0, none⟩] 3 rfl _ (Ptrs.new w _ _ _ rfl) (by simp) (by decide) (fun j hj => ?_)).mono ?_
  · match j, hj with
    | 0, _ => exact hE 0 (by omega)
    | 1, _ => exact hE 1 (by omega)
    | 2, _ => exact hE 2 (by omega)
  · rintro e w' ⟨rfl, rfl⟩
    exact ⟨rfl, h', .of_below hb⟩

theorem len_inv {w : World} (h : Inv w N room Fq Fw Cq Ck) {k : Nat} (hk : k < 3) :
    Calls Try.prog 16 #[.pointer (some ⟨N + 2 * k + 1, 0, none⟩)] w fun e w' => e = .returned (.int .i64 ((Fq k).length : Int)) ∧ w' = w := by
  refine (len_any w (h.que k hk)).mono ?_
  rintro e w' ⟨rfl, rfl⟩
  rw [elems_length]
  exact ⟨rfl, rfl⟩
theorem closed_inv {w : World} (h : Inv w N room Fq Fw Cq Ck) {k : Nat} (hk : k < 3) :
    Calls Try.prog 15 #[.pointer (some ⟨N + 2 * k + 1, 0, none⟩)] w fun e w' => e = .returned (.bool (Cq k)) ∧ w' = w :=
  (closed_any w (h.que k hk)).mono fun _ _ ⟨h1, h2⟩ => ⟨h1, h2.symm⟩
end
end Go.Proofs.Ytgmimhhehmahiaa
