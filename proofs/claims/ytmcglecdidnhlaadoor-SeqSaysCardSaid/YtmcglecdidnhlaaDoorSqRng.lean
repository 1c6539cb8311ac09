/- A range over a function whose iterator keeps a variable of its own in memory: told for one invariant of the caller's, which knows that variable; the body goes on or returns. -/
import Derived.RangeFuncNested
import Derived.RangeFuncBound
import Derived.RangeFuncCalls
import Derived.RangeFuncLeaves
import Derived.Shelf.Abstract
import Derived.Shelf.RegionOpen
import Derived.WalkKit
import Derived.OwnWalkIn
import Derived.TacticsInMore
import Derived.LoopNIn
import Derived.LoopIn
namespace Go.Proofs.YtmcglecdidnhlaaDoor
open Go.RowKit
set_option linter.unusedVariables false
attribute [local go_sem] Oper.semAt_some

/-- What is asked of the iterator: whatever the loop's two blocks are. -/
def IterAt {β α : Type} (F : Fence) (n : Nat) (P : Program) (gf : Nat) (lb : Array Value) (encs : α → Array Value) (B : Nat) (ok : β → α → Prop) (nx : β → α → β) (s0 : β) (Gn Rt : β → World → Prop) (Fin : β → Prop) : Prop :=
  ∀ (l : Nat) (Rk Rd : World → Prop) (W : World), B ≤ l → Gn s0 W → Rk W → (∀ X Y, KeepsFrom B X Y → Rk X → Rk Y) →
    (∀ s x W1, ok s x → Gn s W1 → Rk W1 → YieldAt F (n - 1) P l (encs x) W1 fun e W' => (e = .returned (.bool true) ∧ Gn (nx s x) W' ∧ Rk W') ∨ (e = .returned (.bool false) ∧ Rt (nx s x) W' ∧ Rd W')) →
    CallsIn F n P gf (#[.func (.yield l) #[] #[]] ++ lb) W fun e W' => (∃ v, e = .returned v) ∧ ((∃ s, Fin s ∧ Gn s W' ∧ Rk W') ∨ (∃ s, Rt s W' ∧ Rd W'))

theorem range_own {P : Program} {F : Fence} {n : Nat} {β α : Type} {g : Operand} {ps : Array Tmp} {assign body : Code} {Q : Exit → Act → World → Prop} {a : Act} {w : World}
    (hro : F.round = none) (h1 : 1 ≤ n) {gf : Nat} {lb : Array Value} (hg : a.eval g = .func (.func gf) #[] lb) (hFg : F.fn gf) (eg : ∀ args w, (callFunc gf args).run P w = .ok (.enter gf args) w)
    {encs : α → Array Value} (hps : ∀ x, (encs x).size = ps.size) {ok : β → α → Prop} {nx : β → α → β} {s0 : β} {Gn Rt : β → World → Prop} {Fin : β → Prop}
    (hit : IterAt F (n - 1) P gf lb encs w.heap.size ok nx s0 Gn Rt Fin) (hGn : OwnFrom w.heap.size Gn) (hRt : OwnFrom w.heap.size Rt) (h0 : Gn s0 w) (a1 : α → Act)
    (hassign : ∀ (l : Nat) (x : α) (W : World) (K : Act → World → Prop), K (a1 x) W → assign.wpIn (F.inRound l) (n - 1 - 1) P (Exit.then K (fun _ _ _ => False)) { tmps := (ps.zip (encs x)).foldl (fun t (p, v) => t.setIfInBounds p v) a.tmps, defers := [] } W)
    (hbody : ∀ (l : Nat) (s : β) (x : α) (W : World), w.heap.size ≤ l → ok s x → Gn s W →
      body.wpIn (F.inRound l) (n - 1 - 1) P (fun e _ W' => match e with | .normal => KeepsFrom w.heap.size W W' ∧ Gn (nx s x) W' | .ret => KeepsFrom w.heap.size W W' ∧ Rt (nx s x) W' | _ => False) (a1 x) W)
    (hdone : ∀ (D : Nat) (s : β) (W : World), w.heap.size ≤ D → Fin s → Gn s W → W.heap[D]? = some (.deferred (some [])) → Q .normal { a with defers := { target := .collected D, args := #[] } :: a.defers } W)
    (hstop : ∀ (D : Nat) (s : β) (W : World), w.heap.size ≤ D → Rt s W → W.heap[D]? = some (.deferred (some [])) → Code.ret.wpIn F n P Q { a with defers := { target := .collected D, args := #[] } :: a.defers } W) :
    (Code.rangeFunc g ps assign body).wpIn F n P Q a w := by
  refine wpIn_rangeFunc fun fn hfn => ?_
  rw [hro]
  -- the loop's record, at each of its states
  obtain ⟨rc, hrc⟩ : ∃ rc : LoopState → Option Code → Loop, rc = fun st pe => { state := st, pending := pe, fn, tmps := a.tmps, params := ps, assign, body, defers := w.heap.size } := ⟨_, rfl⟩
  let Mark : LoopState → Option Code → World → Prop := fun st pe W => W.heap[w.heap.size + 1]? = some (.loop (rc st pe)) ∧ W.heap[w.heap.size]? = some (.deferred (some []))
  have mark_keeps : ∀ st pe X Y, KeepsFrom w.heap.size X Y → Mark st pe X → Mark st pe Y := fun st pe X Y k h => ⟨k.same _ _ (by omega) h.1 rfl, k.same _ _ (Nat.le_refl _) h.2 rfl⟩
  have mark_put : ∀ st pe st' pe' X, Mark st pe X → Mark st' pe' (X.putObj (w.heap.size + 1) (.loop (rc st' pe'))) := fun st pe st' pe' X h =>
    ⟨World.putObj_heap_same (Array.getElem?_eq_some_iff.1 h.1).1, (World.putObj_heap_other (by omega)).trans h.2⟩
  have put_own : ∀ {I : β → World → Prop}, OwnFrom w.heap.size I → ∀ st pe s X o, Mark st pe X → I s X → I s (X.putObj (w.heap.size + 1) o) := fun hI st pe s X o h hs => hI.putObj _ hs (by omega) h.1 rfl
  obtain ⟨W1, hW1⟩ : ∃ W1, (w.alloc (.deferred (some []))).alloc (.loop (rc .ready none)) = W1 := ⟨_, rfl⟩
  have hM1 : Mark .ready none W1 := by
    refine ⟨?_, ?_⟩ <;> rw [← hW1]
    · have := World.alloc_heap_new (w.alloc (.deferred (some []))) (.loop (rc .ready none)); rwa [World.size_alloc] at this
    · exact (Below.heap_alloc _ _ _ (by simp)).trans (World.alloc_heap_new w _)
  refine ⟨w.heap.size + 1, [{ target := .collected w.heap.size, args := #[] }], W1, { target := .fn (.func gf) lb, args := #[.func (.yield (w.heap.size + 1)) #[] #[]] }, W1, gf,
    #[.func (.yield (w.heap.size + 1)) #[] #[]] ++ lb, W1, ?_, ?_, ?_, ?_, fun _ => h1, ?_⟩
  · rw [← hW1, hrc]; exact run_enterLoop_outer _ _ _ _ _
  · simp only [resolve, hg]
    simp [go_sem]
  · intro f' hf'; simp [Target.leads] at hf'; subst hf'; exact hFg
  · simp [invoke, go_sem, eg]
  have round : ∀ s x W, ok s x → Gn s W → Mark .ready none W → YieldAt F (n - 1 - 1) P (w.heap.size + 1) (encs x) W fun e W' => (e = .returned (.bool true) ∧ Gn (nx s x) W' ∧ Mark .ready none W') ∨ (e = .returned (.bool false) ∧ Rt (nx s x) W' ∧ Mark .done (some .ret) W') := fun s x W hk hs hm => by
    have hy := run_yield (P := P) (args := encs x) hm.1 (by rw [hrc]; exact hps x)
    rw [hrc] at hy
    refine ⟨fn, _, assign, body, hy, roundIn_of_wpIn hfn (hassign _ x W _ ?_)⟩
    clear hy
    have hb := mark_put _ _ .busy none _ hm
    refine ⟨_, run_beginRound hm.1 (by rw [hrc]), ?_⟩
    have hbe : (W.putObj (w.heap.size + 1) (.loop { rc .ready none with state := .busy })) = W.putObj (w.heap.size + 1) (.loop (rc .busy none)) := by rw [hrc]
    rw [hbe]
    refine wpIn_mono (hbody _ s x _ (by omega) hk (put_own hGn _ _ _ _ _ hm hs)) ?_
    rintro e a3 W3 hp
    have fin : ∀ (jump : Option Code), KeepsFrom w.heap.size (W.putObj (w.heap.size + 1) (.loop (rc .busy none))) W3 →
        (Instr.endRound (w.heap.size + 1) jump).run P W3 = .ok (.bool jump.isNone) (W3.putObj (w.heap.size + 1) (.loop (rc (if jump.isNone then .ready else .done) jump))) ∧ Mark .busy none W3 := fun jump hk3 => by
      have h3 := mark_keeps _ _ _ _ hk3 hb
      have := run_endRound (P := P) jump h3.1
      refine ⟨?_, h3⟩
      rw [hrc] at this ⊢
      exact this
    cases e with
    | normal =>
      obtain ⟨hr, h3⟩ := fin none hp.1
      exact ⟨_, _, hr, .inl ⟨rfl, put_own hGn _ _ _ _ _ h3 hp.2, mark_put _ _ _ _ _ h3⟩⟩
    | ret =>
      obtain ⟨hr, h3⟩ := fin (some .ret) hp.1
      exact ⟨_, _, hr, .inr ⟨rfl, put_own hRt _ _ _ _ _ h3 hp.2, mark_put _ _ _ _ _ h3⟩⟩
    | exit id => exact hp.elim
    | goto t => exact hp.elim
    | panic ch => exact hp.elim
    | outgrown => exact hp.elim
  refine (hit (w.heap.size + 1) (Mark .ready none) (Mark .done (some .ret)) W1 (by omega) (by rw [← hW1]; exact hGn.alloc _ (hGn.alloc _ h0)) hM1 (mark_keeps _ _) round).mono ?_
  rintro e W2 ⟨⟨v, rfl⟩, ⟨s, hF, hs, hm⟩ | ⟨s, hs, hm⟩⟩
  · refine ⟨none, _, by have := run_endLoop (P := P) hm.1 (by rw [hrc]; simp); rw [hrc] at this; exact this, ?_⟩
    exact hdone _ s _ (Nat.le_refl _) hF (hGn.putObj _ hs (by omega) hm.1 rfl) ((World.putObj_heap_other (by omega)).trans hm.2)
  · refine ⟨some .ret, _, by have := run_endLoop (P := P) hm.1 (by rw [hrc]; simp); rw [hrc] at this; exact this, ?_⟩
    exact hstop _ s _ (Nat.le_refl _) (hRt.putObj _ hs (by omega) hm.1 rfl) ((World.putObj_heap_other (by omega)).trans hm.2)
end Go.Proofs.YtmcglecdidnhlaaDoor
