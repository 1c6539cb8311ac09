/- cutPut. -/
import Derived.Test.YtpmgnmknjmnecaaKvCut
import Derived.Test.YtpmgnmknjmnecaaKvCpR
import Derived.Test.YtpmgnmknjmnecaaKvSet
import Derived.Test.YtpmgnmknjmnecaaRet
namespace Go.Proofs.Ytpmgnmknjmnecaa
open Go.RowKit Kv
set_option linter.unusedVariables false

theorem cutK_eq (c : UInt8) (t : List UInt8) : cutK c t = (cutC t 2).bind fun y => if c = 0 then some (⟨⟨y.1.toArray⟩, [], true⟩, y.2) else (cutC y.2 4).map fun z => (⟨⟨y.1.toArray⟩, z.1, false⟩, z.2) := by
  by_cases h1 : t.length < 2
  · simp only [cutK, cutC, if_pos h1, Option.bind_none]
  · by_cases h2 : (t.drop 2).length < Rc.num (t.take 2)
    · simp only [cutK, cutC, if_neg h1, if_pos h2, Option.bind_none]
    · have e : cutC t 2 = some ((t.drop 2).take (Rc.num (t.take 2)), (t.drop 2).drop (Rc.num (t.take 2))) := by unfold cutC; rw [if_neg h1, if_neg h2]
      rw [e]
      simp only [Option.bind_some]
      unfold cutK
      rw [if_neg h1, if_neg h2]
      by_cases hc : c = 0
      · rw [if_pos hc, if_pos hc]
      · rw [if_neg hc, if_neg hc]
        generalize (t.drop 2).drop (Rc.num (t.take 2)) = r
        generalize (t.drop 2).take (Rc.num (t.take 2)) = k
        unfold cutV cutC
        by_cases h3 : r.length < 4
        · rw [if_pos h3, if_pos h3]; rfl
        · rw [if_neg h3, if_neg h3]
          by_cases h4 : (r.drop 4).length < Rc.num (r.take 4)
          · rw [if_pos h4, if_pos h4]; rfl
          · rw [if_neg h4, if_neg h4]; rfl
/-- What cutPut answers. -/
def PutEnd (l : List UInt8) (B : Nat) (w : World) (e : Ending) (w' : World) : Prop :=
  ∃ k A n c g v2 ok, e = .returned (.tuple #[.agg #[.string k, .slice A n c, .bool g], v2, .bool ok]) ∧ Below w.heap.size w w' ∧
    (match cutP l with | none => ok = false | some (x, r) => ok = true ∧ x.k = k ∧ x.g = g ∧ n = x.v.length ∧ n ≤ c ∧ c ≤ maxLen ∧ Sees w B A x.v ∧ Rd w B v2 r)
theorem PutEnd.no {l : List UInt8} {B : Nat} {w w' : World} (h : cutP l = none) (k : ByteArray) (A : Option Addr) (n c : Nat) (g : Bool) (v2 : Value) (hb : Below w.heap.size w w') : PutEnd l B w (.returned (.tuple #[.agg #[.string k, .slice A n c, .bool g], v2, .bool false])) w' :=
  ⟨k, A, n, c, g, v2, false, rfl, hb, by rw [h]⟩
theorem PutEnd.of {l : List UInt8} {B : Nat} {w w' : World} {x : Pt} {r : List UInt8} (h : cut l = some (x, r)) (A : Option Addr) (c : Nat) (v2 : Value) (hc : x.v.length ≤ c) (hm : c ≤ maxLen) (hs : Sees w B A x.v) (hr : Rd w B v2 r) (hb : Below w.heap.size w w') : PutEnd l B w (.returned (.tuple #[.agg #[.string x.k, .slice A x.v.length c, .bool x.g], v2, .bool (ok1 x)])) w' := by
  refine ⟨x.k, A, _, c, x.g, v2, ok1 x, rfl, hb, ?_⟩
  unfold cutP
  rw [h]
  cases ho : ok1 x with
  | false => simp [ho]
  | true => simp [ho]; exact ⟨hc, hm, hs, hr⟩
/-- The result's box. -/
def PBox (w : World) (b : Nat) (k : ByteArray) (A : Option Addr) (n c : Nat) (g : Bool) : Prop := w.heap[b]? = some (.cells #[.string k, .slice A n c, .bool g] 29 (0, 0))
theorem PBox.cells {w : World} {b : Nat} {k : ByteArray} {A : Option Addr} {n c : Nat} {g : Bool} (h : PBox w b k A n c g) : (w.cell? ⟨b, 0, none⟩ = some (.string k) ∧ w.cell? ⟨b, 1, none⟩ = some (.slice A n c) ∧ w.cell? ⟨b, 2, none⟩ = some (.bool g)) ∧ (w.frozen? ⟨b, 0, none⟩ = false ∧ w.frozen? ⟨b, 1, none⟩ = false ∧ w.frozen? ⟨b, 2, none⟩ = false) := by
  unfold PBox at h
  refine ⟨⟨?_, ?_, ?_⟩, ?_, ?_, ?_⟩ <;> simp [World.cell?, World.frozen?, h]
theorem PBox.set {w : World} {b : Nat} {k k' : ByteArray} {A A' : Option Addr} {n c n' c' : Nat} {g g' : Bool} (h : PBox w b k A n c g) : PBox (((w.setCell ⟨b, 0, none⟩ (.string k')).setCell ⟨b, 1, none⟩ (.slice A' n' c')).setCell ⟨b, 2, none⟩ (.bool g')) b k' A' n' c' g' := by
  unfold PBox at h ⊢
  have h1 := setCell_heap h 0 (.string k')
  have h2 := setCell_heap h1 1 (.slice A' n' c')
  have h3 := setCell_heap h2 2 (.bool g')
  simpa using h3
theorem PBox.set1 {w : World} {b : Nat} {k : ByteArray} {A A' : Option Addr} {n c n' c' : Nat} {g : Bool} (h : PBox w b k A n c g) : PBox (w.setCell ⟨b, 1, none⟩ (.slice A' n' c')) b k A' n' c' g := by
  unfold PBox at h ⊢
  have h2 := setCell_heap h 1 (.slice A' n' c')
  simpa using h2
theorem PBox.below {w w' : World} {b : Nat} {k : ByteArray} {A : Option Addr} {n c : Nat} {g : Bool} (h : PBox w b k A n c g) (hb : Below w.heap.size w w') : PBox w' b k A n c g := by
  unfold PBox at h ⊢
  rw [hb.block b (Array.getElem?_eq_some_iff.1 h).1]; exact h
theorem set3_below {w w' : World} {N b : Nat} (h : Below N w w') (hb : N ≤ b) (x y z : Value) : Below N w (((w'.setCell ⟨b, 0, none⟩ x).setCell ⟨b, 1, none⟩ y).setCell ⟨b, 2, none⟩ z) := ((h.setCell hb _).setCell hb _).setCell hb _
theorem put_ret (w : World) (tmps : Array Value) (g : Nat) (hp : tmps.getD 2 undef = .pointer (some ⟨g, 0, none⟩)) (k : ByteArray) (A : Option Addr) (n c : Nat) (gg : Bool) (x y : Value) (hx : tmps.getD 3 undef = x) (hy : tmps.getD 4 undef = y) (hg : PBox w g k A n c gg) :
    (results Try.f32 tmps).run Try.prog w = .ok (.tuple #[.agg #[.string k, .slice A n c, .bool gg], x, y]) w :=
  ret_cell3 rfl tmps w g hp #[.string k, .slice A n c, .bool gg] _ hg _ Try.underlying29 rfl (by kernel_rfl) x y hx hy

/-- What the region at the end leaves. -/
structure CpS (N b : Nat) (k : ByteArray) (A : Option Addr) (n c : Nat) (g : Bool) (W : World) (w : World) : Prop where
  bel : Below N W w
  size : N ≤ w.heap.size
  box : PBox w b k A n c g
theorem CpS.store {N b : Nat} {k : ByteArray} {A : Option Addr} {n c : Nat} {g : Bool} {W w : World} (h : CpS N b k A n c g W w) (hb : N ≤ b) : CpS N b k A n c g W (((w.setCell ⟨b, 0, none⟩ (.string k)).setCell ⟨b, 1, none⟩ (.slice A n c)).setCell ⟨b, 2, none⟩ (.bool g)) :=
  ⟨set3_below h.bel hb _ _ _, Nat.le_trans h.size (by simp [World.setCell]), h.box.set⟩
theorem cp10_run {Q : Exit → Act → World → Prop} {a0 : Act} {W : World} (N b n c : Nat) (A : Option Addr) (k : ByteArray) (g : Bool) (v2 : Value) (val : List UInt8) (hn : n = val.length) (hm : n ≤ maxLen) (hk : k.size ≤ maxLen) (hNb : N ≤ b) (hW : CpS N b k A n c g W W)
    (hsz : 47 < a0.tmps.size) (in2 : a0.eval (.tmp 2) = .pointer (some ⟨b, 0, none⟩)) (in3 : a0.eval (.tmp 3) = v2) (in4 : a0.eval (.tmp 4) = .bool true)
    (fin : ∀ a w, Fr [41, 42, 43, 44, 45, 46, 47, 3, 4] a0 a → a.eval (.tmp 3) = v2 → a.eval (.tmp 4) = .bool (ok1 ⟨k, val, g⟩) → CpS N b k A n c g W w → Q .normal a w) :
    (Code.region 10 opsCp10 true).wp Try.prog Q a0 W := by
  refine cp10 b n c A k g (ok1 ⟨k, val, g⟩) v2 (fun f R w => CpS N b k A n c g W w ∧ (f 0 = true → R 0 = .bool (ok1 ⟨k, val, g⟩)) ∧ R 2 = v2 ∧ (f 3 = false → R 3 = .bool true) ∧ (f 3 = true → R 3 = .bool (ok1 ⟨k, val, g⟩))) hsz in2 ?_ ?_ ?_ ?_ ?_ ?_ ?_ ?_ ?_
  · intro f R w hS; exact hS.1.box.cells
  · intro f R w hS; exact hS.2.1
  · intro f R w hS h0
    refine (allowed_any k A n c g val w hn hm hk _ rfl).mono ?_
    rintro e w' ⟨rfl, hb⟩
    exact ⟨_, rfl, ⟨hS.1.bel.trans (hb.mono hS.1.size), Nat.le_trans hS.1.size hb.size, hS.1.box.below hb⟩, fun _ => setR_self .., by rw [setR_ne _ _ (by decide)]; exact hS.2.2.1, fun h3 => by rw [setR_ne _ _ (by decide)]; rw [setF_ne _ (by decide)] at h3; exact hS.2.2.2.1 h3, fun h3 => by rw [setR_ne _ _ (by decide)]; rw [setF_ne _ (by decide)] at h3; exact hS.2.2.2.2 h3⟩
  · intro f R w hS h1
    exact ⟨hS.1.store hNb, fun h0 => by rw [setF_ne _ (by decide)] at h0; exact hS.2.1 h0, hS.2.2.1, fun h3 => by rw [setF_ne _ (by decide)] at h3; exact hS.2.2.2.1 h3, fun h3 => by rw [setF_ne _ (by decide)] at h3; exact hS.2.2.2.2 h3⟩
  · intro f R w hS; exact ⟨fun _ => hS.2.2.1, hS.2.2.2.1⟩
  · intro f R w hS h2
    exact ⟨hS.1, fun h0 => by rw [setF_ne _ (by decide)] at h0; rw [setR_ne _ _ (by decide)]; exact hS.2.1 h0, setR_self .., fun h3 => by rw [setF_ne _ (by decide)] at h3; rw [setR_ne _ _ (by decide)]; exact hS.2.2.2.1 h3, fun h3 => by rw [setF_ne _ (by decide)] at h3; rw [setR_ne _ _ (by decide)]; exact hS.2.2.2.2 h3⟩
  · intro f R w hS h3
    exact ⟨hS.1, fun h0 => by rw [setF_ne _ (by decide)] at h0; rw [setR_ne _ _ (by decide)]; exact hS.2.1 h0, by rw [setR_ne _ _ (by decide)]; exact hS.2.2.1, (fun h => by rw [setF_self] at h; cases h), fun _ => setR_self ..⟩
  · refine ⟨⟨hW.bel.drew, hW.size, hW.box⟩, (fun h => by cases h), (resOf_at (C := cp10C) (j := 2) rfl a0).trans in3, fun _ => (resOf_at (C := cp10C) (j := 3) rfl a0).trans in4, (fun h => by cases h)⟩
  · intro a w f hfr hall hS
    exact fin a w hfr ((resOf_at (C := cp10C) (j := 2) rfl a).symm.trans hS.2.2.1) ((resOf_at (C := cp10C) (j := 3) rfl a).symm.trans (hS.2.2.2.2 (hall 3 (by decide)))) hS.1
theorem cf10_run {Q : Exit → Act → World → Prop} {a0 : Act} {W : World} (N b n c : Nat) (A : Option Addr) (k : ByteArray) (g : Bool) (v2 : Value) (hNb : N ≤ b) (hW : CpS N b k A n c g W W)
    (hsz : 47 < a0.tmps.size) (in2 : a0.eval (.tmp 2) = .pointer (some ⟨b, 0, none⟩)) (in3 : a0.eval (.tmp 3) = v2) (in4 : a0.eval (.tmp 4) = .bool false)
    (fin : ∀ a w, Fr [41, 42, 43, 44, 45, 46, 47, 3, 4] a0 a → a.eval (.tmp 3) = v2 → a.eval (.tmp 4) = .bool false → CpS N b k A n c g W w → Q .normal a w) :
    (Code.region 10 opsCf10 true).wp Try.prog Q a0 W := by
  refine cf10 b n c A k g v2 (fun f R w => CpS N b k A n c g W w ∧ R 1 = v2 ∧ R 2 = .bool false) hsz in2 ?_ ?_ ?_ ?_ ?_ ?_ ?_
  · intro f R w hS; exact hS.1.box.cells
  · intro f R w hS h1
    exact ⟨hS.1.store hNb, hS.2⟩
  · intro f R w hS; exact ⟨fun _ => hS.2.1, fun _ => hS.2.2⟩
  · intro f R w hS h2
    exact ⟨hS.1, setR_self .., by rw [setR_ne _ _ (by decide)]; exact hS.2.2⟩
  · intro f R w hS h3
    exact ⟨hS.1, by rw [setR_ne _ _ (by decide)]; exact hS.2.1, setR_self ..⟩
  · exact ⟨⟨hW.bel.drew, hW.size, hW.box⟩, (resOf_at (C := cf10C) (j := 1) rfl a0).trans in3, (resOf_at (C := cf10C) (j := 2) rfl a0).trans in4⟩
  · intro a w f hfr hall hS
    exact fin a w hfr ((resOf_at (C := cf10C) (j := 1) rfl a).symm.trans hS.2.1) ((resOf_at (C := cf10C) (j := 2) rfl a).symm.trans hS.2.2) hS.1
def bstr (l : List UInt8) : ByteArray := ⟨l.toArray⟩

theorem Sees.back {w w' : World} {B N : Nat} {A : Option Addr} {l : List UInt8} (h : Sees w' B A l) (hb : Below N w w') (hB : B ≤ N) : Sees w B A l := fun hn => by
  obtain ⟨g, o, e, hg, hc⟩ := h hn
  exact ⟨g, o, e, hg, fun j hj => (hb.cell (p := ⟨g, o + j, none⟩) (by show g < N; omega)).symm.trans (hc j hj)⟩
/-- The box and what the first byte tells. -/
structure CpW (w w1 : World) (c0 : UInt8) (t : List UInt8) (g o n c : Nat) (B : Nat) : Prop where
  eq : w1 = w.alloc (.cells #[.string ⟨#[]⟩, .slice none 0 0, .bool false] 29)
  size : w1.heap.size = w.heap.size + 1
  bel : Below w.heap.size w w1
  box : PBox w1 w.heap.size ⟨#[]⟩ none 0 0 false
  head : w1.cell? ⟨g, o, none⟩ = some (.int .u8 (c0.toNat : Int))
  tail : ∃ A1, (∀ W, (Instr.slice 27 (.slice (some ⟨g, o, none⟩) n c) (some (.int .i64 1)) none none).run Try.prog W = .ok (.slice A1 t.length (c - 1)) W) ∧ Sees w1 B A1 t
  le : t.length ≤ c - 1
  max : c ≤ maxLen
theorem cpw_new (w : World) (B : Nat) (g o n c : Nat) (c0 : UInt8) (t : List UInt8) (hn : n = (c0 :: t).length) (hnc : n ≤ c) (hcm : c ≤ maxLen) (hs : Sees w B (some ⟨g, o, none⟩) (c0 :: t)) (hB : B ≤ w.heap.size) : ∃ w1, Hid (CpW w w1 c0 t g o n c B) := by
  subst hn
  refine ⟨w.alloc (.cells #[.string ⟨#[]⟩, .slice none 0 0, .bool false] 29), Lib.hid ?_⟩
  have hb : Below w.heap.size w (w.alloc (.cells #[.string ⟨#[]⟩, .slice none 0 0, .bool false] 29)) := (Below.refl _ _).alloc (Nat.le_refl _) _
  have hs1 := hs.below hb hB
  obtain ⟨A1, h1, h2⟩ := run_tail (P := Try.prog) Try.underlying27 (fun w => by exact Try.sizeOf5 w) hs1 (c0 :: t).length c 1 rfl (by simp) hnc
  obtain ⟨g', o', e, _, hc⟩ := hs1 (by simp)
  injection e with e; injection e with e1 e2 _; subst e1 e2
  simp only [List.length_cons] at hnc
  refine ⟨rfl, by simp, hb, heap_alloc_new w _, hc 0 (by simp), ⟨A1, ?_, h2⟩, by omega, hcm⟩
  intro W
  have := h1 W
  simpa using this

set_option maxHeartbeats 3200000 in
set_option maxRecDepth 100000 in
theorem cutPut_any (w : World) (B : Nat) (g o n c : Nat) (c0 : UInt8) (t : List UInt8) (hn : n = (c0 :: t).length) (hnc : n ≤ c) (hcm : c ≤ maxLen) (hs : Sees w B (some ⟨g, o, none⟩) (c0 :: t)) (hB : B ≤ w.heap.size) :
    Calls Try.prog 32 #[.slice (some ⟨g, o, none⟩) n c] w (PutEnd (c0 :: t) B w) := by
  obtain ⟨w1, HW⟩ := cpw_new w B g o n c c0 t hn hnc hcm hs hB
  have hnpos : 0 < n := by rw [hn]; simp
  have hnI : (0 : Int) < (n : Int) := by omega
  have HCUT : cut (c0 :: t) = if c0 = 0 ∨ c0 = 1 then cutK c0 t else none := rfl
  clear hs hn
  obtain ⟨y1, y2⟩ := HW.out.box.cells
  obtain ⟨y3, y4, y5⟩ := y1
  obtain ⟨z3, z4, z5⟩ := y2
  obtain ⟨A1, hsl, hse⟩ := HW.out.tail
  have hhead := HW.out.head
  have hcut := cutC_any w1 B A1 t.length (c - 1) 2 2 t rfl HW.out.le (by have := HW.out.max; omega) hse rfl (by omega)
  have HC := Lib.hid hcut
  clear hcut hse
  by_cases hk : c0 = 0 ∨ c0 = 1
  case neg =>
    have hno : cutP (c0 :: t) = none := by unfold cutP; rw [HCUT, if_neg hk]; rfl
    obtain ⟨z, Hz⟩ : ∃ z : Int, Hid (z = (c0.toNat : Int)) := ⟨_, Lib.hid rfl⟩
    rw [← Hz.out] at hhead
    have hz0 : z ≠ 0 := fun e => hk (.inl (by
      have := Hz.out
      have h : c0.toNat = 0 := by omega
      exact UInt8.toNat.inj h))
    have hz1 : z ≠ 1 := fun e => hk (.inr (by
      have := Hz.out
      have h : c0.toNat = 1 := by omega
      exact UInt8.toNat.inj h))
    have hz0b : (z != 0) = true := by simp [hz0]
    have hz1b : (z != 1) = true := by simp [hz1]
    have KEY := Lib.hid (PutEnd.no (B := B) hno ⟨#[]⟩ none 0 0 false (.slice none 0 0) HW.out.bel)
    have HBOX := Lib.hid HW.out.box
    rw [HW.out.eq] at hhead y3 y4 y5 z3 z4 z5 KEY HBOX
    clear HC hsl hno HCUT hk HW
    go_enter Try.func32, Try.ntmps32
    go_wp2
    refine bodyPost_ret (put_ret _ _ w.heap.size rfl _ _ _ _ _ _ _ rfl rfl HBOX.out) rfl ?_
    exact KEY.out
  have HCK : Hid (cut (c0 :: t) = cutK c0 t) := Lib.hid (by rw [HCUT, if_pos hk])
  clear HCUT
  obtain ⟨z, Hz⟩ : ∃ z : Int, Hid (z = (c0.toNat : Int)) := ⟨_, Lib.hid rfl⟩
  rw [← Hz.out] at hhead
  have hhead0 := hhead
  rw [HW.out.eq] at hhead0
  have hN1 : w.heap.size ≤ w1.heap.size := HW.out.bel.size
  cases hc2 : cutC t 2 with
  | none =>
    have hno : cutP (c0 :: t) = none := by unfold cutP; rw [HCK.out, cutK_eq, hc2]; rfl
    have fin : ∀ w2, Below w1.heap.size w1 w2 → (PBox w2 w.heap.size ⟨#[]⟩ none 0 0 false) ∧ ∃ w3, Hid (w3 = (((w2.setCell ⟨w.heap.size, 0, none⟩ (.string ⟨#[]⟩)).setCell ⟨w.heap.size, 1, none⟩ (.slice none 0 0)).setCell ⟨w.heap.size, 2, none⟩ (.bool false))) ∧ PBox w3 w.heap.size ⟨#[]⟩ none 0 0 false ∧ PutEnd (c0 :: t) B w (.returned (.tuple #[.agg #[.string ⟨#[]⟩, .slice none 0 0, .bool false], .slice none 0 0, .bool false])) w3 := fun w2 hb2 =>
      ⟨HW.out.box.below hb2, _, Lib.hid rfl, (HW.out.box.below hb2).set, PutEnd.no hno _ _ _ _ _ _ (set3_below (HW.out.bel.trans (hb2.mono hN1)) (Nat.le_refl _) _ _ _)⟩
    have FIN := Lib.hid fin
    clear hno fin hhead y3 y4 y5 z3 z4 z5
    have hz01 : z = 0 ∨ z = 1 := by rw [Hz.out]; rcases hk with rfl | rfl <;> first | exact .inl rfl | exact .inr rfl
    clear hk Hz
    rcases hz01 with rfl | rfl
    all_goals
      go_enter Try.func32, Try.ntmps32
      go_wp2_with fail
      rw [← HW.out.eq]
      refine HC.out.mono ?_
      rintro e w2 ⟨hm, hb2⟩
      rw [hc2] at hm
      simp only at hm
      subst hm
      obtain ⟨hbx, w3, Hw3, hb3, hp3⟩ := FIN.out w2 hb2
      obtain ⟨⟨q1, q2, q3⟩, q4, q5, q6⟩ := hbx.cells
      have HB3 := Lib.hid hb3
      have HP3 := Lib.hid hp3
      clear hb2 hbx hb3 hp3 FIN HC hsl hhead0
      go_wp2
      rw [← Hw3.out]
      refine bodyPost_ret (put_ret w3 _ w.heap.size rfl _ _ _ _ _ _ _ rfl rfl HB3.out) rfl ?_
      exact HP3.out
  | some y =>
    obtain ⟨key, r⟩ := y
    have hsplit : ∀ w2 e, CutEnd t 2 B w1 e w2 → ∃ Ak ck A2 c2, e = .returned (.tuple #[.slice Ak key.length ck, .slice A2 r.length c2, .bool true]) ∧ (key.length ≤ ck ∧ ck ≤ maxLen ∧ Sees w B Ak key) ∧ (r.length ≤ c2 ∧ c2 ≤ maxLen ∧ Sees w B A2 r) ∧ Below w.heap.size w w2 ∧ PBox w2 w.heap.size ⟨#[]⟩ none 0 0 false := fun w2 e h => by
      obtain ⟨hm, hb2⟩ := h
      rw [hc2] at hm
      obtain ⟨v1, v2, rfl, ⟨Ak, ck, rfl, k1, k2, k3⟩, A2, c2, rfl, m1, m2, m3⟩ := hm
      exact ⟨Ak, ck, A2, c2, rfl, ⟨k1, k2, k3.back HW.out.bel hB⟩, ⟨m1, m2, m3.back HW.out.bel hB⟩, HW.out.bel.trans (hb2.mono hN1), HW.out.box.below hb2⟩
    have HSPL := Lib.hid hsplit
    clear hsplit hhead y3 y4 y5 z3 z4 z5
    rcases hk with rfl | rfl
    · have hcut : cut (0 :: t) = some (⟨bstr key, [], true⟩, r) := by rw [HCK.out, cutK_eq, hc2]; rfl
      have HCUT := Lib.hid hcut
      obtain rfl : z = 0 := Hz.out
      clear hcut
      go_enter Try.func32, Try.ntmps32
      go_wp2_with fail
      rw [← HW.out.eq]
      refine HC.out.mono ?_
      intro e w2 hq
      obtain ⟨Ak, ck, A2, c2, rfl, ⟨k1, k2, k3⟩, ⟨m1, m2, m3⟩, hb2, hbx⟩ := HSPL.out w2 e hq
      obtain ⟨⟨q1, q2, q3⟩, q4, q5, q6⟩ := hbx.cells
      have hcv := run_sees_string (P := Try.prog) w2 27 9 5 Try.underlying27 Try.underlying5 Try.underlying9 (k3.below hb2 hB) key.length ck rfl
      have hcv' : (convert 27 9 (.slice Ak key.length ck)).run Try.prog w2 = .ok (.string (bstr key)) w2 := hcv
      obtain ⟨kb, Hkb⟩ : ∃ kb, Hid (kb = bstr key) := ⟨_, Lib.hid rfl⟩
      rw [← Hkb.out] at hcv'
      obtain ⟨w3, Hw3⟩ : ∃ w3, Hid (w3 = (((w2.setCell ⟨w.heap.size, 0, none⟩ (.string kb)).setCell ⟨w.heap.size, 1, none⟩ (.slice none 0 0)).setCell ⟨w.heap.size, 2, none⟩ (.bool true))) := ⟨_, Lib.hid rfl⟩
      have HW3 : Hid (CpS w.heap.size w.heap.size kb none 0 0 true w3 w3 ∧ Below w.heap.size w w3) := Lib.hid (by
        rw [Hw3.out]
        have h5 := set3_below hb2 (Nat.le_refl _) (.string kb) (.slice none 0 0) (.bool true)
        exact ⟨⟨Below.refl _ _, h5.size, hbx.set⟩, h5⟩)
      have HKS : Hid (kb.size ≤ maxLen) := Lib.hid (by rw [Hkb.out]; show key.toArray.size ≤ maxLen; simp; omega)
      have HR : Hid (Rd w B (.slice A2 r.length c2) r) := Lib.hid ⟨A2, c2, rfl, m1, m2, m3⟩
      clear hq k1 k2 k3 m1 m2 m3 hb2 hbx hcv HC HSPL hsl hhead0
      go_wp2
      rw [← Hw3.out]
      refine cp10_run w.heap.size w.heap.size 0 0 none kb true (.slice A2 r.length c2) [] rfl (Nat.zero_le _) HKS.out (Nat.le_refl _) HW3.out.1 (by show 47 < 48; omega) rfl rfl rfl ?_
      intro af wN hfr h3 h4 hS
      have KEY : Hid (PutEnd (0 :: t) B w (.returned (.tuple #[.agg #[.string kb, .slice none 0 0, .bool true], .slice A2 r.length c2, .bool (ok1 ⟨kb, [], true⟩)])) wN) := Lib.hid (by
        have := PutEnd.of (B := B) (w := w) (w' := wN) HCUT.out none 0 (.slice A2 r.length c2) (Nat.zero_le _) (Nat.zero_le _) (Sees.nil _ _ _) HR.out (HW3.out.2.trans hS.bel)
        rw [Hkb.out]; exact this)
      have HBX := Lib.hid hS.box
      clear hS
      have ha := hfr.eq (by intro t ht; simp at ht; show t < 48; omega)
      simp only [List.foldl_cons, List.foldl_nil] at ha
      clear hfr
      rw [h3] at ha
      clear h3
      rw [h4] at ha
      clear h4
      generalize af.eval (.tmp 41) = u41 at ha
      generalize af.eval (.tmp 42) = u42 at ha
      generalize af.eval (.tmp 43) = u43 at ha
      generalize af.eval (.tmp 44) = u44 at ha
      generalize af.eval (.tmp 45) = u45 at ha
      generalize af.eval (.tmp 46) = u46 at ha
      generalize af.eval (.tmp 47) = u47 at ha
      subst ha
      simp only [Act.put, List.setIfInBounds_toArray, List.set_cons_zero, List.set_cons_succ]
      go_wp2
      refine bodyPost_ret (put_ret wN _ w.heap.size rfl _ _ _ _ _ _ _ rfl rfl HBX.out) rfl ?_
      exact KEY.out
    · obtain rfl : z = 1 := Hz.out
      have hcut : cut (1 :: t) = (cutC r 4).map fun y => (⟨bstr key, y.1, false⟩, y.2) := by rw [HCK.out, cutK_eq, hc2]; rfl
      have HCUT := Lib.hid hcut
      clear hcut
      go_enter Try.func32, Try.ntmps32
      go_wp2_with fail
      rw [← HW.out.eq]
      refine HC.out.mono ?_
      intro e w2 hq
      obtain ⟨Ak, ck, A2, c2, rfl, ⟨k1, k2, k3⟩, ⟨m1, m2, m3⟩, hb2, hbx⟩ := HSPL.out w2 e hq
      obtain ⟨⟨q1, q2, q3⟩, q4, q5, q6⟩ := hbx.cells
      have hcv := run_sees_string (P := Try.prog) w2 27 9 5 Try.underlying27 Try.underlying5 Try.underlying9 (k3.below hb2 hB) key.length ck rfl
      have hcv' : (convert 27 9 (.slice Ak key.length ck)).run Try.prog w2 = .ok (.string (bstr key)) w2 := hcv
      obtain ⟨kb, Hkb⟩ : ∃ kb, Hid (kb = bstr key) := ⟨_, Lib.hid rfl⟩
      rw [← Hkb.out] at hcv'
      obtain ⟨w3, Hw3⟩ : ∃ w3, Hid (w3 = (((w2.setCell ⟨w.heap.size, 0, none⟩ (.string kb)).setCell ⟨w.heap.size, 1, none⟩ (.slice none 0 0)).setCell ⟨w.heap.size, 2, none⟩ (.bool false))) := ⟨_, Lib.hid rfl⟩
      have hw3 : PBox w3 w.heap.size kb none 0 0 false ∧ Below w.heap.size w w3 := by
        rw [Hw3.out]
        exact ⟨hbx.set, set3_below hb2 (Nat.le_refl _) (.string kb) (.slice none 0 0) (.bool false)⟩
      have HKS : Hid (kb.size ≤ maxLen) := Lib.hid (by rw [Hkb.out]; show key.toArray.size ≤ maxLen; simp; omega)
      have hc4 := cutC_any w3 B A2 r.length c2 4 4 r rfl m1 m2 (m3.below hw3.2 hB) rfl (by omega)
      have HC4 := Lib.hid hc4
      have HW3 := Lib.hid hw3
      clear hq k1 k2 k3 m1 m2 m3 hb2 hbx hcv HC HSPL hsl hhead0 hc4 hw3
      go_wp2_with fail
      rw [← Hw3.out]
      refine HC4.out.mono ?_
      rintro e w4 ⟨hm, hb4⟩
      have hbx4 := HW3.out.1.below hb4
      have hbel4 : Below w.heap.size w w4 := HW3.out.2.trans (hb4.mono HW3.out.2.size)
      obtain ⟨⟨q1, q2, q3⟩, q4, q5, q6⟩ := hbx4.cells
      cases hcr : cutC r 4 with
      | none =>
        rw [hcr] at hm
        simp only at hm
        subst hm
        have hno : cutP (1 :: t) = none := by unfold cutP; rw [HCUT.out, hcr]; rfl
        obtain ⟨w5, Hw5⟩ : ∃ w5, Hid (w5 = w4.setCell ⟨w.heap.size, 1, none⟩ (.slice none 0 0)) := ⟨_, Lib.hid rfl⟩
        have HW5 : Hid (CpS w.heap.size w.heap.size kb none 0 0 false w5 w5 ∧ Below w.heap.size w w5) := Lib.hid (by
          rw [Hw5.out]
          have h5 := hbel4.setCell (p := ⟨w.heap.size, 1, none⟩) (Nat.le_refl _) (.slice none 0 0)
          exact ⟨⟨Below.refl _ _, h5.size, hbx4.set1⟩, h5⟩)
        have HNO := Lib.hid hno
        clear hb4 hbx4 hbel4 hno HC4 HW3
        go_wp2
        rw [← Hw5.out]
        refine cf10_run w.heap.size w.heap.size 0 0 none kb false (.slice none 0 0) (Nat.le_refl _) HW5.out.1 (by show 47 < 48; omega) rfl rfl rfl ?_
        intro af wN hfr h3 h4 hS
        have KEY := Lib.hid (PutEnd.no (B := B) HNO.out kb none 0 0 false (.slice none 0 0) (HW5.out.2.trans hS.bel))
        have HBX := Lib.hid hS.box
        clear hS
        have ha := hfr.eq (by intro t ht; simp at ht; show t < 48; omega)
        simp only [List.foldl_cons, List.foldl_nil] at ha
        clear hfr
        rw [h3] at ha
        clear h3
        rw [h4] at ha
        clear h4
        generalize af.eval (.tmp 41) = u41 at ha
        generalize af.eval (.tmp 42) = u42 at ha
        generalize af.eval (.tmp 43) = u43 at ha
        generalize af.eval (.tmp 44) = u44 at ha
        generalize af.eval (.tmp 45) = u45 at ha
        generalize af.eval (.tmp 46) = u46 at ha
        generalize af.eval (.tmp 47) = u47 at ha
        subst ha
        simp only [Act.put, List.setIfInBounds_toArray, List.set_cons_zero, List.set_cons_succ]
        go_wp2
        refine bodyPost_ret (put_ret wN _ w.heap.size rfl _ _ _ _ _ _ _ rfl rfl HBX.out) rfl ?_
        exact KEY.out
      | some y =>
        obtain ⟨v, r2⟩ := y
        rw [hcr] at hm
        obtain ⟨u1, u2, rfl, ⟨Av, cv, rfl, k1, k2, k3⟩, A5, c5, rfl, m1, m2, m3⟩ := hm
        obtain ⟨w5, Hw5⟩ : ∃ w5, Hid (w5 = w4.setCell ⟨w.heap.size, 1, none⟩ (.slice Av v.length cv)) := ⟨_, Lib.hid rfl⟩
        have HW5 : Hid (CpS w.heap.size w.heap.size kb Av v.length cv false w5 w5 ∧ Below w.heap.size w w5) := Lib.hid (by
          rw [Hw5.out]
          have h5 := hbel4.setCell (p := ⟨w.heap.size, 1, none⟩) (Nat.le_refl _) (.slice Av v.length cv)
          exact ⟨⟨Below.refl _ _, h5.size, hbx4.set1⟩, h5⟩)
        have HK3 := Lib.hid (k3.back HW3.out.2 hB)
        have HR : Hid (Rd w B (.slice A5 r2.length c5) r2) := Lib.hid ⟨A5, c5, rfl, m1, m2, m3.back HW3.out.2 hB⟩
        have HV := Lib.hid (⟨k1, k2⟩ : _ ∧ _)
        have hcutv : cut (1 :: t) = some (⟨bstr key, v, false⟩, r2) := by rw [HCUT.out, hcr]; rfl
        have HCV := Lib.hid hcutv
        clear hb4 hbx4 hbel4 HC4 HW3 k1 k2 k3 m1 m2 m3 hcutv
        go_wp2
        rw [← Hw5.out]
        refine cp10_run w.heap.size w.heap.size v.length cv Av kb false (.slice A5 r2.length c5) v rfl (Nat.le_trans HV.out.1 HV.out.2) HKS.out (Nat.le_refl _) HW5.out.1 (by show 47 < 48; omega) rfl rfl rfl ?_
        intro af wN hfr h3 h4 hS
        have KEY : Hid (PutEnd (1 :: t) B w (.returned (.tuple #[.agg #[.string kb, .slice Av v.length cv, .bool false], .slice A5 r2.length c5, .bool (ok1 ⟨kb, v, false⟩)])) wN) := Lib.hid (by
          have := PutEnd.of (B := B) (w := w) (w' := wN) HCV.out Av cv (.slice A5 r2.length c5) HV.out.1 HV.out.2 HK3.out HR.out (HW5.out.2.trans hS.bel)
          rw [Hkb.out]; exact this)
        have HBX := Lib.hid hS.box
        clear hS
        have ha := hfr.eq (by intro t ht; simp at ht; show t < 48; omega)
        simp only [List.foldl_cons, List.foldl_nil] at ha
        clear hfr
        rw [h3] at ha
        clear h3
        rw [h4] at ha
        clear h4
        generalize af.eval (.tmp 41) = u41 at ha
        generalize af.eval (.tmp 42) = u42 at ha
        generalize af.eval (.tmp 43) = u43 at ha
        generalize af.eval (.tmp 44) = u44 at ha
        generalize af.eval (.tmp 45) = u45 at ha
        generalize af.eval (.tmp 46) = u46 at ha
        generalize af.eval (.tmp 47) = u47 at ha
        subst ha
        simp only [Act.put, List.setIfInBounds_toArray, List.set_cons_zero, List.set_cons_succ]
        go_wp2
        refine bodyPost_ret (put_ret wN _ w.heap.size rfl _ _ _ _ _ _ _ rfl rfl HBX.out) rfl ?_
        exact KEY.out
end Go.Proofs.Ytpmgnmknjmnecaa
