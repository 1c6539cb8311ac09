/- A log in plain words: its stream of records, the device's sectors that hold it, what a fall leaves of it. -/
import Derived.Test.YtambddncncaehaaDoorRecPure
import Derived.Test.YtambddncncaehaaDoorDevPure
namespace Go.Proofs.YtambddncncaehaaDoor.Wl
open Dk
set_option linter.unusedVariables false

structure Lg where
  base : List UInt8
  recs : List (List UInt8)
  half : Nat
def Lg.stream (L : Lg) : List UInt8 := Rc.encs 1 (L.base :: L.recs)
def Lg.used (L : Lg) : Nat := L.stream.length
def tailOf (s : List UInt8) : List UInt8 := s.drop (s.length / 512 * 512)
def Lg.add (L : Lg) (b : List UInt8) : Lg := { L with recs := L.recs ++ [b] }
def Lg.keep (L : Lg) (b : List UInt8) : Lg := ⟨b, [], 1 - L.half⟩
def Lg.zero : Lg := ⟨[], [], 0⟩
structure Lg.Ok (sz : Nat) (L : Lg) : Prop where
  half : L.half ≤ 1
  used : L.used ≤ sz * 512
  small : ∀ b ∈ L.base :: L.recs, b.length ≤ 200000

def sec (D : List ByteArray) (i : Nat) : List UInt8 := (D.getD i ByteArray.empty).data.toList
def Placed (D : List ByteArray) (first : Nat) (s : List UInt8) : Prop := ∀ j (h : j < s.length), (sec D (first + j / 512))[j % 512]? = some s[j]
def Headed (D : List ByteArray) (u h : Nat) : Prop := ∃ t, sec D 0 = Rc.enc u [UInt8.ofNat h] ++ t
def Holds (D : List ByteArray) (sz : Nat) (L : Lg) : Prop := (Headed D L.used L.half ∧ Placed D (1 + L.half * sz) L.stream) ∨ (Rc.getE (sec D 0) ≠ 0 ∧ L = Lg.zero)

theorem sec_set_ne (D : List ByteArray) (i k : Nat) (b : ByteArray) (h : i ≠ k) : sec (D.set i b) k = sec D k := by
  unfold sec; rw [List.getD_eq_getElem?_getD, List.getD_eq_getElem?_getD, List.getElem?_set_ne h]
theorem sec_set_self (D : List ByteArray) (i : Nat) (b : ByteArray) (h : i < D.length) : sec (D.set i b) i = b.data.toList := by
  unfold sec; rw [List.getD_eq_getElem?_getD, List.getElem?_set_self h]; rfl
theorem sec_of {D : List ByteArray} {i : Nat} {b : ByteArray} (h : D[i]? = some b) : sec D i = b.data.toList := by
  unfold sec; rw [List.getD_eq_getElem?_getD, h]; rfl
theorem sec_eq {D E : List ByteArray} {i : Nat} (h : D[i]? = E[i]?) : sec D i = sec E i := by
  unfold sec; rw [List.getD_eq_getElem?_getD, List.getD_eq_getElem?_getD, h]
theorem sec_length {D : List ByteArray} {i : Nat} (hs : ∀ d ∈ D, d.size = 512) (h : i < D.length) : (sec D i).length = 512 := by
  unfold sec; rw [List.getD_eq_getElem?_getD, List.getElem?_eq_getElem h]; exact hs _ (List.getElem_mem h)

/-- Sector q of bytes that are written. -/
def secAt (b : List UInt8) (q : Nat) : List UInt8 := (b.drop (q * 512)).take 512 ++ List.replicate (512 - ((b.drop (q * 512)).take 512).length) 0
theorem secAt_length (b : List UInt8) (q : Nat) : (secAt b q).length = 512 := by
  unfold secAt; rw [List.length_append, List.length_replicate]
  have : ((b.drop (q * 512)).take 512).length ≤ 512 := by rw [List.length_take]; omega
  omega
theorem secAt_at (b : List UInt8) (q j : Nat) (hj : j < 512) (h : q * 512 + j < b.length) : (secAt b q)[j]? = some b[q * 512 + j] := by
  unfold secAt
  rw [List.getElem?_append_left (by rw [List.length_take, List.length_drop]; omega), List.getElem?_take_of_lt hj, List.getElem?_drop, List.getElem?_eq_getElem h]
def secB (b : List UInt8) (q : Nat) : ByteArray := ⟨(secAt b q).toArray⟩
theorem secB_size (b : List UInt8) (q : Nat) : (secB b q).size = 512 := secAt_length b q
theorem tear_at (new : List UInt8) (old : ByteArray) (hn : new.length = 512) (j : Nat) : (tear ⟨new.toArray⟩ old).data.toList[j]? = if j < 256 then new[j]? else old.data.toList[j]? := by
  show (new.take 256 ++ old.data.toList.drop 256)[j]? = _
  have h : (new.take 256).length = 256 := by rw [List.length_take]; omega
  by_cases hj : j < 256
  · rw [if_pos hj, List.getElem?_append_left (by omega), List.getElem?_take_of_lt hj]
  · rw [if_neg hj, List.getElem?_append_right (by omega), h, List.getElem?_drop, show 256 + (j - 256) = j by omega]

/-- The writes of bytes, from a sector on. -/
def wrs (first : Nat) (b : List UInt8) (k : Nat) : List Wr := (List.range k).map fun q => (first + q, secB b q)
theorem wrs_succ (first : Nat) (b : List UInt8) (k : Nat) : wrs first b (k + 1) = wrs first b k ++ [(first + k, secB b k)] := by simp [wrs, List.range_succ]
theorem wrs_length (first : Nat) (b : List UInt8) (k : Nat) : (wrs first b k).length = k := by simp [wrs]
theorem wrs_at (first : Nat) (b : List UInt8) (k q : Nat) (h : q < k) : (wrs first b k)[q]? = some (first + q, secB b q) := by simp [wrs, h]
theorem wrs_in (first : Nat) (b : List UInt8) (k q : Nat) (hq : q < k) (D : List ByteArray) (hD : first + k ≤ D.length) : sec (putAll D (wrs first b k)) (first + q) = secAt b q := by
  induction k with
  | zero => omega
  | succ k ih =>
    rw [wrs_succ, putAll_snoc]
    by_cases e : q = k
    · subst e; rw [sec_set_self _ _ _ (by rw [putAll_length]; omega)]; rfl
    · rw [sec_set_ne _ _ _ _ (by show first + k ≠ _; omega)]; exact ih (by omega) (by omega)
theorem wrs_out (first : Nat) (b : List UInt8) (k i : Nat) (h : i < first ∨ first + k ≤ i) (D : List ByteArray) : sec (putAll D (wrs first b k)) i = sec D i := by
  apply sec_eq
  apply putAll_over
  intro w hw
  obtain ⟨q, hq, rfl⟩ := List.mem_map.1 hw
  have := List.mem_range.1 hq
  show first + q ≠ i
  omega

/-- What all writes and all torn writes keep holds whatever a fall makes of them. -/
def Step (Q : List ByteArray → Prop) (n first : Nat) (b : List UInt8) (k : Nat) : Prop :=
  ∀ q, q < k → ∀ D : List ByteArray, D.length = n → Q D → Q (D.set (first + q) (secB b q)) ∧ Q (D.set (first + q) (tear (secB b q) (D.getD (first + q) ByteArray.empty)))
theorem fall_keeps {Q : List ByteArray → Prop} {first : Nat} {b : List UInt8} {k : Nat} {D : List ByteArray} (h0 : Q D) (hs : Step Q D.length first b k) (keep : List Int) (torn : Int) (j : Nat) (hj : j ≤ k) : Q (fallTo keep torn D (wrs first b k) j) := by
  induction j with
  | zero => exact h0
  | succ j ih =>
    unfold fallTo
    rw [wrs_at _ _ _ _ (by omega)]
    have h1 := hs j (by omega) _ (fallTo_length keep torn D (wrs first b k) j) (ih (by omega))
    show Q (fallStep _ _ _ _ _)
    unfold fallStep
    split
    · exact h1.1
    · split
      · exact h1.2
      · exact ih (by omega)
theorem Step.less {Q : List ByteArray → Prop} {n first : Nat} {b : List UInt8} {k k' : Nat} (h : Step Q n first b k) (hk : k' ≤ k) : Step Q n first b k' := fun q hq => h q (by omega)
theorem put_keeps {Q : List ByteArray → Prop} {first : Nat} {b : List UInt8} {k : Nat} {D : List ByteArray} (h0 : Q D) (hs : Step Q D.length first b k) : Q (putAll D (wrs first b k)) := by
  induction k with
  | zero => exact h0
  | succ k ih =>
    rw [wrs_succ, putAll_snoc]
    exact (hs k (by omega) _ (putAll_length _ _) (ih (hs.less (by omega)))).1

theorem sizes_pos (b : List UInt8) (l : List (List UInt8)) : 16 + 16 * l.length ≤ Rc.sizes (b :: l) := by
  induction l generalizing b with
  | nil => simp [Rc.sizes]
  | cons a l ih => have := ih a; simp [Rc.sizes] at this ⊢; omega
theorem Lg.used_eq (L : Lg) : L.used = Rc.sizes (L.base :: L.recs) := Rc.encs_length _ _
theorem Lg.used_pos (L : Lg) : 16 + 16 * L.recs.length ≤ L.used := by rw [L.used_eq]; exact sizes_pos _ _
theorem Lg.add_stream (L : Lg) (b : List UInt8) : (L.add b).stream = L.stream ++ Rc.enc (2 + L.recs.length) b := by
  show Rc.encs 1 (L.base :: (L.recs ++ [b])) = _
  rw [← List.cons_append, Rc.encs_snoc, List.length_cons]
  show _ = L.stream ++ _
  rw [show 1 + (L.recs.length + 1) = 2 + L.recs.length by omega]
  rfl
theorem Lg.add_used (L : Lg) (b : List UInt8) : (L.add b).used = L.used + (b.length + 16) := by
  unfold Lg.used; rw [L.add_stream, List.length_append, Rc.enc_length]
theorem Lg.keep_stream (L : Lg) (b : List UInt8) : (L.keep b).stream = Rc.enc 1 b := by
  show Rc.encs 1 [b] = _
  simp [Rc.encs]
theorem Lg.keep_used (L : Lg) (b : List UInt8) : (L.keep b).used = b.length + 16 := by
  unfold Lg.used; rw [L.keep_stream, Rc.enc_length]
theorem Lg.zero_stream : Lg.zero.stream = Rc.enc 1 [] := by simp [Lg.zero, Lg.stream, Rc.encs]
theorem Lg.zero_used : Lg.zero.used = 16 := by unfold Lg.used; rw [Lg.zero_stream, Rc.enc_length]; rfl
theorem Lg.zero_ok {sz : Nat} (h : 1 ≤ sz) : Lg.zero.Ok sz := ⟨by simp [Lg.zero], by rw [Lg.zero_used]; omega, by intro b hb; simp [Lg.zero] at hb; subst hb; simp⟩
theorem Lg.add_ok {sz : Nat} {L : Lg} (h : L.Ok sz) (b : List UInt8) (hb : b.length ≤ 200000) (hu : L.used + (b.length + 16) ≤ sz * 512) : (L.add b).Ok sz :=
  ⟨h.half, by rw [L.add_used]; exact hu, fun x hx => by
    have hx' : x ∈ (L.base :: L.recs) ++ [b] := hx
    rcases List.mem_append.1 hx' with h1 | h1
    · exact h.small x h1
    · rw [List.mem_singleton] at h1; subst h1; exact hb⟩
theorem Lg.keep_ok {sz : Nat} {L : Lg} (b : List UInt8) (hb : b.length ≤ 200000) (hu : b.length + 16 ≤ sz * 512) : (L.keep b).Ok sz :=
  ⟨by show 1 - L.half ≤ 1; omega, by rw [L.keep_used]; exact hu, fun x hx => by
    have hx' : x ∈ [b] := hx
    rw [List.mem_singleton] at hx'; subst hx'; exact hb⟩

theorem placed_set {D : List ByteArray} {first : Nat} {s : List UInt8} (h : Placed D first s) (i : Nat) (new : ByteArray) (hi : i < D.length) (hn : ∀ j (hj : j < s.length), first + j / 512 = i → new.data.toList[j % 512]? = some s[j]) : Placed (D.set i new) first s := fun j hj => by
  by_cases e : first + j / 512 = i
  · rw [e, sec_set_self _ _ _ hi]; exact hn j hj e
  · rw [sec_set_ne _ _ _ _ (fun e2 => e e2.symm)]; exact h j hj
theorem placed_tear {D : List ByteArray} {first : Nat} {s : List UInt8} (h : Placed D first s) (i : Nat) (new : List UInt8) (hl : new.length = 512) (hi : i < D.length) (hn : ∀ j (hj : j < s.length), first + j / 512 = i → new[j % 512]? = some s[j]) : Placed (D.set i (tear ⟨new.toArray⟩ (D.getD i ByteArray.empty))) first s :=
  placed_set h i _ hi fun j hj e => by
    rw [tear_at _ _ hl]
    by_cases h2 : j % 512 < 256
    · rw [if_pos h2]; exact hn j hj e
    · rw [if_neg h2]
      have := h j hj
      rw [e] at this
      exact this

/-- Bytes written where the stream has the same ones, or none, leave the log as it is. -/
theorem holds_step {sz n first : Nat} {L : Lg} {b : List UInt8} {k : Nat} (hf : 1 ≤ first) (hk : first + k ≤ n) (hh : ∀ q, q < k → ∀ j (hj : j < L.stream.length), 1 + L.half * sz + j / 512 = first + q → (secAt b q)[j % 512]? = some L.stream[j]) : Step (fun D => Holds D sz L) n first b k := by
  intro q hq D hD hQ
  have hi : first + q < D.length := by omega
  rcases hQ with ⟨⟨t, h1⟩, h2⟩ | ⟨h1, h2⟩
  · exact ⟨.inl ⟨⟨t, by rw [sec_set_ne _ _ _ _ (by omega)]; exact h1⟩, placed_set h2 _ _ hi (fun j hj e => hh q hq j hj e)⟩,
      .inl ⟨⟨t, by rw [sec_set_ne _ _ _ _ (by omega)]; exact h1⟩, placed_tear h2 _ _ (secAt_length b q) hi (fun j hj e => hh q hq j hj e)⟩⟩
  · exact ⟨.inr ⟨by rw [sec_set_ne _ _ _ _ (by omega)]; exact h1, h2⟩, .inr ⟨by rw [sec_set_ne _ _ _ _ (by omega)]; exact h1, h2⟩⟩
/-- The next record is written behind the stream. -/
theorem add_step {sz n : Nat} {L : Lg} (b : List UInt8) {k : Nat} (hk : 1 + L.half * sz + L.used / 512 + k ≤ n) : Step (fun D => Holds D sz L) n (1 + L.half * sz + L.used / 512) (tailOf L.stream ++ b) k := by
  refine holds_step (by omega) hk fun q hq j hj e => ?_
  have hu : L.used = L.stream.length := rfl
  rw [hu] at e
  obtain ⟨a, ha⟩ : ∃ a, a = L.stream.length / 512 := ⟨_, rfl⟩
  obtain ⟨m, hm⟩ : ∃ m, m = j % 512 := ⟨_, rfl⟩
  have hm2 : m < 512 := by omega
  have hjq : j = a * 512 + (q * 512 + m) := by omega
  have ht : tailOf L.stream = L.stream.drop (a * 512) := by unfold tailOf; rw [ha]
  rw [← hm, ht]
  rw [secAt_at _ _ _ hm2 (by rw [List.length_append, List.length_drop]; omega), List.getElem_append_left (by rw [List.length_drop]; omega), List.getElem_drop]
  congr 1
  simp only [hjq]
/-- The other half. -/
theorem keep_step {sz n : Nat} {L : Lg} (hL : L.Ok sz) (b : List UInt8) {k : Nat} (hk : 1 + (1 - L.half) * sz + k ≤ n) (hks : k ≤ sz) : Step (fun D => Holds D sz L) n (1 + (1 - L.half) * sz) b k := by
  refine holds_step (by omega) hk fun q hq j hj e => ?_
  exfalso
  have h1 : j / 512 < sz := by
    have := hL.used
    unfold Lg.used at this
    exact Nat.div_lt_of_lt_mul (by omega)
  have h2 := hL.half
  have : L.half = 0 ∨ L.half = 1 := by omega
  rcases this with e0 | e0 <;> rw [e0] at e <;> simp at e <;> omega

/-- Bytes written behind others that stand already. -/
theorem placed_after {D : List ByteArray} {first a : Nat} {pre b : List UInt8} {k : Nat} (hp : pre.length = a * 512) (h : Placed D first pre) (hk : first + a + k ≤ D.length) (hb : b.length ≤ k * 512) : Placed (putAll D (wrs (first + a) b k)) first (pre ++ b) := fun j hj => by
  by_cases h1 : j < pre.length
  · rw [wrs_out _ _ _ _ (.inl (by omega)), h j h1, List.getElem_append_left h1]
  · have hj2 : j < pre.length + b.length := by rw [List.length_append] at hj; exact hj
    have e : first + j / 512 = first + a + (j / 512 - a) := by omega
    rw [e, wrs_in _ _ _ _ (by omega) _ hk, List.getElem_append_right (by omega)]
    rw [secAt_at _ _ _ (Nat.mod_lt _ (by omega)) (by omega)]
    congr 2
    omega
theorem Placed.take {D : List ByteArray} {first : Nat} {s : List UInt8} (h : Placed D first s) (n : Nat) : Placed D first (s.take n) := fun j hj => by
  have hj' : j < s.length := by rw [List.length_take] at hj; omega
  rw [h j hj', List.getElem_take]
theorem placed_nil (D : List ByteArray) (first : Nat) : Placed D first [] := fun j hj => by simp at hj
theorem add_placed {D : List ByteArray} {sz : Nat} {L : Lg} (hL : Holds D sz L) (b : List UInt8) {k : Nat} (hk : 1 + L.half * sz + L.used / 512 + k ≤ D.length) (hb : (tailOf L.stream ++ Rc.enc (2 + L.recs.length) b).length ≤ k * 512) :
    Placed (putAll D (wrs (1 + L.half * sz + L.used / 512) (tailOf L.stream ++ Rc.enc (2 + L.recs.length) b) k)) (1 + (L.add b).half * sz) (L.add b).stream := by
  have hu : L.used = L.stream.length := rfl
  have e : (L.add b).stream = L.stream.take (L.used / 512 * 512) ++ (tailOf L.stream ++ Rc.enc (2 + L.recs.length) b) := by
    rw [L.add_stream, ← List.append_assoc]
    unfold tailOf
    rw [← hu, List.take_append_drop]
  rw [e]
  refine placed_after (by rw [List.length_take]; omega) ?_ hk hb
  rcases hL with ⟨_, h⟩ | ⟨_, h⟩
  · exact h.take _
  · rw [h, Lg.zero_used]; exact placed_nil _ _
theorem keep_placed {D : List ByteArray} {sz : Nat} (L : Lg) (b : List UInt8) {k : Nat} (hk : 1 + (1 - L.half) * sz + k ≤ D.length) (hb : (Rc.enc 1 b).length ≤ k * 512) :
    Placed (putAll D (wrs (1 + (1 - L.half) * sz) (Rc.enc 1 b) k)) (1 + (L.keep b).half * sz) (L.keep b).stream := by
  rw [L.keep_stream]
  exact placed_after (a := 0) (pre := []) rfl (placed_nil _ _) hk hb

/-- The head: whatever becomes of its write, the old log stands or the new one. -/
def Two (sz : Nat) (L L' : Lg) (D : List ByteArray) : Prop := (Holds D sz L ∨ Holds D sz L') ∧ Placed D (1 + L'.half * sz) L'.stream
def headOf (L : Lg) : List UInt8 := Rc.enc L.used [UInt8.ofNat L.half]
theorem headOf_length (L : Lg) : (headOf L).length = 17 := by unfold headOf; rw [Rc.enc_length]; rfl
theorem head_sec (L : Lg) : secAt (headOf L) 0 = headOf L ++ List.replicate 495 0 := by
  unfold secAt
  have h : ((headOf L).drop (0 * 512)).take 512 = headOf L := by rw [Nat.zero_mul, List.drop_zero, List.take_of_length_le (by rw [headOf_length]; omega)]
  rw [h, headOf_length]
theorem head_tear (L : Lg) (old : ByteArray) : ∃ t, (tear (secB (headOf L) 0) old).data.toList = headOf L ++ t := by
  refine ⟨(List.replicate 495 0).take 239 ++ old.data.toList.drop 256, ?_⟩
  show (secAt (headOf L) 0).take 256 ++ _ = _
  rw [head_sec, List.take_append, headOf_length, List.take_of_length_le (by rw [headOf_length]; omega), List.append_assoc]
theorem placed_head {D : List ByteArray} {f : Nat} {s : List UInt8} (h : Placed D (1 + f) s) (new : ByteArray) : Placed (D.set 0 new) (1 + f) s := fun j hj => by
  rw [sec_set_ne _ _ _ _ (by omega)]; exact h j hj
theorem head_holds {D : List ByteArray} {sz : Nat} {L : Lg} (h : Placed D (1 + L.half * sz) L.stream) (hD : 0 < D.length) (new : ByteArray) (hn : ∃ t, new.data.toList = headOf L ++ t) : Holds (D.set 0 new) sz L := by
  obtain ⟨t, ht⟩ := hn
  exact .inl ⟨⟨t, by rw [sec_set_self _ _ _ hD]; exact ht⟩, placed_head h new⟩
theorem head_step {sz n : Nat} (L L' : Lg) (hn : 0 < n) : Step (Two sz L L') n 0 (headOf L') 1 := fun q hq D hD hQ => by
  obtain rfl : q = 0 := by omega
  refine ⟨⟨.inr (head_holds hQ.2 (by omega) _ ⟨List.replicate 495 0, head_sec L'⟩), placed_head hQ.2 _⟩, ⟨.inr (head_holds hQ.2 (by omega) _ (head_tear L' _)), placed_head hQ.2 _⟩⟩
theorem head_put {D : List ByteArray} {sz : Nat} {L : Lg} (h : Placed D (1 + L.half * sz) L.stream) (hD : 0 < D.length) : Holds (putAll D (wrs 0 (headOf L) 1)) sz L := by
  show Holds (D.set (0 + 0) (secB (headOf L) 0)) sz L
  exact head_holds h hD _ ⟨List.replicate 495 0, head_sec L⟩

/-- The sectors of a half one behind the other. -/
def flat (D : List ByteArray) (first k : Nat) : List UInt8 := ((List.range k).map fun q => sec D (first + q)).flatten
theorem flat_succ (D : List ByteArray) (first k : Nat) : flat D first (k + 1) = flat D first k ++ sec D (first + k) := by simp [flat, List.range_succ]
theorem flat_length {D : List ByteArray} (hs : ∀ d ∈ D, d.size = 512) (first k : Nat) (hk : first + k ≤ D.length) : (flat D first k).length = k * 512 := by
  induction k with
  | zero => rfl
  | succ k ih => rw [flat_succ, List.length_append, ih (by omega), sec_length hs (by omega)]; omega
theorem flat_at {D : List ByteArray} (hs : ∀ d ∈ D, d.size = 512) (first k : Nat) (hk : first + k ≤ D.length) (j : Nat) (hj : j < k * 512) : (flat D first k)[j]? = (sec D (first + j / 512))[j % 512]? := by
  induction k with
  | zero => omega
  | succ k ih =>
    have hl := flat_length hs first k (by omega)
    rw [flat_succ]
    by_cases h : j < k * 512
    · rw [List.getElem?_append_left (by omega)]; exact ih (by omega) h
    · have e : j / 512 = k := by omega
      rw [List.getElem?_append_right (by omega), hl, e]
      congr 1
      omega
theorem flat_placed {D : List ByteArray} (hs : ∀ d ∈ D, d.size = 512) {first k : Nat} (hk : first + k ≤ D.length) {s : List UInt8} (h : Placed D first s) (hl : s.length ≤ k * 512) : (flat D first k).take s.length = s := by
  apply List.ext_getElem?
  intro j
  by_cases hj : j < s.length
  · rw [List.getElem?_take_of_lt hj, flat_at hs first k hk j (by omega), h j hj, List.getElem?_eq_getElem hj]
  · rw [List.getElem?_eq_none (by rw [List.length_take]; omega), List.getElem?_eq_none (by omega)]

/-- The stream read again. -/
theorem whole_all (c : Nat) (l : List (List UInt8)) (h : Rc.sizes l ≤ c) : Rc.whole c l = l.length := by
  induction l generalizing c with
  | nil => rfl
  | cons b l ih =>
    have e : Rc.sizes (b :: l) = b.length + 16 + Rc.sizes l := by simp [Rc.sizes]
    rw [Rc.whole, if_pos (by omega), ih _ (by omega)]; rfl
theorem scan_stream {sz : Nat} {L : Lg} (h : L.Ok sz) (hz : sz ≤ 8192) : Rc.scan L.stream 1 = (Rc.zipn 1 (L.base :: L.recs), L.used) := by
  have hu := h.used
  have hp := L.used_pos
  have e := Rc.scan_encs 1 (L.base :: L.recs) L.used (by omega) (by rw [List.length_cons]; omega) h.small
  rw [whole_all _ _ (by rw [L.used_eq]; exact Nat.le_refl _), List.take_of_length_le (Nat.le_refl _), ← L.used_eq] at e
  have e2 : (Rc.encs 1 (L.base :: L.recs)).take L.used = L.stream := List.take_of_length_le (Nat.le_refl _)
  rw [e2] at e
  exact e
theorem zipn_length (n : Nat) (l : List (List UInt8)) : (Rc.zipn n l).length = l.length := by
  induction l generalizing n with
  | nil => rfl
  | cons b l ih => simp [Rc.zipn, ih]
theorem zipn_snd (n : Nat) (l : List (List UInt8)) : (Rc.zipn n l).map (·.2) = l := by
  induction l generalizing n with
  | nil => rfl
  | cons b l ih => simp [Rc.zipn, ih]
/-- The head read again. -/
theorem head_get {D : List ByteArray} {sz : Nat} {L : Lg} (h : L.Ok sz) (hz : sz ≤ 8192) (hh : Headed D L.used L.half) : Rc.getE (sec D 0) = 0 ∧ Rc.len (sec D 0) = 1 ∧ Rc.nr (sec D 0) = L.used ∧ Rc.body (sec D 0) = [UInt8.ofNat L.half] := by
  obtain ⟨t, ht⟩ := hh
  have hu := h.used
  have hp := L.used_pos
  rw [ht]
  exact Rc.get_enc L.used [UInt8.ofNat L.half] t (by simp) (by omega) (by omega)

/-- A new device. -/
theorem fresh_holds (n sz : Nat) (hn : 1 ≤ n) : Holds (fresh n).dur sz Lg.zero := by
  refine .inr ⟨?_, rfl⟩
  have e : sec (fresh n).dur 0 = secOf 0 := by
    unfold sec fresh
    rw [List.getD_eq_getElem?_getD, List.getElem?_replicate_of_lt (by omega)]
    rfl
  rw [e]
  have h : Rc.getE (secOf 0) = 3 := by
    unfold Rc.getE
    have h1 : Rc.len (secOf 0) = 0 := by decide
    have h2 : Rc.nr (secOf 0) = 0 := by decide
    rw [h1, h2, secOf_length, if_neg (by omega), if_neg (by omega), if_neg (by omega), if_pos (.inl (by omega))]
  rw [h]; decide
end Go.Proofs.YtambddncncaehaaDoor.Wl
