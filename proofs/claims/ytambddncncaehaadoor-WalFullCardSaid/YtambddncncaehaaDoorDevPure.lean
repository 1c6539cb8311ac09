/- A block device with a cache, in plain words: sectors, the writes that are not safe yet, the power, the arranged fall. -/
import Derived.ProofKit
namespace Go.Proofs.YtambddncncaehaaDoor.Dk
set_option linter.unusedVariables false

abbrev Wr := Nat × ByteArray
/-- The sectors behind writes. -/
def putAll (d : List ByteArray) (c : List Wr) : List ByteArray := c.foldl (fun d w => d.set w.1 w.2) d
/-- A torn sector. -/
def tear (new old : ByteArray) : ByteArray := ⟨(new.data.toList.take 256 ++ old.data.toList.drop 256).toArray⟩
def fallStep (keep : List Int) (torn : Int) (d : List ByteArray) (k : Nat) (w : Wr) : List ByteArray :=
  if (k : Int) ∈ keep then d.set w.1 w.2 else if (k : Int) = torn then d.set w.1 (tear w.2 (d.getD w.1 ByteArray.empty)) else d
/-- The sectors behind a fall, the first k writes of the cache seen to. -/
def fallTo (keep : List Int) (torn : Int) (d : List ByteArray) (c : List Wr) : Nat → List ByteArray
  | 0 => d
  | k + 1 => match c[k]? with
    | none => fallTo keep torn d c k
    | some w => fallStep keep torn (fallTo keep torn d c k) k w

structure Disk where
  dur : List ByteArray
  cache : List Wr
  off : Bool
  calls : Nat
  keep : List Int
  torn : Int

/-- A sector of one byte. -/
def secOf (c : UInt8) : List UInt8 := List.replicate 512 c
theorem secOf_length (c : UInt8) : (secOf c).length = 512 := List.length_replicate
theorem secOf_at (c : UInt8) (j : Nat) (h : j < (secOf c).length) : (secOf c)[j] = c := List.getElem_replicate ..
def secB (c : UInt8) : ByteArray := ⟨(secOf c).toArray⟩
theorem secB_size (c : UInt8) : (secB c).size = 512 := secOf_length c
def fresh (n : Nat) : Disk := ⟨List.replicate n (secB 0), [], false, 0, [], 0⟩
def Disk.last (S : Disk) : List ByteArray := putAll S.dur S.cache
def Disk.crash (S : Disk) (keep : List Int) (torn : Int) : Disk :=
  bif S.off then S else ⟨fallTo keep torn S.dur S.cache S.cache.length, [], true, 0, [], 0⟩
def Disk.blows (S : Disk) : Bool := S.calls == 1
def Disk.blow (S : Disk) : Disk := if S.calls = 0 then S else if S.calls = 1 then S.crash S.keep S.torn else { S with calls := S.calls - 1 }
def Disk.takes (S : Disk) (at_ : Int) (n : Nat) : Bool := decide (0 ≤ at_) && decide (at_ < S.dur.length) && decide (n = 512)
def Disk.write (S : Disk) (at_ : Int) (b : ByteArray) : Disk :=
  bif S.off then S else bif S.takes at_ b.size then (bif S.blows then S.blow else { S.blow with cache := S.cache ++ [(at_.toNat, b)] }) else S
def Disk.writeE (S : Disk) (at_ : Int) (n : Nat) : Int := bif S.off then 7 else bif S.takes at_ n then (bif S.blows then 7 else 0) else 1
def Disk.flush (S : Disk) : Disk := bif S.off then S else bif S.blows then S.blow else { S.blow with dur := S.last, cache := [] }
def Disk.flushE (S : Disk) : Int := bif S.off then 7 else bif S.blows then 7 else 0
def Disk.on (S : Disk) : Disk := { S with off := false }
def Disk.arm (S : Disk) (calls : Int) (keep : List Int) (torn : Int) : Disk :=
  bif S.off then S else if calls < 1 then { S with calls := 0, keep := [], torn := 0 } else { S with calls := calls.toNat, keep := keep, torn := torn }
def Disk.has (S : Disk) (at_ : Int) : Bool := decide (0 ≤ at_) && decide (at_ < S.dur.length)
def Disk.readE (S : Disk) (at_ : Int) : Int := bif S.off then 7 else bif S.has at_ then 0 else 1
def Disk.readV (S : Disk) (at_ : Int) : List UInt8 := bif S.off then [] else bif S.has at_ then (S.last.getD at_.toNat ByteArray.empty).data.toList else []

theorem putAll_length (d : List ByteArray) (c : List Wr) : (putAll d c).length = d.length := by
  unfold putAll
  induction c generalizing d with
  | nil => rfl
  | cons w c ih => rw [List.foldl_cons, ih]; simp
theorem putAll_snoc (d : List ByteArray) (c : List Wr) (w : Wr) : putAll d (c ++ [w]) = (putAll d c).set w.1 w.2 := by simp [putAll]
theorem fallStep_length (keep : List Int) (torn : Int) (d : List ByteArray) (k : Nat) (w : Wr) : (fallStep keep torn d k w).length = d.length := by
  unfold fallStep; split
  · simp
  · split <;> simp
theorem fallTo_length (keep : List Int) (torn : Int) (d : List ByteArray) (c : List Wr) (k : Nat) : (fallTo keep torn d c k).length = d.length := by
  induction k with
  | zero => rfl
  | succ k ih =>
    unfold fallTo
    split
    · exact ih
    · rw [fallStep_length, ih]
theorem fallTo_succ (keep : List Int) (torn : Int) (d : List ByteArray) (c : List Wr) (k : Nat) (h : k < c.length) : fallTo keep torn d c (k + 1) = fallStep keep torn (fallTo keep torn d c k) k c[k] := by
  rw [fallTo, List.getElem?_eq_getElem h]
theorem fallTo_over (keep : List Int) (torn : Int) (d : List ByteArray) (c : List Wr) (k i : Nat) (h : ∀ w ∈ c, w.1 ≠ i) : (fallTo keep torn d c k)[i]? = d[i]? := by
  induction k with
  | zero => rfl
  | succ k ih =>
    unfold fallTo
    split
    · exact ih
    · rename_i w hw
      have hne : w.1 ≠ i := h w (List.mem_of_getElem? hw)
      unfold fallStep
      split
      · rw [List.getElem?_set_ne hne, ih]
      · split
        · rw [List.getElem?_set_ne hne, ih]
        · exact ih
theorem putAll_over (d : List ByteArray) (c : List Wr) (i : Nat) (h : ∀ w ∈ c, w.1 ≠ i) : (putAll d c)[i]? = d[i]? := by
  unfold putAll
  induction c generalizing d with
  | nil => rfl
  | cons w c ih =>
    rw [List.foldl_cons, ih _ (fun x hx => h x (List.mem_cons_of_mem _ hx)), List.getElem?_set_ne (h w (List.mem_cons_self ..))]

/-- What a list has become where the first k writes point, taken over from another. -/
def copyTo (d e : List ByteArray) (c : List Wr) : Nat → List ByteArray
  | 0 => d
  | k + 1 => match c[k]? with
    | none => copyTo d e c k
    | some w => (copyTo d e c k).set w.1 (e.getD w.1 ByteArray.empty)
theorem copyTo_succ (d e : List ByteArray) (c : List Wr) (k : Nat) (h : k < c.length) : copyTo d e c (k + 1) = (copyTo d e c k).set c[k].1 (e.getD c[k].1 ByteArray.empty) := by
  rw [copyTo, List.getElem?_eq_getElem h]
theorem copyTo_length (d e : List ByteArray) (c : List Wr) (k : Nat) : (copyTo d e c k).length = d.length := by
  induction k with
  | zero => rfl
  | succ k ih =>
    unfold copyTo
    split
    · exact ih
    · simp [ih]
theorem copyTo_at (d e : List ByteArray) (c : List Wr) (hl : e.length = d.length) (k i : Nat) : (copyTo d e c k)[i]? = if (∃ j, j < k ∧ ∃ w, c[j]? = some w ∧ w.1 = i) then e[i]? else d[i]? := by
  induction k with
  | zero => simp [copyTo]
  | succ k ih =>
    unfold copyTo
    split
    · rename_i hn
      rw [ih]
      by_cases h : ∃ j, j < k ∧ ∃ w, c[j]? = some w ∧ w.1 = i
      · rw [if_pos h, if_pos]
        obtain ⟨j, hj, r⟩ := h
        exact ⟨j, by omega, r⟩
      · rw [if_neg h, if_neg]
        rintro ⟨j, hj, w, hw, e1⟩
        by_cases hjk : j = k
        · subst hjk; rw [hn] at hw; cases hw
        · exact h ⟨j, by omega, w, hw, e1⟩
    · rename_i w hw
      by_cases he : w.1 = i
      · rw [if_pos ⟨k, by omega, w, hw, he⟩]
        subst he
        rw [List.getElem?_set_self']
        rcases Nat.lt_or_ge w.1 d.length with hlt | hge
        · have h1 : w.1 < (copyTo d e c k).length := by rw [copyTo_length]; exact hlt
          rw [List.getElem?_eq_getElem h1]
          simp [List.getD, List.getElem?_eq_getElem (show w.1 < e.length by omega)]
        · rw [List.getElem?_eq_none (by rw [copyTo_length]; exact hge), List.getElem?_eq_none (by omega)]
          rfl
      · rw [List.getElem?_set_ne he, ih]
        by_cases h : ∃ j, j < k ∧ ∃ w, c[j]? = some w ∧ w.1 = i
        · rw [if_pos h, if_pos]
          obtain ⟨j, hj, r⟩ := h
          exact ⟨j, by omega, r⟩
        · rw [if_neg h, if_neg]
          rintro ⟨j, hj, w', hw', e1⟩
          by_cases hjk : j = k
          · subst hjk; rw [hw] at hw'; injection hw' with hw'; subst hw'; exact he e1
          · exact h ⟨j, by omega, w', hw', e1⟩
theorem copyTo_all (d e : List ByteArray) (c : List Wr) (hl : e.length = d.length) (h : ∀ i, (∀ w ∈ c, w.1 ≠ i) → e[i]? = d[i]?) : copyTo d e c c.length = e := by
  apply List.ext_getElem?
  intro i
  rw [copyTo_at d e c hl]
  by_cases hx : ∃ j, j < c.length ∧ ∃ w, c[j]? = some w ∧ w.1 = i
  · rw [if_pos hx]
  · rw [if_neg hx, h i]
    intro w hw e1
    obtain ⟨j, hj, e2⟩ := List.mem_iff_getElem.1 hw
    exact hx ⟨j, hj, w, by rw [List.getElem?_eq_getElem hj, e2], e1⟩
/-- Flush: what was written last is safe. -/
theorem copyTo_flush (d : List ByteArray) (c : List Wr) : copyTo d (putAll d c) c c.length = putAll d c :=
  copyTo_all _ _ _ (putAll_length _ _) (fun i h => putAll_over d c i h)
/-- loseCache: what is safe is what was written last. -/
theorem copyTo_lose (keep : List Int) (torn : Int) (d : List ByteArray) (c : List Wr) (k : Nat) : copyTo (putAll d c) (fallTo keep torn d c k) c c.length = fallTo keep torn d c k :=
  copyTo_all _ _ _ (by rw [putAll_length, fallTo_length]) (fun i h => by rw [putAll_over d c i h, fallTo_over keep torn d c k i h])

/-- All sectors have 512 bytes, all writes have one; without power there is nothing to lose. -/
structure Disk.Ok (S : Disk) : Prop where
  sec : ∀ d ∈ S.dur, d.size = 512
  wr : ∀ w ∈ S.cache, w.1 < S.dur.length ∧ w.2.size = 512
  dark : S.off = true → S.cache = [] ∧ S.calls = 0

theorem tear_size {a b : ByteArray} (ha : a.size = 512) (hb : b.size = 512) : (tear a b).size = 512 := by
  have h1 : a.data.toList.length = 512 := ha
  have h2 : b.data.toList.length = 512 := hb
  show (tear a b).data.toList.length = 512
  simp only [tear, List.length_append, List.length_take, List.length_drop, h1, h2]
  omega
theorem set_all {d : List ByteArray} {i : Nat} {b : ByteArray} (h : ∀ x ∈ d, x.size = 512) (hb : b.size = 512) : ∀ x ∈ d.set i b, x.size = 512 := fun x hx => by
  rcases List.mem_or_eq_of_mem_set hx with h1 | rfl
  · exact h x h1
  · exact hb
theorem putAll_size {d : List ByteArray} {c : List Wr} (h : ∀ x ∈ d, x.size = 512) (hc : ∀ w ∈ c, w.2.size = 512) : ∀ x ∈ putAll d c, x.size = 512 := by
  unfold putAll
  induction c generalizing d with
  | nil => exact h
  | cons w c ih =>
    rw [List.foldl_cons]
    exact ih (set_all h (hc w (List.mem_cons_self ..))) (fun x hx => hc x (List.mem_cons_of_mem _ hx))
theorem fallTo_size {keep : List Int} {torn : Int} {d : List ByteArray} {c : List Wr} (h : ∀ x ∈ d, x.size = 512) (hc : ∀ w ∈ c, w.1 < d.length ∧ w.2.size = 512) (k : Nat) : ∀ x ∈ fallTo keep torn d c k, x.size = 512 := by
  induction k with
  | zero => exact h
  | succ k ih =>
    unfold fallTo
    split
    · exact ih
    · rename_i w hw
      have hw' := hc w (List.mem_of_getElem? hw)
      unfold fallStep
      split
      · exact set_all ih hw'.2
      · split
        · refine set_all ih (tear_size hw'.2 (ih _ ?_))
          have hl : w.1 < (fallTo keep torn d c k).length := by rw [fallTo_length]; exact hw'.1
          simp [List.getD, List.getElem?_eq_getElem hl]
        · exact ih

theorem fresh_ok (n : Nat) : (fresh n).Ok := ⟨fun d hd => by rw [(List.mem_replicate.1 hd).2]; exact secB_size 0, (fun w hw => by cases hw), (fun h => by cases h)⟩
theorem Disk.Ok.crash {S : Disk} (h : S.Ok) (keep : List Int) (torn : Int) : (S.crash keep torn).Ok := by
  unfold Disk.crash
  cases ho : S.off
  · exact ⟨fallTo_size h.sec h.wr _, fun w hw => by simp at hw, fun _ => ⟨rfl, rfl⟩⟩
  · exact h
theorem Disk.crash_len (S : Disk) (keep : List Int) (torn : Int) : (S.crash keep torn).dur.length = S.dur.length := by
  unfold Disk.crash
  cases S.off
  · exact fallTo_length _ _ _ _ _
  · rfl
theorem Disk.Ok.blow {S : Disk} (h : S.Ok) : S.blow.Ok := by
  unfold Disk.blow
  split
  · exact h
  · split
    · exact h.crash _ _
    · rename_i h0 _
      exact ⟨h.sec, h.wr, fun ho => absurd (h.dark ho).2 h0⟩
theorem Disk.blow_same {S : Disk} (hb : S.blows = false) : S.blow.dur = S.dur ∧ S.blow.cache = S.cache ∧ S.blow.off = S.off ∧ S.blow.calls = S.calls - 1 ∧ (S.calls ≠ 0 → S.blow.keep = S.keep ∧ S.blow.torn = S.torn) := by
  have h1 : S.calls ≠ 1 := by simpa [Disk.blows] using hb
  unfold Disk.blow
  by_cases h0 : S.calls = 0
  · rw [if_pos h0]; exact ⟨rfl, rfl, rfl, by omega, fun h => absurd h0 h⟩
  · rw [if_neg h0, if_neg h1]; exact ⟨rfl, rfl, rfl, rfl, fun _ => ⟨rfl, rfl⟩⟩
theorem Disk.Ok.write {S : Disk} (h : S.Ok) (at_ : Int) (b : ByteArray) : (S.write at_ b).Ok := by
  unfold Disk.write
  cases ho : S.off
  · cases ht : S.takes at_ b.size
    · exact h
    · cases hb : S.blows
      · obtain ⟨e1, e2, e3, e4, e5⟩ := Disk.blow_same hb
        simp only [Disk.takes, Bool.and_eq_true, decide_eq_true_eq] at ht
        refine ⟨by show ∀ d ∈ S.blow.dur, _; rw [e1]; exact h.sec, ?_, fun h' => by
          have h'' : S.blow.off = true := h'
          rw [e3, ho] at h''; cases h''⟩
        intro w hw
        show w.1 < S.blow.dur.length ∧ _
        rw [e1]
        have hw' : w ∈ S.cache ++ [(at_.toNat, b)] := hw
        rcases List.mem_append.1 hw' with hw' | hw'
        · exact h.wr w hw'
        · rw [List.mem_singleton] at hw'; subst hw'; exact ⟨by show at_.toNat < _; omega, ht.2⟩
      · exact h.blow
  · exact h
theorem Disk.blow_len (S : Disk) : S.blow.dur.length = S.dur.length := by
  unfold Disk.blow
  split
  · rfl
  · split
    · exact S.crash_len _ _
    · rfl
theorem Disk.write_len (S : Disk) (at_ : Int) (b : ByteArray) : (S.write at_ b).dur.length = S.dur.length := by
  unfold Disk.write
  cases S.off
  · cases S.takes at_ b.size
    · rfl
    · cases S.blows
      · exact S.blow_len
      · exact S.blow_len
  · rfl
theorem Disk.flush_len (S : Disk) : S.flush.dur.length = S.dur.length := by
  unfold Disk.flush
  cases S.off
  · cases S.blows
    · exact putAll_length _ _
    · exact S.blow_len
  · rfl
theorem Disk.Ok.flush {S : Disk} (h : S.Ok) : S.flush.Ok := by
  unfold Disk.flush
  cases ho : S.off
  · cases hb : S.blows
    · obtain ⟨e1, e2, e3, e4, e5⟩ := Disk.blow_same hb
      refine ⟨putAll_size h.sec (fun w hw => (h.wr w hw).2), fun w hw => by simp at hw, fun h' => by
        have h'' : S.blow.off = true := h'
        rw [e3, ho] at h''; cases h''⟩
    · exact h.blow
  · exact h
theorem Disk.Ok.on {S : Disk} (h : S.Ok) : S.on.Ok := ⟨h.sec, h.wr, fun h => by cases h⟩
theorem Disk.Ok.arm {S : Disk} (h : S.Ok) (calls : Int) (keep : List Int) (torn : Int) : (S.arm calls keep torn).Ok := by
  unfold Disk.arm
  cases ho : S.off
  · simp only [cond_false]
    split
    · exact ⟨h.sec, h.wr, fun h' => by simp at h'⟩
    · exact ⟨h.sec, h.wr, fun h' => by simp at h'⟩
  · exact h
theorem Disk.arm_len (S : Disk) (calls : Int) (keep : List Int) (torn : Int) : (S.arm calls keep torn).dur.length = S.dur.length := by
  unfold Disk.arm
  cases S.off
  · simp only [cond_false]; split <;> rfl
  · rfl
end Go.Proofs.YtambddncncaehaaDoor.Dk
