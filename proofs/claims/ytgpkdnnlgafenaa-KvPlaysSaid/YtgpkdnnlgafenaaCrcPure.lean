/- The checksum in plain words: one bit's step of the remainder, its linearity, its steps over bytes, what a changed bit does. -/
namespace Go.Proofs.Ytgpkdnnlgafenaa.Crc

def poly : BitVec 32 := 0xEDB88320#32
def step (c : BitVec 32) : BitVec 32 := if c.getLsbD 0 then (c >>> 1) ^^^ poly else c >>> 1
def steps : Nat → BitVec 32 → BitVec 32
  | 0, c => c
  | n + 1, c => steps n (step c)

theorem step_xor (a b : BitVec 32) : step (a ^^^ b) = step a ^^^ step b := by
  unfold step
  rw [BitVec.ushiftRight_xor_distrib, BitVec.getLsbD_xor]
  cases a.getLsbD 0 <;> cases b.getLsbD 0
  · simp
  · simp [BitVec.xor_assoc]
  · simp only [Bool.xor_false, if_true, Bool.false_eq_true, if_false]
    rw [BitVec.xor_assoc, BitVec.xor_comm (b >>> 1) poly, ← BitVec.xor_assoc]
  · simp only [Bool.xor_true, Bool.not_true, if_true, Bool.false_eq_true, if_false]
    rw [BitVec.xor_assoc (a >>> 1) poly, BitVec.xor_comm (b >>> 1) poly, ← BitVec.xor_assoc poly poly, BitVec.xor_self, BitVec.zero_xor]
theorem steps_xor (n : Nat) (a b : BitVec 32) : steps n (a ^^^ b) = steps n a ^^^ steps n b := by
  induction n generalizing a b with
  | zero => rfl
  | succ n ih => rw [steps, steps, steps, step_xor, ih]
theorem steps_add (m n : Nat) (c : BitVec 32) : steps (m + n) c = steps n (steps m c) := by
  induction m generalizing c with
  | zero => rw [Nat.zero_add]; rfl
  | succ m ih => rw [Nat.add_right_comm, steps, steps, ih]
theorem step_shl (z : BitVec 32) (h : z.getLsbD 31 = false) : step (z <<< 1) = z := by
  unfold step
  have h0 : (z <<< 1).getLsbD 0 = false := by simp
  rw [h0]
  simp only [Bool.false_eq_true, if_false]
  apply BitVec.eq_of_getLsbD_eq
  intro i hi
  rw [BitVec.getLsbD_ushiftRight, BitVec.getLsbD_shiftLeft]
  by_cases h31 : i = 31
  · subst h31; rw [h]; simp
  · have : (1 + i < 32) := by omega
    simp [this]
theorem steps_shl (k : Nat) (z : BitVec 32) (h : ∀ i, 32 - k ≤ i → z.getLsbD i = false) (hk : k ≤ 32) : steps k (z <<< k) = z := by
  induction k with
  | zero => rw [BitVec.shiftLeft_zero]; rfl
  | succ k ih =>
    have e : z <<< (k + 1) = (z <<< k) <<< 1 := by rw [BitVec.shiftLeft_add]
    rw [e, steps, step_shl, ih (fun i hi => h i (by omega)) (by omega)]
    rw [BitVec.getLsbD_shiftLeft]
    by_cases h31 : 31 < k
    · omega
    · simp [h31, h (31 - k) (by omega)]
theorem poly_top : poly.getLsbD 31 = true := by decide
theorem step_zero (x : BitVec 32) (h : step x = 0#32) : x = 0#32 := by
  unfold step at h
  by_cases h0 : x.getLsbD 0 = true
  · rw [if_pos h0] at h
    have : ((x >>> 1) ^^^ poly).getLsbD 31 = true := by
      rw [BitVec.getLsbD_xor, poly_top, BitVec.getLsbD_ushiftRight]; simp
    rw [h] at this; simp at this
  · rw [if_neg h0] at h
    apply BitVec.eq_of_getLsbD_eq
    intro i hi
    rw [BitVec.getLsbD_zero]
    cases i with
    | zero => simpa using h0
    | succ i =>
      have e : (x >>> 1).getLsbD i = x.getLsbD (1 + i) := BitVec.getLsbD_ushiftRight ..
      rw [h, BitVec.getLsbD_zero] at e
      rw [Nat.add_comm]; exact e.symm
theorem steps_nil (n : Nat) : steps n 0#32 = 0#32 := by
  induction n with
  | zero => rfl
  | succ n ih => rw [steps, show step 0#32 = 0#32 by decide, ih]
theorem steps_zero (n : Nat) (x : BitVec 32) (h : steps n x = 0#32) : x = 0#32 := by
  induction n generalizing x with
  | zero => exact h
  | succ n ih => exact step_zero x (ih _ h)

/-- A byte among the remainder's low bits. -/
def byte (b : UInt8) : BitVec 32 := BitVec.ofNat 32 b.toNat
def take (c : BitVec 32) (b : UInt8) : BitVec 32 := steps 8 (c ^^^ byte b)
def run (c : BitVec 32) (l : List UInt8) : BitVec 32 := l.foldl take c
def add (s : BitVec 32) (l : List UInt8) : BitVec 32 := ~~~ run (~~~ s) l

theorem run_append (c : BitVec 32) (a b : List UInt8) : run c (a ++ b) = run (run c a) b := by unfold run; rw [List.foldl_append]
theorem add_append (s : BitVec 32) (a b : List UInt8) : add (add s a) b = add s (a ++ b) := by
  unfold add; rw [BitVec.not_not, run_append]
theorem add_nil (s : BitVec 32) : add s [] = s := by unfold add run; simp
theorem take_xor (s t : BitVec 32) (b : UInt8) : take (s ^^^ t) b = take s b ^^^ steps 8 t := by
  unfold take
  rw [BitVec.xor_assoc, BitVec.xor_comm t, ← BitVec.xor_assoc, steps_xor]
theorem run_xor (s t : BitVec 32) (l : List UInt8) : run (s ^^^ t) l = run s l ^^^ steps (8 * l.length) t := by
  induction l generalizing s t with
  | nil => rfl
  | cons b l ih =>
    show run (take (s ^^^ t) b) l = run (take s b) l ^^^ _
    rw [take_xor, ih, List.length_cons, show 8 * (l.length + 1) = 8 + 8 * l.length by omega, steps_add]

/-- The bit k of a byte. -/
def bit (k : Nat) : UInt8 := UInt8.ofNat (2 ^ k)
theorem byte_bit (k : Nat) (hk : k < 8) : byte (bit k) = 1#32 <<< k := by
  match k, hk with
  | 0, _ => decide
  | 1, _ => decide
  | 2, _ => decide
  | 3, _ => decide
  | 4, _ => decide
  | 5, _ => decide
  | 6, _ => decide
  | 7, _ => decide
theorem byte_xor (a b : UInt8) : byte (a ^^^ b) = byte a ^^^ byte b := by
  unfold byte
  rw [UInt8.toNat_xor]
  apply BitVec.eq_of_toNat_eq
  have ha := a.toNat_lt
  have hb := b.toNat_lt
  have hx : a.toNat ^^^ b.toNat < 2 ^ 8 := Nat.xor_lt_two_pow ha hb
  rw [BitVec.toNat_xor, BitVec.toNat_ofNat, BitVec.toNat_ofNat, BitVec.toNat_ofNat, Nat.mod_eq_of_lt (by omega), Nat.mod_eq_of_lt (by omega), Nat.mod_eq_of_lt (by omega)]
theorem one_bits (i : Nat) (h : 1 ≤ i) : (1#32).getLsbD i = false := by
  rw [BitVec.getLsbD_one]; simp; omega
theorem steps_bit (k : Nat) (hk : k < 8) : steps 8 (byte (bit k)) = steps (8 - k) 1#32 := by
  rw [byte_bit k hk, show 8 = k + (8 - k) by omega, steps_add, steps_shl k _ (fun i hi => one_bits i (by omega)) (by omega)]
  congr 1; omega

theorem run_flip (c : BitVec 32) (l : List UInt8) (j k : Nat) (hj : j < l.length) (hk : k < 8) :
    run c (l.set j (l[j] ^^^ bit k)) = run c l ^^^ steps (8 * l.length - (8 * j + k)) 1#32 := by
  have e1 : l.set j (l[j] ^^^ bit k) = l.take j ++ (l[j] ^^^ bit k) :: l.drop (j + 1) := List.set_eq_take_append_cons_drop .. |>.trans (by rw [if_pos hj])
  have e2 : run c l = run c (l.take j ++ l[j] :: l.drop (j + 1)) := by
    congr 1
    rw [← List.drop_eq_getElem_cons hj, List.take_append_drop]
  rw [e1, e2, run_append, run_append]
  show run (take _ _) _ = run (take _ _) _ ^^^ _
  have e3 : ∀ r : BitVec 32, take r (l[j] ^^^ bit k) = take r l[j] ^^^ steps (8 - k) 1#32 := fun r => by
    unfold take
    rw [byte_xor, ← BitVec.xor_assoc, steps_xor, steps_bit k hk]
  rw [e3, run_xor, List.length_drop, ← steps_add]
  congr 2
  omega

/-- The low k bits of a word. -/
def low (v : BitVec 32) (k : Nat) : BitVec 32 := BitVec.ofNat 32 (v.toNat % 2 ^ k)
theorem low_bit (v : BitVec 32) (k i : Nat) : (low v k).getLsbD i = (decide (i < k) && v.getLsbD i) := by
  unfold low
  rw [BitVec.getLsbD_ofNat, Nat.testBit_mod_two_pow]
  by_cases h : i < 32
  · simp [h, BitVec.getLsbD]
  · have : v.getLsbD i = false := BitVec.getLsbD_of_ge _ _ (by omega)
    simp [h, this]
theorem low_all (v : BitVec 32) : low v 32 = v := by
  apply BitVec.eq_of_getLsbD_eq
  intro i hi
  rw [low_bit]; simp [hi]
theorem low_zero (v : BitVec 32) : low v 0 = 0#32 := by
  apply BitVec.eq_of_getLsbD_eq
  intro i hi
  rw [low_bit]; simp
theorem low_no (v : BitVec 32) (k : Nat) (h : v.getLsbD k = false) : low v (k + 1) = low v k := by
  apply BitVec.eq_of_getLsbD_eq
  intro i hi
  rw [low_bit, low_bit]
  by_cases e : i = k
  · subst e; simp [h]
  · have : (decide (i < k + 1)) = decide (i < k) := by rw [decide_eq_decide]; omega
    rw [this]
theorem low_yes (v : BitVec 32) (k : Nat) (hk : k < 32) (h : v.getLsbD k = true) : low v (k + 1) = low v k ^^^ 1#32 <<< k := by
  apply BitVec.eq_of_getLsbD_eq
  intro i hi
  rw [BitVec.getLsbD_xor, low_bit, low_bit, BitVec.getLsbD_shiftLeft, BitVec.getLsbD_one]
  by_cases e : i = k
  · subst e; simp [h, hk]
  · by_cases e2 : i < k
    · simp [e2]; intro _; omega
    · have h3 : ¬ i < k + 1 := by omega
      have h4 : ¬ i - k = 0 := by omega
      simp [e2, h3, h4]

/-- One more bit of the word put over the bytes, at the bit p of the bytes. -/
theorem burst_yes (c : BitVec 32) (l l0 : List UInt8) (n p k : Nat) (v : BitVec 32) (hk : k < 32) (hn : l.length = n) (hp : p + k < 8 * n) (hv : v.getLsbD k = true)
    (h : run c l = run c l0 ^^^ steps (8 * n - p) (low v k)) (hj : (p + k) / 8 < l.length) :
    run c (l.set ((p + k) / 8) (l[(p + k) / 8] ^^^ bit ((p + k) % 8))) = run c l0 ^^^ steps (8 * n - p) (low v (k + 1)) := by
  rw [run_flip c l _ _ hj (by omega), h, low_yes v k hk hv, steps_xor, BitVec.xor_assoc]
  congr 2
  have e : 8 * n - p = k + (8 * n - (p + k)) := by omega
  rw [e, steps_add, steps_shl k _ (fun i hi => one_bits i (by omega)) (by omega), hn]
  congr 1
  omega
theorem burst_no (c : BitVec 32) (l l0 : List UInt8) (n p k : Nat) (v : BitVec 32) (hv : v.getLsbD k = false)
    (h : run c l = run c l0 ^^^ steps (8 * n - p) (low v k)) : run c l = run c l0 ^^^ steps (8 * n - p) (low v (k + 1)) := by
  rw [low_no v k hv]; exact h
theorem burst_end (s : BitVec 32) (l l0 : List UInt8) (m : Nat) (v : BitVec 32) (hv : v ≠ 0#32) (h : run (~~~ s) l = run (~~~ s) l0 ^^^ steps m (low v 32)) : add s l ≠ add s l0 := by
  intro e
  unfold add at e
  have e1 : run (~~~ s) l = run (~~~ s) l0 := by
    have := congrArg (fun x => ~~~ x) e
    simpa [BitVec.not_not] using this
  rw [e1, low_all] at h
  have h2 : run (~~~ s) l0 ^^^ run (~~~ s) l0 = run (~~~ s) l0 ^^^ (run (~~~ s) l0 ^^^ steps m v) := congrArg (fun x => run (~~~ s) l0 ^^^ x) h
  rw [BitVec.xor_self, ← BitVec.xor_assoc, BitVec.xor_self, BitVec.zero_xor] at h2
  exact hv (steps_zero m v h2.symm)

/-- Three texts put over one another. -/
theorem run_three (x y z : BitVec 32) (a b c d : List UInt8) (hb : b.length = a.length) (hc : c.length = a.length) (hd : d.length = a.length)
    (h : ∀ i (hi : i < a.length), d[i]'(by omega) = a[i] ^^^ b[i]'(by omega) ^^^ c[i]'(by omega)) : run (x ^^^ y ^^^ z) d = run x a ^^^ run y b ^^^ run z c := by
  induction a generalizing x y z b c d with
  | nil =>
    obtain rfl := List.eq_nil_of_length_eq_zero hb
    obtain rfl := List.eq_nil_of_length_eq_zero hc
    obtain rfl := List.eq_nil_of_length_eq_zero hd
    rfl
  | cons a0 a ih =>
    match b, hb with
    | b0 :: b, hb =>
    match c, hc with
    | c0 :: c, hc =>
    match d, hd with
    | d0 :: d, hd =>
      have h0 : d0 = a0 ^^^ b0 ^^^ c0 := h 0 (by simp)
      have ih' := ih (take x a0) (take y b0) (take z c0) b c d (by simpa using hb) (by simpa using hc) (by simpa using hd) (fun i hi => h (i + 1) (by simp; omega))
      show run (take _ d0) d = run (take x a0) a ^^^ run (take y b0) b ^^^ run (take z c0) c
      rw [← ih']
      congr 1
      unfold take
      rw [h0, byte_xor, byte_xor, ← steps_xor, ← steps_xor]
      congr 1
      apply BitVec.eq_of_getLsbD_eq
      intro i hi
      simp only [BitVec.getLsbD_xor]
      cases x.getLsbD i <;> cases y.getLsbD i <;> cases z.getLsbD i <;> cases (byte a0).getLsbD i <;> cases (byte b0).getLsbD i <;> cases (byte c0).getLsbD i <;> rfl
theorem add_three (s : BitVec 32) (a b c d : List UInt8) (hb : b.length = a.length) (hc : c.length = a.length) (hd : d.length = a.length)
    (h : ∀ i (hi : i < a.length), d[i]'(by omega) = a[i] ^^^ b[i]'(by omega) ^^^ c[i]'(by omega)) : add s d = add s a ^^^ add s b ^^^ add s c := by
  unfold add
  have e : ~~~ s = ~~~ s ^^^ ~~~ s ^^^ ~~~ s := by rw [BitVec.xor_self, BitVec.zero_xor]
  have h3 := run_three (~~~ s) (~~~ s) (~~~ s) a b c d hb hc hd h
  rw [← e] at h3
  rw [h3]
  apply BitVec.eq_of_getLsbD_eq
  intro i hi
  simp only [BitVec.getLsbD_xor, BitVec.getLsbD_not, hi, decide_true, Bool.true_and]
  cases (run (~~~ s) a).getLsbD i <;> cases (run (~~~ s) b).getLsbD i <;> cases (run (~~~ s) c).getLsbD i <;> rfl

/-- One step, on numbers. -/
theorem step_nat_odd (c : BitVec 32) (h : c.toNat % 2 = 1) : (step c).toNat = (c.toNat / 2) ^^^ 3988292384 := by
  have h0 : c.getLsbD 0 = true := by simp [BitVec.getLsbD, Nat.testBit_zero, h]
  unfold step
  rw [if_pos h0, BitVec.toNat_xor, BitVec.toNat_ushiftRight, Nat.shiftRight_eq_div_pow]
  rfl
theorem step_nat_even (c : BitVec 32) (h : ¬ c.toNat % 2 = 1) : (step c).toNat = c.toNat / 2 := by
  have h0 : ¬ c.getLsbD 0 = true := by simp [BitVec.getLsbD, Nat.testBit_zero, h]
  unfold step
  rw [if_neg h0, BitVec.toNat_ushiftRight, Nat.shiftRight_eq_div_pow]

/-- Four steps, by the sixteen cases of the low bits. -/
def tab : List Nat := [0x00000000, 0x1db71064, 0x3b6e20c8, 0x26d930ac, 0x76dc4190, 0x6b6b51f4, 0x4db26158, 0x5005713c, 0xedb88320, 0xf00f9344, 0xd6d6a3e8, 0xcb61b38c, 0x9b64c2b0, 0x86d3d2d4, 0xa00ae278, 0xbdbdf21c]
theorem tab_steps : ∀ i : Fin 16, (steps 4 (BitVec.ofNat 32 i.val)).toNat = tab.getD i.val 0 := by decide
theorem four (c : BitVec 32) : (steps 4 c).toNat = tab.getD (c.toNat % 16) 0 ^^^ (c.toNat / 16) := by
  have e : c = BitVec.ofNat 32 (c.toNat % 16) ^^^ ((c >>> 4) <<< 4) := by
    apply BitVec.eq_of_getLsbD_eq
    intro i hi
    rw [BitVec.getLsbD_xor, BitVec.getLsbD_ofNat, BitVec.getLsbD_shiftLeft, BitVec.getLsbD_ushiftRight, show (16 : Nat) = 2 ^ 4 by rfl, Nat.testBit_mod_two_pow]
    by_cases h4 : i < 4
    · simp [h4, hi, BitVec.getLsbD]
    · have : 4 + (i - 4) = i := by omega
      simp [h4, hi, this]
  have e2 : steps 4 ((c >>> 4) <<< 4) = c >>> 4 := by
    refine steps_shl 4 _ (fun i hi => ?_) (by omega)
    rw [BitVec.getLsbD_ushiftRight]; exact BitVec.getLsbD_of_ge _ _ (by omega)
  have e3 : steps 4 c = steps 4 (BitVec.ofNat 32 (c.toNat % 16)) ^^^ (c >>> 4) := by
    rw [← e2, ← steps_xor, ← e]
  rw [e3, BitVec.toNat_xor, BitVec.toNat_ushiftRight, Nat.shiftRight_eq_div_pow, tab_steps ⟨c.toNat % 16, by omega⟩]
theorem eight (c : BitVec 32) : steps 8 c = steps 4 (steps 4 c) := steps_add 4 4 c

theorem awake_sum : add (add 0#32 [49, 50, 51, 52]) [53, 54, 55, 56, 57] = 3421780262#32 := by decide +kernel
end Go.Proofs.Ytgpkdnnlgafenaa.Crc
