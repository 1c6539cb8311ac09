/- Records in plain words: numbers in bytes, a record's bytes, reading one, reading a row of them. -/
import Derived.Test.YtgpkdnnlgafenaaCrcPure
namespace Go.Proofs.Ytgpkdnnlgafenaa.Rc

/-- A number in n bytes, the highest first. -/
def big (v : Nat) : Nat → List UInt8
  | 0 => []
  | n + 1 => UInt8.ofNat (v / 256 ^ n) :: big v n
theorem big_length (v n : Nat) : (big v n).length = n := by
  induction n with
  | zero => rfl
  | succ n ih => simp [big, ih]
def num (l : List UInt8) : Nat := l.foldl (fun n c => n * 256 + c.toNat) 0
theorem num_snoc (l : List UInt8) (c : UInt8) : num (l ++ [c]) = num l * 256 + c.toNat := by simp [num]
theorem num_from (l : List UInt8) (a : Nat) : l.foldl (fun n c => n * 256 + c.toNat) a = a * 256 ^ l.length + num l := by
  induction l generalizing a with
  | nil => simp [num]
  | cons c l ih =>
    have e : num (c :: l) = l.foldl (fun n c => n * 256 + c.toNat) (0 * 256 + c.toNat) := rfl
    rw [List.foldl_cons, e, ih, ih (0 * 256 + c.toNat), List.length_cons, Nat.pow_succ, Nat.add_mul, Nat.add_mul, Nat.mul_assoc a 256, Nat.mul_comm 256]
    omega
theorem num_cons (c : UInt8) (l : List UInt8) : num (c :: l) = c.toNat * 256 ^ l.length + num l := by
  have e : num (c :: l) = l.foldl (fun n c => n * 256 + c.toNat) (0 * 256 + c.toNat) := rfl
  rw [e, num_from]; simp
theorem num_lt (l : List UInt8) : num l < 256 ^ l.length := by
  induction l with
  | nil => simp [num]
  | cons c l ih =>
    rw [num_cons, List.length_cons, Nat.pow_succ]
    have h := c.toNat_lt
    have : c.toNat * 256 ^ l.length ≤ 255 * 256 ^ l.length := Nat.mul_le_mul_right _ (by omega)
    omega
theorem num_big (v n : Nat) : num (big v n) = v % 256 ^ n := by
  induction n with
  | zero => simp [big, num, Nat.mod_one]
  | succ n ih =>
    have e : (UInt8.ofNat (v / 256 ^ n)).toNat = v / 256 ^ n % 256 := UInt8.toNat_ofNat'
    have e2 : v % 256 ^ (n + 1) = v % 256 ^ n + 256 ^ n * (v / 256 ^ n % 256) := Nat.mod_pow_succ
    rw [big, num_cons, ih, big_length, e, e2, Nat.mul_comm, Nat.add_comm]
theorem num_take_lt (l : List UInt8) (k n : Nat) : num ((l.drop k).take n) < 256 ^ n := by
  refine Nat.lt_of_lt_of_le (num_lt _) (Nat.pow_le_pow_right (by omega) ?_)
  rw [List.length_take]; omega

def sum (l : List UInt8) : Nat := (Crc.add 0#32 l).toNat
theorem sum_lt (l : List UInt8) : sum l < 4294967296 := (Crc.add 0#32 l).isLt
/-- A record's bytes but for its sum. -/
def hd (n : Nat) (b : List UInt8) : List UInt8 := big b.length 4 ++ big n 8 ++ b
def enc (n : Nat) (b : List UInt8) : List UInt8 := hd n b ++ big (sum (hd n b)) 4
theorem hd_length (n : Nat) (b : List UInt8) : (hd n b).length = b.length + 12 := by simp [hd, big_length]; omega
theorem enc_length (n : Nat) (b : List UInt8) : (enc n b).length = b.length + 16 := by simp [enc, hd_length, big_length]

def len (l : List UInt8) : Nat := num (l.take 4)
def nr (l : List UInt8) : Nat := num ((l.drop 4).take 8)
def body (l : List UInt8) : List UInt8 := (l.drop 12).take (len l)
def crc (l : List UInt8) : Nat := num ((l.drop (len l + 12)).take 4)
theorem len_lt (l : List UInt8) : len l < 4294967296 := num_take_lt l 0 4
theorem nr_lt (l : List UInt8) : nr l < 18446744073709551616 := num_take_lt l 4 8
theorem crc_lt (l : List UInt8) : crc l < 4294967296 := num_take_lt l _ 4
/-- What Get says of the bytes. -/
def getE (l : List UInt8) : Nat :=
  if l.length < 4 then 8 else if 200000 < len l then 3 else if l.length < len l + 16 then 8
  else if nr l < 1 ∨ 9223372036854775807 < nr l ∨ crc l ≠ sum (l.take (len l + 12)) then 3 else 0
theorem getE_ok {l : List UInt8} (h : getE l = 0) : len l ≤ 200000 ∧ len l + 16 ≤ l.length ∧ 1 ≤ nr l ∧ nr l ≤ 9223372036854775807 ∧ crc l = sum (l.take (len l + 12)) := by
  unfold getE at h
  by_cases h1 : l.length < 4
  · rw [if_pos h1] at h; cases h
  rw [if_neg h1] at h
  by_cases h2 : 200000 < len l
  · rw [if_pos h2] at h; cases h
  rw [if_neg h2] at h
  by_cases h3 : l.length < len l + 16
  · rw [if_pos h3] at h; cases h
  rw [if_neg h3] at h
  by_cases h4 : nr l < 1 ∨ 9223372036854775807 < nr l ∨ crc l ≠ sum (l.take (len l + 12))
  · rw [if_pos h4] at h; cases h
  · simp only [not_or, Classical.not_not] at h4
    omega
theorem body_length {l : List UInt8} (h : len l + 16 ≤ l.length) : (body l).length = len l := by
  rw [body, List.length_take, List.length_drop]; omega

/-- The fields of bytes that begin with a record's. -/
theorem len_hd (n : Nat) (b t : List UInt8) (hb : b.length < 4294967296) : len (hd n b ++ t) = b.length := by
  unfold len hd
  rw [List.append_assoc, List.append_assoc, List.take_append_of_le_length (by simp [big_length]), List.take_of_length_le (by simp [big_length]), num_big]
  exact Nat.mod_eq_of_lt (by simpa using hb)
theorem nr_hd (n : Nat) (b t : List UInt8) (hn : n < 18446744073709551616) : nr (hd n b ++ t) = n := by
  unfold nr hd
  rw [List.append_assoc, List.append_assoc, List.drop_append_of_le_length (by simp [big_length]), List.drop_of_length_le (by simp [big_length]), List.nil_append,
    List.take_append_of_le_length (by simp [big_length]), List.take_of_length_le (by simp [big_length]), num_big]
  exact Nat.mod_eq_of_lt (by simpa using hn)
theorem body_hd (n : Nat) (b t : List UInt8) (hb : b.length < 4294967296) : body (hd n b ++ t) = b := by
  unfold body
  rw [len_hd n b t hb]
  unfold hd
  rw [List.append_assoc, List.drop_append_of_le_length (by simp [big_length]), List.drop_of_length_le (by simp [big_length]), List.nil_append]
  simp
theorem crc_enc (n : Nat) (b t : List UInt8) (hb : b.length < 4294967296) : crc (enc n b ++ t) = sum (hd n b) := by
  unfold crc enc
  rw [List.append_assoc, len_hd n b _ hb, List.drop_append_of_le_length (by rw [hd_length]; omega), List.drop_of_length_le (by rw [hd_length]; omega), List.nil_append,
    List.take_append_of_le_length (by simp [big_length]), List.take_of_length_le (by simp [big_length]), num_big]
  exact Nat.mod_eq_of_lt (by simpa using sum_lt _)
theorem take_enc (n : Nat) (b t : List UInt8) : (enc n b ++ t).take (b.length + 12) = hd n b := by
  unfold enc
  rw [List.append_assoc, List.take_append_of_le_length (by rw [hd_length]; omega), List.take_of_length_le (by rw [hd_length]; omega)]
theorem get_enc (n : Nat) (b t : List UInt8) (hb : b.length ≤ 200000) (h1 : 1 ≤ n) (h2 : n ≤ 9223372036854775807) :
    getE (enc n b ++ t) = 0 ∧ len (enc n b ++ t) = b.length ∧ nr (enc n b ++ t) = n ∧ body (enc n b ++ t) = b := by
  have e : enc n b ++ t = hd n b ++ (big (sum (hd n b)) 4 ++ t) := by rw [enc, List.append_assoc]
  have hl : len (enc n b ++ t) = b.length := by rw [e]; exact len_hd n b _ (by omega)
  have hn : nr (enc n b ++ t) = n := by rw [e]; exact nr_hd n b _ (by omega)
  refine ⟨?_, hl, hn, by rw [e]; exact body_hd n b _ (by omega)⟩
  unfold getE
  rw [hl, hn, crc_enc n b t (by omega), take_enc]
  have : (enc n b ++ t).length = b.length + 16 + t.length := by rw [List.length_append, enc_length]
  rw [if_neg (by omega), if_neg (by omega), if_neg (by omega), if_neg (by simp; omega)]
/-- A record that is cut off. -/
theorem get_cut (n : Nat) (b t : List UInt8) (hb : b.length ≤ 200000) (k : Nat) (hk : k < b.length + 16) : getE ((enc n b ++ t).take k) = 8 := by
  have hle : ((enc n b ++ t).take k).length = k := by rw [List.length_take, List.length_append, enc_length]; omega
  unfold getE
  by_cases h4 : k < 4
  · rw [if_pos (by omega)]
  have hl : len ((enc n b ++ t).take k) = b.length := by
    have e : enc n b ++ t = hd n b ++ (big (sum (hd n b)) 4 ++ t) := by rw [enc, List.append_assoc]
    have := len_hd n b (big (sum (hd n b)) 4 ++ t) (by omega)
    rw [← this, ← e]
    unfold len
    rw [List.take_take, Nat.min_eq_left (by omega)]
  rw [hl, hle, if_neg (by omega), if_neg (by omega), if_pos (by omega)]

/-- A row of records. -/
def scan (l : List UInt8) (first : Int) : List (Nat × List UInt8) × Nat :=
  if h : getE l = 0 ∧ (nr l : Int) = first then
    if first = 9223372036854775807 then ([(nr l, body l)], len l + 16)
    else ((nr l, body l) :: (scan (l.drop (len l + 16)) (first + 1)).1, len l + 16 + (scan (l.drop (len l + 16)) (first + 1)).2)
  else ([], 0)
termination_by l.length
decreasing_by all_goals (have := getE_ok h.1; rw [List.length_drop]; omega)
theorem scan_no (l : List UInt8) (first : Int) (h : ¬ (getE l = 0 ∧ (nr l : Int) = first)) : scan l first = ([], 0) := by
  rw [scan, dif_neg h]
theorem scan_last (l : List UInt8) (h : getE l = 0) (hn : (nr l : Int) = 9223372036854775807) : scan l 9223372036854775807 = ([(nr l, body l)], len l + 16) := by
  rw [scan, dif_pos ⟨h, hn⟩, if_pos rfl]
theorem scan_more (l : List UInt8) (first : Int) (h : getE l = 0) (hn : (nr l : Int) = first) (hm : first ≠ 9223372036854775807) :
    scan l first = ((nr l, body l) :: (scan (l.drop (len l + 16)) (first + 1)).1, len l + 16 + (scan (l.drop (len l + 16)) (first + 1)).2) := by
  rw [scan, dif_pos ⟨h, hn⟩, if_neg hm]

/-- The bytes of records one behind the other, numbered from n on. -/
def encs (n : Nat) : List (List UInt8) → List UInt8
  | [] => []
  | b :: l => enc n b ++ encs (n + 1) l
theorem encs_snoc (n : Nat) (l : List (List UInt8)) (b : List UInt8) : encs n (l ++ [b]) = encs n l ++ enc (n + l.length) b := by
  induction l generalizing n with
  | nil => simp [encs]
  | cons a l ih => rw [List.cons_append, encs, encs, ih, List.append_assoc, List.length_cons, Nat.add_right_comm]; rfl
/-- How many records are whole in the first c bytes. -/
def whole (c : Nat) : List (List UInt8) → Nat
  | [] => 0
  | b :: l => if b.length + 16 ≤ c then whole (c - (b.length + 16)) l + 1 else 0
def sizes (l : List (List UInt8)) : Nat := (l.map fun b => b.length + 16).sum
def zipn (n : Nat) : List (List UInt8) → List (Nat × List UInt8)
  | [] => []
  | b :: l => (n, b) :: zipn (n + 1) l
theorem encs_length (n : Nat) (l : List (List UInt8)) : (encs n l).length = sizes l := by
  induction l generalizing n with
  | nil => rfl
  | cons b l ih => simp [encs, enc_length, ih, sizes]
theorem scan_encs (n : Nat) (l : List (List UInt8)) (c : Nat) (h1 : 1 ≤ n) (h2 : n + l.length ≤ 9223372036854775807) (hb : ∀ b ∈ l, b.length ≤ 200000) :
    scan ((encs n l).take c) (n : Int) = (zipn n (l.take (whole c l)), sizes (l.take (whole c l))) := by
  induction l generalizing n c with
  | nil => rw [scan_no]; · rfl
           · simp [encs, getE]
  | cons b l ih =>
    have hb0 := hb b (by simp)
    rw [List.length_cons] at h2
    by_cases hc : b.length + 16 ≤ c
    · have e : (encs n (b :: l)).take c = enc n b ++ (encs (n + 1) l).take (c - (b.length + 16)) := by
        rw [encs, List.take_append, enc_length, List.take_of_length_le (by rw [enc_length]; exact hc)]
      obtain ⟨g0, g1, g2, g3⟩ := get_enc n b ((encs (n + 1) l).take (c - (b.length + 16))) hb0 h1 (by omega)
      rw [e, scan_more _ _ g0 (by rw [g2]) (by omega), g1, g2, g3, List.drop_append_of_le_length (by rw [enc_length]; omega), List.drop_of_length_le (by rw [enc_length]; omega), List.nil_append]
      rw [whole, if_pos hc, List.take_succ_cons]
      have ih' := ih (n + 1) (c - (b.length + 16)) (by omega) (by omega) (fun x hx => hb x (by simp [hx]))
      rw [show ((n : Int) + 1) = ((n + 1 : Nat) : Int) by simp, ih']
      simp [zipn, sizes]
    · have e : getE ((encs n (b :: l)).take c) = 8 := get_cut n b (encs (n + 1) l) hb0 c (by omega)
      rw [scan_no _ _ (by rw [e]; simp), whole, if_neg hc]
      rfl
theorem whole_le (c : Nat) (l : List (List UInt8)) : whole c l ≤ l.length := by
  induction l generalizing c with
  | nil => exact Nat.le_refl _
  | cons b l ih =>
    rw [whole]
    split
    · have := ih (c - (b.length + 16)); simp; omega
    · omega
theorem sizes_whole (c : Nat) (l : List (List UInt8)) : sizes (l.take (whole c l)) ≤ c := by
  induction l generalizing c with
  | nil => simp [sizes]
  | cons b l ih =>
    rw [whole]
    split
    · have := ih (c - (b.length + 16)); simp [sizes] at this ⊢; omega
    · simp [sizes]
theorem whole_snoc (c : Nat) (l : List (List UInt8)) (b : List UInt8) : whole c (l ++ [b]) = if sizes (l ++ [b]) ≤ c then l.length + 1 else whole c l := by
  induction l generalizing c with
  | nil => simp [whole, sizes]
  | cons a l ih =>
    rw [List.cons_append, whole, whole, ih]
    have e : sizes (a :: (l ++ [b])) = a.length + 16 + sizes (l ++ [b]) := by simp [sizes]
    rw [e]
    by_cases h1 : a.length + 16 ≤ c
    · rw [if_pos h1, if_pos h1]
      by_cases h2 : a.length + 16 + sizes (l ++ [b]) ≤ c
      · rw [if_pos h2, if_pos (by omega), List.length_cons]
      · rw [if_neg h2, if_neg (by omega)]
    · rw [if_neg h1, if_neg h1, if_neg (by omega)]

/-- A bit behind the length turned. -/
theorem bit_ne (k : Nat) (hk : k < 8) : Crc.bit k ≠ 0 := by
  have : ∀ i : Fin 8, Crc.bit i.val ≠ 0 := by decide
  exact this ⟨k, hk⟩
theorem sum_flip (l : List UInt8) (j k : Nat) (hj : j < l.length) (hk : k < 8) : sum (l.set j (l[j] ^^^ Crc.bit k)) ≠ sum l := by
  intro e
  have e1 : Crc.add 0#32 (l.set j (l[j] ^^^ Crc.bit k)) = Crc.add 0#32 l := BitVec.eq_of_toNat_eq e
  unfold Crc.add at e1
  have e2 := congrArg (fun x => ~~~ x) e1
  simp only [BitVec.not_not] at e2
  rw [Crc.run_flip _ l j k hj hk] at e2
  have e3 := congrArg (fun x => Crc.run (~~~ 0#32) l ^^^ x) e2
  rw [← BitVec.xor_assoc, BitVec.xor_self, BitVec.zero_xor] at e3
  exact absurd (Crc.steps_zero _ _ e3) (by decide)
theorem num_inj (a b : List UInt8) (hl : a.length = b.length) (h : num a = num b) : a = b := by
  induction a generalizing b with
  | nil => exact (List.eq_nil_of_length_eq_zero hl.symm).symm
  | cons x a ih =>
    match b, hl with
    | y :: b, hl =>
      have hl' : a.length = b.length := by simpa using hl
      rw [num_cons, num_cons, hl'] at h
      have h1 := num_lt a
      have h2 := num_lt b
      rw [hl'] at h1
      have hpos : 0 < 256 ^ b.length := Nat.pow_pos (by omega)
      have q1 : (x.toNat * 256 ^ b.length + num a) / 256 ^ b.length = x.toNat := by rw [Nat.mul_comm, Nat.mul_add_div hpos, Nat.div_eq_of_lt h1]; rfl
      have q2 : (y.toNat * 256 ^ b.length + num b) / 256 ^ b.length = y.toNat := by rw [Nat.mul_comm, Nat.mul_add_div hpos, Nat.div_eq_of_lt h2]; rfl
      rw [h, q2] at q1
      rw [q1] at h
      obtain rfl : x = y := UInt8.toNat_inj.1 q1.symm
      rw [ih b hl' (by omega)]
theorem get_turned (n : Nat) (b : List UInt8) (hb : b.length ≤ 200000) (j k : Nat) (h4 : 4 ≤ j) (hj : j < (enc n b).length) (hk : k < 8) :
    getE ((enc n b).set j ((enc n b)[j] ^^^ Crc.bit k)) = 3 := by
  have hL := enc_length n b
  obtain ⟨l, hl⟩ : ∃ l, l = enc n b := ⟨_, rfl⟩
  have e0 : len (enc n b) = b.length := by have := len_hd n b (big (sum (hd n b)) 4) (by omega); exact this
  have e1 : crc (enc n b) = sum (hd n b) := by have := crc_enc n b [] (by omega); rwa [List.append_nil] at this
  have e2 : (enc n b).take (b.length + 12) = hd n b := by have := take_enc n b []; rwa [List.append_nil] at this
  simp only [← hl] at hL e0 e1 e2 hj ⊢
  have hne : (l[j] ^^^ Crc.bit k) ≠ l[j] := fun e => bit_ne k hk (by
    have := congrArg (fun x => l[j] ^^^ x) e
    rw [← UInt8.xor_assoc, UInt8.xor_self, UInt8.zero_xor] at this
    exact this)
  obtain ⟨x, hx⟩ : ∃ x, x = l[j] ^^^ Crc.bit k := ⟨_, rfl⟩
  rw [← hx]
  have hlen : len (l.set j x) = b.length := by
    unfold len; rw [List.take_set_of_le h4]; exact e0
  unfold getE
  rw [hlen, List.length_set, if_neg (by omega), if_neg (by omega), if_neg (by omega), if_pos]
  refine .inr (.inr ?_)
  by_cases hj2 : j < b.length + 12
  · have c1 : crc (l.set j x) = crc l := by
      unfold crc; rw [hlen, e0, List.drop_set_of_lt hj2]
    have c2 : (l.set j x).take (b.length + 12) = (hd n b).set j ((hd n b)[j]'(by rw [hd_length]; omega) ^^^ Crc.bit k) := by
      rw [List.take_set, e2, hx]
      congr 1
      have : l[j] = (hd n b)[j]'(by rw [hd_length]; omega) := by
        simp only [← e2, List.getElem_take]
      rw [this]
    rw [c1, e1, c2]
    exact fun e => sum_flip (hd n b) j k _ hk e.symm
  · have c2 : (l.set j x).take (b.length + 12) = hd n b := by rw [List.take_set_of_le (by omega), e2]
    rw [c2, ← e1]
    intro e
    unfold crc at e
    rw [hlen, e0] at e
    have hi := num_inj _ _ (by simp) e
    have g1 := congrArg (fun m : List UInt8 => m[j - (b.length + 12)]?) hi
    simp only [List.getElem?_take, List.getElem?_drop] at g1
    rw [if_pos (by omega), if_pos (by omega), show b.length + 12 + (j - (b.length + 12)) = j by omega, List.getElem?_set_self hj, List.getElem?_eq_getElem hj] at g1
    injection g1 with g1
    exact hne (by rw [← hx]; exact g1)

/-- A scan under way: rs has been read, the rest begins at n with the number z. -/
def Under (l : List UInt8) (first : Int) (rs : List (Nat × List UInt8)) (n : Nat) (z : Int) : Prop := scan l first = (rs ++ (scan (l.drop n) z).1, n + (scan (l.drop n) z).2)
theorem Under.start (l : List UInt8) (first : Int) : Under l first [] 0 first := by simp [Under]
theorem Under.stop {l : List UInt8} {first : Int} {rs : List (Nat × List UInt8)} {n : Nat} {z : Int} (h : Under l first rs n z) (hn : ¬ (getE (l.drop n) = 0 ∧ (nr (l.drop n) : Int) = z)) : scan l first = (rs, n) := by
  rw [h, scan_no _ _ hn]; simp
theorem Under.last {l : List UInt8} {first : Int} {rs : List (Nat × List UInt8)} {n : Nat} {z : Int} (h : Under l first rs n z) (hE : getE (l.drop n) = 0) (hn : (nr (l.drop n) : Int) = z) (hz : z = 9223372036854775807) :
    scan l first = (rs ++ [(nr (l.drop n), body (l.drop n))], n + (len (l.drop n) + 16)) := by
  subst hz; rw [h, scan_last _ hE hn]
theorem Under.more {l : List UInt8} {first : Int} {rs : List (Nat × List UInt8)} {n : Nat} {z : Int} (h : Under l first rs n z) (hE : getE (l.drop n) = 0) (hn : (nr (l.drop n) : Int) = z) (hz : z ≠ 9223372036854775807) :
    Under l first (rs ++ [(nr (l.drop n), body (l.drop n))]) (n + (len (l.drop n) + 16)) (z + 1) := by
  unfold Under at *
  rw [h, scan_more _ _ hE hn hz, List.drop_drop]
  simp [Nat.add_assoc]
end Go.Proofs.Ytgpkdnnlgafenaa.Rc
