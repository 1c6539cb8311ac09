/- Package utf7's Encode and Decode as plain functions on lists of bytes, and what follows from them. No program is named here. -/
import Derived.Lib.ValidLaws
namespace Go.Proofs.YtpjgacmcpbpklaaDoor.U7
open Go.Lib
set_option linter.unusedVariables false
set_option linter.unusedSimpArgs false

/-! ## runes -/
def chGo : Nat → List UInt8 → List Nat
  | 0, _ => []
  | n + 1, l => if l = [] then [] else (decodeL l).1 :: chGo n (l.drop (decodeL l).2)
/-- The runes of a text. -/
def runes (l : List UInt8) : List Nat := chGo l.length l
theorem chGo_nil : ∀ n, chGo n [] = []
  | 0 => rfl
  | _ + 1 => by simp [chGo]
theorem chGo_fuel : ∀ (n m : Nat) (l : List UInt8), l.length ≤ n → l.length ≤ m → chGo n l = chGo m l
  | 0, m, l, hn, _ => by
    have : l = [] := List.eq_nil_of_length_eq_zero (by omega)
    subst this
    rw [chGo_nil, chGo_nil]
  | n + 1, 0, l, _, hm => by
    have : l = [] := List.eq_nil_of_length_eq_zero (by omega)
    subst this
    rw [chGo_nil, chGo_nil]
  | n + 1, m + 1, l, hn, hm => by
    by_cases hne : l = []
    · subst hne
      rw [chGo_nil, chGo_nil]
    · have hw := decodeL_width l
      have hl : 0 < l.length := List.length_pos_iff.2 hne
      simp only [chGo, if_neg hne]
      rw [chGo_fuel n m _ (by rw [List.length_drop]; omega) (by rw [List.length_drop]; omega)]
theorem runes_nil : runes [] = [] := rfl
theorem runes_step (l : List UInt8) (hne : l ≠ []) : runes l = (decodeL l).1 :: runes (l.drop (decodeL l).2) := by
  have hw := decodeL_width l
  have hl : 0 < l.length := List.length_pos_iff.2 hne
  unfold runes
  obtain ⟨n, hn⟩ : ∃ n, l.length = n + 1 := ⟨l.length - 1, by omega⟩
  rw [hn]
  simp only [chGo, if_neg hne]
  rw [chGo_fuel n _ _ (by rw [List.length_drop]; omega) (Nat.le_refl _)]
theorem runes_len : ∀ (n : Nat) (l : List UInt8), l.length ≤ n → (runes l).length ≤ l.length
  | 0, l, h => by
    have : l = [] := List.eq_nil_of_length_eq_zero (by omega)
    subst this; simp [runes_nil]
  | n + 1, l, h => by
    by_cases hne : l = []
    · subst hne; simp [runes_nil]
    · have hw := decodeL_width l
      have hl : 0 < l.length := List.length_pos_iff.2 hne
      rw [runes_step l hne]
      have := runes_len n (l.drop (decodeL l).2) (by rw [List.length_drop]; omega)
      rw [List.length_drop] at this
      simp only [List.length_cons]
      omega

/-- A rune's bytes. -/
def eR (r : Nat) : List UInt8 := encodeRune (r : Int)
/-- A character's number. -/
def scal (r : Nat) : Prop := r < 55296 ∨ (57343 < r ∧ r < 1114112)
theorem scal_of (l : List UInt8) (h : ¬ ((decodeL l).1 = 65533 ∧ (decodeL l).2 = 1)) : scal (decodeL l).1 := by
  rw [decodeL_N] at h ⊢
  have k0 := (l.getD 0 0).toNat_lt
  rcases decodeN_shape l.length (l.getD 0 0).toNat (l.getD 1 0).toNat (l.getD 2 0).toNat (l.getD 3 0).toNat with ⟨c, e⟩ | ⟨c1, c2, c3, cv, e⟩ | ⟨c1, c2, c3, c4, cv, cs, e⟩ | ⟨c1, c2, c3, c4, c5, cv, cw, e⟩ | e
  all_goals (rw [e] at h ⊢; dsimp only at h ⊢; unfold scal)
  all_goals first | omega | exact absurd ⟨rfl, rfl⟩ h
theorem valid_runes : ∀ (n : Nat) (l : List UInt8), l.length ≤ n → validD l = true → (∀ r ∈ runes l, scal r) ∧ (runes l).flatMap eR = l
  | 0, l, _, _ => by
    have : l = [] := List.eq_nil_of_length_eq_zero (by omega)
    subst this; simp [runes_nil]
  | n + 1, l, h, hv => by
    by_cases hne : l = []
    · subst hne; simp [runes_nil]
    · have hw := decodeL_width l
      have hl : 0 < l.length := List.length_pos_iff.2 hne
      rw [validD_step l hne] at hv
      by_cases hb : (decodeL l).1 = 65533 ∧ (decodeL l).2 = 1
      · simp [hb] at hv
      · rw [if_neg hb] at hv
        obtain ⟨i1, i2⟩ := valid_runes n (l.drop (decodeL l).2) (by rw [List.length_drop]; omega) hv
        rw [runes_step l hne]
        refine ⟨fun r hr => ?_, ?_⟩
        · rcases List.mem_cons.1 hr with rfl | hr
          · exact scal_of l hb
          · exact i1 r hr
        · rw [List.flatMap_cons, i2, eR, encode_decode l hne hb, List.take_append_drop]

/-! ## UTF-16 -/
def unitsOf (r : Nat) : List Nat := if r < 65536 then [r] else [55296 + (r - 65536) / 1024, 56320 + (r - 65536) % 1024]
def isHi (u : Nat) : Prop := 55296 ≤ u ∧ u < 56320
def isLo (u : Nat) : Prop := 56320 ≤ u ∧ u < 57344
instance (u : Nat) : Decidable (isHi u) := by unfold isHi; infer_instance
instance (u : Nat) : Decidable (isLo u) := by unfold isLo; infer_instance
/-- The bytes of units. -/
def text : List Nat → List UInt8
  | [] => []
  | [u] => encodeRune (u : Int)
  | u :: v :: t => if isHi u ∧ isLo v then encodeRune ((65536 + (u - 55296) * 1024 + (v - 56320) : Nat) : Int) ++ text t else encodeRune (u : Int) ++ text (v :: t)
theorem text_one (u : Nat) (t : List Nat) (h : ¬ isHi u) : text (u :: t) = encodeRune (u : Int) ++ text t := by
  cases t with
  | nil => simp [text]
  | cons v t => rw [text, if_neg (fun k => h k.1)]
theorem text_units (r : Nat) (h : scal r) (X : List Nat) : text (unitsOf r ++ X) = eR r ++ text X := by
  unfold scal at h
  unfold unitsOf
  by_cases h1 : r < 65536
  · rw [if_pos h1]
    exact text_one r X (by unfold isHi; omega)
  · rw [if_neg h1]
    show text (_ :: _ :: X) = _
    have e : 65536 + (55296 + (r - 65536) / 1024 - 55296) * 1024 + (56320 + (r - 65536) % 1024 - 56320) = r := by omega
    rw [text, if_pos (by unfold isHi isLo; omega), e]
    rfl
theorem text_all : ∀ (rs : List Nat), (∀ r ∈ rs, scal r) → text (rs.flatMap unitsOf) = rs.flatMap eR
  | [], _ => rfl
  | r :: t, h => by
    rw [List.flatMap_cons, text_units r (h r (by simp)), text_all t (fun x hx => h x (by simp [hx])), List.flatMap_cons]
theorem unitsOf_lt (r : Nat) (h : r < 1114112) : ∀ u ∈ unitsOf r, u < 65536 := by
  unfold unitsOf
  split <;> (intro u hu; simp at hu; omega)
theorem units_lt (rs : List Nat) (h : ∀ r ∈ rs, r < 1114112) : ∀ u ∈ rs.flatMap unitsOf, u < 65536 := by
  intro u hu
  obtain ⟨r, hr, hu⟩ := List.mem_flatMap.1 hu
  exact unitsOf_lt r (h r hr) u hu
theorem unitsOf_len (r : Nat) : 1 ≤ (unitsOf r).length ∧ (unitsOf r).length ≤ 2 := by unfold unitsOf; split <;> simp
theorem units_len : ∀ (rs : List Nat), (rs.flatMap unitsOf).length ≤ 2 * rs.length
  | [] => by simp
  | r :: t => by
    rw [List.flatMap_cons, List.length_append, List.length_cons]
    have := units_len t
    have := unitsOf_len r
    omega
theorem scal_lt {r : Nat} (h : scal r) : r < 1114112 := by unfold scal at h; omega

/-! ## base 64 -/
def emit (V N : Nat) : List Nat := if _h : 6 ≤ N then V / 2 ^ (N - 6) % 64 :: emit V (N - 6) else []
termination_by N
theorem emit_low (V N : Nat) (h : N < 6) : emit V N = [] := by rw [emit, dif_neg (by omega)]
theorem emit_step (V N : Nat) (h : 6 ≤ N) : emit V N = V / 2 ^ (N - 6) % 64 :: emit V (N - 6) := by rw [emit, dif_pos h]
/-- The sixes of units, where v of n bits is left over. -/
def sext : Nat → Nat → List Nat → List Nat
  | v, n, [] => if n = 0 then [] else [v * 2 ^ (6 - n) % 64]
  | v, n, u :: us => emit (v * 65536 + u) (n + 16) ++ sext ((v * 65536 + u) % 2 ^ ((n + 16) % 6)) ((n + 16) % 6) us
theorem emit16 (V : Nat) : emit V 16 = [V / 1024 % 64, V / 16 % 64] := by
  rw [emit_step V 16 (by decide), emit_step V 10 (by decide), emit_low V 4 (by decide)]
theorem emit20 (V : Nat) : emit V 20 = [V / 16384 % 64, V / 256 % 64, V / 4 % 64] := by
  rw [emit_step V 20 (by decide), emit_step V 14 (by decide), emit_step V 8 (by decide), emit_low V 2 (by decide)]
theorem emit18 (V : Nat) : emit V 18 = [V / 4096 % 64, V / 64 % 64, V / 1 % 64] := by
  rw [emit_step V 18 (by decide), emit_step V 12 (by decide), emit_step V 6 (by decide), emit_low V 0 (by decide)]
theorem sext0 (v u : Nat) (us : List Nat) : sext v 0 (u :: us) = [(v * 65536 + u) / 1024 % 64, (v * 65536 + u) / 16 % 64] ++ sext ((v * 65536 + u) % 16) 4 us := by
  show emit _ 16 ++ _ = _
  rw [emit16]
theorem sext4 (v u : Nat) (us : List Nat) : sext v 4 (u :: us) = [(v * 65536 + u) / 16384 % 64, (v * 65536 + u) / 256 % 64, (v * 65536 + u) / 4 % 64] ++ sext ((v * 65536 + u) % 4) 2 us := by
  show emit _ 20 ++ _ = _
  rw [emit20]
theorem sext2 (v u : Nat) (us : List Nat) : sext v 2 (u :: us) = [(v * 65536 + u) / 4096 % 64, (v * 65536 + u) / 64 % 64, (v * 65536 + u) / 1 % 64] ++ sext ((v * 65536 + u) % 1) 0 us := by
  show emit _ 18 ++ _ = _
  rw [emit18]
theorem emit_lt : ∀ (N V : Nat), ∀ k ∈ emit V N, k < 64
  | N, V => by
    intro k hk
    by_cases h : 6 ≤ N
    · rw [emit_step V N h] at hk
      rcases List.mem_cons.1 hk with rfl | hk
      · exact Nat.mod_lt _ (by decide)
      · exact emit_lt (N - 6) V k hk
    · rw [emit_low V N (by omega)] at hk
      cases hk
termination_by N => N
theorem sext_lt : ∀ (us : List Nat) (v n : Nat), ∀ k ∈ sext v n us, k < 64
  | [], v, n => by
    intro k hk
    simp only [sext] at hk
    split at hk
    · cases hk
    · rw [List.mem_singleton] at hk; subst hk; exact Nat.mod_lt _ (by decide)
  | u :: us, v, n => by
    intro k hk
    simp only [sext] at hk
    rcases List.mem_append.1 hk with hk | hk
    · exact emit_lt _ _ k hk
    · exact sext_lt us _ _ k hk
theorem sext_len : ∀ (us : List Nat) (v n : Nat), (n = 0 ∨ n = 2 ∨ n = 4) → (sext v n us).length ≤ 3 * us.length + 1
  | [], v, n, _ => by simp only [sext]; split <;> simp
  | u :: us, v, n, h => by
    rcases h with rfl | rfl | rfl
    · rw [sext0]
      have := sext_len us ((v * 65536 + u) % 16) 4 (.inr (.inr rfl))
      simp; omega
    · rw [sext2]
      have := sext_len us ((v * 65536 + u) % 1) 0 (.inl rfl)
      simp; omega
    · rw [sext4]
      have := sext_len us ((v * 65536 + u) % 4) 2 (.inr (.inl rfl))
      simp; omega
theorem sext_ne (us : List Nat) (h : us ≠ []) : sext 0 0 us ≠ [] := by
  cases us with
  | nil => exact absurd rfl h
  | cons u t => rw [sext0]; simp

/-- The units of sixes, where v of n bits is left over. -/
def unp : Nat → Nat → List Nat → List Nat
  | _, _, [] => []
  | v, n, c :: cs => if 10 ≤ n then (v * 64 + c) / 2 ^ (n - 10) % 65536 :: unp ((v * 64 + c) % 2 ^ (n - 10)) (n - 10) cs else unp (v * 64 + c) (n + 6) cs
theorem unp_go (v n c : Nat) (cs : List Nat) (h : n < 10) : unp v n (c :: cs) = unp (v * 64 + c) (n + 6) cs := by rw [unp, if_neg (by omega)]
theorem unp_out (v n c : Nat) (cs : List Nat) (h : 10 ≤ n) : unp v n (c :: cs) = (v * 64 + c) / 2 ^ (n - 10) % 65536 :: unp ((v * 64 + c) % 2 ^ (n - 10)) (n - 10) cs := by rw [unp, if_pos h]
theorem unp_len : ∀ (cs : List Nat) (v n : Nat), (unp v n cs).length ≤ cs.length
  | [], _, _ => by simp [unp]
  | c :: cs, v, n => by
    rw [unp]
    split
    · simpa using unp_len cs _ _
    · have := unp_len cs (v * 64 + c) (n + 6)
      simp; omega
theorem unp_lt : ∀ (cs : List Nat) (v n : Nat), ∀ u ∈ unp v n cs, u < 65536
  | [], _, _ => by intro u hu; cases hu
  | c :: cs, v, n => by
    intro u hu
    rw [unp] at hu
    split at hu
    · rcases List.mem_cons.1 hu with rfl | hu
      · exact Nat.mod_lt _ (by decide)
      · exact unp_lt cs _ _ u hu
    · exact unp_lt cs _ _ u hu
theorem unp_sext : ∀ (us : List Nat), (∀ u ∈ us, u < 65536) → unp 0 0 (sext 0 0 us) = us
  | [], _ => rfl
  | [u], h => by
    have hu := h u (by simp)
    rw [sext0]
    simp only [sext, List.cons_append, List.nil_append]
    rw [if_neg (by decide), unp_go _ _ _ _ (by decide), unp_go _ _ _ _ (by decide), unp_out _ _ _ _ (by decide)]
    simp only [unp]
    congr 1
    simp only [Nat.reducePow, Nat.reduceSub, Nat.reduceAdd]
    omega
  | [u, v], h => by
    have hu := h u (by simp)
    have hv := h v (by simp)
    rw [sext0, sext4]
    simp only [sext, List.cons_append, List.nil_append]
    rw [if_neg (by decide), unp_go _ _ _ _ (by decide), unp_go _ _ _ _ (by decide), unp_out _ _ _ _ (by decide), unp_go _ _ _ _ (by decide), unp_go _ _ _ _ (by decide), unp_out _ _ _ _ (by decide)]
    simp only [unp, Nat.reducePow, Nat.reduceSub, Nat.reduceAdd]
    congr 1
    · omega
    · congr 1
      omega
  | u :: v :: x :: t, h => by
    have hu := h u (by simp)
    have hv := h v (by simp)
    have hx := h x (by simp)
    have ih := unp_sext t (fun y hy => h y (by simp [hy]))
    rw [sext0, sext4, sext2]
    simp only [List.cons_append, List.nil_append]
    rw [unp_go _ _ _ _ (by decide), unp_go _ _ _ _ (by decide), unp_out _ _ _ _ (by decide), unp_go _ _ _ _ (by decide), unp_go _ _ _ _ (by decide), unp_out _ _ _ _ (by decide), unp_go _ _ _ _ (by decide), unp_out _ _ _ _ (by decide)]
    simp only [Nat.reducePow, Nat.reduceSub, Nat.reduceAdd, Nat.mod_one]
    rw [ih]
    congr 1
    · omega
    · congr 1
      · omega
      · congr 1
        omega

def alpha : List UInt8 := [65,66,67,68,69,70,71,72,73,74,75,76,77,78,79,80,81,82,83,84,85,86,87,88,89,90,97,98,99,100,101,102,103,104,105,106,107,108,109,110,111,112,113,114,115,116,117,118,119,120,121,122,48,49,50,51,52,53,54,55,56,57,43,44]
def letter (k : Nat) : UInt8 := alpha.getD k 0
def isL (c : UInt8) : Bool := alpha.contains c
/-- A letter's number; 63 for what is none. -/
def sx (c : UInt8) : Nat := if alpha.contains c then alpha.findIdx (· == c) else 63
theorem letter_facts : ∀ k : Fin 64, sx (letter k.val) = k.val ∧ letter k.val ≠ 45 ∧ letter k.val ≠ 38 ∧ 32 ≤ (letter k.val).toNat ∧ (letter k.val).toNat ≤ 126 ∧ isL (letter k.val) = true := by decide
theorem sx_lt : ∀ c : UInt8, sx c < 64 := by
  intro c
  unfold sx
  split
  · rename_i h
    rw [List.contains_iff_exists_mem_beq] at h
    obtain ⟨x, hx, hb⟩ := h
    have := List.findIdx_lt_length_of_exists (xs := alpha) (p := (· == c)) ⟨x, hx, by rw [beq_iff_eq] at hb ⊢; exact hb.symm⟩
    simpa [alpha] using this
  · decide
theorem sx_letter (ks : List Nat) (h : ∀ k ∈ ks, k < 64) : (ks.map letter).map sx = ks := by
  rw [List.map_map]
  conv => rhs; rw [← List.map_id ks]
  apply List.map_congr_left
  intro k hk
  exact (letter_facts ⟨k, h k hk⟩).1

/-! ## Encode -/
def pr (r : Nat) : Bool := decide (32 ≤ r) && decide (r ≤ 126)
def plain (r : Nat) : List UInt8 := if r = 38 then [38, 45] else [UInt8.ofNat r]
def b64 (us : List Nat) : List UInt8 := (sext 0 0 us).map letter
def seq (us : List Nat) : List UInt8 := if us = [] then [] else 38 :: (b64 us ++ [45])
def encR : List Nat → List Nat → List UInt8
  | [], us => seq us
  | r :: t, us => if pr r = true then seq us ++ plain r ++ encR t [] else encR t (us ++ unitsOf r)
def enc (l : List UInt8) : List UInt8 := encR (runes l) []

theorem b64_len (us : List Nat) : (b64 us).length ≤ 3 * us.length + 1 := by
  unfold b64
  rw [List.length_map]
  exact sext_len us 0 0 (.inl rfl)
theorem seq_len (us : List Nat) : (seq us).length ≤ 3 * us.length + 3 := by
  unfold seq
  split
  · simp
  · have := b64_len us
    simp; omega
theorem encR_len : ∀ (R us : List Nat), (encR R us).length ≤ 3 * us.length + 3 + 9 * R.length
  | [], us => by simpa [encR] using seq_len us
  | r :: t, us => by
    rw [encR]
    have h1 := seq_len us
    have h2 : (plain r).length ≤ 2 := by unfold plain; split <;> simp
    have h3 := unitsOf_len r
    split
    · have := encR_len t []
      simp at this ⊢; omega
    · have := encR_len t (us ++ unitsOf r)
      simp at this ⊢; omega
theorem enc_len (l : List UInt8) : (enc l).length ≤ 9 * l.length + 3 := by
  have := encR_len (runes l) []
  have := runes_len l.length l (Nat.le_refl _)
  unfold enc
  simp at *; omega

def prB (c : UInt8) : Prop := 32 ≤ c.toNat ∧ c.toNat ≤ 126
theorem b64_mem (us : List Nat) : ∀ c ∈ b64 us, c ≠ 45 ∧ c ≠ 38 ∧ prB c ∧ isL c = true := by
  intro c hc
  obtain ⟨k, hk, rfl⟩ := List.mem_map.1 hc
  obtain ⟨_, a, b, c, d, e⟩ := letter_facts ⟨k, sext_lt us 0 0 k hk⟩
  exact ⟨a, b, ⟨c, d⟩, e⟩
theorem seq_pr (us : List Nat) : ∀ c ∈ seq us, prB c := by
  intro c hc
  unfold seq at hc
  split at hc
  · cases hc
  · simp at hc
    rcases hc with rfl | hc | rfl
    · exact ⟨by decide, by decide⟩
    · exact (b64_mem us c hc).2.2.1
    · exact ⟨by decide, by decide⟩
theorem byte_of (r : Nat) (h : r < 256) : (UInt8.ofNat r).toNat = r := by
  rw [UInt8.toNat_ofNat']; exact Nat.mod_eq_of_lt (by omega)
theorem pr_iff {r : Nat} : pr r = true ↔ 32 ≤ r ∧ r ≤ 126 := by unfold pr; simp
theorem plain_pr (r : Nat) (h : pr r = true) : ∀ c ∈ plain r, prB c := by
  intro c hc
  rw [pr_iff] at h
  unfold plain at hc
  split at hc
  · simp at hc
    rcases hc with rfl | rfl <;> exact ⟨by decide, by decide⟩
  · simp at hc
    subst hc
    unfold prB
    rw [byte_of r (by omega)]; omega
theorem encR_pr : ∀ (R us : List Nat), ∀ c ∈ encR R us, prB c
  | [], us => by simpa only [encR] using seq_pr us
  | r :: t, us => by
    intro c hc
    rw [encR] at hc
    split at hc
    · rename_i h
      rcases List.mem_append.1 hc with hc | hc
      · rcases List.mem_append.1 hc with hc | hc
        · exact seq_pr us c hc
        · exact plain_pr r h c hc
      · exact encR_pr t [] c hc
    · exact encR_pr t _ c hc

/-! ## Decode -/
def decSeq (q : List UInt8) : List UInt8 := if q = [] then [38] else text (unp 0 0 (q.map sx))
theorem rest_lt (t : List UInt8) : (t.dropWhile (· != 45)).tail.length ≤ t.length := by
  have := (List.dropWhile_suffix (l := t) (· != 45)).length_le
  rw [List.length_tail]; omega
def dec : List UInt8 → List UInt8
  | [] => []
  | c :: t => if c = 38 then decSeq (t.takeWhile (· != 45)) ++ dec (t.dropWhile (· != 45)).tail else c :: dec t
termination_by l => l.length
decreasing_by
  · have := rest_lt t
    simp only [List.length_cons]; omega
  · simp
/-- .. which looks for what has no form. -/
def decR : List UInt8 → Option (List UInt8)
  | [] => some []
  | c :: t =>
    if c.toNat < 32 ∨ 126 < c.toNat then none
    else if c ≠ 38 then (decR t).map (c :: ·)
    else if (t.dropWhile (· != 45)) = [] then none
    else if (t.takeWhile (· != 45)).all isL = false then none
    else (decR (t.dropWhile (· != 45)).tail).map (decSeq (t.takeWhile (· != 45)) ++ ·)
termination_by l => l.length
decreasing_by
  · simp
  · have := rest_lt t
    simp only [List.length_cons]; omega

theorem take_of (q x : List UInt8) (h : ∀ c ∈ q, c ≠ 45) : (q ++ 45 :: x).takeWhile (· != 45) = q := by
  rw [List.takeWhile_append_of_pos (fun c hc => by simpa using h c hc)]
  simp
theorem drop_of (q x : List UInt8) (h : ∀ c ∈ q, c ≠ 45) : (q ++ 45 :: x).dropWhile (· != 45) = 45 :: x := by
  rw [List.dropWhile_append_of_pos (fun c hc => by simpa using h c hc)]
  simp
theorem dec_amp (q x : List UInt8) (h : ∀ c ∈ q, c ≠ 45) : dec (38 :: (q ++ 45 :: x)) = decSeq q ++ dec x := by
  rw [dec, if_pos rfl, take_of q x h, drop_of q x h]
  rfl
theorem decR_amp (q x : List UInt8) (h : ∀ c ∈ q, c ≠ 45) (hl : q.all isL = true) : decR (38 :: (q ++ 45 :: x)) = (decR x).map (decSeq q ++ ·) := by
  rw [decR, if_neg (by decide), if_neg (by simp), take_of q x h, drop_of q x h, if_neg (by simp), if_neg (by simp [hl])]
  rfl
theorem decSeq_b64 (us : List Nat) (h : ∀ u ∈ us, u < 65536) (hn : us ≠ []) : decSeq (b64 us) = text us := by
  have hb : b64 us ≠ [] := fun e => sext_ne us hn (List.map_eq_nil_iff.1 e)
  unfold decSeq
  rw [if_neg hb]
  unfold b64
  rw [sx_letter _ (sext_lt us 0 0), unp_sext us h]
theorem dec_seq (rs : List Nat) (h : ∀ r ∈ rs, scal r) (x : List UInt8) :
    dec (seq (rs.flatMap unitsOf) ++ x) = (rs.flatMap eR) ++ dec x ∧ decR (seq (rs.flatMap unitsOf) ++ x) = (decR x).map ((rs.flatMap eR) ++ ·) := by
  by_cases hn : rs.flatMap unitsOf = []
  · have h0 : rs = [] := by
      cases rs with
      | nil => rfl
      | cons r t =>
        rw [List.flatMap_cons] at hn
        have := (List.append_eq_nil_iff.1 hn).1
        have := unitsOf_len r
        simp_all
    subst h0
    refine ⟨by simp [seq], ?_⟩
    cases hd : decR x <;> simp [seq, hd]
  · have e : seq (rs.flatMap unitsOf) ++ x = 38 :: (b64 (rs.flatMap unitsOf) ++ 45 :: x) := by
      unfold seq; rw [if_neg hn]; simp
    have hlt := units_lt rs (fun r hr => scal_lt (h r hr))
    have hm := b64_mem (rs.flatMap unitsOf)
    rw [e, dec_amp _ _ (fun c hc => (hm c hc).1), decR_amp _ _ (fun c hc => (hm c hc).1) (List.all_eq_true.2 fun c hc => (hm c hc).2.2.2), decSeq_b64 _ hlt hn, text_all rs h]
    exact ⟨rfl, rfl⟩
theorem dec_plain (r : Nat) (h : pr r = true) (x : List UInt8) : dec (plain r ++ x) = eR r ++ dec x ∧ decR (plain r ++ x) = (decR x).map (eR r ++ ·) := by
  rw [pr_iff] at h
  have e : eR r = [UInt8.ofNat r] := by
    unfold eR encodeRune
    rw [encodeRuneZ_one (by omega) (by omega)]
    simp
  unfold plain
  by_cases h1 : r = 38
  · subst h1
    rw [if_pos rfl, e]
    show dec (38 :: ([] ++ 45 :: x)) = _ ∧ decR (38 :: ([] ++ 45 :: x)) = _
    rw [dec_amp [] x (by simp), decR_amp [] x (by simp) rfl]
    exact ⟨rfl, rfl⟩
  · rw [if_neg h1, e]
    have hb := byte_of r (by omega)
    have hne : UInt8.ofNat r ≠ 38 := fun e => by
      rw [e] at hb
      exact h1 hb.symm
    show dec (_ :: x) = _ ∧ decR (_ :: x) = _
    rw [dec, if_neg hne, decR, if_neg (by omega), if_pos hne]
    exact ⟨rfl, rfl⟩
theorem map_map_app (o : Option (List UInt8)) (a b : List UInt8) : (o.map (b ++ ·)).map (a ++ ·) = o.map ((a ++ b) ++ ·) := by
  cases o <;> simp
theorem dec_encR : ∀ (R rs : List Nat), (∀ r ∈ R, scal r) → (∀ r ∈ rs, scal r) →
    dec (encR R (rs.flatMap unitsOf)) = (rs ++ R).flatMap eR ∧ decR (encR R (rs.flatMap unitsOf)) = some ((rs ++ R).flatMap eR)
  | [], rs, _, h2 => by
    have := dec_seq rs h2 []
    simp only [List.append_nil] at this
    rw [encR, List.append_nil, this.1, this.2, dec, decR]
    simp
  | r :: t, rs, h1, h2 => by
    rw [encR]
    by_cases hp : pr r = true
    · rw [if_pos hp, List.append_assoc]
      obtain ⟨a1, a2⟩ := dec_seq rs h2 (plain r ++ encR t [])
      obtain ⟨b1, b2⟩ := dec_plain r hp (encR t [])
      obtain ⟨c1, c2⟩ := dec_encR t [] (fun x hx => h1 x (by simp [hx])) (by simp)
      simp only [List.flatMap_nil, List.nil_append] at c1 c2
      rw [a1, a2, b1, b2, c1, c2]
      simp
    · rw [if_neg hp]
      have := dec_encR t (rs ++ [r]) (fun x hx => h1 x (by simp [hx])) (fun x hx => by
        rcases List.mem_append.1 hx with hx | hx
        · exact h2 x hx
        · rw [List.mem_singleton] at hx; subst hx; exact h1 x (by simp))
      rw [List.flatMap_append] at this
      simp only [List.flatMap_cons, List.flatMap_nil, List.append_nil] at this
      rw [this.1, this.2]
      simp

theorem dec_enc (l : List UInt8) (h : validD l = true) : dec (enc l) = l ∧ decR (enc l) = some l := by
  obtain ⟨h1, h2⟩ := valid_runes l.length l (Nat.le_refl _) h
  have := dec_encR (runes l) [] h1 (by simp)
  rw [List.nil_append, h2] at this
  exact this

/-- Decode, and the same by way of what looks for faults. -/
def decode (l : List UInt8) : List UInt8 × Nat := if validD (dec l) = true ∧ enc (dec l) = l then (dec l, 0) else ([], 3)
def decodeR (l : List UInt8) : List UInt8 × Nat :=
  match decR l with
  | none => ([], 3)
  | some y => if validD y = true ∧ enc y = l then (y, 0) else ([], 3)
theorem decodeR_eq (l : List UInt8) : decodeR l = decode l := by
  unfold decodeR decode
  cases hd : decR l with
  | none =>
    dsimp only
    rw [if_neg]
    rintro ⟨h1, h2⟩
    have := (dec_enc _ h1).2
    rw [h2, hd] at this
    cases this
  | some y =>
    dsimp only
    by_cases hy : validD y = true ∧ enc y = l
    · have := (dec_enc _ hy.1).1
      rw [hy.2] at this
      rw [if_pos hy, this, if_pos hy]
    · rw [if_neg hy, if_neg]
      rintro ⟨h1, h2⟩
      have := (dec_enc _ h1).2
      rw [h2, hd] at this
      injection this with this
      subst this
      exact hy ⟨h1, h2⟩
theorem encodeRune_len (r : Int) : (encodeRune r).length ≤ 4 := by
  unfold encodeRune
  rw [List.length_map]
  exact (encodeRuneZ_length r).2
theorem text_len : ∀ (us : List Nat), (text us).length ≤ 4 * us.length
  | [] => by simp [text]
  | [u] => by simpa [text] using encodeRune_len u
  | u :: v :: t => by
    rw [text]
    split
    · have h1 := encodeRune_len ((65536 + (u - 55296) * 1024 + (v - 56320) : Nat) : Int)
      have h2 := text_len t
      simp only [List.length_append, List.length_cons] at *; omega
    · have h1 := encodeRune_len (u : Int)
      have h2 := text_len (v :: t)
      simp only [List.length_append, List.length_cons] at *; omega
theorem decSeq_len (q : List UInt8) : (decSeq q).length ≤ 4 * q.length + 1 := by
  unfold decSeq
  split
  · simp
  · have := text_len (unp 0 0 (q.map sx))
    have h2 := unp_len (q.map sx) 0 0
    rw [List.length_map] at h2
    omega
theorem dec_len : ∀ (n : Nat) (l : List UInt8), l.length ≤ n → (dec l).length ≤ 4 * l.length
  | _, [], _ => by simp [dec]
  | 0, c :: t, h => by simp at h
  | n + 1, c :: t, h => by
    rw [dec]
    split
    · have h1 := decSeq_len (t.takeWhile (· != 45))
      have h2 := dec_len n (t.dropWhile (· != 45)).tail (by have := rest_lt t; simp at h; omega)
      have h3 : t.length = (t.takeWhile (· != 45)).length + (t.dropWhile (· != 45)).length := by
        rw [← List.length_append, List.takeWhile_append_dropWhile]
      rw [List.length_tail] at h2
      simp only [List.length_append, List.length_cons] at *; omega
    · have h2 := dec_len n t (by simpa using h)
      simp only [List.length_cons] at *; omega
theorem enc_inj_len (l : List UInt8) : (decode l).1.length ≤ 4 * l.length := by
  unfold decode
  split
  · exact dec_len l.length l (Nat.le_refl _)
  · simp
end Go.Proofs.YtpjgacmcpbpklaaDoor.U7
