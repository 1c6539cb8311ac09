/- strings.EqualFold at a month's name and any three bytes. -/
import Derived.Test.YtgkibkophoikoaaDoorDtText
import Derived.Test.YtgkibkophoikoaaDoorSFoldS
import Derived.Test.YtgkibkophoikoaaDoorShelf
import Derived.Test.YtgkibkophoikoaaDoorRow
import Derived.ScopeJumps
import Derived.Laws.RangeAny
import Derived.Lib.OthersKept
import Derived.Shelf.Unicode.DecodeLastEight
import Derived.WalkMore
import Derived.WalkSpells
namespace Go.Proofs.YtgkibkophoikoaaDoor
open Go.RowKit
set_option linter.unusedVariables false
set_option linter.unusedSimpArgs false
set_option maxRecDepth 100000

def other (y : Nat) : Nat := if y ≤ 90 then y + 32 else y - 32
theorem letter_facts : ∀ m : Fin 12, ∀ i : Fin 3, 65 ≤ ((Dt.mname (m.val + 1)).getD i.val 0).toNat ∧ ((Dt.mname (m.val + 1)).getD i.val 0).toNat ≤ 122 ∧ (((Dt.mname (m.val + 1)).getD i.val 0).toNat ≤ 90 ∨ 97 ≤ ((Dt.mname (m.val + 1)).getD i.val 0).toNat) ∧
    (((Dt.mname (m.val + 1)).getD i.val 0).toNat = 83 ∨ (foldTab.getD ((Dt.mname (m.val + 1)).getD i.val 0).toNat 0 = (other ((Dt.mname (m.val + 1)).getD i.val 0).toNat : Int) ∧ foldTab.getD (other ((Dt.mname (m.val + 1)).getD i.val 0).toNat) 0 = (((Dt.mname (m.val + 1)).getD i.val 0).toNat : Int))) := by decide +kernel
theorem foldB_eq (x y : UInt8) : Oct.foldB x = Oct.foldB y ↔ (x.toNat = y.toNat ∨ (65 ≤ x.toNat ∧ x.toNat ≤ 90 ∧ y.toNat = x.toNat + 32) ∨ (65 ≤ y.toNat ∧ y.toNat ≤ 90 ∧ x.toNat = y.toNat + 32)) := by
  have h := Dt.foldEq_fold x y
  unfold Lib.foldEq at h
  rw [Bool.eq_iff_iff, decide_eq_true_iff, beq_iff_eq] at h
  exact h.symm
theorem decode_383 (s : ByteArray) (pos : Nat) (h : (Utf8.decode s pos).1 = 383) : (Utf8.decode s pos).2 = 2 := by
  have hb : ∀ k, (s.get! (pos + k)).toNat < 256 := fun k => (s.get! (pos + k)).toNat_lt
  have h0 := hb 0
  have h1 := hb 1
  have h2 := hb 2
  have h3 := hb 3
  simp only [Utf8.decode] at h ⊢
  repeat' split at h
  all_goals simp_all [Utf8.runeError]
  all_goals (try split)
  all_goals (try simp_all)
  all_goals (try omega)
/-- The first i bytes fit. -/
def FPre (a b : List UInt8) (i : Nat) : Prop := Oct.fold (a.take i) = Oct.fold (b.take i)
theorem fold_snoc' (l : List UInt8) (b : UInt8) : Oct.fold (l ++ [b]) = Oct.fold l ++ [Oct.foldB b] := by
  simp only [Oct.fold, List.map_append, List.map_cons, List.map_nil]
theorem FPre.next {a b : List UInt8} {i : Nat} (h : FPre a b i) (ha : i < a.length) (hb : i < b.length) (hf : Oct.foldB a[i] = Oct.foldB b[i]) : FPre a b (i + 1) := by
  unfold FPre at h ⊢
  rw [List.take_succ_eq_append_getElem ha, List.take_succ_eq_append_getElem hb, fold_snoc', fold_snoc', h, hf]
theorem FPre.no {a b : List UInt8} {i : Nat} (ha : i < a.length) (hb : i < b.length) (hf : Oct.foldB a[i] ≠ Oct.foldB b[i]) : (Oct.fold a == Oct.fold b) = false := by
  rw [beq_eq_false_iff_ne]
  intro h
  apply hf
  have h2 : (Oct.fold a)[i]? = (Oct.fold b)[i]? := by rw [h]
  unfold Oct.fold at h2
  rw [List.getElem?_map, List.getElem?_map, List.getElem?_eq_getElem ha, List.getElem?_eq_getElem hb] at h2
  exact Option.some.inj h2
theorem FPre.yes {a b : List UInt8} (ha : a.length = 3) (hb : b.length = 3) (h : FPre a b 3) : (Oct.fold a == Oct.fold b) = true := by
  unfold FPre at h
  rw [List.take_of_length_le (by omega), List.take_of_length_le (by omega)] at h
  rw [beq_iff_eq]; exact h

/-- What the two tables of unicode and those of unicode/utf8 give. -/
structure FW (w : World) : Prop where
  tabs : Lib.Utf8Tabs 3 4 w
  fold : AFold w
  orb : Orb w
theorem FW.below {w w' : World} (h : FW w) (hb : Below w.heap.size w w') : FW w' := ⟨Utf8Tabs_below h.tabs hb, h.fold.below hb, h.orb.below hb⟩

/-- What stands of t behind j letters: from a byte beyond ASCII on, or fewer bytes than there are letters left. -/
def Rest (n j : Nat) (t : ByteArray) : Prop := (j = 0 ∧ t.size = n ∧ ∃ h : 0 < t.size, 128 ≤ (t[0]'h).toNat) ∨ (1 ≤ j ∧ t.size + j < n)
theorem Rest.lt {n j : Nat} {t : ByteArray} (h : Rest n j t) (hj : j ≤ n) : j < n := by
  rcases h with ⟨rfl, h1, h2, _⟩ | ⟨h1, h2⟩ <;> omega
theorem Rest.next {n j k : Nat} {t : ByteArray} (h : Rest n j t) (hk : 1 ≤ k) (hk2 : k ≤ t.size) (hr : 128 ≤ (Utf8.decode t 0).1 → 2 ≤ k) : Rest n (j + 1) (t.extract k t.size) := by
  refine .inr ⟨by omega, ?_⟩
  have e : (t.extract k t.size).size = t.size - k := by simp
  rw [e]
  rcases h with ⟨rfl, h1, h2, h3⟩ | ⟨h1, h2⟩
  · have := hr (decode_high t 0 h2 h3).1
    omega
  · omega

set_option maxHeartbeats 6400000 in
theorem equalFold_month (m : Nat) (hm1 : 1 ≤ m) (hm2 : m ≤ 12) (s t : ByteArray) (hs : s.data.toList = Dt.mname m) (ht : t.size = 3) (w : World) (hW : FW w) :
    Calls Tryd.prog 47 #[.string s, .string t] w fun e w' => e = .returned (.bool (Dt.fits m t.data.toList)) ∧ Below w.heap.size w w' := by
  have hlen : s.data.toList.length = s.size := rfl
  have hlet : t.data.toList.length = t.size := rfl
  have hs3 : s.size = 3 := by rw [← hlen, hs, Dt.mname_len]
  have hM : min (s.size : Int) (t.size : Int) = 3 := by omega
  have hMM : (s.size : Int) == (t.size : Int) := by rw [beq_iff_eq]; omega
  have HS3 := Lib.hid hs3
  have HT3 := Lib.hid ht
  obtain ⟨ans, hans⟩ : ∃ ans, Dt.fits m t.data.toList = ans := ⟨_, rfl⟩
  have HANS : Hid ((Oct.fold s.data.toList == Oct.fold t.data.toList) = ans) := Lib.hid (by rw [hs]; exact hans)
  have HLF : Hid (∀ (i : Nat) (h : i < s.size), 65 ≤ s[i].toNat ∧ s[i].toNat ≤ 122 ∧ (s[i].toNat ≤ 90 ∨ 97 ≤ s[i].toNat) ∧ (s[i].toNat = 83 ∨ (foldTab.getD s[i].toNat 0 = (other s[i].toNat : Int) ∧ foldTab.getD (other s[i].toNat) 0 = (s[i].toNat : Int)))) := Lib.hid (fun i h => by
    have e : (Dt.mname m).getD i 0 = s[i] := by
      rw [← hs, List.getD_eq_getElem?_getD, List.getElem?_eq_getElem (by omega)]; rfl
    have := letter_facts ⟨m - 1, by omega⟩ ⟨i, by omega⟩
    simp only [show m - 1 + 1 = m by omega] at this
    rw [e] at this
    exact this)
  rw [hans]
  have HW := Lib.hid hW
  clear hW hans hs hs3 ht hm1 hm2
  go_enter Tryd.func47, Tryd.ntmps47
  go_wp2
  refine wp_scope_jumps 0 (fun a' w' => w' = w ∧ ∃ (i : Nat) (f : Nat → Value), Hid (i < 3 ∧ 128 ≤ (t.data.toList.getD i 0).toNat) ∧ a' = { tmps := #[.string s, .string t, f 2, f 3, f 4, .int .i64 (i : Int), f 6, f 7, f 8, f 9, f 10, f 11, f 12, f 13, f 14, f 15, f 16, f 17, f 18, f 19, f 20, f 21, f 22, f 23, f 24, f 25, f 26, f 27, f 28, f 29, f 30, f 31, f 32, f 33, f 34, f 35, f 36, f 37, f 38, f 39, f 40, f 41, f 42, f 43, f 44, f 45, f 46, f 47, f 48, f 49, f 50, f 51, f 52, f 53, f 54, f 55, f 56, f 57, f 58, f 59, f 60, f 61, f 62, f 63, f 64, f 65, f 66, f 67, f 68, f 69, f 70, f 71, f 72, f 73, f 74, f 75, f 76, f 77, f 78, f 79, f 80, f 81, f 82, f 83, f 84, f 85, f 86, f 87, f 88, f 89, f 90, f 91, f 92, f 93, f 94, f 95, f 96, f 97, f 98, f 99, f 100, f 101, f 102, f 103, f 104, f 105, f 106, f 107, f 108, f 109, f 110, f 111, f 112, f 113, f 114, f 115, f 116, f 117, f 118, f 119, f 120, f 121, f 122], defers := [] }) (fun _ _ => 0) rfl ?_ ?_
  · go_wp2
    go_loop [5] (fun s5 => ∃ i : Nat, i ≤ 3 ∧ s5 = .int .i64 i ∧ Hid (FPre s.data.toList t.data.toList i)) (fun s5 => 3 - (intOf s5).toNat)
    case atStart => exact ⟨0, Nat.zero_le _, rfl, Lib.hid rfl⟩
    case round =>
      obtain ⟨i, hi, rfl, HP⟩ := hrel
      by_cases hlt : i < 3
      · have hltz : (i : Int) < 3 := by omega
        have his : i < s.size := by rw [HS3.out]; exact hlt
        have hit : i < t.size := by rw [HT3.out]; exact hlt
        have hisz : (i : Int) < (s.size : Int) := by omega
        have hitz : (i : Int) < (t.size : Int) := by omega
        obtain ⟨f1, f2, f3, _⟩ := HLF.out i his
        obtain ⟨y, hy⟩ : ∃ y : UInt8, s[i] = y := ⟨_, rfl⟩
        obtain ⟨x, hx⟩ : ∃ x : UInt8, t[i] = x := ⟨_, rfl⟩
        rw [hy] at f1 f2 f3
        have hfi := foldB_eq y x
        have hyl : s.data.toList[i]'his = y := hy
        have hxl : t.data.toList[i]'hit = x := hx
        have HNO : Hid (Oct.foldB y ≠ Oct.foldB x → ans = false) := Lib.hid (fun h => by
          rw [← HANS.out]
          exact FPre.no his hit (by rw [hyl, hxl]; exact h))
        have HYES : Hid (Oct.foldB y = Oct.foldB x → FPre s.data.toList t.data.toList (i + 1)) := Lib.hid (fun h => HP.out.next his hit (by rw [hyl, hxl]; exact h))
        have hgx : (t.data.toList.getD i 0) = x := by rw [List.getD_eq_getElem?_getD, List.getElem?_eq_getElem (by omega)]; exact hx
        have HGX := Lib.hid hgx
        have HFI := Lib.hid hfi
        have hx256 := x.toNat_lt
        have hor : bits .or .u8 (y.toNat : Int) (x.toNat : Int) = ((y.toNat ||| x.toNat : Nat) : Int) := u8_or_nat _ _ (by omega) (by omega)
        obtain ⟨o, ho⟩ : ∃ o, y.toNat ||| x.toNat = o := ⟨_, rfl⟩
        rw [ho] at hor
        have ho1 : x.toNat < 128 → o < 128 := fun h => by rw [← ho]; exact Nat.or_lt_two_pow (n := 7) (by omega) h
        have ho2 : 128 ≤ x.toNat → 128 ≤ o := fun h => by rw [← ho]; exact Nat.le_trans h Nat.right_le_or
        clear hyl hxl hfi hgx ho
        by_cases h128 : x.toNat < 128
        · have k1 : ¬ (128 : Int) ≤ (o : Int) := by have := ho1 h128; omega
          clear ho1 ho2
          go_wp2
          all_goals (try simp only [beq_iff_eq, beq_eq_false_iff_ne, ne_eq] at *)
          all_goals first
            | (go_round
               case rel => exact ⟨i + 1, by omega, by go_num, Lib.hid (HYES.out (HFI.out.2 (by omega)))⟩
               case measure => simp [intOf]; omega)
            | (simp only [Exit.jump]
               go_ret
               refine ⟨?_, Below.refl _ _⟩
               rw [HNO.out (fun h => by have := HFI.out.1 h; omega)]
               rfl)
        · have k1 : (128 : Int) ≤ (o : Int) := by have := ho2 (by omega); omega
          clear ho1 ho2
          go_wp2
          go_step3
          have hj : ∀ (t0 : Array Value), t0 = #[.string s, .string t, t0.getD 2 undef, t0.getD 3 undef, t0.getD 4 undef, .int .i64 (i : Int), t0.getD 6 undef, t0.getD 7 undef, t0.getD 8 undef, t0.getD 9 undef, t0.getD 10 undef, t0.getD 11 undef, t0.getD 12 undef, t0.getD 13 undef, t0.getD 14 undef, t0.getD 15 undef, t0.getD 16 undef, t0.getD 17 undef, t0.getD 18 undef, t0.getD 19 undef, t0.getD 20 undef, t0.getD 21 undef, t0.getD 22 undef, t0.getD 23 undef, t0.getD 24 undef, t0.getD 25 undef, t0.getD 26 undef, t0.getD 27 undef, t0.getD 28 undef, t0.getD 29 undef, t0.getD 30 undef, t0.getD 31 undef, t0.getD 32 undef, t0.getD 33 undef, t0.getD 34 undef, t0.getD 35 undef, t0.getD 36 undef, t0.getD 37 undef, t0.getD 38 undef, t0.getD 39 undef, t0.getD 40 undef, t0.getD 41 undef, t0.getD 42 undef, t0.getD 43 undef, t0.getD 44 undef, t0.getD 45 undef, t0.getD 46 undef, t0.getD 47 undef, t0.getD 48 undef, t0.getD 49 undef, t0.getD 50 undef, t0.getD 51 undef, t0.getD 52 undef, t0.getD 53 undef, t0.getD 54 undef, t0.getD 55 undef, t0.getD 56 undef, t0.getD 57 undef, t0.getD 58 undef, t0.getD 59 undef, t0.getD 60 undef, t0.getD 61 undef, t0.getD 62 undef, t0.getD 63 undef, t0.getD 64 undef, t0.getD 65 undef, t0.getD 66 undef, t0.getD 67 undef, t0.getD 68 undef, t0.getD 69 undef, t0.getD 70 undef, t0.getD 71 undef, t0.getD 72 undef, t0.getD 73 undef, t0.getD 74 undef, t0.getD 75 undef, t0.getD 76 undef, t0.getD 77 undef, t0.getD 78 undef, t0.getD 79 undef, t0.getD 80 undef, t0.getD 81 undef, t0.getD 82 undef, t0.getD 83 undef, t0.getD 84 undef, t0.getD 85 undef, t0.getD 86 undef, t0.getD 87 undef, t0.getD 88 undef, t0.getD 89 undef, t0.getD 90 undef, t0.getD 91 undef, t0.getD 92 undef, t0.getD 93 undef, t0.getD 94 undef, t0.getD 95 undef, t0.getD 96 undef, t0.getD 97 undef, t0.getD 98 undef, t0.getD 99 undef, t0.getD 100 undef, t0.getD 101 undef, t0.getD 102 undef, t0.getD 103 undef, t0.getD 104 undef, t0.getD 105 undef, t0.getD 106 undef, t0.getD 107 undef, t0.getD 108 undef, t0.getD 109 undef, t0.getD 110 undef, t0.getD 111 undef, t0.getD 112 undef, t0.getD 113 undef, t0.getD 114 undef, t0.getD 115 undef, t0.getD 116 undef, t0.getD 117 undef, t0.getD 118 undef, t0.getD 119 undef, t0.getD 120 undef, t0.getD 121 undef, t0.getD 122 undef] → (w = w ∧ ∃ (i : Nat) (f : Nat → Value), Hid (i < 3 ∧ 128 ≤ (t.data.toList.getD i 0).toNat) ∧ ({ tmps := t0, defers := [] } : Act) = { tmps := #[.string s, .string t, f 2, f 3, f 4, .int .i64 (i : Int), f 6, f 7, f 8, f 9, f 10, f 11, f 12, f 13, f 14, f 15, f 16, f 17, f 18, f 19, f 20, f 21, f 22, f 23, f 24, f 25, f 26, f 27, f 28, f 29, f 30, f 31, f 32, f 33, f 34, f 35, f 36, f 37, f 38, f 39, f 40, f 41, f 42, f 43, f 44, f 45, f 46, f 47, f 48, f 49, f 50, f 51, f 52, f 53, f 54, f 55, f 56, f 57, f 58, f 59, f 60, f 61, f 62, f 63, f 64, f 65, f 66, f 67, f 68, f 69, f 70, f 71, f 72, f 73, f 74, f 75, f 76, f 77, f 78, f 79, f 80, f 81, f 82, f 83, f 84, f 85, f 86, f 87, f 88, f 89, f 90, f 91, f 92, f 93, f 94, f 95, f 96, f 97, f 98, f 99, f 100, f 101, f 102, f 103, f 104, f 105, f 106, f 107, f 108, f 109, f 110, f 111, f 112, f 113, f 114, f 115, f 116, f 117, f 118, f 119, f 120, f 121, f 122], defers := [] }) := by
            intro t0 h1
            exact ⟨rfl, i, fun k => t0.getD k undef, Lib.hid ⟨hlt, by rw [HGX.out]; omega⟩, congrArg (fun x => ({ tmps := x, defers := [] } : Act)) h1⟩
          refine ⟨rfl, hj _ ?_⟩
          exact rfl
      · have hltz : ¬ (i : Int) < 3 := by omega
        obtain rfl : i = 3 := by omega
        have HA : Hid (ans = true) := Lib.hid (by rw [← HANS.out]; exact FPre.yes HS3.out HT3.out HP.out)
        go_wp2
        simp only [Exit.jump]
        go_ret
        exact ⟨by rw [HA.out]; rfl, Below.refl _ _⟩
  · rintro a' w' ⟨rfl, i, f, HI, rfl⟩
    obtain ⟨hiM, hx128⟩ := HI.out
    have his : i < s.size := by rw [HS3.out]; exact hiM
    have hit : i < t.size := by rw [HT3.out]; exact hiM
    have hgx : t.data.toList.getD i 0 = t[i] := by rw [List.getD_eq_getElem?_getD, List.getElem?_eq_getElem (by omega)]; rfl
    rw [hgx] at hx128
    have HA : Hid (ans = false) := Lib.hid (by
      rw [← HANS.out]
      refine FPre.no (i := i) his hit (fun h => ?_)
      obtain ⟨f1, f2, _⟩ := HLF.out i his
      have h3 := (foldB_eq _ _).1 h
      have e1 : (s.data.toList[i]'his).toNat = s[i].toNat := rfl
      have e2 : (t.data.toList[i]'hit).toNat = t[i].toNat := rfl
      rw [e1, e2] at h3
      omega)
    obtain ⟨s1, hs1⟩ : ∃ s1, s.extract i s.size = s1 := ⟨_, rfl⟩
    obtain ⟨t1, ht1⟩ : ∃ t1, t.extract i t.size = t1 := ⟨_, rfl⟩
    have hs1z : s1.size = s.size - i := by rw [← hs1]; simp
    have ht1z : t1.size = t.size - i := by rw [← ht1]; simp
    obtain ⟨n, HN⟩ : ∃ n, Hid (n = s1.size) := ⟨_, Lib.hid rfl⟩
    have hn3 : n ≤ 3 := by rw [HN.out, hs1z, HS3.out]; omega
    have HR1 : Hid (Rest n 0 t1) := Lib.hid (.inl ⟨rfl, by rw [HN.out, hs1z, ht1z, HS3.out, HT3.out], by rw [ht1z]; omega, by
      have : t1[0]'(by rw [ht1z]; omega) = t[i] := by subst ht1; simp [ByteArray.getElem_extract]
      rw [this]; exact hx128⟩)
    have HLF1 : Hid (∀ (j : Nat) (h : j < s1.size), 65 ≤ s1[j].toNat ∧ s1[j].toNat ≤ 122 ∧ (s1[j].toNat ≤ 90 ∨ 97 ≤ s1[j].toNat) ∧ (s1[j].toNat = 83 ∨ (foldTab.getD s1[j].toNat 0 = (other s1[j].toNat : Int) ∧ foldTab.getD (other s1[j].toNat) 0 = (s1[j].toNat : Int)))) := Lib.hid (fun j h => by
      have e : s1[j] = s[i + j]'(by omega) := by subst hs1; simp [ByteArray.getElem_extract]
      rw [e]
      exact HLF.out (i + j) (by omega))
    have hiz : (i : Int) ≤ (s.size : Int) := by omega
    have hiz2 : (i : Int) ≤ (t.size : Int) := by omega
    have HI0 : Hid ((w'.iter s1 0).heap[w'.heap.size]? = some (.stringIter s1 0) ∧ Below w'.heap.size w' (w'.iter s1 0)) := Lib.hid ⟨World.iter_heap _ _ _, (Below.refl _ _).alloc (Nat.le_refl _) _⟩
    clear hgx hx128 HI hs1z ht1z hM hMM HANS
    go_wp2
    go_loopw [1] (fun a wr => ∃ (j : Nat) (tj : ByteArray), a = .string tj ∧ j ≤ n ∧ Hid (Rest n j tj) ∧ tj.size ≤ 3 ∧ Hid (wr.heap[w'.heap.size]? = some (.stringIter s1 j)) ∧ Hid (Below w'.heap.size w' wr)) (fun _ wr => n - wr.iterPos w'.heap.size)
    case atStart => exact ⟨0, t1, rfl, Nat.zero_le _, HR1, by rw [← ht1]; simp; have := HT3.out; omega, Lib.hid HI0.out.1, Lib.hid HI0.out.2⟩
    case round =>
      obtain ⟨j, tj, rfl, hj, HRJ, htj3, HIT, HBW⟩ := hrel
      have hjn := HRJ.out.lt hj
      have hjs : j < s1.size := by rw [← HN.out]; exact hjn
      obtain ⟨f1, f2, f3, f4⟩ := HLF1.out j hjs
      obtain ⟨y, hy⟩ : ∃ y : Nat, s1[j].toNat = y := ⟨_, rfl⟩
      rw [hy] at f1 f2 f3 f4
      have hnx : ∀ ty, (Instr.next (.pointer (some ⟨w'.heap.size, 0, none⟩)) true ty).run Tryd.prog wr = .ok (.tuple #[.bool true, .int .i64 j, .int .i32 (y : Int)]) (wr.iterAt w'.heap.size s1 (j + 1)) := fun ty => by
        have := Lib.run_next_ascii_at (P := Tryd.prog) wr w'.heap.size s1 j ty HIT.out hjs (by rw [hy]; omega)
        rw [hy] at this
        exact this
      obtain ⟨w2, hw2⟩ : ∃ w2, wr.iterAt w'.heap.size s1 (j + 1) = w2 := ⟨_, rfl⟩
      rw [hw2] at hnx
      have HIT2 : Hid (w2.heap[w'.heap.size]? = some (.stringIter s1 (j + 1))) := Lib.hid (by rw [← hw2]; exact Lib.iterAt_heap wr _ s1 j _ HIT.out)
      have HB2 : Hid (Below w'.heap.size w' w2) := Lib.hid (by rw [← hw2]; exact Lib.below_iterAt HBW.out (Nat.le_refl _) s1 _)
      have hlt2 : Hid (w'.heap.size < w2.heap.size) := Lib.hid (Array.getElem?_eq_some_iff.1 HIT2.out).1
      have hpw : wr.iterPos w'.heap.size = j := by unfold World.iterPos; rw [HIT.out]
      have HPW := Lib.hid hpw
      clear hw2 hy hpw
      by_cases h0 : tj.size = 0
      · have k0 : ((tj.size : Int) == 0) = true := by rw [beq_iff_eq]; omega
        clear h0
        go_wp2
        simp only [Exit.jump]
        go_ret
        exact ⟨by rw [HA.out]; rfl, HB2.out⟩
      · have k0 : ((tj.size : Int) == 0) = false := by rw [beq_eq_false_iff_ne]; omega
        have htp : 0 < tj.size := by omega
        obtain ⟨R, hR⟩ : ∃ R, (Utf8.decode tj 0).1 = R := ⟨_, rfl⟩
        obtain ⟨K, hK⟩ : ∃ K, (Utf8.decode tj 0).2 = K := ⟨_, rfl⟩
        have hdg : Lib.decodeGo tj = (R, K) := by unfold Lib.decodeGo; rw [if_neg h0, ← hR, ← hK]
        have hKs : K ≤ tj.size := by
          have := Lib.decodeGo_le_size tj
          rw [hdg] at this; exact this
        have hK1 : 1 ≤ K := by
          rw [← hK]
          by_cases ha : (tj[0]'htp).toNat < 128
          · rw [decode_ascii tj 0 htp ha]; exact Nat.le_refl 1
          · exact (decode_high tj 0 htp (by omega)).2
        have hru := decode_le tj 0
        rw [hR] at hru
        have HK2 : Hid ((128 ≤ R → 2 ≤ K) → Rest n (j + 1) (tj.extract K tj.size)) := Lib.hid (fun h => HRJ.out.next hK1 hKs (by rw [hR]; exact h))
        have H383 : Hid (R = 383 → K = 2) := Lib.hid (fun h => by rw [← hK]; exact decode_383 tj 0 (by rw [hR]; exact h))
        have HCD : Hid (Calls Tryd.prog 54 #[.string tj] w2 fun e w'' => e = .returned (.tuple #[.int .i32 (R : Int), .int .i64 (K : Int)]) ∧ Below w2.heap.size w2 w'') := Lib.hid (by
          have := Tryd.utf8_DecodeRuneInString tj w2 (HW.out.below HB2.out).tabs
          rw [hdg] at this
          exact this)
        have hKz : (K : Int) ≤ (tj.size : Int) := by omega
        obtain ⟨tn, htn⟩ : ∃ tn, tj.extract K tj.size = tn := ⟨_, rfl⟩
        have htn3 : tn.size ≤ 3 := by rw [← htn]; simp; omega
        rw [htn] at HK2
        clear hdg hR hK
        go_wp2_with fail
        refine HCD.out.mono ?_
        rintro e w3 ⟨rfl, hb3⟩
        have HIT3 : Hid (w3.heap[w'.heap.size]? = some (.stringIter s1 (j + 1))) := Lib.hid ((hb3.block _ hlt2.out).trans HIT2.out)
        have HB3 : Hid (Below w'.heap.size w' w3) := Lib.hid (HB2.out.trans (hb3.mono HB2.out.size))
        have HW3 := Lib.hid (HW.out.below HB3.out)
        have HPW3 : Hid (w3.iterPos w'.heap.size = j + 1) := Lib.hid (by unfold World.iterPos; rw [HIT3.out])
        clear hb3
        by_cases hEq : R = y
        · subst hEq
          have q1 : ((R : Int) == (R : Int)) = true := by rw [beq_iff_eq]
          go_wp2
          exact ⟨⟨j + 1, tn, rfl, hjn, Lib.hid (HK2.out (by omega)), htn3, HIT3, HB3⟩, by rw [HPW3.out, HPW.out]; omega⟩
        · have q1 : ((R : Int) == (y : Int)) = false := by rw [beq_eq_false_iff_ne]; omega
          by_cases hlow : R < 128
          · by_cases hsw : R < y
            · have q2 : (R : Int) < (y : Int) := by omega
              have q3 : (y : Int) < 128 := by omega
              by_cases hfit : 65 ≤ R ∧ R ≤ 90 ∧ y = R + 32
              · obtain ⟨g1, g2, rfl⟩ := hfit
                have g1z : (65 : Int) ≤ (R : Int) := by omega
                have g2z : (R : Int) ≤ 90 := by omega
                clear hEq
                go_wp2
                exact ⟨⟨j + 1, tn, rfl, hjn, Lib.hid (HK2.out (by omega)), htn3, HIT3, HB3⟩, by rw [HPW3.out, HPW.out]; omega⟩
              · go_wp2
                all_goals (try simp only [beq_iff_eq, beq_eq_false_iff_ne, ne_eq] at *)
                all_goals first
                  | (exfalso; apply hfit; omega)
                  | (simp only [Exit.jump]
                     go_ret
                     exact ⟨by rw [HA.out]; rfl, HB3.out⟩)
            · have q2 : ¬ (R : Int) < (y : Int) := by omega
              have q3 : (R : Int) < 128 := by omega
              by_cases hfit : 65 ≤ y ∧ y ≤ 90 ∧ R = y + 32
              · obtain ⟨g1, g2, rfl⟩ := hfit
                have g1z : (65 : Int) ≤ (y : Int) := by omega
                have g2z : (y : Int) ≤ 90 := by omega
                clear hEq
                go_wp2
                exact ⟨⟨j + 1, tn, rfl, hjn, Lib.hid (HK2.out (by omega)), htn3, HIT3, HB3⟩, by rw [HPW3.out, HPW.out]; omega⟩
              · go_wp2
                all_goals (try simp only [beq_iff_eq, beq_eq_false_iff_ne, ne_eq] at *)
                all_goals first
                  | (exfalso; apply hfit; omega)
                  | (simp only [Exit.jump]
                     go_ret
                     exact ⟨by rw [HA.out]; rfl, HB3.out⟩)
          · have q2 : ¬ (R : Int) < (y : Int) := by omega
            have q3 : ¬ (R : Int) < 128 := by omega
            by_cases h83 : y = 83
            · subst h83
              clear f4
              go_wp2_with fail
              refine (simpleFold_ascii 83 115 (by decide) (by decide) (by decide) _ HW3.out.fold).mono ?_
              rintro e w4 ⟨rfl, rfl⟩
              go_wp2
              go_loop [13] (fun s13 => ∃ v : Nat, s13 = .int .i32 (v : Int) ∧ (v = 115 ∨ (v = 383 ∧ 115 < R) ∨ (v = 83 ∧ 383 < R))) (fun s13 => if intOf s13 = 115 then 2 else if intOf s13 = 383 then 1 else 0)
              case atStart => exact ⟨115, rfl, .inl rfl⟩
              case round =>
                obtain ⟨v, rfl, hv⟩ := hrel
                rcases hv with rfl | ⟨rfl, hv⟩ | ⟨rfl, hv⟩
                · have q5 : (115 : Int) < (R : Int) := by omega
                  go_wp2_with fail
                  refine (simpleFold_ascii 115 383 (by decide) (by decide) (by decide) _ HW3.out.fold).mono ?_
                  rintro e w4 ⟨rfl, rfl⟩
                  go_wp2
                  go_round
                  case rel => exact ⟨383, rfl, .inr (.inl ⟨rfl, by omega⟩)⟩
                  case measure => simp [intOf]
                · by_cases hR3 : R < 383
                  · have q5 : ¬ (383 : Int) < (R : Int) := by omega
                    have q6 : ((383 : Int) == (R : Int)) = false := by rw [beq_eq_false_iff_ne]; omega
                    go_wp2
                    simp only [Exit.jump]
                    go_ret
                    exact ⟨by rw [HA.out]; rfl, HB3.out⟩
                  · by_cases hR4 : R = 383
                    · subst hR4
                      clear hEq hlow hR3 hv
                      go_wp2
                      exact ⟨⟨j + 1, tn, rfl, hjn, Lib.hid (HK2.out (fun _ => by have := H383.out rfl; omega)), htn3, HIT3, HB3⟩, by rw [HPW3.out, HPW.out]; omega⟩
                    · have q5 : (383 : Int) < (R : Int) := by omega
                      go_wp2_with fail
                      refine (simpleFold_383 _ HW3.out.orb).mono ?_
                      rintro e w4 ⟨rfl, rfl⟩
                      go_wp2
                      go_round
                      case rel => exact ⟨83, rfl, .inr (.inr ⟨rfl, by omega⟩)⟩
                      case measure => simp [intOf]
                · have q6 : ((83 : Int) == (R : Int)) = false := by rw [beq_eq_false_iff_ne]; omega
                  go_wp2
                  simp only [Exit.jump]
                  go_ret
                  exact ⟨by rw [HA.out]; rfl, HB3.out⟩
            · rcases f4 with f4 | ⟨f4, f5⟩
              · exact absurd f4 h83
              obtain ⟨z, Hz⟩ : ∃ z, Hid (z = other y) := ⟨_, Lib.hid rfl⟩
              rw [← Hz.out] at f4 f5
              have hz : z < 128 ∧ z ≠ y := by rw [Hz.out]; unfold other; split <;> omega
              obtain ⟨hz1, hz2⟩ := hz
              have HF4 := Lib.hid f4
              have HF5 := Lib.hid f5
              clear f4 f5
              go_wp2_with fail
              refine (simpleFold_ascii y z (by omega) HF4.out (by omega) _ HW3.out.fold).mono ?_
              rintro e w4 ⟨rfl, rfl⟩
              have q4 : ((z : Int) != (y : Int)) = true := by rw [bne_iff_ne]; omega
              have q5 : (z : Int) < (R : Int) := by omega
              have q6 : ((y : Int) != (y : Int)) = false := by simp
              have q7 : ((y : Int) == (R : Int)) = false := by rw [beq_eq_false_iff_ne]; omega
              go_wp2
              go_loop [13] (fun s13 => ∃ v : Nat, s13 = .int .i32 (v : Int) ∧ Hid (v = z ∨ v = y)) (fun s13 => if intOf s13 = (z : Int) then 1 else 0)
              case atStart => exact ⟨z, rfl, Lib.hid (.inl rfl)⟩
              case round =>
                obtain ⟨v, rfl, HV⟩ := hrel
                rcases HV.out with hv | hv
                · subst hv
                  clear HV
                  go_wp2_with fail
                  refine (simpleFold_ascii v y (by omega) HF5.out (by omega) _ HW3.out.fold).mono ?_
                  rintro e w4 ⟨rfl, rfl⟩
                  go_wp2
                  go_round
                  case rel => exact ⟨y, rfl, Lib.hid (.inr rfl)⟩
                  case measure =>
                    have hne : ¬ (y : Int) = (v : Int) := by omega
                    simp [intOf, hne]
                · subst hv
                  clear HV
                  go_wp2
                  simp only [Exit.jump]
                  go_ret
                  exact ⟨by rw [HA.out]; rfl, HB3.out⟩
end Go.Proofs.YtgkibkophoikoaaDoor
