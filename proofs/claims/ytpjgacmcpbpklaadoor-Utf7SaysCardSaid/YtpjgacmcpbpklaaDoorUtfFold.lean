/- unicode.SimpleFold at an ASCII letter; strings.EqualFold with INBOX. -/
import Derived.Test.YtpjgacmcpbpklaaDoorUtfU
import Derived.Test.YtpjgacmcpbpklaaDoorShelf
import Derived.WalkMore
import Derived.ScopeJumps
import Derived.Laws.RangeAny
import Derived.WalkSpells
namespace Go.Proofs.YtpjgacmcpbpklaaDoor
open Go.RowKit
set_option linter.unusedVariables false

def foldTab : List Int := [0, 1, 2, 3, 4, 5, 6, 7, 8, 9, 10, 11, 12, 13, 14, 15, 16, 17, 18, 19, 20, 21, 22, 23, 24, 25, 26, 27, 28, 29, 30, 31, 32, 33, 34, 35, 36, 37, 38, 39, 40, 41, 42, 43, 44, 45, 46, 47, 48, 49, 50, 51, 52, 53, 54, 55, 56, 57, 58, 59, 60, 61, 62, 63, 64, 97, 98, 99, 100, 101, 102, 103, 104, 105, 106, 107, 108, 109, 110, 111, 112, 113, 114, 115, 116, 117, 118, 119, 120, 121, 122, 91, 92, 93, 94, 95, 96, 65, 66, 67, 68, 69, 70, 71, 72, 73, 74, 8490, 76, 77, 78, 79, 80, 81, 82, 383, 84, 85, 86, 87, 88, 89, 90, 123, 124, 125, 126, 127]
/-- unicode.asciiFold's cells. -/
def AFold (w : World) : Prop := ∀ i, i < 128 → w.cell? ⟨3, i, none⟩ = some (.int .u16 (foldTab.getD i 0))
theorem AFold.below {w w' : World} (h : AFold w) (hb : Below w.heap.size w w') : AFold w' := fun i hi => (hb.cell (p := ⟨3, i, none⟩) (World.block_lt_of_cell? w _ (h i hi))).trans (h i hi)

set_option maxHeartbeats 800000 in
set_option maxRecDepth 100000 in
theorem simpleFold_ascii (r q : Nat) (hr : r < 128) (hq : foldTab.getD r 0 = (q : Int)) (hq2 : q < 65536) (w : World) (hT : AFold w) :
    Calls Tryd.prog 48 #[.int .i32 (r : Int)] w fun e w' => e = .returned (.int .i32 (q : Int)) ∧ w = w' := by
  have hc := hT r hr
  rw [hq] at hc
  have h0 : ¬ (r : Int) < 0 := by omega
  have h1 : ¬ 1114111 < (r : Int) := by omega
  have h2 : (r : Int) < 128 := by omega
  have h3 : r ≤ 127 := by omega
  clear hT hq
  go_enter Tryd.func48, Tryd.ntmps48
  go_wp2
  go_ret
  exact ⟨rfl, rfl⟩

def inU : List UInt8 := [73, 78, 66, 79, 88]
def inL : List UInt8 := [105, 110, 98, 111, 120]
theorem in_at : ∀ q : Fin 5, (⟨#[73, 78, 66, 79, 88]⟩ : ByteArray)[q.val]'(by have := q.isLt; show q.val < 5; exact this) = inU.getD q.val 0 := by decide
theorem in_facts : ∀ q : Fin 5, 65 ≤ (inU.getD q.val 0).toNat ∧ (inU.getD q.val 0).toNat ≤ 90 ∧ (inL.getD q.val 0).toNat = (inU.getD q.val 0).toNat + 32 ∧ foldTab.getD (inU.getD q.val 0).toNat 0 = ((inL.getD q.val 0).toNat : Int) ∧ foldTab.getD (inL.getD q.val 0).toNat 0 = ((inU.getD q.val 0).toNat : Int) := by decide
/-- The first i letters fit. -/
def Pre (l : List UInt8) (i : Nat) : Prop := (l.take i).map U7.foldB = inL.take i
theorem Pre.next {l : List UInt8} {i : Nat} (h : Pre l i) (hi : i < l.length) (h5 : i < 5) (hf : U7.foldB l[i] = inL.getD i 0) : Pre l (i + 1) := by
  unfold Pre at h ⊢
  have h6 : i < inL.length := h5
  rw [List.take_succ_eq_append_getElem hi, List.map_append, h, List.map_cons, List.map_nil, hf, List.take_succ_eq_append_getElem h6]
  simp [List.getD_eq_getElem?_getD, List.getElem?_eq_getElem h6]
theorem Pre.no {l : List UInt8} {i : Nat} (hi : i < l.length) (h5 : i < 5) (hf : U7.foldB l[i] ≠ inL.getD i 0) : U7.isInbox l = false := by
  rw [← Bool.not_eq_true]
  intro h
  unfold U7.isInbox at h
  have e := beq_iff_eq.1 h
  apply hf
  have h2 : (l.map U7.foldB)[i]? = inL[i]? := by rw [e]; rfl
  rw [List.getElem?_map, List.getElem?_eq_getElem hi] at h2
  rw [List.getD_eq_getElem?_getD, ← h2]; rfl
theorem Pre.yes {l : List UInt8} (h : Pre l 5) (h5 : l.length = 5) : U7.isInbox l = true := by
  unfold Pre at h
  rw [List.take_of_length_le (by omega)] at h
  unfold U7.isInbox
  rw [h]; rfl
theorem Pre.short {l : List UInt8} (h : l.length ≠ 5) : U7.isInbox l = false := by
  rw [← Bool.not_eq_true]
  exact fun h' => h (U7.inbox_len l h')
theorem fold_iff (x y z : UInt8) (hy : 65 ≤ y.toNat ∧ y.toNat ≤ 90) (hz : z.toNat = y.toNat + 32) : U7.foldB x = z ↔ x.toNat = y.toNat ∨ x.toNat = y.toNat + 32 := by
  have h32 : (32 : UInt8).toNat = 32 := rfl
  have hx := x.toNat_lt
  unfold U7.foldB
  split
  · rename_i h
    have e : (x + 32).toNat = x.toNat + 32 := by rw [UInt8.toNat_add]; omega
    constructor
    · intro h; rw [← h, e] at hz; omega
    · intro h; apply UInt8.toNat_inj.1; omega
  · constructor
    · intro h; subst h; omega
    · intro h; apply UInt8.toNat_inj.1; omega

set_option maxHeartbeats 3200000 in
set_option maxRecDepth 100000 in
theorem equalFold_inbox (s : ByteArray) (w : World) (hs : s.size ≤ 4000000000) (hT : AFold w) :
    Calls Tryd.prog 39 #[.string s, .string ⟨#[73, 78, 66, 79, 88]⟩] w fun e w' => e = .returned (.bool (U7.isInbox s.data.toList)) ∧ Below w.heap.size w w' := by
  have hlen : s.data.toList.length = s.size := rfl
  have h5z : (⟨#[73, 78, 66, 79, 88]⟩ : ByteArray).size = 5 := rfl
  obtain ⟨M, hM⟩ : ∃ M : Nat, min (s.size : Int) 5 = (M : Int) := ⟨min s.size 5, by omega⟩
  have hM1 : M ≤ 5 := by omega
  have hM2 : M ≤ s.size := by omega
  have hM3 : M = 5 ∨ M = s.size := by omega
  have HT := Lib.hid hT
  obtain ⟨ans, hans⟩ : ∃ ans, U7.isInbox s.data.toList = ans := ⟨_, rfl⟩
  have HANS := Lib.hid hans
  rw [hans]
  clear hT hans
  go_enter Tryd.func39, Tryd.ntmps39
  go_wp2
  refine wp_scope_jumps 0 (fun a' w' => w' = w ∧ ∃ (i : Nat) (f : Nat → Value), Hid (i < M ∧ 128 ≤ (s.data.toList.getD i 0).toNat) ∧ a' = { tmps := #[.string s, .string ⟨#[73, 78, 66, 79, 88]⟩, f 2, f 3, f 4, .int .i64 (i : Int), f 6, f 7, f 8, f 9, f 10, f 11, f 12, f 13, f 14, f 15, f 16, f 17, f 18, f 19, f 20, f 21, f 22, f 23, f 24, f 25, f 26, f 27, f 28, f 29, f 30, f 31, f 32, f 33, f 34, f 35, f 36, f 37, f 38, f 39, f 40, f 41, f 42, f 43, f 44, f 45, f 46, f 47, f 48, f 49, f 50, f 51, f 52, f 53, f 54, f 55, f 56, f 57, f 58, f 59, f 60, f 61, f 62, f 63, f 64, f 65, f 66, f 67, f 68, f 69, f 70, f 71, f 72, f 73, f 74, f 75, f 76, f 77, f 78, f 79, f 80, f 81, f 82, f 83, f 84, f 85, f 86, f 87, f 88, f 89, f 90, f 91, f 92, f 93, f 94, f 95, f 96, f 97, f 98, f 99, f 100, f 101, f 102, f 103, f 104, f 105, f 106, f 107, f 108, f 109, f 110, f 111, f 112, f 113, f 114, f 115, f 116, f 117, f 118, f 119, f 120, f 121, f 122], defers := [] }) (fun _ _ => 0) rfl ?_ ?_
  · go_wp2
    go_loop [5] (fun s5 => ∃ i : Nat, i ≤ M ∧ s5 = .int .i64 i ∧ Hid (Pre s.data.toList i)) (fun s5 => M - (intOf s5).toNat)
    case atStart => exact ⟨0, Nat.zero_le _, rfl, Lib.hid rfl⟩
    case round =>
      obtain ⟨i, hi, rfl, HP⟩ := hrel
      by_cases hlt : i < M
      · have hltz : (i : Int) < (M : Int) := by omega
        have his : i < s.size := by omega
        have hi5 : i < 5 := by omega
        obtain ⟨x, hx⟩ : ∃ x : UInt8, s[i] = x := ⟨_, rfl⟩
        obtain ⟨y, hy⟩ : ∃ y : UInt8, inU.getD i 0 = y := ⟨_, rfl⟩
        obtain ⟨z, hz⟩ : ∃ z : UInt8, inL.getD i 0 = z := ⟨_, rfl⟩
        have cy := (in_at ⟨i, hi5⟩).trans hy
        obtain ⟨f1, f2, f3, _, _⟩ := in_facts ⟨i, hi5⟩
        rw [hy] at f1 f2 f3
        rw [hz] at f3
        have hfi := fold_iff x y z ⟨f1, f2⟩ f3
        have hxl : s.data.toList[i]'his = x := hx
        have hno : U7.foldB x ≠ z → ans = false := fun h => by
          rw [← HANS.out]
          exact Pre.no his hi5 (by rw [hxl, hz]; exact h)
        have hyes : U7.foldB x = z → Pre s.data.toList (i + 1) := fun h => HP.out.next his hi5 (by rw [hxl, hz]; exact h)
        have hgx : (s.data.toList.getD i 0) = x := by rw [List.getD_eq_getElem?_getD, List.getElem?_eq_getElem (by omega)]; exact hx
        have HGX := Lib.hid hgx
        have HNO := Lib.hid hno
        have HYES := Lib.hid hyes
        have HFI := Lib.hid hfi
        have hx256 := x.toNat_lt
        have hor : bits .or .u8 (x.toNat : Int) (y.toNat : Int) = ((x.toNat ||| y.toNat : Nat) : Int) := u8_or_nat _ _ (by omega) (by omega)
        obtain ⟨o, ho⟩ : ∃ o, x.toNat ||| y.toNat = o := ⟨_, rfl⟩
        rw [ho] at hor
        have ho1 : x.toNat < 128 → o < 128 := fun h => by rw [← ho]; exact Nat.or_lt_two_pow (n := 7) h (by omega)
        have ho2 : 128 ≤ x.toNat → 128 ≤ o := fun h => by rw [← ho]; exact Nat.le_trans h Nat.left_le_or
        clear hxl hno hyes hfi hgx ho hz
        by_cases h128 : x.toNat < 128
        · have k1 : ¬ (128 : Int) ≤ (o : Int) := by have := ho1 h128; omega
          clear ho1 ho2 hy
          have f1' : (65 : Int) ≤ (y.toNat : Int) := by omega
          have f2' : (y.toNat : Int) ≤ 90 := by omega
          go_wp2
          all_goals (try simp only [beq_iff_eq, beq_eq_false_iff_ne, ne_eq] at *)
          all_goals first
            | (go_round
               case rel => exact ⟨i + 1, by omega, by go_num, Lib.hid (HYES.out (HFI.out.2 (by omega)))⟩
               case measure => simp [intOf]; omega)
            | (simp only [Exit.jump]
               go_ret
               refine ⟨?_, Below.refl _ _⟩
               rw [HNO.out (fun h => by have := HFI.out.1 h; omega)]
               rfl)
        · have k1 : (128 : Int) ≤ (o : Int) := by have := ho2 (by omega); omega
          clear ho1 ho2 hy
          go_wp2
          go_step3
          have hj : ∀ (t : Array Value), t = #[.string s, .string ⟨#[73, 78, 66, 79, 88]⟩, t.getD 2 undef, t.getD 3 undef, t.getD 4 undef, .int .i64 (i : Int), t.getD 6 undef, t.getD 7 undef, t.getD 8 undef, t.getD 9 undef, t.getD 10 undef, t.getD 11 undef, t.getD 12 undef, t.getD 13 undef, t.getD 14 undef, t.getD 15 undef, t.getD 16 undef, t.getD 17 undef, t.getD 18 undef, t.getD 19 undef, t.getD 20 undef, t.getD 21 undef, t.getD 22 undef, t.getD 23 undef, t.getD 24 undef, t.getD 25 undef, t.getD 26 undef, t.getD 27 undef, t.getD 28 undef, t.getD 29 undef, t.getD 30 undef, t.getD 31 undef, t.getD 32 undef, t.getD 33 undef, t.getD 34 undef, t.getD 35 undef, t.getD 36 undef, t.getD 37 undef, t.getD 38 undef, t.getD 39 undef, t.getD 40 undef, t.getD 41 undef, t.getD 42 undef, t.getD 43 undef, t.getD 44 undef, t.getD 45 undef, t.getD 46 undef, t.getD 47 undef, t.getD 48 undef, t.getD 49 undef, t.getD 50 undef, t.getD 51 undef, t.getD 52 undef, t.getD 53 undef, t.getD 54 undef, t.getD 55 undef, t.getD 56 undef, t.getD 57 undef, t.getD 58 undef, t.getD 59 undef, t.getD 60 undef, t.getD 61 undef, t.getD 62 undef, t.getD 63 undef, t.getD 64 undef, t.getD 65 undef, t.getD 66 undef, t.getD 67 undef, t.getD 68 undef, t.getD 69 undef, t.getD 70 undef, t.getD 71 undef, t.getD 72 undef, t.getD 73 undef, t.getD 74 undef, t.getD 75 undef, t.getD 76 undef, t.getD 77 undef, t.getD 78 undef, t.getD 79 undef, t.getD 80 undef, t.getD 81 undef, t.getD 82 undef, t.getD 83 undef, t.getD 84 undef, t.getD 85 undef, t.getD 86 undef, t.getD 87 undef, t.getD 88 undef, t.getD 89 undef, t.getD 90 undef, t.getD 91 undef, t.getD 92 undef, t.getD 93 undef, t.getD 94 undef, t.getD 95 undef, t.getD 96 undef, t.getD 97 undef, t.getD 98 undef, t.getD 99 undef, t.getD 100 undef, t.getD 101 undef, t.getD 102 undef, t.getD 103 undef, t.getD 104 undef, t.getD 105 undef, t.getD 106 undef, t.getD 107 undef, t.getD 108 undef, t.getD 109 undef, t.getD 110 undef, t.getD 111 undef, t.getD 112 undef, t.getD 113 undef, t.getD 114 undef, t.getD 115 undef, t.getD 116 undef, t.getD 117 undef, t.getD 118 undef, t.getD 119 undef, t.getD 120 undef, t.getD 121 undef, t.getD 122 undef] → (w = w ∧ ∃ (i : Nat) (f : Nat → Value), Hid (i < M ∧ 128 ≤ (s.data.toList.getD i 0).toNat) ∧ ({ tmps := t, defers := [] } : Act) = { tmps := #[.string s, .string ⟨#[73, 78, 66, 79, 88]⟩, f 2, f 3, f 4, .int .i64 (i : Int), f 6, f 7, f 8, f 9, f 10, f 11, f 12, f 13, f 14, f 15, f 16, f 17, f 18, f 19, f 20, f 21, f 22, f 23, f 24, f 25, f 26, f 27, f 28, f 29, f 30, f 31, f 32, f 33, f 34, f 35, f 36, f 37, f 38, f 39, f 40, f 41, f 42, f 43, f 44, f 45, f 46, f 47, f 48, f 49, f 50, f 51, f 52, f 53, f 54, f 55, f 56, f 57, f 58, f 59, f 60, f 61, f 62, f 63, f 64, f 65, f 66, f 67, f 68, f 69, f 70, f 71, f 72, f 73, f 74, f 75, f 76, f 77, f 78, f 79, f 80, f 81, f 82, f 83, f 84, f 85, f 86, f 87, f 88, f 89, f 90, f 91, f 92, f 93, f 94, f 95, f 96, f 97, f 98, f 99, f 100, f 101, f 102, f 103, f 104, f 105, f 106, f 107, f 108, f 109, f 110, f 111, f 112, f 113, f 114, f 115, f 116, f 117, f 118, f 119, f 120, f 121, f 122], defers := [] }) := by
            intro t h1
            exact ⟨rfl, i, fun k => t.getD k undef, Lib.hid ⟨hlt, by rw [HGX.out]; omega⟩, congrArg (fun x => ({ tmps := x, defers := [] } : Act)) h1⟩
          refine ⟨rfl, hj _ ?_⟩
          exact rfl
      · have hltz : ¬ (i : Int) < (M : Int) := by omega
        obtain rfl : i = M := by omega
        by_cases h5 : s.size = 5
        · have hb : ((s.size : Int) == 5) = true := by rw [beq_iff_eq]; omega
          obtain rfl : i = 5 := by omega
          have ha : ans = true := by rw [← HANS.out]; exact HP.out.yes (by rw [hlen]; exact h5)
          have HA := Lib.hid ha
          clear ha
          go_wp2
          simp only [Exit.jump]
          go_ret
          exact ⟨by rw [HA.out]; rfl, Below.refl _ _⟩
        · have hb : ((s.size : Int) == 5) = false := by rw [beq_eq_false_iff_ne]; omega
          have ha : ans = false := by rw [← HANS.out]; exact Pre.short (by rw [hlen]; exact h5)
          have HA := Lib.hid ha
          clear ha
          go_wp2
          simp only [Exit.jump]
          go_ret
          exact ⟨by rw [HA.out]; rfl, Below.refl _ _⟩
  · rintro a' w' ⟨rfl, i, f, HI, rfl⟩
    obtain ⟨hiM, hx128⟩ := HI.out
    have his : i < s.size := by omega
    have hi5 : i < 5 := by omega
    obtain ⟨y, hy⟩ : ∃ y : UInt8, inU.getD i 0 = y := ⟨_, rfl⟩
    obtain ⟨z, hz⟩ : ∃ z : UInt8, inL.getD i 0 = z := ⟨_, rfl⟩
    obtain ⟨f1, f2, f3, f4, f5⟩ := in_facts ⟨i, hi5⟩
    rw [hy] at f1 f2 f3 f4 f5
    rw [hz] at f3 f4 f5
    have hgx : s.data.toList.getD i 0 = s[i] := by rw [List.getD_eq_getElem?_getD, List.getElem?_eq_getElem (by omega)]; rfl
    rw [hgx] at hx128
    have ha : ans = false := by
      rw [← HANS.out]
      refine Pre.no (i := i) his hi5 ?_
      rw [hz]
      have hfi := fold_iff (s[i]) y z ⟨f1, f2⟩ f3
      intro h
      have := hfi.1 h
      omega
    have HA := Lib.hid ha
    obtain ⟨s1, hs1⟩ : ∃ s1, s.extract i s.size = s1 := ⟨_, rfl⟩
    obtain ⟨t1, ht1⟩ : ∃ t1, (⟨#[73, 78, 66, 79, 88]⟩ : ByteArray).extract i 5 = t1 := ⟨_, rfl⟩
    have hs1z : s1.size = s.size - i := by rw [← hs1]; simp
    have ht1z : t1.size = 5 - i := by rw [← ht1]; simp [h5z]
    have ht1d : t1.data.toList[0]? = some y := by
      rw [← ht1, ← hy]
      have := hi5
      match i, hi5 with
      | 0, _ => rfl
      | 1, _ => rfl
      | 2, _ => rfl
      | 3, _ => rfl
      | 4, _ => rfl
    have hs1p : 0 < s1.size := by omega
    have hdec : 128 ≤ (Utf8.decode s1 0).1 := by
      refine (decode_high s1 0 hs1p ?_).1
      have : s1[0]'hs1p = s[i] := by subst hs1; simp [ByteArray.getElem_extract]
      rw [this]; exact hx128
    have hru := Lib.decodeL_rune s1.data.toList
    have hdl := Lib.decodeL_drop s1 0
    rw [List.drop_zero] at hdl
    rw [hdl] at hru
    have hnx := fun ty => run_next_any (P := Tryd.prog) w' s1 0 ty hs1p
    obtain ⟨R, hR⟩ : ∃ R, (Utf8.decode s1 0).1 = R := ⟨_, rfl⟩
    obtain ⟨K, hK⟩ : ∃ K, (Utf8.decode s1 0).2 = K := ⟨_, rfl⟩
    rw [hR] at hru hdec
    rw [hR, hK] at hnx
    obtain ⟨W2, hW2⟩ : ∃ W2, w'.iter s1 (0 + K) = W2 := ⟨_, rfl⟩
    rw [hW2] at hnx
    have hbel : Below w'.heap.size w' W2 := by rw [← hW2]; exact (Below.refl _ _).alloc (Nat.le_refl _) _
    have HBEL := Lib.hid hbel
    have hT2 := HT.out.below hbel
    have HT2 := Lib.hid hT2
    have HCD := Lib.hid (Tryd.utf8_DecodeRuneInString_ascii t1 y W2 ht1d (by omega))
    have HF4 := Lib.hid f4
    have HF5 := Lib.hid f5
    have hzz : z.toNat < 128 := by omega
    have hyy : y.toNat < 128 := by omega
    have F3 := Lib.hid f3
    have hz256 : z.toNat < 65536 := by omega
    have hyz : ¬ (y.toNat : Int) = (z.toNat : Int) := by omega
    have q1 : ((z.toNat : Int) != (y.toNat : Int)) = true := by rw [bne_iff_ne]; omega
    clear f3
    clear ha hgx hx128 hs1p hdl hR hK hW2 hbel hT2 ht1d hy hz f4 f5 HI
    go_wp2
    go_loopw [1] (fun a wr => a = .string t1 ∧ wr = w'.iter s1 0) (fun _ _ => 0)
    case atStart => exact ⟨rfl, rfl⟩
    case round =>
      obtain ⟨rfl, rfl⟩ := hrel
      have k0 : ((t1.size : Int) == 0) = false := by rw [beq_eq_false_iff_ne]; omega
      have k1 : ((y.toNat : Int) == (R : Int)) = false := by rw [beq_eq_false_iff_ne]; omega
      have k2 : (y.toNat : Int) < (R : Int) := by omega
      have k3 : ¬ (R : Int) < 128 := by omega
      clear hdec
      go_wp2_with fail
      refine HCD.out.mono ?_
      rintro e w3 ⟨rfl, rfl⟩
      go_wp2_with fail
      refine (simpleFold_ascii y.toNat z.toNat hyy HF4.out hz256 _ HT2.out).mono ?_
      rintro e w4 ⟨rfl, rfl⟩
      have q2 : (z.toNat : Int) < (R : Int) := by omega
      have q3 : ((y.toNat : Int) != (y.toNat : Int)) = false := by simp
      have q4 : ((y.toNat : Int) == (R : Int)) = false := by rw [beq_eq_false_iff_ne]; omega
      clear hnx HCD
      go_wp2
      go_loop [13] (fun s13 => ∃ v : Nat, s13 = .int .i32 (v : Int) ∧ Hid (v = z.toNat ∨ v = y.toNat)) (fun s13 => if intOf s13 = (z.toNat : Int) then 1 else 0)
      case atStart => exact ⟨z.toNat, rfl, Lib.hid (.inl rfl)⟩
      case round =>
        obtain ⟨v, rfl, HV⟩ := hrel
        rcases HV.out with hv | hv
        · subst hv
          clear HV
          go_wp2_with fail
          refine (simpleFold_ascii z.toNat y.toNat hzz HF5.out (by omega) _ HT2.out).mono ?_
          rintro e w4 ⟨rfl, rfl⟩
          go_wp2
          go_round
          case rel => exact ⟨y.toNat, rfl, Lib.hid (.inr rfl)⟩
          case measure =>
            simp [intOf, hyz]
        · subst hv
          clear HV
          go_wp2
          simp only [Exit.jump]
          go_ret
          exact ⟨by rw [HA.out]; rfl, HBEL.out⟩
end Go.Proofs.YtpjgacmcpbpklaaDoor
