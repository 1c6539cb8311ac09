/- The reference's units. -/
import Derived.Test.YtpjgacmcpbpklaaDoorUtfREn
namespace Go.Proofs.YtpjgacmcpbpklaaDoor
open Go.RowKit
set_option linter.unusedVariables false

theorem alpha_at : ∀ q : Fin 64, (⟨U7.alpha.toArray⟩ : ByteArray)[q.val]'(by have := q.isLt; show q.val < 64; exact this) = U7.letter q.val := by decide
theorem isL_take (x : UInt8) (h : ∀ q, q < 64 → U7.letter q ≠ x) : U7.isL x = false := by
  unfold U7.isL
  rw [← Bool.not_eq_true, List.contains_iff_mem]
  intro hm
  obtain ⟨i, hi, e⟩ := List.getElem_of_mem hm
  have hi' : i < 64 := hi
  refine h i hi' ?_
  unfold U7.letter
  rw [List.getD_eq_getElem?_getD, List.getElem?_eq_getElem hi]
  exact e
theorem letter_inj (a b : Nat) (ha : a < 64) (hb : b < 64) (h : U7.letter a = U7.letter b) : a = b := by
  have h1 := (U7.letter_facts ⟨a, ha⟩).1
  have h2 := (U7.letter_facts ⟨b, hb⟩).1
  rw [h] at h1
  exact h1.symm.trans h2

/-- What units hands back. -/
def UnitsEnd (l : List UInt8) (w : World) (e : Ending) (w' : World) : Prop :=
  (l.all U7.isL = false ∧ e = .returned (.tuple #[.slice none 0 0, .bool false]) ∧ Below w.heap.size w w') ∨
  (l.all U7.isL = true ∧ ∃ A c U, Hid (U = U7.unp 0 0 (l.map U7.sx)) ∧ e = .returned (.tuple #[.slice A U.length c, .bool true]) ∧ IRow w' (.slice A U.length c) U ∧ (∀ k, k ∈ blk (.slice A U.length c) → w.heap.size ≤ k) ∧ Below w.heap.size w w')

/-- A row of ints under way. -/
structure IWay (w : World) (v : Value) (us : List Nat) (wr : World) : Prop where
  row : IRow wr v us
  far : ∀ k, k ∈ blk v → w.heap.size ≤ k
  below : Below w.heap.size w wr
theorem IWay.drewN {w wr : World} {v : Value} {us : List Nat} (h : IWay w v us wr) (q : Nat) : IWay w v us (wr.drewN q) := ⟨h.row, h.far, below_drewN h.below q⟩
theorem IWay.lit {w wr : World} {v : Value} {us : List Nat} (h : IWay w v us wr) (x : Nat) (hl : us.length ≤ 1000000000) :
    ∃ A' c' U W', Hid (U = us ++ [x]) ∧ (Builtin.append_ #[40, 40] 40 #[v, .slice (some ⟨wr.heap.size, 0, none⟩) 1 1]).run Tryd.prog (wr.alloc (.cells #[.int .i64 (x : Int)] 3)) = .ok (.slice A' U.length c') W' ∧ Hid (IWay w (.slice A' U.length c') U W') := by
  obtain ⟨v', w', hr, h2, h3, h4⟩ := vrow_lit (P := Tryd.prog) wr 40 40 3 (.int .i64 0) 8 Tryd.infoInt Tryd.underlying40 rfl v (iv us) h.row (iv [x]) (iv_one [x]) (by simp [iv]) (by rw [iv_length, iv_length]; simp; omega) (by decide) 1 1 rfl
  rw [← iv_append] at h2
  obtain ⟨A', c', rfl, _, _⟩ := IRow.shape h2
  exact ⟨A', c', _, w', Lib.hid rfl, hr, Lib.hid ⟨h2, Ranging.grow h.far h.below.size h4, h.below.trans (h3.below h.below.size h.far)⟩⟩

set_option maxHeartbeats 3200000 in
set_option maxRecDepth 100000 in
theorem runits_any (s : ByteArray) (w : World) (hs : s.size ≤ 1000000) :
    Calls Tryd.prog 31 #[.string s] w (UnitsEnd s.data.toList w) := by
  have hlen : s.data.toList.length = s.size := rfl
  obtain ⟨al, hal⟩ : ∃ al : ByteArray, (⟨U7.alpha.toArray⟩ : ByteArray) = al := ⟨_, rfl⟩
  have haz : al.size = 64 := by rw [← hal]; rfl
  have hat : ∀ q (hq : q < 64), al[q]'(by omega) = U7.letter q := fun q hq => by subst hal; exact alpha_at ⟨q, hq⟩
  have HAT := Lib.hid hat
  have hlet := fun W => letters_any W
  rw [hal] at hlet
  have HLET := Lib.hid hlet
  clear hat hlet hal
  go_enter Tryd.func31, Tryd.ntmps31
  go_wp2_with (go_at_call 40; refine (HLET.out _).mono ?_; rintro e w1 ⟨rfl, rfl⟩)
  go_loopw [4, 5, 6, 8] (fun s4 s5 s6 i wr => ∃ (k : Nat) (A : Option Addr) (c : Nat) (U : List Nat) (B n : Nat), k ≤ s.size ∧ i = .int .i64 k ∧ s4 = .slice A U.length c ∧ s5 = .int .i64 (B : Int) ∧ s6 = .int .i64 (n : Int) ∧ n < 16 ∧ B < 16777216 ∧
      Hid (IWay w (.slice A U.length c) U wr) ∧ Hid (U.length ≤ k) ∧ Hid ((s.data.toList.take k).all U7.isL = true) ∧ Hid (U ++ U7.unp (B % 2 ^ n) n ((s.data.toList.drop k).map U7.sx) = U7.unp 0 0 (s.data.toList.map U7.sx)))
    (fun _ _ _ i _ => s.size - (intOf i).toNat)
  case atStart =>
    exact ⟨0, none, 0, [], 0, 0, Nat.zero_le _, rfl, rfl, rfl, rfl, by omega, by omega, Lib.hid ⟨VRow.nil _ _, fun _ h => (by cases h), Below.refl _ _⟩, Lib.hid (Nat.zero_le _), Lib.hid rfl, Lib.hid rfl⟩
  case round =>
    obtain ⟨k, A, c, U, B, n, hk, rfl, rfl, rfl, rfl, hn, hB, HW, HLen, HAll, HInv⟩ := hrel
    by_cases hlt : k < s.size
    · have hlt' : k < s.data.toList.length := by omega
      have hd : s.data.toList.drop k = s[k] :: s.data.toList.drop (k + 1) := List.drop_eq_getElem_cons (by rw [hlen]; exact hlt)
      obtain ⟨x, hx⟩ : ∃ x : UInt8, s[k] = x := ⟨_, rfl⟩
      have hxl : s.data.toList[k] = x := hx
      rw [hx] at hd
      have HD := Lib.hid hd
      have HXL := Lib.hid hxl
      clear hd hxl
      go_wp2
      go_loopw [9, 10] (fun s9 s10 wr2 => ∃ (z : Int) (j : Nat), s9 = .int .i64 z ∧ s10 = .int .i64 (j : Int) ∧ j ≤ 64 ∧ Hid (IWay w (.slice A U.length c) U wr2) ∧ Hid ((z = -1 ∧ ∀ q, q < j → U7.letter q ≠ x) ∨ (∃ q : Nat, z = (q : Int) ∧ q < 64 ∧ U7.letter q = x))) (fun _ s10 _ => 64 - (intOf s10).toNat)
      case atStart => exact ⟨-1, 0, rfl, rfl, by omega, HW, Lib.hid (.inl ⟨rfl, fun q h => by omega⟩)⟩
      case round =>
        clear HW
        obtain ⟨z, j, rfl, rfl, hj, HW, HZ⟩ := hrel
        by_cases hjl : j < 64
        · have hjz : (j : Int) < 64 := by omega
          obtain ⟨y, hy⟩ : ∃ y : UInt8, al[j]'(by omega) = y := ⟨_, rfl⟩
          have hyl : U7.letter j = y := (HAT.out j hjl).symm.trans hy
          have HYL := Lib.hid hyl
          clear hyl
          by_cases hyx : y = x
          · have kyx : ((y.toNat : Int) == (x.toNat : Int)) = true := by rw [hyx]; simp
            have HYX := Lib.hid hyx
            clear hyx
            go_wp2
            go_quiet (fail)
            go_wp2
            go_roundw
            case rel => exact ⟨(j : Int), j + 1, rfl, by go_num, by omega, Lib.hid (HW.out.drewN _), Lib.hid (.inr ⟨j, rfl, hjl, by rw [HYL.out, HYX.out]⟩)⟩
            case measure => simp [intOf]; omega
          · have kyx : ((y.toNat : Int) == (x.toNat : Int)) = false := by
              rw [beq_eq_false_iff_ne]; intro h; apply hyx; apply UInt8.toNat_inj.1; omega
            have HYX := Lib.hid hyx
            clear hyx
            go_wp2
            go_quiet (fail)
            go_wp2
            go_roundw
            case rel =>
              refine ⟨z, j + 1, rfl, by go_num, by omega, Lib.hid (HW.out.drewN _), Lib.hid ?_⟩
              rcases HZ.out with ⟨h1, h2⟩ | h1
              · refine .inl ⟨h1, fun q hq => ?_⟩
                by_cases hqj : q = j
                · subst hqj; rw [HYL.out]; exact HYX.out
                · exact h2 q (by omega)
              · exact .inr h1
            case measure => simp [intOf]; omega
        · obtain rfl : j = 64 := by omega
          have hj64 : ¬ ((64 : Nat) : Int) < 64 := by omega
          rcases HZ.out with ⟨rfl, hno⟩ | ⟨q, rfl, hq, hqx⟩
          · have hall : s.data.toList.all U7.isL = false := by
              rw [List.all_eq_false]
              exact ⟨x, by rw [← HXL.out]; exact List.getElem_mem hlt', by rw [isL_take x hno]; decide⟩
            have HALL := Lib.hid hall
            clear hall hno
            go_wp2
            go_ret2
            exact .inl ⟨HALL.out, rfl, HW.out.below⟩
          · have hsx : U7.sx x = q := by rw [← hqx]; exact (U7.letter_facts ⟨q, hq⟩).1
            have hisl : U7.isL x = true := by rw [← hqx]; exact (U7.letter_facts ⟨q, hq⟩).2.2.2.2.2
            have hall : (s.data.toList.take (k + 1)).all U7.isL = true := by
              rw [List.take_succ_eq_append_getElem hlt', List.all_append, HAll.out, HXL.out]; simp [hisl]
            have HALL := Lib.hid hall
            obtain ⟨X, HX⟩ : ∃ X, Hid (X = B * 2 ^ 6 + q) := ⟨_, Lib.hid rfl⟩
            have cX : bits .or .i64 ((B : Int) * 64) (q : Int) = (X : Int) := by
              have := i64_join B q 6 (by omega) (by omega) (by decide)
              rw [HX.out]
              have e : ((B * 2 ^ 6 : Nat) : Int) = (B : Int) * 64 := by simp
              rw [e] at this
              exact this
            obtain ⟨B', HB'⟩ : ∃ B', Hid (B' = X % 2 ^ 24) := ⟨_, Lib.hid rfl⟩
            have cB : bits .and .i64 (X : Int) 16777215 = (B' : Int) := by
              rw [HB'.out]
              exact i64_low X 24 (by rw [HX.out]; omega) (by decide)
            have hB' : B' < 16777216 := by rw [HB'.out]; exact Nat.mod_lt _ (by decide)
            obtain ⟨V, HV⟩ : ∃ V, Hid (V = B % 2 ^ n * 64 + q) := ⟨_, Lib.hid rfl⟩
            have hV : B' % 2 ^ (n + 6) = V := by
              rw [HB'.out, Nat.mod_mod_of_dvd _ (Nat.pow_dvd_pow 2 (by omega)), HX.out, HV.out]
              have := unp_bits B q n hq (by omega)
              rw [Nat.mod_eq_of_lt (by omega : B < 67108864)] at this
              exact this
            have HVB := Lib.hid hV
            have hnx : (s.data.toList.drop k).map U7.sx = q :: (s.data.toList.drop (k + 1)).map U7.sx := by rw [HD.out, List.map_cons, hsx]
            have HNX := Lib.hid hnx
            have hqn : ¬ (q : Int) < 0 := by omega
            clear hsx hisl hall hV hnx hqx
            by_cases h10 : 10 ≤ n
            · have h16 : (16 : Int) ≤ (n : Int) + 6 := by omega
              obtain ⟨m, Hm⟩ : ∃ m, Hid (m = n - 10) := ⟨_, Lib.hid rfl⟩
              have cm : (n : Int) + 6 - 16 = (m : Int) := by rw [Hm.out]; omega
              have cm2 : n - 10 = m := Hm.out.symm
              obtain ⟨y, Hy⟩ : ∃ y, Hid (y = V / 2 ^ m % 65536) := ⟨_, Lib.hid rfl⟩
              have hvm : B' % 2 ^ (m + 16) = V := by rw [← HVB.out, show m + 16 = n + 6 from by rw [Hm.out]; omega]
              have cW : bits .and .i64 ((B' : Int) / 2 ^ m) 65535 = (y : Int) := by
                rw [int_div_pow]
                have h1 := i64_low (B' / 2 ^ m) 16 (Nat.lt_of_le_of_lt (Nat.div_le_self _ _) (by omega)) (by decide)
                rw [Hy.out, ← mid_bits B' V m hvm]
                exact h1
              obtain ⟨A3, c3, U3, w3, HU3, hr3, HW3⟩ := HW.out.lit y (by have := HLen.out; omega)
              have HR3 := Lib.hid hr3
              have hinv : U3 ++ U7.unp (B' % 2 ^ m) m ((s.data.toList.drop (k + 1)).map U7.sx) = U7.unp 0 0 (s.data.toList.map U7.sx) := by
                have hd : B' % 2 ^ m = V % 2 ^ m := by rw [← HVB.out, Nat.mod_mod_of_dvd _ (Nat.pow_dvd_pow 2 (by rw [Hm.out]; omega))]
                rw [← HInv.out, HNX.out, U7.unp_out _ _ _ _ h10, ← HV.out, HU3.out, hd, Hm.out, ← Hm.out, ← Hy.out]
                simp
              have HINV := Lib.hid hinv
              have HL3 : Hid (U3.length ≤ k + 1) := Lib.hid (by rw [HU3.out, List.length_append]; have := HLen.out; simp; omega)
              have hm16 : m < 16 := by rw [Hm.out]; omega
              clear hr3 hinv hvm
              go_wp2_with (at_builtin; refine wpList_append_run rfl _ _ 40 rfl _ (.slice A U.length c) (.slice (some ⟨wr.heap.size, 0, none⟩) 1 1) rfl rfl (.slice A3 U3.length c3) w3 (by exact HR3.out) ?_)
              go_wp2
              go_roundw
              case rel => exact ⟨k + 1, A3, c3, U3, B', m, by omega, by go_num, rfl, rfl, rfl, hm16, hB', HW3, HL3, HALL, HINV⟩
              case measure => simp [intOf]; omega
            · have h16 : ¬ (16 : Int) ≤ (n : Int) + 6 := by omega
              have hinv : U ++ U7.unp (B' % 2 ^ (n + 6)) (n + 6) ((s.data.toList.drop (k + 1)).map U7.sx) = U7.unp 0 0 (s.data.toList.map U7.sx) := by
                rw [← HInv.out, HNX.out, U7.unp_go _ _ _ _ (by omega), ← HV.out, HVB.out]
              have HINV := Lib.hid hinv
              have HL3 : Hid (U.length ≤ k + 1) := Lib.hid (by have := HLen.out; omega)
              clear hinv
              go_wp2
              go_roundw
              case rel => exact ⟨k + 1, A, c, U, B', n + 6, by omega, by go_num, rfl, rfl, by go_num, by omega, hB', HW, HL3, HALL, HINV⟩
              case measure => simp [intOf]; omega
    · obtain rfl : k = s.size := by omega
      have hinv := HInv.out
      rw [List.drop_of_length_le (by rw [hlen]; exact Nat.le_refl _), List.map_nil, U7.unp, List.append_nil] at hinv
      have hall := HAll.out
      rw [List.take_of_length_le (by rw [hlen]; exact Nat.le_refl _)] at hall
      have HINV := Lib.hid hinv
      have HALL := Lib.hid hall
      clear hinv hall
      go_wp2
      go_ret2
      exact .inr ⟨HALL.out, A, c, U, HINV, rfl, HW.out.row, HW.out.far, HW.out.below⟩
end Go.Proofs.YtpjgacmcpbpklaaDoor
