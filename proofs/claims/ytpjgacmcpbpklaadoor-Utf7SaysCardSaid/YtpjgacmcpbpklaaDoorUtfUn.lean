/- unitsOf, isHigh, isLow. -/
import Derived.Test.YtpjgacmcpbpklaaDoorUtfEnc
import Derived.Test.YtpjgacmcpbpklaaDoorShelf
namespace Go.Proofs.YtpjgacmcpbpklaaDoor
open Go.RowKit
set_option linter.unusedVariables false

theorem sx_bits : ∀ x : Fin 256, bits .and .i64 (Lib.indexByte U7.alpha (UInt8.ofNat x.val)) 63 = (U7.sx (UInt8.ofNat x.val) : Int) := by decide +kernel
theorem sx_at (c : UInt8) : bits .and .i64 (Lib.indexByte U7.alpha c) 63 = (U7.sx c : Int) := by
  have := sx_bits ⟨c.toNat, c.toNat_lt⟩
  simpa using this

set_option maxHeartbeats 400000 in
theorem isHigh_any (u : Nat) (w : World) : Calls Tryd.prog 43 #[.int .u16 (u : Int)] w fun e w' => e = .returned (.bool (decide (U7.isHi u))) ∧ w = w' := by
  by_cases h1 : (55296 : Int) ≤ (u : Int)
  · by_cases h2 : (u : Int) < 56320
    · have e : decide (U7.isHi u) = true := decide_eq_true ⟨by omega, by omega⟩
      rw [e]
      go_enter Tryd.func43, Tryd.ntmps43
      go_wp2
      go_ret
      exact ⟨rfl, rfl⟩
    · have e : decide (U7.isHi u) = false := decide_eq_false (fun h => by unfold U7.isHi at h; omega)
      rw [e]
      go_enter Tryd.func43, Tryd.ntmps43
      go_wp2
      go_ret
      exact ⟨rfl, rfl⟩
  · have e : decide (U7.isHi u) = false := decide_eq_false (fun h => by unfold U7.isHi at h; omega)
    rw [e]
    go_enter Tryd.func43, Tryd.ntmps43
    go_wp2
    go_ret
    exact ⟨rfl, rfl⟩
set_option maxHeartbeats 400000 in
theorem isLow_any (u : Nat) (w : World) : Calls Tryd.prog 44 #[.int .u16 (u : Int)] w fun e w' => e = .returned (.bool (decide (U7.isLo u))) ∧ w = w' := by
  by_cases h1 : (56320 : Int) ≤ (u : Int)
  · by_cases h2 : (u : Int) < 57344
    · have e : decide (U7.isLo u) = true := decide_eq_true ⟨by omega, by omega⟩
      rw [e]
      go_enter Tryd.func44, Tryd.ntmps44
      go_wp2
      go_ret
      exact ⟨rfl, rfl⟩
    · have e : decide (U7.isLo u) = false := decide_eq_false (fun h => by unfold U7.isLo at h; omega)
      rw [e]
      go_enter Tryd.func44, Tryd.ntmps44
      go_wp2
      go_ret
      exact ⟨rfl, rfl⟩
  · have e : decide (U7.isLo u) = false := decide_eq_false (fun h => by unfold U7.isLo at h; omega)
    rw [e]
    go_enter Tryd.func44, Tryd.ntmps44
    go_wp2
    go_ret
    exact ⟨rfl, rfl⟩

theorem unp_bits (B q n : Nat) (hq : q < 64) (hn : n ≤ 26) : (B % 67108864 * 2 ^ 6 + q) % 2 ^ (n + 6) = B % 2 ^ n * 64 + q := by
  have e1 : 2 ^ (n + 6) = 64 * 2 ^ n := by rw [Nat.pow_add, Nat.mul_comm]
  have e2 : (67108864 : Nat) = 2 ^ 26 := by decide
  rw [e1, Nat.mod_mul]
  have h1 : (B % 67108864 * 2 ^ 6 + q) % 64 = q := by omega
  have h2 : (B % 67108864 * 2 ^ 6 + q) / 64 = B % 67108864 := by omega
  rw [h1, h2, e2, Nat.mod_mod_of_dvd _ (Nat.pow_dvd_pow 2 hn)]
  omega
theorem mid_bits (B V m : Nat) (h : B % 2 ^ (m + 16) = V) : B / 2 ^ m % 65536 = V / 2 ^ m % 65536 := by
  subst h
  rw [Nat.pow_add, Nat.mod_mul_right_div_self, show (2 : Nat) ^ 16 = 65536 from rfl, Nat.mod_mod]
theorem wrap_u16_mod (n : Nat) : IntKind.u16.wrap (n : Int) = ((n % 65536 : Nat) : Int) := by simp [IntKind.wrap, IntKind.bits, IntKind.signed]
/-- A row of units made anew. -/
def UNew (us : List Nat) (w : World) (e : Ending) (w' : World) : Prop := ∃ A c U, Hid (U = us) ∧ e = .returned (.slice A U.length c) ∧ URow w' (.slice A U.length c) U ∧ (∀ k, k ∈ blk (.slice A U.length c) → w.heap.size ≤ k) ∧ Below w.heap.size w w'

set_option maxHeartbeats 1600000 in
set_option maxRecDepth 100000 in
theorem unitsOf_any (s : ByteArray) (w : World) (hs : s.size ≤ 1000000000000) :
    Calls Tryd.prog 36 #[.string s] w (UNew (U7.unp 0 0 (s.data.toList.map U7.sx)) w) := by
  have hlen : s.data.toList.length = s.size := rfl
  go_enter Tryd.func36, Tryd.ntmps36
  go_wp2
  go_loopw [3, 4, 5, 10] (fun s3 s4 s5 i wr => ∃ (k : Nat) (A : Option Addr) (c : Nat) (U : List Nat) (B n : Nat), k ≤ s.size ∧ i = .int .i64 k ∧ s3 = .slice A U.length c ∧ s4 = .int .u32 (B : Int) ∧ s5 = .int .i64 (n : Int) ∧ n < 16 ∧ B < 4294967296 ∧
      Hid (URow wr (.slice A U.length c) U) ∧ Hid (∀ b, b ∈ blk (.slice A U.length c) → w.heap.size ≤ b) ∧ Hid (Below w.heap.size w wr) ∧ Hid (U.length ≤ k) ∧ Hid (U ++ U7.unp (B % 2 ^ n) n ((s.data.toList.drop k).map U7.sx) = U7.unp 0 0 (s.data.toList.map U7.sx)))
    (fun _ _ _ i _ => s.size - (intOf i).toNat)
  case atStart =>
    exact ⟨0, none, 0, [], 0, 0, Nat.zero_le _, rfl, rfl, rfl, rfl, by omega, by omega, Lib.hid (VRow.nil _ _), Lib.hid (fun _ h => by cases h), Lib.hid (Below.refl _ _), Lib.hid (Nat.zero_le _), Lib.hid rfl⟩
  case round =>
    obtain ⟨k, A, c, U, B, n, hk, rfl, rfl, rfl, rfl, hn, hB, HRow, HFar, HBel, HLen, HInv⟩ := hrel
    by_cases hlt : k < s.size
    · have hd : s.data.toList.drop k = s[k] :: s.data.toList.drop (k + 1) := List.drop_eq_getElem_cons (by rw [hlen]; exact hlt)
      obtain ⟨x, hx⟩ : ∃ x : UInt8, s[k] = x := ⟨_, rfl⟩
      rw [hx] at hd
      have HD := Lib.hid hd
      obtain ⟨q, HQ⟩ : ∃ q, Hid (q = U7.sx x) := ⟨_, Lib.hid rfl⟩
      have hq : q < 64 := by rw [HQ.out]; exact U7.sx_lt x
      have cX : bits .and .i64 (Lib.indexByte U7.alpha x) 63 = (q : Int) := by rw [HQ.out]; exact sx_at x
      have HCALL : ∀ W, Calls Tryd.prog 46 #[.string ⟨U7.alpha.toArray⟩, .int .u8 (x.toNat : Int)] W fun e w' => e = .returned (.int .i64 (Lib.indexByte U7.alpha x)) ∧ w' = W := fun W => by
        have := Tryd.strings_IndexByte ⟨U7.alpha.toArray⟩ (x.toNat : Int) W
        simpa using this
      have HC := Lib.hid HCALL
      obtain ⟨B', HB'⟩ : ∃ B', Hid (B' = B % 67108864 * 2 ^ 6 + q) := ⟨_, Lib.hid rfl⟩
      have cB : bits .or .u32 ((B : Int) * 64 % 4294967296) (q : Int) = (B' : Int) := by
        rw [HB'.out, ← u32_join (B % 67108864) q 6 (by omega) (by omega) (by decide)]
        congr 1
        omega
      have hB' : B' < 4294967296 := by rw [HB'.out]; omega
      obtain ⟨V, HV⟩ : ∃ V, Hid (V = B % 2 ^ n * 64 + q) := ⟨_, Lib.hid rfl⟩
      have hV : B' % 2 ^ (n + 6) = V := by rw [HB'.out, HV.out]; exact unp_bits B q n hq (by omega)
      have HVB := Lib.hid hV
      have hnx : (s.data.toList.drop k).map U7.sx = q :: (s.data.toList.drop (k + 1)).map U7.sx := by rw [HD.out, List.map_cons, HQ.out]
      have HNX := Lib.hid hnx
      clear hd HCALL hV hnx
      by_cases h10 : 10 ≤ n
      · have h16 : (16 : Int) ≤ (n : Int) + 6 := by omega
        obtain ⟨m, Hm⟩ : ∃ m, Hid (m = n - 10) := ⟨_, Lib.hid rfl⟩
        have cm : (n : Int) + 6 - 16 = (m : Int) := by rw [Hm.out]; omega
        have cm2 : n - 10 = m := Hm.out.symm
        obtain ⟨y, Hy⟩ : ∃ y, Hid (y = V / 2 ^ m % 65536) := ⟨_, Lib.hid rfl⟩
        have hy : y < 65536 := by rw [Hy.out]; exact Nat.mod_lt _ (by decide)
        have hvm : B' % 2 ^ (m + 16) = V := by rw [← HVB.out, show m + 16 = n + 6 from by rw [Hm.out]; omega]
        have cW : IntKind.u16.wrap ((B' : Int) / 2 ^ m) = (y : Int) := by
          rw [int_div_pow, wrap_u16_mod, mid_bits B' V m hvm, Hy.out]
        obtain ⟨A3, c3, U3, w3, HU3, hr3, h3, h3o, h3g⟩ := HRow.out.lit [y] (by simp) (by simp; have := HLen.out; omega) #[.int .u16 (y : Int)] rfl 1 1 rfl
        have HR3 := Lib.hid hr3
        have hinv : U3 ++ U7.unp (B' % 2 ^ m) m ((s.data.toList.drop (k + 1)).map U7.sx) = U7.unp 0 0 (s.data.toList.map U7.sx) := by
          have hd : B' % 2 ^ m = V % 2 ^ m := by rw [← HVB.out, Nat.mod_mod_of_dvd _ (Nat.pow_dvd_pow 2 (by rw [Hm.out]; omega))]
          rw [← HInv.out, HNX.out, U7.unp_out _ _ _ _ h10, ← HV.out, HU3.out, hd, Hm.out, ← Hm.out, ← Hy.out]
          simp
        have HINV := Lib.hid hinv
        have HB3 := Lib.hid (HBel.out.trans (h3o.below HBel.out.size HFar.out))
        have HF3 : Hid (∀ b, b ∈ blk (.slice A3 U3.length c3) → w.heap.size ≤ b) := Lib.hid (Ranging.grow HFar.out HBel.out.size h3g)
        have HL3 : Hid (U3.length ≤ k + 1) := Lib.hid (by rw [HU3.out, List.length_append]; have := HLen.out; simp; omega)
        have HROW := Lib.hid h3
        have hm16 : m < 16 := by rw [Hm.out]; omega
        clear hr3 h3 h3o h3g hinv hvm
        go_wp2_with (first
          | (go_at_call 46; refine (HC.out _).mono ?_; rintro e w4 ⟨rfl, rfl⟩)
          | (at_builtin; refine wpList_append_run rfl _ _ 31 rfl _ (.slice A U.length c) (.slice (some ⟨w4.heap.size, 0, none⟩) 1 1) rfl rfl (.slice A3 U3.length c3) w3 (by exact HR3.out) ?_))
        go_wp2
        go_roundw
        case rel => exact ⟨k + 1, A3, c3, U3, B', m, by omega, by go_num, rfl, rfl, rfl, hm16, hB', HROW, HF3, HB3, HL3, HINV⟩
        case measure => simp [intOf]; omega
      · have h16 : ¬ (16 : Int) ≤ (n : Int) + 6 := by omega
        have hinv : U ++ U7.unp (B' % 2 ^ (n + 6)) (n + 6) ((s.data.toList.drop (k + 1)).map U7.sx) = U7.unp 0 0 (s.data.toList.map U7.sx) := by
          rw [← HInv.out, HNX.out, U7.unp_go _ _ _ _ (by omega), ← HV.out, HVB.out]
        have HINV := Lib.hid hinv
        have HL3 : Hid (U.length ≤ k + 1) := Lib.hid (by have := HLen.out; omega)
        clear hinv
        go_wp2_with (first
          | (go_at_call 46; refine (HC.out _).mono ?_; rintro e w4 ⟨rfl, rfl⟩))
        go_wp2
        go_roundw
        case rel => exact ⟨k + 1, A, c, U, B', n + 6, by omega, by go_num, rfl, rfl, rfl, by omega, hB', HRow, HFar, HBel, HL3, HINV⟩
        case measure => simp [intOf]; omega
    · obtain rfl : k = s.size := by omega
      have hinv := HInv.out
      rw [List.drop_of_length_le (by rw [hlen]; exact Nat.le_refl _), List.map_nil, U7.unp, List.append_nil] at hinv
      have HINV := Lib.hid hinv
      clear hinv
      go_wp2
      go_ret
      exact ⟨A, c, U, HINV, rfl, HRow.out, HFar.out, HBel.out⟩
end Go.Proofs.YtpjgacmcpbpklaaDoor
