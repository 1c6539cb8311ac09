/- The walks of numbers in bytes: bigend.Append, bigend.Number. -/
import Derived.Test.YtgpkdnnlgafenaaAppend
import Derived.Test.YtgpkdnnlgafenaaRecPure
import Derived.WalkSpells
import Derived.Lib.Hide
import Derived.Laws.BitsAllLaws
import Derived.WalkLawsBesides
import Derived.IntWalk
namespace Go.Proofs.Ytgpkdnnlgafenaa
open Go.RowKit
set_option linter.unusedVariables false

theorem byte_shift (x j : Nat) : ((x : Int) / 2 ^ (8 * j)) % 256 = ((UInt8.ofNat (x / 256 ^ j)).toNat : Int) := by
  have e : (UInt8.ofNat (x / 256 ^ j)).toNat = x / 256 ^ j % 256 := UInt8.toNat_ofNat'
  have e2 : (2 : Int) ^ (8 * j) = ((256 ^ j : Nat) : Int) := by rw [Int.pow_mul]; simp
  rw [e, e2]; simp
theorem u64_step (n : Nat) (b : UInt8) (hn : n < 72057594037927936) : bits .or .u64 ((n : Int) * 256) (b.toNat : Int) = ((n * 256 + b.toNat : Nat) : Int) := by
  have hb := b.toNat_lt
  have e : (n : Int) * 256 = ((n * 256 : Nat) : Int) := by omega
  rw [e, u64_or_nat _ _ (by omega) (by omega)]
  congr 1
  exact nat_join 8 (n * 256) b.toNat (by omega) hb
theorem num_bound (l : List UInt8) (k : Nat) (hk : k ≤ 7) : Rc.num (l.take k) < 72057594037927936 := by
  have h1 := Rc.num_lt (l.take k)
  have h2 : 256 ^ (l.take k).length ≤ 256 ^ 7 := Nat.pow_le_pow_right (by omega) (by rw [List.length_take]; omega)
  have h3 : (256 : Nat) ^ 7 = 72057594037927936 := by decide
  omega

set_option maxHeartbeats 400000 in
theorem number_any (A : Option Addr) (n c : Nat) (l : List UInt8) (B : Nat) (w : World) (hn : n = l.length) (h8 : l.length ≤ 8) (hs : Sees w B A l) :
    Calls Try.prog 57 #[.slice A n c] w fun e w' => e = .returned (.int .u64 (Rc.num l : Int)) ∧ w = w' := by
  subst hn
  go_enter Try.func57, Try.ntmps57
  go_wp2
  go_loop [3, 8] (fun r i => ∃ k : Nat, k ≤ l.length ∧ i = .int .i64 k ∧ r = .int .u64 (Rc.num (l.take k) : Int)) (fun _ i => l.length - (intOf i).toNat)
  case atStart => exact ⟨0, Nat.zero_le _, rfl, rfl⟩
  case round =>
    obtain ⟨k, hk, rfl, rfl⟩ := hrel
    by_cases hlt : k < l.length
    · obtain ⟨g, o, rfl, hg, hcell⟩ := hs (by intro e; simp [e] at hlt)
      have hb := hcell k hlt
      obtain ⟨b, Hb⟩ : ∃ b, Hid (l[k] = b) := ⟨_, Lib.hid rfl⟩
      rw [Hb.out] at hb
      have HS : Hid (Rc.num (l.take (k + 1)) = Rc.num (l.take k) * 256 + b.toNat) := Lib.hid (by rw [List.take_succ_eq_append_getElem hlt, Rc.num_snoc, Hb.out])
      have hnb := num_bound l k (by omega)
      obtain ⟨r, hr⟩ : ∃ r, r = Rc.num (l.take k) := ⟨_, rfl⟩
      rw [← hr] at hnb HS ⊢
      have h1 := u64_step r b hnb
      have hb2 : (b.toNat : Int) < 256 := by have := b.toNat_lt; omega
      clear hr hcell hs
      go_wp2
      go_round
      case rel => exact ⟨k + 1, by omega, by go_num, by rw [HS.out]; simp⟩
      case measure => simp [intOf]; omega
    · obtain rfl : k = l.length := by omega
      rw [List.take_length]
      go_wp2
      go_ret
      exact ⟨rfl, rfl⟩
set_option maxHeartbeats 800000 in
theorem appendNumber_any (v : Value) (l : List UInt8) (x s : Nat) (w : World) (h : BRow w v l) (hs : s ≤ 8) (hl : l.length + 8 ≤ 140737488355328) :
    Calls Try.prog 47 #[v, .int .u64 (x : Int), .int .i64 (s : Int)] w (RowEnd v (l ++ Rc.big x s) w) := by
  obtain ⟨w0, rfl⟩ : ∃ w0, w0 = w := ⟨_, rfl⟩
  go_enter Try.func47, Try.ntmps47
  go_wp2
  go_loopw [0, 7] (fun r i wr => ∃ (k : Nat) (acc : List UInt8) (A : Option Addr) (c : Nat), k ≤ s ∧ i = .int .i64 ((k : Int) - 1) ∧ r = .slice A acc.length c ∧ acc ++ Rc.big x k = l ++ Rc.big x s ∧ BRow wr (.slice A acc.length c) acc ∧ Only (blk v) w0 wr ∧ Grows (blk v) (blk (.slice A acc.length c)) w0) (fun _ i _ => (intOf i + 1).toNat)
  case atStart =>
    obtain ⟨A, c, rfl, _, _⟩ := h.shape
    exact ⟨s, l, A, c, Nat.le_refl _, rfl, rfl, rfl, h, Only.refl _ _, Grows.refl _ _⟩
  case round =>
    obtain ⟨k, acc, A, c, hk, rfl, rfl, hacc, hrow, ho, hg⟩ := hrel
    match k with
    | 0 =>
      have key : RowEnd v (l ++ Rc.big x s) w0 (.returned (.slice A acc.length c)) wr := ⟨_, rfl, by rw [← hacc]; simpa [Rc.big] using hrow, ho, hg⟩
      have HK := Lib.hid key
      clear key hacc hrow ho hg h
      go_wp2
      go_ret
      exact HK.out
    | j + 1 =>
      have hsh := byte_shift x j
      obtain ⟨b, Hb⟩ : ∃ b, Hid (b = UInt8.ofNat (x / 256 ^ j)) := ⟨_, Lib.hid rfl⟩
      rw [← Hb.out] at hsh
      have hacc2 : (acc ++ [b]) ++ Rc.big x j = l ++ Rc.big x s := by rw [← hacc, Rc.big, ← Hb.out]; simp
      have hal : acc.length + 1 ≤ 140737488355328 := by
        have := congrArg List.length hacc
        simp [Rc.big_length] at this
        omega
      obtain ⟨v', w', hap, h1, h2, h3⟩ := brow_one wr (.slice A acc.length c) acc hrow b _ rfl hal 27
      have HAP := Lib.hid hap
      obtain ⟨A', c', rfl, _, _⟩ := h1.shape
      have HR : Hid (∃ (k : Nat) (acc2 : List UInt8) (A2 : Option Addr) (c2 : Nat), k ≤ s ∧ Value.int .i64 ((j : Int) - 1) = .int .i64 ((k : Int) - 1) ∧ Value.slice A' (acc.length + 1) c' = .slice A2 acc2.length c2 ∧ acc2 ++ Rc.big x k = l ++ Rc.big x s ∧ BRow w' (.slice A2 acc2.length c2) acc2 ∧ Only (blk v) w0 w' ∧ Grows (blk v) (blk (.slice A2 acc2.length c2)) w0) :=
        Lib.hid ⟨j, acc ++ [b], A', c', by omega, rfl, by simp, hacc2, h1, ho.step h2 hg, hg.trans h3 ho.size⟩
      have e1 : ((j + 1 : Nat) : Int) - 1 = (j : Int) := by omega
      rw [e1]
      have hj8 : (j : Int) < 8 := by omega
      clear hap h1 h2 h3 hacc hacc2 hrow ho hg h e1 hk hal
      go_wp2_with (at_builtin; refine wpList_append_run rfl _ _ 27 rfl _ _ _ rfl rfl _ _ (by exact HAP.out) ?_)
      go_roundw
      case rel => exact HR.out
      case measure => simp [intOf]
end Go.Proofs.Ytgpkdnnlgafenaa
