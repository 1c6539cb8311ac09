/- The reference's letters, shifted. -/
import Derived.Test.YtpjgacmcpbpklaaDoorUtfRU
namespace Go.Proofs.YtpjgacmcpbpklaaDoor
open Go.RowKit
set_option linter.unusedVariables false

theorem i64_and_nat (a b : Nat) (ha : a < 9223372036854775808) (hb : b < 9223372036854775808) : bits .and .i64 (a : Int) (b : Int) = ((a &&& b : Nat) : Int) := by
  have hx : a &&& b < 2 ^ 63 := Nat.and_lt_two_pow _ (by omega)
  show IntKind.i64.wrap ((BitVec.ofInt 64 (a : Int) &&& BitVec.ofInt 64 (b : Int)).toNat : Int) = _
  have e : ∀ a : Nat, a < 9223372036854775808 → (BitVec.ofInt 64 (a : Int)).toNat = a := fun a ha => by
    rw [BitVec.ofInt_natCast, BitVec.toNat_ofNat]; exact Nat.mod_eq_of_lt (by omega)
  rw [BitVec.toNat_and, e a ha, e b hb]
  exact wrap_small _ (by omega) (by omega)
theorem i64_or_nat (a b : Nat) (ha : a < 9223372036854775808) (hb : b < 9223372036854775808) : bits .or .i64 (a : Int) (b : Int) = ((a ||| b : Nat) : Int) := by
  have hx : a ||| b < 2 ^ 63 := Nat.or_lt_two_pow (by omega) (by omega)
  show IntKind.i64.wrap ((BitVec.ofInt 64 (a : Int) ||| BitVec.ofInt 64 (b : Int)).toNat : Int) = _
  have e : ∀ a : Nat, a < 9223372036854775808 → (BitVec.ofInt 64 (a : Int)).toNat = a := fun a ha => by
    rw [BitVec.ofInt_natCast, BitVec.toNat_ofNat]; exact Nat.mod_eq_of_lt (by omega)
  rw [BitVec.toNat_or, e a ha, e b hb]
  exact wrap_small _ (by omega) (by omega)
theorem i64_low (a k : Nat) (ha : a < 9223372036854775808) (hk : 2 ^ k ≤ 4294967296) : bits .and .i64 (a : Int) ((2 ^ k - 1 : Nat) : Int) = ((a % 2 ^ k : Nat) : Int) := by
  rw [i64_and_nat _ _ ha (by omega), Nat.and_two_pow_sub_one_eq_mod]
theorem i64_join (a b k : Nat) (ha : a * 2 ^ k < 9223372036854775808) (hb : b < 2 ^ k) (hk : 2 ^ k ≤ 4294967296) : bits .or .i64 ((a * 2 ^ k : Nat) : Int) (b : Int) = ((a * 2 ^ k + b : Nat) : Int) := by
  rw [i64_or_nat _ _ ha (by omega), Nat.mul_comm, ← Nat.two_pow_add_eq_or_of_lt hb]

theorem letters_any (w : World) : Calls Tryd.prog 40 #[] w fun e w' => e = .returned (.string ⟨U7.alpha.toArray⟩) ∧ w = w' := by
  go_enter Tryd.func40, Tryd.ntmps40
  go_wp2
  go_ret
  exact ⟨rfl, rfl⟩
theorem alpha_cut : ∀ q : Fin 64, ((⟨U7.alpha.toArray⟩ : ByteArray).extract q.val (q.val + 1)).data.toList = [U7.letter q.val] := by decide +kernel

/-- A slice of ints that reads as ks, whose block is not to be written. -/
def ISees (w : World) (A : Option Addr) (ks : List Nat) : Prop := ∀ j (h : j < ks.length), ∃ g o, A = some ⟨g, o, none⟩ ∧ w.cell? ⟨g, o + j, none⟩ = some (.int .i64 (ks[j] : Int))
theorem IRow.isees {w : World} {A : Option Addr} {c : Nat} {ks : List Nat} (h : IRow w (.slice A ks.length c) ks) : ISees w A ks := fun j hj => by
  obtain ⟨g, e, _, _, _, hc⟩ := h.form (by omega)
  exact ⟨g, 0, e, by rw [Nat.zero_add]; exact hc j hj⟩

theorem head_size {S : ByteArray} {x : List UInt8} {us : List Nat} (h : S.data.toList ++ x = 38 :: U7.b64 us) (hl : us.length ≤ 100000000) : S.size ≤ 400000000 := by
  have h1 := congrArg List.length h
  rw [List.length_append, List.length_cons] at h1
  have h2 := U7.b64_len us
  have h3 : S.data.toList.length = S.size := rfl
  omega
theorem one_size {S : ByteArray} {x : UInt8} (h : S.data.toList = [x]) : S.size ≤ 1 := by
  have h1 := congrArg List.length h
  have h3 : S.data.toList.length = S.size := rfl
  simp only [List.length_cons, List.length_nil] at h1
  omega

set_option maxHeartbeats 3200000 in
set_option maxRecDepth 100000 in
theorem shifted_any (A : Option Addr) (n c : Nat) (us : List Nat) (w : World) (hn : n = us.length) (hc : n ≤ c) (h : ISees w A us) (hul : ∀ u ∈ us, u < 65536) (hl : us.length ≤ 100000000) : ∃ t : ByteArray, Hid (t.data.toList = 38 :: (U7.b64 us ++ [45])) ∧
    Calls Tryd.prog 30 #[.slice A n c] w fun e w' => e = .returned (.string t) ∧ w = w' := by
  subst hn
  obtain ⟨al, hal⟩ : ∃ al : ByteArray, (⟨U7.alpha.toArray⟩ : ByteArray) = al := ⟨_, rfl⟩
  have haz : al.size = 64 := by rw [← hal]; rfl
  have hcut : ∀ q, q < 64 → (al.extract q (q + 1)).data.toList = [U7.letter q] := fun q hq => by rw [← hal]; exact alpha_cut ⟨q, hq⟩
  have HCUT := Lib.hid hcut
  have hlet := fun W => letters_any W
  rw [hal] at hlet
  have HLET := Lib.hid hlet
  have HS := Lib.hid h
  have HUL := Lib.hid hul
  obtain ⟨t, ht⟩ : ∃ t : ByteArray, t.data.toList = 38 :: (U7.b64 us ++ [45]) := ⟨⟨(38 :: (U7.b64 us ++ [45])).toArray⟩, by simp⟩
  refine ⟨t, Lib.hid ht, ?_⟩
  have HT := Lib.hid ht
  clear hcut hlet h hul ht hal
  go_enter Tryd.func30, Tryd.ntmps30
  go_wp2_with (go_at_call 40; refine (HLET.out _).mono ?_; rintro e w1 ⟨rfl, rfl⟩)
  go_loop [3, 4, 5, 7] (fun s3 s4 s5 i => ∃ (k : Nat) (S : ByteArray) (v n : Nat), k ≤ us.length ∧ i = .int .i64 k ∧ s3 = .string S ∧ s4 = .int .i64 (v : Int) ∧ s5 = .int .i64 (n : Int) ∧ (n = 0 ∧ v < 1 ∨ n = 2 ∧ v < 4 ∨ n = 4 ∧ v < 16) ∧
      Hid (S.data.toList ++ (U7.sext v n (us.drop k)).map U7.letter = 38 :: U7.b64 us)) (fun _ _ _ i => us.length - (intOf i).toNat)
  case atStart => exact ⟨0, ⟨#[38]⟩, 0, 0, Nat.zero_le _, rfl, rfl, rfl, rfl, .inl ⟨rfl, by omega⟩, Lib.hid rfl⟩
  case round =>
    obtain ⟨k, S, v, n, hk, rfl, rfl, rfl, rfl, hn, HInv⟩ := hrel
    by_cases hlt : k < us.length
    · obtain ⟨g, o, rfl, hcell⟩ := HS.out k hlt
      obtain ⟨u, Hu⟩ : ∃ u, Hid (u = us[k]) := ⟨_, Lib.hid rfl⟩
      rw [← Hu.out] at hcell
      have hu16 : u < 65536 := by rw [Hu.out]; exact HUL.out _ (List.getElem_mem hlt)
      obtain ⟨V, HV⟩ : ∃ V, Hid (V = v * 65536 + u) := ⟨_, Lib.hid rfl⟩
      have hv16 : v < 16 := by omega
      have cV : bits .or .i64 ((v : Int) * 65536) (u : Int) = (V : Int) := by
        have := i64_join v u 16 (by omega) (by omega) (by decide)
        rw [HV.out]
        have e : ((v * 2 ^ 16 : Nat) : Int) = (v : Int) * 65536 := by simp
        rw [e] at this
        exact this
      have hV : V < 1048576 := by rw [HV.out]; omega
      obtain ⟨N0, HN0⟩ : ∃ N0, Hid (N0 = n + 16) := ⟨_, Lib.hid rfl⟩
      have cN : (n : Int) + 16 = (N0 : Int) := by rw [HN0.out]; omega
      obtain ⟨R, HR⟩ : ∃ R, Hid (R = U7.sext (V % 2 ^ (N0 % 6)) (N0 % 6) (us.drop (k + 1))) := ⟨_, Lib.hid rfl⟩
      have hn20 : N0 ≤ 20 := by rw [HN0.out]; omega
      go_wp2
      go_loop [3, 5] (fun s3 s5 => ∃ (S2 : ByteArray) (N : Nat), N ≤ N0 ∧ s3 = .string S2 ∧ s5 = .int .i64 (N : Int) ∧ Hid (N % 6 = N0 % 6) ∧ Hid (S2.data.toList ++ (U7.emit V N ++ R).map U7.letter = 38 :: U7.b64 us)) (fun _ s5 => (intOf s5).toNat)
      case atStart =>
        refine ⟨S, N0, Nat.le_refl _, rfl, rfl, Lib.hid rfl, Lib.hid ?_⟩
        rw [← HInv.out, List.drop_eq_getElem_cons hlt, ← Hu.out, U7.sext, HR.out, HV.out, HN0.out]
      case round =>
        obtain ⟨S2, N, hN, rfl, rfl, HM, HInv2⟩ := hrel
        by_cases h6 : 6 ≤ N
        · have h6' : (6 : Int) ≤ (N : Int) := by omega
          obtain ⟨m, Hm⟩ : ∃ m, Hid (m = N - 6) := ⟨_, Lib.hid rfl⟩
          have cm : (N : Int) - 6 = (m : Int) := by rw [Hm.out]; omega
          obtain ⟨q, HQ⟩ : ∃ q, Hid (q = V / 2 ^ m % 64) := ⟨_, Lib.hid rfl⟩
          have hq : q < 64 := by rw [HQ.out]; exact Nat.mod_lt _ (by decide)
          have cK : bits .and .i64 ((V : Int) / 2 ^ m) 63 = (q : Int) := by
            rw [int_div_pow]
            have h1 := i64_low (V / 2 ^ m) 6 (Nat.lt_of_le_of_lt (Nat.div_le_self _ _) (by omega)) (by decide)
            rw [HQ.out]
            exact h1
          obtain ⟨lb, hlb⟩ : ∃ lb, al.extract q (q + 1) = lb := ⟨_, rfl⟩
          have hlbd : lb.data.toList = [U7.letter q] := by rw [← hlb]; exact HCUT.out q hq
          have HLB := Lib.hid hlbd
          have z1 := one_size hlbd
          have z2 := head_size HInv2.out hl
          have hqz : (q : Int) < 64 := by omega
          clear hlbd
          go_wp2
          go_round
          case rel =>
            refine ⟨S2 ++ lb, m, by rw [Hm.out]; omega, rfl, rfl, Lib.hid (by rw [← HM.out, Hm.out]; omega), Lib.hid ?_⟩
            rw [← HInv2.out, U7.emit_step V N h6, ← Hm.out, ← HQ.out]
            simp [ByteArray.data_append, HLB.out]
          case measure => simp [intOf]; rw [Hm.out]; omega
        · have h6' : ¬ (6 : Int) ≤ (N : Int) := by omega
          have hNe : N = N0 % 6 := by have := HM.out; omega
          have HNE := Lib.hid hNe
          have hinv3 : S2.data.toList ++ (U7.sext (V % 2 ^ N) N (us.drop (k + 1))).map U7.letter = 38 :: U7.b64 us := by
            rw [← HInv2.out, U7.emit_low V N (by omega), List.nil_append, HR.out, ← HNE.out]
          have HINV := Lib.hid hinv3
          have hN3 : N = 0 ∨ N = 2 ∨ N = 4 := by rw [HNE.out, HN0.out]; omega
          have b1 : bits .and .i64 (V : Int) 3 = ((V % 4 : Nat) : Int) := i64_low V 2 (by omega) (by decide)
          have b2 : bits .and .i64 (V : Int) 15 = ((V % 16 : Nat) : Int) := i64_low V 4 (by omega) (by decide)
          have b0 : bits .and .i64 (V : Int) 0 = ((V % 1 : Nat) : Int) := i64_low V 0 (by omega) (by decide)
          obtain ⟨v2, Hv2⟩ : ∃ v2, Hid (v2 = V % 2 ^ N) := ⟨_, Lib.hid rfl⟩
          rw [← Hv2.out] at HINV
          clear hNe hinv3 hn
          rcases hN3 with rfl | rfl | rfl
          · have c1 : bits .and .i64 (V : Int) 0 = (v2 : Int) := by rw [Hv2.out]; exact b0
            have c2 : v2 < 1 := by rw [Hv2.out]; omega
            clear b0 b1 b2
            go_wp2
            go_round
            case rel => exact ⟨k + 1, S2, v2, 0, by omega, by go_num, rfl, rfl, rfl, .inl ⟨rfl, c2⟩, HINV⟩
            case measure => simp [intOf]; omega
          · have c1 : bits .and .i64 (V : Int) 3 = (v2 : Int) := by rw [Hv2.out]; exact b1
            have c2 : v2 < 4 := by rw [Hv2.out]; omega
            clear b0 b1 b2
            go_wp2
            go_round
            case rel => exact ⟨k + 1, S2, v2, 2, by omega, by go_num, rfl, rfl, rfl, .inr (.inl ⟨rfl, c2⟩), HINV⟩
            case measure => simp [intOf]; omega
          · have c1 : bits .and .i64 (V : Int) 15 = (v2 : Int) := by rw [Hv2.out]; exact b2
            have c2 : v2 < 16 := by rw [Hv2.out]; omega
            clear b0 b1 b2
            go_wp2
            go_round
            case rel => exact ⟨k + 1, S2, v2, 4, by omega, by go_num, rfl, rfl, rfl, .inr (.inr ⟨rfl, c2⟩), HINV⟩
            case measure => simp [intOf]; omega
    · obtain rfl : k = us.length := by omega
      have hinv := HInv.out
      rw [List.drop_length, U7.sext] at hinv
      have z2 := head_size HInv.out hl
      have z3 : (({ data := #[45] } : ByteArray).size) = 1 := rfl
      by_cases hn0 : n = 0
      · subst hn0
        rw [if_pos rfl, List.map_nil, List.append_nil] at hinv
        have hfin : S ++ ({ data := #[45] } : ByteArray) = t := by
          apply ByteArray.ext
          apply Array.toList_inj.1
          rw [HT.out]
          simp [ByteArray.data_append, hinv]
        clear hinv hn
        go_wp2
        go_ret
        exact ⟨rfl, rfl⟩
      · rw [if_neg hn0] at hinv
        obtain ⟨q, HQ⟩ : ∃ q, Hid (q = v * 2 ^ (6 - n) % 64) := ⟨_, Lib.hid rfl⟩
        have hq : q < 64 := by rw [HQ.out]; exact Nat.mod_lt _ (by decide)
        have hqz : (q : Int) < 64 := by omega
        rw [← HQ.out] at hinv
        obtain ⟨lb, hlb⟩ : ∃ lb, al.extract q (q + 1) = lb := ⟨_, rfl⟩
        have hlbd : lb.data.toList = [U7.letter q] := by rw [← hlb]; exact HCUT.out q hq
        have z1 := one_size hlbd
        have hfin : S ++ lb ++ ({ data := #[45] } : ByteArray) = t := by
          apply ByteArray.ext
          apply Array.toList_inj.1
          rw [HT.out]
          have h9 : S.data.toList ++ [U7.letter q] = 38 :: U7.b64 us := hinv
          simp only [ByteArray.data_append, Array.toList_append, hlbd, h9]
          rfl
        clear hinv hlbd
        rcases hn with ⟨rfl, h1⟩ | ⟨rfl, h1⟩ | ⟨rfl, h1⟩
        · exact absurd rfl hn0
        · have cK : bits .and .i64 ((v : Int) * 16) 63 = (q : Int) := by
            have := i64_low (v * 16) 6 (by omega) (by decide)
            have e : ((v * 16 : Nat) : Int) = (v : Int) * 16 := by simp
            rw [e] at this
            rw [HQ.out]
            exact this
          go_wp2
          go_ret
          exact ⟨rfl, rfl⟩
        · have cK : bits .and .i64 ((v : Int) * 4) 63 = (q : Int) := by
            have := i64_low (v * 4) 6 (by omega) (by decide)
            have e : ((v * 4 : Nat) : Int) = (v : Int) * 4 := by simp
            rw [e] at this
            rw [HQ.out]
            exact this
          go_wp2
          go_ret
          exact ⟨rfl, rfl⟩
end Go.Proofs.YtpjgacmcpbpklaaDoor
