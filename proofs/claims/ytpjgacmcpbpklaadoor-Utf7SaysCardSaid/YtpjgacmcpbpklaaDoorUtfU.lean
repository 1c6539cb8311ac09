/- Rows of 16-bit units; appendUnits. -/
import Derived.Test.YtpjgacmcpbpklaaDoorVRow
import Derived.Test.YtpjgacmcpbpklaaDoorAppStr
import Derived.Test.YtpjgacmcpbpklaaDoorUtfPure2
import Derived.IntWalk
import Derived.Laws.BitsAllLaws
namespace Go.Proofs.YtpjgacmcpbpklaaDoor
open Go.RowKit
set_option linter.unusedVariables false

theorem wrap_u16 (n : Int) (h0 : 0 ≤ n) (h1 : n < 65536) : IntKind.u16.wrap n = n := by simp [IntKind.wrap, IntKind.bits, IntKind.signed]; omega
theorem wrap_u32 (n : Int) (h0 : 0 ≤ n) (h1 : n < 4294967296) : IntKind.u32.wrap n = n := by simp [IntKind.wrap, IntKind.bits, IntKind.signed]; omega
theorem wrap_i32 (n : Int) (h0 : -2147483648 ≤ n) (h1 : n < 2147483648) : IntKind.i32.wrap n = n := by simp [IntKind.wrap, IntKind.bits, IntKind.signed]; omega
theorem i32_low10 (d : Nat) (hd : d < 1048576) : bits .and .i32 (d : Int) 1023 = ((d % 1024 : Nat) : Int) := by
  show IntKind.i32.wrap ((BitVec.ofInt 32 (d : Int) &&& BitVec.ofInt 32 ((1023 : Nat) : Int)).toNat : Int) = _
  rw [BitVec.toNat_and, ofInt_u32 d (by omega), ofInt_u32 1023 (by omega), show (1023 : Nat) = 2 ^ 10 - 1 from rfl, Nat.and_two_pow_sub_one_eq_mod]
  exact wrap_i32 _ (by omega) (by omega)
theorem u32_low6 (d : Nat) (hd : d < 4294967296) : bits .and .u32 (d : Int) 63 = ((d % 64 : Nat) : Int) := by
  have := u32_and_nat d 63 hd (by omega)
  rw [show (63 : Nat) = 2 ^ 6 - 1 from rfl, Nat.and_two_pow_sub_one_eq_mod] at this
  exact this
theorem u32_join (a b k : Nat) (ha : a * 2 ^ k < 4294967296) (hb : b < 2 ^ k) (hk : 2 ^ k ≤ 4294967296) : bits .or .u32 ((a * 2 ^ k : Nat) : Int) (b : Int) = ((a * 2 ^ k + b : Nat) : Int) := by
  rw [u32_or_nat _ _ ha (by omega), Nat.mul_comm, ← Nat.two_pow_add_eq_or_of_lt hb]
def uv (us : List Nat) : List Value := us.map fun (u : Nat) => Value.int .u16 (u : Int)
theorem uv_length (us : List Nat) : (uv us).length = us.length := by simp [uv]
theorem uv_append (a b : List Nat) : uv (a ++ b) = uv a ++ uv b := by simp [uv]
theorem uv_one (a : List Nat) : ∀ u ∈ uv a, u.oneCell' = true := by
  intro u hu
  unfold uv at hu
  obtain ⟨x, _, rfl⟩ := List.mem_map.1 hu
  rfl
theorem Tryd.infoU16 : (Tryd.prog.info? 52).map (fun i => (i.zero, i.size, i.bytes)) = some (some (.int .u16 0), 1, 2) := by kernel_rfl
theorem Tryd.szU16 : ∀ w, (Go.sizeOf 52).run Tryd.prog w = .ok 1 w := fun w => by kernel_rfl
/-- A row of units of one's own. -/
def URow (w : World) (v : Value) (us : List Nat) : Prop := VRow w 52 v (uv us)
theorem URow.shape {w : World} {v : Value} {us : List Nat} (h : URow w v us) : ∃ A c, v = .slice A us.length c ∧ us.length ≤ c ∧ c ≤ maxLen := by
  obtain ⟨A, c, e, h1, h2⟩ := VRow.shape h
  rw [uv_length] at e h1
  exact ⟨A, c, e, h1, h2⟩
theorem URow.lit {w : World} {v : Value} {us : List Nat} (h : URow w v us) (xs : List Nat) (hp : 0 < xs.length) (hl : us.length + xs.length ≤ 70368744177664) (cs : Array Value) (hcs : cs = (uv xs).toArray) (n c : Nat) (hn : n = xs.length) :
    ∃ A' c' U W', Hid (U = us ++ xs) ∧ (Builtin.append_ #[31, 31] 31 #[v, .slice (some ⟨w.heap.size, 0, none⟩) n c]).run Tryd.prog (w.alloc (.cells cs 52)) = .ok (.slice A' U.length c') W' ∧ URow W' (.slice A' U.length c') U ∧ Only (blk v) w W' ∧ Grows (blk v) (blk (.slice A' U.length c')) w := by
  subst hcs hn
  obtain ⟨v', w', hr, h2, h3, h4⟩ := vrow_lit (P := Tryd.prog) w 31 31 52 (.int .u16 0) 2 Tryd.infoU16 Tryd.underlying31 rfl v (uv us) h (uv xs) (uv_one xs) (by rw [uv_length]; exact hp) (by rw [uv_length, uv_length]; omega) (by decide) xs.length c (by rw [uv_length])
  rw [← uv_append] at h2
  obtain ⟨A', c', rfl, _, _⟩ := URow.shape h2
  exact ⟨A', c', _, w', Lib.hid rfl, hr, h2, h3, h4⟩

/-- A row of units handed back. -/
def UEnd (v : Value) (us : List Nat) (w : World) (e : Ending) (w' : World) : Prop := ∃ A c U, Hid (U = us) ∧ e = .returned (.slice A U.length c) ∧ URow w' (.slice A U.length c) U ∧ Only (blk v) w w' ∧ Grows (blk v) (blk (.slice A U.length c)) w

set_option maxHeartbeats 800000 in
set_option maxRecDepth 100000 in
theorem appendUnits_any (w : World) (v : Value) (us : List Nat) (h : URow w v us) (r : Nat) (hr : r ≤ 1114111) (hl : us.length ≤ 35184372088832) :
    Calls Tryd.prog 21 #[v, .int .i32 (r : Int)] w (UEnd v (us ++ U7.unitsOf r) w) := by
  obtain ⟨A0, c0, rfl, hc0, hm0⟩ := h.shape
  by_cases h1 : r < 65536
  · have e : U7.unitsOf r = [r] := by unfold U7.unitsOf; rw [if_pos h1]
    rw [e]
    obtain ⟨A', c', U, W', HU, hrun, k1, k2, k3⟩ := h.lit [r] (by simp) (by simp; omega) #[.int .u16 (r : Int)] rfl 1 1 rfl
    have HR := Lib.hid hrun
    have HK := Lib.hid (And.intro k1 (And.intro k2 k3))
    have c1 : (r : Int) < 65536 := by omega
    have cw : IntKind.u16.wrap (r : Int) = (r : Int) := wrap_u16 _ (by omega) (by omega)
    clear h e hrun k1 k2 k3
    go_enter Tryd.func21, Tryd.ntmps21
    go_wp2_with (at_builtin; refine wpList_append_run rfl _ _ 31 rfl _ (.slice A0 us.length c0) (.slice (some ⟨w.heap.size, 0, none⟩) 1 1) rfl rfl (.slice A' U.length c') W' (by exact HR.out) ?_)
    go_wp2
    go_ret
    exact ⟨A', c', U, HU, rfl, HK.out.1, HK.out.2.1, HK.out.2.2⟩
  · have e : U7.unitsOf r = [55296 + (r - 65536) / 1024, 56320 + (r - 65536) % 1024] := by unfold U7.unitsOf; rw [if_neg h1]
    rw [e]
    obtain ⟨d, hrd⟩ : ∃ d, r = d + 65536 := ⟨r - 65536, by omega⟩
    have hd : d < 1048576 := by omega
    have c2 : (r : Int) - 65536 = (d : Int) := by omega
    obtain ⟨hi, HHI⟩ : ∃ hi, Hid (hi = 55296 + (r - 65536) / 1024) := ⟨_, Lib.hid rfl⟩
    obtain ⟨lo, HLO⟩ : ∃ lo, Hid (lo = 56320 + (r - 65536) % 1024) := ⟨_, Lib.hid rfl⟩
    rw [← HHI.out, ← HLO.out]
    obtain ⟨A', c', U, W', HU, hrun, k1, k2, k3⟩ := h.lit [hi, lo] (by simp) (by simp; omega) #[.int .u16 (hi : Int), .int .u16 (lo : Int)] rfl 2 2 rfl
    have HR := Lib.hid hrun
    have HK := Lib.hid (And.intro k1 (And.intro k2 k3))
    have c1 : ¬ (r : Int) < 65536 := by omega
    obtain ⟨q, HQ⟩ : ∃ q, Hid (q = d % 1024) := ⟨_, Lib.hid rfl⟩
    have hq : q < 1024 := by rw [HQ.out]; omega
    have c3 : bits .and .i32 (d : Int) 1023 = (q : Int) := by rw [HQ.out]; exact i32_low10 d hd
    have c4 : 55296 + (d : Int) / 1024 = (hi : Int) := by rw [HHI.out]; omega
    have c5 : 56320 + (q : Int) = (lo : Int) := by rw [HLO.out, HQ.out]; omega
    have c6 : (hi : Int) < 65536 := by rw [← c4]; omega
    have c7 : (lo : Int) < 65536 := by rw [← c5]; omega
    clear h e hrun k1 k2 k3 h1 hrd
    go_enter Tryd.func21, Tryd.ntmps21
    go_wp2_with (at_builtin; refine wpList_append_run rfl _ _ 31 rfl _ (.slice A0 us.length c0) (.slice (some ⟨w.heap.size, 0, none⟩) 2 2) rfl rfl (.slice A' U.length c') W' (by exact HR.out) ?_)
    go_wp2
    go_ret
    exact ⟨A', c', U, HU, rfl, HK.out.1, HK.out.2.1, HK.out.2.2⟩
end Go.Proofs.YtpjgacmcpbpklaaDoor
