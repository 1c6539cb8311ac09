/- The walks of package octet's atomByte and Atom. -/
import Derived.Test.YtmdbfjfdkgdmnaaDoorOctQuote2
import Derived.Test.YtmdbfjfdkgdmnaaDoorShelf
namespace Go.Proofs.YtmdbfjfdkgdmnaaDoor
open Go.RowKit

theorem index_special (b : UInt8) : decide (Lib.indexByte [40, 41, 123, 37, 42, 34, 92, 93] b < 0) = !(Oct.specials.contains b) := by
  unfold Oct.specials
  by_cases h : b ∈ [(40 : UInt8), 41, 123, 37, 42, 34, 92, 93]
  · have : 0 ≤ Lib.indexByte [40, 41, 123, 37, 42, 34, 92, 93] b := by
      simp only [List.mem_cons, List.not_mem_nil, or_false] at h
      rcases h with rfl | rfl | rfl | rfl | rfl | rfl | rfl | rfl <;> decide
    have h2 : ([(40 : UInt8), 41, 123, 37, 42, 34, 92, 93].contains b) = true := by simpa using h
    rw [h2]; simp; omega
  · have h2 : ([(40 : UInt8), 41, 123, 37, 42, 34, 92, 93].contains b) = false := by simpa using h
    rw [h2]
    simp only [List.mem_cons, List.not_mem_nil, or_false, not_or] at h
    obtain ⟨h1, h2, h3, h4, h5, h6, h7, h8⟩ := h
    have n (x y : UInt8) (hh : ¬ x = y) : (y == x) = false := by rw [beq_eq_false_iff_ne]; exact fun e => hh e.symm
    simp [Lib.indexByte, n _ _ h1, n _ _ h2, n _ _ h3, n _ _ h4, n _ _ h5, n _ _ h6, n _ _ h7, n _ _ h8]

def someB (b : UInt8) : Bool := decide (Lib.indexByte [40, 41, 123, 37, 42, 34, 92, 93] b < 0)

set_option maxHeartbeats 400000 in
theorem atomByte_any (b : UInt8) (r : Bool) (hr : Oct.atomB b = r) (w : World) : Calls Tryd.prog 27 #[.int .u8 (b.toNat : Int)] w fun e w' => e = .returned (.bool r) ∧ w = w' := by
  subst hr
  have hb : (b.toNat : Int).toNat.toUInt8 = b := by simp
  have hi : ∀ w : World, Calls Tryd.prog 33 #[.string ⟨#[40, 41, 123, 37, 42, 34, 92, 93]⟩, .int .u8 (b.toNat : Int)] w fun e w' => e = .returned (.int .i64 (Lib.indexByte [40, 41, 123, 37, 42, 34, 92, 93] b)) ∧ w' = w := fun w => by
    have h := Tryd.strings_IndexByte ⟨#[40, 41, 123, 37, 42, 34, 92, 93]⟩ (b.toNat : Int) w
    rw [hb] at h
    exact h
  have hsp := index_special b
  generalize Lib.indexByte [40, 41, 123, 37, 42, 34, 92, 93] b = q at hi hsp
  have hat : Oct.atomB b = (decide (33 ≤ b.toNat) && decide (b.toNat ≤ 126) && decide (q < 0)) := by rw [hsp]; rfl
  rw [hat]
  have H := Lib.hid hi
  clear hi hb hsp hat
  by_cases h1 : 33 ≤ (b.toNat : Int) ∧ (b.toNat : Int) ≤ 126
  · obtain ⟨h1, h2⟩ := h1
    have e1 : decide (33 ≤ b.toNat) = true := by simp; omega
    have e2 : decide (b.toNat ≤ 126) = true := by simp; omega
    rw [e1, e2]
    clear e1 e2
    go_enter Tryd.func27, Tryd.ntmps27
    go_wp2_with (go_at_call 33; refine (H.out _).mono ?_; rintro e w' ⟨rfl, rfl⟩)
    go_ret
    exact ⟨rfl, rfl⟩
  · have e1 : (decide (33 ≤ b.toNat) && decide (b.toNat ≤ 126)) = false := by
      rw [Bool.eq_false_iff]; simp; omega
    rw [e1]
    by_cases h2 : (b.toNat : Int) < 33
    · have h3 : decide (33 ≤ (b.toNat : Int)) = false := by simp; omega
      go_enter Tryd.func27, Tryd.ntmps27
      go_wp2
      go_ret
      exact ⟨rfl, rfl⟩
    · have h3 : decide (33 ≤ (b.toNat : Int)) = true := by simp; omega
      have h4 : decide ((b.toNat : Int) ≤ 126) = false := by simp; omega
      go_enter Tryd.func27, Tryd.ntmps27
      go_wp2
      go_ret
      exact ⟨rfl, rfl⟩

set_option maxHeartbeats 400000 in
theorem atom_any (s : ByteArray) (r : Bool) (hr : Oct.atom s.data.toList = r) (w : World) (hs : s.size ≤ maxLen) : Calls Tryd.prog 11 #[.string s] w fun e w' => e = .returned (.bool r) ∧ w = w' := by
  subst hr
  unfold maxLen at hs
  go_enter Tryd.func11, Tryd.ntmps11
  go_wp2
  go_loop [6] (fun i => ∃ k : Nat, k ≤ s.size ∧ i = .int .i64 k ∧ (s.data.toList.take k).all Oct.atomB = true) (fun i => s.size - (intOf i).toNat)
  case atStart => exact ⟨0, Nat.zero_le _, rfl, rfl⟩
  case round =>
    obtain ⟨k, hk, rfl, hall⟩ := hrel
    by_cases hlt : k < s.size
    · have hlt' : k < s.data.toList.length := by simpa using hlt
      have hsk : s.data.toList[k] = s[k] := rfl
      cases hp : Oct.atomB s[k] with
      | false =>
        have HQ := Lib.hid hp
        clear hp
        go_wp2_with (go_at_call 27; refine (atomByte_any _ _ HQ.out _).mono ?_; rintro e w' ⟨rfl, rfl⟩)
        go_ret
        refine ⟨ret_bool ?_, rfl⟩
        have := Oct.all_not Oct.atomB s.data.toList k hlt' HQ.out
        unfold Oct.atom; rw [this]; simp
      | true =>
        have HQ := Lib.hid hp
        clear hp
        go_wp2_with (go_at_call 27; refine (atomByte_any _ _ HQ.out _).mono ?_; rintro e w' ⟨rfl, rfl⟩)
        go_round
        case rel => exact ⟨k + 1, by omega, by go_num, Oct.all_take _ _ _ hlt' hall HQ.out⟩
        case measure => simp [intOf]; omega
    · have e : s.data.toList.take k = s.data.toList := List.take_of_length_le (by simp; omega)
      rw [e] at hall
      have HA := Lib.hid hall
      clear hall e
      go_wp2
      all_goals
        go_ret
        refine ⟨ret_bool ?_, rfl⟩
        unfold Oct.atom; rw [HA.out]
      rw [Go.ByteArray.toList_eq]; simp
end Go.Proofs.YtmdbfjfdkgdmnaaDoor
