/- The walks of package dev's Off, Unsafe, Sectors, On, has, Read. -/
import Derived.Test.YtambddncncaehaaDoorDev
import Derived.Test.YtambddncncaehaaDoorShelf
import Derived.WalkSpells
import Derived.Deep.QuietTactic
import Derived.BigQuiet
import Derived.WalkLawsBesides
import Derived.Lib.Hide
namespace Go.Proofs.YtambddncncaehaaDoor
open Go.RowKit Dk
set_option linter.unusedVariables false

theorem off_any {F : List Nat} {d : Nat} {S : Disk} (w : World) (h : DevM w F d S) : Calls Tryd.prog 19 #[.pointer (some ⟨d, 0, none⟩)] w fun e w' => e = .returned (.bool S.off) ∧ w = w' := by
  obtain ⟨sb, cap, vc, vk, tn, h1, _⟩ := h
  obtain ⟨_, _, hc, _⟩ := h1.cells
  clear h1
  go_enter Tryd.func19, Tryd.ntmps19
  go_wp2
  go_ret
  exact ⟨rfl, rfl⟩
theorem sectors_any {F : List Nat} {d : Nat} {S : Disk} (w : World) (h : DevM w F d S) : Calls Tryd.prog 23 #[.pointer (some ⟨d, 0, none⟩)] w fun e w' => e = .returned (.int .i64 (S.dur.length : Int)) ∧ w = w' := by
  obtain ⟨sb, cap, vc, vk, tn, h1, _⟩ := h
  obtain ⟨_, h2, h3⟩ := h1.slt
  obtain ⟨hc, _⟩ := h1.cells
  clear h1
  unfold maxLen at h3
  go_enter Tryd.func23, Tryd.ntmps23
  go_wp2
  go_ret
  exact ⟨rfl, rfl⟩

theorem has_any {F : List Nat} {d : Nat} {S : Disk} (at_ : Int) (w : World) (h : DevM w F d S) (b : Bool) (hb : b = S.has at_) : Calls Tryd.prog 45 #[.pointer (some ⟨d, 0, none⟩), .int .i64 at_] w fun e w' => e = .returned (.bool b) ∧ w = w' := by
  obtain ⟨sb, cap, vc, vk, tn, h1, _⟩ := h
  obtain ⟨_, h2, h3⟩ := h1.slt
  obtain ⟨hc, _⟩ := h1.cells
  clear h1
  unfold maxLen at h3
  unfold Disk.has at hb
  by_cases a1 : 0 ≤ at_
  · by_cases a2 : at_ < S.dur.length
    · have e : b = true := by rw [hb]; simp [a1, a2]
      subst e
      clear hb
      go_enter Tryd.func45, Tryd.ntmps45
      go_wp2
      go_ret
      exact ⟨rfl, rfl⟩
    · have e : b = false := by rw [hb]; simp [a2]
      subst e
      clear hb
      go_enter Tryd.func45, Tryd.ntmps45
      go_wp2
      go_ret
      exact ⟨rfl, rfl⟩
  · have e : b = false := by rw [hb]; simp [a1]
    subst e
    clear hb
    have a3 : decide (0 ≤ at_) = false := by simpa using a1
    go_enter Tryd.func45, Tryd.ntmps45
    go_wp2
    go_ret
    exact ⟨rfl, rfl⟩

def ReadEnd (S : Disk) (at_ : Int) (w : World) (e : Ending) (w' : World) : Prop :=
  ∃ A n c, e = .returned (.tuple #[.slice A n c, .int .i64 (S.readE at_)]) ∧ n = (S.readV at_).length ∧ n ≤ c ∧ c ≤ maxLen ∧ Sees w' w'.heap.size A (S.readV at_) ∧ Below w.heap.size w w' ∧ (S.readE at_ = 0 → ∃ b, A = some ⟨b, 0, none⟩ ∧ w.heap.size ≤ b ∧ b < w'.heap.size)
theorem read_any {F : List Nat} {d : Nat} {S : Disk} (at_ : Int) (w : World) (h : DevM w F d S) : Calls Tryd.prog 33 #[.pointer (some ⟨d, 0, none⟩), .int .i64 at_] w (ReadEnd S at_ w) := by
  have hh := has_any at_ w h _ rfl
  have hok := h.ok
  obtain ⟨sb, cap, vc, vk, tn, h1, _⟩ := h
  obtain ⟨hs1, h2, h3⟩ := h1.slt
  unfold maxLen at h3
  obtain ⟨hc0, _, hc, _⟩ := h1.cells
  cases ho : S.off
  case true =>
    rw [ho] at hc
    clear h1 hc0 hh hok
    have key : ReadEnd S at_ w (.returned (.tuple #[.slice none 0 0, .int .i64 7])) w := ⟨none, 0, 0, by simp [Disk.readE, ho], by simp [Disk.readV, ho], Nat.le_refl _, Nat.zero_le _, by simp [Disk.readV, ho, Sees.nil], Below.refl _ _, fun h => absurd h (by simp [Disk.readE, ho])⟩
    have HK := Lib.hid key
    clear key ho
    go_enter Tryd.func33, Tryd.ntmps33
    go_wp2
    go_ret2
    exact HK.out
  case false =>
    rw [ho] at hc
    cases hb : S.has at_
    case false =>
      rw [hb] at hh
      have key : ReadEnd S at_ w (.returned (.tuple #[.slice none 0 0, .int .i64 1])) w := ⟨none, 0, 0, by simp [Disk.readE, ho, hb], by simp [Disk.readV, ho, hb], Nat.le_refl _, Nat.zero_le _, by simp [Disk.readV, ho, hb, Sees.nil], Below.refl _ _, fun h => absurd h (by simp [Disk.readE, ho, hb])⟩
      have HK := Lib.hid key
      clear key ho hb h1 hc0 hok
      go_enter Tryd.func33, Tryd.ntmps33
      go_wp2_with (go_at_call 45; refine hh.mono ?_; rintro e w' ⟨rfl, rfl⟩)
      go_ret2
      exact HK.out
    case true =>
      rw [hb] at hh
      have hb' := hb
      simp only [Disk.has, Bool.and_eq_true, decide_eq_true_eq] at hb'
      obtain ⟨b1, b2⟩ := hb'
      obtain ⟨i, rfl⟩ : ∃ i : Nat, at_ = (i : Int) := ⟨at_.toNat, by omega⟩
      have hi : i < S.dur.length := by omega
      have hl : S.last.length = S.dur.length := h1.len
      have hcell := h1.secSnd i hi
      obtain ⟨s, hs⟩ : ∃ s, s = S.last[i]'(by omega) := ⟨_, rfl⟩
      rw [← hs] at hcell
      have hv : S.readV (i : Int) = s.data.toList := by
        simp only [Disk.readV, ho, hb, cond_true, cond_false]
        rw [hs]
        simp [List.getD, List.getElem?_eq_getElem (show i < S.last.length by omega)]
      have he : S.readE (i : Int) = 0 := by simp [Disk.readE, ho, hb]
      have hsz : s.size = 512 := by
        have := putAll_size hok.sec (fun w hw => (hok.wr w hw).2) s (by rw [hs]; exact List.getElem_mem _)
        exact this
      obtain ⟨cp, w2, hrun, hrow, hbel, hz, hcap, hcm⟩ := run_bytes_row (P := Tryd.prog) w 9 31 5 s Tryd.underlying9 Tryd.underlying31 Tryd.underlying5
      have key : ReadEnd S (i : Int) w (.returned (.tuple #[.slice (some ⟨w.heap.size, 0, none⟩) s.size cp, .int .i64 0])) w2 :=
        ⟨_, _, _, by rw [he], by rw [hv]; rfl, hcap, hcm (by rw [hsz]; decide), by rw [hv]; exact hrow.sees.mono (by omega), hbel, fun _ => ⟨_, rfl, Nat.le_refl _, by omega⟩⟩
      have HK := Lib.hid key
      clear key ho hb hok hl hs hv he hsz hrow hbel hz hcap hcm h1
      go_enter Tryd.func33, Tryd.ntmps33
      go_wp2_with (go_at_call 45; refine hh.mono ?_; rintro e w' ⟨rfl, rfl⟩)
      go_ret2
      exact HK.out
end Go.Proofs.YtambddncncaehaaDoor
