/- Package dev's Fuse. -/
import Derived.Test.YtambddncncaehaaDoorDevBlow
namespace Go.Proofs.YtambddncncaehaaDoor
open Go.RowKit Dk
set_option linter.unusedVariables false

def CloneEnd (keep : List Int) (w : World) (e : Ending) (w' : World) : Prop :=
  ∃ A n c, e = .returned (.slice A n c) ∧ w'.ownsRow w.heap.size 3 1 (.slice A n c) keep.length (keep.map (Value.int .i64)) ∧ Below w.heap.size w w'
theorem cloneI_any (A : Option Addr) (n c : Nat) (keep : List Int) (hn : n = keep.length) (hk : keep.length ≤ 100000) (w : World) (hs : SeesI w w.heap.size A keep) :
    Calls Tryd.prog 31 #[.slice A n c] w (CloneEnd keep w) := by
  subst hn
  cases A with
  | none =>
    have h0 : keep = [] := Classical.byContradiction fun hn => by
      obtain ⟨g, o, e, _⟩ := hs hn
      cases e
    subst h0
    refine (Tryd.slices_Clone_int_nil 0 c w).mono ?_
    rintro e w' ⟨rfl, rfl⟩
    exact ⟨none, 0, 0, rfl, World.ownsRow_nil _ _ _ _, Below.refl _ _⟩
  | some a =>
    by_cases h0 : keep = []
    · subst h0
      refine (Tryd.slices_Clone_int_zero a c w).mono ?_
      rintro e w' ⟨v', rfl, h1, _, h2⟩
      obtain ⟨A', c', rfl, _⟩ := own_shape h1
      exact ⟨A', 0, c', rfl, h1, h2⟩
    · obtain ⟨g, o, e, hg, hc⟩ := hs h0
      injection e with e
      subst e
      refine (Tryd.slices_Clone_int g o keep.length c keep w (Nat.le_refl _) (by omega) (fun j hj => by rw [hc j hj]; simp [List.getD, List.getElem?_eq_getElem hj])).mono ?_
      rintro e w' ⟨v', rfl, h1, _, h2⟩
      obtain ⟨A', c', rfl, _⟩ := own_shape h1
      rw [List.take_length] at h1
      exact ⟨A', _, c', rfl, h1, h2⟩

set_option maxHeartbeats 1000000 in
set_option maxRecDepth 100000 in
theorem arm_any {F : List Nat} {d : Nat} {S : Disk} (w : World) (h : DevM w F d S) (calls : Int) (hcw : calls ≤ 9223372036854775807) (A : Option Addr) (n c : Nat) (keep : List Int) (hn : n = keep.length) (hk : keep.length ≤ 100000) (hs : SeesI w w.heap.size A keep) (hA : keep ≠ [] → ∀ a, A = some a → a.block ∉ F) (torn : Int) :
    Calls Tryd.prog 20 #[.pointer (some ⟨d, 0, none⟩), .int .i64 calls, .slice A n c, .int .i64 torn] w (DevEnd F d (S.arm calls keep torn) (.tuple #[]) w) := by
  have h0 := h
  obtain ⟨sb, cap, vc, vk, tn, h1, h2, h3, h4, h5, h6, h7, h8, h9, h10⟩ := h
  obtain ⟨_, _, hc, c3, c4, c5⟩ := h1.cells
  cases ho : S.off
  case true =>
    rw [ho] at hc
    have key : DevEnd F d (S.arm calls keep torn) (.tuple #[]) w (.returned (.tuple #[])) w := ⟨rfl, F, by unfold Disk.arm; rw [ho]; exact h0, Only.refl _ _, Grows.refl _ _⟩
    have HK := Lib.hid key
    clear key h0 h1 h2 h3 h4 h5 h6 h7 h8 ho hs h9 hcw c3 c4 c5
    go_enter Tryd.func20, Tryd.ntmps20
    go_wp2
    go_end0
    exact HK.out
  case false =>
    rw [ho] at hc
    obtain ⟨Ak, nk, ck, rfl⟩ := h2
    have f3 := h1.free 3
    have f4 := h1.free 4
    have f5 := h1.free 5
    have hok := h8.arm calls keep torn
    obtain ⟨wz, HWZ⟩ : ∃ x, Hid (x = ((w.setCell ⟨d, 3, none⟩ (.int .i64 0)).setCell ⟨d, 4, none⟩ (.slice none 0 0)).setCell ⟨d, 5, none⟩ (.int .i64 0)) := ⟨_, Lib.hid rfl⟩
    have hdz : DevC wz d sb cap S.dur S.last vc S.cache S.off 0 (.slice none 0 0) 0 := by rw [HWZ.out]; exact ((h1.put3 0).put4 _).put5 0
    have hOz : Only F w wz := by rw [HWZ.out]; exact (((Only.refl _ _).setCell (.inl h4) _).setCell (.inl h4) _).setCell (.inl h4) _
    by_cases hc1 : calls < 1
    · have har : S.arm calls keep torn = { S with calls := 0, keep := [], torn := 0 } := by unfold Disk.arm; rw [ho]; simp [hc1]
      have key : DevEnd F d (S.arm calls keep torn) (.tuple #[]) w (.returned (.tuple #[])) wz := by
        rw [har] at hok ⊢
        exact ⟨rfl, F, ⟨sb, cap, vc, .slice none 0 0, 0, hdz, ⟨none, 0, 0, rfl⟩, fun h => absurd rfl h, h4, h5, h6, fun b hb => Nat.lt_of_lt_of_le (h7 b hb) hOz.size, hok, by show (0 : Int) ≤ _; omega, h10⟩, hOz, Grows.refl _ _⟩
      rw [HWZ.out] at key
      have HK := Lib.hid key
      clear key h0 h1 h3 h4 h5 h6 h7 h8 ho hs h9 hcw hok hdz hOz har
      go_enter Tryd.func20, Tryd.ntmps20
      go_wp2
      go_end0
      exact HK.out
    · have har : S.arm calls keep torn = { S with calls := calls.toNat, keep := keep, torn := torn } := by unfold Disk.arm; rw [ho]; simp [hc1]
      obtain ⟨m, rfl⟩ : ∃ m : Nat, calls = (m : Int) := ⟨calls.toNat, by omega⟩
      rw [Int.toNat_natCast] at har
      have hsz : SeesI wz wz.heap.size A keep := fun hne => by
        obtain ⟨g, o, e, hg, hcell⟩ := hs hne
        exact ⟨g, o, e, Nat.lt_of_lt_of_le hg hOz.size, fun j hj => (hOz.cell (a := ⟨g, o + j, none⟩) hg (show g ∉ F from hA hne _ e)).trans (hcell j hj)⟩
      have hcl := cloneI_any A n c keep hn hk wz hsz
      have hm1 : (0 : Int) < (m : Int) := by omega
      have HZ := Lib.hid hdz
      have HOZ := Lib.hid hOz
      have HCL := Lib.hid hcl
      have H := Lib.hid (⟨h4, h5, h6, h7⟩ : d ∈ F ∧ sb ∈ F ∧ (∀ k, vc.ownBlock = some k → k ∈ F) ∧ ∀ b, b ∈ F → b < w.heap.size)
      have HAR := Lib.hid har
      have HOK := Lib.hid hok
      have H10 := Lib.hid h10
      have HCW := Lib.hid hcw
      clear h0 h1 h3 h4 h5 h6 h7 h8 ho hs h9 hcw hok hdz hOz har hsz hcl hc1 hn
      go_enter Tryd.func20, Tryd.ntmps20
      go_wp2_with fail
      rw [← HWZ.out]
      refine HCL.out.mono ?_
      rintro e w2 ⟨A2, n2, c2, rfl, hown, hb2⟩
      have hd2 := HZ.out.below hb2
      obtain ⟨_, _, _, p3, p4, p5⟩ := hd2.cells
      have q3 := hd2.free 3
      have q4 := hd2.free 4
      have q5 := hd2.free 5
      have hO2 : Only F w (((w2.setCell ⟨d, 3, none⟩ (.int .i64 (m : Int))).setCell ⟨d, 4, none⟩ (.slice A2 n2 c2)).setCell ⟨d, 5, none⟩ (.int .i64 torn)) :=
        (((HOZ.out.trans (Only.of_below hb2)).setCell (.inl H.out.1) _).setCell (.inl H.out.1) _).setCell (.inl H.out.1) _
      have key : DevEnd F d (S.arm (m : Int) keep torn) (.tuple #[]) w (.returned (.tuple #[])) (((w2.setCell ⟨d, 3, none⟩ (.int .i64 (m : Int))).setCell ⟨d, 4, none⟩ (.slice A2 n2 c2)).setCell ⟨d, 5, none⟩ (.int .i64 torn)) := by
        have hok := HOK.out
        rw [HAR.out] at hok ⊢
        have hne := own_ne hown hd2.blk (by decide)
        have hd3 := ((hd2.put3 m).put4 (.slice A2 n2 c2)).put5 torn
        have hz : w.heap.size ≤ wz.heap.size := HOZ.out.size
        refine ⟨rfl, (Value.slice A2 n2 c2).ownBlock.toList ++ F, ⟨sb, cap, vc, .slice A2 n2 c2, torn, hd3, ⟨_, _, _, rfl⟩, fun _ => ⟨rfl, ?_, fun k hk => List.mem_append_left _ (by rw [hk]; simp)⟩, List.mem_append_right _ H.out.1, List.mem_append_right _ H.out.2.1, fun k hk => List.mem_append_right _ (H.out.2.2.1 k hk), fun b hb => ?_, hok, HCW.out, H10.out⟩, hO2, fun b hb => ?_⟩
        · exact own_base (own_only (own_only (own_only hown (only_setCell _ _ _) (fun k hk => by simpa using hne k hk)) (only_setCell _ _ _) (fun k hk => by simpa using hne k hk)) (only_setCell _ _ _) (fun k hk => by simpa using hne k hk)) (Nat.zero_le _)
        · rcases List.mem_append.1 hb with hb | hb
          · have hb2' : (Value.slice A2 n2 c2).ownBlock = some b := by
              cases hv : (Value.slice A2 n2 c2).ownBlock with
              | none => rw [hv] at hb; simp at hb
              | some k => rw [hv] at hb; simp at hb; rw [hb]
            have := (hown.lt b hb2').2
            simpa [World.setCell] using this
          · exact Nat.lt_of_lt_of_le (H.out.2.2.2 b hb) hO2.size
        · rcases List.mem_append.1 hb with hb | hb
          · have hb2' : (Value.slice A2 n2 c2).ownBlock = some b := by
              cases hv : (Value.slice A2 n2 c2).ownBlock with
              | none => rw [hv] at hb; simp at hb
              | some k => rw [hv] at hb; simp at hb; rw [hb]
            exact .inr (Nat.le_trans hz (hown.lt b hb2').1)
          · exact .inl hb
      have HK := Lib.hid key
      clear key hown hb2 hd2 hO2
      go_wp2
      go_end0
      exact HK.out
end Go.Proofs.YtambddncncaehaaDoor
