/- Package dev's Crash over whole devices; blow, Flush, On. -/
import Derived.Test.YtambddncncaehaaDoorDevCrash
import Derived.IntWalk
namespace Go.Proofs.YtambddncncaehaaDoor
open Go.RowKit Dk
set_option linter.unusedVariables false

theorem shape_of_own {w : World} {base e n size : Nat} {v : Value} {xs : List Value} (h : w.ownsRow base e size v n xs) : ∃ A n c, v = .slice A n c := by
  obtain ⟨A, c, e, _⟩ := own_shape h
  exact ⟨A, n, c, e⟩

theorem only_ds {F : List Nat} {d sb : Nat} {w w' : World} (h4 : d ∈ F) (h5 : sb ∈ F) (h : Only [d, sb] w w') : Only F w w' := h.more (fun b hb => by
  rcases List.mem_cons.1 hb with e | e
  · rw [e]; exact h4
  · rw [List.mem_singleton.1 e]; exact h5)

theorem crash_any {F : List Nat} {d : Nat} {S : Disk} (w : World) (h : DevM w F d S) (hcl : S.cache.length ≤ 100000)
    (A : Option Addr) (n c : Nat) (keep : List Int) (hn : n = keep.length) (hnc : n ≤ c) (hcm : c ≤ maxLen) (hk : SeesI w w.heap.size A keep) (torn : Int) :
    Calls Tryd.prog 15 #[.pointer (some ⟨d, 0, none⟩), .slice A n c, .int .i64 torn] w (DevEnd F d (S.crash keep torn) (.tuple #[]) w) := by
  have h0 := h
  obtain ⟨sb, cap, vc, vk, tn, h1, h2, h3, h4, h5, h6, h7, h8, h9, h10⟩ := h
  cases ho : S.off
  case true =>
    obtain ⟨_, _, hc, _⟩ := h1.cells
    rw [ho] at hc
    have key : DevEnd F d (S.crash keep torn) (.tuple #[]) w (.returned (.tuple #[])) w := ⟨rfl, F, by unfold Disk.crash; rw [ho]; exact h0, Only.refl _ _, Grows.refl _ _⟩
    have HK := Lib.hid key
    clear key h0 h1 h2 h3 h4 h5 h6 h7 h8 ho hk
    go_enter Tryd.func15, Tryd.ntmps15
    go_wp2
    go_end0
    exact HK.out
  case false =>
    have h1' : DevC w d sb cap S.dur (putAll S.dur S.cache) vc S.cache false S.calls vk tn := by rw [← ho]; exact h1
    refine (crash_on h1' h2 h8.wr h8.sec hcl A n c keep hn hnc hcm hk torn).mono ?_
    rintro e w' ⟨rfl, hd, hO⟩
    have hcr : S.crash keep torn = ⟨fallTo keep torn S.dur S.cache S.cache.length, [], true, 0, [], 0⟩ := by unfold Disk.crash; rw [ho]; rfl
    refine ⟨rfl, F, ?_, only_ds h4 h5 hO, Grows.refl _ _⟩
    have hok := h8.crash keep torn
    rw [hcr] at hok ⊢
    exact ⟨sb, cap, .slice none 0 0, .slice none 0 0, 0, hd, ⟨none, 0, 0, rfl⟩, fun h => absurd rfl h, h4, h5, fun k hk => by simp [Value.ownBlock] at hk, fun b hb => Nat.lt_of_lt_of_le (h7 b hb) hO.size, hok, by show (0 : Int) ≤ _; omega, by show (fallTo keep torn S.dur S.cache S.cache.length).length ≤ _; rw [fallTo_length]; exact h10⟩

theorem on_any {F : List Nat} {d : Nat} {S : Disk} (w : World) (h : DevM w F d S) : Calls Tryd.prog 17 #[.pointer (some ⟨d, 0, none⟩)] w (DevEnd F d S.on (.tuple #[]) w) := by
  obtain ⟨sb, cap, vc, vk, tn, h1, h2, h3, h4, h5, h6, h7, h8, h9, h10⟩ := h
  obtain ⟨_, _, hc, _⟩ := h1.cells
  have hf := h1.free 2
  have hO : Only F w (w.setCell ⟨d, 2, none⟩ (.bool false)) := (Only.refl _ _).setCell (.inl h4) _
  have key : DevEnd F d S.on (.tuple #[]) w (.returned (.tuple #[])) (w.setCell ⟨d, 2, none⟩ (.bool false)) :=
    ⟨rfl, F, ⟨sb, cap, vc, vk, tn, h1.put2 false, h2, fun h => ⟨(h3 h).1, own_only (h3 h).2.1 (only_setCell w _ _) (fun k hk => by simpa using own_ne (h3 h).2.1 h1.blk (by decide) k hk), (h3 h).2.2⟩, h4, h5, h6, fun b hb => Nat.lt_of_lt_of_le (h7 b hb) hO.size, h8.on, h9, h10⟩, hO, Grows.refl _ _⟩
  have HK := Lib.hid key
  clear key h1 h2 h3 h4 h5 h6 h7 h8 hO
  go_enter Tryd.func17, Tryd.ntmps17
  go_wp2
  go_end0
  exact HK.out

set_option maxHeartbeats 1000000 in
set_option maxRecDepth 100000 in
theorem blow_any {F : List Nat} {d : Nat} {S : Disk} (w : World) (h : DevM w F d S) (hcl : S.cache.length ≤ 100000) : Calls Tryd.prog 51 #[.pointer (some ⟨d, 0, none⟩)] w (DevEnd F d S.blow (.bool S.blows) w) := by
  have h0 := h
  obtain ⟨sb, cap, vc, vk, tn, h1, h2, h3, h4, h5, h6, h7, h8, h9, h10⟩ := h
  obtain ⟨_, _, _, hc, hc4, hc5⟩ := h1.cells
  have hf := h1.free 3
  by_cases hz : S.calls = 0
  · have key : DevEnd F d S.blow (.bool S.blows) w (.returned (.bool false)) w := ⟨by simp [Disk.blows, hz], F, by unfold Disk.blow; rw [if_pos hz]; exact h0, Only.refl _ _, Grows.refl _ _⟩
    rw [hz] at hc
    replace hc : w.cell? ⟨d, 3, none⟩ = some (.int .i64 0) := hc
    have HK := Lib.hid key
    clear key h0 h1 h2 h3 h4 h5 h6 h7 h8 hc4 hc5 hz h9
    go_enter Tryd.func51, Tryd.ntmps51
    go_wp2
    go_ret
    exact HK.out
  · obtain ⟨q, hq⟩ : ∃ q, S.calls = q + 1 := ⟨S.calls - 1, by omega⟩
    obtain ⟨e3, o3, f3⟩ := h3 hz
    have hown : (w.setCell ⟨d, 3, none⟩ (.int .i64 (q : Int))).ownsRow 0 3 1 vk S.keep.length (S.keep.map (Value.int .i64)) := own_only o3 (only_setCell w _ _) (fun k hk => by simpa using own_ne o3 h1.blk (by decide) k hk)
    have hO : Only F w (w.setCell ⟨d, 3, none⟩ (.int .i64 (q : Int))) := (Only.refl _ _).setCell (.inl h4) _
    have hd := h1.put3 q
    rw [hq] at hc h9
    replace hc : w.cell? ⟨d, 3, none⟩ = some (.int .i64 ((q : Int) + 1)) := by rw [hc]; simp
    have hne : (((q : Int) + 1) == 0) = false := by simp; omega
    replace h9 : (q : Int) + 1 ≤ 9223372036854775807 := by simpa using h9
    by_cases hq0 : q = 0
    · subst hq0
      obtain ⟨Ak, ck, rfl, ak1, ak2⟩ := own_shape o3
      have hcr : S.blow = S.crash S.keep S.torn := by unfold Disk.blow; rw [if_neg hz, if_pos hq]
      have hb1 : S.blows = true := by simp [Disk.blows, hq]
      have hoff : S.off = false := by
        cases ho : S.off
        · rfl
        · have := (h8.dark ho).2; omega
      rw [hoff] at hd
      subst e3
      have hcd : ∀ W, Only [] (w.setCell ⟨d, 3, none⟩ (.int .i64 ((0 : Nat) : Int))) W → Calls Tryd.prog 15 #[.pointer (some ⟨d, 0, none⟩), .slice Ak S.keep.length ck, .int .i64 S.torn] W (DevEnd F d S.blow (.tuple #[]) w) := fun W hW => by
        have hown' := own_only hown hW (by simp)
        refine (crash_on (hd.only hW (by simp) (by simp) (by simp)) ⟨_, _, _, rfl⟩ h8.wr h8.sec hcl Ak S.keep.length ck S.keep rfl ak1 ak2 (SeesI.of_own hown') S.torn).mono ?_
        rintro e w' ⟨rfl, hdd, hOO⟩
        have hcr2 : S.crash S.keep S.torn = ⟨fallTo S.keep S.torn S.dur S.cache S.cache.length, [], true, 0, [], 0⟩ := by unfold Disk.crash; rw [hoff]; rfl
        have hok := h8.crash S.keep S.torn
        have hW2 : Only F w w' := (hO.trans (hW.more (fun b hb => by cases hb))).trans (only_ds h4 h5 hOO)
        rw [hcr]
        rw [hcr2] at hok ⊢
        exact ⟨rfl, F, ⟨sb, cap, .slice none 0 0, .slice none 0 0, 0, hdd, ⟨none, 0, 0, rfl⟩, fun h => absurd rfl h, h4, h5, fun k hk => by simp [Value.ownBlock] at hk, fun b hb => Nat.lt_of_lt_of_le (h7 b hb) hW2.size, hok, by show (0 : Int) ≤ _; omega, by show (fallTo S.keep S.torn S.dur S.cache S.cache.length).length ≤ _; rw [fallTo_length]; exact h10⟩, hW2, Grows.refl _ _⟩
      have HCD := Lib.hid hcd
      obtain ⟨R, HR⟩ : ∃ R, Hid (R = S.blow) := ⟨_, Lib.hid rfl⟩
      rw [hb1]
      rw [← HR.out] at HCD ⊢
      obtain ⟨tn, HT⟩ : ∃ x, Hid (x = S.torn) := ⟨_, Lib.hid rfl⟩
      obtain ⟨ln, HLN⟩ : ∃ x, Hid (x = S.keep.length) := ⟨_, Lib.hid rfl⟩
      rw [← HT.out, ← HLN.out] at HCD
      rw [← HT.out] at hc5
      rw [← HLN.out] at hc4
      replace hc : w.cell? ⟨d, 3, none⟩ = some (.int .i64 1) := hc
      clear h0 h1 h2 h3 h4 h5 h6 h7 h8 hz hq o3 f3 hown hO hd hcr hb1 hoff hcd ak1 ak2 hne h9
      go_enter Tryd.func51, Tryd.ntmps51
      go_wp2
      obtain ⟨W, HW⟩ : ∃ W, Hid (W = w.setCell ⟨d, 3, none⟩ (.int .i64 0)) := ⟨_, Lib.hid rfl⟩
      rw [← HW.out]
      have n4 : W.cell? ⟨d, 4, none⟩ = some (.slice Ak ln ck) := by rw [HW.out]; exact (World.cell?_setCell_other _ _ _ _ (by simp)).trans hc4
      have n5 : W.cell? ⟨d, 5, none⟩ = some (.int .i64 tn) := by rw [HW.out]; exact (World.cell?_setCell_other _ _ _ _ (by simp)).trans hc5
      clear hc hc4 hc5 hf
      go_still_tail 11, (by kernel_rfl)
      go_wp2_with fail
      refine (HCD.out _ (by rw [← show w.setCell ⟨d, 3, none⟩ (.int .i64 0) = w.setCell ⟨d, 3, none⟩ (.int .i64 ((0 : Nat) : Int)) from rfl, ← HW.out]; exact Only.of_below (Below.refl _ _).drew)).mono ?_
      rintro e w' ⟨rfl, hR⟩
      have HRR := Lib.hid hR
      clear hR
      go_wp2
      go_ret
      exact ⟨rfl, HRR.out⟩
    · have hb1 : S.blows = false := by simp [Disk.blows, hq, hq0]
      have hcr : S.blow = { S with calls := q } := by
        unfold Disk.blow; rw [if_neg hz, if_neg (by omega)]
        rw [hq]; rfl
      have hok := h8.blow
      rw [hcr] at hok
      have key : DevEnd F d S.blow (.bool S.blows) w (.returned (.bool false)) (w.setCell ⟨d, 3, none⟩ (.int .i64 (q : Int))) := by
        rw [hb1, hcr]
        exact ⟨rfl, F, ⟨sb, cap, vc, vk, tn, hd, h2, fun _ => ⟨e3, hown, f3⟩, h4, h5, h6, fun b hb => Nat.lt_of_lt_of_le (h7 b hb) hO.size, hok, by show (q : Int) ≤ _; omega, h10⟩, hO, Grows.refl _ _⟩
      obtain ⟨z, HZ⟩ : ∃ z : Int, Hid (z = (q : Int) + 1) := ⟨_, Lib.hid rfl⟩
      have hqz : (q : Int) = z - 1 := by rw [HZ.out]; omega
      rw [hqz] at key
      rw [← HZ.out] at hc
      have hz1 : 2 ≤ z := by rw [HZ.out]; omega
      have hz2 : z ≤ 2 ^ 63 - 1 := by rw [HZ.out]; exact h9
      have hz3 : (z == 0) = false := by simp; omega
      have HK := Lib.hid key
      clear hne h9 hqz
      clear key h0 h1 h2 h3 h4 h5 h6 h7 h8 hz hq o3 f3 hown hO hd hcr hb1 hok e3 hq0 hc4 hc5
      go_enter Tryd.func51, Tryd.ntmps51
      go_wp2
      go_ret
      exact HK.out
end Go.Proofs.YtambddncncaehaaDoor
