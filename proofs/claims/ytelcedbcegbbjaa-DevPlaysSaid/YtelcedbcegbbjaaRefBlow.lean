/- The reference's device: Crash over whole devices, blown. -/
import Derived.Test.YtelcedbcegbbjaaRefCrash
import Derived.IntWalk
namespace Go.Proofs.Ytelcedbcegbbjaa
open Go.RowKit Dk
set_option linter.unusedVariables false

theorem RefC.own_sb {w : World} {r n sb c : Nat} {safe : List ByteArray} {vl : Value} {cache : List Wr} {off : Bool} {fz : Int} {vk : Value} {tn : Int} (h : RefC w r n (.slice (some ⟨sb, 0, none⟩) safe.length c) safe vl cache off fz vk tn)
    {ks : List Int} (o : w.ownsRow 0 3 1 vk ks.length (ks.map (Value.int .i64))) : ∀ k, vk.ownBlock = some k → k ≠ sb := by
  rcases h.sec.2 with ⟨hv, _⟩ | ⟨g, cp, cur, hv, _, hg, _⟩
  · cases hv
  · injection hv with h1 h2 h3
    injection h1 with h1
    injection h1 with h1 _ _
    subst h1
    exact own_ne o hg (by decide)

theorem ref_crash {G : List Nat} {r : Nat} {S : Disk} (w : World) (h : RefM w G r S) (hd : 0 < S.dur.length)
    (A : Option Addr) (n c : Nat) (keep : List Int) (hn : n = keep.length) (hnc : n ≤ c) (hcm : c ≤ maxLen) (hk : SeesI w w.heap.size A keep) (hA : ∀ a, A = some a → keep ≠ [] → a.block ∉ G) (torn : Int) :
    Calls Try.prog 24 #[.pointer (some ⟨r, 0, none⟩), .slice A n c, .int .i64 torn] w (RefEnd G r (S.crash keep torn) (.tuple #[]) w) := by
  have h0 := h
  obtain ⟨vs, vl, vk, fz, tn, h1, h2, h3, h4, h5, h6, h7, h8, h9, h10, h11, h12, h13⟩ := h
  cases ho : S.off
  case true =>
    obtain ⟨_, hc, _⟩ := h1.cells
    rw [ho] at hc
    have key : RefEnd G r (S.crash keep torn) (.tuple #[]) w (.returned (.tuple #[])) w := ⟨rfl, G, by unfold Disk.crash; rw [ho]; exact h0, Only.refl _ _, Grows.refl _ _⟩
    have HK := Lib.hid key
    clear key h0 h1 h2 h3 h4 h5 h6 h7 h8 h9 h10 h11 h12 h13 ho hk hA hd
    go_enter Try.func24, Try.ntmps24
    go_wp2
    go_end0
    exact HK.out
  case false =>
    obtain ⟨sb, cc, rfl, _, _⟩ := h1.vsForm hd
    have hsb : sb ∈ G := h8 sb rfl
    have h1' : RefC w r S.dur.length (.slice (some ⟨sb, 0, none⟩) S.dur.length cc) S.dur vl S.cache false fz vk tn := by rw [← ho]; exact h1
    refine (ref_crash_on h1' h11.wr h11.sec A n c keep hn hnc hcm hk (fun a ha hne e => hA a ha hne (e ▸ hsb)) torn).mono ?_
    rintro e w' ⟨rfl, hd', hO⟩
    have hcr : S.crash keep torn = ⟨fallTo keep torn S.dur S.cache S.cache.length, [], true, 0, [], 0⟩ := by unfold Disk.crash; rw [ho]; rfl
    have hl := fallTo_length keep torn S.dur S.cache S.cache.length
    have hO2 : Only G w w' := only_ds h7 hsb hO
    refine ⟨rfl, G, ?_, hO2, Grows.refl _ _⟩
    have hok := h11.crash keep torn
    rw [hcr] at hok ⊢
    rw [← hl] at hd' h13
    exact ⟨_, .slice none 0 0, vk, 0, tn, hd', h2, fun _ => by omega, fun h => absurd rfl h, by omega, fun h => absurd rfl h, h7, h8, fun k hk => by simp [Value.ownBlock] at hk, fun b hb => Nat.lt_of_lt_of_le (h10 b hb) hO2.size, hok, by show (0 : Int) ≤ _; omega, h13⟩

set_option maxHeartbeats 1000000 in
set_option maxRecDepth 100000 in
theorem ref_blown {G : List Nat} {r : Nat} {S : Disk} (w : World) (h : RefM w G r S) (hd : 0 < S.dur.length) : Calls Try.prog 34 #[.pointer (some ⟨r, 0, none⟩)] w (RefEnd G r S.blow (.bool S.blows) w) := by
  have h0 := h
  obtain ⟨vs, vl, vk, fz, tn, h1, h2, h3, h4, h5, h6, h7, h8, h9, h10, h11, h12, h13⟩ := h
  obtain ⟨_, _, _, _, hc, hc4, hc5⟩ := h1.cells
  have hf := h1.free 4
  by_cases hz : S.calls = 0
  · have key : RefEnd G r S.blow (.bool S.blows) w (.returned (.bool false)) w := ⟨by simp [Disk.blows, hz], G, by unfold Disk.blow; rw [if_pos hz]; exact h0, Only.refl _ _, Grows.refl _ _⟩
    have hz1 := h3 hz
    have HK := Lib.hid key
    clear key h0 h1 h2 h3 h4 h5 h6 h7 h8 h9 h10 h11 h12 h13 hc4 hc5 hz hd
    go_enter Try.func34, Try.ntmps34
    go_wp2
    go_ret
    exact HK.out
  · obtain ⟨q, hq⟩ : ∃ q, S.calls = q + 1 := ⟨S.calls - 1, by omega⟩
    have hfz := h4 hz
    obtain ⟨e3, o3, f3⟩ := h6 hz
    have hown : (w.setCell ⟨r, 4, none⟩ (.int .i64 (q : Int))).ownsRow 0 3 1 vk S.keep.length (S.keep.map (Value.int .i64)) := own_only o3 (only_setCell w _ _) (fun k hk => by simpa using own_ne o3 h1.blk (by decide) k hk)
    have hO : Only G w (w.setCell ⟨r, 4, none⟩ (.int .i64 (q : Int))) := (Only.refl _ _).setCell (.inl h7) _
    have hdd := h1.putFz q
    rw [hq] at hfz h12
    replace hfz : fz = (q : Int) + 1 := by rw [hfz]; simp
    replace h12 : (q : Int) + 1 ≤ 9223372036854775807 := by simpa using h12
    by_cases hq0 : q = 0
    · subst hq0
      replace hfz : fz = 1 := hfz
      subst hfz
      obtain ⟨sb, cc, rfl, _, _⟩ := h1.vsForm hd
      have hsb : sb ∈ G := h8 sb rfl
      have hnsb := h1.own_sb o3
      obtain ⟨Ak, ck, rfl, ak1, ak2⟩ := own_shape o3
      have hcr : S.blow = S.crash S.keep S.torn := by unfold Disk.blow; rw [if_neg hz, if_pos hq]
      have hb1 : S.blows = true := by simp [Disk.blows, hq]
      have hoff : S.off = false := by
        cases ho : S.off
        · rfl
        · have := (h11.dark ho).2; omega
      rw [hoff] at hdd
      subst e3
      have hcd : ∀ W, Only [] (w.setCell ⟨r, 4, none⟩ (.int .i64 ((0 : Nat) : Int))) W → Calls Try.prog 24 #[.pointer (some ⟨r, 0, none⟩), .slice Ak S.keep.length ck, .int .i64 S.torn] W (RefEnd G r S.blow (.tuple #[]) w) := fun W hW => by
        have hown' := own_only hown hW (by simp)
        refine (ref_crash_on (hdd.only hW (by simp) (by simp) (by simp)) h11.wr h11.sec Ak S.keep.length ck S.keep rfl ak1 ak2 (SeesI.of_own hown') (fun a ha hne => by
          subst ha
          obtain ⟨g, c', e', _⟩ := own_form o3 (List.length_pos_iff.2 hne)
          injection e' with e' _ _
          injection e' with e'
          subst e'
          exact hnsb _ rfl) S.torn).mono ?_
        rintro e w' ⟨rfl, hd', hOO⟩
        have hcr2 : S.crash S.keep S.torn = ⟨fallTo S.keep S.torn S.dur S.cache S.cache.length, [], true, 0, [], 0⟩ := by unfold Disk.crash; rw [hoff]; rfl
        have hok := h11.crash S.keep S.torn
        have hW2 : Only G w w' := (hO.trans (hW.more (fun b hb => by cases hb))).trans (only_ds h7 hsb hOO)
        have hl := fallTo_length S.keep S.torn S.dur S.cache S.cache.length
        rw [hcr]
        rw [hcr2] at hok ⊢
        rw [← hl] at hd'
        have h13' := h13
        rw [← hl] at h13'
        exact ⟨rfl, G, ⟨_, .slice none 0 0, _, 0, _, hd', h2, fun _ => by omega, fun h => absurd rfl h, by omega, fun h => absurd rfl h, h7, h8, fun k hk => by simp [Value.ownBlock] at hk, fun b hb => Nat.lt_of_lt_of_le (h10 b hb) hW2.size, hok, by show (0 : Int) ≤ _; omega, h13'⟩, hW2, Grows.refl _ _⟩
      have HCD := Lib.hid hcd
      obtain ⟨R, HR⟩ : ∃ R, Hid (R = S.blow) := ⟨_, Lib.hid rfl⟩
      rw [hb1]
      rw [← HR.out] at HCD ⊢
      obtain ⟨tn, HT⟩ : ∃ x, Hid (x = S.torn) := ⟨_, Lib.hid rfl⟩
      obtain ⟨ln, HLN⟩ : ∃ x, Hid (x = S.keep.length) := ⟨_, Lib.hid rfl⟩
      rw [← HT.out, ← HLN.out] at HCD
      rw [← HT.out] at hc5
      rw [← HLN.out] at hc4
      clear h0 h1 h2 h3 h4 h5 h6 h7 h8 h9 h10 h11 h13 hz hq o3 f3 hown hO hdd hcr hb1 hoff hcd ak1 ak2 h12 hd hsb hnsb
      go_enter Try.func34, Try.ntmps34
      go_wp2
      obtain ⟨W, HW⟩ : ∃ W, Hid (W = w.setCell ⟨r, 4, none⟩ (.int .i64 0)) := ⟨_, Lib.hid rfl⟩
      rw [← HW.out]
      have n4 : W.cell? ⟨r, 5, none⟩ = some (.slice Ak ln ck) := by rw [HW.out]; exact (World.cell?_setCell_other _ _ _ _ (by simp)).trans hc4
      have n5 : W.cell? ⟨r, 6, none⟩ = some (.int .i64 tn) := by rw [HW.out]; exact (World.cell?_setCell_other _ _ _ _ (by simp)).trans hc5
      clear hc hc4 hc5 hf
      go_still_tail 9, (by kernel_rfl)
      go_wp2_with fail
      refine (HCD.out _ (by rw [← show w.setCell ⟨r, 4, none⟩ (.int .i64 0) = w.setCell ⟨r, 4, none⟩ (.int .i64 ((0 : Nat) : Int)) from rfl, ← HW.out]; exact Only.of_below (Below.refl _ _).drew)).mono ?_
      rintro e w' ⟨rfl, hR⟩
      have HRR := Lib.hid hR
      clear hR
      go_wp2
      go_ret
      exact ⟨rfl, HRR.out⟩
    · have hb1 : S.blows = false := by simp [Disk.blows, hq, hq0]
      have hcr : S.blow = { S with calls := q } := by
        unfold Disk.blow; rw [if_neg hz, if_neg (by omega)]
        rw [hq]; rfl
      have hok := h11.blow
      rw [hcr] at hok
      have key : RefEnd G r S.blow (.bool S.blows) w (.returned (.bool false)) (w.setCell ⟨r, 4, none⟩ (.int .i64 (q : Int))) := by
        rw [hb1, hcr]
        exact ⟨rfl, G, ⟨vs, vl, vk, (q : Int), tn, hdd, h2, fun h => absurd h (by show q ≠ 0; omega), fun _ => rfl, by omega, fun _ => ⟨e3, hown, f3⟩, h7, h8, h9, fun b hb => Nat.lt_of_lt_of_le (h10 b hb) hO.size, hok, by show (q : Int) ≤ _; omega, h13⟩, hO, Grows.refl _ _⟩
      have hqz : (q : Int) = fz - 1 := by rw [hfz]; omega
      rw [hqz] at key
      have hz1 : 2 ≤ fz := by rw [hfz]; omega
      have hz2 : fz ≤ 2 ^ 63 - 1 := by rw [hfz]; exact h12
      have hz3 : 0 < fz - 1 := by omega
      have hz4 : ¬ fz < 1 := by omega
      have HK := Lib.hid key
      clear h12 hqz hfz h5
      clear key h0 h1 h2 h3 h4 h6 h7 h8 h9 h10 h11 h13 hz hq o3 f3 hown hO hdd hcr hb1 hok e3 hq0 hc4 hc5 hd
      go_enter Try.func34, Try.ntmps34
      go_wp2
      go_ret
      exact HK.out
end Go.Proofs.Ytelcedbcegbbjaa
