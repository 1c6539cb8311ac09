/- Package dev's Write. -/
import Derived.Test.YtambddncncaehaaDoorDevBlow
import Derived.Test.YtambddncncaehaaDoorAppend
namespace Go.Proofs.YtambddncncaehaaDoor
open Go.RowKit Dk
set_option linter.unusedVariables false

theorem Tryd.infoWr : (Tryd.prog.info? 69).map (fun i => (i.zero, i.size, i.bytes)) = some (some (.agg #[.int .i64 0, .string ByteArray.empty]), 2, 24) := by kernel_rfl

/-- One write more in the cache. -/
theorem DevC.more {w : World} {d sb cap : Nat} {dur last : List ByteArray} {vc : Value} {cache : List Wr} {off : Bool} {calls : Nat} {vk : Value} {tn : Int} (h : DevC w d sb cap dur last vc cache off calls vk tn) (hcl : cache.length ≤ 100000) (at_ : Nat) (dat : ByteArray) (ty : TypeId) :
    ∃ v' w', (Builtin.append_ #[52, 52] ty #[vc, .slice (some ⟨w.heap.size, 0, none⟩) 1 1]).run Tryd.prog (w.alloc (.cells #[.int .i64 (at_ : Int), .string dat] 69)) = .ok v' w' ∧
      (∃ A n c, v' = .slice A n c) ∧ DevC (w'.setCell ⟨d, 1, none⟩ v') d sb cap dur last v' (cache ++ [(at_, dat)]) off calls vk tn ∧ w'.cell? ⟨d, 0, none⟩ = some (.slice (some ⟨sb, 0, none⟩) dur.length cap) ∧ w'.cell? ⟨d, 1, none⟩ = some vc ∧ w'.frozen? ⟨d, 1, none⟩ = false ∧
      (∀ F : List Nat, (∀ k, vc.ownBlock = some k → k ∈ F) → Only F w w') ∧ (∀ k, v'.ownBlock = some k → vc.ownBlock = some k ∨ w.heap.size ≤ k) := by
  obtain ⟨i0, hi, hz0, hz1, hz2⟩ := info_parts Tryd.infoWr
  have hcells : ∀ j u, ([Value.int .i64 (at_ : Int), .string dat] : List Value)[j]? = some u → (w.alloc (.cells #[.int .i64 (at_ : Int), .string dat] 69)).cell? ((⟨w.heap.size, 0, none⟩ : Addr).add j) = some u := fun j u hu => by
    rw [add_to, Nat.zero_add, cell_new w _ rfl _ _ j]
    match j, hu with
    | 0, hu => exact hu
    | 1, hu => exact hu
    | j + 2, hu => simp at hu
  obtain ⟨v', w', hr, h2, h3, h4⟩ := run_append_here (P := Tryd.prog) (w.alloc (.cells #[.int .i64 (at_ : Int), .string dat] 69)) 52 ty 69 i0 _ 2 24 Tryd.underlying52 hi hz0 hz1 hz2 rfl (by decide)
    vc cache.length (wrVals cache) (h.wr.alloc _) ⟨w.heap.size, 0, none⟩ 1 1 [.int .i64 (at_ : Int), .string dat] rfl hcells (by intro u hu; simp at hu; rcases hu with rfl | rfl <;> rfl) (by unfold maxLen; omega) (by omega)
  have hal : Below w.heap.size w (w.alloc (.cells #[.int .i64 (at_ : Int), .string dat] 69)) := (Below.refl _ _).alloc (Nat.le_refl _) _
  have hO : ∀ F : List Nat, (∀ k, vc.ownBlock = some k → k ∈ F) → Only F w w' := fun F hF => (Only.of_below hal).trans (Only.of_grown h3 hF)
  have hvc : vc.ownBlock.toList = vc.ownBlock.toList := rfl
  have hO1 := hO vc.ownBlock.toList (fun k hk => by rw [hk]; simp)
  have n1 := own_ne h.wr h.blk (by decide)
  have n2 : ∀ k, vc.ownBlock = some k → k ≠ sb := by
    rcases h.sec.2 with ⟨hv, _⟩ | ⟨g, cp, cur, hv, _, hg, _⟩
    · cases hv
    · injection hv with h1 h2 h3
      injection h1 with h1
      injection h1 with h1 _ _
      subst h1
      exact own_ne h.wr hg (by decide)
  have hd1 : d ∉ vc.ownBlock.toList := fun hm => by
    cases hv : vc.ownBlock with
    | none => rw [hv] at hm; simp at hm
    | some k => rw [hv] at hm; simp at hm; exact n1 k hv hm.symm
  have hs1 : sb ∉ vc.ownBlock.toList := fun hm => by
    cases hv : vc.ownBlock with
    | none => rw [hv] at hm; simp at hm
    | some k => rw [hv] at hm; simp at hm; exact n2 k hv hm.symm
  have hblk := (hO1.block d h.dlt hd1).trans h.blk
  have hsec : w'.ownsRow 0 49 2 (.slice (some ⟨sb, 0, none⟩) dur.length cap) dur.length (secVals dur last) := own_only h.sec hO1 (fun k hk => by simp [Value.ownBlock] at hk; subst hk; exact hs1)
  have hwr : w'.ownsRow 0 69 2 v' (cache ++ [(at_, dat)]).length (wrVals (cache ++ [(at_, dat)])) := by
    have e1 : (cache ++ [(at_, dat)]).length = cache.length + 1 := by simp
    have e2 : wrVals (cache ++ [(at_, dat)]) = wrVals cache ++ [.int .i64 (at_ : Int), .string dat] := by unfold wrVals; rw [flat2_append]; rfl
    rw [e1, e2]; exact h2
  have n3 := own_ne hwr hblk (by decide)
  refine ⟨v', w', hr, shape_of_own h2, ⟨heap_setCell_same w' d 1 _ _ v' hblk, own_only hsec (only_setCell w' _ _) (fun k hk => by simp [Value.ownBlock] at hk; subst hk; simpa using h.ds.symm), h.len, own_only hwr (only_setCell w' _ _) (fun k hk => by simpa using n3 k hk)⟩, ?_, ?_, ?_, hO, fun k hk => ?_⟩
  · simp [World.cell?, hblk]
  · simp [World.cell?, hblk]
  · simp [World.frozen?, hblk]
  · rcases h4 k hk with h5 | h5
    · exact .inl h5
    · exact .inr (by simp at h5; omega)

set_option maxHeartbeats 1000000 in
set_option maxRecDepth 100000 in
theorem write_any {F : List Nat} {d : Nat} {S : Disk} (w : World) (h : DevM w F d S) (hcl : S.cache.length ≤ 1000) (at_ : Int) (A : Option Addr) (n c : Nat) (l : List UInt8) (hn : n = l.length) (hnc : n ≤ c) (hcm : c ≤ maxLen) (hs : Sees w w.heap.size A l) (hA : ∀ a, A = some a → a.block ∉ F) :
    Calls Tryd.prog 48 #[.pointer (some ⟨d, 0, none⟩), .int .i64 at_, .slice A n c] w (DevEnd F d (S.write at_ ⟨l.toArray⟩) (.int .i64 (S.writeE at_ l.length)) w) := by
  subst hn
  have h0 := h
  have hblow := blow_any w h (by omega)
  have hhas := has_any at_ w h _ rfl
  have hlz : (⟨l.toArray⟩ : ByteArray).size = l.length := by simp [ByteArray.size]
  obtain ⟨sb, cap, vc, vk, tn, h1, h2, h3, h4, h5, h6, h7, h8, h9, h10⟩ := h
  obtain ⟨_, _, hc, _⟩ := h1.cells
  unfold maxLen at hcm
  cases ho : S.off
  case true =>
    rw [ho] at hc
    have key : DevEnd F d (S.write at_ ⟨l.toArray⟩) (.int .i64 (S.writeE at_ l.length)) w (.returned (.int .i64 7)) w := ⟨by simp [Disk.writeE, ho], F, by unfold Disk.write; rw [ho]; exact h0, Only.refl _ _, Grows.refl _ _⟩
    have HK := Lib.hid key
    clear key h0 h1 h2 h3 h4 h5 h6 h7 h8 ho hblow h9 hhas hlz hs hA
    go_enter Tryd.func48, Tryd.ntmps48
    go_wp2
    go_ret
    exact HK.out
  case false =>
    rw [ho] at hc
    by_cases ht : S.has at_ = true ∧ l.length = 512
    · obtain ⟨hh, hl5⟩ := ht
      have htk : S.takes at_ l.length = true := by unfold Disk.has at hh; unfold Disk.takes; rw [hh, hl5]; rfl
      rw [hh] at hhas
      have hl6 : (l.length : Int) = 512 := by omega
      have hlb : ((l.length : Int) != 512) = false := by simp [hl6]
      cases hb : S.blows
      case true =>
        rw [hb] at hblow
        have hfl : S.write at_ ⟨l.toArray⟩ = S.blow := by unfold Disk.write; rw [ho, hlz, htk, hb]; rfl
        have hfe : S.writeE at_ l.length = 7 := by unfold Disk.writeE; rw [ho, htk, hb]; rfl
        rw [hfl, hfe]
        have HB := Lib.hid hblow
        have HH := Lib.hid hhas
        clear h0 h1 h2 h3 h4 h5 h6 h7 h8 ho hblow h9 hb hfl hfe hhas hlz hs hA hh hl5 htk hl6
        go_enter Tryd.func48, Tryd.ntmps48
        go_wp2_with fail
        refine HH.out.mono ?_
        rintro e w1 ⟨rfl, rfl⟩
        go_wp2_with fail
        refine HB.out.mono ?_
        rintro e w1 ⟨rfl, hR⟩
        have HRR := Lib.hid hR
        clear hR
        go_wp2
        go_ret
        exact ⟨rfl, HRR.out⟩
      case false =>
        rw [hb] at hblow
        obtain ⟨b1, b2, b3, b4, b5⟩ := Disk.blow_same hb
        have hfl : S.write at_ ⟨l.toArray⟩ = { S.blow with cache := S.cache ++ [(at_.toNat, ⟨l.toArray⟩)] } := by unfold Disk.write; rw [ho, hlz, htk, hb]; rfl
        have hfe : S.writeE at_ l.length = 0 := by unfold Disk.writeE; rw [ho, htk, hb]; rfl
        have hok := h8.write at_ ⟨l.toArray⟩
        rw [hfe]
        simp only [Disk.has, Bool.and_eq_true, decide_eq_true_eq] at hh
        obtain ⟨i, rfl⟩ : ∃ i : Nat, at_ = (i : Int) := ⟨at_.toNat, by omega⟩
        have hi : i < S.dur.length := by omega
        have hi2 : (i : Int) < (S.dur.length : Int) := hh.2
        rw [Int.toNat_natCast] at hfl
        have HB := Lib.hid hblow
        have HH := Lib.hid hhas
        have HS := Lib.hid hfl
        have HE := Lib.hid (⟨b1, b2, b3⟩ : S.blow.dur = S.dur ∧ S.blow.cache = S.cache ∧ S.blow.off = S.off)
        have HOK := Lib.hid hok
        have HSE := Lib.hid hs
        have HA := Lib.hid hA
        have HL5 := Lib.hid hl5
        clear h0 h1 h2 h3 h4 h5 h6 h7 h8 ho hblow h9 hb hfl hfe b1 b2 b3 b4 b5 hok hhas hlz hs hA htk hh hl5 hl6
        go_enter Tryd.func48, Tryd.ntmps48
        go_wp2_with fail
        refine HH.out.mono ?_
        rintro e w1 ⟨rfl, rfl⟩
        go_wp2_with fail
        refine HB.out.mono ?_
        rintro e w1 ⟨rfl, F1, hM, hO1, hG1⟩
        obtain ⟨sb, cap, vc, vk, tn, h1, h2, h3, h4, h5, h6, h7, h8, h9, h10⟩ := hM
        have hlast : S.blow.last = S.last := by unfold Disk.last; rw [HE.out.1, HE.out.2.1]
        rw [HE.out.1, hlast, HE.out.2.1] at h1
        obtain ⟨Ac, cc, rfl, hc1, hc2⟩ := h1.cacheShape
        obtain ⟨c0, c1, _⟩ := h1.cells
        obtain ⟨s0, s1, s2⟩ := h1.slt
        have hsee : Sees w1 w1.heap.size A l := fun hne => by
          obtain ⟨g, o, e, hg, hcell⟩ := HSE.out hne
          exact ⟨g, o, e, Nat.lt_of_lt_of_le hg hO1.size, fun j hj => (hO1.cell (a := ⟨g, o + j, none⟩) hg (show g ∉ F from HA.out _ e)).trans (hcell j hj)⟩
        have hconv := run_sees_string (P := Tryd.prog) w1 31 9 5 Tryd.underlying31 Tryd.underlying5 Tryd.underlying9 hsee l.length c rfl
        obtain ⟨dat, HD⟩ : ∃ x : ByteArray, Hid (x = ⟨l.toArray⟩) := ⟨_, Lib.hid rfl⟩
        rw [← HD.out] at hconv
        obtain ⟨v', w', happ, ⟨A', n', c', hv'⟩, hd', p0, p1, p2, hO', hb'⟩ := h1.more (by omega) i dat 52
        subst hv'
        have hds := h1.ds
        obtain ⟨old, q1⟩ : ∃ x, w'.cell? ⟨sb, i * 2 + 1, none⟩ = some (.string x) := ⟨_, (World.cell?_setCell_other _ _ _ _ (fun h => hds (congrArg Addr.block h))).symm.trans (hd'.secSnd i hi)⟩
        have q2 : w'.frozen? ⟨sb, i * 2 + 1, none⟩ = false := (World.frozen?_setCell _ _ _ _).symm.trans (hd'.secFree (i * 2 + 1))
        have hO2 : Only F1 w1 (w'.setCell ⟨d, 1, none⟩ (.slice A' n' c')) := (hO' F1 h6).setCell (.inl h4) _
        have hO3 : Only F1 w1 ((w'.setCell ⟨d, 1, none⟩ (.slice A' n' c')).setCell ⟨sb, i * 2 + 1, none⟩ (.string dat)) := hO2.setCell (.inl h5) _
        have hd3 := hd'.putSnd i dat
        have key : DevEnd F d (S.write (i : Int) ⟨l.toArray⟩) (.int .i64 0) w (.returned (.int .i64 0)) ((w'.setCell ⟨d, 1, none⟩ (.slice A' n' c')).setCell ⟨sb, i * 2 + 1, none⟩ (.string dat)) := by
          have hok := HOK.out
          rw [HS.out] at hok ⊢
          rw [← HD.out] at hok ⊢
          have hl2 : ({ S.blow with cache := S.cache ++ [(i, dat)] } : Disk).last = S.last.set i dat := by
            show putAll S.blow.dur (S.cache ++ [(i, dat)]) = _
            rw [putAll_snoc, HE.out.1]; rfl
          have hG2 : Grows F1 ((Value.slice A' n' c').ownBlock.toList ++ F1) w1 := fun b hb => by
            rcases List.mem_append.1 hb with hb | hb
            · rcases hb' b (by
                cases hv : (Value.slice A' n' c').ownBlock with
                | none => rw [hv] at hb; simp at hb
                | some k => rw [hv] at hb; simp at hb; rw [hb]) with h' | h'
              · exact .inl (h6 b h')
              · exact .inr h'
            · exact .inl hb
          refine ⟨rfl, (Value.slice A' n' c').ownBlock.toList ++ F1, ⟨sb, cap, .slice A' n' c', vk, tn, ?_, h2, fun hc0 => ⟨(h3 hc0).1, ?_, fun k hk => List.mem_append_right _ ((h3 hc0).2.2 k hk)⟩, List.mem_append_right _ h4, List.mem_append_right _ h5, fun k hk => List.mem_append_left _ (by rw [hk]; simp), fun b hb => ?_, hok, h9, h10⟩, hO1.step hO3 hG1, hG1.trans hG2 hO1.size⟩
          · rw [hl2]
            show DevC _ d sb cap S.blow.dur _ _ (S.cache ++ [(i, dat)]) S.blow.off S.blow.calls vk tn
            rw [HE.out.1]
            exact hd3
          · have o3 := (h3 hc0).2.1
            have n1 := own_ne o3 h1.blk (by decide)
            have n2 : ∀ k, vk.ownBlock = some k → k ≠ sb := by
              rcases h1.sec.2 with ⟨hv, _⟩ | ⟨g, cp, cur, hv, _, hg, _⟩
              · cases hv
              · injection hv with h1 h2 h3
                injection h1 with h1
                injection h1 with h1 _ _
                subst h1
                exact own_ne o3 hg (by decide)
            have n3 : ∀ k, vk.ownBlock = some k → k ∉ (Value.slice Ac S.cache.length cc).ownBlock.toList := fun k hk hm => by
              rcases h1.wr.2 with ⟨hv, _⟩ | ⟨g, cp, cur, hv, _, hg, _⟩
              · rw [hv] at hm; simp [Value.ownBlock] at hm
              · rw [hv] at hm
                simp [Value.ownBlock] at hm
                exact own_ne o3 hg (by decide) k hk hm
            have o4 := own_only o3 (hO' _ (fun k hk => by rw [hk]; simp)) n3
            exact own_only (own_only o4 (only_setCell w' _ _) (fun k hk => by simpa using n1 k hk)) (only_setCell _ _ _) (fun k hk => by simpa using n2 k hk)
          · rcases List.mem_append.1 hb with hb | hb
            · have hb2 : (Value.slice A' n' c').ownBlock = some b := by
                cases hv : (Value.slice A' n' c').ownBlock with
                | none => rw [hv] at hb; simp at hb
                | some k => rw [hv] at hb; simp at hb; rw [hb]
              exact (hd3.wr.lt b hb2).2
            · exact Nat.lt_of_lt_of_le (h7 b hb) hO3.size
        have HK := Lib.hid key
        have hi3 : (0 : Int) ≤ (i : Int) := by omega
        unfold maxLen at s2
        have hdl := h1.dlt
        clear key h1 h2 h3 h4 h5 h6 h7 h8 h9 hlast hO1 hG1 hd' hO' hb' hO2 hO3 hd3 hsee c0
        have HAP := Lib.hid happ
        clear happ
        go_wp2_with (at_builtin; refine wpList_append_run rfl _ _ 52 rfl _ _ _ rfl rfl _ _ (by exact HAP.out) ?_)
        go_ret
        exact HK.out
    · have htk : S.takes at_ l.length = false := by
        unfold Disk.takes
        unfold Disk.has at ht
        cases h1 : (decide (0 ≤ at_) && decide (at_ < S.dur.length))
        · rfl
        · have : ¬ l.length = 512 := fun h2 => ht ⟨h1, h2⟩
          simp [this]
      have hfl : S.write at_ ⟨l.toArray⟩ = S := by unfold Disk.write; rw [ho, hlz, htk]; rfl
      have hfe : S.writeE at_ l.length = 1 := by unfold Disk.writeE; rw [ho, htk]; rfl
      have key : DevEnd F d (S.write at_ ⟨l.toArray⟩) (.int .i64 (S.writeE at_ l.length)) w (.returned (.int .i64 1)) w := ⟨by rw [hfe], F, by rw [hfl]; exact h0, Only.refl _ _, Grows.refl _ _⟩
      have HK := Lib.hid key
      have HH := Lib.hid hhas
      cases hh : S.has at_
      case false =>
        rw [hh] at HH
        clear key h0 h1 h2 h3 h4 h5 h6 h7 h8 ho hblow h9 hhas hlz hs hA htk hfl hfe ht hh
        go_enter Tryd.func48, Tryd.ntmps48
        go_wp2_with fail
        refine HH.out.mono ?_
        rintro e w1 ⟨rfl, rfl⟩
        go_wp2
        go_ret
        exact HK.out
      case true =>
        rw [hh] at HH
        have hl5 : ¬ l.length = 512 := fun h2 => ht ⟨hh, h2⟩
        have hl6 : ¬ (l.length : Int) = 512 := by omega
        have hlb : ((l.length : Int) != 512) = true := by simp [hl6]
        clear key h0 h1 h2 h3 h4 h5 h6 h7 h8 ho hblow h9 hhas hlz hs hA htk hfl hfe ht hh hl5 hl6
        go_enter Tryd.func48, Tryd.ntmps48
        go_wp2_with fail
        refine HH.out.mono ?_
        rintro e w1 ⟨rfl, rfl⟩
        go_wp2
        go_ret
        exact HK.out
end Go.Proofs.YtambddncncaehaaDoor
