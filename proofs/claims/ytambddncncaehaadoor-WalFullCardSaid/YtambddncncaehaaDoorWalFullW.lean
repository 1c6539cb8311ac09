/- The walk of WalFull. -/
import Derived.Test.YtambddncncaehaaDoorWalKnownW
import Derived.Test.YtambddncncaehaaDoorWalFree
namespace Go.Proofs.YtambddncncaehaaDoor
open Go.RowKit Dk Wl
set_option linter.unusedVariables false
set_option maxRecDepth 100000

theorem make_zeros (w : World) (n : Nat) (hn : n ≤ 200000) : ∃ w2, (Instr.makeSlice 31 (.int .i64 (n : Int)) (.int .i64 (n : Int))).run Tryd.prog w = .ok (.slice (some ⟨w.heap.size, 0, none⟩) n n) w2 ∧ Sees w2 w2.heap.size (some ⟨w.heap.size, 0, none⟩) (List.replicate n 0) ∧ Below w.heap.size w w2 := by
  obtain ⟨i0, hi, hz0, hz1, hz2⟩ := info_parts Tryd.infoB1
  obtain ⟨w2, hmk, hown, hg⟩ := run_make_full (P := Tryd.prog) (w := w) 0 31 5 i0 (.int .u8 0) 1 Tryd.underlying31 hi hz0 hz1 .i64 .i64 n (by rw [hz2]; omega) (by unfold maxLen; omega) (Nat.zero_le _)
  rw [show (Value.int .u8 0).cells = #[Value.int .u8 0] from rfl, toList_madeCells_one, Nat.mul_one] at hown
  refine ⟨w2, hmk, ?_, (Below.refl _ _).grown hg (Nat.le_refl _) (fun k hk => by cases hk)⟩
  have e : List.replicate n (Value.int .u8 0) = bv (List.replicate n 0) := by unfold bv; rw [List.map_replicate]; rfl
  rw [e] at hown
  have h2 : w2.ownsRow 0 5 1 (.slice (some ⟨w.heap.size, 0, none⟩) (List.replicate n (0 : UInt8)).length n) (List.replicate n (0 : UInt8)).length (bv (List.replicate n 0)) := by rw [List.length_replicate]; exact hown
  exact Sees.of_own h2
def freeOf (sz used : Nat) : Nat := min (sz * 512 - used - 16) 200000
theorem free_law {w : World} {G : List Nat} {d l sz half used : Nat} {tl base : List UInt8} {recs : List (List UInt8)} {dn : Bool} (h : LogI w G l d sz half used tl base recs dn) (hz : sz ≤ 8192) (hu : used ≤ 100000000) (fr : Nat) (hfr : fr = freeOf sz used) :
    Calls Tryd.prog 21 #[.pointer (some ⟨l, 0, none⟩)] w fun e w' => e = .returned (.int .i64 (fr : Int)) ∧ Below w.heap.size w w' := by
  refine (free_any h hz hu).mono ?_
  rintro e w' ⟨rfl, hb⟩
  refine ⟨?_, hb⟩
  have e : min (max ((sz : Int) * 512 - (used : Int) - 16) 0) 200000 = (fr : Int) := by
    rw [hfr]; unfold freeOf; omega
  rw [e]

set_option maxHeartbeats 6400000 in
set_option maxRecDepth 100000 in
theorem walFull_walk (sectors : Int) (hs0 : (Lit.int .i64 sectors).wf = true) (n : Int) (hn0 : (Lit.int .i64 n).wf = true) (w : World) (ht0 : Lib.TabIs Tryd.prog w "franking/crc.halfByte" .u32 crcTab) :
    Calls Tryd.prog 6 #[.int .i64 sectors, .int .i64 n] w fun e w' => e = .returned (.bool true) ∧ Below w.heap.size w w' := by
  have ht := tabAt ht0
  have HT := Lib.hid ht
  have HAW := Lib.hid (walAwake_any w ht)
  clear ht ht0 hs0 hn0
  by_cases a1 : sectors < 8
  · go_enter Tryd.func6, Tryd.ntmps6
    go_wp2_with fail
    refine HAW.out.mono ?_
    rintro e w1 ⟨rfl, hb1⟩
    have HB := Lib.hid hb1
    clear hb1
    go_wp2
    go_ret
    exact ⟨rfl, HB.out⟩
  by_cases a2 : 100 < sectors
  · go_enter Tryd.func6, Tryd.ntmps6
    go_wp2_with fail
    refine HAW.out.mono ?_
    rintro e w1 ⟨rfl, hb1⟩
    have HB := Lib.hid hb1
    clear hb1
    go_wp2
    go_ret
    exact ⟨rfl, HB.out⟩
  by_cases a3 : n < 0
  · go_enter Tryd.func6, Tryd.ntmps6
    go_wp2_with fail
    refine HAW.out.mono ?_
    rintro e w1 ⟨rfl, hb1⟩
    have HB := Lib.hid hb1
    clear hb1
    go_wp2
    go_ret
    exact ⟨rfl, HB.out⟩
  by_cases a4 : 3000 < n
  · go_enter Tryd.func6, Tryd.ntmps6
    go_wp2_with fail
    refine HAW.out.mono ?_
    rintro e w1 ⟨rfl, hb1⟩
    have HB := Lib.hid hb1
    clear hb1
    go_wp2
    go_ret
    exact ⟨rfl, HB.out⟩
  obtain ⟨m, rfl⟩ : ∃ m : Nat, sectors = (m : Int) := ⟨sectors.toNat, by omega⟩
  obtain ⟨k, rfl⟩ : ∃ k : Nat, n = (k : Int) := ⟨n.toNat, by omega⟩
  have b1 : (m : Int) ≤ 100 := by omega
  have b2 : (8 : Int) ≤ (m : Int) := by omega
  have b3 : (k : Int) ≤ 3000 := by omega
  obtain ⟨sz, Hsz⟩ : ∃ s : Nat, Hid (s = (m - 1) / 2) := ⟨_, Lib.hid rfl⟩
  have hszb : sz ≤ 50 := by have := Hsz.out; omega
  clear a1 a2 a3 a4
  go_enter Tryd.func6, Tryd.ntmps6
  go_wp2_with fail
  refine HAW.out.mono ?_
  rintro e w1 ⟨rfl, hb1⟩
  have HNW := Lib.hid (law_new (B := w.heap.size) (w0 := w) (w := w1) m (by omega) (by omega) hb1 hb1.size (HT.out.below hb1 (Nat.le_refl _)) HT.out.lt)
  clear HAW hb1
  go_wp2_with fail
  refine HNW.out.mono ?_
  rintro e w2 ⟨d, F, rfl, hd2, _⟩
  have HOP := Lib.hid (law_open0 (sz := sz) hd2 (by omega) Hsz.out)
  clear HNW hd2
  go_wp2_with fail
  refine HOP.out.mono ?_
  rintro e w3 ⟨l, G, rfl, hl3, _, _⟩
  have HI : Hid (∃ F G S L, Law w.heap.size w w3 F G d l S sz L false ∧ Sane S sz L ∧ S.dur.length = m ∧ L.recs.length = 0) := Lib.hid ⟨F, G, _, _, hl3, fresh_sane m sz (by omega), List.length_replicate, rfl⟩
  clear HOP hl3
  go_wp2
  go_loopw [9, 10] (fun cn i wr => ∃ j c : Nat, j ≤ 200 ∧ c ≤ j ∧ i = .int .i64 j ∧ cn = .int .i64 c ∧ ∃ F G S L, Law w.heap.size w wr F G d l S sz L false ∧ Sane S sz L ∧ S.dur.length = m ∧ L.recs.length = c) (fun _ i _ => 200 - (intOf i).toNat)
  case atStart => exact ⟨0, 0, Nat.zero_le _, Nat.le_refl _, rfl, rfl, HI.out⟩
  case round =>
    obtain ⟨j, c, hj, hcj, rfl, rfl, F1, G1, S1, L1, hl1, hs1, hm1, hrc⟩ := hrel
    have hjI : (j : Int) ≤ 200 := by omega
    by_cases hlt : j < 200
    · have hltI : (j : Int) < 200 := by omega
      obtain ⟨fr, Hfr⟩ : ∃ f : Nat, Hid (f = freeOf sz L1.used) := ⟨_, Lib.hid rfl⟩
      have hu1 := hl1.both.2.1.used
      have HFR := Lib.hid (free_law hl1.both.1.log (by omega) (by omega) fr Hfr.out)
      have HL1 := Lib.hid (⟨hl1, hs1, hm1, hrc⟩ : _ ∧ _ ∧ _ ∧ _)
      have HU1 := Lib.hid hu1
      clear hl1 hs1 hm1 hrc hu1
      go_wp2_with fail
      refine HFR.out.mono ?_
      rintro e w4 ⟨rfl, hb4⟩
      obtain ⟨w5, hmk, hse, hb5⟩ := make_zeros w4 k (by omega)
      have hl4 := HL1.out.1.below hb4
      by_cases hfit : L1.used + (k + 16) ≤ sz * 512
      · have HAD := Lib.hid (law_addNew hl4 HL1.out.2.1 hb5 w4.heap.size k k (List.replicate k 0) (by simp) (Nat.le_refl _) (by unfold maxLen; omega) hse (Nat.le_refl _) (by simp; omega) (by simp; omega))
        have HRC := Lib.hid HL1.out.2.2
        clear hl4 hse hb5 HFR HL1 hb4
        go_wp2_with fail
        refine HAD.out.mono ?_
        rintro e w6 ⟨rfl, F6, G6, S6, hl6, hs6, _, hd6⟩
        have HK := Lib.hid (show ∃ F G S L, Law w.heap.size w w6 F G d l S sz L false ∧ Sane S sz L ∧ S.dur.length = m ∧ L.recs.length = c + 1 from ⟨F6, G6, S6, _, hl6, hs6, hd6.trans HRC.out.1, by show (L1.recs ++ [_]).length = _; rw [List.length_append, HRC.out.2]; rfl⟩)
        clear hl6 hs6 hd6 HAD hmk hfit
        go_wp2
        all_goals
          refine ⟨⟨j + 1, c + 1, by omega, by omega, by go_num, by go_num, HK.out⟩, ?_⟩
          simp [intOf]; omega
      · have hfull := add_full (hl4.below hb5).both (some ⟨w4.heap.size, 0, none⟩) k k (List.replicate k 0) (by simp) hse (by simp; omega) (by simp; omega)
        have HAD := Lib.hid hfull
        have hl5 := hl4.below hb5
        obtain ⟨hlq, hsq, hmq, rfl⟩ := HL1.out
        have HL5 := Lib.hid (⟨hl5, hsq, hmq⟩ : _ ∧ _ ∧ _)
        have hno : ((fr : Int) < (k : Int)) ∨ (fr = 0 ∧ k = 0) := by
          have := Hfr.out
          unfold freeOf at this
          by_cases h0 : sz * 512 - L1.used - 16 = 0
          · by_cases h1 : (fr : Int) < (k : Int)
            · exact .inl h1
            · right; omega
          · left; omega
        clear hl4 hse hb5 HFR HL1 hb4 hfull hl5 hlq hsq hmq
        rcases hno with hno | ⟨hno1, hno2⟩
        · have hnoN : ¬ k ≤ fr := by omega
          go_wp2_with fail
          refine HAD.out.mono ?_
          rintro e wX ⟨rfl, hbX⟩
          have hlX := HL5.out.1.below hbX
          have hsX := HL5.out.2.1
          have hmX := HL5.out.2.2
          obtain ⟨LX, hLX⟩ : ∃ L, L = L1 := ⟨_, rfl⟩
          subst hLX
          clear HAD HL5 hbX hmk hfit
          have hrl : LX.recs.length ≤ 1000000 := by have := LX.used_pos; have := hlX.both.2.1.used; omega
          have HAL := Lib.hid (all_any hlX.both.1.log hrl (recs_all LX hlX.both.2.1))
          have HX := Lib.hid (⟨hlX, hsX, hmX⟩ : _ ∧ _ ∧ _)
          have hrlI : (LX.recs.length : Int) ≤ 1000000 := by omega
          clear hlX hsX hmX hrl
          go_wp2_with fail
          refine HAL.out.mono ?_
          rintro e wA ⟨AA, cA, rfl, _, cA1, cA2, hbA⟩
          have hlA := HX.out.1.below hbA
          obtain ⟨fz, Hfz⟩ : ∃ f : Nat, Hid (f = freeOf sz LX.used) := ⟨_, Lib.hid rfl⟩
          have hfzb : (fz : Int) ≤ 200000 := by have := Hfz.out; unfold freeOf at this; omega
          have huX := hlA.both.2.1.used
          have HFR := Lib.hid (free_law hlA.both.1.log (by omega) (by omega) fz Hfz.out)
          have HLA := Lib.hid hlA
          clear HAL hbA hlA cA1 cA2
          go_wp2_with fail
          refine HFR.out.mono ?_
          rintro e wB ⟨rfl, hbB⟩
          have hlB := HLA.out.below hbB
          by_cases hf0 : (0 : Int) < (fz : Int)
          · obtain ⟨wC, hmk, hse, hbC⟩ := make_zeros wB fz (by omega)
            have hfit : LX.used + (fz + 16) ≤ sz * 512 := by have := Hfz.out; unfold freeOf at this; omega
            have HAD := Lib.hid (law_addNew hlB HX.out.2.1 hbC wB.heap.size fz fz (List.replicate fz 0) (by simp) (Nat.le_refl _) (by unfold maxLen; omega) hse (Nat.le_refl _) (by simp; omega) (by simp; omega))
            clear hse hbC hlB hbB HFR HLA
            go_wp2_with fail
            refine HAD.out.mono ?_
            rintro e wD ⟨rfl, FD, GD, SD, hlD, hsD, _, hdD⟩
            have hmD := hdD.trans HX.out.2.2
            have HOP := Lib.hid (law_open hlD.toD hsD.on hsD.safe hsD.holds (by omega) (by rw [hmD]; exact Hsz.out) hlD.both.2.1)
            clear HAD hlD hsD hdD hmk
            go_wp2_with fail
            refine HOP.out.mono ?_
            rintro e wE ⟨y, GE, rfl, hlE, _, _⟩
            have hrE : (LX.add (List.replicate fz 0)).recs.length ≤ 1000000 := by have := (LX.add (List.replicate fz 0)).used_pos; have := hlE.both.2.1.used; omega
            have hal := all_any hlE.both.1.log hrE (recs_all _ hlE.both.2.1)
            have hle : (LX.add (List.replicate fz 0)).recs.length = LX.recs.length + 1 := by show (LX.recs ++ [_]).length = _; rw [List.length_append]; rfl
            have HAL2 : Hid (Calls Tryd.prog 14 #[.pointer (some ⟨y, 0, none⟩)] wE fun e w' => ∃ A c, e = .returned (.slice A (LX.recs.length + 1) c) ∧ Below wE.heap.size wE w' ∧ c ≤ maxLen ∧ LX.recs.length + 1 ≤ c) := Lib.hid (hal.mono fun e w' ⟨A, c, h1, _, h3, h4, h5⟩ => ⟨A, c, by rw [h1, hle], h5, h4, by omega⟩)
            have HBE := Lib.hid (⟨hlE.bel, hlE.size⟩ : _ ∧ _)
            have hcz : (0 : Int) ≤ (fz : Int) := by omega
            clear HOP hlE hrE hal hle
            go_wp2_with fail
            refine HAL2.out.mono ?_
            rintro e wG ⟨AG, cG, rfl, hbG, cG1, cG2⟩
            have HBG := Lib.hid (HBE.out.1.trans (hbG.mono HBE.out.2))
            clear HAL2 hbG HBE cG1 cG2
            go_wp2
            go_ret
            exact ⟨rfl, HBG.out⟩
          · have hmD := HX.out.2.2
            have HOP := Lib.hid (law_open hlB.toD HX.out.2.1.on HX.out.2.1.safe HX.out.2.1.holds (by omega) (by rw [hmD]; exact Hsz.out) hlB.both.2.1)
            clear hbB hlB HFR HLA hmD
            go_wp2_with fail
            refine HOP.out.mono ?_
            rintro e wE ⟨y, GE, rfl, hlE, _, _⟩
            have hrE : LX.recs.length ≤ 1000000 := by have := LX.used_pos; have := hlE.both.2.1.used; omega
            have hal := all_any hlE.both.1.log hrE (recs_all _ hlE.both.2.1)
            have HAL2 : Hid (Calls Tryd.prog 14 #[.pointer (some ⟨y, 0, none⟩)] wE fun e w' => ∃ A c, e = .returned (.slice A LX.recs.length c) ∧ Below wE.heap.size wE w' ∧ c ≤ maxLen ∧ LX.recs.length ≤ c) := Lib.hid (hal.mono fun e w' ⟨A, c, h1, _, h3, h4, h5⟩ => ⟨A, c, h1, h5, h4, h3⟩)
            have HBE := Lib.hid (⟨hlE.bel, hlE.size⟩ : _ ∧ _)
            have hcz : (0 : Int) ≤ (fz : Int) := by omega
            clear HOP hlE hrE hal
            go_wp2_with fail
            refine HAL2.out.mono ?_
            rintro e wG ⟨AG, cG, rfl, hbG, cG1, cG2⟩
            have HBG := Lib.hid (HBE.out.1.trans (hbG.mono HBE.out.2))
            clear HAL2 hbG HBE cG1 cG2
            go_wp2
            go_ret
            exact ⟨rfl, HBG.out⟩
        · have hkf : k ≤ fr := by omega
          have hf1 : ¬ 0 < fr := by omega
          clear hno1 hno2
          go_wp2_with fail
          refine HAD.out.mono ?_
          rintro e wX ⟨rfl, hbX⟩
          have hlX := HL5.out.1.below hbX
          have hsX := HL5.out.2.1
          have hmX := HL5.out.2.2
          obtain ⟨LX, hLX⟩ : ∃ L, L = L1 := ⟨_, rfl⟩
          subst hLX
          clear HAD HL5 hbX hmk hfit
          have hrl : LX.recs.length ≤ 1000000 := by have := LX.used_pos; have := hlX.both.2.1.used; omega
          have HAL := Lib.hid (all_any hlX.both.1.log hrl (recs_all LX hlX.both.2.1))
          have HX := Lib.hid (⟨hlX, hsX, hmX⟩ : _ ∧ _ ∧ _)
          have hrlI : (LX.recs.length : Int) ≤ 1000000 := by omega
          clear hlX hsX hmX hrl
          go_wp2_with fail
          refine HAL.out.mono ?_
          rintro e wA ⟨AA, cA, rfl, _, cA1, cA2, hbA⟩
          have hlA := HX.out.1.below hbA
          obtain ⟨fz, Hfz⟩ : ∃ f : Nat, Hid (f = freeOf sz LX.used) := ⟨_, Lib.hid rfl⟩
          have hfzb : (fz : Int) ≤ 200000 := by have := Hfz.out; unfold freeOf at this; omega
          have huX := hlA.both.2.1.used
          have HFR := Lib.hid (free_law hlA.both.1.log (by omega) (by omega) fz Hfz.out)
          have HLA := Lib.hid hlA
          clear HAL hbA hlA cA1 cA2
          go_wp2_with fail
          refine HFR.out.mono ?_
          rintro e wB ⟨rfl, hbB⟩
          have hlB := HLA.out.below hbB
          by_cases hf0 : (0 : Int) < (fz : Int)
          · obtain ⟨wC, hmk, hse, hbC⟩ := make_zeros wB fz (by omega)
            have hfit : LX.used + (fz + 16) ≤ sz * 512 := by have := Hfz.out; unfold freeOf at this; omega
            have HAD := Lib.hid (law_addNew hlB HX.out.2.1 hbC wB.heap.size fz fz (List.replicate fz 0) (by simp) (Nat.le_refl _) (by unfold maxLen; omega) hse (Nat.le_refl _) (by simp; omega) (by simp; omega))
            clear hse hbC hlB hbB HFR HLA
            go_wp2_with fail
            refine HAD.out.mono ?_
            rintro e wD ⟨rfl, FD, GD, SD, hlD, hsD, _, hdD⟩
            have hmD := hdD.trans HX.out.2.2
            have HOP := Lib.hid (law_open hlD.toD hsD.on hsD.safe hsD.holds (by omega) (by rw [hmD]; exact Hsz.out) hlD.both.2.1)
            clear HAD hlD hsD hdD hmk
            go_wp2_with fail
            refine HOP.out.mono ?_
            rintro e wE ⟨y, GE, rfl, hlE, _, _⟩
            have hrE : (LX.add (List.replicate fz 0)).recs.length ≤ 1000000 := by have := (LX.add (List.replicate fz 0)).used_pos; have := hlE.both.2.1.used; omega
            have hal := all_any hlE.both.1.log hrE (recs_all _ hlE.both.2.1)
            have hle : (LX.add (List.replicate fz 0)).recs.length = LX.recs.length + 1 := by show (LX.recs ++ [_]).length = _; rw [List.length_append]; rfl
            have HAL2 : Hid (Calls Tryd.prog 14 #[.pointer (some ⟨y, 0, none⟩)] wE fun e w' => ∃ A c, e = .returned (.slice A (LX.recs.length + 1) c) ∧ Below wE.heap.size wE w' ∧ c ≤ maxLen ∧ LX.recs.length + 1 ≤ c) := Lib.hid (hal.mono fun e w' ⟨A, c, h1, _, h3, h4, h5⟩ => ⟨A, c, by rw [h1, hle], h5, h4, by omega⟩)
            have HBE := Lib.hid (⟨hlE.bel, hlE.size⟩ : _ ∧ _)
            have hcz : (0 : Int) ≤ (fz : Int) := by omega
            clear HOP hlE hrE hal hle
            go_wp2_with fail
            refine HAL2.out.mono ?_
            rintro e wG ⟨AG, cG, rfl, hbG, cG1, cG2⟩
            have HBG := Lib.hid (HBE.out.1.trans (hbG.mono HBE.out.2))
            clear HAL2 hbG HBE cG1 cG2
            go_wp2
            go_ret
            exact ⟨rfl, HBG.out⟩
          · have hmD := HX.out.2.2
            have HOP := Lib.hid (law_open hlB.toD HX.out.2.1.on HX.out.2.1.safe HX.out.2.1.holds (by omega) (by rw [hmD]; exact Hsz.out) hlB.both.2.1)
            clear hbB hlB HFR HLA hmD
            go_wp2_with fail
            refine HOP.out.mono ?_
            rintro e wE ⟨y, GE, rfl, hlE, _, _⟩
            have hrE : LX.recs.length ≤ 1000000 := by have := LX.used_pos; have := hlE.both.2.1.used; omega
            have hal := all_any hlE.both.1.log hrE (recs_all _ hlE.both.2.1)
            have HAL2 : Hid (Calls Tryd.prog 14 #[.pointer (some ⟨y, 0, none⟩)] wE fun e w' => ∃ A c, e = .returned (.slice A LX.recs.length c) ∧ Below wE.heap.size wE w' ∧ c ≤ maxLen ∧ LX.recs.length ≤ c) := Lib.hid (hal.mono fun e w' ⟨A, c, h1, _, h3, h4, h5⟩ => ⟨A, c, h1, h5, h4, h3⟩)
            have HBE := Lib.hid (⟨hlE.bel, hlE.size⟩ : _ ∧ _)
            have hcz : (0 : Int) ≤ (fz : Int) := by omega
            clear HOP hlE hrE hal
            go_wp2_with fail
            refine HAL2.out.mono ?_
            rintro e wG ⟨AG, cG, rfl, hbG, cG1, cG2⟩
            have HBG := Lib.hid (HBE.out.1.trans (hbG.mono HBE.out.2))
            clear HAL2 hbG HBE cG1 cG2
            go_wp2
            go_ret
            exact ⟨rfl, HBG.out⟩
    · obtain rfl : j = 200 := by omega
      subst hrc
      obtain ⟨LX, hLX⟩ : ∃ L, L = L1 := ⟨_, rfl⟩
      subst hLX
      have hlX := hl1
      have hsX := hs1
      have hmX := hm1
      clear hl1 hs1 hm1
      have hrl : LX.recs.length ≤ 1000000 := by have := LX.used_pos; have := hlX.both.2.1.used; omega
      have HAL := Lib.hid (all_any hlX.both.1.log hrl (recs_all LX hlX.both.2.1))
      have HX := Lib.hid (⟨hlX, hsX, hmX⟩ : _ ∧ _ ∧ _)
      have hrlI : (LX.recs.length : Int) ≤ 1000000 := by omega
      clear hlX hsX hmX hrl
      go_wp2_with fail
      refine HAL.out.mono ?_
      rintro e wA ⟨AA, cA, rfl, _, cA1, cA2, hbA⟩
      have hlA := HX.out.1.below hbA
      obtain ⟨fz, Hfz⟩ : ∃ f : Nat, Hid (f = freeOf sz LX.used) := ⟨_, Lib.hid rfl⟩
      have hfzb : (fz : Int) ≤ 200000 := by have := Hfz.out; unfold freeOf at this; omega
      have huX := hlA.both.2.1.used
      have HFR := Lib.hid (free_law hlA.both.1.log (by omega) (by omega) fz Hfz.out)
      have HLA := Lib.hid hlA
      clear HAL hbA hlA cA1 cA2
      go_wp2_with fail
      refine HFR.out.mono ?_
      rintro e wB ⟨rfl, hbB⟩
      have hlB := HLA.out.below hbB
      by_cases hf0 : (0 : Int) < (fz : Int)
      · obtain ⟨wC, hmk, hse, hbC⟩ := make_zeros wB fz (by omega)
        have hfit : LX.used + (fz + 16) ≤ sz * 512 := by have := Hfz.out; unfold freeOf at this; omega
        have HAD := Lib.hid (law_addNew hlB HX.out.2.1 hbC wB.heap.size fz fz (List.replicate fz 0) (by simp) (Nat.le_refl _) (by unfold maxLen; omega) hse (Nat.le_refl _) (by simp; omega) (by simp; omega))
        clear hse hbC hlB hbB HFR HLA
        go_wp2_with fail
        refine HAD.out.mono ?_
        rintro e wD ⟨rfl, FD, GD, SD, hlD, hsD, _, hdD⟩
        have hmD := hdD.trans HX.out.2.2
        have HOP := Lib.hid (law_open hlD.toD hsD.on hsD.safe hsD.holds (by omega) (by rw [hmD]; exact Hsz.out) hlD.both.2.1)
        clear HAD hlD hsD hdD hmk
        go_wp2_with fail
        refine HOP.out.mono ?_
        rintro e wE ⟨y, GE, rfl, hlE, _, _⟩
        have hrE : (LX.add (List.replicate fz 0)).recs.length ≤ 1000000 := by have := (LX.add (List.replicate fz 0)).used_pos; have := hlE.both.2.1.used; omega
        have hal := all_any hlE.both.1.log hrE (recs_all _ hlE.both.2.1)
        have hle : (LX.add (List.replicate fz 0)).recs.length = LX.recs.length + 1 := by show (LX.recs ++ [_]).length = _; rw [List.length_append]; rfl
        have HAL2 : Hid (Calls Tryd.prog 14 #[.pointer (some ⟨y, 0, none⟩)] wE fun e w' => ∃ A c, e = .returned (.slice A (LX.recs.length + 1) c) ∧ Below wE.heap.size wE w' ∧ c ≤ maxLen ∧ LX.recs.length + 1 ≤ c) := Lib.hid (hal.mono fun e w' ⟨A, c, h1, _, h3, h4, h5⟩ => ⟨A, c, by rw [h1, hle], h5, h4, by omega⟩)
        have HBE := Lib.hid (⟨hlE.bel, hlE.size⟩ : _ ∧ _)
        have hcz : (0 : Int) ≤ (fz : Int) := by omega
        clear HOP hlE hrE hal hle
        go_wp2_with fail
        refine HAL2.out.mono ?_
        rintro e wG ⟨AG, cG, rfl, hbG, cG1, cG2⟩
        have HBG := Lib.hid (HBE.out.1.trans (hbG.mono HBE.out.2))
        clear HAL2 hbG HBE cG1 cG2
        go_wp2
        go_ret
        exact ⟨rfl, HBG.out⟩
      · have hmD := HX.out.2.2
        have HOP := Lib.hid (law_open hlB.toD HX.out.2.1.on HX.out.2.1.safe HX.out.2.1.holds (by omega) (by rw [hmD]; exact Hsz.out) hlB.both.2.1)
        clear hbB hlB HFR HLA hmD
        go_wp2_with fail
        refine HOP.out.mono ?_
        rintro e wE ⟨y, GE, rfl, hlE, _, _⟩
        have hrE : LX.recs.length ≤ 1000000 := by have := LX.used_pos; have := hlE.both.2.1.used; omega
        have hal := all_any hlE.both.1.log hrE (recs_all _ hlE.both.2.1)
        have HAL2 : Hid (Calls Tryd.prog 14 #[.pointer (some ⟨y, 0, none⟩)] wE fun e w' => ∃ A c, e = .returned (.slice A LX.recs.length c) ∧ Below wE.heap.size wE w' ∧ c ≤ maxLen ∧ LX.recs.length ≤ c) := Lib.hid (hal.mono fun e w' ⟨A, c, h1, _, h3, h4, h5⟩ => ⟨A, c, h1, h5, h4, h3⟩)
        have HBE := Lib.hid (⟨hlE.bel, hlE.size⟩ : _ ∧ _)
        have hcz : (0 : Int) ≤ (fz : Int) := by omega
        clear HOP hlE hrE hal
        go_wp2_with fail
        refine HAL2.out.mono ?_
        rintro e wG ⟨AG, cG, rfl, hbG, cG1, cG2⟩
        have HBG := Lib.hid (HBE.out.1.trans (hbG.mono HBE.out.2))
        clear HAL2 hbG HBE cG1 cG2
        go_wp2
        go_ret
        exact ⟨rfl, HBG.out⟩
end Go.Proofs.YtambddncncaehaaDoor
