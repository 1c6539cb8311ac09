/- The walk of WalKnown. -/
import Derived.Test.YtambddncncaehaaDoorWalAwake
namespace Go.Proofs.YtambddncncaehaaDoor
open Go.RowKit Dk Wl
set_option linter.unusedVariables false
set_option maxRecDepth 100000

section
variable {B : Nat} {w0 w : World} {F G : List Nat} {d l sz : Nat} {S : Disk} {L : Lg}
/-- Add without power. -/
theorem law_offAdd (h : Law B w0 w F G d l S sz L false) (hoff : S.off = true) (hc : S.cache = []) (hH : Holds S.dur sz L) (cs : Array Value) (T : TypeId) (fr : Nat × Nat) (n : Nat) (body : List UInt8) (hcs : cs.toList = bv body) (hn : n = body.length) (hb : body.length ≤ 200000) (hfit : L.used + (body.length + 16) ≤ sz * 512) :
    Calls Tryd.prog 11 #[.pointer (some ⟨l, 0, none⟩), .slice (some ⟨w.heap.size, 0, none⟩) n n] (w.alloc (.cells cs T fr)) fun e w' => e = .returned (.int .i64 7) ∧ ∃ F' G' S', Law B w0 w' F' G' d l S' sz L true ∧ S'.off = true ∧ Holds S'.dur sz L ∧ S'.dur.length = S.dur.length := by
  have hb1 : Below w.heap.size w (w.alloc (.cells cs T fr)) := (Below.refl _ _).alloc (Nat.le_refl _) _
  have h1 := h.below hb1
  refine (add_ok h1.both hc hH (some ⟨w.heap.size, 0, none⟩) n n body hn (Nat.le_refl _) (by unfold maxLen; omega) ((sees_new_at w T cs fr body hcs _ rfl).mono (by simp)) (fun _ a ha => by
    injection ha with ha; subst ha
    exact ⟨fun hm => by have := h.both.1.dev.lt _ hm; simp at this, fun hm => by have := h.both.1.log.lt _ hm; simp at this⟩) hb hfit).mono ?_
  rintro e w' ⟨er, F', G', S', rfl, ht, hl, ⟨_, _, _, _, _, _, o⟩ | ⟨rfl, o1, o2, o3, o4, o5⟩⟩
  · rw [hoff] at o; cases o
  · exact ⟨rfl, F', G', S', h1.turn o3 ht, o1, o5 hoff, hl⟩
/-- Crash and On beside a log. -/
theorem law_crash {dn : Bool} (h : Law B w0 w F G d l S sz L dn) (hc : S.cache = []) (A : Option Addr) (n c : Nat) (keep : List Int) (hn : n = keep.length) (hnc : n ≤ c) (hcm : c ≤ maxLen) (hk : SeesI w w.heap.size A keep) (torn : Int) :
    Calls Tryd.prog 15 #[.pointer (some ⟨d, 0, none⟩), .slice A n c, .int .i64 torn] w fun e w' => e = .returned (.tuple #[]) ∧ ∃ F', Law B w0 w' F' G d l (S.crash keep torn) sz L dn ∧ Turns F G F' G w w' :=
  (crash_any w h.both.1.dev (by rw [hc]; simp) A n c keep hn hnc hcm hk torn).mono fun e w' ⟨h1, F', h2, h3, h4⟩ => ⟨h1, F', h.turnD h2 h3 h4 (S.crash_len _ _), Turns.dev h3 h4⟩
theorem law_on {dn : Bool} (h : Law B w0 w F G d l S sz L dn) :
    Calls Tryd.prog 17 #[.pointer (some ⟨d, 0, none⟩)] w fun e w' => e = .returned (.tuple #[]) ∧ ∃ F', Law B w0 w' F' G d l S.on sz L dn ∧ Turns F G F' G w w' :=
  (on_any w h.both.1.dev).mono fun e w' ⟨h1, F', h2, h3, h4⟩ => ⟨h1, F', h.turnD h2 h3 h4 rfl, Turns.dev h3 h4⟩
end
theorem strs_new (w : World) (T : TypeId) (fr : Nat × Nat) (cs : Array Value) (ss : List ByteArray) (h : cs.toList = ss.map Value.string) : Strs (w.alloc (.cells cs T fr)) (w.heap.size + 1) (some ⟨w.heap.size, 0, none⟩) ss := fun _ =>
  ⟨w.heap.size, 0, rfl, by omega, fun j hj => by
    rw [Nat.zero_add, World.cell?_alloc_mark, ← Array.getElem?_toList, h, List.getElem?_map, List.getElem?_eq_getElem hj]; rfl⟩
theorem recs_all (L : Lg) {sz : Nat} (h : L.Ok sz) : ∀ b ∈ L.recs, b.length ≤ 200000 := fun b hb => h.small b (List.mem_cons_of_mem _ hb)

set_option maxHeartbeats 6400000 in
set_option maxRecDepth 100000 in
theorem walKnown_walk (w : World) (ht0 : Lib.TabIs Tryd.prog w "franking/crc.halfByte" .u32 crcTab) :
    Calls Tryd.prog 3 #[] w fun e w' => e = .returned (.bool true) ∧ Below w.heap.size w w' := by
  have ht := tabAt ht0
  have HT := Lib.hid ht
  have HAW := Lib.hid (walAwake_any w ht)
  have kc := fun (w : World) (C : Array Value) (n c : Nat) => Lib.run_convert_bytes_const (P := Tryd.prog) w 31 5 C n c Tryd.underlying31 Tryd.underlying5
  clear ht ht0
  go_enter Tryd.func3, Tryd.ntmps3
  go_wp2_with fail
  refine HAW.out.mono ?_
  rintro e w1 ⟨rfl, hb1⟩
  have hn7 := law_new (B := w.heap.size) (w0 := w) (w := w1) 7 (by omega) (by omega) hb1 hb1.size (HT.out.below hb1 (Nat.le_refl _)) HT.out.lt
  rw [show ((7 : Nat) : Int) = 7 from rfl] at hn7
  have HN7 := Lib.hid hn7
  clear HAW hb1 hn7
  go_wp2_with fail
  refine HN7.out.mono ?_
  rintro e w2 ⟨s, Fs, rfl, hds, _⟩
  have HOS := Lib.hid (open_small w2 hds.dev rfl (by show (fresh 7).dur.length < 8; rw [show (fresh 7).dur.length = 7 from List.length_replicate]; omega))
  have hn64 := law_new (B := w.heap.size) (w0 := w) (w := w2) 64 (by omega) (by omega) hds.bel hds.size hds.tab hds.tB
  rw [show ((64 : Nat) : Int) = 64 from rfl] at hn64
  have HN64 := Lib.hid hn64
  clear HN7 hds hn64
  go_wp2_with fail
  refine HOS.out.mono ?_
  rintro e w3 ⟨rfl, rfl⟩
  clear HOS
  go_wp2_with fail
  refine HN64.out.mono ?_
  rintro e w3 ⟨d, F, rfl, hd3, _⟩
  have HOP := Lib.hid (law_open0 (sz := 31) hd3 (by omega) rfl)
  clear HN64 hd3
  go_wp2_with fail
  refine HOP.out.mono ?_
  rintro e w4 ⟨l, G, rfl, hl4, _, _⟩
  have HA := Lib.hid (law_addLit hl4 (fresh_sane 64 31 (by omega)) #[.int .u8 97] 5 (1, 2) 1 [97] rfl rfl (by decide) (by rw [Lg.zero_used]; decide))
  clear HOP hl4
  go_wp2_with fail
  refine HA.out.mono ?_
  rintro e w5 ⟨rfl, F5, G5, S5, hl5, hs5, _, hd5⟩
  have HK := Lib.hid (law_keepLit hl5 hs5 #[.int .u8 98, .int .u8 97, .int .u8 115, .int .u8 101] 5 (4, 5) 4 [98, 97, 115, 101] rfl rfl (by decide) (by decide))
  clear HA hl5 hs5
  go_wp2_with fail
  refine HK.out.mono ?_
  rintro e w6 ⟨rfl, F6, G6, S6, hl6, hs6, _, hd6⟩
  have hal := all_any hl6.both.1.log (by show 0 ≤ 1000000; omega) (recs_all _ hl6.both.2.1)
  have HAL := Lib.hid (show Calls Tryd.prog 14 #[.pointer (some ⟨l, 0, none⟩)] w6 (AllEnd [] w6) from hal)
  have HL6 := Lib.hid (⟨hl6, hs6⟩ : _ ∧ _)
  have HD6 := Lib.hid (hd6.trans (hd5.trans (show (fresh 64).dur.length = 64 from List.length_replicate)))
  clear HK hl6 hs6 hal hd5 hd6
  go_wp2_with fail
  refine HAL.out.mono ?_
  rintro e w7 ⟨A7, c7, rfl, hg7, _, _, hb7⟩
  have HR := Lib.hid (rows_any w7 A7 0 c7 [] none 0 0 [] rfl rfl (by omega) (by omega) hg7 (fun h => absurd rfl h) true rfl)
  have HL7 := Lib.hid (HL6.out.1.below hb7)
  clear HAL hg7 hb7
  go_wp2_with fail
  refine HR.out.mono ?_
  rintro e w8 ⟨rfl, hb8⟩
  have HA8 := Lib.hid (law_addLit (HL7.out.below hb8) HL6.out.2 #[.int .u8 120] 5 (1, 2) 1 [120] rfl rfl (by decide) (by rw [Lg.keep_used]; decide))
  clear HR HL6 HL7 hb8
  go_wp2_with fail
  refine HA8.out.mono ?_
  rintro e w9 ⟨rfl, F9, G9, S9, hl9, hs9, _, hd9⟩
  obtain ⟨i0, hi, hz0, hz1, hz2⟩ := info_parts Tryd.infoB1
  obtain ⟨wA, hmk, hownA, hgA⟩ := run_make_full (P := Tryd.prog) (w := w9) 0 31 5 i0 (.int .u8 0) 1 Tryd.underlying31 hi hz0 hz1 .i64 .i64 200001 (by rw [hz2]; decide) (by decide) (Nat.zero_le _)
  rw [show ((200001 : Nat) : Int) = 200001 from rfl] at hmk
  have hbA : Below w9.heap.size w9 wA := (Below.refl _ _).grown hgA (Nat.le_refl _) (fun k hk => by cases hk)
  have hlA := hl9.below hbA
  have HAB := Lib.hid (add_big hlA.both.1 (by show 1 ≤ 1000000; omega) (some ⟨w9.heap.size, 0, none⟩) 200001 200001 (by omega) (by decide))
  have HLA := Lib.hid (⟨hlA, hs9⟩ : _ ∧ _)
  have HD9 := Lib.hid (hd9.trans HD6.out)
  clear HA8 hl9 hs9 hd9 HD6 hi hz0 hz1 hz2 hownA hgA hbA hlA
  go_wp2_with fail
  refine HAB.out.mono ?_
  rintro e wB ⟨rfl, hbB⟩
  have hcr := law_crash (HLA.out.1.below hbB) HLA.out.2.safe none 0 0 [] rfl (Nat.le_refl _) (Nat.zero_le _) (SeesI.nil _ _ _) (-1)
  rw [crash_safe HLA.out.2.on HLA.out.2.safe] at hcr
  have HCR := Lib.hid hcr
  have HH := Lib.hid HLA.out.2.holds
  clear HAB hbB hcr hmk HLA
  go_wp2_with fail
  refine HCR.out.mono ?_
  rintro e wC ⟨rfl, FC, hlC, _⟩
  have HOA := Lib.hid (law_offAdd hlC rfl rfl HH.out #[.int .u8 121] 5 (1, 2) 1 [121] rfl rfl (by decide) (by rw [Lg.add_used, Lg.keep_used]; decide))
  clear HCR hlC
  go_wp2_with fail
  refine HOA.out.mono ?_
  rintro e wD ⟨rfl, FD, GD, SD, hlD, hoD, hHD, hdD⟩
  have HDN := Lib.hid (done_any hlD.both.1.log)
  have HKD := Lib.hid (keep_done hlD.both.1 none 0 0)
  have HOF := Lib.hid (open_off wD hlD.both.1.dev hoD)
  have HON := Lib.hid (law_on hlD)
  have hdark := hlD.both.1.dev.ok.dark hoD
  have HLO := Lib.hid (⟨hdark.1, hHD, hlD.both.2.1, hdD.trans HD9.out⟩ : _ ∧ _ ∧ _ ∧ _)
  clear HOA hlD hoD hHD hdD hdark HD9 HH
  go_wp2_with fail
  refine HDN.out.mono ?_
  rintro e wE ⟨rfl, rfl⟩
  clear HDN
  go_wp2_with fail
  refine HKD.out.mono ?_
  rintro e wE ⟨rfl, rfl⟩
  clear HKD
  go_wp2_with fail
  refine HOF.out.mono ?_
  rintro e wE ⟨rfl, rfl⟩
  clear HOF
  go_wp2_with fail
  refine HON.out.mono ?_
  rintro e wE ⟨rfl, FE, hlE, _⟩
  have HOP2 := Lib.hid (law_open (sz := 31) hlE.toD rfl HLO.out.1 HLO.out.2.1 (by show 8 ≤ SD.dur.length; have := HLO.out.2.2.2; omega) (by show 31 = (SD.dur.length - 1) / 2; have := HLO.out.2.2.2; omega) HLO.out.2.2.1)
  clear HON hlE HLO
  go_wp2_with fail
  refine HOP2.out.mono ?_
  rintro e wF ⟨m, GF, rfl, hlF, _, _⟩
  have hba := base_any hlF.both.1.log (by show 4 ≤ 140737488355328; omega)
  have HBA := Lib.hid (show Calls Tryd.prog 18 #[.pointer (some ⟨m, 0, none⟩)] wF fun e w' => ∃ A c, e = .returned (.slice A 4 c) ∧ Sees w' w'.heap.size A [98, 97, 115, 101] ∧ 4 ≤ c ∧ c ≤ maxLen ∧ Below wF.heap.size wF w' from hba)
  have HLF := Lib.hid hlF
  clear HOP2 hlF hba
  go_wp2_with fail
  refine HBA.out.mono ?_
  rintro e wG ⟨AG, cG, rfl, hsG, _, _, hbG⟩
  have v0 := run_sees_string (P := Tryd.prog) wG 31 9 5 Tryd.underlying31 Tryd.underlying5 Tryd.underlying9 hsG 4 cG rfl
  have hlG := HLF.out.below hbG
  have hal2 := all_any hlG.both.1.log (by show 1 ≤ 1000000; omega) (recs_all _ hlG.both.2.1)
  have HAL2 := Lib.hid (show Calls Tryd.prog 14 #[.pointer (some ⟨m, 0, none⟩)] wG (AllEnd [[120]] wG) from hal2)
  have HLG := Lib.hid hlG
  clear HBA HLF hsG hbG hlG hal2
  go_wp2_with fail
  refine HAL2.out.mono ?_
  rintro e wH ⟨AH, cH, rfl, hgH, _, _, hbH⟩
  have hbI : Below wH.heap.size wH (wH.alloc (.cells #[.string ⟨#[120]⟩] 9)) := (Below.refl _ _).alloc (Nat.le_refl _) _
  have HR2 := Lib.hid (rows_any (wH.alloc (.cells #[.string ⟨#[120]⟩] 9)) AH 1 cH [[120]] (some ⟨wH.heap.size, 0, none⟩) 1 1 [⟨#[120]⟩] rfl rfl (by omega) (by omega) ((hgH.below hbI (Nat.le_refl _)).up (by simp)) ((strs_new wH 9 _ #[.string ⟨#[120]⟩] [⟨#[120]⟩] rfl).up (by simp)) true (by rfl))
  have HLI := Lib.hid ((HLG.out.below hbH).below hbI)
  clear HAL2 HLG hgH hbH hbI v0
  go_wp2_with fail
  refine HR2.out.mono ?_
  rintro e wJ ⟨rfl, hbJ⟩
  have HDN2 := Lib.hid (done_any (HLI.out.below hbJ).both.1.log)
  have HBJ := Lib.hid (HLI.out.below hbJ).bel
  clear HR2 HLI hbJ
  go_wp2_with fail
  refine HDN2.out.mono ?_
  rintro e wK ⟨rfl, rfl⟩
  clear HDN2
  go_wp2
  go_ret
  exact ⟨rfl, HBJ.out⟩
end Go.Proofs.YtambddncncaehaaDoor
