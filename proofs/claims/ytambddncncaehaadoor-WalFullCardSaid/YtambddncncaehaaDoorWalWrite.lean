/- The walk of the log's writeFrom: a row of sectors written and made safe. -/
import Derived.Test.YtambddncncaehaaDoorWal
import Derived.Test.YtambddncncaehaaDoorDevWrite
import Derived.Test.YtambddncncaehaaDoorDevFlush
import Derived.Laws.CopyRow
import Derived.Laws.CopyOwn
import Derived.Lib.SlBuf
namespace Go.Proofs.YtambddncncaehaaDoor
open Go.RowKit Dk Wl
set_option linter.unusedVariables false
set_option maxRecDepth 100000

theorem Tryd.infoU8 : (Tryd.prog.info? 5).map (·.size) = some 1 := by kernel_rfl
/-- A new sector, filled. -/
theorem sector_row (W : World) (A : Option Addr) (n c : Nat) (b : List UInt8) (hn : n = b.length) (hnc : n ≤ c) (hs : Sees W W.heap.size A b) (k : Nat) (hk : k * 512 < b.length) (ty : TypeId) :
    ∃ A' w2 v w3, (Instr.makeSlice 31 (.int .i64 512) (.int .i64 512)).run Tryd.prog W = .ok (.slice (some ⟨W.heap.size, 0, none⟩) 512 512) w2 ∧
      (∀ X, (Instr.slice 31 (.slice A n c) (some (.int .i64 ((k : Int) * 512))) none none).run Tryd.prog X = .ok (.slice A' (n - k * 512) (c - k * 512)) X) ∧
      (Builtin.copy_ #[31, 31] ty #[.slice (some ⟨W.heap.size, 0, none⟩) 512 512, .slice A' (n - k * 512) (c - k * 512)]).run Tryd.prog w2 = .ok v w3 ∧
      Sees w3 w3.heap.size (some ⟨W.heap.size, 0, none⟩) (secAt b k) ∧ Below W.heap.size W w3 ∧ W.heap.size + 1 ≤ w3.heap.size := by
  subst hn
  obtain ⟨i0, hi, hz0, hz1, hz2⟩ := info_parts Tryd.infoB1
  obtain ⟨w2, hmk, hown2, hg2⟩ := run_make_full (P := Tryd.prog) (w := W) 0 31 5 i0 _ 1 Tryd.underlying31 hi hz0 hz1 .i64 .i64 512 (by rw [hz2]; decide) (by decide) (Nat.zero_le _)
  rw [show (Value.int .u8 0).cells = #[Value.int .u8 0] from rfl, toList_madeCells_one, Nat.mul_one] at hown2
  rw [show ((512 : Nat) : Int) = 512 from rfl] at hmk
  have hb2 : Below W.heap.size W w2 := (Below.refl _ _).grown hg2 (Nat.le_refl _) (fun k hk => by cases hk)
  obtain ⟨A', hsl, hsee⟩ := run_tail (P := Tryd.prog) Tryd.underlying31 (fun w => by exact Tryd.sizeOf5 w) hs b.length c (k * 512) rfl (by omega) hnc
  rw [show ((k * 512 : Nat) : Int) = (k : Int) * 512 by simp] at hsl
  have hsee2 := hsee.below hb2 (Nat.le_refl _)
  have hdl : (b.drop (k * 512)).length = b.length - k * 512 := List.length_drop
  obtain ⟨g, o, rfl, hg, hcell⟩ := hsee2 (by intro e; rw [e] at hdl; simp at hdl; omega)
  rcases hown2.2 with ⟨hv, _⟩ | ⟨gg, cap, cur, hv, _, hgg, _, _, hcs, htk⟩
  · cases hv
  injection hv with h1 h2 h3
  injection h1 with h1
  injection h1 with h1 _ _
  subst h1; subst h3
  have hcur : cur.size = 512 := by rw [hcs]
  have hcl : cur.toList = List.replicate 512 (Value.int .u8 0) := by
    rw [← htk, List.take_of_length_le (by simp [hcur])]
  obtain ⟨cs, hcsd⟩ : ∃ cs, cs = bv ((b.drop (k * 512)).take 512) := ⟨_, rfl⟩
  have hcsl : cs.length = Nat.min (b.length - k * 512) 512 := by rw [hcsd, bv_length, List.length_take, hdl, Nat.min_comm]
  have hrun := run_copy_row (P := Tryd.prog) w2 31 31 ty 5 W.heap.size 0 512 512 ⟨g, o, none⟩ (b.length - k * 512) (c - k * 512) cur _ cs Tryd.underlying31 Tryd.infoU8 hgg hcsl
    (fun j v hj => by
      have hj' : j < ((b.drop (k * 512)).take 512).length := by have := (List.getElem?_eq_some_iff.1 hj).1; rwa [hcsd, bv_length] at this
      have hj2 : j < (b.drop (k * 512)).length := by rw [List.length_take] at hj'; omega
      rw [hcsd, bv_at _ j hj', List.getElem_take] at hj
      rw [add_to, hcell j hj2, ← hj]) (by rw [hcur, hcsl]; have : Nat.min (b.length - k * 512) 512 ≤ 512 := Nat.min_le_right _ _; omega) (by intro u hu; rw [hcsd] at hu; obtain ⟨x, _, rfl⟩ := List.mem_map.1 hu; rfl)
  refine ⟨_, w2, _, _, hmk, hsl, hrun, fun _ => ⟨W.heap.size, 0, rfl, ?_, fun j hj => ?_⟩, hb2.trans (below_setRow (Below.refl _ _) (Nat.le_refl _) _), ?_⟩
  · have := (Array.getElem?_eq_some_iff.1 hgg).1
    simpa [World.setRow] using this
  · have hrow : (cur.toList.take 0 ++ cs ++ cur.toList.drop (0 + cs.length)) = bv (secAt b k) := by
      rw [hcl, hcsd, List.take_zero, List.nil_append, Nat.zero_add, bv_length, List.drop_replicate]
      unfold secAt
      rw [bv_append]
      congr 1
      unfold bv
      rw [List.map_replicate]
      rfl
    rw [show (⟨W.heap.size, 0 + j, none⟩ : Addr) = ⟨W.heap.size, j, none⟩ by rw [Nat.zero_add]]
    have hg3 := setRow_heap w2 W.heap.size cur (cur.toList.take 0 ++ cs ++ cur.toList.drop (0 + cs.length)).toArray _ (0, 0) hgg
    have e : (w2.setRow W.heap.size (cur.toList.take 0 ++ cs ++ cur.toList.drop (0 + cs.length)).toArray).cell? ⟨W.heap.size, j, none⟩ = (cur.toList.take 0 ++ cs ++ cur.toList.drop (0 + cs.length))[j]? := by
      simp only [World.cell?, hg3]
      simp
    rw [e, hrow, bv_at _ j hj]
  · have := (Array.getElem?_eq_some_iff.1 hgg).1
    have e : (w2.setRow W.heap.size (cur.toList.take 0 ++ cs ++ cur.toList.drop (0 + cs.length)).toArray).heap.size = w2.heap.size := by simp [World.setRow]
    rw [e]; omega

/-- What writeFrom ends in. -/
def WfEnd (Q : List ByteArray → Prop) (F : List Nat) (d : Nat) (S : Disk) (first : Nat) (b : List UInt8) (k : Nat) (w : World) (e : Ending) (w' : World) : Prop :=
  ∃ er F' S', e = .returned (.int .i64 er) ∧ DevM w' F' d S' ∧ Only F w w' ∧ Grows F F' w ∧ S'.dur.length = S.dur.length ∧ ((er = 0 ∧ S'.off = false ∧ S'.cache = [] ∧ S'.dur = putAll S.dur (wrs first b k) ∧ (S.calls = 0 → S'.calls = 0) ∧ S.off = false) ∨ (er = 7 ∧ S'.off = true ∧ Q S'.dur ∧ (S.calls ≠ 0 ∨ S.off = true)))

theorem blow_crash {S : Disk} (h : S.blows = true) : S.blow = S.crash S.keep S.torn := by
  have h1 : S.calls = 1 := by simpa [Disk.blows] using h
  unfold Disk.blow
  rw [if_neg (by omega), if_pos h1]
theorem crash_off {S : Disk} (h : S.off = false) (keep : List Int) (torn : Int) : (S.crash keep torn).off = true ∧ (S.crash keep torn).dur = fallTo keep torn S.dur S.cache S.cache.length := by
  unfold Disk.crash; rw [h]; exact ⟨rfl, rfl⟩
/-- What one Write of a sector makes of the device. -/
theorem write_case {S : Disk} {D : List ByteArray} {first : Nat} {b : List UInt8} {k nn : Nat} {Q : List ByteArray → Prop} (ho : S.off = false) (hd : S.dur = D) (hc : S.cache = wrs first b k) (hk : k < nn) (hD : first + nn ≤ D.length) (hQ : Q D) (hst : Step Q D.length first b nn) :
    (S.blows = true ∧ S.writeE ((first + k : Nat) : Int) 512 = 7 ∧ (S.write ((first + k : Nat) : Int) (secB b k)).off = true ∧ Q (S.write ((first + k : Nat) : Int) (secB b k)).dur) ∨
    (S.writeE ((first + k : Nat) : Int) 512 = 0 ∧ (S.write ((first + k : Nat) : Int) (secB b k)).off = false ∧ (S.write ((first + k : Nat) : Int) (secB b k)).dur = D ∧ (S.write ((first + k : Nat) : Int) (secB b k)).cache = wrs first b (k + 1) ∧ (S.calls = 0 → (S.write ((first + k : Nat) : Int) (secB b k)).calls = 0)) := by
  have htk : S.takes ((first + k : Nat) : Int) 512 = true := by
    unfold Disk.takes
    rw [hd]
    simp only [Bool.and_eq_true, decide_eq_true_eq]
    exact ⟨⟨by omega, by omega⟩, trivial⟩
  have hsz : (secB b k).size = 512 := Wl.secB_size b k
  unfold Disk.writeE Disk.write
  rw [ho, hsz, htk]
  cases hb : S.blows
  · refine .inr ⟨rfl, ?_, ?_, ?_, fun h0 => ?_⟩
    · exact (Disk.blow_same hb).2.2.1.trans ho
    · exact (Disk.blow_same hb).1.trans hd
    · show S.cache ++ [(((first + k : Nat) : Int).toNat, secB b k)] = _
      rw [hc, wrs_succ, Int.toNat_natCast]
    · show S.blow.calls = 0
      rw [(Disk.blow_same hb).2.2.2.1, h0]
  · refine .inl ⟨rfl, rfl, ?_, ?_⟩
    · show S.blow.off = true
      rw [blow_crash hb]; exact (crash_off ho _ _).1
    · show Q S.blow.dur
      rw [blow_crash hb, (crash_off ho _ _).2, hd, hc]
      exact fall_keeps hQ (hst.less (by omega)) _ _ _ (by rw [wrs_length]; exact Nat.le_refl _)
theorem flush_case {S : Disk} {D : List ByteArray} {first : Nat} {b : List UInt8} {k : Nat} {Q : List ByteArray → Prop} (ho : S.off = false) (hd : S.dur = D) (hc : S.cache = wrs first b k) (hQ : Q D) (hst : Step Q D.length first b k) :
    (S.blows = true ∧ S.flushE = 7 ∧ S.flush.off = true ∧ Q S.flush.dur) ∨ (S.flushE = 0 ∧ S.flush.off = false ∧ S.flush.cache = [] ∧ S.flush.dur = putAll D (wrs first b k) ∧ (S.calls = 0 → S.flush.calls = 0)) := by
  unfold Disk.flushE Disk.flush
  rw [ho]
  cases hb : S.blows
  · refine .inr ⟨rfl, ?_, rfl, ?_, fun h0 => ?_⟩
    · exact (Disk.blow_same hb).2.2.1.trans ho
    · show S.last = _
      unfold Disk.last
      rw [hd, hc]
    · show S.blow.calls = 0
      rw [(Disk.blow_same hb).2.2.2.1, h0]
  · refine .inl ⟨rfl, rfl, ?_, ?_⟩
    · show S.blow.off = true
      rw [blow_crash hb]; exact (crash_off ho _ _).1
    · show Q S.blow.dur
      rw [blow_crash hb, (crash_off ho _ _).2, hd, hc]
      exact fall_keeps hQ hst _ _ _ (by rw [wrs_length]; exact Nat.le_refl _)

set_option maxHeartbeats 1600000 in
set_option maxRecDepth 100000 in
theorem writeFrom_any {Q : List ByteArray → Prop} {F : List Nat} {d l : Nat} {S : Disk} (w : World) (h : DevM w F d S) (hl : w.cell? ⟨l, 0, none⟩ = some (.pointer (some ⟨d, 0, none⟩))) (hlF : l ∉ F) (first : Nat) (A : Option Addr) (n c : Nat) (b : List UInt8) (hn : n = b.length) (hnc : n ≤ c) (hcm : c ≤ maxLen) (hs : Sees w w.heap.size A b) (hA : ∀ a, A = some a → a.block ∉ F)
    (nn : Nat) (hnn : nn = (b.length + 511) / 512) (hsm : b.length ≤ 400000) (ho : S.off = false) (hc0 : S.cache = []) (hD : first + nn ≤ S.dur.length) (hQ : Q S.dur) (hst : Step Q S.dur.length first b nn) :
    Calls Tryd.prog 40 #[.pointer (some ⟨l, 0, none⟩), .int .i64 (first : Int), .slice A n c] w (WfEnd Q F d S first b nn w) := by
  subst hn
  obtain ⟨w0, Hw0⟩ : ∃ w0, Hid (w0 = w) := ⟨_, Lib.hid rfl⟩
  have hllt : l < w.heap.size := World.block_lt_of_cell? w _ hl
  have hlen := h
  obtain ⟨_, _, _, _, _, _, _, _, _, _, _, _, _, _, hdl⟩ := hlen
  unfold maxLen at hcm
  have HALL : Hid (∀ k (wr : World), k ≤ nn → Only F w wr → (wr.cell? ⟨l, 0, none⟩ = some (.pointer (some ⟨d, 0, none⟩)) ∧ Sees wr wr.heap.size A b)) := Lib.hid fun k wr hk hO =>
    ⟨(hO.cell (a := ⟨l, 0, none⟩) hllt hlF).trans hl, hs.only hO (fun _ => hA)⟩
  have HQ := Lib.hid hQ
  have HST := Lib.hid hst
  have HD := Lib.hid hD
  have HA := Lib.hid hA
  have hfl : first ≤ 8192 := by omega
  have hnl : nn ≤ 800 := by omega
  have HS0 : Hid (∃ F' S', DevM w F' d S' ∧ Only F w w ∧ Grows F F' w ∧ S'.off = false ∧ S'.dur = S.dur ∧ S'.cache = wrs first b 0 ∧ (S.calls = 0 → S'.calls = 0)) := Lib.hid ⟨F, S, h, Only.refl _ _, Grows.refl _ _, ho, rfl, by rw [hc0]; rfl, id⟩
  have HW : Hid (∀ b', b' ∈ F → b' < w.heap.size) := Lib.hid h.lt
  have HOFF := Lib.hid ho
  clear hl hs hQ hst hD h ho hc0 hA hdl
  go_enter Tryd.func40, Tryd.ntmps40
  go_wp2
  go_loopw [7] (fun i wr => ∃ k : Nat, k ≤ nn ∧ i = .int .i64 k ∧ ∃ F' S', DevM wr F' d S' ∧ Only F w wr ∧ Grows F F' w ∧ S'.off = false ∧ S'.dur = S.dur ∧ S'.cache = wrs first b k ∧ (S.calls = 0 → S'.calls = 0)) (fun i _ => nn - (intOf i).toNat)
  case atStart => exact ⟨0, Nat.zero_le _, rfl, HS0.out⟩
  case round =>
    obtain ⟨k, hk, rfl, F', S', hM, hO, hG, ho, hd, hc, hcm0⟩ := hrel
    have HCM0 := Lib.hid hcm0
    clear hcm0
    obtain ⟨hcell, hsee⟩ := HALL.out k wr hk hO
    have hlr : l < wr.heap.size := World.block_lt_of_cell? wr _ hcell
    have hlF' : l ∉ F' := fun hm => by
      rcases hG l hm with h1 | h1
      · exact hlF h1
      · omega
    by_cases hlt : k < nn
    · have hk5 : k * 512 < b.length := by omega
      have hk6 : (k : Int) * 512 < b.length := by omega
      obtain ⟨A', w2, v, w3, hmk, hsl, hcp, hsee3, hb3, hz3⟩ := sector_row wr A b.length c b rfl hnc hsee k hk5 3
      have hM3 := hM.below hb3
      have hw := write_any w3 hM3 (by rw [hc, wrs_length]; omega) ((first + k : Nat) : Int) _ 512 512 (secAt b k) (secAt_length b k).symm (Nat.le_refl _) (by decide) hsee3 (fun a ha hF => by injection ha with ha; subst ha; have := hM.lt _ hF; simp at this)
      rw [secAt_length, show ((first + k : Nat) : Int) = (first : Int) + (k : Int) by simp] at hw
      have hcell3 : w3.cell? ⟨l, 0, none⟩ = some (.pointer (some ⟨d, 0, none⟩)) := (hb3.cell (p := ⟨l, 0, none⟩) hlr).trans hcell
      have hO3 : Only F w w3 := hO.trans (Only.of_below hb3)
      have hcase := write_case (S := S') (k := k) ho hd hc hlt HD.out HQ.out HST.out
      rw [show ((first + k : Nat) : Int) = (first : Int) + (k : Int) by simp] at hcase
      have HWR := Lib.hid hw
      have HO3 := Lib.hid hO3
      have HG := Lib.hid hG
      have HZ := Lib.hid hO.size
      have HB3 := Lib.hid hb3.size
      have hlen : S'.dur.length = S.dur.length := by rw [hd]
      have HL := Lib.hid ((S'.write_len ((first : Int) + (k : Int)) (secB b k)).trans hlen)
      have HOS := Lib.hid hO.size
      rcases hcase with ⟨q0, q1, q2, q3⟩ | ⟨q1, q2, q3, q4, q5⟩
      · rw [q1] at HWR
        have HQ2 := Lib.hid (⟨q2, q3, .inl (fun h0 => by have := HCM0.out h0; unfold Disk.blows at q0; rw [this] at q0; simp at q0)⟩ : _ ∧ _ ∧ (S.calls ≠ 0 ∨ S.off = true))
        clear hM hO hG ho hd hc hcell hsee hsee3 hb3 hz3 hM3 hw hO3 hlF' q0 q1 q2 q3 hlen
        go_wp2_with fail
        refine HWR.out.mono ?_
        rintro e w4 ⟨rfl, F4, hM4, hO4, hG4⟩
        have HK := Lib.hid (show WfEnd Q F d S first b nn w (.returned (.int .i64 7)) w4 from ⟨7, F4, _, rfl, hM4, HO3.out.step hO4 HG.out, HG.out.trans (fun x hx => (hG4 x hx).imp id (fun h => by have := HB3.out; omega)) HOS.out, HL.out, .inr ⟨rfl, HQ2.out⟩⟩)
        clear hM4 hO4 hG4
        go_wp2
        go_ret
        exact HK.out
      · rw [q1] at HWR
        have HQ2 := Lib.hid (⟨q2, q3, q4, fun h0 => q5 (HCM0.out h0)⟩ : _ ∧ _ ∧ _ ∧ (S.calls = 0 → _))
        clear hM hO hG ho hd hc hcell hsee hsee3 hb3 hz3 hM3 hw hO3 hlF' q1 q2 q3 q4 q5 hlen
        go_wp2_with fail
        refine HWR.out.mono ?_
        rintro e w4 ⟨rfl, F4, hM4, hO4, hG4⟩
        have HK := Lib.hid (show ∃ F' S', DevM w4 F' d S' ∧ Only F w w4 ∧ Grows F F' w ∧ S'.off = false ∧ S'.dur = S.dur ∧ S'.cache = wrs first b (k + 1) ∧ (S.calls = 0 → S'.calls = 0) from ⟨F4, _, hM4, HO3.out.step hO4 HG.out, HG.out.trans (fun x hx => (hG4 x hx).imp id (fun h => by have := HB3.out; omega)) HOS.out, HQ2.out⟩)
        clear hM4 hO4 hG4
        go_wp2
        go_roundw
        case rel => exact ⟨k + 1, by omega, by go_num, HK.out⟩
        case measure => simp [intOf]; omega
    · obtain rfl : k = nn := by omega
      have hk6 : ¬ (k : Int) * 512 < b.length := by omega
      have hw := flush_any wr hM (by rw [hc, wrs_length]; omega)
      have hcase := flush_case (S := S') ho hd hc HQ.out HST.out
      have HWR := Lib.hid hw
      have HO3 := Lib.hid hO
      have HG := Lib.hid hG
      have hlen : S'.dur.length = S.dur.length := by rw [hd]
      have HL := Lib.hid (S'.flush_len.trans hlen)
      rcases hcase with ⟨q0, q1, q2, q3⟩ | ⟨q1, q2, q3, q4, q5⟩
      · rw [q1] at HWR
        have HQ2 := Lib.hid (⟨q2, q3, .inl (fun h0 => by have := HCM0.out h0; unfold Disk.blows at q0; rw [this] at q0; simp at q0)⟩ : _ ∧ _ ∧ (S.calls ≠ 0 ∨ S.off = true))
        clear hM hO hG ho hd hc hsee hw hlF' q0 q1 q2 q3 hlen
        go_wp2_with fail
        refine HWR.out.mono ?_
        rintro e w4 ⟨rfl, F4, hM4, hO4, hG4⟩
        have HK := Lib.hid (show WfEnd Q F d S first b k w (.returned (.int .i64 7)) w4 from ⟨7, F4, _, rfl, hM4, HO3.out.step hO4 HG.out, HG.out.trans hG4 HO3.out.size, HL.out, .inr ⟨rfl, HQ2.out⟩⟩)
        clear hM4 hO4 hG4
        go_wp2
        go_ret
        exact HK.out
      · rw [q1] at HWR
        have HQ2 := Lib.hid (⟨q2, q3, q4, fun h0 => q5 (HCM0.out h0), HOFF.out⟩ : _ ∧ _ ∧ _ ∧ (S.calls = 0 → _) ∧ _)
        clear hM hO hG ho hd hc hsee hw hlF' q1 q2 q3 q4 q5 hlen
        go_wp2_with fail
        refine HWR.out.mono ?_
        rintro e w4 ⟨rfl, F4, hM4, hO4, hG4⟩
        have HK := Lib.hid (show WfEnd Q F d S first b k w (.returned (.int .i64 0)) w4 from ⟨0, F4, _, rfl, hM4, HO3.out.step hO4 HG.out, HG.out.trans hG4 HO3.out.size, HL.out, .inl ⟨rfl, HQ2.out⟩⟩)
        clear hM4 hO4 hG4
        go_wp2
        go_ret
        exact HK.out

set_option maxHeartbeats 1600000 in
set_option maxRecDepth 100000 in
theorem writeFrom_off {Q : List ByteArray → Prop} {F : List Nat} {d l : Nat} {S : Disk} (w : World) (h : DevM w F d S) (hl : w.cell? ⟨l, 0, none⟩ = some (.pointer (some ⟨d, 0, none⟩))) (first : Nat) (hf : first ≤ 100000) (A : Option Addr) (n c : Nat) (b : List UInt8) (hn : n = b.length) (hnc : n ≤ c) (hcm : c ≤ maxLen) (hs : Sees w w.heap.size A b) (hb : b ≠ [])
    (nn : Nat) (ho : S.off = true) (hQ : Q S.dur) :
    Calls Tryd.prog 40 #[.pointer (some ⟨l, 0, none⟩), .int .i64 (first : Int), .slice A n c] w (WfEnd Q F d S first b nn w) := by
  subst hn
  have hpos : 0 < b.length := List.length_pos_iff.2 hb
  have hposI : (0 : Int) < b.length := by omega
  have hllt : l < w.heap.size := World.block_lt_of_cell? w _ hl
  obtain ⟨A', w2, v, w3, hmk, hsl, hcp, hsee3, hb3, hz3⟩ := sector_row w A b.length c b rfl hnc hs 0 (by omega) 3
  rw [Nat.zero_mul, Nat.sub_zero, Nat.sub_zero] at hsl hcp
  rw [show ((0 : Nat) : Int) * 512 = 0 from rfl] at hsl
  have hM3 := h.below hb3
  have hwr := write_any w3 hM3 (by rw [(h.ok.dark ho).1]; simp) (first : Int) _ 512 512 (secAt b 0) (secAt_length b 0).symm (Nat.le_refl _) (by decide) hsee3 (fun a ha hF => by injection ha with ha; subst ha; have := h.lt _ hF; simp at this)
  have e1 : S.writeE (first : Int) (secAt b 0).length = 7 := by unfold Disk.writeE; rw [ho]; rfl
  have e2 : S.write (first : Int) ⟨(secAt b 0).toArray⟩ = S := by unfold Disk.write; rw [ho]; rfl
  rw [e1, e2] at hwr
  have hcell3 : w3.cell? ⟨l, 0, none⟩ = some (.pointer (some ⟨d, 0, none⟩)) := (hb3.cell (p := ⟨l, 0, none⟩) hllt).trans hl
  have HWR := Lib.hid hwr
  have HB3 := Lib.hid hb3
  have HQ := Lib.hid (⟨ho, hQ⟩ : _ ∧ _)
  unfold maxLen at hcm
  obtain ⟨w0, Hw0⟩ : ∃ w0, Hid (w0 = w) := ⟨_, Lib.hid rfl⟩
  clear hsee3 hb3 hz3 hM3 hwr e1 e2 h hs hQ hb hpos hl
  go_enter Tryd.func40, Tryd.ntmps40
  go_wp2
  go_loopw [7] (fun i wr => i = .int .i64 0 ∧ w = wr) (fun _ _ => 0)
  case atStart => exact ⟨rfl, rfl⟩
  case round =>
    obtain ⟨rfl, rfl⟩ := hrel
    go_wp2_with fail
    refine HWR.out.mono ?_
    rintro e w4 ⟨rfl, F4, hM4, hO4, hG4⟩
    have HK := Lib.hid (show WfEnd Q F d S first b nn w (.returned (.int .i64 7)) w4 from ⟨7, F4, _, rfl, hM4, (Only.of_below HB3.out).trans hO4, fun x hx => (hG4 x hx).imp id (fun h => by have := HB3.out.size; omega), rfl, .inr ⟨rfl, HQ.out.1, HQ.out.2, .inr HQ.out.1⟩⟩)
    clear hM4 hO4 hG4
    go_wp2
    go_ret
    exact HK.out
end Go.Proofs.YtambddncncaehaaDoor
