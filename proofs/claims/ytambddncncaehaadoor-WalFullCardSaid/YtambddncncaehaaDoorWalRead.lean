/- The walks of the log's place and read. -/
import Derived.Test.YtambddncncaehaaDoorWalSpace
import Derived.Test.YtambddncncaehaaDoorWalUse
import Derived.Deep.QuietTactic
import Derived.BigQuiet
namespace Go.Proofs.YtambddncncaehaaDoor
open Go.RowKit Dk Wl
set_option linter.unusedVariables false
set_option maxRecDepth 100000

set_option maxHeartbeats 800000 in
set_option maxRecDepth 100000 in
theorem place_no {l : Nat} (w : World) (A : Option Addr) (n c : Nat) (hl : List UInt8) (hn : n = hl.length) (hnc : n ≤ c) (hcm : c ≤ maxLen) (hs : Sees w w.heap.size A hl) (ht : TabAt w tabG) (hg : Rc.getE hl ≠ 0) :
    Calls Tryd.prog 34 #[.pointer (some ⟨l, 0, none⟩), .slice A n c] w fun e w' => e = .returned (.tuple #[.int .i64 0, .int .i64 0]) ∧ Below w.heap.size w w' := by
  subst hn
  have HG := Lib.hid (get_any A hl.length c hl w rfl hnc hcm hs ht)
  obtain ⟨q, Hq⟩ : ∃ q, Hid (q = Rc.getE hl) := ⟨_, Lib.hid rfl⟩
  have hq : ((q : Int) != 0) = true := by have := Hq.out; simp; omega
  clear hs ht
  go_enter Tryd.func34, Tryd.ntmps34
  go_wp2_with fail
  refine HG.out.mono ?_
  rintro e w2 (⟨h1, rfl, hb⟩ | ⟨h1, _⟩)
  · rw [← Hq.out]
    obtain ⟨w3, Hw3⟩ : ∃ w3, Hid (w3 = w2.alloc (.cells #[.int .i64 0, .slice none 0 0] 61)) := ⟨_, Lib.hid rfl⟩
    have HB := Lib.hid (show Below w.heap.size w w3 by rw [Hw3.out]; exact hb.alloc hb.size _)
    clear hb HG h1 hg
    go_wp2
    rw [← Hw3.out]
    go_quiet (fail)
    go_wp2
    go_ret2
    exact ⟨rfl, below_drewN HB.out _⟩
  · exact absurd h1 hg
set_option maxHeartbeats 1600000 in
set_option maxRecDepth 100000 in
theorem place_yes {l sz : Nat} (w : World) (hc1 : w.cell? ⟨l, 1, none⟩ = some (.int .i64 (sz : Int))) (hz : sz ≤ 8192) (A : Option Addr) (n c : Nat) (hl : List UInt8) (hn : n = hl.length) (hnc : n ≤ c) (hcm : c ≤ maxLen) (hs : Sees w w.heap.size A hl) (ht : TabAt w tabG) (hg : Rc.getE hl = 0) (half used : Nat) (hh : half ≤ 1) (hb : Rc.body hl = [UInt8.ofNat half]) (hnr : Rc.nr hl = used) (hus : used ≤ sz * 512) :
    Calls Tryd.prog 34 #[.pointer (some ⟨l, 0, none⟩), .slice A n c] w fun e w' => e = .returned (.tuple #[.int .i64 (half : Int), .int .i64 (used : Int)]) ∧ Below w.heap.size w w' := by
  subst hn
  have HG := Lib.hid (get_any A hl.length c hl w rfl hnc hcm hs ht)
  have HC := Lib.hid hc1
  have hlw : l < w.heap.size := World.block_lt_of_cell? w _ hc1
  have hbn : ((UInt8.ofNat half).toNat : Int) = (half : Int) := by
    have : half = 0 ∨ half = 1 := by omega
    rcases this with rfl | rfl <;> rfl
  have g1 : decide ((1 : Int) < (half : Int)) = false := by simp; omega
  have g2 : decide ((sz : Int) * 512 < (used : Int)) = false := by simp; omega
  have hhi : (half : Int) ≤ 1 := by omega
  have hcv : IntKind.i64.wrap (half : Int) = (half : Int) := by rw [IntKind.wrap_i64]; omega
  clear hs ht hc1
  go_enter Tryd.func34, Tryd.ntmps34
  go_wp2_with fail
  refine HG.out.mono ?_
  rintro e w2 (⟨h1, _⟩ | ⟨_, A2, n2, c2, rfl, hn2, hrow, hnc2, hcm2, hb2⟩)
  · exact absurd hg h1
  · rw [hb] at hn2 hrow
    obtain rfl : n2 = 1 := hn2
    rw [hnr]
    have hsee := Sees.of_own (l := [UInt8.ofNat half]) hrow
    obtain ⟨g, o, rfl, hgl, hcell⟩ := hsee (by simp)
    have hc0 := hcell 0 (by simp)
    rw [List.getElem_cons_zero, hbn, Nat.add_zero] at hc0
    obtain ⟨w3, Hw3⟩ : ∃ w3, Hid (w3 = w2.alloc (.cells #[.int .i64 (used : Int), .slice (some ⟨g, o, none⟩) 1 c2] 61)) := ⟨_, Lib.hid rfl⟩
    have hb3 : Below w.heap.size w w3 := by rw [Hw3.out]; exact hb2.alloc hb2.size _
    have hb23 : Below w2.heap.size w2 w3 := by rw [Hw3.out]; exact (Below.refl _ _).alloc (Nat.le_refl _) _
    have c0 : w3.cell? ⟨g, o, none⟩ = some (.int .u8 (half : Int)) := (hb23.cell (p := ⟨g, o, none⟩) hgl).trans hc0
    have b0 : w3.cell? ⟨w2.heap.size, 0, none⟩ = some (.int .i64 (used : Int)) := by rw [Hw3.out, World.cell?_alloc_at _ _ _ _ rfl]; rfl
    have b1 : w3.cell? ⟨w2.heap.size, 1, none⟩ = some (.slice (some ⟨g, o, none⟩) 1 c2) := by rw [Hw3.out, World.cell?_alloc_at _ _ _ _ rfl]; rfl
    have c1 : w3.cell? ⟨l, 1, none⟩ = some (.int .i64 (sz : Int)) := (hb3.cell (p := ⟨l, 1, none⟩) hlw).trans HC.out
    have HSP : Hid (∀ n, Calls Tryd.prog 27 #[.pointer (some ⟨l, 0, none⟩)] (w3.drewN n) fun e w' => e = .returned (.int .i64 ((sz : Int) * 512)) ∧ w' = w3.drewN n) := Lib.hid fun n => (space_any (w3.drewN n) c1 hz).mono fun e w' he => ⟨he.1, he.2.symm⟩
    have HB := Lib.hid hb3
    clear hb2 hb3 hb23 hrow hsee hcell hc0 HG hg hb hnr hbn
    go_wp2
    rw [← Hw3.out]
    go_quiet ((go_at_call 27; exact Calls.quiet_of_same (HSP.out _)))
    go_wp2
    go_quiet (fail)
    go_wp2
    go_ret2
    exact ⟨rfl, below_drewN (below_drewN HB.out _) _⟩

theorem readE_on {S : Disk} (ho : S.off = false) (i : Nat) (hi : i < S.dur.length) : S.readE (i : Int) = 0 ∧ S.readV (i : Int) = sec S.last i := by
  have hh : S.has (i : Int) = true := by
    unfold Disk.has
    simp only [Bool.and_eq_true, decide_eq_true_eq]
    omega
  unfold Disk.readE Disk.readV
  rw [ho, hh]
  exact ⟨rfl, rfl⟩
theorem Acc.past {B : Nat} {w0 w w' : World} {v : Value} {l : List UInt8} (h : Acc B w0 w v l) (hb : Below w.heap.size w w') : Acc B w0 w' v l :=
  ⟨own_below h.row hb (Nat.le_refl _), h.high, h.below.trans (hb.mono h.size), Nat.le_trans h.size hb.size⟩

def ReadLogEnd (D : List ByteArray) (first kk used : Nat) (w : World) (e : Ending) (w' : World) : Prop :=
  ∃ A c, e = .returned (.tuple #[.slice A used c, .int .i64 0]) ∧ used ≤ c ∧ c ≤ maxLen ∧ Sees w' w'.heap.size A ((flat D first kk).take used) ∧ Below w.heap.size w w'
def RdPost (wr : World) (s : List UInt8) (x y : Value) (w' : World) : Prop :=
  ∃ A c, x = .slice A 512 c ∧ y = .int .i64 0 ∧ Sees w' w'.heap.size A s ∧ Below wr.heap.size wr w'
set_option maxHeartbeats 1600000 in
set_option maxRecDepth 100000 in
theorem read_log {F : List Nat} {d l sz : Nat} {S : Disk} (w : World) (h : DevM w F d S) (ho : S.off = false) (hc0 : w.cell? ⟨l, 0, none⟩ = some (.pointer (some ⟨d, 0, none⟩))) (hc1 : w.cell? ⟨l, 1, none⟩ = some (.int .i64 (sz : Int))) (half used : Nat) (hh : half ≤ 1) (hus : used ≤ sz * 512) (hlen : 1 + 2 * sz ≤ S.dur.length)
    (first kk : Nat) (hf : first = 1 + half * sz) (hkk : kk = (used + 511) / 512) :
    Calls Tryd.prog 35 #[.pointer (some ⟨l, 0, none⟩), .int .i64 (half : Int), .int .i64 (used : Int)] w (ReadLogEnd S.last first kk used w) := by
  have hll : l < w.heap.size := World.block_lt_of_cell? w _ hc0
  have hsz : sz ≤ 8192 := by
    obtain ⟨_, _, _, _, _, _, _, _, _, _, _, _, _, _, hdl⟩ := h
    omega
  have hok := h.ok
  have hss : ∀ x ∈ S.last, x.size = 512 := putAll_size hok.sec (fun w hw => (hok.wr w hw).2)
  have hll2 : S.last.length = S.dur.length := putAll_length _ _
  have hhalf : half * sz ≤ sz := by have := Nat.mul_le_mul_right sz hh; omega
  have hin : ∀ k, k < kk → first + k < S.dur.length := fun k hk => by omega
  have HSTEP : Hid (∀ k wr, k < kk → Below w.heap.size w wr → (wr.cell? ⟨l, 0, none⟩ = some (.pointer (some ⟨d, 0, none⟩)) ∧
      (∀ W, Below wr.heap.size wr W → Calls Tryd.prog 41 #[.pointer (some ⟨l, 0, none⟩), .int .i64 (half : Int), .int .i64 (k : Int)] W fun e w' => e = .returned (.int .i64 ((first + k : Nat) : Int)) ∧ W = w') ∧
      (∀ W, Below wr.heap.size wr W → Calls Tryd.prog 33 #[.pointer (some ⟨d, 0, none⟩), .int .i64 ((first + k : Nat) : Int)] W fun e w' => ∃ x y, e = .returned (.tuple #[x, y]) ∧ RdPost wr (sec S.last (first + k)) x y w'))) := Lib.hid fun k wr hk hb => by
    refine ⟨(hb.cell (p := ⟨l, 0, none⟩) hll).trans hc0, fun W hW => ?_, fun W hW => ?_⟩
    · exact sector_any W (((hb.trans (hW.mono hb.size)).cell (p := ⟨l, 1, none⟩) hll).trans hc1) hsz half k hh (by omega) (first + k) (by omega)
    · obtain ⟨e1, e2⟩ := readE_on ho (first + k) (hin k hk)
      refine (read_any ((first + k : Nat) : Int) W (h.below (hb.trans (hW.mono hb.size)))).mono ?_
      rintro e w' ⟨A, n, c, rfl, hn, hnc, hcm, hs, hbel, _⟩
      rw [e2] at hn hs
      rw [e1]
      have hsl : (sec S.last (first + k)).length = 512 := sec_length hss (by rw [hll2]; exact hin k hk)
      rw [hsl] at hn
      subst hn
      exact ⟨_, _, rfl, A, c, rfl, rfl, hs, hW.trans (hbel.mono hW.size)⟩
  have HFL : Hid (∀ k, k ≤ kk → (flat S.last first k).length = k * 512) := Lib.hid fun k hk => flat_length hss first k (by
    rw [hll2]
    rcases Nat.eq_zero_or_pos k with h0 | h0
    · omega
    · have := hin (k - 1) (by omega); omega)
  have hkb : kk ≤ 8192 := by omega
  have hu2 : used ≤ 5000000 := by omega
  obtain ⟨D, HD⟩ : ∃ D, Hid (D = S.last) := ⟨_, Lib.hid rfl⟩
  rw [← HD.out] at HSTEP HFL ⊢
  have HKK := Lib.hid hkk
  clear h ho hc0 hc1 hok hss hll2 hin hus hlen hf hhalf hsz hkk
  go_enter Tryd.func35, Tryd.ntmps35
  go_wp2
  go_loopw [8, 9] (fun r i wr => ∃ k : Nat, k ≤ kk ∧ i = .int .i64 k ∧ ∃ A c L, Hid (L = flat D first k) ∧ r = .slice A L.length c ∧ L.length = k * 512 ∧ L.length ≤ c ∧ c ≤ maxLen ∧ Acc w.heap.size w wr (.slice A L.length c) L) (fun _ i _ => kk - (intOf i).toNat)
  case atStart => exact ⟨0, Nat.zero_le _, rfl, none, 0, [], Lib.hid rfl, rfl, rfl, Nat.le_refl _, Nat.zero_le _, BRow.nil _, fun k hk => by simp [blk, Value.ownBlock] at hk, Below.refl _ _, Nat.le_refl _⟩
  case round =>
    obtain ⟨k, hk, rfl, A, c, L, HL, rfl, hLn, hLc, hcm, hacc⟩ := hrel
    have HACC := Lib.hid hacc
    have HCM := Lib.hid hcm
    unfold maxLen at hcm
    clear hacc
    by_cases hlt : k < kk
    · obtain ⟨s1, s2, s3⟩ := HSTEP.out k wr hlt HACC.out.below
      have hltI : (L.length : Int) < (used : Int) := by have := HKK.out; omega
      have HLN := Lib.hid hLn
      clear hLn
      go_wp2
      refine rd5_run l d (half : Int) (k : Int) ((first + k : Nat) : Int) (RdPost wr (sec D (first + k))) (by show 29 < 39; omega) rfl rfl rfl s1 s2 s3 ?_
      intro af w2 hfr hP
      obtain ⟨A2, c2, h10, h11, hs2, hb2⟩ := hP
      have ha := hfr.eq (by intro t ht; simp at ht; show t < 39; omega)
      simp only [List.foldl_cons, List.foldl_nil] at ha
      clear hfr
      rw [h10] at ha
      clear h10
      rw [h11] at ha
      clear h11
      generalize af.eval (.tmp 19) = u19 at ha
      generalize af.eval (.tmp 20) = u20 at ha
      generalize af.eval (.tmp 21) = u21 at ha
      generalize af.eval (.tmp 22) = u22 at ha
      generalize af.eval (.tmp 23) = u23 at ha
      generalize af.eval (.tmp 24) = u24 at ha
      generalize af.eval (.tmp 25) = u25 at ha
      generalize af.eval (.tmp 26) = u26 at ha
      generalize af.eval (.tmp 27) = u27 at ha
      generalize af.eval (.tmp 18) = u18 at ha
      generalize af.eval (.tmp 28) = u28 at ha
      generalize af.eval (.tmp 29) = u29 at ha
      subst ha
      simp only [Act.put, List.setIfInBounds_toArray, List.set_cons_zero, List.set_cons_succ]
      have hacc2 := HACC.out.past hb2
      obtain ⟨r, Hr⟩ : ∃ r, Hid (r = sec D (first + k)) := ⟨_, Lib.hid rfl⟩
      have hfl1 := HFL.out (k + 1) (by omega)
      rw [flat_succ, List.length_append, ← HL.out, ← Hr.out, HLN.out] at hfl1
      have hrl : 512 = r.length := by omega
      rw [← Hr.out] at hs2
      obtain ⟨A3, c3, w3, L3, HL3, hap, hacc3, h3a, h3b⟩ := hacc2.sees w2.heap.size A2 512 c2 r hrl hs2 (by have := HLN.out; omega) 31
      have HAP := Lib.hid hap
      have HK := Lib.hid (show ∃ A c L, Hid (L = flat D first (k + 1)) ∧ Value.slice A3 L3.length c3 = .slice A L.length c ∧ L.length = (k + 1) * 512 ∧ L.length ≤ c ∧ c ≤ maxLen ∧ Acc w.heap.size w w3 (.slice A L.length c) L from
        ⟨A3, c3, L3, Lib.hid (by rw [HL3.out, flat_succ, HL.out, Hr.out]), rfl, by rw [HL3.out, List.length_append, HLN.out, ← hrl]; omega, h3a, h3b, hacc3⟩)
      clear s1 s2 s3 hs2 hb2 hacc2 hap hacc3 h3a h3b hfl1 hrl
      go_wp2_with (at_builtin; refine wpList_append_run rfl _ _ 31 rfl _ _ _ rfl rfl _ _ (by exact HAP.out) ?_)
      go_roundw
      case rel => exact ⟨k + 1, by omega, by go_num, HK.out⟩
      case measure => simp [intOf]; omega
    · obtain rfl : k = kk := by omega
      have hltI : ¬ (L.length : Int) < (used : Int) := by have := HKK.out; omega
      have huc : used ≤ c := by omega
      obtain ⟨A2, hsl, hsee⟩ := run_head (P := Tryd.prog) Tryd.underlying31 (fun w => by exact Tryd.sizeOf5 w) A L.length c used huc
      have HK := Lib.hid (show ReadLogEnd D first k used w (.returned (.tuple #[.slice A2 used c, .int .i64 0])) wr from
        ⟨A2, c, rfl, huc, HCM.out, by rw [← HL.out]; exact (hsee wr _ L HACC.out.row.sees).take used, HACC.out.below⟩)
      clear hsee hLn
      go_wp2
      go_ret2
      exact HK.out
end Go.Proofs.YtambddncncaehaaDoor
