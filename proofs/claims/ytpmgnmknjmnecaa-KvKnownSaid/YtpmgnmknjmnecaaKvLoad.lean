/- Load. -/
import Derived.Test.YtpmgnmknjmnecaaKvDec
import Derived.Test.YtpmgnmknjmnecaaKvLaw
namespace Go.Proofs.Ytpmgnmknjmnecaa
open Go.RowKit Kv
set_option linter.unusedVariables false

noncomputable instance (L : List Pt) : Decidable (Rises L) := Classical.propDecidable _
/-- What Load makes of bytes. -/
noncomputable def loadM (l : List UInt8) : Option (List Pr) := match decP l with
  | none => none
  | some L => if Rises L then some (L.map kvOf) else none
def LoadEnd (l : List UInt8) (w : World) (e : Ending) (w' : World) : Prop :=
  match loadM l with
  | none => e = .returned (.tuple #[.pointer none, .int .i64 3]) ∧ Below w.heap.size w w'
  | some m => ∃ t F, e = .returned (.tuple #[.pointer (some ⟨t, 0, none⟩), .int .i64 0]) ∧ Tab w' t m F ∧ Below w.heap.size w w' ∧ ∀ b, b ∈ F → w.heap.size ≤ b
theorem LoadEnd.no {l : List UInt8} {w w' : World} (h : loadM l = none) (hb : Below w.heap.size w w') : LoadEnd l w (.returned (.tuple #[.pointer none, .int .i64 3])) w' := by
  unfold LoadEnd; rw [h]; exact ⟨rfl, hb⟩
/-- The Puts rise up to k. -/
def RisesTo (L : List Pt) (k : Nat) : Prop := ∀ j (h : j < L.length), j < k → L[j].g = false ∧ (∀ h0 : 0 < j, ltb (L[j - 1]'(by omega)).k L[j].k = true)

set_option maxHeartbeats 3200000 in
set_option maxRecDepth 100000 in
theorem load_any (w : World) (A : Option Addr) (n c : Nat) (l : List UInt8) (hn : n = l.length) (hnc : n ≤ c) (hcm : c ≤ maxLen) (hbig : n ≤ 100000000) (hs : Sees w w.heap.size A l) (hfew : ∀ L, decP l = some L → L.length ≤ 255) :
    Calls Try.prog 13 #[.slice A n c] w (LoadEnd l w) := by
  have hdec := decode_any w A n c l hn hnc hcm hbig hs
  unfold DecEnd at hdec
  have HDEC := Lib.hid hdec
  subst hn
  clear hdec hs
  go_enter Try.func13, Try.ntmps13
  go_wp2_with fail
  refine HDEC.out.mono ?_
  intro e w2 hq
  cases hd : decP l with
  | none =>
    rw [hd] at hq
    obtain ⟨rfl, hb2⟩ := hq
    have KEY := Lib.hid (LoadEnd.no (w := w) (w' := w2) (show loadM l = none by unfold loadM; rw [hd]) hb2)
    clear HDEC hb2
    go_wp2
    go_ret2
    exact KEY.out
  | some L =>
    rw [hd] at hq
    obtain ⟨A2, n2, c2, D, rfl, rfl, hDL, hrow, hb2, hhi⟩ := hq
    have hlen := hfew L hd
    have hmay := (decP_some hd).2
    have hps : Puts w2 w2.heap.size [] A2 L := by
      have := hrow.puts [] (fun b hb => by cases hb) (fun b _ hb => by cases hb)
      rwa [hDL] at this
    have HPS := Lib.hid hps
    have HROW := Lib.hid hrow
    have HB2 := Lib.hid hb2
    have HHI := Lib.hid hhi
    have HD := Lib.hid hd
    have HMAY := Lib.hid hmay
    have HDL := Lib.hid hDL
    clear HDEC hrow hb2 hhi hd hmay hps hDL
    have hlI : (L.length : Int) ≤ 255 := by omega
    go_wp2
    go_loopw [19] (fun i wr => ∃ k : Nat, k ≤ L.length ∧ i = .int .i64 k ∧ Hid (RisesTo L k) ∧ Hid (Below w2.heap.size w2 wr)) (fun i _ => L.length - (intOf i).toNat)
    case atStart => exact ⟨0, Nat.zero_le _, rfl, Lib.hid (fun j h hj => absurd hj (by omega)), Lib.hid (Below.refl _ _)⟩
    case round =>
      obtain ⟨k, hk, rfl, HRI, HBR⟩ := hrel
      by_cases hlt : k < L.length
      · have hpw := HPS.out.below HBR.out (Nat.le_refl _)
        obtain ⟨g, o, A', c', rfl, hg, k1, k2, k3, _, _, _⟩ := hpw.at k hlt
        have hgr : g < wr.heap.size := Nat.lt_of_lt_of_le hg HBR.out.size
        have hkI : (k : Int) < (L.length : Int) := by omega
        have HNO : Hid (¬ Rises L → ∀ W, Below wr.heap.size wr W → LoadEnd l w (.returned (.tuple #[.pointer none, .int .i64 3])) W) := Lib.hid (fun h W hW => LoadEnd.no (show loadM l = none by unfold loadM; rw [HD.out]; simp only; rw [if_neg h]) (HB2.out.trans ((HBR.out.mono HB2.out.size).trans (hW.mono (Nat.le_trans HB2.out.size HBR.out.size)))))
        have HYES : Hid ((L[k].g = false ∧ ∀ h0 : 0 < k, ltb (L[k - 1]'(by omega)).k L[k].k = true) → RisesTo L (k + 1)) := Lib.hid (fun h j hj hjk => by
          by_cases e : j = k
          · subst e; exact h
          · exact HRI.out j hj (by omega))
        have HNR : Hid (¬ (L[k].g = false ∧ ∀ h0 : 0 < k, ltb (L[k - 1]'(by omega)).k L[k].k = true) → ¬ Rises L) := Lib.hid (fun h h' => h (h' k hlt))
        obtain ⟨w3, Hw3⟩ : ∃ w3, Hid (w3 = wr.alloc (.cells #[.string L[k].k, .slice A' L[k].v.length c', .bool L[k].g] 29)) := ⟨_, Lib.hid rfl⟩
        have hb3 : Below wr.heap.size wr w3 := by rw [Hw3.out]; exact (Below.refl _ _).alloc (Nat.le_refl _) _
        have hbx : PBox w3 wr.heap.size L[k].k A' L[k].v.length c' L[k].g := by rw [Hw3.out]; exact heap_alloc_new wr _
        obtain ⟨⟨y1, y2, y3⟩, _⟩ := hbx.cells
        have HB3 := Lib.hid hb3
        have HBW : Hid (Below w2.heap.size w2 w3) := Lib.hid (HBR.out.trans (hb3.mono HBR.out.size))
        have hprev : ∀ q, q + 1 = k → w3.cell? ⟨g, o + q * 3, none⟩ = some (.string (L[k - 1]'(by omega)).k) := fun q hq => by
          subst hq
          obtain ⟨g', o', A'', c'', ee, _, z1, _⟩ := hpw.at q (by omega)
          injection ee with ee; injection ee with e1 e2 _; subst e1 e2
          exact (hb3.cell (p := ⟨g, o + q * 3, none⟩) hgr).trans z1
        have HPREV := Lib.hid hprev
        clear hpw hb3 hbx hprev
        obtain ⟨gg, Hgg⟩ : ∃ gg, Hid (gg = L[k].g) := ⟨_, Lib.hid rfl⟩
        obtain ⟨kk, Hkk⟩ : ∃ kk, Hid (kk = L[k].k) := ⟨_, Lib.hid rfl⟩
        obtain ⟨vl, Hvl⟩ : ∃ vl, Hid (vl = L[k].v.length) := ⟨_, Lib.hid rfl⟩
        rw [← Hgg.out, ← Hkk.out] at HYES HNR
        rw [← Hgg.out] at Hw3 k3 y3
        rw [← Hkk.out] at Hw3 k1 y1
        rw [← Hvl.out] at Hw3 k2 y2
        cases gg with
        | true =>
          have HN := Lib.hid (HNO.out (HNR.out (fun h => by cases h.1)))
          clear HNO HNR HYES
          go_wp2
          rw [← Hw3.out]
          go_quiet (fail)
          go_wp2
          go_ret2
          exact HN.out _ (below_drewN HB3.out _)
        | false =>
          cases k with
          | zero =>
            simp only [Nat.zero_mul, Nat.add_zero] at k1 k2 k3
            have HY := Lib.hid (HYES.out ⟨rfl, fun h => absurd h (by omega)⟩)
            clear HNO HNR HYES HPREV
            go_wp2
            rw [← Hw3.out]
            go_quiet (fail)
            go_wp2
            go_roundw
            case rel => exact ⟨1, by omega, rfl, HY, Lib.hid (below_drewN HBW.out _)⟩
            case measure => simp [intOf]; omega
          | succ q =>
            have z1 := HPREV.out q rfl
            have hbl : Op.bytesLess (L[q + 1 - 1]'(by omega)).k.toList kk.toList = ltb (L[q + 1 - 1]'(by omega)).k kk := less_ltb _ _
            obtain ⟨kq, Hkq⟩ : ∃ kq, Hid (kq = (L[q + 1 - 1]'(by omega)).k) := ⟨_, Lib.hid rfl⟩
            rw [← Hkq.out] at z1 hbl
            cases hlb : ltb kq kk with
            | true =>
              rw [hlb] at hbl
              have HY := Lib.hid (HYES.out ⟨rfl, fun _ => by have h5 := hlb; rw [Hkq.out] at h5; exact h5⟩)
              clear HNO HNR HYES HPREV hlb
              go_wp2
              rw [← Hw3.out]
              go_quiet (fail)
              go_wp2
              go_roundw
              case rel => exact ⟨q + 1 + 1, by omega, by go_num, HY, Lib.hid (below_drewN HBW.out _)⟩
              case measure => simp [intOf]; omega
            | false =>
              rw [hlb] at hbl
              have HN := Lib.hid (HNO.out (HNR.out (fun h => by have h5 := h.2 (by omega); have h6 := hlb; rw [Hkq.out] at h6; rw [h6] at h5; cases h5)))
              clear HNO HNR HYES HPREV hlb
              go_wp2
              rw [← Hw3.out]
              go_quiet (fail)
              go_wp2
              go_ret2
              exact HN.out _ (below_drewN HB3.out _)
      · obtain rfl : k = L.length := by omega
        have hri : Rises L := fun j hj => HRI.out j hj hj
        have hlm : loadM l = some (L.map kvOf) := by unfold loadM; rw [HD.out]; simp only; rw [if_pos hri]
        have hbw : Below w.heap.size w wr := HB2.out.trans (HBR.out.mono HB2.out.size)
        have HN := Lib.hid (new_any wr)
        have HBWR := Lib.hid hbw
        have HRI2 := Lib.hid hri
        have HLM := Lib.hid hlm
        clear hri hlm hbw
        go_wp2_with fail
        refine HN.out.mono ?_
        rintro e w4 ⟨t, rfl, ht4, hb4, hts⟩
        have hrow4 := (HROW.out.below HBR.out).below hb4
        have hps4 : Puts w4 w4.heap.size [t] A2 L := by
          have := hrow4.puts [t] (fun b hb => (ht4.noB b hb).1) (fun b hb hm => by
            rw [List.mem_singleton] at hm; subst hm
            have := own_lt (HROW.out.below HBR.out).row _ hb
            omega)
          rwa [HDL.out] at this
        have hcom := commit_ok w4 t [] [t] A2 L.length c2 L ht4 Asc.nil (by simp; omega) rfl hps4 HMAY.out
        have HCOM := Lib.hid hcom
        have HB4 := Lib.hid (HBWR.out.trans (hb4.mono HBWR.out.size))
        have HTS : Hid (w.heap.size ≤ t) := Lib.hid (Nat.le_trans HBWR.out.size hts)
        clear HN ht4 hb4 hts hrow4 hps4 hcom
        go_wp2_with fail
        refine HCOM.out.mono ?_
        rintro e w5 (⟨_, rfl, F', k1, k2, k3⟩ | ⟨h, _⟩)
        · have key : LoadEnd l w (.returned (.tuple #[.pointer (some ⟨t, 0, none⟩), .int .i64 0])) w5 := by
            unfold LoadEnd
            rw [HLM.out]
            refine ⟨t, F', rfl, by rw [← HRI2.out.steps_all]; exact k1, HB4.out.trans (k2.below HB4.out.size (fun b hb => by rw [List.mem_singleton] at hb; subst hb; exact HTS.out)), fun b hb => ?_⟩
            rcases k3 b hb with h | h
            · rw [List.mem_singleton] at h; subst h; exact HTS.out
            · exact Nat.le_trans HB4.out.size h
          have KEY := Lib.hid key
          clear HCOM k1 k2 k3 key
          go_wp2
          go_ret2
          exact KEY.out
        · rw [HMAY.out] at h; cases h
end Go.Proofs.Ytpmgnmknjmnecaa
