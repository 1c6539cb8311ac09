/- KvRange's walk. -/
import Derived.Test.YtpmgnmknjmnecaaKvAwake
import Derived.Test.YtpmgnmknjmnecaaKvIns
namespace Go.Proofs.Ytpmgnmknjmnecaa
open Go.RowKit Kv
set_option linter.unusedVariables false

set_option maxRecDepth 20000 in
/-- append of a row of pairs. -/
theorem prow_append (w : World) (v : Value) (L : List Ent) (h : PRow w v L) (A : Option Addr) (m c : Nat) (L2 : List Ent) (hm : m = L2.length) (h2 : PRow w (.slice A m c) L2) (hl : L.length + L2.length ≤ 1000000) (ty : TypeId) :
    ∃ v' w', (Builtin.append_ #[37, 37] ty #[v, .slice A m c]).run Try.prog w = .ok v' w' ∧ PRow w' v' (L ++ L2) ∧ Only (blk v) w w' ∧ Grows (blk v) (blk v') w := by
  subst hm
  obtain ⟨i0, hi, hz0, hz1, hz2⟩ := info_parts Try.infoPr
  cases A with
  | none =>
    have h0 : L2 = [] := by
      rcases h2.row.2 with ⟨_, hl⟩ | ⟨g, cap, cur, hv, _⟩
      · have := pcells_length L2
        rw [hl] at this
        exact List.eq_nil_of_length_eq_zero (by simp at this; omega)
      · injection hv with hv; cases hv
    subst h0
    refine ⟨v, w, ?_, by simpa using h, Only.refl _ _, Grows.refl _ _⟩
    rcases h.row.2 with ⟨rfl, _⟩ | ⟨g, cap, cur, rfl, _, _, hnc, _⟩
    · simp [Builtin.append_, run_underlying Try.underlying37, sizeOf, typeInfo, hi, Builtin.lenOf, Builtin.firstCells]
    · simp [Builtin.append_, run_underlying Try.underlying37, sizeOf, typeInfo, hi, Builtin.lenOf, Builtin.firstCells, hnc, storeCells]
  | some ad =>
    have hg : ∃ g, ad = ⟨g, 0, none⟩ := by
      rcases h2.row.2 with ⟨hv, _⟩ | ⟨g, cap, cur, hv, _⟩
      · injection hv with hv; cases hv
      · injection hv with hv; injection hv with hv; exact ⟨g, hv⟩
    obtain ⟨g, rfl⟩ := hg
    have hcells := h2.row.cells (g := g) rfl
    obtain ⟨v', w', hrun, k2, k3, k4⟩ := run_append_here (P := Try.prog) w 37 ty 63 i0 _ 2 40 Try.underlying37 hi hz0 hz1 hz2 rfl (by decide) v L.length (pcells L) h.row ⟨g, 0, none⟩ L2.length c (pcells L2) (pcells_length _) hcells
      (pcells_one h2.vals) (by unfold maxLen; omega) (by omega)
    have ho : Only (blk v) w w' := Only.of_grown k3 (fun k hk => mem_blk.2 hk)
    have hfar : Far w [] (blk v) := fun b hb => ⟨by simp, (h.noB b hb).1⟩
    refine ⟨v', w', hrun, ⟨?_, fun e he => ?_⟩, ho, fun k hk => ?_⟩
    · rw [List.length_append, pcells_append]; exact k2
    · rcases List.mem_append.1 he with he | he
      · exact (h.vals e he).far ho hfar
      · exact (h2.vals e he).far ho hfar
    · rcases k4 k (mem_blk.1 hk) with h5 | h5
      · exact .inl (mem_blk.2 h5)
      · exact .inr h5
def bstr (l : List UInt8) : ByteArray := ⟨l.toArray⟩
theorem PRow.new0 (w : World) : PRow (w.alloc (.cells #[] 63)) (.slice (some ⟨w.heap.size, 0, none⟩) 0 0) [] :=
  ⟨World.ownsRow_lit w #[] 0 (Nat.zero_le _) (by decide) rfl, fun e he => by cases he⟩
theorem PRow.len {w : World} {A : Option Addr} {n c : Nat} {L : List Ent} (h : PRow w (.slice A n c) L) : n = L.length ∧ n ≤ c ∧ c ≤ maxLen := by
  obtain ⟨A', c', e, h1, h2⟩ := own_shape h.row
  injection e with e1 e2 e3
  subst e2 e3
  exact ⟨rfl, h1, h2⟩
theorem map_pr_at {L : List Ent} {m : List Pr} (h : L.map Ent.pr = m) (i : Nat) (hi : i < L.length) (hm : i < m.length) : L[i].k = m[i].1 ∧ L[i].l = m[i].2 := by
  subst h
  rw [List.getElem_map]; exact ⟨rfl, rfl⟩
theorem asc_less {m : List Pr} (h : Asc m) {i : Nat} (h1 : i + 1 < m.length) (h2 : i < m.length) : Op.bytesLess m[i].1.toList m[i + 1].1.toList = true := by
  rw [less_ltb]; exact h.lt h2 h1 (by omega)

set_option maxHeartbeats 4000000 in
set_option maxRecDepth 100000 in
/-- The law behind its Commit. -/
theorem kvRange_walk (a0 : Option Addr) (len0 cap0 : Nat) (l0 : List Pt) (len_l0 : len0 = l0.length) (cap_l0 : len0 ≤ cap0) (max_l0 : cap0 ≤ maxLen) (kz0 : ∀ x ∈ l0, x.k.size ≤ maxLen) (mid : ByteArray) (hmid : mid.size ≤ maxLen) (w : World) (hp : Puts w w.heap.size [] a0 l0) :
    Calls Try.prog 6 #[.slice a0 len0 cap0, .string mid] w fun e w' => e = .returned (.bool true) ∧ Below w.heap.size w w' := by
  subst len_l0
  unfold maxLen at hmid
  have HP := Lib.hid hp
  have HKZ := Lib.hid kz0
  have HAW := Lib.hid (kvAwake_any w)
  have hmz : (mid.size : Int) ≤ 9223372036854775807 := by omega
  clear hp kz0
  go_enter Try.func6, Try.ntmps6
  go_wp2_with fail
  refine HAW.out.mono ?_
  rintro e w1 ⟨rfl, hb1⟩
  obtain ⟨w2, Hw2⟩ : ∃ w2, Hid (w2 = w1.alloc (.cells #[.slice a0 l0.length cap0] 31)) := ⟨_, Lib.hid rfl⟩
  have hb2 : Below w.heap.size w w2 := by rw [Hw2.out]; exact hb1.alloc hb1.size _
  have hs2 : w2.heap.size = w1.heap.size + 1 := by rw [Hw2.out]; simp
  have hp2 : Puts w2 w2.heap.size [] a0 l0 := (HP.out.below hb2 (Nat.le_refl _)).wide hb2.size
  have hpp : Putss w2 w2.heap.size [] (some ⟨w1.heap.size, 0, none⟩) [l0] := fun _ => by
    refine ⟨w1.heap.size, 0, rfl, by omega, by simp, fun j hj => ?_⟩
    match j, hj with
    | 0, _ => exact ⟨a0, cap0, by rw [Hw2.out]; simp only [World.cell?, heap_alloc_new]; rfl, cap_l0, max_l0, hp2⟩
    | j + 1, hj => exact absurd hj (by simp)
  have hli := fun r hr => light_any w2 (some ⟨w1.heap.size, 0, none⟩) 1 1 [l0] [] rfl (by unfold maxLen; omega) hpp (fun l hl => by rw [List.mem_singleton] at hl; subst hl; exact HKZ.out) r hr
  have HLI := Lib.hid hli
  have HB2 := Lib.hid hb2
  clear HAW hb1 hb2 hp2 hpp hli
  go_wp2_with fail
  rw [← Hw2.out]
  refine (HLI.out _ rfl).mono ?_
  rintro e w3 ⟨rfl, rfl⟩
  clear HLI
  have HSZ := Lib.hid hs2
  clear hs2
  have HLB : Hid (lightB [l0] = true → l0.length ≤ 8) := Lib.hid (fun h => by simp [lightB, lightR] at h; exact h.1)
  cases hlb : lightB [l0] with
  | false =>
    go_wp2
    go_ret
    exact ⟨rfl, HB2.out⟩
  | true =>
  by_cases h300 : mid.size ≤ 300
  case neg =>
    go_wp2
    go_ret
    exact ⟨rfl, HB2.out⟩
  by_cases h0 : mid.size = 0
  case pos =>
    obtain ⟨e1, e2⟩ := str_empty h0
    clear h0
    go_wp2
    go_ret
    exact ⟨rfl, HB2.out⟩
  obtain ⟨e1, e2⟩ := str_some h0
  have h8 := HLB.out hlb
  have HM0 := Lib.hid h0
  have HNEW := Lib.hid (law_kvnew (B := w.heap.size) (w0 := w) HB2.out HB2.out.size)
  clear hlb h0 HLB
  go_wp2_with fail
  refine HNEW.out.mono ?_
  rintro e w4 ⟨t, rfl, h4, _, _⟩
  have hcom := law_commit h4 a0 l0.length cap0 l0 (by simp; omega) rfl (HP.out.law h4) HKZ.out
  have HCOM := Lib.hid hcom
  clear HNEW h4 hcom
  go_wp2_with fail
  refine HCOM.out.mono ?_
  rintro e w5 ⟨rfl, F, h5, _, _⟩
  have hmm : (if may l0 then steps [] l0 else []).length ≤ 8 := by
    split
    · have := steps_length l0 []
      simp at this; omega
    · simp
  generalize (if may l0 then steps [] l0 else []) = m at *
  generalize (if may l0 then (0 : Int) else 1) = ec at *
  have hasc := h5.asc
  have hr := range_any w5 t m F ⟨#[]⟩ ⟨#[]⟩ 1000 h5.tab hasc (by omega) h5.good (by decide)
  unfold RangeEnd at hr
  rw [rng_all hasc ⟨#[]⟩ ⟨#[]⟩ rfl rfl 1000 (by omega)] at hr
  have HR := Lib.hid hr
  have H5 := Lib.hid h5
  have HASC := Lib.hid hasc
  have HMM := Lib.hid hmm
  clear HCOM h5 hasc hr hmm
  go_wp2_with fail
  refine HR.out.mono ?_
  rintro e w6 ⟨A, n, c, L, rfl, hn, hrow, hL, hb6, _⟩
  have h6 := H5.out.below hb6
  have hr := range_any w6 t m F ⟨#[]⟩ mid 1000 h6.tab HASC.out (by have := HMM.out; omega) h6.good (by decide)
  unfold RangeEnd at hr
  rw [rng_low HASC.out ⟨#[]⟩ mid rfl HM0.out 1000 (by have := HMM.out; omega)] at hr
  have HR2 := Lib.hid hr
  have H6 := Lib.hid h6
  have HROW := Lib.hid hrow
  have HL := Lib.hid hL
  clear HR H5 hb6 h6 hr hrow hL
  go_wp2_with fail
  refine HR2.out.mono ?_
  rintro e w7 ⟨A2, n2, c2, L2, rfl, hn2, hrow2, hL2, hb7, _⟩
  have h7 := H6.out.below hb7
  have hr := range_any w7 t m F mid ⟨#[]⟩ 1000 h7.tab HASC.out (by have := HMM.out; omega) h7.good (by decide)
  unfold RangeEnd at hr
  rw [rng_high HASC.out mid ⟨#[]⟩ rfl 1000 (by have := HMM.out; omega)] at hr
  have HR3 := Lib.hid hr
  have H7 := Lib.hid h7
  have HROW' := Lib.hid (HROW.out.below hb7)
  have HROW2 := Lib.hid hrow2
  have HL2 := Lib.hid hL2
  clear HR2 H6 HROW hb7 h7 hr hrow2 hL2
  go_wp2_with fail
  refine HR3.out.mono ?_
  rintro e w8 ⟨A3, n3, c3, L3, rfl, hn3, hrow3, hL3, hb8, _⟩
  have HT := Lib.hid (H7.out.below hb8)
  have HRA := Lib.hid (HROW'.out.below hb8)
  have HRB := Lib.hid (HROW2.out.below hb8)
  have HRC := Lib.hid hrow3
  have HL3 := Lib.hid hL3
  clear HR3 H7 HROW' HROW2 hb8 hrow3 hL3
  have hLm : L.length = m.length := by rw [← HL.out, List.length_map]
  have hLs : L.length ≤ 8 := by have := HMM.out; omega
  have hsum : (L2 ++ L3).map Ent.pr = m := by rw [List.map_append, HL2.out, HL3.out, List.take_append_drop]
  have hlen2 : L2.length + L3.length = L.length := by rw [hLm, ← hsum, List.length_map, List.length_append]
  have HSUM := Lib.hid hsum
  have HL2S := Lib.hid hlen2
  have HLM := Lib.hid hLm
  have HLS := Lib.hid hLs
  subst hn hn2 hn3
  clear hsum hlen2 hLm hLs
  go_wp2
  go_loopw [9] (fun i wr => ∃ k : Nat, k ≤ L.length ∧ i = .int .i64 k ∧ Below w8.heap.size w8 wr) (fun i _ => L.length - (intOf i).toNat)
  case atStart => exact ⟨0, Nat.zero_le _, rfl, Below.refl _ _⟩
  case round =>
    obtain ⟨k, hk, rfl, hb⟩ := hrel
    have HB := Lib.hid hb
    have hk8 : k ≤ 8 := by have := HLS.out; omega
    have hrow := HRA.out.below hb
    clear hb
    by_cases hlt : k < L.length
    · match k, hlt with
      | 0, hlt =>
        have hkI : (0 : Int) < (L.length : Int) := by omega
        go_wp2
        go_quiet (fail)
        go_wp2
        go_roundw
        case rel => exact ⟨1, by omega, rfl, below_drewN HB.out _⟩
        case measure => simp [intOf]; omega
      | q + 1, hlt =>
        obtain ⟨g, A', c', rfl, hg, y1, _⟩ := hrow.get q (by omega)
        obtain ⟨g', A', c', eg, _, y2, _⟩ := hrow.get (q + 1) hlt
        injection eg with eg; injection eg with eg; subst eg
        have hbl := asc_less HASC.out (i := q) (by have := HLM.out; omega) (by have := HLM.out; omega)
        rw [← (map_pr_at HL.out q (by omega) (by have := HLM.out; omega)).1, ← (map_pr_at HL.out (q + 1) hlt (by have := HLM.out; omega)).1] at hbl
        have hkI : ((q + 1 : Nat) : Int) < (L.length : Int) := by omega
        generalize L[q].k = ka at *
        generalize L[q + 1].k = kb at *
        clear hrow
        go_wp2
        go_quiet (fail)
        go_wp2
        go_roundw
        case rel => exact ⟨q + 1 + 1, by omega, by go_num, below_drewN HB.out _⟩
        case measure => simp [intOf]; omega
    · obtain rfl : k = L.length := by omega
      have hb := HB.out
      obtain ⟨v1, wa, hr1, hp1, ho1, hg1⟩ := prow_append (wr.alloc (.cells #[] 63)) (.slice (some ⟨wr.heap.size, 0, none⟩) 0 0) [] (PRow.new0 wr) A2 L2.length c2 L2 rfl ((HRB.out.below hb).below ((Below.refl _ _).alloc (Nat.le_refl _) _)) (by have := HLS.out; have := HL2S.out; simp; omega) 37
      rw [List.nil_append] at hp1
      have hba : Below wr.heap.size wr wa := ((Below.refl _ _).alloc (Nat.le_refl _) _).trans (ho1.below (by simp) (fun b hb => by simp [blk, Value.ownBlock] at hb; omega))
      obtain ⟨v2, wb, hr2, hp2, ho2, hg2⟩ := prow_append wa v1 L2 hp1 A3 L3.length c3 L3 rfl ((HRC.out.below hb).below hba) (by have := HLS.out; have := HL2S.out; omega) 37
      have hv1 : ∀ b, b ∈ blk v1 → wr.heap.size ≤ b := fun b hb => by
        rcases hg1 b hb with h1 | h1
        · simp [blk, Value.ownBlock] at h1; omega
        · simp at h1; omega
      have hbb : Below wr.heap.size wr wb := hba.trans (ho2.below hba.size hv1)
      have hbw : Below w8.heap.size w8 wb := hb.trans (hbb.mono hb.size)
      have hlc : (L2 ++ L3).length = L.length := by rw [List.length_append]; exact HL2S.out
      obtain ⟨A4, c4, e4, _, _⟩ := own_shape hp2.row
      rw [hlc] at e4
      subst e4
      obtain ⟨Lc, HLc⟩ : ∃ Lc, Hid (Lc = L2 ++ L3) := ⟨_, Lib.hid rfl⟩
      rw [← HLc.out] at hp2
      have HSUM' : Hid (Lc.map Ent.pr = m) := Lib.hid (by rw [HLc.out]; exact HSUM.out)
      have HLCL : Hid (Lc.length = L.length) := Lib.hid (by rw [HLc.out]; exact hlc)
      have HP2 := Lib.hid hp2
      have HBW := Lib.hid hbw
      have HR1 := Lib.hid hr1
      have HR2 := Lib.hid hr2
      clear hp1 ho1 hg1 hba hp2 ho2 hg2 hv1 hbb hbw hb hrow hr1 hr2 hlc
      go_wp2_with (at_builtin; first | refine wpList_append_run rfl _ _ 37 rfl _ _ _ rfl rfl _ _ (by exact HR1.out) ?_ | refine wpList_append_run rfl _ _ 37 rfl _ _ _ rfl rfl _ _ (by exact HR2.out) ?_)
      clear HR1 HR2
      have HRB' := HRA.out.below HBW.out
      have HRBH := Lib.hid HRB'
      clear HRB'
      go_loopw [11] (fun i wr => ∃ k : Nat, k ≤ L.length ∧ i = .int .i64 k ∧ Below wb.heap.size wb wr) (fun i _ => L.length - (intOf i).toNat)
      case atStart => exact ⟨0, Nat.zero_le _, rfl, Below.refl _ _⟩
      case round =>
        obtain ⟨k, hk, rfl, hb⟩ := hrel
        have HB2 := Lib.hid hb
        have hk8 : k ≤ 8 := by have := HLS.out; omega
        have hrow := HRBH.out.below hb
        have hrow2 := HP2.out.below hb
        clear hb
        by_cases hlt : k < L.length
        · have hltc : k < Lc.length := by rw [HLCL.out]; exact hlt
          have hltm : k < m.length := by rw [← HLM.out]; exact hlt
          obtain ⟨g, A5, c5, rfl, hg, y1, y2, _, _, y3⟩ := hrow.get k hlt
          obtain ⟨g', A6, c6, rfl, _, z1, z2, _, _, z3⟩ := hrow2.get k hltc
          have q1 := map_pr_at HL.out k hlt hltm
          have q2 := map_pr_at HSUM'.out k hltc hltm
          rw [q1.1] at y1
          rw [q1.2] at y2 y3
          rw [q2.1] at z1
          rw [q2.2] at z2 z3
          have cv1 : ∀ m' , (convert 27 9 (.slice A5 m[k].2.length c5)).run Try.prog (wr.drewN m') = .ok (.string (bstr m[k].2)) (wr.drewN m') := fun m' =>
            run_sees_string (P := Try.prog) (wr.drewN m') 27 9 5 Try.underlying27 Try.underlying5 Try.underlying9 (y3.drewN m') _ c5 rfl
          have cv2 : ∀ m', (convert 27 9 (.slice A6 m[k].2.length c6)).run Try.prog (wr.drewN m') = .ok (.string (bstr m[k].2)) (wr.drewN m') := fun m' =>
            run_sees_string (P := Try.prog) (wr.drewN m') 27 9 5 Try.underlying27 Try.underlying5 Try.underlying9 (z3.drewN m') _ c6 rfl
          have hkI : (k : Int) < (L.length : Int) := by omega
          clear hrow hrow2 q1 q2 y3 z3
          generalize m[k].1 = key at *
          generalize m[k].2 = val at *
          generalize bstr val = bs at *
          go_wp2
          go_quiet (fail)
          go_wp2
          go_roundw
          case rel => exact ⟨k + 1, by omega, by go_num, below_drewN HB2.out _⟩
          case measure => simp [intOf]; omega
        · obtain rfl : k = L.length := by omega
          have ht := (HT.out.below HBW.out).below HB2.out
          have hlen := len_any wr t m F ht.tab
          rw [← HLM.out] at hlen
          have HLEN := Lib.hid hlen
          have HEND : Hid (Below w.heap.size w wr) := Lib.hid ht.bel
          clear ht hlen hrow hrow2
          go_wp2_with fail
          refine HLEN.out.mono ?_
          rintro e w9 ⟨rfl, rfl⟩
          go_wp2
          go_ret
          exact ⟨rfl, HEND.out⟩
end Go.Proofs.Ytpmgnmknjmnecaa
