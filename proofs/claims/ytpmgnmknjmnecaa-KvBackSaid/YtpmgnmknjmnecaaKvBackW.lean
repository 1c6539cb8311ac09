/- KvBack's walk. -/
import Derived.Test.YtpmgnmknjmnecaaKvLaw2
import Derived.Test.YtpmgnmknjmnecaaKvBk12
namespace Go.Proofs.Ytpmgnmknjmnecaa
open Go.RowKit Kv
set_option linter.unusedVariables false

/-- What has come of the region that calls Bytes four times and Len twice. -/
structure BkS (wp : World) (m : List Pr) (p : Nat) (R : Nat → Value) (w : World) : Prop where
  bel : Below wp.heap.size wp w
  bs : ∀ k, k < p → k ≠ 2 → k ≠ 3 → ∃ A c, R k = .slice A (Kv.bytes m).length c ∧ Sees w w.heap.size A (Kv.bytes m)
  ln : ∀ k, k < p → k = 2 ∨ k = 3 → R k = .int .i64 (m.length : Int)
theorem BkS.addB {wp w w' : World} {m : List Pr} {p : Nat} {R : Nat → Value} {e : Ending} (h : BkS wp m p R w) (hp : p ≠ 2 ∧ p ≠ 3) (he : BytesEnd m w e w') : ∃ v, e = .returned v ∧ BkS wp m (p + 1) (setR R p v) w' := by
  obtain ⟨A, n, c, rfl, rfl, _, _, hr, hb⟩ := he
  refine ⟨_, rfl, h.bel.trans (hb.mono h.bel.size), fun k hk h2 h3 => ?_, fun k hk h2 => ?_⟩
  · by_cases hkp : k = p
    · subst hkp
      exact ⟨A, c, setR_self .., hr.sees⟩
    · obtain ⟨A', c', q1, q2⟩ := h.bs k (by omega) h2 h3
      exact ⟨A', c', by rw [setR_ne _ _ hkp]; exact q1, (q2.below hb (Nat.le_refl _)).mono hb.size⟩
  · rw [setR_ne _ _ (by omega)]; exact h.ln k (by omega) h2
theorem BkS.addL {wp w w' : World} {m : List Pr} {p : Nat} {R : Nat → Value} {e : Ending} (h : BkS wp m p R w) (hp : p = 2 ∨ p = 3) (he : e = .returned (.int .i64 (m.length : Int)) ∧ w = w') : ∃ v, e = .returned v ∧ BkS wp m (p + 1) (setR R p v) w' := by
  obtain ⟨rfl, rfl⟩ := he
  refine ⟨_, rfl, h.bel, fun k hk h2 h3 => ?_, fun k hk h2 => ?_⟩
  · obtain ⟨A', c', q1, q2⟩ := h.bs k (by omega) h2 h3
    exact ⟨A', c', by rw [setR_ne _ _ (by omega)]; exact q1, q2⟩
  · by_cases hkp : k = p
    · subst hkp; exact setR_self ..
    · rw [setR_ne _ _ hkp]; exact h.ln k (by omega) h2

set_option maxHeartbeats 4000000 in
set_option maxRecDepth 100000 in
theorem kvBack_walk (a0 : Option Addr) (len0 cap0 : Nat) (l0 : List Pt) (len_l0 : len0 = l0.length) (cap_l0 : len0 ≤ cap0) (max_l0 : cap0 ≤ maxLen) (kz0 : ∀ x ∈ l0, x.k.size ≤ maxLen) (w : World) (hp : Puts w w.heap.size [] a0 l0) :
    Calls Try.prog 5 #[.slice a0 len0 cap0] w fun e w' => e = .returned (.bool true) ∧ Below w.heap.size w w' := by
  subst len_l0
  have HP := Lib.hid hp
  have HKZ := Lib.hid kz0
  have HAW := Lib.hid (kvAwake_any w)
  clear hp kz0
  go_enter Try.func5, Try.ntmps5
  go_wp2_with fail
  refine HAW.out.mono ?_
  rintro e w1 ⟨rfl, hb1⟩
  obtain ⟨w2, Hw2⟩ : ∃ w2, Hid (w2 = w1.alloc (.cells #[.slice a0 l0.length cap0] 31)) := ⟨_, Lib.hid rfl⟩
  have hb2 : Below w.heap.size w w2 := by rw [Hw2.out]; exact hb1.alloc hb1.size _
  have hs2 : w2.heap.size = w1.heap.size + 1 := by rw [Hw2.out]; simp
  have hp2 : Puts w2 w2.heap.size [] a0 l0 := (HP.out.below hb2 (Nat.le_refl _)).wide hb2.size
  have hpp : Putss w2 w2.heap.size [] (some ⟨w1.heap.size, 0, none⟩) [l0] := fun _ => by
    refine ⟨w1.heap.size, 0, rfl, by omega, by simp, fun j hj => ?_⟩
    match j, hj with
    | 0, _ => exact ⟨a0, cap0, by rw [Hw2.out]; simp only [World.cell?, heap_alloc_new]; rfl, cap_l0, max_l0, hp2⟩
    | j + 1, hj => exact absurd hj (by simp)
  have hli := fun r hr => light_any w2 (some ⟨w1.heap.size, 0, none⟩) 1 1 [l0] [] rfl (by unfold maxLen; omega) hpp (fun l hl => by rw [List.mem_singleton] at hl; subst hl; exact HKZ.out) r hr
  have HLI := Lib.hid hli
  have HB2 := Lib.hid hb2
  clear HAW hb1 hb2 hp2 hpp hli
  go_wp2_with fail
  rw [← Hw2.out]
  refine (HLI.out _ rfl).mono ?_
  rintro e w3 ⟨rfl, rfl⟩
  clear HLI
  have HSZ := Lib.hid hs2
  clear hs2
  have HLB : Hid (lightB [l0] = true → l0.length ≤ 8) := Lib.hid (fun h => by simp [lightB, lightR] at h; exact h.1)
  cases hlb : lightB [l0] with
  | false =>
    go_wp2
    go_ret
    exact ⟨rfl, HB2.out⟩
  | true =>
  have h8 := HLB.out hlb
  have HNEW := Lib.hid (law_kvnew (B := w.heap.size) (w0 := w) HB2.out HB2.out.size)
  clear hlb HLB
  go_wp2_with fail
  refine HNEW.out.mono ?_
  rintro e w4 ⟨t, rfl, h4, _, _⟩
  have hcom := law_commit h4 a0 l0.length cap0 l0 (by simp; omega) rfl (HP.out.law h4) HKZ.out
  unfold LComEnd at hcom
  have HCOM := Lib.hid hcom
  clear HNEW h4 hcom
  cases hmay : may l0 with
  | false =>
    rw [hmay] at HCOM
    go_wp2_with fail
    refine HCOM.out.mono ?_
    rintro e w5 ⟨rfl, F, h5, _, _⟩
    have henc := encode_any w5 a0 l0.length cap0 l0 F rfl (by omega) (HP.out.law h5) HKZ.out
    unfold EncEnd at henc
    rw [show encode l0 = [] by unfold encode; rw [hmay]; rfl] at henc
    have HENC := Lib.hid henc
    have H5 := Lib.hid h5
    clear HCOM h5 henc hmay
    go_wp2_with fail
    refine HENC.out.mono ?_
    rintro e w6 ⟨A6, n6, c6, rfl, rfl, _, _, _, hb6⟩
    have HEND := Lib.hid (H5.out.below hb6).bel
    clear HENC H5 hb6
    go_wp2
    go_ret
    exact ⟨rfl, HEND.out⟩
  | true =>
    rw [hmay] at HCOM
    have HMAY := Lib.hid hmay
    clear hmay
    go_wp2_with fail
    refine HCOM.out.mono ?_
    rintro e w5 ⟨rfl, F, h5, _, _⟩
    obtain ⟨M, HM⟩ : ∃ M, Hid (M = steps [] l0) := ⟨_, Lib.hid rfl⟩
    have h5' : LTab w.heap.size w w5 t M F := by rw [HM.out]; exact h5
    have hM : M.length ≤ 8 := by
      have := steps_length l0 []
      rw [HM.out]; simp at this; omega
    have henc := encode_any w5 a0 l0.length cap0 l0 F rfl (by omega) (HP.out.law h5') HKZ.out
    unfold EncEnd at henc
    rw [show encode l0 = encs l0 by unfold encode; rw [HMAY.out]; rfl] at henc
    have HENC := Lib.hid henc
    have H5 := Lib.hid h5'
    have HML := Lib.hid hM
    clear HCOM h5 h5' henc hM
    go_wp2_with fail
    refine HENC.out.mono ?_
    rintro e w6 ⟨A6, n6, c6, rfl, hn6, hc6, hm6, hr6, hb6⟩
    have hle : (encs l0).length ≤ 100000000 := by
      have := encs_le l0 HMAY.out
      have h2 : l0.length * 200207 ≤ 8 * 200207 := Nat.mul_le_mul_right _ h8
      omega
    have hdec := decode_any w6 A6 n6 c6 (encs l0) hn6 hc6 hm6 (by omega) hr6.sees
    unfold DecEnd at hdec
    rw [decP_encs l0 HMAY.out] at hdec
    have HDEC := Lib.hid hdec
    have H6 := Lib.hid (H5.out.below hb6)
    clear HENC H5 hc6 hm6 hr6 hb6 hle hdec hn6
    go_wp2_with fail
    refine HDEC.out.mono ?_
    rintro e w7 ⟨A7, n7, c7, D, rfl, rfl, hD, hrow7, hb7, hhi7⟩
    have h7 := H6.out.below hb7
    have HNEW := Lib.hid (law_kvnew (B := w.heap.size) (w0 := w) h7.bel h7.size)
    have H7 := Lib.hid h7
    have HROW7 := Lib.hid hrow7
    have HD := Lib.hid hD
    clear HDEC H6 hD hrow7 hb7 hhi7 h7
    go_wp2_with fail
    refine HNEW.out.mono ?_
    rintro e w8 ⟨u, rfl, hu8, hb8, hu⟩
    have h8t := H7.out.below hb8
    have hps8 : Puts w8 w8.heap.size [u] A7 l0 := by
      have := (HROW7.out.below hb8).puts [u] (fun b hb => (hu8.tab.noB b hb).1) (fun b hb hm => by
        rw [List.mem_singleton] at hm; subst hm
        have := own_lt HROW7.out.row _ hb
        omega)
      rwa [HD.out] at this
    have hcom := law_commit hu8 A7 l0.length c7 l0 (by simp; omega) rfl hps8 HKZ.out
    unfold LComEnd at hcom
    rw [if_pos HMAY.out, if_pos HMAY.out, ← HM.out] at hcom
    have hap : Apart F [u] := fun b h1 h2 => by
      rw [List.mem_singleton] at h2; subst h2
      have := H7.out.lt _ h1; omega
    have HCOM := Lib.hid hcom
    have HT8 := Lib.hid (⟨h8t, hu8, hap⟩ : LTab w.heap.size w w8 t M F ∧ LTab w.heap.size w w8 u [] [u] ∧ Apart F [u])
    clear HNEW H7 HROW7 HD hu8 hb8 hu h8t hps8 hcom hap
    go_wp2_with fail
    refine HCOM.out.mono ?_
    rintro e w9 ⟨rfl, Fu, hu9, ho9, hg9⟩
    have ht9 : LTab w.heap.size w w9 t M F := HT8.out.1.far ho9 HT8.out.2.1.high (Far.of_tab HT8.out.2.1.tab HT8.out.2.2.symm)
    have HBY := Lib.hid (law_bytes ht9 (by have := HML.out; omega))
    have HT9 := Lib.hid (⟨ht9, hu9⟩ : LTab w.heap.size w w9 t M F ∧ LTab w.heap.size w w9 u M Fu)
    clear HCOM HT8 hu9 ho9 hg9 ht9
    go_wp2_with fail
    refine HBY.out.mono ?_
    rintro e w10 ⟨A10, n10, c10, rfl, hn10, hc10, hm10, hr10, hb10⟩
    have ht10 := HT9.out.1.below hb10
    have HLOAD := Lib.hid (law_load ht10.bel ht10.size ht10.asc ht10.good (by have := HML.out; omega) A10 n10 c10 hn10 hc10 hm10 hr10.sees)
    have HT10 := Lib.hid (⟨ht10, HT9.out.2.below hb10⟩ : LTab w.heap.size w w10 t M F ∧ LTab w.heap.size w w10 u M Fu)
    clear HBY HT9 hn10 hc10 hm10 hr10 hb10 ht10
    go_wp2_with fail
    refine HLOAD.out.mono ?_
    rintro e w11 ⟨x, Fx, rfl, hx11, hb11, _⟩
    have HT := Lib.hid (⟨HT10.out.1.below hb11, HT10.out.2.below hb11, hx11⟩ : LTab w.heap.size w w11 t M F ∧ LTab w.heap.size w w11 u M Fu ∧ LTab w.heap.size w w11 x M Fx)
    clear HLOAD HT10 hx11 hb11
    go_wp2
    refine kbk12 t u x (Kv.bytes M).length l0.length cap0 c7 a0 A7 (M.length : Int) (bstr (Kv.bytes M)) (BkS w11 M) (by show 86 < 87; omega) rfl rfl rfl rfl rfl rfl rfl rfl ?_ ?_ ?_ ?_ ?_ ?_ ?_ ?_ ?_ ?_
    · intro p R w hS k hk h2 h3
      obtain ⟨A, c, q1, q2⟩ := hS.bs k hk h2 h3
      exact ⟨A, c, q1, run_sees_string (P := Try.prog) w 27 9 5 Try.underlying27 Try.underlying5 Try.underlying9 q2 _ c rfl⟩
    · intro p R w hS k hk h2; exact hS.ln k hk h2
    · intro R w hS; exact (law_bytes (HT.out.2.1.below hS.bel) (by have := HML.out; omega)).mono fun e w' he => hS.addB (by omega) he
    · intro R w hS; exact (law_bytes (HT.out.1.below hS.bel) (by have := HML.out; omega)).mono fun e w' he => hS.addB (by omega) he
    · intro R w hS; exact (len_any w x M Fx (HT.out.2.2.below hS.bel).tab).mono fun e w' he => hS.addL (by omega) he
    · intro R w hS; exact (len_any w t M F (HT.out.1.below hS.bel).tab).mono fun e w' he => hS.addL (by omega) he
    · intro R w hS; exact (law_bytes (HT.out.2.2.below hS.bel) (by have := HML.out; omega)).mono fun e w' he => hS.addB (by omega) he
    · intro R w hS; exact (law_bytes (HT.out.1.below hS.bel) (by have := HML.out; omega)).mono fun e w' he => hS.addB (by omega) he
    · exact ⟨(Below.refl _ _).drew, fun k hk => absurd hk (by omega), fun k hk => absurd hk (by omega)⟩
    intro af wN hfr h2 hS
    have HEND := Lib.hid (HT.out.1.below hS.bel).bel
    clear hS
    have ha := hfr.eq (by intro t ht; simp at ht; show t < 87; omega)
    simp only [List.foldl_cons, List.foldl_nil] at ha
    clear hfr
    rw [h2] at ha
    clear h2
    generalize af.eval (.tmp 41) = u41 at ha
    generalize af.eval (.tmp 42) = u42 at ha
    generalize af.eval (.tmp 43) = u43 at ha
    generalize af.eval (.tmp 44) = u44 at ha
    generalize af.eval (.tmp 45) = u45 at ha
    generalize af.eval (.tmp 46) = u46 at ha
    generalize af.eval (.tmp 47) = u47 at ha
    generalize af.eval (.tmp 48) = u48 at ha
    generalize af.eval (.tmp 49) = u49 at ha
    generalize af.eval (.tmp 50) = u50 at ha
    generalize af.eval (.tmp 51) = u51 at ha
    generalize af.eval (.tmp 52) = u52 at ha
    generalize af.eval (.tmp 53) = u53 at ha
    generalize af.eval (.tmp 54) = u54 at ha
    generalize af.eval (.tmp 55) = u55 at ha
    generalize af.eval (.tmp 56) = u56 at ha
    generalize af.eval (.tmp 57) = u57 at ha
    generalize af.eval (.tmp 58) = u58 at ha
    generalize af.eval (.tmp 59) = u59 at ha
    generalize af.eval (.tmp 60) = u60 at ha
    generalize af.eval (.tmp 61) = u61 at ha
    generalize af.eval (.tmp 62) = u62 at ha
    generalize af.eval (.tmp 63) = u63 at ha
    generalize af.eval (.tmp 64) = u64 at ha
    generalize af.eval (.tmp 65) = u65 at ha
    generalize af.eval (.tmp 66) = u66 at ha
    generalize af.eval (.tmp 67) = u67 at ha
    generalize af.eval (.tmp 68) = u68 at ha
    generalize af.eval (.tmp 69) = u69 at ha
    generalize af.eval (.tmp 70) = u70 at ha
    generalize af.eval (.tmp 71) = u71 at ha
    generalize af.eval (.tmp 72) = u72 at ha
    generalize af.eval (.tmp 73) = u73 at ha
    generalize af.eval (.tmp 74) = u74 at ha
    generalize af.eval (.tmp 75) = u75 at ha
    generalize af.eval (.tmp 76) = u76 at ha
    generalize af.eval (.tmp 77) = u77 at ha
    generalize af.eval (.tmp 78) = u78 at ha
    generalize af.eval (.tmp 79) = u79 at ha
    generalize af.eval (.tmp 80) = u80 at ha
    generalize af.eval (.tmp 81) = u81 at ha
    generalize af.eval (.tmp 82) = u82 at ha
    generalize af.eval (.tmp 83) = u83 at ha
    generalize af.eval (.tmp 84) = u84 at ha
    generalize af.eval (.tmp 85) = u85 at ha
    generalize af.eval (.tmp 86) = u86 at ha
    subst ha
    simp only [Act.put, List.setIfInBounds_toArray, List.set_cons_zero, List.set_cons_succ]
    go_wp2
    go_ret
    exact ⟨rfl, HEND.out⟩
end Go.Proofs.Ytpmgnmknjmnecaa
