/- KvApart's walk. -/
import Derived.Test.YtpmgnmknjmnecaaKvAwake
import Derived.Test.YtpmgnmknjmnecaaKvByt
import Derived.Test.YtpmgnmknjmnecaaKvAp18
namespace Go.Proofs.Ytpmgnmknjmnecaa
open Go.RowKit Kv
set_option linter.unusedVariables false

def bstr (l : List UInt8) : ByteArray := ⟨l.toArray⟩
/-- One Put that has just been written. -/
theorem puts_lit1 (w : World) (ka : ByteArray) (va : List UInt8) (Aa : Option Addr) (na : Nat) (ga : Bool) (X : List Nat) (b : Nat) (hb : b = w.heap.size) (hX : ∀ x, x ∈ X → x < w.heap.size) (ha : SeesX w w.heap.size X Aa va) (hla : na = va.length) (ca : Nat) (hca : na ≤ ca ∧ ca ≤ maxLen) (fr : Nat × Nat) :
    Puts (w.alloc (.cells #[.string ka, .slice Aa na ca, .bool ga] 29 fr)) (w.heap.size + 1) X (some ⟨b, 0, none⟩) [⟨ka, va, ga⟩] := fun _ => by
  subst hb hla
  have ho : Only X w (w.alloc (.cells #[.string ka, .slice Aa va.length ca, .bool ga] 29 fr)) := (Only.refl X w).alloc _
  have cell : ∀ j, (w.alloc (.cells #[.string ka, .slice Aa va.length ca, .bool ga] 29 fr)).cell? ⟨w.heap.size, j, none⟩ = (#[Value.string ka, .slice Aa va.length ca, .bool ga])[j]? := fun j => by simp only [World.cell?, heap_alloc_new]; rfl
  refine ⟨w.heap.size, 0, rfl, by omega, fun hm => by have := hX _ hm; omega, fun j hj => ?_⟩
  match j, hj with
  | 0, _ => exact ⟨(cell _).trans rfl, ⟨Aa, ca, (cell _).trans rfl, hca.1, hca.2, (ha.only ho (Nat.le_refl _)).wide (by omega)⟩, (cell _).trans rfl⟩
  | j + 1, hj => exact absurd hj (by simp)
theorem Puts.sub {w : World} {N : Nat} {X : List Nat} {A : Option Addr} {l : List Pt} (h : Puts w N X A l) (k : Nat) (hk : k < l.length) :
    ∃ g o A' c', A = some ⟨g, o, none⟩ ∧ g < N ∧ w.cell? ⟨g, o + k * 3, none⟩ = some (.string l[k].k) ∧ w.cell? ⟨g, o + k * 3 + 1, none⟩ = some (.slice A' l[k].v.length c') ∧ w.cell? ⟨g, o + k * 3 + 2, none⟩ = some (.bool l[k].g) ∧ l[k].v.length ≤ c' ∧ c' ≤ maxLen ∧ SeesX w N X A' l[k].v := h.at k hk
theorem law_bytes {B : Nat} {w0 w : World} {t : Nat} {m : List Pr} {F : List Nat} (h : LTab B w0 w t m F) (hl : m.length ≤ 400) : Calls Try.prog 14 #[.pointer (some ⟨t, 0, none⟩)] w (BytesEnd m w) := bytes_any w t m F h.tab h.asc hl h.good

/-- What has come of a region that calls Bytes twice and Len twice. -/
structure ApS (wp : World) (m : List Pr) (p : Nat) (R : Nat → Value) (w : World) : Prop where
  bel : Below wp.heap.size wp w
  bs : ∀ k, k < p → k < 2 → ∃ A c, R k = .slice A (Kv.bytes m).length c ∧ Sees w w.heap.size A (Kv.bytes m)
  ln : ∀ k, k < p → 2 ≤ k → R k = .int .i64 (m.length : Int)
theorem ApS.addB {wp w w' : World} {m : List Pr} {p : Nat} {R : Nat → Value} {e : Ending} (h : ApS wp m p R w) (hp : p < 2) (he : BytesEnd m w e w') : ∃ v, e = .returned v ∧ ApS wp m (p + 1) (setR R p v) w' := by
  obtain ⟨A, n, c, rfl, rfl, _, _, hr, hb⟩ := he
  refine ⟨_, rfl, h.bel.trans (hb.mono h.bel.size), fun k hk h2 => ?_, fun k hk h2 => absurd hk (by omega)⟩
  by_cases hkp : k = p
  · subst hkp
    exact ⟨A, c, setR_self .., hr.sees⟩
  · obtain ⟨A', c', q1, q2⟩ := h.bs k (by omega) h2
    exact ⟨A', c', by rw [setR_ne _ _ hkp]; exact q1, (q2.below hb (Nat.le_refl _)).mono hb.size⟩
theorem ApS.addL {wp w w' : World} {m : List Pr} {p : Nat} {R : Nat → Value} {e : Ending} (h : ApS wp m p R w) (hp : 2 ≤ p) (he : e = .returned (.int .i64 (m.length : Int)) ∧ w = w') : ∃ v, e = .returned v ∧ ApS wp m (p + 1) (setR R p v) w' := by
  obtain ⟨rfl, rfl⟩ := he
  refine ⟨_, rfl, h.bel, fun k hk h2 => ?_, fun k hk h2 => ?_⟩
  · obtain ⟨A', c', q1, q2⟩ := h.bs k (by omega) h2
    exact ⟨A', c', by rw [setR_ne _ _ (by omega)]; exact q1, q2⟩
  · by_cases hkp : k = p
    · subst hkp; exact setR_self ..
    · rw [setR_ne _ _ hkp]; exact h.ln k (by omega) h2
def okA (x : Pt) : Bool := decide (1 ≤ x.k.size) && decide (x.k.size ≤ 200) && decide (x.v.length ≤ 200) && !(x.g && decide (0 < x.v.length))
theorem okA_ok1 {x : Pt} (h : okA x = true) : ok1 x = true := by
  simp only [okA, ok1, Bool.and_eq_true, decide_eq_true_eq] at h ⊢
  obtain ⟨⟨⟨h1, h2⟩, h3⟩, h4⟩ := h
  exact ⟨⟨⟨h1, h2⟩, by omega⟩, h4⟩

set_option maxHeartbeats 4000000 in
set_option maxRecDepth 100000 in
theorem kvApart_walk (a0 : Option Addr) (len0 cap0 : Nat) (l0 : List Pt) (len_l0 : len0 = l0.length) (cap_l0 : len0 ≤ cap0) (max_l0 : cap0 ≤ maxLen) (kz0 : ∀ x ∈ l0, x.k.size ≤ maxLen) (w : World) (hp : Puts w w.heap.size [] a0 l0) :
    Calls Try.prog 7 #[.slice a0 len0 cap0] w fun e w' => e = .returned (.bool true) ∧ Below w.heap.size w w' := by
  subst len_l0
  have hlm : l0.length ≤ 9223372036854775807 := by unfold maxLen at max_l0; omega
  have HP := Lib.hid hp
  have HKZ := Lib.hid kz0
  have HAW := Lib.hid (kvAwake_any w)
  clear hp kz0
  go_enter Try.func7, Try.ntmps7
  go_wp2_with fail
  refine HAW.out.mono ?_
  rintro e w1 ⟨rfl, hb1⟩
  have HB1 := Lib.hid hb1
  clear HAW hb1
  by_cases h12 : l0.length ≤ 12
  case neg =>
    go_wp2
    go_ret
    exact ⟨rfl, HB1.out⟩
  go_wp2
  go_loop [3] (fun i => ∃ k : Nat, k ≤ l0.length ∧ i = .int .i64 k ∧ Hid ((l0.take k).all okA = true)) (fun i => l0.length - (intOf i).toNat)
  case atStart => exact ⟨0, Nat.zero_le _, rfl, Lib.hid (by simp)⟩
  case round =>
    obtain ⟨k, hk, rfl, HA⟩ := hrel
    by_cases hlt : k < l0.length
    · have hpw := HP.out.below (Below.refl _ w) (Nat.le_refl _)
      obtain ⟨g, o, A', c', rfl, hg, k1, k2, k3, k4, k5, _⟩ := HP.out.at k hlt
      rw [← HB1.out.cell (p := ⟨g, o + k * 3, none⟩) hg] at k1
      rw [← HB1.out.cell (p := ⟨g, o + k * 3 + 1, none⟩) hg] at k2
      rw [← HB1.out.cell (p := ⟨g, o + k * 3 + 2, none⟩) hg] at k3
      have hkz := HKZ.out l0[k] (List.getElem_mem hlt)
      have hye : okA l0[k] = true → Hid ((l0.take (k + 1)).all okA = true) := fun h => Lib.hid (all_take hlt HA.out h)
      have HYE := Lib.hid hye
      clear hye hpw
      generalize l0[k] = x at *
      obtain ⟨kk, v, gg⟩ := x
      simp only at k1 k2 k3 k4 hkz
      unfold maxLen at k5 hkz
      by_cases q1 : 1 ≤ kk.size
      case neg =>
        go_wp2
        go_ret
        exact ⟨rfl, HB1.out⟩
      by_cases q2 : kk.size ≤ 200
      case neg =>
        go_wp2
        go_ret
        exact ⟨rfl, HB1.out⟩
      by_cases q3 : v.length ≤ 200
      case neg =>
        go_wp2
        go_ret
        exact ⟨rfl, HB1.out⟩
      cases gg with
      | false =>
        have HY := HYE.out (by simp [okA, q1, q2, q3])
        go_wp2
        go_round
        case rel => exact ⟨k + 1, by omega, by go_num, HY⟩
        case measure => simp [intOf]; omega
      | true =>
        by_cases q4 : 0 < v.length
        · go_wp2
          go_ret
          exact ⟨rfl, HB1.out⟩
        · have HY := HYE.out (by have q5 : v = [] := List.eq_nil_of_length_eq_zero (by omega); subst q5; simp [okA, q1, q2])
          go_wp2
          go_round
          case rel => exact ⟨k + 1, by omega, by go_num, HY⟩
          case measure => simp [intOf]; omega
    · obtain rfl : k = l0.length := by omega
      have hall : may l0 = true := by
        have := HA.out
        rw [List.take_length] at this
        exact List.all_eq_true.2 fun x hx => okA_ok1 (List.all_eq_true.1 this x hx)
      have HALL := Lib.hid hall
      have HNA := Lib.hid (law_kvnew (B := w.heap.size) (w0 := w) HB1.out HB1.out.size)
      clear hall
      go_wp2_with fail
      refine HNA.out.mono ?_
      rintro e w2 ⟨ta, rfl, ha2, _, _⟩
      have HNB := Lib.hid (law_kvnew (B := w.heap.size) (w0 := w) ha2.bel ha2.size)
      have HA2 := Lib.hid ha2
      clear HNA ha2
      go_wp2_with fail
      refine HNB.out.mono ?_
      rintro e w3 ⟨tb, rfl, hb3, hbel3, htb⟩
      have ha3 := HA2.out.below hbel3
      have hcom := law_commit ha3 a0 l0.length cap0 l0 (by simp; omega) rfl (HP.out.law ha3) HKZ.out
      unfold LComEnd at hcom
      rw [if_pos HALL.out, if_pos HALL.out] at hcom
      have HAP : Hid (Apart [ta] [tb]) := Lib.hid fun b h1 h2 => by
        rw [List.mem_singleton] at h1 h2
        have := HA2.out.lt ta (by simp); omega
      have HCOM := Lib.hid hcom
      have HB3 := Lib.hid hb3
      have HTA := Lib.hid ha3
      clear HNB HA2 hb3 hbel3 ha3 hcom
      go_wp2_with fail
      refine HCOM.out.mono ?_
      rintro e w4 ⟨rfl, Fa, ha4, ho4, hg4⟩
      have hb4 := HB3.out.far ho4 (fun b hb => HTA.out.high b hb) (Far.of_tab HTA.out.tab HAP.out)
      have hap4 : Apart Fa [tb] := HAP.out.grows hg4 HB3.out.lt
      obtain ⟨M, HM⟩ : ∃ M, Hid (M = steps [] l0) := ⟨_, Lib.hid rfl⟩
      rw [← HM.out] at ha4
      have HST := Lib.hid (⟨ha4, hb4, hap4⟩ : LTab w.heap.size w w4 ta M Fa ∧ LTab w.heap.size w w4 tb [] [tb] ∧ Apart Fa [tb])
      clear HCOM HB3 HTA HAP ho4 hg4 hb4 hap4 ha4
      go_wp2
      go_loopw [6] (fun i wr => ∃ (k : Nat) (Fb : List Nat), k ≤ l0.length ∧ i = .int .i64 k ∧ Hid (LTab w.heap.size w wr ta M Fa ∧ LTab w.heap.size w wr tb (steps [] (l0.take k)) Fb ∧ Apart Fa Fb)) (fun i _ => l0.length - (intOf i).toNat)
      case atStart => exact ⟨0, [tb], Nat.zero_le _, rfl, by simpa [steps] using HST⟩
      case round =>
        obtain ⟨k, Fb, hk, rfl, HI⟩ := hrel
        obtain ⟨h1, h2, h3⟩ := HI.out
        by_cases hlt : k < l0.length
        · have hpw := HP.out.law h2
          obtain ⟨g, o, A', c', ea, hg, k1, k2, k3, k4, k5, k6⟩ := hpw.at k hlt
          have hgw : g < wr.heap.size := hg
          have hst := steps_take [] l0 k hlt
          have hxo := List.all_eq_true.1 HALL.out l0[k] (List.getElem_mem hlt)
          obtain ⟨x, Hx⟩ : ∃ x, Hid (x = l0[k]) := ⟨_, Lib.hid rfl⟩
          rw [← Hx.out] at k1 k2 k3 k4 k6 hst hxo
          obtain ⟨kk, v, gg⟩ := x
          simp only at k1 k2 k3 k4 k6
          obtain ⟨w5, Hw5⟩ : ∃ w5, Hid (w5 = wr.alloc (.cells #[.string kk, .slice A' v.length c', .bool gg] 29)) := ⟨_, Lib.hid rfl⟩
          have hb5 : Below wr.heap.size wr w5 := by rw [Hw5.out]; exact (Below.refl _ _).alloc (Nat.le_refl _) _
          have hs5 : w5.heap.size = wr.heap.size + 1 := by rw [Hw5.out]; simp
          have hp5 : Puts w5 w5.heap.size Fb (some ⟨wr.heap.size, 0, none⟩) [⟨kk, v, gg⟩] := by
            rw [hs5, Hw5.out]
            exact puts_lit1 wr kk v A' v.length gg Fb wr.heap.size rfl h2.lt k6 rfl c' ⟨k4, k5⟩ (0, 0)
          have hmay1 : may [⟨kk, v, gg⟩] = true := by simp [may, hxo]
          have hlen1 : (steps [] (l0.take k)).length + 1 ≤ 255 := by
            have := steps_length (l0.take k) []
            rw [List.length_take] at this
            simp at this; omega
          have h25 := h2.below hb5
          have h15 := h1.below hb5
          have hcom := law_commit h25 (some ⟨wr.heap.size, 0, none⟩) 1 1 [⟨kk, v, gg⟩] hlen1 rfl hp5 (fun y hy => by rw [List.mem_singleton] at hy; subst hy; have := ok1_iff.1 hxo; unfold maxLen; omega)
          unfold LComEnd at hcom
          rw [if_pos hmay1, if_pos hmay1] at hcom
          have next : ∀ W Fb', LTab w.heap.size w W tb (steps (steps [] (l0.take k)) [⟨kk, v, gg⟩]) Fb' → Only Fb w5 W → Grows Fb Fb' w5 → Hid (LTab w.heap.size w W ta M Fa ∧ LTab w.heap.size w W tb (steps [] (l0.take (k + 1))) Fb' ∧ Apart Fa Fb') := fun W Fb' t1 t2 t3 =>
            Lib.hid ⟨h15.far t2 h25.high (Far.of_tab h25.tab h3.symm), by rw [hst]; exact t1, (h3.symm.grows t3 h15.lt).symm⟩
          have NEXT := Lib.hid next
          have HCOM := Lib.hid hcom
          subst ea
          clear h1 h2 h3 hpw k4 k5 k6 hst hxo hb5 hs5 hp5 hmay1 hlen1 h25 h15 hcom next HI
          go_wp2_with fail
          rw [← Hw5.out]
          refine HCOM.out.mono ?_
          rintro e w6 ⟨rfl, Fb', t1, t2, t3⟩
          have HN := NEXT.out w6 Fb' t1 t2 t3
          clear NEXT HCOM t1 t2 t3 k1 k2 k3
          go_wp2
          go_roundw
          case rel => exact ⟨k + 1, Fb', by omega, by go_num, HN⟩
          case measure => simp [intOf]; omega
        · obtain rfl : k = l0.length := by omega
          rw [List.take_length, ← HM.out] at h2
          have hM : M.length ≤ 400 := by
            have := steps_length l0 []
            rw [HM.out]; simp at this; omega
          have H12 := Lib.hid (⟨h1, h2⟩ : LTab w.heap.size w wr ta M Fa ∧ LTab w.heap.size w wr tb M Fb)
          have HML := Lib.hid hM
          clear h1 h2 h3 hM HI
          go_wp2
          refine kap18 ta tb (Kv.bytes M).length (M.length : Int) (bstr (Kv.bytes M)) (ApS wr M) (by show 92 < 93; omega) rfl rfl ?_ ?_ ?_ ?_ ?_ ?_ ?_ ?_
          · intro p R w hS k hk h2
            obtain ⟨A, c, q1, q2⟩ := hS.bs k hk h2
            exact ⟨A, c, q1, run_sees_string (P := Try.prog) w 27 9 5 Try.underlying27 Try.underlying5 Try.underlying9 q2 _ c rfl⟩
          · intro p R w hS k hk h2; exact hS.ln k hk h2
          · intro R w hS; exact (law_bytes (H12.out.1.below hS.bel) HML.out).mono fun e w' he => hS.addB (by omega) he
          · intro R w hS; exact (law_bytes (H12.out.2.below hS.bel) HML.out).mono fun e w' he => hS.addB (by omega) he
          · intro R w hS; exact (len_any w ta M Fa (H12.out.1.below hS.bel).tab).mono fun e w' he => hS.addL (by omega) he
          · intro R w hS; exact (len_any w tb M Fb (H12.out.2.below hS.bel).tab).mono fun e w' he => hS.addL (by omega) he
          · exact ⟨(Below.refl _ _).drew, fun k hk => absurd hk (by omega), fun k hk => absurd hk (by omega)⟩
          intro af wN hfr h2 hS
          have HEND := Lib.hid (H12.out.1.below hS.bel).bel
          clear hS
          have ha := hfr.eq (by intro t ht; simp at ht; show t < 93; omega)
          simp only [List.foldl_cons, List.foldl_nil] at ha
          clear hfr
          rw [h2] at ha
          clear h2
          generalize af.eval (.tmp 79) = u79 at ha
          generalize af.eval (.tmp 80) = u80 at ha
          generalize af.eval (.tmp 81) = u81 at ha
          generalize af.eval (.tmp 82) = u82 at ha
          generalize af.eval (.tmp 83) = u83 at ha
          generalize af.eval (.tmp 84) = u84 at ha
          generalize af.eval (.tmp 85) = u85 at ha
          generalize af.eval (.tmp 86) = u86 at ha
          generalize af.eval (.tmp 87) = u87 at ha
          generalize af.eval (.tmp 88) = u88 at ha
          generalize af.eval (.tmp 89) = u89 at ha
          generalize af.eval (.tmp 90) = u90 at ha
          generalize af.eval (.tmp 91) = u91 at ha
          generalize af.eval (.tmp 92) = u92 at ha
          subst ha
          simp only [Act.put, List.setIfInBounds_toArray, List.set_cons_zero, List.set_cons_succ]
          go_wp2
          go_ret
          exact ⟨rfl, HEND.out⟩
end Go.Proofs.Ytpmgnmknjmnecaa
