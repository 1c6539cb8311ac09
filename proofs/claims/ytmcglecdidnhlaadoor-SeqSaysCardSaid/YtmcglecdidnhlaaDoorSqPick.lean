/- seq's Pick (slices.Max on its way): the walks. -/
import Derived.Test.YtmcglecdidnhlaaDoorSqHas
import Derived.Test.YtmcglecdidnhlaaDoorSqApp
import Derived.Test.YtmcglecdidnhlaaDoorSqRet
namespace Go.Proofs.YtmcglecdidnhlaaDoor
open Go.RowKit
set_option linter.unusedVariables false
set_option maxRecDepth 100000

def ListEnd (l : List Int) (w : World) (e : Ending) (w' : World) : Prop := ∃ A c, e = .returned (.slice A l.length c) ∧ l.length ≤ c ∧ c ≤ maxLen ∧ Ints w' w'.heap.size A l ∧ Below w.heap.size w w'
theorem ListEnd.nil {w w' : World} (hb : Below w.heap.size w w') : ListEnd [] w (.returned (.slice none 0 0)) w' := ⟨none, 0, rfl, Nat.le_refl _, Nat.zero_le _, Ints.nil _ _ _, hb⟩
theorem ListEnd.own {w w' : World} {base e n c : Nat} {A : Option Addr} {l : List Int} (h : w'.ownsRow base e 1 (.slice A n c) n (li l)) (hn : n = l.length) (hb : Below w.heap.size w w') : ListEnd l w (.returned (.slice A n c)) w' := by
  subst hn
  obtain ⟨_, _, e1, hcap, hcm⟩ := own_shape h
  injection e1 with _ _ e1
  subst e1
  exact ⟨A, c, rfl, hcap, hcm, Ints.of_own h, hb⟩
theorem max_any (A : Option Addr) (n c : Nat) (l : List Int) (w : World) (hn : n = l.length) (hpos : 0 < n) (hm : n ≤ 1000000) (hp : Ints w w.heap.size A l) :
    Calls Tryd.prog 28 #[.slice A n c] w fun e w' => e = .returned (.int .i64 (Lib.maxOf l)) ∧ w' = w := by
  subst hn
  obtain ⟨g, o, rfl, hg, hc⟩ := hp (List.length_pos_iff.1 hpos)
  have HC := Lib.hid hc
  have c0 : w.cell? ⟨g, o, none⟩ = some (.int .i64 l[0]) := hc 0 hpos
  have h1 : decide ((l.length : Int) < 1) = false := decide_eq_false (by omega)
  have h1' : decide (l.length < 1) = false := decide_eq_false (by omega)
  have H0 : Hid (l.headD 0 = l[0]) := Lib.hid (by cases l with | nil => simp at hpos | cons x t => rfl)
  obtain ⟨x0, Hx0⟩ : ∃ x, Hid (x = l[0]) := ⟨_, Lib.hid rfl⟩
  rw [← Hx0.out] at c0
  have HS : Hid ((l.take 1).foldl max x0 = x0) := Lib.hid (by
    rw [List.take_succ_eq_append_getElem hpos, ← Hx0.out]
    simp)
  clear hc hp
  go_enter Tryd.func28, Tryd.ntmps28
  go_wp2
  go_loop [3, 4] (fun z i => ∃ (k : Nat) (q : Int), 1 ≤ k ∧ k ≤ l.length ∧ z = .int .i64 q ∧ i = .int .i64 k ∧ Hid (q = (l.take k).foldl max x0)) (fun _ i => l.length - (intOf i).toNat)
  case atStart => exact ⟨1, x0, Nat.le_refl _, hpos, rfl, rfl, Lib.hid HS.out.symm⟩
  case round =>
    obtain ⟨k, q, hk1, hk, rfl, rfl, HQ⟩ := hrel
    by_cases hlt : k < l.length
    · have ck := HC.out k hlt
      have hf : (l.take (k + 1)).foldl max x0 = max q l[k] := by rw [List.take_succ_eq_append_getElem hlt, List.foldl_append, ← HQ.out]; rfl
      obtain ⟨x, Hx⟩ : ∃ x, Hid (x = l[k]) := ⟨_, Lib.hid rfl⟩
      rw [← Hx.out] at ck hf
      have HF := Lib.hid hf
      clear hf
      go_wp2
      go_round
      case rel => exact ⟨k + 1, max q x, by omega, by omega, rfl, by go_num, Lib.hid HF.out.symm⟩
      case measure => simp [intOf]; omega
    · obtain rfl : k = l.length := by omega
      have HF : Hid (q = Lib.maxOf l) := Lib.hid (by rw [HQ.out, List.take_length]; unfold Lib.maxOf; rw [H0.out, ← Hx0.out])
      go_wp2
      go_ret
      exact ⟨by rw [← HF.out]; rfl, rfl⟩

set_option maxHeartbeats 3200000 in
theorem pick_any (A : Option Addr) (m c : Nat) (L : List (Int × Int)) (A2 : Option Addr) (n c2 : Nat) (l : List Int) (w : World) (hm : m = L.length) (hmx : m ≤ maxLen) (hn : n = l.length) (hnx : n ≤ 60) (hp : Pairs w w.heap.size A L) (hp2 : Ints w w.heap.size A2 l) :
    Calls Tryd.prog 14 #[.agg #[.slice A m c], .slice A2 n c2] w (ListEnd (Sq.pick L l) w) := by
  subst hm hn
  obtain ⟨w0, rfl⟩ : ∃ w0, w0 = w := ⟨_, rfl⟩
  have hb0 : ∀ o, Below w0.heap.size w0 (w0.alloc o) := fun o => (Below.refl _ _).alloc (Nat.le_refl _) o
  obtain ⟨V, HV⟩ : ∃ V, Hid (V = Sq.valid L) := ⟨_, Lib.hid rfl⟩
  have HC := Lib.hid (fun W (hb : Below w0.heap.size w0 W) => valid_any A L.length c L W rfl hmx ((hp.below hb (Nat.le_refl _)).mono hb.size) V HV.out)
  have HH := Lib.hid (fun W (hb : Below w0.heap.size w0 W) (x last : Int) => hasV_any A L.length c L x last W rfl hmx ((hp.below hb (Nat.le_refl _)).mono hb.size) _ rfl)
  have HP2 := Lib.hid hp2
  have HB0 := Lib.hid (hb0 (.cells #[.slice A L.length c] 25))
  clear hp hmx hb0
  by_cases h0 : l.length = 0
  · have hl0 : l = [] := List.eq_nil_of_length_eq_zero h0
    have HK : Hid (∀ w', Below w0.heap.size w0 w' → ListEnd (Sq.pick L l) w0 (.returned (.slice none 0 0)) w') := Lib.hid (fun w' hb => by
      have : Sq.pick L l = [] := by rw [hl0]; unfold Sq.pick; split <;> rfl
      rw [this]; exact ListEnd.nil hb)
    have h1 : ((l.length : Int) == 0) = true := by simp; exact hl0
    clear hl0 h0 hp2
    go_enter Tryd.func14, Tryd.ntmps14
    go_wp2
    go_ret
    exact HK.out _ HB0.out
  · have hl0 : l ≠ [] := fun e => h0 (by rw [e]; rfl)
    have h1 : ((l.length : Int) == 0) = false := by simpa using hl0
    have hpos : 0 < l.length := by omega
    have HM := Lib.hid (fun W (hb : Below w0.heap.size w0 W) => max_any A2 l.length c2 l W rfl hpos (by omega) ((hp2.below hb (Nat.le_refl _)).mono hb.size))
    clear hp2
    cases V with
    | false =>
      have HK : Hid (∀ w', Below w0.heap.size w0 w' → ListEnd (Sq.pick L l) w0 (.returned (.slice none 0 0)) w') := Lib.hid (fun w' hb => by
        have : Sq.pick L l = [] := by unfold Sq.pick; rw [← HV.out]; rfl
        rw [this]; exact ListEnd.nil hb)
      clear hl0 h0
      go_enter Tryd.func14, Tryd.ntmps14
      go_wp2_with fail
      refine (HC.out _ HB0.out).mono ?_
      rintro e w1 ⟨rfl, hb1⟩
      have HB1 := Lib.hid (HB0.out.trans (hb1.mono HB0.out.size))
      clear hb1
      go_wp2
      go_ret
      exact HK.out _ HB1.out
    | true =>
      obtain ⟨last, Hla⟩ : ∃ x, Hid (x = Lib.maxOf l) := ⟨_, Lib.hid rfl⟩
      rw [← Hla.out] at HM
      have HK : Hid (Sq.pick L l = l.filter fun n => Sq.hasV L n last) := Lib.hid (by unfold Sq.pick; rw [← HV.out, Hla.out]; rfl)
      clear hl0 h0
      go_enter Tryd.func14, Tryd.ntmps14
      go_wp2_with fail
      refine (HC.out _ HB0.out).mono ?_
      rintro e w1 ⟨rfl, hb1⟩
      have HB1 := Lib.hid (HB0.out.trans (hb1.mono HB0.out.size))
      have HX1 : Hid (Blk w1 w0.heap.size 25 #[.slice A L.length c]) := Lib.hid ((Blk.new w0 _ _).below hb1 (by simp))
      clear hb1
      go_wp2_with fail
      refine (HM.out _ HB1.out).mono ?_
      rintro e w2 ⟨rfl, rfl⟩
      go_wp2_with fail
      go_loopw [6, 21] (fun b i wr => ∃ (k : Nat) (Ab : Option Addr) (cb : Nat) (q : List Int), k ≤ l.length ∧ b = .slice Ab q.length cb ∧ i = .int .i64 k ∧ q.length ≤ k ∧ Hid (q = (l.take k).filter fun n => Sq.hasV L n last) ∧ Hid (wr.ownsRow w2.heap.size 2 1 (.slice Ab q.length cb) q.length (li q) ∧ Below w2.heap.size w2 wr)) (fun _ i _ => l.length - (intOf i).toNat)
      case atStart => exact ⟨0, none, 0, [], Nat.zero_le _, rfl, rfl, Nat.zero_le _, Lib.hid rfl, Lib.hid ⟨World.ownsRow_nil _ _ _ _, Below.refl _ _⟩⟩
      case round =>
        obtain ⟨k, Ab, cb, q, hk, rfl, rfl, hqk, HQ, HR⟩ := hrel
        have HBR : Hid (Below w0.heap.size w0 wr) := Lib.hid (HB1.out.trans (HR.out.2.mono HB1.out.size))
        by_cases hlt : k < l.length
        · have hwz := HBR.out.size
          obtain ⟨g, o, rfl, hg, k1⟩ := (HP2.out.below HBR.out (Nat.le_refl _)).at k hlt
          have hgw : g < wr.heap.size := by omega
          have HXr : Hid (Blk wr w0.heap.size 25 #[.slice A L.length c]) := Lib.hid (HX1.out.below HR.out.2 HX1.out.lt)
          have c0 := HXr.out.cell 0 (.slice A L.length c) rfl
          have hso : (l.take (k + 1)).filter (fun n => Sq.hasV L n last) = q ++ (if Sq.hasV L l[k] last then [l[k]] else []) := by
            rw [List.take_succ_eq_append_getElem hlt, List.filter_append, HQ.out]
            congr 1
            cases h : Sq.hasV L l[k] last <;> simp [h]
          obtain ⟨x, Hx⟩ : ∃ x, Hid (x = l[k]) := ⟨_, Lib.hid rfl⟩
          rw [← Hx.out] at k1 hso
          have HSO := Lib.hid hso
          have HHx := HH.out wr HBR.out x last
          obtain ⟨hv, Hhv⟩ : ∃ y, Hid (y = Sq.hasV L x last) := ⟨_, Lib.hid rfl⟩
          rw [← Hhv.out] at HHx
          have HHX := Lib.hid HHx
          clear hso HHx
          cases hv with
          | true =>
            have HN : Hid ((l.take (k + 1)).filter (fun n => Sq.hasV L n last) = q ++ [x]) := Lib.hid (by rw [HSO.out, if_pos Hhv.out.symm])
            go_wp2_with fail
            refine HHX.out.mono ?_
            rintro e w3 ⟨rfl, hb3⟩
            have HR3 : Hid (w3.ownsRow w2.heap.size 2 1 (.slice Ab q.length cb) q.length (li q) ∧ Below w2.heap.size w2 w3) := Lib.hid ⟨own_below HR.out.1 hb3 (Nat.le_refl _), HR.out.2.trans (hb3.mono HR.out.2.size)⟩
            obtain ⟨v', w4, hr, h31, h32, h33, A3, c3, rfl⟩ := int_app w3 30 w2.heap.size _ q q.length rfl HR3.out.1 x (by omega) HR3.out.2.size
            have HRUN := Lib.hid hr
            have e3 : (q ++ [x]).length = q.length + 1 := by simp
            have HW3 : Hid (w4.ownsRow w2.heap.size 2 1 (.slice A3 (q ++ [x]).length c3) (q ++ [x]).length (li (q ++ [x])) ∧ Below w2.heap.size w2 w4) := Lib.hid ⟨by rw [e3]; exact h31, HR3.out.2.trans h33⟩
            clear hr h31 h32 h33 e3 hb3
            go_wp2_with (at_builtin; refine wpList_append_run rfl _ _ 30 rfl _ _ _ rfl rfl _ _ (by exact HRUN.out) ?_)
            go_roundw
            case rel => exact ⟨k + 1, A3, c3, q ++ [x], by omega, by simp, by go_num, by simp; omega, Lib.hid HN.out.symm, HW3⟩
            case measure => simp [intOf]; omega
          | false =>
            have HN : Hid ((l.take (k + 1)).filter (fun n => Sq.hasV L n last) = q) := Lib.hid (by rw [HSO.out, if_neg (by rw [← Hhv.out]; decide)]; simp)
            go_wp2_with fail
            refine HHX.out.mono ?_
            rintro e w3 ⟨rfl, hb3⟩
            have HR3 : Hid (w3.ownsRow w2.heap.size 2 1 (.slice Ab q.length cb) q.length (li q) ∧ Below w2.heap.size w2 w3) := Lib.hid ⟨own_below HR.out.1 hb3 (Nat.le_refl _), HR.out.2.trans (hb3.mono HR.out.2.size)⟩
            clear hb3
            go_wp2
            go_roundw
            case rel => exact ⟨k + 1, Ab, cb, q, by omega, rfl, by go_num, by omega, Lib.hid HN.out.symm, HR3⟩
            case measure => simp [intOf]; omega
        · obtain rfl : k = l.length := by omega
          have key : ListEnd (Sq.pick L l) w0 (.returned (.slice Ab q.length cb)) wr := by
            rw [HK.out]
            have hq : q = l.filter fun n => Sq.hasV L n last := by rw [HQ.out, List.take_length]
            rw [← hq]
            exact ListEnd.own HR.out.1 rfl HBR.out
          have KEY := Lib.hid key
          clear key
          go_wp2
          go_ret
          exact KEY.out
end Go.Proofs.YtmcglecdidnhlaaDoor
