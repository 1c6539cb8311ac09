/- seq's Show: the walk. -/
import Derived.Test.YtmcglecdidnhlaaDoorSqShow
namespace Go.Proofs.YtmcglecdidnhlaaDoor
open Go.RowKit
set_option linter.unusedVariables false
set_option maxRecDepth 100000

theorem own_bytes {w : World} {B : Nat} {v : Value} {l : List UInt8} (h : RowB w B v l) : (convert 58 9 v).run Tryd.prog w = .ok (.string ⟨l.toArray⟩) w :=
  run_own_string w 58 9 5 Tryd.underlying58 Tryd.underlying5 Tryd.underlying9 B v l h

set_option maxHeartbeats 3200000 in
theorem show_any (A : Option Addr) (m c : Nat) (L : List (Int × Int)) (w : World) (hn : m = L.length) (hm : m ≤ maxLen) (hp : Pairs w w.heap.size A L) (hw : SW w) :
    Calls Tryd.prog 11 #[.agg #[.slice A m c]] w fun e w' => e = .returned (.string ⟨(Sq.shown L).toArray⟩) ∧ Below w.heap.size w w' := by
  subst hn
  obtain ⟨w0, rfl⟩ : ∃ w0, w0 = w := ⟨_, rfl⟩
  obtain ⟨V, HV⟩ : ∃ V, Hid (V = Sq.valid L) := ⟨_, Lib.hid rfl⟩
  have hb0 : ∀ o, Below w0.heap.size w0 (w0.alloc o) := fun o => (Below.refl _ _).alloc (Nat.le_refl _) o
  have HC := Lib.hid (fun W (hb : Below w0.heap.size w0 W) => valid_any A L.length c L W rfl hm ((hp.below hb (Nat.le_refl _)).mono hb.size) V HV.out)
  have HB0 := Lib.hid hb0
  have HP := Lib.hid hp
  have HT := Lib.hid (Lib.tabBelow_of_tabIs hw.pow)
  clear hp hm hw hb0
  cases V with
  | false =>
    have HS : Hid (Sq.shown L = []) := Lib.hid (by unfold Sq.shown; rw [← HV.out]; rfl)
    go_enter Tryd.func11, Tryd.ntmps11
    go_wp2_with fail
    refine (HC.out _ (HB0.out _)).mono ?_
    rintro e w1 ⟨rfl, hb1⟩
    have HB1 := Lib.hid ((HB0.out _).trans (hb1.mono (by simp)))
    clear hb1
    go_wp2
    go_ret
    exact ⟨by rw [HS.out]; rfl, HB1.out⟩
  | true =>
    have HS : Hid (Sq.shown L = Sq.joinL L) := Lib.hid (by unfold Sq.shown; rw [← HV.out]; rfl)
    obtain ⟨v1, v2, v3⟩ := Sq.valid_parts L HV.out.symm
    have HG := Lib.hid v3
    have hlI : L.length ≤ 100 := v2
    clear v1 v2 v3
    go_enter Tryd.func11, Tryd.ntmps11
    go_wp2_with fail
    refine (HC.out _ (HB0.out _)).mono ?_
    rintro e w1 ⟨rfl, hb1⟩
    have HB1 := Lib.hid ((HB0.out _).trans (hb1.mono (by simp)))
    have hc := hb1.cell (p := ⟨w0.heap.size, 0, none⟩) (by simp)
    rw [World.cell?_alloc_at _ _ _ _ rfl] at hc
    have hc' : w1.cell? ⟨w0.heap.size, 0, none⟩ = some (.slice A L.length c) := hc
    clear hb1 hc
    go_wp2_with fail
    clear hc'
    go_loopw [3, 12] (fun b i wr => ∃ (k : Nat) (Ab : Option Addr) (cb : Nat) (Lb : List UInt8), k ≤ L.length ∧ b = .slice Ab Lb.length cb ∧ i = .int .i64 k ∧ Lb.length ≤ k * 50 ∧ Hid (Lb = Sq.joinL (L.take k)) ∧ Hid (RowB wr w0.heap.size (.slice Ab Lb.length cb) Lb ∧ Below w0.heap.size w0 wr)) (fun _ i _ => L.length - (intOf i).toNat)
    case atStart => exact ⟨0, none, 0, [], Nat.zero_le _, rfl, rfl, Nat.zero_le _, Lib.hid rfl, Lib.hid ⟨World.ownsRow_nil _ _ _ _, HB1.out⟩⟩
    case round =>
      obtain ⟨k, Ab, cb, Lb, hk, rfl, rfl, hll, HL, HR⟩ := hrel
      by_cases hlt : k < L.length
      · have hwz := HR.out.2.size
        obtain ⟨g, o, rfl, hg, k1, k2⟩ := (HP.out.below HR.out.2 (Nat.le_refl _)).at k hlt
        have hgw : g < wr.heap.size := by omega
        have hgood := HG.out L[k] (List.getElem_mem hlt)
        have hj : Sq.joinL (L.take (k + 1)) = Lb ++ ((if k = 0 then [] else [44]) ++ Sq.show1 L[k]) := by
          rw [List.take_succ_eq_append_getElem hlt]
          by_cases h0 : k = 0
          · have e0 : L.take k = [] := by rw [h0]; rfl
            rw [if_pos h0, HL.out, e0, List.nil_append, Sq.joinL_one]; rfl
          · rw [if_neg h0, HL.out, Sq.joinL_snoc _ _ (fun e => h0 (by have := congrArg List.length e; rw [List.length_take, List.length_nil] at this; omega))]
            rfl
        obtain ⟨x, Hx⟩ : ∃ x, Hid (x = L[k]) := ⟨_, Lib.hid rfl⟩
        rw [← Hx.out] at k1 k2 hgood hj
        obtain ⟨a, b⟩ := x
        simp only at k1 k2
        obtain ⟨g1, g2, g3, g4⟩ := (Sq.good1_iff _).1 hgood
        simp only at g1 g2 g3 g4
        have e1 : Sq.show1 (a, b) = Sq.num1 a ++ if a = b then [] else 58 :: Sq.num1 b := rfl
        rw [e1] at hj
        have n1 := num1_len a g1 g3
        have n2 := num1_len b g2 g4
        have HJ := Lib.hid hj
        have G := Lib.hid (And.intro g1 (And.intro g2 (And.intro g3 g4)))
        obtain ⟨Wb, HWb⟩ : ∃ Wb, Hid (Wb = wr.alloc (.cells #[.int .i64 a, .int .i64 b] 48)) := ⟨_, Lib.hid rfl⟩
        have HRb : Hid (RowB Wb w0.heap.size (.slice Ab Lb.length cb) Lb ∧ Below w0.heap.size w0 Wb ∧ Blk Wb wr.heap.size 48 #[.int .i64 a, .int .i64 b]) := Lib.hid (by
          rw [HWb.out]
          exact ⟨World.ownsRow.alloc HR.out.1 _, HR.out.2.alloc hwz _, Blk.new wr _ _⟩)
        have hszb : Wb.heap.size = wr.heap.size + 1 := by rw [HWb.out]; simp
        have hln : Lb.length ≤ 5000 := by omega
        clear hj hgood e1 g1 g2 g3 g4
        by_cases hk0 : k = 0
        · by_cases hab : a = b
          · have hd : decide ((0 : Int) < (k : Int)) = false := by simp; omega
            have hd2 : decide (0 < k) = false := by simp; omega
            have hne : (a != b) = false := by simp [hab]
            obtain ⟨W1, rfl⟩ : ∃ W1, W1 = Wb := ⟨_, rfl⟩
            obtain ⟨A1, rfl⟩ : ∃ A1, A1 = Ab := ⟨_, rfl⟩
            obtain ⟨c1, rfl⟩ : ∃ c1, c1 = cb := ⟨_, rfl⟩
            obtain ⟨L1, HL1, hl1, rfl⟩ : ∃ L1, Hid (L1 = Lb ++ []) ∧ L1.length ≤ Lb.length + 1 ∧ L1 = Lb := ⟨Lb, Lib.hid (by simp), by omega, rfl⟩
            have HW1 := HRb
            have HC1 := Lib.hid (appNum_any w0.heap.size A1 L1.length c1 L1 a W1 rfl HW1.out.1 HW1.out.2.1.size (by omega) G.out.1 G.out.2.2.1 (HT.out.on HW1.out.2.1))
            have x0 := HW1.out.2.2.cell 0 (.int .i64 a) rfl
            have HK0 := Lib.hid hk0
            have HAB := Lib.hid hab
            clear hk0 hab hszb
            go_wp2_with fail
            rw [← HWb.out]
            refine HC1.out.mono ?_
            rintro e W2 ⟨A2, c2, L2, rfl, HL2, h21, h22, h23⟩
            have HW2 : Hid (RowB W2 w0.heap.size (.slice A2 L2.length c2) L2 ∧ Below w0.heap.size w0 W2 ∧ Blk W2 wr.heap.size 48 #[.int .i64 a, .int .i64 b]) := Lib.hid ⟨h21, HW1.out.2.1.trans (h22.mono (Nat.le_refl _)), HW1.out.2.2.oth (by decide) h23⟩
            have l2 : L2.length ≤ L1.length + 21 := by rw [HL2.out, List.length_append]; omega
            have y0 := HW2.out.2.2.cell 0 (.int .i64 a) rfl
            have y1 := HW2.out.2.2.cell 1 (.int .i64 b) rfl
            clear h21 h22 h23 x0
            have HN : Hid (L2 = Sq.joinL (L.take (k + 1))) := Lib.hid (by rw [HJ.out, HL2.out, HL1.out, if_pos HK0.out, if_pos HAB.out]; simp)
            clear k1 k2 hgw
            go_wp2
            go_roundw
            case rel => exact ⟨k + 1, A2, c2, L2, by omega, rfl, by go_num, by omega, HN, Lib.hid ⟨HW2.out.1, HW2.out.2.1⟩⟩
            case measure => simp [intOf]; omega
          · have hd : decide ((0 : Int) < (k : Int)) = false := by simp; omega
            have hd2 : decide (0 < k) = false := by simp; omega
            have hne : (a != b) = true := by simpa using hab
            obtain ⟨W1, rfl⟩ : ∃ W1, W1 = Wb := ⟨_, rfl⟩
            obtain ⟨A1, rfl⟩ : ∃ A1, A1 = Ab := ⟨_, rfl⟩
            obtain ⟨c1, rfl⟩ : ∃ c1, c1 = cb := ⟨_, rfl⟩
            obtain ⟨L1, HL1, hl1, rfl⟩ : ∃ L1, Hid (L1 = Lb ++ []) ∧ L1.length ≤ Lb.length + 1 ∧ L1 = Lb := ⟨Lb, Lib.hid (by simp), by omega, rfl⟩
            have HW1 := HRb
            have HC1 := Lib.hid (appNum_any w0.heap.size A1 L1.length c1 L1 a W1 rfl HW1.out.1 HW1.out.2.1.size (by omega) G.out.1 G.out.2.2.1 (HT.out.on HW1.out.2.1))
            have x0 := HW1.out.2.2.cell 0 (.int .i64 a) rfl
            have HK0 := Lib.hid hk0
            have HAB := Lib.hid hab
            clear hk0 hab hszb
            go_wp2_with fail
            rw [← HWb.out]
            refine HC1.out.mono ?_
            rintro e W2 ⟨A2, c2, L2, rfl, HL2, h21, h22, h23⟩
            have HW2 : Hid (RowB W2 w0.heap.size (.slice A2 L2.length c2) L2 ∧ Below w0.heap.size w0 W2 ∧ Blk W2 wr.heap.size 48 #[.int .i64 a, .int .i64 b]) := Lib.hid ⟨h21, HW1.out.2.1.trans (h22.mono (Nat.le_refl _)), HW1.out.2.2.oth (by decide) h23⟩
            have l2 : L2.length ≤ L1.length + 21 := by rw [HL2.out, List.length_append]; omega
            have y0 := HW2.out.2.2.cell 0 (.int .i64 a) rfl
            have y1 := HW2.out.2.2.cell 1 (.int .i64 b) rfl
            clear h21 h22 h23 x0
            obtain ⟨A3, c3, L3, W3, HL3, hl3, hr3, h31, h32, h33⟩ := byte_app W2 w0.heap.size _ L2 HW2.out.1 58 58 rfl (by omega) HW2.out.2.1.size 58
            have HR3 := Lib.hid hr3
            have HW3 : Hid (RowB W3 w0.heap.size (.slice A3 L3.length c3) L3 ∧ Below w0.heap.size w0 W3 ∧ Blk W3 wr.heap.size 48 #[.int .i64 a, .int .i64 b]) := Lib.hid ⟨h31, HW2.out.2.1.trans (h32.mono (Nat.le_refl _)), HW2.out.2.2.oth (by decide) h33⟩
            clear hr3 h31 h32 h33
            have HC3 := Lib.hid (appNum_any w0.heap.size A3 L3.length c3 L3 b W3 rfl HW3.out.1 HW3.out.2.1.size (by omega) G.out.2.1 G.out.2.2.2 (HT.out.on HW3.out.2.1))
            have z1 := HW3.out.2.2.cell 1 (.int .i64 b) rfl
            clear k1 k2 hgw
            go_wp2_with (at_builtin; refine wpList_append_run rfl _ _ 58 rfl _ _ _ rfl rfl _ _ (by exact HR3.out) ?_)
            refine HC3.out.mono ?_
            rintro e W4 ⟨A4, c4, L4, rfl, HL4, h41, h42, h43⟩
            have HW4 : Hid (RowB W4 w0.heap.size (.slice A4 L4.length c4) L4 ∧ Below w0.heap.size w0 W4) := Lib.hid ⟨h41, HW3.out.2.1.trans (h42.mono (Nat.le_refl _))⟩
            have l4 : L4.length ≤ L3.length + 21 := by rw [HL4.out, List.length_append]; omega
            have HN : Hid (L4 = Sq.joinL (L.take (k + 1))) := Lib.hid (by rw [HJ.out, HL4.out, HL3.out, HL2.out, HL1.out, if_pos HK0.out, if_neg HAB.out]; simp)
            clear h41 h42 h43 y0 y1 z1
            go_wp2
            go_roundw
            case rel => exact ⟨k + 1, A4, c4, L4, by omega, rfl, by go_num, by omega, HN, Lib.hid HW4.out⟩
            case measure => simp [intOf]; omega
        · by_cases hab : a = b
          · have hd : decide ((0 : Int) < (k : Int)) = true := by simp; omega
            have hd2 : decide (0 < k) = true := by simp; omega
            have hne : (a != b) = false := by simp [hab]
            obtain ⟨A1, c1, L1, W1, HL1, hl1, hr1, h11, h12, h13⟩ := byte_app Wb w0.heap.size _ Lb HRb.out.1 44 44 rfl (by omega) HRb.out.2.1.size 58
            rw [hszb, HWb.out] at hr1
            have HR1 := Lib.hid hr1
            have HW1 : Hid (RowB W1 w0.heap.size (.slice A1 L1.length c1) L1 ∧ Below w0.heap.size w0 W1 ∧ Blk W1 wr.heap.size 48 #[.int .i64 a, .int .i64 b]) := Lib.hid ⟨h11, HRb.out.2.1.trans (h12.mono (Nat.le_refl _)), HRb.out.2.2.oth (by decide) h13⟩
            clear hr1 h11 h12 h13
            have HC1 := Lib.hid (appNum_any w0.heap.size A1 L1.length c1 L1 a W1 rfl HW1.out.1 HW1.out.2.1.size (by omega) G.out.1 G.out.2.2.1 (HT.out.on HW1.out.2.1))
            have x0 := HW1.out.2.2.cell 0 (.int .i64 a) rfl
            have HK0 := Lib.hid hk0
            have HAB := Lib.hid hab
            clear hk0 hab hszb
            go_wp2_with (at_builtin; refine wpList_append_run rfl _ _ 58 rfl _ _ _ rfl rfl _ _ (by exact HR1.out) ?_)
            refine HC1.out.mono ?_
            rintro e W2 ⟨A2, c2, L2, rfl, HL2, h21, h22, h23⟩
            have HW2 : Hid (RowB W2 w0.heap.size (.slice A2 L2.length c2) L2 ∧ Below w0.heap.size w0 W2 ∧ Blk W2 wr.heap.size 48 #[.int .i64 a, .int .i64 b]) := Lib.hid ⟨h21, HW1.out.2.1.trans (h22.mono (Nat.le_refl _)), HW1.out.2.2.oth (by decide) h23⟩
            have l2 : L2.length ≤ L1.length + 21 := by rw [HL2.out, List.length_append]; omega
            have y0 := HW2.out.2.2.cell 0 (.int .i64 a) rfl
            have y1 := HW2.out.2.2.cell 1 (.int .i64 b) rfl
            clear h21 h22 h23 x0
            have HN : Hid (L2 = Sq.joinL (L.take (k + 1))) := Lib.hid (by rw [HJ.out, HL2.out, HL1.out, if_neg HK0.out, if_pos HAB.out]; simp)
            clear k1 k2 hgw
            go_wp2
            go_roundw
            case rel => exact ⟨k + 1, A2, c2, L2, by omega, rfl, by go_num, by omega, HN, Lib.hid ⟨HW2.out.1, HW2.out.2.1⟩⟩
            case measure => simp [intOf]; omega
          · have hd : decide ((0 : Int) < (k : Int)) = true := by simp; omega
            have hd2 : decide (0 < k) = true := by simp; omega
            have hne : (a != b) = true := by simpa using hab
            obtain ⟨A1, c1, L1, W1, HL1, hl1, hr1, h11, h12, h13⟩ := byte_app Wb w0.heap.size _ Lb HRb.out.1 44 44 rfl (by omega) HRb.out.2.1.size 58
            rw [hszb, HWb.out] at hr1
            have HR1 := Lib.hid hr1
            have HW1 : Hid (RowB W1 w0.heap.size (.slice A1 L1.length c1) L1 ∧ Below w0.heap.size w0 W1 ∧ Blk W1 wr.heap.size 48 #[.int .i64 a, .int .i64 b]) := Lib.hid ⟨h11, HRb.out.2.1.trans (h12.mono (Nat.le_refl _)), HRb.out.2.2.oth (by decide) h13⟩
            clear hr1 h11 h12 h13
            have HC1 := Lib.hid (appNum_any w0.heap.size A1 L1.length c1 L1 a W1 rfl HW1.out.1 HW1.out.2.1.size (by omega) G.out.1 G.out.2.2.1 (HT.out.on HW1.out.2.1))
            have x0 := HW1.out.2.2.cell 0 (.int .i64 a) rfl
            have HK0 := Lib.hid hk0
            have HAB := Lib.hid hab
            clear hk0 hab hszb
            go_wp2_with (at_builtin; refine wpList_append_run rfl _ _ 58 rfl _ _ _ rfl rfl _ _ (by exact HR1.out) ?_)
            refine HC1.out.mono ?_
            rintro e W2 ⟨A2, c2, L2, rfl, HL2, h21, h22, h23⟩
            have HW2 : Hid (RowB W2 w0.heap.size (.slice A2 L2.length c2) L2 ∧ Below w0.heap.size w0 W2 ∧ Blk W2 wr.heap.size 48 #[.int .i64 a, .int .i64 b]) := Lib.hid ⟨h21, HW1.out.2.1.trans (h22.mono (Nat.le_refl _)), HW1.out.2.2.oth (by decide) h23⟩
            have l2 : L2.length ≤ L1.length + 21 := by rw [HL2.out, List.length_append]; omega
            have y0 := HW2.out.2.2.cell 0 (.int .i64 a) rfl
            have y1 := HW2.out.2.2.cell 1 (.int .i64 b) rfl
            clear h21 h22 h23 x0
            obtain ⟨A3, c3, L3, W3, HL3, hl3, hr3, h31, h32, h33⟩ := byte_app W2 w0.heap.size _ L2 HW2.out.1 58 58 rfl (by omega) HW2.out.2.1.size 58
            have HR3 := Lib.hid hr3
            have HW3 : Hid (RowB W3 w0.heap.size (.slice A3 L3.length c3) L3 ∧ Below w0.heap.size w0 W3 ∧ Blk W3 wr.heap.size 48 #[.int .i64 a, .int .i64 b]) := Lib.hid ⟨h31, HW2.out.2.1.trans (h32.mono (Nat.le_refl _)), HW2.out.2.2.oth (by decide) h33⟩
            clear hr3 h31 h32 h33
            have HC3 := Lib.hid (appNum_any w0.heap.size A3 L3.length c3 L3 b W3 rfl HW3.out.1 HW3.out.2.1.size (by omega) G.out.2.1 G.out.2.2.2 (HT.out.on HW3.out.2.1))
            have z1 := HW3.out.2.2.cell 1 (.int .i64 b) rfl
            clear k1 k2 hgw
            go_wp2_with (at_builtin; refine wpList_append_run rfl _ _ 58 rfl _ _ _ rfl rfl _ _ (by exact HR3.out) ?_)
            refine HC3.out.mono ?_
            rintro e W4 ⟨A4, c4, L4, rfl, HL4, h41, h42, h43⟩
            have HW4 : Hid (RowB W4 w0.heap.size (.slice A4 L4.length c4) L4 ∧ Below w0.heap.size w0 W4) := Lib.hid ⟨h41, HW3.out.2.1.trans (h42.mono (Nat.le_refl _))⟩
            have l4 : L4.length ≤ L3.length + 21 := by rw [HL4.out, List.length_append]; omega
            have HN : Hid (L4 = Sq.joinL (L.take (k + 1))) := Lib.hid (by rw [HJ.out, HL4.out, HL3.out, HL2.out, HL1.out, if_neg HK0.out, if_neg HAB.out]; simp)
            clear h41 h42 h43 y0 y1 z1
            go_wp2
            go_roundw
            case rel => exact ⟨k + 1, A4, c4, L4, by omega, rfl, by go_num, by omega, HN, Lib.hid HW4.out⟩
            case measure => simp [intOf]; omega
      · obtain rfl : k = L.length := by omega
        have hcv := own_bytes HR.out.1
        have HF : Hid (Lb = Sq.shown L) := Lib.hid (by rw [HL.out, List.take_length, HS.out])
        go_wp2
        go_ret
        exact ⟨by rw [← HF.out]; rfl, HR.out.2⟩
end Go.Proofs.YtmcglecdidnhlaaDoor
