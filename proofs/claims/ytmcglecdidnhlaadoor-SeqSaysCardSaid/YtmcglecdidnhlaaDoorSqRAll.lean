/- SqRCut, SqROne, SqRGood, SqRHas, SqRShow, SqRParse, SqRParW, SqRPick: these texts in one. -/
import Derived.Test.YtmcglecdidnhlaaDoorSqParse
import Derived.Test.YtmcglecdidnhlaaDoorRNum
import Derived.Test.YtmcglecdidnhlaaDoorRDig
import Derived.StillTailTactics
import Derived.Test.YtmcglecdidnhlaaDoorSqHas
import Derived.Test.YtmcglecdidnhlaaDoorSqRet
import Derived.Test.YtmcglecdidnhlaaDoorSqShow
import Derived.Test.YtmcglecdidnhlaaDoorSqPick
namespace Go.Proofs.YtmcglecdidnhlaaDoor
open Go.RowKit
set_option linter.unusedVariables false
set_option maxRecDepth 100000

def sv (P : List ByteArray) : List Value := P.map Value.string
theorem sv_append (a b : List ByteArray) : sv (a ++ b) = sv a ++ sv b := by simp [sv]
theorem Tryd.infoStr : (Tryd.prog.info? 9).map (fun i => (i.zero, i.size, i.bytes)) = some (some (.string ⟨#[]⟩), 1, 16) := by kernel_rfl
def CutEnd (ch : UInt8) (s : ByteArray) (w : World) (e : Ending) (w' : World) : Prop :=
  ∃ A m c P, e = .returned (.slice A m c) ∧ m = P.length ∧ P.map (fun p => p.data.toList) = Sq.parts ch s.data.toList ∧ w'.ownsRow w.heap.size 9 1 (.slice A m c) m (sv P) ∧ Below w.heap.size w w'
theorem join_data (a b : ByteArray) : (a ++ b).data.toList = a.data.toList ++ b.data.toList := by rw [ByteArray.data_append]; simp
theorem one_data (s : ByteArray) (k : Nat) (h : k < s.size) : (s.extract k (k + 1)).data.toList = [s[k]] := by
  rw [Lib.extract_data, show k + 1 - k = 1 by omega, List.drop_eq_getElem_cons (l := s.data.toList) (i := k) h]; rfl
theorem push_map (ch b : UInt8) (P : List ByteArray) (h : b ≠ ch) (T : List ByteArray) (q y : ByteArray) (hP : P = T ++ [q]) (hy : y.data.toList = [b]) : (T ++ [q ++ y]).map (fun p => p.data.toList) = Sq.push ch (P.map fun p => p.data.toList) b := by
  subst hP
  unfold Sq.push
  rw [if_neg h]
  simp only [List.map_append, List.map_cons, List.map_nil, join_data, hy]
  simp
theorem push_map_sep (ch b : UInt8) (P : List ByteArray) (h : b = ch) : (P ++ [(⟨#[]⟩ : ByteArray)]).map (fun p => p.data.toList) = Sq.push ch (P.map fun p => p.data.toList) b := by
  unfold Sq.push
  rw [if_pos h]
  simp

set_option maxHeartbeats 3200000 in
theorem rcut_any (s : ByteArray) (ch : UInt8) (w : World) (hs : s.size ≤ 1000000) :
    Calls Tryd.prog 29 #[.string s, .int .u8 (ch.toNat : Int)] w (CutEnd ch s w) := by
  obtain ⟨w0, rfl⟩ : ∃ w0, w0 = w := ⟨_, rfl⟩
  have HB0 := Lib.hid ((Below.refl w0.heap.size w0).alloc (Nat.le_refl _) (.cells #[.string ⟨#[]⟩] 9))
  have HR0 : Hid ((w0.alloc (.cells #[.string ⟨#[]⟩] 9)).ownsRow w0.heap.size 9 1 (.slice (some ⟨w0.heap.size, 0, none⟩) 1 1) 1 (sv [⟨#[]⟩])) := Lib.hid (World.ownsRow_lit w0 #[.string ⟨#[]⟩] 1 (Nat.le_refl _) (by decide) rfl)
  have hlen : s.data.toList.length = s.size := rfl
  have HLEN := Lib.hid hlen
  clear hlen
  go_enter Tryd.func29, Tryd.ntmps29
  go_wp2
  go_loopw [5, 6] (fun b i wr => ∃ (k m : Nat) (Ab : Option Addr) (cb : Nat) (P : List ByteArray), k ≤ s.size ∧ m ≤ k + 1 ∧ b = .slice Ab m cb ∧ i = .int .i64 k ∧ Hid (m = P.length ∧ P.map (fun p => p.data.toList) = Sq.parts ch (s.data.toList.take k)) ∧ Hid (wr.ownsRow w0.heap.size 9 1 (.slice Ab m cb) m (sv P) ∧ Below w0.heap.size w0 wr)) (fun _ i _ => s.size - (intOf i).toNat)
  case atStart => exact ⟨0, 1, _, 1, [⟨#[]⟩], Nat.zero_le _, Nat.le_refl _, rfl, rfl, Lib.hid ⟨rfl, rfl⟩, Lib.hid ⟨HR0.out, HB0.out⟩⟩
  case round =>
    obtain ⟨k, m, Ab, cb, P, hk, hmk, rfl, rfl, HP, HR⟩ := hrel
    have hwz := HR.out.2.size
    by_cases hlt : k < s.size
    · have hsn : Sq.parts ch (s.data.toList.take (k + 1)) = Sq.push ch (P.map fun p => p.data.toList) s[k] := by
        rw [List.take_succ_eq_append_getElem (by rw [HLEN.out]; exact hlt), Sq.parts_snoc, HP.out.2]; rfl
      have HSN := Lib.hid hsn
      clear hsn
      by_cases hc : s[k] = ch
      · have h1 : ((s[k].toNat : Int) == (ch.toNat : Int)) = true := by rw [hc]; simp
        obtain ⟨v', w3, hr, h31, h32, h33, A3, c3, rfl⟩ := row_app wr 61 61 9 _ 1 16 Tryd.infoStr Tryd.underlying61 rfl (by decide) (by decide) w0.heap.size _ m (sv P) HR.out.1 [.string ⟨#[]⟩] rfl (by intro u hu; simp at hu; subst hu; rfl) (by omega) hwz
        have HR3 := Lib.hid hr
        have HW3 : Hid (w3.ownsRow w0.heap.size 9 1 (.slice A3 (m + 1) c3) (m + 1) (sv (P ++ [(⟨#[]⟩ : ByteArray)])) ∧ Below w0.heap.size w0 w3) := Lib.hid ⟨by rw [sv_append]; exact h31, HR.out.2.trans h33⟩
        have HN : Hid (m + 1 = (P ++ [(⟨#[]⟩ : ByteArray)]).length ∧ (P ++ [(⟨#[]⟩ : ByteArray)]).map (fun p => p.data.toList) = Sq.parts ch (s.data.toList.take (k + 1))) := Lib.hid ⟨by rw [List.length_append, ← HP.out.1]; rfl, by rw [HSN.out]; exact push_map_sep ch _ P hc⟩
        clear hc hr h31 h32 h33
        go_wp2_with (at_builtin; refine wpList_append_run rfl _ _ 61 rfl _ _ _ rfl rfl _ _ (by exact HR3.out) ?_)
        go_roundw
        case rel => exact ⟨k + 1, m + 1, A3, c3, P ++ [(⟨#[]⟩ : ByteArray)], by omega, by omega, rfl, by go_num, HN, HW3⟩
        case measure => simp [intOf]; omega
      · have h1 : ((s[k].toNat : Int) == (ch.toNat : Int)) = false := by
          rw [beq_eq_false_iff_ne]
          intro e
          exact hc (UInt8.toNat_inj.1 (by omega))
        have hPne : P ≠ [] := fun e => by
          have := HP.out.2
          rw [e] at this
          exact Sq.parts_ne ch _ this.symm
        rcases Sq.snoc_cases P with e | ⟨T, q, hPT⟩
        · exact absurd e hPne
        · obtain ⟨t, Ht⟩ : ∃ t, Hid (t = T.length) := ⟨_, Lib.hid rfl⟩
          have hmt : Hid (m = t + 1) := Lib.hid (by rw [HP.out.1, hPT, List.length_append, Ht.out]; rfl)
          have hsub : (m : Int) - 1 = (t : Int) := by have := hmt.out; omega
          have htm : t < m := by have := hmt.out; omega
          obtain ⟨y, Hy⟩ : ∃ y, Hid (s.extract k (k + 1) = y) := ⟨_, Lib.hid rfl⟩
          have hyl : y.data.toList = [s[k]] := by rw [← Hy.out]; exact one_data s k hlt
          have hys : y.size ≤ 1 := by
            have h1 : y.data.toList.length = y.size := rfl
            rw [hyl] at h1
            exact Nat.le_of_eq h1.symm
          have hqs : q.size ≤ 1000000 := by
            have h2 := part_le ch (s.data.toList.take k) q.data.toList (by rw [← HP.out.2, hPT]; simp)
            have h3 : q.data.toList.length = q.size := rfl
            rw [List.length_take, HLEN.out] at h2
            omega
          have hown := HR.out.1
          rw [hPT] at hown
          obtain ⟨g2, cap2, e4, _, hg2, _⟩ := own_form hown (by have := hmt.out; omega)
          obtain rfl : Ab = some ⟨g2, 0, none⟩ := by injection e4
          have hcq := hown.cells (g := g2) rfl T.length (.string q) (by rw [sv_append]; unfold sv; rw [List.getElem?_append_right (by simp)]; simp)
          rw [add_to, Nat.zero_add, ← Ht.out] at hcq
          have hfq := hown.frozenAt t
          have h5 := (hown.stored t (.string (q ++ y))).1
          have hset : (sv (T ++ [q])).set t (.string (q ++ y)) = sv (T ++ [q ++ y]) := by
            rw [sv_append, sv_append, List.set_append_right _ _ (by unfold sv; rw [List.length_map, Ht.out]; omega), Ht.out]
            unfold sv
            simp
          rw [hset] at h5
          have HW5 : Hid ((wr.setCell ⟨g2, t, none⟩ (.string (q ++ y))).ownsRow w0.heap.size 9 1 (.slice (some ⟨g2, 0, none⟩) m cb) m (sv (T ++ [q ++ y])) ∧ Below w0.heap.size w0 (wr.setCell ⟨g2, t, none⟩ (.string (q ++ y)))) := Lib.hid ⟨h5, below_set HR.out.2 (hown.lt g2 rfl).1 _ _⟩
          have HN : Hid (m = (T ++ [q ++ y]).length ∧ (T ++ [q ++ y]).map (fun p => p.data.toList) = Sq.parts ch (s.data.toList.take (k + 1))) := Lib.hid ⟨by rw [List.length_append, ← Ht.out, hmt.out]; rfl, by rw [HSN.out]; exact push_map ch _ P hc T q y hPT hyl⟩
          have hy2 := Hy.out
          have i1 : IntKind.i64.wrap (t : Int) = (t : Int) := IntWalk.i64_in _ (by omega)
          have i5 : (0 : Int) ≤ (t : Int) := by omega
          have i6 : (t : Int) < (m : Int) := by omega
          have i7 : (k : Int) + 1 ≤ (s.size : Int) := by omega
          have i8 : (k : Int) ≤ (k : Int) + 1 := by omega
          have i9 : ¬ 9223372036854775807 < q.size + y.size := by omega
          have i2 : IntKind.i64.wrap ((k : Int) + 1) = (k : Int) + 1 := IntWalk.i64_in _ (by omega)
          have i3 : (0 : Int) ≤ (k : Int) + 1 := by omega
          have i4 : ((k : Int) + 1).toNat = k + 1 := by omega
          clear hc hPne hPT hyl hown h5 hset e4 hg2
          go_wp2
          go_still_tail 17, (by kernel_rfl)
          go_wp2
          go_roundw
          case rel => exact ⟨k + 1, m, _, cb, T ++ [q ++ y], by omega, by omega, rfl, by go_num, HN, Lib.hid ⟨HW5.out.1, HW5.out.2.drew⟩⟩
          case measure => simp [intOf]; omega
    · obtain rfl : k = s.size := by omega
      have key : CutEnd ch s w0 (.returned (.slice Ab m cb)) wr := by
        refine ⟨Ab, m, cb, P, rfl, HP.out.1, ?_, HR.out.1, HR.out.2⟩
        rw [HP.out.2, ← HLEN.out, List.take_length]
      have KEY := Lib.hid key
      clear key
      go_wp2
      go_ret
      exact KEY.out
end Go.Proofs.YtmcglecdidnhlaaDoor

namespace Go.Proofs.YtmcglecdidnhlaaDoor
open Go.RowKit
set_option linter.unusedVariables false
set_option maxRecDepth 100000

theorem numOk_eq (l : List UInt8) : Oct.numOk l = (decide (1 ≤ l.length) && decide (l.length ≤ 10) && l.all Sq.dig) := rfl
theorem numTo_eq (l : List UInt8) : Oct.numTo l = Sq.val 0 l := rfl
set_option maxHeartbeats 800000 in
theorem rone_any (s : ByteArray) (w : World) (hs : s.size ≤ 1000000) :
    Calls Tryd.prog 30 #[.string s] w fun e w' => (∃ n, e = .returned (.tuple #[.int .i64 n, .bool (Sq.pnum s.data.toList).isSome]) ∧ ∀ v, Sq.pnum s.data.toList = some v → n = v) ∧ w' = w := by
  have hlen : s.data.toList.length = s.size := rfl
  by_cases h1 : s.data.toList = [42]
  · have g1 := lit_eq s _ h1
    have HR : Hid (Sq.pnum s.data.toList = some 0) := Lib.hid (by rw [h1]; rfl)
    clear h1 hlen
    go_enter Tryd.func30, Tryd.ntmps30
    go_wp2
    go_ret2
    exact ⟨⟨0, by rw [HR.out]; rfl, fun v hv => by rw [HR.out] at hv; injection hv⟩, rfl⟩
  · have g1 := lit_ne s _ h1
    have href := Sq.pnum_ref s.data.toList h1
    rw [← numOk_eq, ← numTo_eq] at href
    have HC := Lib.hid (rnum_any s w (by unfold maxLen; omega))
    cases hk : Oct.numOk s.data.toList with
    | false =>
      have HN : Hid (Sq.pnum s.data.toList = none) := Lib.hid (by rw [href, if_neg (by rw [hk]; simp)])
      have HV := Lib.hid (numVal_no _ hk)
      clear h1 href hk hlen
      go_enter Tryd.func30, Tryd.ntmps30
      go_wp2_with fail
      refine HC.out.mono ?_
      rintro e w1 ⟨rfl, rfl⟩
      rw [HV.out]
      go_wp2
      go_ret2
      exact ⟨⟨0, by rw [HN.out]; rfl, fun v hv => by rw [HN.out] at hv; cases hv⟩, rfl⟩
    | true =>
      have HV := Lib.hid (numVal_yes _ hk)
      have hpos : 0 < s.size := by
        rw [numOk_eq] at hk
        simp at hk
        have := hk.1.1
        have h2 : s.data.toList ≠ [] := fun e => by rw [e] at hlen; simp at hlen; simp [← hlen] at this
        have := List.length_pos_iff.2 h2
        omega
      have hhead : s.data.toList.head? = some s[0] := by
        have := List.drop_eq_getElem_cons (l := s.data.toList) (i := 0) (by omega)
        rw [List.drop_zero] at this
        rw [this]; rfl
      obtain ⟨n, Hn⟩ : ∃ n, Hid (n = Oct.numTo s.data.toList) := ⟨_, Lib.hid rfl⟩
      rw [← Hn.out] at HV href
      have hbig : n < 10000000000 := by
        have h3 : s.data.toList.length ≤ 10 := by
          rw [numOk_eq] at hk
          simp at hk
          have := hk.1.2
          rw [hlen]; exact this
        have h4 : s.data.toList.all Oct.digB = true := by
          unfold Oct.numOk at hk
          simp only [Bool.and_eq_true] at hk
          exact hk.2
        have h5 := Oct.numTo_lt _ s.data.toList rfl h4
        rw [← Hn.out] at h5
        have h6 : 10 ^ s.data.toList.length ≤ 10 ^ 10 := Nat.pow_le_pow_right (by decide) h3
        have h7 : (10 : Nat) ^ 10 = 10000000000 := by decide
        omega
      by_cases h3 : (s[0].toNat : Int) = 48
      · have g3 : ((s[0].toNat : Int) != 48) = false := by simp; omega
        have HN : Hid (Sq.pnum s.data.toList = none) := Lib.hid (by
          rw [href, if_neg]
          rintro ⟨_, h4, _⟩
          exact h4 (by rw [hhead]; congr 1; exact UInt8.toNat_inj.1 (by show s[0].toNat = 48; omega)))
        clear h1 href hk hlen h3 hhead
        go_enter Tryd.func30, Tryd.ntmps30
        go_wp2_with fail
        refine HC.out.mono ?_
        rintro e w1 ⟨rfl, rfl⟩
        rw [HV.out]
        go_wp2
        go_ret2
        exact ⟨⟨n, by rw [HN.out]; rfl, fun v hv => by rw [HN.out] at hv; cases hv⟩, rfl⟩
      · have g3 : ((s[0].toNat : Int) != 48) = true := by simp; omega
        have hne : s.data.toList.head? ≠ some 48 := by
          rw [hhead]
          intro h
          injection h with h
          rw [h] at h3
          exact h3 rfl
        by_cases h4 : n ≤ 4294967295
        · have g4 : decide ((n : Int) ≤ 4294967295) = true := by simp; omega
          have HN : Hid (Sq.pnum s.data.toList = some (n : Int)) := Lib.hid (by
            rw [href, if_pos ⟨hk, hne, h4⟩, Hn.out, numTo_eq])
          clear h1 href hk hlen h3 hhead hne h4
          go_enter Tryd.func30, Tryd.ntmps30
          go_wp2_with fail
          refine HC.out.mono ?_
          rintro e w1 ⟨rfl, rfl⟩
          rw [HV.out]
          go_wp2
          go_ret2
          exact ⟨⟨n, by rw [HN.out]; rfl, fun v hv => by rw [HN.out] at hv; injection hv⟩, rfl⟩
        · have g4 : decide ((n : Int) ≤ 4294967295) = false := by simp; omega
          have HN : Hid (Sq.pnum s.data.toList = none) := Lib.hid (by rw [href, if_neg (fun h => h4 h.2.2)])
          clear h1 href hk hlen h3 hhead hne h4
          go_enter Tryd.func30, Tryd.ntmps30
          go_wp2_with fail
          refine HC.out.mono ?_
          rintro e w1 ⟨rfl, rfl⟩
          rw [HV.out]
          go_wp2
          go_ret2
          exact ⟨⟨n, by rw [HN.out]; rfl, fun v hv => by rw [HN.out] at hv; cases hv⟩, rfl⟩
end Go.Proofs.YtmcglecdidnhlaaDoor

namespace Go.Proofs.YtmcglecdidnhlaaDoor
open Go.RowKit
set_option linter.unusedVariables false
set_option maxRecDepth 100000

theorem bad_cases (a b : Int) (h : Sq.good1 (a, b) = false) : decide (a < 0) = true ∨ decide (a < 0) = false ∧ decide (b < 0) = true ∨ decide (a < 0) = false ∧ decide (b < 0) = false ∧ decide (4294967295 < a) = true ∨ decide (a < 0) = false ∧ decide (b < 0) = false ∧ decide (4294967295 < a) = false ∧ decide (4294967295 < b) = true := by
  have h' : ¬ (0 ≤ a ∧ 0 ≤ b ∧ a ≤ 4294967295 ∧ b ≤ 4294967295) := fun hh => by
    have := (Sq.good1_iff (a, b)).2 hh
    rw [h] at this; cases this
  simp only [decide_eq_true_eq, decide_eq_false_iff_not]
  omega
theorem good_cases (a b : Int) (h : Sq.good1 (a, b) = true) : decide (a < 0) = false ∧ decide (b < 0) = false ∧ decide (4294967295 < a) = false ∧ decide (4294967295 < b) = false := by
  rw [Sq.good1_iff] at h
  simp only at h
  simp only [decide_eq_false_iff_not]
  omega
set_option maxHeartbeats 1600000 in
theorem rgood_any (A : Option Addr) (n c : Nat) (L : List (Int × Int)) (w : World) (hn : n = L.length) (hm : n ≤ maxLen) (hp : Pairs w w.heap.size A L) (B : Bool) (hB : B = Sq.valid L) :
    Calls Tryd.prog 31 #[.agg #[.slice A n c]] w fun e w' => e = .returned (.bool B) ∧ Below w.heap.size w w' := by
  subst hn
  unfold maxLen at hm
  have HP := Lib.hid hp
  have HB := Lib.hid hB
  clear hp hB
  obtain ⟨w0, rfl⟩ : ∃ w0, w0 = w := ⟨_, rfl⟩
  have H0 : Hid (Below w0.heap.size w0 (w0.alloc (.cells #[.slice A L.length c] 37)) ∧ Blk (w0.alloc (.cells #[.slice A L.length c] 37)) w0.heap.size 37 #[.slice A L.length c]) := Lib.hid ⟨(Below.refl _ _).alloc (Nat.le_refl _) _, Blk.new w0 _ _⟩
  go_enter Tryd.func31, Tryd.ntmps31
  go_wp2
  go_loopw [3] (fun i wr => ∃ k : Nat, k ≤ L.length ∧ i = .int .i64 k ∧ Hid (Below w0.heap.size w0 wr ∧ Blk wr w0.heap.size 37 #[.slice A L.length c]) ∧ Hid ((L.take k).all Sq.good1 = true)) (fun i _ => L.length - (intOf i).toNat)
  case atStart => exact ⟨0, Nat.zero_le _, rfl, H0, Lib.hid (by simp)⟩
  case round =>
    obtain ⟨k, hk, rfl, HBW, HM⟩ := hrel
    have hwz := HBW.out.1.size
    have hw0 : w0.heap.size < wr.heap.size := HBW.out.2.lt
    have c0 := HBW.out.2.cell 0 (.slice A L.length c) rfl
    by_cases hlt : k < L.length
    · obtain ⟨g, o, rfl, hg, k1, k2⟩ := (HP.out.below HBW.out.1 (Nat.le_refl _)).at k hlt
      have hgw : g < wr.heap.size := by omega
      have hso : (L.take (k + 1)).all Sq.good1 = ((L.take k).all Sq.good1 && Sq.good1 L[k]) := by rw [List.take_succ_eq_append_getElem hlt, List.all_append]; simp
      obtain ⟨x, Hx⟩ : ∃ x, Hid (x = L[k]) := ⟨_, Lib.hid rfl⟩
      rw [← Hx.out] at k1 k2 hso
      obtain ⟨a, b⟩ := x
      simp only at k1 k2
      rw [HM.out, Bool.true_and] at hso
      have HSO := Lib.hid hso
      have HNX : Hid (∀ oo, Below w0.heap.size w0 (wr.alloc oo) ∧ Blk (wr.alloc oo) w0.heap.size 37 #[.slice (some ⟨g, o, none⟩) L.length c]) := Lib.hid (fun oo => ⟨HBW.out.1.alloc hwz _, HBW.out.2.alloc _⟩)
      clear hso
      cases ho : Sq.good1 (a, b) with
      | true =>
        obtain ⟨q1, q2, q3, q4⟩ := good_cases a b ho
        have HM2 : Hid ((L.take (k + 1)).all Sq.good1 = true) := Lib.hid (by rw [HSO.out, ho])
        clear ho
        go_wp2
        go_roundw
        case rel => exact ⟨k + 1, by omega, by go_num, Lib.hid (HNX.out _), HM2⟩
        case measure => simp [intOf]; omega
      | false =>
        have hBf : B = false := by
          rw [HB.out]
          have : L.all Sq.good1 = false := by
            rw [List.all_eq_false]
            exact ⟨_, List.getElem_mem hlt, by rw [← Hx.out, ho]; simp⟩
          unfold Sq.valid
          rw [this]; simp
        subst hBf
        rcases bad_cases a b ho with q1 | ⟨q1, q2⟩ | ⟨q1, q2, q3⟩ | ⟨q1, q2, q3, q4⟩
        all_goals
          clear ho
          go_wp2
          go_ret
          exact ⟨rfl, (HNX.out _).1⟩
    · obtain rfl : k = L.length := by omega
      have hBt : B = (decide (1 ≤ L.length) && decide (L.length ≤ 100)) := by
        rw [HB.out]; unfold Sq.valid
        rw [List.take_length] at HM
        rw [HM.out]; simp
      have HBT := Lib.hid hBt
      clear hBt
      by_cases h1 : 1 ≤ L.length
      · by_cases h2 : L.length ≤ 100
        · have d1 : decide ((1 : Int) ≤ (L.length : Int)) = true := by simp; omega
          have d2 : decide ((L.length : Int) ≤ 100) = true := by simp; omega
          have e1 : B = true := by rw [HBT.out]; simp; omega
          subst e1
          go_wp2
          go_ret
          exact ⟨rfl, HBW.out.1⟩
        · have d1 : decide ((1 : Int) ≤ (L.length : Int)) = true := by simp; omega
          have d2 : decide ((L.length : Int) ≤ 100) = false := by simp; omega
          have e1 : B = false := by rw [HBT.out, decide_eq_false h2]; simp
          subst e1
          go_wp2
          go_ret
          exact ⟨rfl, HBW.out.1⟩
      · have d1 : decide ((1 : Int) ≤ (L.length : Int)) = false := by simp; omega
        have e1 : B = false := by rw [HBT.out, decide_eq_false h1]; simp
        subst e1
        go_wp2
        go_ret
        exact ⟨rfl, HBW.out.1⟩
end Go.Proofs.YtmcglecdidnhlaaDoor

namespace Go.Proofs.YtmcglecdidnhlaaDoor
open Go.RowKit
set_option linter.unusedVariables false
set_option maxRecDepth 100000

theorem hit_yes (n a b : Int) (h : (decide (a ≤ n) && decide (n ≤ b) || decide (b ≤ n) && decide (n ≤ a)) = true) :
    decide (a ≤ n) = true ∧ decide (n ≤ b) = true ∨ decide (a ≤ n) = true ∧ decide (n ≤ b) = false ∧ decide (b ≤ n) = true ∧ decide (n ≤ a) = true ∨ decide (a ≤ n) = false ∧ decide (b ≤ n) = true ∧ decide (n ≤ a) = true := by
  simp only [Bool.or_eq_true, Bool.and_eq_true, decide_eq_true_eq, decide_eq_false_iff_not] at h ⊢
  omega
theorem hit_no (n a b : Int) (h : (decide (a ≤ n) && decide (n ≤ b) || decide (b ≤ n) && decide (n ≤ a)) = false) :
    decide (a ≤ n) = true ∧ decide (n ≤ b) = false ∧ decide (b ≤ n) = true ∧ decide (n ≤ a) = false ∨ decide (a ≤ n) = false ∧ decide (b ≤ n) = false ∨ decide (a ≤ n) = false ∧ decide (b ≤ n) = true ∧ decide (n ≤ a) = false := by
  have h' : ¬ ((decide (a ≤ n) && decide (n ≤ b) || decide (b ≤ n) && decide (n ≤ a)) = true) := by rw [h]; decide
  simp only [Bool.or_eq_true, Bool.and_eq_true, decide_eq_true_eq, decide_eq_false_iff_not] at h' ⊢
  omega
theorem nof_cases (a last : Int) : (a == 0) = true ∧ Sq.nof a last = last ∨ (a == 0) = false ∧ Sq.nof a last = a := by
  unfold Sq.nof
  by_cases h : a = 0
  · exact .inl ⟨by simpa using h, if_pos h⟩
  · exact .inr ⟨by simpa using h, if_neg h⟩

set_option maxHeartbeats 6400000 in
theorem rhas_any (A : Option Addr) (m c : Nat) (L : List (Int × Int)) (n last : Int) (w : World) (hn : m = L.length) (hm : m ≤ maxLen) (hp : Pairs w w.heap.size A L) (B : Bool) (hB : B = Sq.has L n last) :
    Calls Tryd.prog 19 #[.agg #[.slice A m c], .int .i64 n, .int .i64 last] w fun e w' => e = .returned (.bool B) ∧ Below w.heap.size w w' := by
  subst hn
  obtain ⟨w0, rfl⟩ : ∃ w0, w0 = w := ⟨_, rfl⟩
  obtain ⟨V, HV⟩ : ∃ V, Hid (V = Sq.valid L) := ⟨_, Lib.hid rfl⟩
  have HP := Lib.hid hp
  have HB := Lib.hid hB
  have HC := Lib.hid (fun W (hb : Below w0.heap.size w0 W) => rgood_any A L.length c L W rfl hm ((hp.below hb (Nat.le_refl _)).mono hb.size) V HV.out)
  have H0 : Hid (Below w0.heap.size w0 (w0.alloc (.cells #[.slice A L.length c] 37)) ∧ Blk (w0.alloc (.cells #[.slice A L.length c] 37)) w0.heap.size 37 #[.slice A L.length c]) := Lib.hid ⟨(Below.refl _ _).alloc (Nat.le_refl _) _, Blk.new w0 _ _⟩
  unfold maxLen at hm
  clear hp hB
  by_cases h0 : n < 1
  · have e1 : B = false := by rw [HB.out]; unfold Sq.has Sq.hasV; rw [decide_eq_false (p := 1 ≤ n) (by omega)]; simp
    subst e1
    have h1 : decide (n < 1) = true := by simpa using h0
    clear h0
    go_enter Tryd.func19, Tryd.ntmps19
    go_wp2
    go_ret
    exact ⟨rfl, H0.out.1⟩
  · have h1 : decide (n < 1) = false := by simpa using h0
    cases V with
    | false =>
      have e1 : B = false := by rw [HB.out]; unfold Sq.has; rw [← HV.out]; rfl
      subst e1
      clear h0
      go_enter Tryd.func19, Tryd.ntmps19
      go_wp2_with fail
      refine (HC.out _ H0.out.1).mono ?_
      rintro e w1 ⟨rfl, hb1⟩
      have HB1 := Lib.hid (H0.out.1.trans (hb1.mono H0.out.1.size))
      clear hb1
      go_wp2
      go_ret
      exact ⟨rfl, HB1.out⟩
    | true =>
      have hv : B = L.any (Sq.hit n last) := by rw [HB.out]; unfold Sq.has Sq.hasV; rw [← HV.out, decide_eq_true (p := 1 ≤ n) (by omega)]; simp
      have HVV := Lib.hid hv
      clear hv h0 HB
      go_enter Tryd.func19, Tryd.ntmps19
      go_wp2_with fail
      refine (HC.out _ H0.out.1).mono ?_
      rintro e w1 ⟨rfl, hb1⟩
      have HB1 : Hid (Below w0.heap.size w0 w1 ∧ Blk w1 w0.heap.size 37 #[.slice A L.length c]) := Lib.hid ⟨H0.out.1.trans (hb1.mono H0.out.1.size), H0.out.2.below hb1 H0.out.2.lt⟩
      clear hb1 h1
      go_wp2
      go_loopw [7] (fun i wr => ∃ k : Nat, k ≤ L.length ∧ i = .int .i64 k ∧ Hid (Below w0.heap.size w0 wr ∧ Blk wr w0.heap.size 37 #[.slice A L.length c]) ∧ Hid ((L.take k).any (Sq.hit n last) = false)) (fun i _ => L.length - (intOf i).toNat)
      case atStart => exact ⟨0, Nat.zero_le _, rfl, HB1, Lib.hid (by simp)⟩
      case round =>
        obtain ⟨k, hk, rfl, HBW, HM⟩ := hrel
        have hwz := HBW.out.1.size
        have c0 := HBW.out.2.cell 0 (.slice A L.length c) rfl
        by_cases hlt : k < L.length
        · obtain ⟨g, o, rfl, hg, k1, k2⟩ := (HP.out.below HBW.out.1 (Nat.le_refl _)).at k hlt
          have hso : (L.take (k + 1)).any (Sq.hit n last) = ((L.take k).any (Sq.hit n last) || Sq.hit n last L[k]) := by rw [List.take_succ_eq_append_getElem hlt, List.any_append]; simp
          obtain ⟨x, Hx⟩ : ∃ x, Hid (x = L[k]) := ⟨_, Lib.hid rfl⟩
          rw [← Hx.out] at k1 k2 hso
          obtain ⟨a, b⟩ := x
          simp only at k1 k2
          rw [HM.out, Bool.false_or] at hso
          have HSO := Lib.hid hso
          have HHO := Lib.hid (Sq.hit_ref n last (a, b))
          have HD : Hid (∀ q, Below w0.heap.size w0 (wr.drewN q) ∧ Blk (wr.drewN q) w0.heap.size 37 #[.slice (some ⟨g, o, none⟩) L.length c]) := Lib.hid (fun q => ⟨below_drewN HBW.out.1 q, HBW.out.2.drewN q⟩)
          have i1 : (k : Int) < (L.length : Int) := by omega
          have i2 : (0 : Int) ≤ (k : Int) := by omega
          clear hso
          go_wp2
          go_quiet (fail)
          clear i1 i2
          obtain ⟨a1, ha1⟩ : ∃ a1, a1 = Sq.nof a last := ⟨_, rfl⟩
          obtain ⟨b1, hb1⟩ : ∃ b1, b1 = Sq.nof b last := ⟨_, rfl⟩
          cases ho : Sq.hit n last (a, b) with
          | true =>
            have h2 := HHO.out
            rw [ho] at h2
            rw [← ha1, ← hb1] at h2
            have h3 := hit_yes n a1 b1 h2.symm
            have hBf : B = true := by
              rw [HVV.out, List.any_eq_true]
              exact ⟨_, List.getElem_mem hlt, by rw [← Hx.out, ho]⟩
            subst hBf
            clear ho h2 c0 k1 k2
            rcases nof_cases a last with ⟨ga, ea⟩ | ⟨ga, ea⟩ <;> rcases nof_cases b last with ⟨gb, eb⟩ | ⟨gb, eb⟩ <;> rw [ea] at ha1 <;> rw [eb] at hb1 <;> subst ha1 <;> subst hb1 <;> clear ea eb <;> rcases h3 with ⟨q1, q2⟩ | ⟨q1, q2, q3, q4⟩ | ⟨q1, q2, q3⟩
            all_goals
              first
                | (rw [q1] at q2; cases q2)
                | (rw [q2] at q4; cases q4)
                | (go_wp2
                   go_ret
                   exact ⟨rfl, (HD.out _).1⟩)
          | false =>
            have HM2 : Hid ((L.take (k + 1)).any (Sq.hit n last) = false) := Lib.hid (by rw [HSO.out, ho])
            have h2 := HHO.out
            rw [ho] at h2
            rw [← ha1, ← hb1] at h2
            have h3 := hit_no n a1 b1 h2.symm
            clear ho h2 c0 k1 k2
            rcases nof_cases a last with ⟨ga, ea⟩ | ⟨ga, ea⟩ <;> rcases nof_cases b last with ⟨gb, eb⟩ | ⟨gb, eb⟩ <;> rw [ea] at ha1 <;> rw [eb] at hb1 <;> subst ha1 <;> subst hb1 <;> clear ea eb <;> rcases h3 with ⟨q1, q2, q3, q4⟩ | ⟨q1, q2⟩ | ⟨q1, q2, q3⟩
            all_goals
              go_wp2
              go_roundw
              case rel => exact ⟨k + 1, by omega, by go_num, Lib.hid (HD.out _), HM2⟩
              case measure => simp [intOf]; omega
        · obtain rfl : k = L.length := by omega
          have hBt : B = false := by rw [HVV.out, ← HM.out, List.take_length]
          subst hBt
          go_wp2
          go_ret
          exact ⟨rfl, HBW.out.1⟩
end Go.Proofs.YtmcglecdidnhlaaDoor

namespace Go.Proofs.YtmcglecdidnhlaaDoor
open Go.RowKit
set_option linter.unusedVariables false
set_option maxRecDepth 100000

theorem rstar_any (n : Int) (w : World) (h0 : 0 ≤ n) (h1 : n ≤ 4294967295) :
    Calls Tryd.prog 32 #[.int .i64 n] w fun e w' => e = .returned (.string ⟨(Sq.num1 n).toArray⟩) ∧ Below w.heap.size w w' := by
  by_cases hn : n = 0
  · subst hn
    go_enter Tryd.func32, Tryd.ntmps32
    go_wp2
    go_ret
    exact ⟨rfl, Below.refl _ _⟩
  · have h2 : (n == 0) = false := by simpa using hn
    obtain ⟨k, rfl⟩ : ∃ k : Nat, n = k := ⟨n.toNat, by omega⟩
    have HC := Lib.hid (digits_any k (by omega) w)
    have HN : Hid (Sq.num1 (k : Int) = Lib.decDigits k) := Lib.hid (by
      unfold Sq.num1; rw [if_neg hn]; unfold Lib.itoa; rw [if_neg (by omega)]; simp)
    clear hn
    go_enter Tryd.func32, Tryd.ntmps32
    go_wp2_with fail
    refine HC.out.mono ?_
    rintro e w1 ⟨rfl, hb1⟩
    go_wp2
    go_ret
    exact ⟨by rw [HN.out]; rfl, hb1⟩

set_option maxHeartbeats 3200000 in
theorem rshow_any (A : Option Addr) (m c : Nat) (L : List (Int × Int)) (w : World) (hn : m = L.length) (hm : m ≤ maxLen) (hp : Pairs w w.heap.size A L) :
    Calls Tryd.prog 17 #[.agg #[.slice A m c]] w fun e w' => e = .returned (.string ⟨(Sq.shown L).toArray⟩) ∧ Below w.heap.size w w' := by
  subst hn
  obtain ⟨w0, rfl⟩ : ∃ w0, w0 = w := ⟨_, rfl⟩
  obtain ⟨V, HV⟩ : ∃ V, Hid (V = Sq.valid L) := ⟨_, Lib.hid rfl⟩
  have HP := Lib.hid hp
  have HC := Lib.hid (fun W (hb : Below w0.heap.size w0 W) => rgood_any A L.length c L W rfl hm ((hp.below hb (Nat.le_refl _)).mono hb.size) V HV.out)
  have H0 : Hid (Below w0.heap.size w0 (w0.alloc (.cells #[.slice A L.length c] 37)) ∧ Blk (w0.alloc (.cells #[.slice A L.length c] 37)) w0.heap.size 37 #[.slice A L.length c]) := Lib.hid ⟨(Below.refl _ _).alloc (Nat.le_refl _) _, Blk.new w0 _ _⟩
  clear hp hm
  cases V with
  | false =>
    have HS : Hid (Sq.shown L = []) := Lib.hid (by unfold Sq.shown; rw [← HV.out]; rfl)
    go_enter Tryd.func17, Tryd.ntmps17
    go_wp2_with fail
    refine (HC.out _ H0.out.1).mono ?_
    rintro e w1 ⟨rfl, hb1⟩
    have HB1 := Lib.hid (H0.out.1.trans (hb1.mono H0.out.1.size))
    clear hb1
    go_wp2
    go_ret
    exact ⟨by rw [HS.out]; rfl, HB1.out⟩
  | true =>
    have HS : Hid (Sq.shown L = Sq.joinL L) := Lib.hid (by unfold Sq.shown; rw [← HV.out]; rfl)
    obtain ⟨v1, v2, v3⟩ := Sq.valid_parts L HV.out.symm
    have HG := Lib.hid v3
    have hlI : L.length ≤ 100 := v2
    clear v1 v2 v3
    go_enter Tryd.func17, Tryd.ntmps17
    go_wp2_with fail
    refine (HC.out _ H0.out.1).mono ?_
    rintro e w1 ⟨rfl, hb1⟩
    have HB1 : Hid (Below w0.heap.size w0 w1 ∧ Blk w1 w0.heap.size 37 #[.slice A L.length c]) := Lib.hid ⟨H0.out.1.trans (hb1.mono H0.out.1.size), H0.out.2.below hb1 H0.out.2.lt⟩
    clear hb1
    go_wp2
    go_loopw [3, 4] (fun b i wr => ∃ (k : Nat) (q : ByteArray), k ≤ L.length ∧ b = .string q ∧ i = .int .i64 k ∧ q.size ≤ k * 50 ∧ Hid (q.data.toList = Sq.joinL (L.take k)) ∧ Hid (Below w0.heap.size w0 wr ∧ Blk wr w0.heap.size 37 #[.slice A L.length c])) (fun _ i _ => L.length - (intOf i).toNat)
    case atStart => exact ⟨0, ⟨#[]⟩, Nat.zero_le _, rfl, rfl, Nat.zero_le _, Lib.hid rfl, HB1⟩
    case round =>
      obtain ⟨k, q, hk, rfl, rfl, hll, HL, HBW⟩ := hrel
      have hwz := HBW.out.1.size
      have c0 := HBW.out.2.cell 0 (.slice A L.length c) rfl
      by_cases hlt : k < L.length
      · obtain ⟨g, o, rfl, hg, k1, k2⟩ := (HP.out.below HBW.out.1 (Nat.le_refl _)).at k hlt
        have hgood := HG.out L[k] (List.getElem_mem hlt)
        have hj : Sq.joinL (L.take (k + 1)) = q.data.toList ++ ((if k = 0 then [] else [44]) ++ Sq.show1 L[k]) := by
          rw [List.take_succ_eq_append_getElem hlt]
          by_cases h0 : k = 0
          · have e0 : L.take k = [] := by rw [h0]; rfl
            rw [if_pos h0, HL.out, e0, List.nil_append, Sq.joinL_one]; rfl
          · rw [if_neg h0, HL.out, Sq.joinL_snoc _ _ (fun e => h0 (by have := congrArg List.length e; rw [List.length_take, List.length_nil] at this; omega))]
            rfl
        obtain ⟨x, Hx⟩ : ∃ x, Hid (x = L[k]) := ⟨_, Lib.hid rfl⟩
        rw [← Hx.out] at k1 k2 hgood hj
        obtain ⟨a, b⟩ := x
        simp only at k1 k2
        obtain ⟨g1, g2, g3, g4⟩ := (Sq.good1_iff _).1 hgood
        simp only at g1 g2 g3 g4
        have e1 : Sq.show1 (a, b) = Sq.num1 a ++ if a = b then [] else 58 :: Sq.num1 b := rfl
        rw [e1] at hj
        obtain ⟨sa, Hsa⟩ : ∃ sa : ByteArray, Hid (sa = ⟨(Sq.num1 a).toArray⟩) := ⟨_, Lib.hid rfl⟩
        obtain ⟨sb, Hsb⟩ : ∃ sb : ByteArray, Hid (sb = ⟨(Sq.num1 b).toArray⟩) := ⟨_, Lib.hid rfl⟩
        have n1 : sa.size ≤ 21 := by rw [Hsa.out]; exact num1_len a g1 g3
        have n2 : sb.size ≤ 21 := by rw [Hsb.out]; exact num1_len b g2 g4
        have HJ := Lib.hid hj
        have hca := fun W => rstar_any a W g1 g3
        have hcb := fun W => rstar_any b W g2 g4
        rw [← Hsa.out] at hca
        rw [← Hsb.out] at hcb
        have HCA := Lib.hid hca
        have HCB := Lib.hid hcb
        have i1 : (k : Int) < (L.length : Int) := by omega
        have i2 : (0 : Int) ≤ (k : Int) := by omega
        have HST : Hid (∀ W, Below wr.heap.size wr W → Below w0.heap.size w0 W ∧ Blk W w0.heap.size 37 #[.slice (some ⟨g, o, none⟩) L.length c] ∧ W.cell? ⟨g, o + k * 2, none⟩ = some (.int .i64 a) ∧ W.cell? ⟨g, o + k * 2 + 1, none⟩ = some (.int .i64 b)) := Lib.hid (fun W hb => ⟨HBW.out.1.trans (hb.mono hwz), HBW.out.2.below hb HBW.out.2.lt, (hb.cell (p := ⟨g, o + k * 2, none⟩) (by show g < wr.heap.size; omega)).trans k1, (hb.cell (p := ⟨g, o + k * 2 + 1, none⟩) (by show g < wr.heap.size; omega)).trans k2⟩)
        clear hj hgood e1 g1 g2 g3 g4 hca hcb
        have hk0c : ∃ pre : ByteArray, (decide ((0 : Int) < (k : Int)) = false ∧ decide (0 < k) = false ∧ pre.data.toList = [] ∧ pre = ⟨#[]⟩ ∨ decide ((0 : Int) < (k : Int)) = true ∧ decide (0 < k) = true ∧ pre.data.toList = [44] ∧ pre = ⟨#[44]⟩) ∧ pre.data.toList = (if k = 0 then [] else [44]) := by
          by_cases h0 : k = 0
          · exact ⟨⟨#[]⟩, .inl ⟨by simp; omega, by simp; omega, rfl, rfl⟩, by rw [if_pos h0]⟩
          · exact ⟨⟨#[44]⟩, .inr ⟨by simp; omega, by simp; omega, rfl, rfl⟩, by rw [if_neg h0]⟩
        obtain ⟨pre, hkc, hpre⟩ := hk0c
        have HPRE := Lib.hid hpre
        clear hpre
        rcases hkc with ⟨d1, d2, _, rfl⟩ | ⟨d1, d2, _, rfl⟩
        · by_cases hab : a = b
          · have hne : (a != b) = false := by simp [hab]
            have HAB := Lib.hid hab
            clear hab
            have s1 : q.size + sa.size ≤ 100000 := by omega
            have z1 : ¬ 9223372036854775807 < q.size + sa.size := by omega
            go_wp2_with fail
            refine (HCA.out _).mono ?_
            rintro e W1 ⟨rfl, hb1⟩
            obtain ⟨f1, f2, f3, f4⟩ := HST.out _ hb1
            have HB1 := Lib.hid hb1
            have c1 := f2.cell 0 (.slice (some ⟨g, o, none⟩) L.length c) rfl
            clear hb1 f1 f2 c0 k1 k2
            go_wp2_with fail
            go_quiet (fail)
            have HN : Hid ((q ++ sa).data.toList = Sq.joinL (L.take (k + 1))) := Lib.hid (by rw [HJ.out, ← HPRE.out, if_pos HAB.out]; simp only [join_data, Hsa.out]; simp)
            have HF := Lib.hid (HST.out _ (below_drewN HB1.out nq))
            go_wp2
            go_roundw
            case rel => exact ⟨k + 1, q ++ sa, by omega, rfl, by go_num, by simp only [ByteArray.size_append]; omega, HN, Lib.hid ⟨HF.out.1, HF.out.2.1⟩⟩
            case measure => simp [intOf]; omega
          · have hne : (a != b) = true := by simpa using hab
            have HAB := Lib.hid hab
            clear hab
            have s1 : q.size + sa.size ≤ 100000 := by omega
            have z1 : ¬ 9223372036854775807 < q.size + sa.size := by omega
            go_wp2_with fail
            refine (HCA.out _).mono ?_
            rintro e W1 ⟨rfl, hb1⟩
            obtain ⟨f1, f2, f3, f4⟩ := HST.out _ hb1
            have HB1 := Lib.hid hb1
            have c1 := f2.cell 0 (.slice (some ⟨g, o, none⟩) L.length c) rfl
            clear hb1 f1 f2 c0 k1 k2
            go_wp2_with fail
            go_quiet (fail)
            obtain ⟨f5, f6, f7, f8⟩ := HST.out _ (below_drewN HB1.out nq)
            have c2 := f6.cell 0 (.slice (some ⟨g, o, none⟩) L.length c) rfl
            have HB2 := Lib.hid (below_drewN HB1.out nq)
            obtain ⟨W2, hW2⟩ : ∃ W2, W2 = W1.drewN nq := ⟨_, rfl⟩
            rw [← hW2] at c2 f5 f6 f7 f8 HB2 ⊢
            clear f3 f4 f5 f6 c1 hW2
            go_wp2_with fail
            refine (HCB.out _).mono ?_
            rintro e W3 ⟨rfl, hb3⟩
            have HF := Lib.hid (HST.out _ (HB2.out.trans (hb3.mono HB2.out.size)))
            have HN : Hid ((((q ++ sa) ++ ⟨#[58]⟩) ++ sb).data.toList = Sq.joinL (L.take (k + 1))) := Lib.hid (by rw [HJ.out, ← HPRE.out, if_neg HAB.out]; simp only [join_data, Hsa.out, Hsb.out]; simp)
            clear hb3 c2 f7 f8
            go_wp2
            go_roundw
            case rel => exact ⟨k + 1, ((q ++ sa) ++ ⟨#[58]⟩) ++ sb, by omega, rfl, by go_num, by simp only [ByteArray.size_append]; have : (⟨#[58]⟩ : ByteArray).size = 1 := rfl; omega, HN, Lib.hid ⟨HF.out.1, HF.out.2.1⟩⟩
            case measure => simp [intOf]; omega
        · by_cases hab : a = b
          · have hne : (a != b) = false := by simp [hab]
            have HAB := Lib.hid hab
            clear hab
            have s1 : q.size + sa.size ≤ 100000 := by omega
            have z1 : ¬ 9223372036854775807 < q.size + sa.size := by omega
            have z0 : ¬ 9223372036854775807 < q.size + 1 := by omega
            have z2 : ¬ 9223372036854775807 < q.size + 1 + sa.size := by omega
            go_wp2_with fail
            refine (HCA.out _).mono ?_
            rintro e W1 ⟨rfl, hb1⟩
            obtain ⟨f1, f2, f3, f4⟩ := HST.out _ hb1
            have HB1 := Lib.hid hb1
            have c1 := f2.cell 0 (.slice (some ⟨g, o, none⟩) L.length c) rfl
            clear hb1 f1 f2 c0 k1 k2
            go_wp2_with fail
            go_quiet (fail)
            have HN : Hid (((q ++ ⟨#[44]⟩) ++ sa).data.toList = Sq.joinL (L.take (k + 1))) := Lib.hid (by rw [HJ.out, ← HPRE.out, if_pos HAB.out]; simp only [join_data, Hsa.out]; simp)
            have HF := Lib.hid (HST.out _ (below_drewN HB1.out nq))
            go_wp2
            go_roundw
            case rel => exact ⟨k + 1, (q ++ ⟨#[44]⟩) ++ sa, by omega, rfl, by go_num, by simp only [ByteArray.size_append]; have : (⟨#[44]⟩ : ByteArray).size = 1 := rfl; omega, HN, Lib.hid ⟨HF.out.1, HF.out.2.1⟩⟩
            case measure => simp [intOf]; omega
          · have hne : (a != b) = true := by simpa using hab
            have HAB := Lib.hid hab
            clear hab
            have s1 : q.size + sa.size ≤ 100000 := by omega
            have z1 : ¬ 9223372036854775807 < q.size + sa.size := by omega
            have z0 : ¬ 9223372036854775807 < q.size + 1 := by omega
            have z2 : ¬ 9223372036854775807 < q.size + 1 + sa.size := by omega
            go_wp2_with fail
            refine (HCA.out _).mono ?_
            rintro e W1 ⟨rfl, hb1⟩
            obtain ⟨f1, f2, f3, f4⟩ := HST.out _ hb1
            have HB1 := Lib.hid hb1
            have c1 := f2.cell 0 (.slice (some ⟨g, o, none⟩) L.length c) rfl
            clear hb1 f1 f2 c0 k1 k2
            go_wp2_with fail
            go_quiet (fail)
            obtain ⟨f5, f6, f7, f8⟩ := HST.out _ (below_drewN HB1.out nq)
            have c2 := f6.cell 0 (.slice (some ⟨g, o, none⟩) L.length c) rfl
            have HB2 := Lib.hid (below_drewN HB1.out nq)
            obtain ⟨W2, hW2⟩ : ∃ W2, W2 = W1.drewN nq := ⟨_, rfl⟩
            rw [← hW2] at c2 f5 f6 f7 f8 HB2 ⊢
            clear f3 f4 f5 f6 c1 hW2
            go_wp2_with fail
            refine (HCB.out _).mono ?_
            rintro e W3 ⟨rfl, hb3⟩
            have HF := Lib.hid (HST.out _ (HB2.out.trans (hb3.mono HB2.out.size)))
            have HN : Hid (((((q ++ ⟨#[44]⟩) ++ sa) ++ ⟨#[58]⟩) ++ sb).data.toList = Sq.joinL (L.take (k + 1))) := Lib.hid (by rw [HJ.out, ← HPRE.out, if_neg HAB.out]; simp only [join_data, Hsa.out, Hsb.out]; simp)
            clear hb3 c2 f7 f8
            go_wp2
            go_roundw
            case rel => exact ⟨k + 1, (((q ++ ⟨#[44]⟩) ++ sa) ++ ⟨#[58]⟩) ++ sb, by omega, rfl, by go_num, by simp only [ByteArray.size_append]; have : (⟨#[58]⟩ : ByteArray).size = 1 := rfl; have : (⟨#[44]⟩ : ByteArray).size = 1 := rfl; omega, HN, Lib.hid ⟨HF.out.1, HF.out.2.1⟩⟩
            case measure => simp [intOf]; omega
      · obtain rfl : k = L.length := by omega
        have HF : Hid (q = ⟨(Sq.shown L).toArray⟩) := Lib.hid (by
          have : q.data.toList = Sq.shown L := by rw [HL.out, List.take_length, HS.out]
          rw [← this])
        go_wp2
        go_ret
        exact ⟨by rw [← HF.out]; rfl, HBW.out.1⟩
end Go.Proofs.YtmcglecdidnhlaaDoor

namespace Go.Proofs.YtmcglecdidnhlaaDoor
open Go.RowKit
set_option linter.unusedVariables false
set_option maxRecDepth 100000

/-- A row of the call's own holds these strings. -/
structure StrRow (w : World) (v : Value) (m : Nat) (P : List ByteArray) : Prop where
  row : w.ownsRow 0 9 1 v m (sv P)
  len : m = P.length
theorem StrRow.below {w w' : World} {v : Value} {m : Nat} {P : List ByteArray} (h : StrRow w v m P) (hb : Below w.heap.size w w') : StrRow w' v m P := ⟨own_below h.row hb (Nat.le_refl _), h.len⟩
theorem StrRow.at {w : World} {v : Value} {m : Nat} {P : List ByteArray} (h : StrRow w v m P) (k : Nat) (hk : k < P.length) : ∃ g c, v = .slice (some ⟨g, 0, none⟩) m c ∧ g < w.heap.size ∧ w.cell? ⟨g, k, none⟩ = some (.string P[k]) := by
  obtain ⟨g, c, rfl, _, hg, _⟩ := own_form h.row (by rw [h.len]; omega)
  refine ⟨g, c, rfl, hg, ?_⟩
  have := h.row.cells (g := g) rfl k (.string P[k]) (by unfold sv; rw [List.getElem?_map, List.getElem?_eq_getElem hk]; rfl)
  rwa [add_to, Nat.zero_add] at this
theorem pspan_more (l : List UInt8) (P : List ByteArray) (h : P.map (fun p => p.data.toList) = Sq.parts 58 l) (hl : 2 < P.length) : Sq.pspan l = none := by
  rw [Sq.pspan_ref, ← h]
  match P, hl with
  | _ :: _ :: _ :: _, _ => rfl
def both (a b : Option Int) : Option (Int × Int) := match a, b with | some a, some b => some (a, b) | _, _ => none
theorem pspan_few (l : List UInt8) (P : List ByteArray) (h : P.map (fun p => p.data.toList) = Sq.parts 58 l) (t : Nat) (hl : P.length = t + 1) (h2 : t ≤ 1) : Sq.pspan l = both (Sq.pnum (P[0]'(by omega)).data.toList) (Sq.pnum (P[t]'(by omega)).data.toList) := by
  rw [Sq.pspan_ref, ← h]
  match P, hl with
  | [x], hl => obtain rfl : t = 0 := by simp at hl; omega
               rfl
  | [x, y], hl => obtain rfl : t = 1 := by simp at hl; omega
                  rfl
  | _ :: _ :: _ :: _, hl => simp at hl; omega

/-- Between two rounds. -/
structure RpInv (w0 wr : World) (lv : Value) (N : Nat) (P : List ByteArray) (A : Option Addr) (m c : Nat) (acc : List (Int × Int)) : Prop where
  bel : Below w0.heap.size w0 wr
  res : Blk wr w0.heap.size 37 #[.slice none 0 0]
  box : Blk wr (w0.heap.size + 1) 37 #[.slice A m c]
  len : m = acc.length
  row : wr.ownsRow w0.heap.size 65 2 (.slice A m c) m (sp acc)
  strs : StrRow wr lv N P
theorem RpInv.below {w0 wr w' : World} {lv : Value} {N : Nat} {P : List ByteArray} {A : Option Addr} {m c : Nat} {acc : List (Int × Int)} (h : RpInv w0 wr lv N P A m c acc) (hb : Below wr.heap.size wr w') : RpInv w0 w' lv N P A m c acc :=
  ⟨h.bel.trans (hb.mono h.bel.size), h.res.below hb h.res.lt, h.box.below hb h.box.lt, h.len, own_below h.row hb (Nat.le_refl _), h.strs.below hb⟩
theorem RpInv.drewN {w0 wr : World} {lv : Value} {N : Nat} {P : List ByteArray} {A : Option Addr} {m c : Nat} {acc : List (Int × Int)} (h : RpInv w0 wr lv N P A m c acc) (q : Nat) : RpInv w0 (wr.drewN q) lv N P A m c acc := h.below (below_drewN (Below.refl _ _) q)
/-- A span more: appended to the row, stored into the box. -/
theorem RpInv.more {w0 wr w' : World} {lv : Value} {N : Nat} {P : List ByteArray} {A A' : Option Addr} {m c c' : Nat} {acc : List (Int × Int)} {a b : Int} (h : RpInv w0 wr lv N P A m c acc) (hrow : w'.ownsRow w0.heap.size 65 2 (.slice A' (m + 1) c') (m + 1) (sp (acc ++ [(a, b)])))
    (hg : (wr.alloc (.cells #[.int .i64 a, .int .i64 b] 65)).grownBy w' (Value.slice A m c).ownBlock) (hb : Below w0.heap.size wr w') : RpInv w0 (w'.setCell ⟨w0.heap.size + 1, 0, none⟩ (.slice A' (m + 1) c')) lv N P A' (m + 1) c' (acc ++ [(a, b)]) := by
  have r1 := ((h.res.alloc (.cells #[.int .i64 a, .int .i64 b] 65))).grown hg (h.res.apart (by decide) h.row)
  have b1 := ((h.box.alloc (.cells #[.int .i64 a, .int .i64 b] 65))).grown hg (h.box.apart (by decide) h.row)
  have s1 : w'.ownsRow 0 9 1 lv N (sv P) := (h.strs.row.alloc _).kept hg (own_own_ne h.strs.row h.row (by decide))
  exact ⟨below_set (h.bel.trans hb) (by omega) _ _, r1.other (by omega) _, b1.set 0 _, by rw [List.length_append, ← h.len]; rfl, row_set hrow (b1.apart (by decide) hrow) _, ⟨row_set s1 (b1.apart (by decide) s1) _, h.strs.len⟩⟩
def RpEnd (l : List UInt8) (w : World) (e : Ending) (w' : World) : Prop := ∃ v, e = .returned (.tuple #[v, .int .i64 (Sq.parse l).2]) ∧ SetAt w' v (Sq.parse l).1 ∧ Below w.heap.size w w'
theorem rparse_ret (w : World) (tmps : Array Value) (g : Nat) (hp : tmps.getD 2 undef = .pointer (some ⟨g, 0, none⟩)) (v u : Value) (hu : tmps.getD 3 undef = u) (hg : Blk w g 37 #[v]) :
    (results Tryd.f15 tmps).run Tryd.prog w = .ok (.tuple #[.agg #[v], u]) w :=
  ret_cell2 rfl tmps w g hp _ _ hg _ Tryd.underlying37 rfl (by kernel_rfl) u hu
theorem gather_take (F : List (List UInt8)) (k : Nat) (hk : k < F.length) (acc : List (Int × Int)) (h : Sq.gather [] (F.take k) = some acc) : Sq.gather [] (F.take (k + 1)) = match Sq.pspan F[k] with | none => none | some s => some (acc ++ [s]) := by
  rw [List.take_succ_eq_append_getElem hk, gather_app, h]
  simp only
  rw [Sq.gather_cons]
  cases Sq.pspan F[k] <;> rfl
end Go.Proofs.YtmcglecdidnhlaaDoor

namespace Go.Proofs.YtmcglecdidnhlaaDoor
open Go.RowKit
set_option linter.unusedVariables false
set_option maxRecDepth 100000

theorem part_size {ch : UInt8} {s : ByteArray} {P : List ByteArray} (h : P.map (fun p => p.data.toList) = Sq.parts ch s.data.toList) (k : Nat) (hk : k < P.length) : P[k].size ≤ s.size := by
  have h1 := part_le ch s.data.toList P[k].data.toList (by rw [← h]; exact List.mem_map.2 ⟨P[k], List.getElem_mem hk, rfl⟩)
  have h2 : s.data.toList.length = s.size := rfl
  have h3 : P[k].data.toList.length = P[k].size := rfl
  omega
theorem parts_len (c : UInt8) : ∀ l : List UInt8, (Sq.parts c l).length ≤ l.length + 1
  | [] => by simp [Sq.parts]
  | b :: r => by
    have ih := parts_len c r
    unfold Sq.parts
    split
    · simp; omega
    · split
      · simp
      · rename_i p q hp
        rw [hp] at ih
        simp at ih ⊢; omega

set_option maxHeartbeats 6400000 in
theorem rparse_any (s : ByteArray) (w : World) (hs : s.size ≤ 1000000) :
    Calls Tryd.prog 15 #[.string s] w (RpEnd s.data.toList w) := by
  obtain ⟨w0, rfl⟩ : ∃ w0, w0 = w := ⟨_, rfl⟩
  obtain ⟨wa, Hwa⟩ : ∃ wa, Hid (wa = (w0.alloc (.cells #[.slice none 0 0] 37)).alloc (.cells #[.slice none 0 0] 37)) := ⟨_, Lib.hid rfl⟩
  have hba : Below w0.heap.size w0 wa := by rw [Hwa.out]; exact ((Below.refl _ w0).alloc (Nat.le_refl _) _).alloc (by simp) _
  have hra : Blk wa w0.heap.size 37 #[.slice none 0 0] := by rw [Hwa.out]; exact (Blk.new w0 _ _).alloc _
  have hxa : Blk wa (w0.heap.size + 1) 37 #[.slice none 0 0] := by
    rw [Hwa.out]
    have := Blk.new (w0.alloc (.cells #[.slice none 0 0] 37)) 37 #[.slice none 0 0]
    simpa [Blk] using this
  have HA := Lib.hid (And.intro hba (And.intro hra hxa))
  have HC := Lib.hid (rcut_any s 44 wa hs)
  have HCC : Hid (∀ (q : ByteArray) W, q.size ≤ 1000000 → Calls Tryd.prog 29 #[.string q, .int .u8 58] W (CutEnd 58 q W)) := Lib.hid (fun q W hq => rcut_any q 58 W hq)
  have HO : Hid (∀ (q : ByteArray) W, q.size ≤ 1000000 → ∀ p, Sq.pnum q.data.toList = p → Calls Tryd.prog 30 #[.string q] W fun e w' => (∃ n, e = .returned (.tuple #[.int .i64 n, .bool p.isSome]) ∧ ∀ v, p = some v → n = v) ∧ w' = W) := Lib.hid (fun q W hq p hp => by rw [← hp]; exact rone_any q W hq)
  clear hba hra hxa
  go_enter Tryd.func15, Tryd.ntmps15
  go_wp2_with fail
  rw [← Hwa.out]
  refine HC.out.mono ?_
  rintro e w1 ⟨Al, N, cl, P, rfl, hN, hP, hrow, hb1⟩
  have HP := Lib.hid hP
  have hNs : N ≤ 1000001 := by
    have h1 := congrArg List.length hP
    have h2 := parts_len 44 s.data.toList
    have h3 : s.data.toList.length = s.size := rfl
    rw [List.length_map] at h1
    omega
  have HSZ : Hid (∀ k (hk : k < P.length), P[k].size ≤ 1000000) := Lib.hid (fun k hk => Nat.le_trans (part_size hP k hk) hs)
  have HI1 : Hid (RpInv w0 w1 (.slice Al N cl) N P none 0 0 []) := Lib.hid ⟨HA.out.1.trans (hb1.mono HA.out.1.size), HA.out.2.1.below hb1 HA.out.2.1.lt, HA.out.2.2.below hb1 HA.out.2.2.lt, rfl, World.ownsRow_nil _ _ _ _, ⟨own_base hrow (Nat.zero_le _), hN⟩⟩
  have HN := Lib.hid hN
  clear hP hrow hb1 hN hs
  go_wp2
  go_loopw [6] (fun i wr => ∃ (k m : Nat) (A : Option Addr) (c : Nat) (acc : List (Int × Int)), k ≤ N ∧ m ≤ k ∧ i = .int .i64 k ∧ Hid (RpInv w0 wr (.slice Al N cl) N P A m c acc) ∧ Hid (Sq.gather [] ((Sq.parts 44 s.data.toList).take k) = some acc)) (fun i _ => N - (intOf i).toNat)
  case atStart => exact ⟨0, 0, none, 0, [], Nat.zero_le _, Nat.zero_le _, rfl, HI1, Lib.hid rfl⟩
  case round =>
    obtain ⟨k, m, A, c, acc, hk, hmk, rfl, HI, HG⟩ := hrel
    have hr0 : w0.heap.size < wr.heap.size := HI.out.res.lt
    have hr1 : w0.heap.size + 1 < wr.heap.size := HI.out.box.lt
    by_cases hlt : k < N
    · have hkP : k < P.length := by rw [← HN.out]; exact hlt
      obtain ⟨g, c', e1, hg, k1⟩ := HI.out.strs.at k hkP
      obtain rfl : Al = some ⟨g, 0, none⟩ := by injection e1
      have hkF : k < (Sq.parts 44 s.data.toList).length := by rw [← HP.out, List.length_map]; exact hkP
      have hFk : (Sq.parts 44 s.data.toList)[k] = P[k].data.toList := by
        simp only [← HP.out, List.getElem_map]
      have hgt := gather_take _ k hkF acc HG.out
      rw [hFk] at hgt
      obtain ⟨q, Hq⟩ : ∃ q, Hid (q = P[k]) := ⟨_, Lib.hid rfl⟩
      have hqs := HSZ.out k hkP
      rw [← Hq.out] at k1 hgt hqs
      have HGT := Lib.hid hgt
      have HE : Hid (Sq.pspan q.data.toList = none → ∀ W', Below w0.heap.size w0 W' → RpEnd s.data.toList w0 (.returned (.tuple #[.agg #[.slice none 0 0], .int .i64 3])) W') := Lib.hid (fun hn W' hb => by
        have h1 : Sq.gather [] (Sq.parts 44 s.data.toList) = none := by
          conv => lhs; rw [← List.take_append_drop (k + 1) (Sq.parts 44 s.data.toList)]
          rw [gather_app, HGT.out, hn]
        have h2 : Sq.parse s.data.toList = ([], 3) := by unfold Sq.parse; rw [h1]; rfl
        unfold RpEnd
        rw [h2]
        exact ⟨_, rfl, SetAt.empty _, hb⟩)
      have HK1 : Hid (k1 = k1) := Lib.hid rfl
      clear hgt hFk hkF e1 HK1
      go_wp2_with fail
      refine (HCC.out q wr hqs).mono ?_
      rintro e w2 ⟨A2, m2, c2, P2, rfl, hm2, hP2, hrow2, hb2⟩
      have HI2 : Hid (RpInv w0 w2 (.slice (some ⟨g, 0, none⟩) N cl) N P A m c acc) := Lib.hid (HI.out.below hb2)
      have hpos : 0 < m2 := by
        rw [hm2, ← List.length_map (f := fun p : ByteArray => p.data.toList), hP2]
        exact List.length_pos_iff.2 (Sq.parts_ne 58 _)
      have c0 := HI2.out.res.cell 0 (.slice none 0 0) rfl
      have f0 := HI2.out.res.frozen 0
      have g0 : w0.heap.size < w2.heap.size := HI2.out.res.lt
      have hP2l : Hid (m2 = P2.length) := Lib.hid hm2
      by_cases h2 : 2 < m2
      · have hd : decide ((2 : Int) < (m2 : Int)) = true := by simp; omega
        have hno := pspan_more q.data.toList P2 hP2 (by omega)
        have key := HE.out hno (w2.setCell ⟨w0.heap.size, 0, none⟩ (.slice none 0 0)) (below_set HI2.out.bel (Nat.le_refl _) _ _)
        have KEY := Lib.hid key
        clear key hno hP2 hrow2 hb2 hm2 k1 h2
        go_wp2
        refine bodyPost_ret (rparse_ret _ _ w0.heap.size rfl _ _ rfl (HI2.out.res.set 0 _)) rfl KEY.out
      · have hd : decide ((2 : Int) < (m2 : Int)) = false := by simp; omega
        obtain ⟨t, ht⟩ : ∃ t, m2 = t + 1 := ⟨m2 - 1, by omega⟩
        have hfew := pspan_few q.data.toList P2 hP2 t (by omega) (by omega)
        have hsub : (m2 : Int) - 1 = (t : Int) := by omega
        have htm : t < m2 := by omega
        have ht1 : t ≤ 1 := by omega
        have hstr2 : StrRow w2 (.slice A2 m2 c2) m2 P2 := ⟨own_base hrow2 (Nat.zero_le _), hm2⟩
        obtain ⟨g2, c2', e2, hg2, z0⟩ := hstr2.at 0 (by omega)
        obtain ⟨g3, c3', e3, hg3, z1⟩ := hstr2.at t (by omega)
        obtain rfl : A2 = some ⟨g2, 0, none⟩ := by injection e2
        obtain rfl : g3 = g2 := by injection e3 with e3; injection e3 with e3; injection e3 with e3 _ _; exact e3.symm
        obtain ⟨x, Hx⟩ : ∃ x, Hid (x = P2[0]'(by omega)) := ⟨_, Lib.hid rfl⟩
        obtain ⟨y, Hy⟩ : ∃ y, Hid (y = P2[t]'(by omega)) := ⟨_, Lib.hid rfl⟩
        have hxs := part_size hP2 0 (by omega)
        have hys := part_size hP2 t (by omega)
        rw [← Hx.out] at z0 hfew hxs
        rw [← Hy.out] at z1 hfew hys
        obtain ⟨px, Hpx⟩ : ∃ p, Hid (Sq.pnum x.data.toList = p) := ⟨_, Lib.hid rfl⟩
        obtain ⟨py, Hpy⟩ : ∃ p, Hid (Sq.pnum y.data.toList = p) := ⟨_, Lib.hid rfl⟩
        rw [Hpx.out, Hpy.out] at hfew
        have HFEW := Lib.hid hfew
        have HOX := Lib.hid (HO.out x w2 (by omega) px Hpx.out)
        have HOY := Lib.hid (HO.out y w2 (by omega) py Hpy.out)
        have HT := Lib.hid ht
        clear Hx Hy hP2l hfew hP2 hrow2 hb2 hstr2 e2 e3 k1 h2 hxs hys
        clear ht hm2
        go_wp2_with fail
        refine HOX.out.mono ?_
        rintro e w3 ⟨⟨nx, rfl, hnx⟩, rfl⟩
        have HNX := Lib.hid hnx
        clear hnx
        go_wp2_with fail
        refine HOY.out.mono ?_
        rintro e w4 ⟨⟨ny, rfl, hny⟩, rfl⟩
        have HNY := Lib.hid hny
        clear hny z0 z1
        have HEN : Hid (px.isSome = false ∨ py.isSome = false → RpEnd s.data.toList w0 (.returned (.tuple #[.agg #[.slice none 0 0], .int .i64 3])) (w4.setCell ⟨w0.heap.size, 0, none⟩ (.slice none 0 0))) := Lib.hid (fun h => HE.out (by
          rw [HFEW.out]
          rcases h with h | h
          · cases px with
            | none => cases py <;> rfl
            | some v => cases h
          · cases py with
            | none => cases px <;> rfl
            | some v => cases h) _ (below_set HI2.out.bel (Nat.le_refl _) _ _))
        cases hpx : px.isSome with
        | false =>
          have KEY := Lib.hid (HEN.out (.inl hpx))
          clear HEN hpx
          go_wp2
          refine bodyPost_ret (rparse_ret _ _ w0.heap.size rfl _ _ rfl (HI2.out.res.set 0 _)) rfl KEY.out
        | true =>
          cases hpy : py.isSome with
          | false =>
            have KEY := Lib.hid (HEN.out (.inr hpy))
            clear HEN hpx hpy
            go_wp2
            refine bodyPost_ret (rparse_ret _ _ w0.heap.size rfl _ _ rfl (HI2.out.res.set 0 _)) rfl KEY.out
          | true =>
            obtain ⟨vx, hvx⟩ := Option.isSome_iff_exists.1 hpx
            obtain ⟨vy, hvy⟩ := Option.isSome_iff_exists.1 hpy
            obtain rfl := HNX.out vx hvx
            obtain rfl := HNY.out vy hvy
            have HG2 : Hid (Sq.gather [] ((Sq.parts 44 s.data.toList).take (k + 1)) = some (acc ++ [(nx, ny)])) := Lib.hid (by rw [HGT.out, HFEW.out, hvx, hvy]; rfl)
            obtain ⟨v', w5, hr, h51, h52, h53, A5, c5, rfl⟩ := span_app w4 35 35 65 Tryd.infoSpanR Tryd.underlying35 w0.heap.size _ acc m HI2.out.len HI2.out.row nx ny (by omega) HI2.out.bel.size
            have HR5 := Lib.hid hr
            have HI5 := Lib.hid (HI2.out.more h51 h52 h53)
            have hbox5 : Blk w5 (w0.heap.size + 1) 37 #[.slice A m c] := ((HI2.out.box.alloc _)).grown h52 (HI2.out.box.apart (by decide) HI2.out.row)
            have b0 := HI2.out.box.cell 0 (.slice A m c) rfl
            have b5 := hbox5.cell 0 (.slice A m c) rfl
            have bf5 := hbox5.frozen 0
            clear hr h51 h52 h53 hvx hvy hpx hpy HEN c0 f0
            go_wp2_with (at_builtin; refine wpList_append_run rfl _ _ 35 rfl _ _ _ rfl rfl _ _ (by exact HR5.out) ?_)
            go_roundw
            case rel => exact ⟨k + 1, m + 1, A5, c5, acc ++ [(nx, ny)], by omega, by omega, by go_num, HI5, HG2⟩
            case measure => simp [intOf]; omega
    · obtain rfl : k = N := by omega
      have hall : Sq.gather [] (Sq.parts 44 s.data.toList) = some acc := by
        have := HG.out
        rwa [List.take_of_length_le (by rw [← HP.out, List.length_map, ← HN.out]; exact Nat.le_refl _)] at this
      have c0 := HI.out.res.cell 0 (.slice none 0 0) rfl
      have f0 := HI.out.res.frozen 0
      have b0 := HI.out.box.cell 0 (.slice A m c) rfl
      by_cases h100 : 100 < m
      · have hd : decide ((100 : Int) < (m : Int)) = true := by simp; omega
        have hP : Sq.parse s.data.toList = ([], 2) := by
          unfold Sq.parse Sq.ended
          rw [hall]
          simp only
          rw [if_pos (by rw [← HI.out.len]; exact h100)]
        have key : RpEnd s.data.toList w0 (.returned (.tuple #[.agg #[.slice none 0 0], .int .i64 2])) (wr.setCell ⟨w0.heap.size, 0, none⟩ (.slice none 0 0)) := by
          unfold RpEnd
          rw [hP]
          exact ⟨_, rfl, SetAt.empty _, below_set HI.out.bel (Nat.le_refl _) _ _⟩
        have KEY := Lib.hid key
        clear key hP hall h100
        go_wp2
        refine bodyPost_ret (rparse_ret _ _ w0.heap.size rfl _ _ rfl (HI.out.res.set 0 _)) rfl KEY.out
      · have hd : decide ((100 : Int) < (m : Int)) = false := by simp; omega
        have hP : Sq.parse s.data.toList = (acc, 0) := by
          unfold Sq.parse Sq.ended
          rw [hall]
          simp only
          rw [if_neg (by rw [← HI.out.len]; exact h100)]
        have key : RpEnd s.data.toList w0 (.returned (.tuple #[.agg #[.slice A m c], .int .i64 0])) (wr.setCell ⟨w0.heap.size, 0, none⟩ (.slice A m c)) := by
          unfold RpEnd
          rw [hP]
          refine ⟨_, rfl, ?_, below_set HI.out.bel (Nat.le_refl _) _ _⟩
          have := row_set HI.out.row (HI.out.res.apart (by decide) HI.out.row) (i := 0) (.slice A m c)
          rw [HI.out.len] at this ⊢
          exact SetAt.own this
        have KEY := Lib.hid key
        clear key hP hall h100
        go_wp2
        refine bodyPost_ret (rparse_ret _ _ w0.heap.size rfl _ _ rfl (HI.out.res.set 0 _)) rfl KEY.out
end Go.Proofs.YtmcglecdidnhlaaDoor

namespace Go.Proofs.YtmcglecdidnhlaaDoor
open Go.RowKit
set_option linter.unusedVariables false
set_option maxRecDepth 100000

set_option maxHeartbeats 6400000 in
theorem rpick_any (A : Option Addr) (m c : Nat) (L : List (Int × Int)) (A2 : Option Addr) (n c2 : Nat) (l : List Int) (w : World) (hm : m = L.length) (hmx : m ≤ maxLen) (hn : n = l.length) (hnx : n ≤ 60) (hp : Pairs w w.heap.size A L) (hp2 : Ints w w.heap.size A2 l) :
    Calls Tryd.prog 20 #[.agg #[.slice A m c], .slice A2 n c2] w (ListEnd (Sq.pick L l) w) := by
  subst hm hn
  obtain ⟨w0, rfl⟩ : ∃ w0, w0 = w := ⟨_, rfl⟩
  have HH := Lib.hid (fun W (hb : Below w0.heap.size w0 W) (x last : Int) => rhas_any A L.length c L x last W rfl hmx ((hp.below hb (Nat.le_refl _)).mono hb.size) _ rfl)
  have H0 : Hid (Below w0.heap.size w0 (w0.alloc (.cells #[.slice A L.length c] 37)) ∧ Blk (w0.alloc (.cells #[.slice A L.length c] 37)) w0.heap.size 37 #[.slice A L.length c]) := Lib.hid ⟨(Below.refl _ _).alloc (Nat.le_refl _) _, Blk.new w0 _ _⟩
  have HP2 := Lib.hid hp2
  clear hp hmx
  by_cases h0 : l.length = 0
  · have hl0 : l = [] := List.eq_nil_of_length_eq_zero h0
    have HK : Hid (∀ w', Below w0.heap.size w0 w' → ListEnd (Sq.pick L l) w0 (.returned (.slice none 0 0)) w') := Lib.hid (fun w' hb => by
      have : Sq.pick L l = [] := by rw [hl0]; unfold Sq.pick; split <;> rfl
      rw [this]; exact ListEnd.nil hb)
    have h1 : ((l.length : Int) == 0) = true := by simp; exact hl0
    clear hl0 h0 hp2
    go_enter Tryd.func20, Tryd.ntmps20
    go_wp2
    go_ret
    exact HK.out _ H0.out.1
  · have hl0 : l ≠ [] := fun e => h0 (by rw [e]; rfl)
    have h1 : ((l.length : Int) == 0) = false := by simpa using hl0
    have hpos : 0 < l.length := by omega
    obtain ⟨g, o, rfl, hg, hc⟩ := hp2 hl0
    have HC : Hid (∀ j (h : j < l.length), (w0.alloc (.cells #[.slice A L.length c] 37)).cell? ⟨g, o + j, none⟩ = some (.int .i64 l[j])) := Lib.hid (fun j hj => (H0.out.1.cell (p := ⟨g, o + j, none⟩) hg).trans (hc j hj))
    have c00 : w0.cell? ⟨g, o, none⟩ = some (.int .i64 l[0]) := hc 0 hpos
    have HH0 : Hid (l.headD 0 = l[0]) := Lib.hid (by cases l with | nil => simp at hpos | cons x t => rfl)
    obtain ⟨x0, Hx0⟩ : ∃ x, Hid (x = l[0]) := ⟨_, Lib.hid rfl⟩
    rw [← Hx0.out] at c00
    have HS : Hid ((l.take 1).foldl max x0 = x0) := Lib.hid (by
      rw [List.take_succ_eq_append_getElem hpos, ← Hx0.out]
      simp)
    have HS0 : Hid (x0 = (l.take 1).foldl max x0) := Lib.hid HS.out.symm
    clear hl0 h0 hc
    go_enter Tryd.func20, Tryd.ntmps20
    go_wp2
    obtain ⟨wx, Hwx⟩ : ∃ wx, Hid (wx = w0.alloc (.cells #[.slice A L.length c] 37)) := ⟨_, Lib.hid rfl⟩
    rw [← Hwx.out] at H0 HC ⊢
    clear c00
    go_loop [6, 7] (fun z i => ∃ (k : Nat) (q : Int), k ≤ l.length ∧ z = .int .i64 q ∧ i = .int .i64 k ∧ Hid (q = (l.take (max k 1)).foldl max x0)) (fun _ i => l.length - (intOf i).toNat)
    case atStart => exact ⟨0, x0, Nat.zero_le _, rfl, rfl, HS0⟩
    case round =>
      obtain ⟨k, q, hk, rfl, rfl, HQ⟩ := hrel
      by_cases hlt : k < l.length
      · have ck := HC.out k hlt
        have hf : (l.take (max (k + 1) 1)).foldl max x0 = max q l[k] := by
          rw [show max (k + 1) 1 = k + 1 by omega]
          by_cases hk0 : k = 0
          · subst hk0
            rw [HS.out, ← Hx0.out]
            have : q = x0 := by rw [HQ.out]; exact HS.out
            rw [this]; omega
          · rw [List.take_succ_eq_append_getElem hlt, List.foldl_append, HQ.out, show max k 1 = k by omega]; rfl
        obtain ⟨x, Hx⟩ : ∃ x, Hid (x = l[k]) := ⟨_, Lib.hid rfl⟩
        rw [← Hx.out] at ck hf
        by_cases hgt : q < x
        · have hd : decide (q < x) = true := by simpa using hgt
          have HF : Hid (x = (l.take (max (k + 1) 1)).foldl max x0) := Lib.hid (by rw [hf]; omega)
          clear hf hgt
          go_wp2
          go_round
          case rel => exact ⟨k + 1, x, by omega, rfl, by go_num, HF⟩
          case measure => simp [intOf]; omega
        · have hd : decide (q < x) = false := by simpa using hgt
          have HF : Hid (q = (l.take (max (k + 1) 1)).foldl max x0) := Lib.hid (by rw [hf]; omega)
          clear hf hgt
          go_wp2
          go_round
          case rel => exact ⟨k + 1, q, by omega, rfl, by go_num, HF⟩
          case measure => simp [intOf]; omega
      · obtain rfl : k = l.length := by omega
        have HF : Hid (q = Lib.maxOf l) := Lib.hid (by
          rw [HQ.out, show max l.length 1 = l.length by omega, List.take_length]; unfold Lib.maxOf; rw [HH0.out, ← Hx0.out])
        have hpick : Sq.pick L l = l.filter fun n => Sq.has L n q := by
          unfold Sq.pick
          rw [← HF.out]
          split
          · rename_i hv
            congr 1
            funext n
            unfold Sq.has
            rw [hv, Bool.true_and]
          · rename_i hv
            have : (fun n => Sq.has L n q) = fun _ => false := by
              funext n
              unfold Sq.has
              rw [Bool.eq_false_iff.2 hv]; rfl
            rw [this]; simp
        have HK := Lib.hid hpick
        clear hpick
        go_wp2
        go_loopw [5, 8] (fun b i wr => ∃ (k : Nat) (Ab : Option Addr) (cb : Nat) (r : List Int), k ≤ l.length ∧ b = .slice Ab r.length cb ∧ i = .int .i64 k ∧ r.length ≤ k ∧ Hid (r = (l.take k).filter fun n => Sq.has L n q) ∧ Hid (wr.ownsRow wx.heap.size 2 1 (.slice Ab r.length cb) r.length (li r) ∧ Below wx.heap.size wx wr)) (fun _ i _ => l.length - (intOf i).toNat)
        case atStart => exact ⟨0, none, 0, [], Nat.zero_le _, rfl, rfl, Nat.zero_le _, Lib.hid rfl, Lib.hid ⟨World.ownsRow_nil _ _ _ _, Below.refl _ _⟩⟩
        case round =>
          obtain ⟨k, Ab, cb, r, hk, rfl, rfl, hrk, HQ2, HR⟩ := hrel
          have HBR : Hid (Below w0.heap.size w0 wr) := Lib.hid (H0.out.1.trans (HR.out.2.mono H0.out.1.size))
          by_cases hlt : k < l.length
          · have hwz := HBR.out.size
            have k1 := (HR.out.2.cell (p := ⟨g, o + k, none⟩) (by have := H0.out.1.size; show g < wx.heap.size; omega)).trans (HC.out k hlt)
            have hgw : g < wr.heap.size := by omega
            have c0 := (H0.out.2.below HR.out.2 H0.out.2.lt).cell 0 (.slice A L.length c) rfl
            have hso : (l.take (k + 1)).filter (fun n => Sq.has L n q) = r ++ (if Sq.has L l[k] q then [l[k]] else []) := by
              rw [List.take_succ_eq_append_getElem hlt, List.filter_append, HQ2.out]
              congr 1
              cases h : Sq.has L l[k] q <;> simp [h]
            obtain ⟨x, Hx⟩ : ∃ x, Hid (x = l[k]) := ⟨_, Lib.hid rfl⟩
            rw [← Hx.out] at k1 hso
            have HSO := Lib.hid hso
            have HHx := fun W (hb : Below w0.heap.size w0 W) => HH.out W hb x q
            obtain ⟨hv, Hhv⟩ : ∃ y, Hid (y = Sq.has L x q) := ⟨_, Lib.hid rfl⟩
            rw [← Hhv.out] at HHx
            have HHX := Lib.hid HHx
            have i1 : (k : Int) < (l.length : Int) := by omega
            have i2 : (0 : Int) ≤ (k : Int) := by omega
            clear hso HHx
            go_wp2
            go_still_tail 6, (by kernel_rfl)
            go_wp2_with fail
            refine (HHX.out _ HBR.out.drew).mono ?_
            rintro e w3 ⟨rfl, hb3⟩
            have HR3 : Hid (w3.ownsRow wx.heap.size 2 1 (.slice Ab r.length cb) r.length (li r) ∧ Below wx.heap.size wx w3) := Lib.hid ⟨own_below (w := wr.drew) HR.out.1 hb3 (Nat.le_refl _), HR.out.2.drew.trans (hb3.mono HR.out.2.size)⟩
            have k3 := (HR3.out.2.cell (p := ⟨g, o + k, none⟩) (by have := H0.out.1.size; show g < wx.heap.size; omega)).trans (HC.out k hlt)
            rw [← Hx.out] at k3
            have hg3 : g < w3.heap.size := by have := HR3.out.2.size; have := H0.out.1.size; omega
            clear hb3 k1 c0
            cases hv with
            | true =>
              have HN : Hid ((l.take (k + 1)).filter (fun n => Sq.has L n q) = r ++ [x]) := Lib.hid (by rw [HSO.out, if_pos Hhv.out.symm])
              obtain ⟨v', w4, hr, h31, h32, h33, A3, c3, rfl⟩ := int_app w3 30 wx.heap.size _ r r.length rfl HR3.out.1 x (by omega) HR3.out.2.size
              have HRUN := Lib.hid hr
              have e3 : (r ++ [x]).length = r.length + 1 := by simp
              have HW3 : Hid (w4.ownsRow wx.heap.size 2 1 (.slice A3 (r ++ [x]).length c3) (r ++ [x]).length (li (r ++ [x])) ∧ Below wx.heap.size wx w4) := Lib.hid ⟨by rw [e3]; exact h31, HR3.out.2.trans h33⟩
              clear hr h31 h32 h33 e3
              go_wp2_with (at_builtin; refine wpList_append_run rfl _ _ 30 rfl _ _ _ rfl rfl _ _ (by exact HRUN.out) ?_)
              go_roundw
              case rel => exact ⟨k + 1, A3, c3, r ++ [x], by omega, by simp, by go_num, by simp; omega, Lib.hid HN.out.symm, HW3⟩
              case measure => simp [intOf]; omega
            | false =>
              have HN : Hid ((l.take (k + 1)).filter (fun n => Sq.has L n q) = r) := Lib.hid (by rw [HSO.out, if_neg (by rw [← Hhv.out]; decide)]; simp)
              go_wp2
              go_roundw
              case rel => exact ⟨k + 1, Ab, cb, r, by omega, rfl, by go_num, by omega, Lib.hid HN.out.symm, HR3⟩
              case measure => simp [intOf]; omega
          · obtain rfl : k = l.length := by omega
            have key : ListEnd (Sq.pick L l) w0 (.returned (.slice Ab r.length cb)) wr := by
              rw [HK.out]
              have hq : r = l.filter fun n => Sq.has L n q := by rw [HQ2.out, List.take_length]
              rw [← hq]
              exact ListEnd.own HR.out.1 rfl HBR.out
            have KEY := Lib.hid key
            clear key
            go_wp2
            go_ret
            exact KEY.out
end Go.Proofs.YtmcglecdidnhlaaDoor
