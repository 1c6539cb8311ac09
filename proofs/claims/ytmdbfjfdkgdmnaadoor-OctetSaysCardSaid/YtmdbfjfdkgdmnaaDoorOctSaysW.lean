/- The walk of OctetSays. -/
import Derived.Test.YtmdbfjfdkgdmnaaDoorOctNStr
import Derived.Test.YtmdbfjfdkgdmnaaDoorRefL
import Derived.WalkSpells
import Derived.Deep.QuietTactic
import Derived.BigQuiet
import Derived.IntWalk
namespace Go.Proofs.YtmdbfjfdkgdmnaaDoor
open Go.RowKit

theorem quote_pair (s q : ByteArray) (b : Bool) (w : World) (hs : s.size ≤ maxLen) (hb : b = Oct.quotable s.data.toList) (hq : q = if b then ⟨(Oct.quoted s.data.toList).toArray⟩ else ⟨#[]⟩) :
    Calls Tryd.prog 6 #[.string s] w fun e w' => e = .returned (.tuple #[.string q, .bool b]) ∧ Below w.heap.size w w' := by
  cases b with
  | true => exact quote_ok s q w (quotable_size s hb.symm) hb.symm hq
  | false => subst hq; exact quote_no s w hs hb.symm
theorem rquote_pair (s q : ByteArray) (b : Bool) (w : World) (hs : s.size ≤ maxLen) (hb : b = Oct.quotable s.data.toList) (hq : q = if b then ⟨(Oct.quoted s.data.toList).toArray⟩ else ⟨#[]⟩) :
    Calls Tryd.prog 13 #[.string s] w fun e w' => e = .returned (.tuple #[.string q, .bool b]) ∧ Below w.heap.size w w' := by
  cases b with
  | true => exact rquote_ok s q w (quotable_size s hb.symm) hb.symm hq
  | false => subst hq; exact rquote_no s w hs hb.symm
theorem runquote_ok (s t : ByteArray) (n e : Nat) (w : World) (hs : s.size ≤ 140737488351232) (h : Oct.unquote s.data.toList = (t.data.toList, n, e)) :
    Calls Tryd.prog 14 #[.string s] w fun x w' => x = .returned (.tuple #[.string t, .int .i64 (n : Int), .int .i64 (e : Int)]) ∧ Below w.heap.size w w' := by
  refine (runquote_any s w hs).mono ?_
  rintro x w' ⟨he, hb⟩
  rw [h] at he
  exact ⟨he, hb⟩
theorem num_ok (s : ByteArray) (n : Int) (b : Bool) (w : World) (hs : s.size ≤ maxLen) (h : numVal s.data.toList = .tuple #[.int .i64 n, .bool b]) :
    Calls Tryd.prog 9 #[.string s] w fun x w' => x = .returned (.tuple #[.int .i64 n, .bool b]) ∧ w = w' := by
  refine (num_any s w hs).mono ?_
  rintro x w' ⟨he, hb⟩
  rw [h] at he
  exact ⟨he, hb⟩
theorem rnum_ok (s : ByteArray) (n : Int) (b : Bool) (w : World) (hs : s.size ≤ maxLen) (h : numVal s.data.toList = .tuple #[.int .i64 n, .bool b]) :
    Calls Tryd.prog 15 #[.string s] w fun x w' => x = .returned (.tuple #[.int .i64 n, .bool b]) ∧ w = w' := by
  refine (rnum_any s w hs).mono ?_
  rintro x w' ⟨he, hb⟩
  rw [h] at he
  exact ⟨he, hb⟩
theorem numVal_form (l : List UInt8) : ∃ (n : Int) (b : Bool), numVal l = .tuple #[.int .i64 n, .bool b] := by
  cases h : Oct.numOk l with
  | true => exact ⟨_, _, numVal_yes l h⟩
  | false => exact ⟨_, _, numVal_no l h⟩
theorem same_ok (a b : ByteArray) (r : Bool) (w : World) (ha : a.size ≤ maxLen) (hb : b.size ≤ maxLen) (h : (Oct.fold a.data.toList == Oct.fold b.data.toList) = r) :
    Calls Tryd.prog 12 #[.string a, .string b] w fun e w' => e = .returned (.bool r) ∧ Below w.heap.size w w' := by
  refine (same_any a b w ha hb).mono ?_
  rintro x w' ⟨he, hb⟩
  rw [h] at he
  exact ⟨he, hb⟩
theorem rsame_ok (a b : ByteArray) (r : Bool) (w : World) (ha : a.size ≤ maxLen) (hb : b.size ≤ maxLen) (h : (Oct.fold a.data.toList == Oct.fold b.data.toList) = r) :
    Calls Tryd.prog 19 #[.string a, .string b] w fun e w' => e = .returned (.bool r) ∧ Below w.heap.size w w' := by
  refine (rsame_any a b w ha hb).mono ?_
  rintro x w' ⟨he, hb⟩
  rw [h] at he
  exact ⟨he, hb⟩
theorem rfold_ok (s t : ByteArray) (w : World) (hs : s.size ≤ maxLen) (h : t = ⟨(Oct.fold s.data.toList).toArray⟩) :
    Calls Tryd.prog 18 #[.string s] w fun e w' => e = .returned (.string t) ∧ Below w.heap.size w w' := by
  subst h
  exact rfold_any s w hs

set_option maxHeartbeats 1600000 in
set_option maxRecDepth 1000000 in
theorem octetSays_walk (s : ByteArray) (hs : s.size ≤ maxLen) (t : ByteArray) (ht : t.size ≤ maxLen) (w : World) (hm : ∃ m, w.cell? ⟨0, 0, none⟩ = some (.int .i64 m)) (htab : Lib.TabIs Tryd.prog w "internal/strconv.uint64pow10" .u64 Lib.pow10Tab) :
    Calls Tryd.prog 4 #[.string s, .string t] w fun e w' => e = .returned (.bool true) ∧ Below w.heap.size w w' := by
  obtain ⟨m, hm⟩ := hm
  have hlen : s.data.toList.length = s.size := rfl
  unfold maxLen at hs ht
  have HM := Lib.hid hm
  have HT := Lib.hid htab
  have hmg := World.block_lt_of_cell? w _ hm
  clear hm htab
  by_cases hb0 : 9000 < (s.size : Int)
  · go_enter Tryd.func4, Tryd.ntmps4
    go_wp2_with (go_at_call 5; refine (awake_any _).mono ?_; rintro e w1 ⟨rfl, hb1⟩)
    go_ret
    exact ⟨rfl, hb1⟩
  · by_cases hb1 : 300 < (t.size : Int)
    · go_enter Tryd.func4, Tryd.ntmps4
      go_wp2_with (go_at_call 5; refine (awake_any _).mono ?_; rintro e w1 ⟨rfl, hb1⟩)
      go_ret
      exact ⟨rfl, hb1⟩
    · obtain ⟨qb, Hqb⟩ : ∃ b, Hid (b = Oct.quotable s.data.toList) := ⟨_, Lib.hid rfl⟩
      obtain ⟨q, Hq⟩ : ∃ q : ByteArray, Hid (q = if qb then ⟨(Oct.quoted s.data.toList).toArray⟩ else ⟨#[]⟩) := ⟨_, Lib.hid rfl⟩
      obtain ⟨ut, un, ue, HU⟩ : ∃ (ut : ByteArray) (un ue : Nat), Hid (Oct.unquote s.data.toList = (ut.data.toList, un, ue)) := ⟨⟨(Oct.unquote s.data.toList).1.toArray⟩, (Oct.unquote s.data.toList).2.1, (Oct.unquote s.data.toList).2.2, Lib.hid (by simp)⟩
      obtain ⟨nn, nb, hn⟩ := numVal_form s.data.toList
      have HN := Lib.hid hn
      clear hn
      obtain ⟨ls, HLS⟩ : ∃ ls : List (List UInt8), Hid (ls = Oct.lines s.data.toList) := ⟨_, Lib.hid rfl⟩
      have hls1 : ls.length ≤ s.size := by rw [HLS.out]; exact lines_le _
      obtain ⟨fb, HFB⟩ : ∃ fb : ByteArray, Hid (fb = ⟨(Oct.fold s.data.toList).toArray⟩) := ⟨_, Lib.hid rfl⟩
      obtain ⟨sm, HSM⟩ : ∃ sm : Bool, Hid ((Oct.fold s.data.toList == Oct.fold t.data.toList) = sm) := ⟨_, Lib.hid rfl⟩
      obtain ⟨at_, HAT⟩ : ∃ at_ : Bool, Hid (Oct.atom s.data.toList = at_) := ⟨_, Lib.hid rfl⟩
      obtain ⟨ns, HNS⟩ : ∃ ns : ByteArray, Hid (ns = ⟨(Oct.nstring s.data.toList).toArray⟩) := ⟨_, Lib.hid rfl⟩
      have Hms : Hid (s.size ≤ maxLen) := Lib.hid (by unfold maxLen; omega)
      have Hmt : Hid (t.size ≤ maxLen) := Lib.hid (by unfold maxLen; omega)
      go_enter Tryd.func4, Tryd.ntmps4
      go_wp2_with fail
      refine (awake_any _).mono ?_
      rintro e w1 ⟨rfl, hb1⟩
      go_wp2_with fail
      refine (quote_pair s q qb _ Hms.out Hqb.out Hq.out).mono ?_
      rintro e w2 ⟨rfl, hb2⟩
      go_wp2_with fail
      refine (rquote_pair s q qb _ Hms.out Hqb.out Hq.out).mono ?_
      rintro e w3 ⟨rfl, hb3⟩
      go_wp2_with fail
      refine (unquote_ok s ut un ue _ (by omega) HU.out).mono ?_
      rintro e w4 ⟨rfl, hb4⟩
      go_wp2_with fail
      refine (runquote_ok s ut un ue _ (by omega) HU.out).mono ?_
      rintro e w5 ⟨rfl, hb5⟩
      go_wp2_with fail
      refine (num_ok s nn nb _ Hms.out HN.out).mono ?_
      rintro e w6 ⟨rfl, rfl⟩
      go_wp2_with fail
      refine (rnum_ok s nn nb _ Hms.out HN.out).mono ?_
      rintro e w6 ⟨rfl, rfl⟩
      have hb05 : Below w.heap.size w w5 := hb1.trans ((hb2.mono hb1.size).trans ((hb3.mono (Nat.le_trans hb1.size hb2.size)).trans ((hb4.mono (Nat.le_trans hb1.size (Nat.le_trans hb2.size hb3.size))).trans (hb5.mono (Nat.le_trans hb1.size (Nat.le_trans hb2.size (Nat.le_trans hb3.size hb4.size)))))))
      clear hb1 hb2 hb3 hb4 hb5
      obtain ⟨cap, w6, hrun, hrow, hb6, hz6, hcap1, hcap2⟩ := run_bytes_row (P := Tryd.prog) w5 9 30 5 s Tryd.underlying9 Tryd.underlying30 Tryd.underlying5
      have hb06 : Below w.heap.size w w6 := hb05.trans (hb6.mono hb05.size)
      have HM6 := Lib.hid ((hb06.cell (p := ⟨0, 0, none⟩) hmg).trans HM.out)
      have hs6 : Sees w6 w6.heap.size (some ⟨w5.heap.size, 0, none⟩) s.data.toList := hrow.sees.mono (by omega)
      have hlines : Calls Tryd.prog 8 #[.slice (some ⟨w5.heap.size, 0, none⟩) s.size cap] w6 (ViewsEnd (Oct.lines s.data.toList) w6) := lines_views _ cap s.data.toList m w6 hs6 hcap1 (by omega) HM6.out (hcap2 Hms.out)
      rw [← HLS.out] at hlines
      have HLI := Lib.hid hlines
      clear hrow hz6 hcap2 hlines
      go_wp2_with fail
      refine HLI.out.mono ?_
      rintro e w7 ⟨v7, vs, rfl, hown7, hviews7, hb7⟩
      obtain ⟨A7, c7, rfl, hc7, hc7m⟩ := own_shape hown7
      clear HLI hrun
      have hb07 : Below w.heap.size w w7 := hb06.trans (hb7.mono hb06.size)
      obtain ⟨cap8, w8, hrun8, hrow8, hb8, hz8, hcap81, hcap82⟩ := run_bytes_row (P := Tryd.prog) w7 9 30 5 s Tryd.underlying9 Tryd.underlying30 Tryd.underlying5
      have hs8 : Sees w8 w8.heap.size (some ⟨w7.heap.size, 0, none⟩) s.data.toList := hrow8.sees.mono (by omega)
      have hlines8 : Calls Tryd.prog 16 #[.slice (some ⟨w7.heap.size, 0, none⟩) s.size cap8] w8 (ViewsEnd (Oct.lines s.data.toList) w8) := rlines_any _ cap8 s.data.toList w8 hs8 hcap81 (by omega) (hcap82 Hms.out)
      rw [← HLS.out] at hlines8
      have HLI := Lib.hid hlines8
      clear hrow8 hz8 hcap82 hlines8 hs8 hs6
      go_wp2_with fail
      refine HLI.out.mono ?_
      rintro e w9 ⟨v9, vs9, rfl, hown9, hviews9, hb9⟩
      obtain ⟨A9, c9, rfl, hc9, hc9m⟩ := own_shape hown9
      clear HLI hrun8
      have hb79 : Below w7.heap.size w7 w9 := hb8.trans (hb9.mono hb8.size)
      have hown79 := own_below hown7 hb79 (Nat.le_refl _)
      have hviews79 := hviews7.below hb79 (Nat.le_refl _)
      have hb09 : Below w.heap.size w w9 := hb07.trans (hb79.mono hb07.size)
      clear hb6 hb7 hb8 hb9 hown7 hviews7
      go_wp2_with fail
      go_loopw [21] (fun i wr => ∃ k : Nat, k ≤ ls.length ∧ i = .int .i64 k ∧ wr.ownsRow w6.heap.size 30 1 (.slice A7 ls.length c7) ls.length vs ∧ wr.ownsRow w8.heap.size 30 1 (.slice A9 ls.length c9) ls.length vs9 ∧
          Views wr w7.heap.size vs ls ∧ Views wr w9.heap.size vs9 ls ∧ Below w.heap.size w wr) (fun i _ => ls.length - (intOf i).toNat)
      case atStart => exact ⟨0, Nat.zero_le _, rfl, hown79, hown9, hviews79, hviews9, hb09⟩
      case round =>
        obtain ⟨k, hk, rfl, ho7, ho9, hv7, hv9, hb⟩ := hrel
        by_cases hlt : k < ls.length
        · obtain ⟨g7, cp7, e7, _, _, _, _⟩ := own_form ho7 (by omega)
          injection e7 with hA7 _ hC7
          subst hA7 hC7
          obtain ⟨g9, cp9, e9, _, _, _, _⟩ := own_form ho9 (by omega)
          injection e9 with hA9 _ hC9
          subst hA9 hC9
          have hk7 : k < vs.length := by rw [hv7.1]; exact hlt
          have hk9 : k < vs9.length := by rw [hv9.1]; exact hlt
          have hcell7 := ho7.cells (g := g7) rfl k vs[k] (List.getElem?_eq_getElem hk7)
          have hcell9 := ho9.cells (g := g9) rfl k vs9[k] (List.getElem?_eq_getElem hk9)
          rw [add_to, Nat.zero_add] at hcell7 hcell9
          obtain ⟨A1, d1, f1, f2, f3, f4⟩ := hv7.2 k vs[k] ls[k] (List.getElem?_eq_getElem hk7) (List.getElem?_eq_getElem hlt)
          obtain ⟨A2, d2, g1, g2, g3, g4⟩ := hv9.2 k vs9[k] ls[k] (List.getElem?_eq_getElem hk9) (List.getElem?_eq_getElem hlt)
          rw [f1] at hcell7
          rw [g1] at hcell9
          have hconv1 := fun q => run_sees_string (P := Tryd.prog) (wr.drewN q) 30 9 5 Tryd.underlying30 Tryd.underlying5 Tryd.underlying9 (Sees.drewN f4 q) ls[k].length d1 rfl
          have hconv2 := fun q => run_sees_string (P := Tryd.prog) (wr.drewN q) 30 9 5 Tryd.underlying30 Tryd.underlying5 Tryd.underlying9 (Sees.drewN g4 q) ls[k].length d2 rfl
          obtain ⟨lk, HLK⟩ : ∃ lk : List UInt8, Hid (lk = ls[k]) := ⟨_, Lib.hid rfl⟩
          rw [← HLK.out] at hcell7 hcell9 hconv1 hconv2
          have hrel' : ∀ q, (wr.drewN q).ownsRow w6.heap.size 30 1 (.slice (some ⟨g7, 0, none⟩) ls.length c7) ls.length vs ∧ (wr.drewN q).ownsRow w8.heap.size 30 1 (.slice (some ⟨g9, 0, none⟩) ls.length c9) ls.length vs9 ∧ Views (wr.drewN q) w7.heap.size vs ls ∧ Views (wr.drewN q) w9.heap.size vs9 ls ∧ Below w.heap.size w (wr.drewN q) := fun q => ⟨ho7, ho9, hv7, hv9, below_drewN hb q⟩
          have HR := Lib.hid hrel'
          clear hrel' ho7 ho9 hv7 hv9 hb f1 f2 f3 f4 g1 g2 g3 g4
          go_wp2
          go_quiet (fail)
          go_wp2
          go_roundw
          case rel => exact ⟨k + 1, by omega, by go_num, HR.out _⟩
          case measure => simp [intOf]; omega
        · have z := hb.size
          clear ho7 ho9 hv7 hv9
          go_wp2_with fail
          refine (fold_ok s fb _ Hms.out HFB.out).mono ?_
          rintro e x1 ⟨rfl, k1⟩
          go_wp2_with fail
          refine (rfold_ok s fb _ Hms.out HFB.out).mono ?_
          rintro e x2 ⟨rfl, k2⟩
          go_wp2_with fail
          refine (same_ok s t sm _ Hms.out Hmt.out HSM.out).mono ?_
          rintro e x3 ⟨rfl, k3⟩
          go_wp2_with fail
          refine (rsame_ok s t sm _ Hms.out Hmt.out HSM.out).mono ?_
          rintro e x4 ⟨rfl, k4⟩
          go_wp2_with fail
          refine (atom_any s at_ HAT.out _ Hms.out).mono ?_
          rintro e x5 ⟨rfl, rfl⟩
          go_wp2_with fail
          refine (ratom_any s at_ HAT.out _ Hms.out).mono ?_
          rintro e x5 ⟨rfl, rfl⟩
          go_wp2_with fail
          have z1 := k1.size
          have z2 := k2.size
          have z3 := k3.size
          have z4 := k4.size
          have hb4 : Below w.heap.size w x4 := hb.trans ((k1.mono z).trans ((k2.mono (by omega)).trans ((k3.mono (by omega)).trans (k4.mono (by omega)))))
          have hgl : Tryd.prog.globalNamed "internal/strconv.uint64pow10" = some 1 := by kernel_rfl
          have HT4 := Lib.hid (tab_below HT.out hb4 hgl)
          clear hgl k1 k2 k3 k4
          refine (nstring_any s ns _ (by omega) HNS.out HT4.out).mono ?_
          rintro e x5 ⟨rfl, k5⟩
          go_wp2_with fail
          refine (rnstring_any s ns _ (by omega) HNS.out).mono ?_
          rintro e x6 ⟨rfl, k6⟩
          have z5 := k5.size
          go_wp2
          go_ret
          exact ⟨rfl, hb4.trans ((k5.mono (by omega)).trans (k6.mono (by omega)))⟩
end Go.Proofs.YtmdbfjfdkgdmnaaDoor
