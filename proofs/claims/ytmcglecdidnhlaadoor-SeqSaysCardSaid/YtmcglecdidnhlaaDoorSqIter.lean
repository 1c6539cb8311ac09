/- strings.SplitSeq's iterator, walked: what it hands to each round, whatever the round does that keeps its boxes. -/
import Derived.Test.YtmcglecdidnhlaaDoorSqRng
import Derived.Test.YtmcglecdidnhlaaDoorSqNum
namespace Go.Proofs.YtmcglecdidnhlaaDoor
open Go.RowKit
set_option linter.unusedVariables false
attribute [local go_sem] Oper.semAt_some

theorem splitSeq_any (s sep : ByteArray) (w : World) :
    Calls Tryd.prog 22 #[.string s, .string sep] w fun e w' => e = .returned (.func (.func 41) #[] #[.pointer (some ⟨w.heap.size + 1, 0, none⟩), .pointer (some ⟨w.heap.size, 0, none⟩), .pointer (some ⟨w.heap.size + 1 + 1, 0, none⟩)]) ∧
      w' = ((w.alloc (.cells #[.string s] 9)).alloc (.cells #[.string sep] 9)).alloc (.cells #[.int .i64 0] 3) := by
  go_enter Tryd.func22, Tryd.ntmps22
  go_wp2
  go_ret
  exact ⟨by simp, rfl⟩

abbrev Spl : Type := List (List UInt8) × ByteArray
/-- What the rounds are handed: the text's parts; the iterator's text left. -/
def splNx (s : Spl) (x : ByteArray) : Spl := (s.1 ++ [x.data.toList], s.2)
def splOk (full : List (List UInt8)) (s : Spl) (x : ByteArray) : Prop := ∃ q, s.1 ++ x.data.toList :: q = full
def splLeft (gs : Nat) (w : World) : Nat := match w.cell? ⟨gs, 0, none⟩ with | some (.string r) => r.size | _ => 0

set_option maxRecDepth 100000 in
set_option maxHeartbeats 2000000 in
theorem split_iter (n : Nat) (hn : 2 ≤ n) (B gp gs gv : Nat) (hgB : gs < B) (s : ByteArray) (hs : s.size ≤ 1000000) (Gn Rt : Spl → World → Prop)
    (hbox : ∀ s W, Gn s W → W.cell? ⟨gp, 0, none⟩ = some (.string ⟨#[44]⟩) ∧ W.cell? ⟨gs, 0, none⟩ = some (.string s.2) ∧ W.cell? ⟨gv, 0, none⟩ = some (.int .i64 0) ∧ W.frozen? ⟨gs, 0, none⟩ = false)
    (hset : ∀ s W r, Gn s W → Gn (s.1, r) (W.setCell ⟨gs, 0, none⟩ (.string r))) :
    IterAt Fence.wide n Tryd.prog 41 #[.pointer (some ⟨gp, 0, none⟩), .pointer (some ⟨gs, 0, none⟩), .pointer (some ⟨gv, 0, none⟩)] (fun x : ByteArray => #[.string x]) B (splOk (Sq.parts 44 s.data.toList)) splNx ([], s) Gn Rt (fun t => t.1 = Sq.parts 44 s.data.toList) := by
  intro l Rk Rd W hl h0 hk0 hkeep hY
  have h1n : 1 ≤ n := by omega
  have h1n2 : 1 ≤ n - 1 := by omega
  obtain ⟨F, HF⟩ : ∃ F, Hid (F = Sq.parts 44 s.data.toList) := ⟨_, Lib.hid rfl⟩
  rw [← HF.out] at hY ⊢
  have HY := Lib.hid hY
  have HBOX := Lib.hid hbox
  have HSET : Hid (∀ (t : Spl) W r, Gn t W → Rk W → Gn (t.1, r) (W.setCell ⟨gs, 0, none⟩ (.string r)) ∧ Rk (W.setCell ⟨gs, 0, none⟩ (.string r))) := Lib.hid (fun t W r hg hr => ⟨hset t W r hg, hkeep _ _ ((KeepsOthers.setCell W _ _).from _) hr⟩)
  have HG0 : Hid (Gn ([], s) W ∧ Rk W) := Lib.hid ⟨h0, hk0⟩
  have HI : Hid (∀ (r : ByteArray) W, CallsIn Fence.wide (n - 1) Tryd.prog 43 #[.string r, .string ⟨#[44]⟩] W fun e w' => e = .returned (.int .i64 (Lib.indexByte r.data.toList 44)) ∧ w' = W) := Lib.hid (fun r W => callsIn_wide.2 (Tryd.strings_Index_one r 44 W))
  obtain ⟨b1, b2, b3, b4⟩ := hbox _ _ h0
  clear hY hset hkeep h0 hk0 hbox
  refine callsIn_of_wp Tryd.func41 rfl trivial ?_ rfl
  simp only [Tryd.ntmps41, List.size_toArray, List.length_cons, List.length_nil, Nat.reduceAdd, Nat.reduceSub, Array.replicate_succ, Array.replicate_zero, List.push_toArray, List.append_toArray, List.nil_append, List.cons_append]
  gi_wp2
  clear b1 b2 b3 b4
  gi_loopw [7, 8] (fun _ _ wr => ∃ (pre : List (List UInt8)) (r : ByteArray), Hid (F = pre ++ Sq.parts 44 r.data.toList ∧ Gn (pre, r) wr ∧ Rk wr) ∧ r.size ≤ 1000000 ∧ wr.cell? ⟨gs, 0, none⟩ = some (.string r)) (fun _ _ wr => splLeft gs wr)
  case atStart => exact ⟨[], s, Lib.hid ⟨HF.out, HG0.out.1, HG0.out.2⟩, hs, (HBOX.out _ _ HG0.out.1).2.1⟩
  case round =>
    obtain ⟨pre, r, HP, hr, hrc⟩ := hrel
    obtain ⟨b1, b2, b3, b4⟩ := HBOX.out _ _ HP.out.2.1
    have hlen : r.data.toList.length = r.size := rfl
    by_cases hm : (44 : UInt8) ∈ r.data.toList
    · have hi := Sq.indexByte_yes 44 _ hm
      have hlt := Sq.tw_lt 44 _ hm
      have hpt := Sq.parts_some 44 _ hm
      have htk := Sq.take_tw 44 _ hm
      have hdp := Sq.drop_tw 44 _ hm
      obtain ⟨k, Hk⟩ : ∃ k, Hid (k = (r.data.toList.takeWhile (· != 44)).length) := ⟨_, Lib.hid rfl⟩
      rw [← Hk.out] at hi hlt htk hdp
      obtain ⟨x, hx⟩ : ∃ x, r.extract 0 k = x := ⟨_, rfl⟩
      obtain ⟨y, hy⟩ : ∃ y, r.extract (k + 1) r.size = y := ⟨_, rfl⟩
      have hxd : x.data.toList = r.data.toList.takeWhile (· != 44) := by rw [← hx, Lib.extract_data, List.drop_zero, Nat.sub_zero, htk]
      have hyd : y.data.toList = (r.data.toList.dropWhile (· != 44)).tail := by
        rw [← hy, Lib.extract_data, hdp, List.take_of_length_le]
        rw [← hdp, List.length_drop]; omega
      have hys : y.size + (k + 1) = r.size := by
        have : y.data.toList.length = y.size := rfl
        rw [← this, hyd, ← hdp, List.length_drop]; omega
      have hkr : k < r.size := by omega
      have hi1 := HI.out r wr
      rw [hi] at hi1
      have HI1 := Lib.hid hi1
      have HPX : Hid (F = (pre ++ [x.data.toList]) ++ Sq.parts 44 y.data.toList) := Lib.hid (by
        rw [HP.out.1, hpt, hxd, hyd]; simp)
      have hy0 := HY.out (pre, r) x wr ⟨Sq.parts 44 y.data.toList, by rw [HPX.out]; simp⟩ HP.out.2.1 HP.out.2.2
      obtain ⟨fn, tmps, assign, body, hyl, hR⟩ := hy0
      have HR := Lib.hid hR
      have HYS := Lib.hid hys
      clear hR hi hlt hpt htk hdp hxd hyd hi1 hm hlen hrc hys
      gi_wp2
      refine ⟨trivial, HI1.out.mono ?_⟩
      rintro e w2 ⟨rfl, rfl⟩
      gi_wp2
      refine HR.out.mono ?_
      rintro e W3 (⟨rfl, hg3, hk3⟩ | ⟨rfl, hrt, hrd⟩)
      · obtain ⟨c1, c2, c3, c4⟩ := HBOX.out _ _ hg3
        obtain ⟨z1, z2⟩ := HSET.out _ _ y hg3 hk3
        have HZ : Hid (Gn (pre ++ [x.data.toList], y) (W3.setCell ⟨gs, 0, none⟩ (.string y)) ∧ Rk (W3.setCell ⟨gs, 0, none⟩ (.string y))) := Lib.hid ⟨z1, z2⟩
        have hnew : (W3.setCell ⟨gs, 0, none⟩ (.string y)).cell? ⟨gs, 0, none⟩ = some (.string y) := (HBOX.out _ _ z1).2.1
        have HM : Hid (splLeft gs (W3.setCell ⟨gs, 0, none⟩ (.string y)) < splLeft gs w2) := Lib.hid (by
          unfold splLeft
          rw [hnew, b2]
          have := HYS.out
          simp only
          omega)
        have HNEW := Lib.hid hnew
        have hys1 : y.size ≤ 1000000 := by have := HYS.out; omega
        clear z1 z2 hg3 hk3 hyl hnew b1 b2 b3 b4
        simp only [splNx] at c2
        gi_wp2
        go_roundw
        case rel => exact ⟨_, y, Lib.hid ⟨HPX.out, HZ.out⟩, hys1, HNEW.out⟩
        case measure => exact HM.out
      · have HQ : Hid (Rt (splNx (pre, r) x) W3 ∧ Rd W3) := Lib.hid ⟨hrt, hrd⟩
        clear hrt hrd hyl b1 b2 b3 b4
        gi_wp2
        refine bodyPost_ret (results_none rfl _ _ _) rfl ?_
        exact ⟨⟨_, rfl⟩, .inr ⟨_, HQ.out⟩⟩
    · have hi := Sq.indexByte_no 44 _ hm
      have hpt := Sq.parts_none 44 _ hm
      have hi1 := HI.out r wr
      rw [hi] at hi1
      have HI1 := Lib.hid hi1
      have HPX : Hid (F = pre ++ [r.data.toList]) := Lib.hid (by rw [HP.out.1, hpt])
      have hy0 := HY.out (pre, r) r wr ⟨[], by rw [HPX.out]⟩ HP.out.2.1 HP.out.2.2
      obtain ⟨fn, tmps, assign, body, hyl, hR⟩ := hy0
      have HR := Lib.hid hR
      clear hR hi hpt hi1 hm hlen hrc
      gi_wp2
      refine ⟨trivial, HI1.out.mono ?_⟩
      rintro e w2 ⟨rfl, rfl⟩
      gi_wp2
      refine HR.out.mono ?_
      rintro e W3 (⟨rfl, hg3, hk3⟩ | ⟨rfl, hrt, hrd⟩)
      · have HQ : Hid (Gn (splNx (pre, r) r) W3 ∧ Rk W3) := Lib.hid ⟨hg3, hk3⟩
        clear hg3 hk3 hyl b1 b2 b3 b4
        gi_wp2
        go_end0
        exact ⟨⟨_, rfl⟩, .inl ⟨_, HPX.out.symm, HQ.out⟩⟩
      · have HQ : Hid (Rt (splNx (pre, r) r) W3 ∧ Rd W3) := Lib.hid ⟨hrt, hrd⟩
        clear hrt hrd hyl b1 b2 b3 b4
        gi_wp2
        go_end0
        exact ⟨⟨_, rfl⟩, .inr ⟨_, HQ.out⟩⟩
end Go.Proofs.YtmcglecdidnhlaaDoor
