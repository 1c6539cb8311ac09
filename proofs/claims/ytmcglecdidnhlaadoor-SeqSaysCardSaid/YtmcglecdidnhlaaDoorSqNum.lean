/- seq's parseNumber, parseSpan: the walks. -/
import Derived.Test.YtmcglecdidnhlaaDoorSqHas
import Derived.Test.YtmcglecdidnhlaaDoorSqRet
namespace Go.Proofs.YtmcglecdidnhlaaDoor
open Go.RowKit
set_option linter.unusedVariables false
set_option maxRecDepth 100000

def numV : Option Int → Value
  | none => .tuple #[.int .i64 0, .bool false]
  | some n => .tuple #[.int .i64 n, .bool true]
def spanV : Option (Int × Int) → Value
  | none => .tuple #[.agg #[.int .i64 0, .int .i64 0], .bool false]
  | some s => .tuple #[.agg #[.int .i64 s.1, .int .i64 s.2], .bool true]

theorem lit_ne (s : ByteArray) (l : List UInt8) (h : s.data.toList ≠ l) : (s.toList == l) = false := by
  rw [Go.ByteArray.toList_eq]; simpa using h
theorem lit_eq (s : ByteArray) (l : List UInt8) (h : s.data.toList = l) : (s.toList == l) = true := by
  rw [Go.ByteArray.toList_eq]; simpa using h

set_option maxHeartbeats 800000 in
theorem pnum_any (s : ByteArray) (w : World) (hs : s.size ≤ 1000000) (hw : SW w) :
    Calls Tryd.prog 35 #[.string s] w fun e w' => e = .returned (numV (Sq.pnum s.data.toList)) ∧ Below w.heap.size w w' := by
  obtain ⟨ev, he1, he2⟩ := hw.esyn
  obtain ⟨ev', he1', he2'⟩ := hw.erng
  have hlen : s.data.toList.length = s.size := rfl
  by_cases h1 : s.data.toList = [42]
  · have g1 := lit_eq s _ h1
    have HR : Hid (Sq.pnum s.data.toList = some 0) := Lib.hid (by rw [h1]; rfl)
    clear h1 hlen he1 he1' hw
    go_enter Tryd.func35, Tryd.ntmps35
    go_wp2
    go_ret2
    exact ⟨by rw [HR.out]; rfl, Below.refl _ _⟩
  · have g1 := lit_ne s _ h1
    by_cases h2 : s.data.toList = []
    · have g2 := lit_eq s _ h2
      have HR : Hid (Sq.pnum s.data.toList = none) := Lib.hid (Sq.pnum_zero _ h1 (.inl h2))
      clear h1 h2 hlen he1 he1' hw
      go_enter Tryd.func35, Tryd.ntmps35
      go_wp2
      go_ret2
      exact ⟨by rw [HR.out]; rfl, Below.refl _ _⟩
    · have g2 := lit_ne s _ h2
      have hpos : 0 < s.size := by
        have := List.length_pos_iff.2 h2
        omega
      have hhead : s.data.toList.head? = some s[0] := by
        have := List.drop_eq_getElem_cons (l := s.data.toList) (i := 0) (by omega)
        rw [List.drop_zero] at this
        rw [this]; rfl
      by_cases h3 : (s[0].toNat : Int) = 48
      · have g3 : ((s[0].toNat : Int) == 48) = true := by simp; omega
        have HR : Hid (Sq.pnum s.data.toList = none) := Lib.hid (Sq.pnum_zero _ h1 (.inr (by rw [hhead]; congr 1; exact UInt8.toNat_inj.1 (by show s[0].toNat = 48; omega))))
        clear h1 h2 h3 hhead hlen he1 he1' hw
        go_enter Tryd.func35, Tryd.ntmps35
        go_wp2
        go_ret2
        exact ⟨by rw [HR.out]; rfl, Below.refl _ _⟩
      · have g3 : ((s[0].toNat : Int) == 48) = false := by simp; omega
        have hz : ¬ (s.data.toList = [] ∨ s.data.toList.head? = some 48) := by
          rintro (h | h)
          · exact h2 h
          · rw [hhead] at h
            injection h with h
            rw [h] at h3
            exact h3 rfl
        have HZ := Lib.hid hz
        have H1 := Lib.hid h1
        clear h1 h2 h3 hhead hlen hz hw
        cases hp : Lib.parseUintB 64 s.data.toList with
        | ok u =>
          have HC := Lib.hid (Tryd.strconv_ParseUint_10_at64_ok s (by omega) u hp w)
          have hb : ∀ w', (w' = w ∨ w' = Lib.bytesWorld w 5 s) → Below w.heap.size w w' := fun w' h => by
            rcases h with rfl | rfl
            · exact Below.refl _ _
            · exact Lib.bytesWorld_below w 5 s
          have HB := Lib.hid hb
          have hu64 : (u : Int) ≤ 18446744073709551615 := by
            have := Lib.parseUintB_le hp
            omega
          by_cases hu : u ≤ 4294967295
          · have HR := Lib.hid (Sq.pnum_ok _ u H1.out HZ.out hp hu)
            have g4 : decide ((4294967295 : Int) < (u : Int)) = false := by simp; omega
            clear hp he1 he1' hb
            go_enter Tryd.func35, Tryd.ntmps35
            go_wp2_with fail
            refine HC.out.mono ?_
            rintro e w1 ⟨rfl, hw1⟩
            have HB1 := Lib.hid (HB.out _ hw1)
            clear hw1
            go_wp2
            go_ret2
            exact ⟨by rw [HR.out]; rfl, HB1.out⟩
          · have HR := Lib.hid (Sq.pnum_big _ u H1.out HZ.out hp hu)
            have g4 : decide ((4294967295 : Int) < (u : Int)) = true := by simp; omega
            clear hp he1 he1' hb hu
            go_enter Tryd.func35, Tryd.ntmps35
            go_wp2_with fail
            refine HC.out.mono ?_
            rintro e w1 ⟨rfl, hw1⟩
            have HB1 := Lib.hid (HB.out _ hw1)
            clear hw1
            go_wp2
            go_ret2
            exact ⟨by rw [HR.out]; rfl, HB1.out⟩
        | «syntax» =>
          have HC := Lib.hid (Tryd.strconv_ParseUint_10_at64_syntax s (by omega) hp ev w he1 he2)
          have HR := Lib.hid (Sq.pnum_syn _ H1.out HZ.out hp)
          clear hp he1 he1'
          go_enter Tryd.func35, Tryd.ntmps35
          go_wp2_with fail
          refine HC.out.mono ?_
          rintro e w1 ⟨N, rfl, hN, hN2, hw1⟩
          have HB1 := Lib.hid hw1
          clear hw1 hN2 hN
          go_wp2
          go_ret2
          exact ⟨by rw [HR.out]; rfl, HB1.out⟩
        | range =>
          have HC := Lib.hid (Tryd.strconv_ParseUint_10_at64_range s (by omega) hp ev' w he1' he2')
          have HR := Lib.hid (Sq.pnum_rng _ H1.out HZ.out hp)
          clear hp he1 he1'
          go_enter Tryd.func35, Tryd.ntmps35
          go_wp2_with fail
          refine HC.out.mono ?_
          rintro e w1 ⟨N, rfl, hN, hN2, hw1⟩
          have HB1 := Lib.hid hw1
          clear hw1 hN2 hN
          go_wp2
          go_ret2
          exact ⟨by rw [HR.out]; rfl, HB1.out⟩

theorem span_ret (w : World) (tmps : Array Value) (g : Nat) (hp : tmps.getD 2 undef = .pointer (some ⟨g, 0, none⟩)) (a b : Int) (x : Value) (hx : tmps.getD 3 undef = x) (hg : Blk w g 48 #[.int .i64 a, .int .i64 b]) :
    (results Tryd.f23 tmps).run Tryd.prog w = .ok (.tuple #[.agg #[.int .i64 a, .int .i64 b], x]) w :=
  ret_cell2 rfl tmps w g hp _ _ hg _ Tryd.underlying48 rfl (by kernel_rfl) x hx
theorem cut1_le (l : List UInt8) : (Sq.cut1 58 l).1.length ≤ l.length ∧ (Sq.cut1 58 l).2.1.length ≤ l.length := by
  unfold Sq.cut1
  split
  · rename_i h
    have e := congrArg List.length (Sq.dw_head 58 l h)
    rw [List.length_append, List.length_cons] at e
    simp only
    omega
  · simp
theorem cut_any (s : ByteArray) (w : World) (hs : s.size ≤ 1000000) (hw : SW w) (x y : ByteArray) (two : Bool) (hx : x = ⟨(Sq.cut1 58 s.data.toList).1.toArray⟩) (hy : y = ⟨(Sq.cut1 58 s.data.toList).2.1.toArray⟩) (ht : two = (Sq.cut1 58 s.data.toList).2.2) :
    Calls Tryd.prog 34 #[.string s, .string ⟨#[58]⟩] w fun e w' => e = .returned (.tuple #[.string x, .string y, .bool two]) ∧ ∃ n, w' = w.drewN n := by
  obtain ⟨m, hm⟩ := hw.max
  have := Tryd.strings_Cut s ⟨#[58]⟩ m w (by omega) hm
  rw [show (⟨#[58]⟩ : ByteArray).data.toList = [58] from rfl, Sq.cut_one, ← hx, ← hy, ← ht] at this
  exact this
theorem pspan_none1 (l : List UInt8) (h : Sq.pnum (Sq.cut1 58 l).1 = none) : Sq.pspan l = none := by
  unfold Sq.pspan
  rw [h]
theorem pspan_none2 (l : List UInt8) (h : Sq.pnum (if (Sq.cut1 58 l).2.2 then (Sq.cut1 58 l).2.1 else (Sq.cut1 58 l).1) = none) : Sq.pspan l = none := by
  unfold Sq.pspan
  rw [h]
  split
  · rename_i h2; cases h2
  · rfl
theorem pspan_some (l : List UInt8) (a b : Int) (h1 : Sq.pnum (Sq.cut1 58 l).1 = some a) (h2 : Sq.pnum (if (Sq.cut1 58 l).2.2 then (Sq.cut1 58 l).2.1 else (Sq.cut1 58 l).1) = some b) : Sq.pspan l = some (a, b) := by
  unfold Sq.pspan
  rw [h1, h2]

set_option maxHeartbeats 1600000 in
theorem pspan_any (s : ByteArray) (w : World) (hs : s.size ≤ 1000000) (hw : SW w) :
    Calls Tryd.prog 23 #[.string s] w fun e w' => e = .returned (spanV (Sq.pspan s.data.toList)) ∧ Below w.heap.size w w' := by
  have hlen : s.data.toList.length = s.size := rfl
  obtain ⟨x, hx⟩ : ∃ x : ByteArray, x = ⟨(Sq.cut1 58 s.data.toList).1.toArray⟩ := ⟨_, rfl⟩
  obtain ⟨y, hy⟩ : ∃ y : ByteArray, y = ⟨(Sq.cut1 58 s.data.toList).2.1.toArray⟩ := ⟨_, rfl⟩
  obtain ⟨two, ht⟩ : ∃ two, two = (Sq.cut1 58 s.data.toList).2.2 := ⟨_, rfl⟩
  obtain ⟨l1, l2⟩ := cut1_le s.data.toList
  have xl : x.data.toList = (Sq.cut1 58 s.data.toList).1 := by rw [hx]
  have yl : y.data.toList = (Sq.cut1 58 s.data.toList).2.1 := by rw [hy]
  have xs : x.size ≤ 1000000 := by
    have : x.data.toList.length = x.size := rfl
    rw [xl] at this; omega
  have ys : y.size ≤ 1000000 := by
    have : y.data.toList.length = y.size := rfl
    rw [yl] at this; omega
  obtain ⟨w1, Hw1⟩ : ∃ w1, Hid (w1 = w.alloc (.cells #[.int .i64 0, .int .i64 0] 48)) := ⟨_, Lib.hid rfl⟩
  have hb1 : Below w.heap.size w w1 := by rw [Hw1.out]; exact (Below.refl _ _).alloc (Nat.le_refl _) _
  have hg1 : Blk w1 w.heap.size 48 #[.int .i64 0, .int .i64 0] := by rw [Hw1.out]; exact Blk.new w _ _
  have HC := Lib.hid (cut_any s w1 hs (hw.below hb1) x y two hx hy ht)
  have HN : Hid (∀ (z : ByteArray) W, z.size ≤ 1000000 → Below w.heap.size w W → ∀ p, Sq.pnum z.data.toList = p → Calls Tryd.prog 35 #[.string z] W fun e w' => e = .returned (numV p) ∧ Below W.heap.size W w') := Lib.hid (fun z W hz hb p hp => by rw [← hp]; exact pnum_any z W hz (hw.below hb))
  have HB1 := Lib.hid hb1
  have HG1 := Lib.hid hg1
  have HX := Lib.hid xl
  have HY := Lib.hid yl
  have HT := Lib.hid ht
  obtain ⟨z, Hz⟩ : ∃ z, Hid (z = if two then y else x) := ⟨_, Lib.hid rfl⟩
  have zs : z.size ≤ 1000000 := by rw [Hz.out]; split <;> assumption
  have HZ : Hid (z.data.toList = if (Sq.cut1 58 s.data.toList).2.2 then (Sq.cut1 58 s.data.toList).2.1 else (Sq.cut1 58 s.data.toList).1) := Lib.hid (by
    rw [Hz.out, ← HT.out]
    cases two
    · exact HX.out
    · exact HY.out)
  clear hx hy ht l1 l2 xl yl hb1 hg1 hlen
  obtain ⟨p1, Hp1⟩ : ∃ p, Hid (Sq.pnum x.data.toList = p) := ⟨_, Lib.hid rfl⟩
  obtain ⟨p2, Hp2⟩ : ∃ p, Hid (Sq.pnum z.data.toList = p) := ⟨_, Lib.hid rfl⟩
  have key : ∀ W, Below w.heap.size w W → Blk W w.heap.size 48 #[.int .i64 0, .int .i64 0] →
      (p1 = none ∨ p2 = none → ∀ W', Below w.heap.size W W' → Blk W' w.heap.size 48 #[.int .i64 0, .int .i64 0] → (Ending.returned (Value.tuple #[.agg #[.int .i64 0, .int .i64 0], .bool false]) = .returned (spanV (Sq.pspan s.data.toList)) ∧ Below w.heap.size w W')) := fun W hb hg hn W' hb' hg' => by
    refine ⟨?_, hb.trans hb'⟩
    have : Sq.pspan s.data.toList = none := by
      rcases hn with hn | hn
      · subst hn
        exact pspan_none1 _ (by rw [← HX.out]; exact Hp1.out)
      · subst hn
        exact pspan_none2 _ (by rw [← HZ.out]; exact Hp2.out)
    rw [this]; rfl
  have KEY := Lib.hid key
  clear key
  have HS : Hid (∀ a b, p1 = some a → p2 = some b → Sq.pspan s.data.toList = some (a, b)) := Lib.hid (fun a b h1 h2 => pspan_some _ a b (by rw [← HX.out, Hp1.out, h1]) (by rw [← HZ.out, Hp2.out, h2]))
  have two_cases : two = true ∧ z = y ∨ two = false ∧ z = x := by
    cases two
    · exact .inr ⟨rfl, Hz.out⟩
    · exact .inl ⟨rfl, Hz.out⟩
  clear Hz
  rcases two_cases with ⟨rfl, rfl⟩ | ⟨rfl, rfl⟩ <;>
  · go_enter Tryd.func23, Tryd.ntmps23
    go_wp2_with fail
    rw [← Hw1.out]
    refine HC.out.mono ?_
    rintro e w2 ⟨rfl, q, hq⟩
    have HB2 : Hid (Below w.heap.size w w2) := Lib.hid (by rw [hq]; exact below_drewN HB1.out q)
    have HG2 : Hid (Blk w2 w.heap.size 48 #[.int .i64 0, .int .i64 0]) := Lib.hid (by rw [hq]; exact HG1.out)
    clear hq
    go_wp2_with fail
    refine (HN.out _ w2 (by assumption) HB2.out p1 (by first | exact Hp1.out | exact Hp2.out)).mono ?_
    rintro e w3 ⟨rfl, hb3⟩
    have HG3 : Hid (Blk w3 w.heap.size 48 #[.int .i64 0, .int .i64 0]) := Lib.hid (HG2.out.below hb3 HG2.out.lt)
    have HB3 : Hid (Below w.heap.size w w3) := Lib.hid (HB2.out.trans (hb3.mono HB2.out.size))
    clear hb3
    cases p1 with
    | none =>
      simp only [numV]
      go_wp2_with fail
      refine (HN.out _ w3 (by assumption) HB3.out p2 Hp2.out).mono ?_
      rintro e w4 ⟨rfl, hb4⟩
      have HG4 : Hid (Blk w4 w.heap.size 48 #[.int .i64 0, .int .i64 0]) := Lib.hid (HG3.out.below hb4 HG3.out.lt)
      have HB4 : Hid (Below w.heap.size w w4) := Lib.hid (HB3.out.trans (hb4.mono HB3.out.size))
      have c0 := HG4.out.cell 0 _ rfl
      have c1 := HG4.out.cell 1 _ rfl
      have f0 := HG4.out.frozen 0
      have f1 := HG4.out.frozen 1
      clear hb4
      cases p2 <;>
      · simp only [numV]
        go_wp2
        refine bodyPost_ret (span_ret _ _ w.heap.size rfl 0 0 _ rfl ((HG4.out.set 0 _).set 1 _)) rfl ?_
        exact KEY.out _ HB4.out HG4.out (by simp) _ (below_set (below_set (Below.refl _ _) (Nat.le_refl _) 0 _) (Nat.le_refl _) 1 _) ((HG4.out.set 0 _).set 1 _)
    | some a =>
      simp only [numV]
      go_wp2_with fail
      refine (HN.out _ w3 (by assumption) HB3.out p2 Hp2.out).mono ?_
      rintro e w4 ⟨rfl, hb4⟩
      have HG4 : Hid (Blk w4 w.heap.size 48 #[.int .i64 0, .int .i64 0]) := Lib.hid (HG3.out.below hb4 HG3.out.lt)
      have HB4 : Hid (Below w.heap.size w w4) := Lib.hid (HB3.out.trans (hb4.mono HB3.out.size))
      have c0 := HG4.out.cell 0 _ rfl
      have c1 := HG4.out.cell 1 _ rfl
      have f0 := HG4.out.frozen 0
      have f1 := HG4.out.frozen 1
      clear hb4
      cases p2 with
      | none =>
        simp only [numV]
        go_wp2
        refine bodyPost_ret (span_ret _ _ w.heap.size rfl 0 0 _ rfl ((HG4.out.set 0 _).set 1 _)) rfl ?_
        exact KEY.out _ HB4.out HG4.out (by simp) _ (below_set (below_set (Below.refl _ _) (Nat.le_refl _) 0 _) (Nat.le_refl _) 1 _) ((HG4.out.set 0 _).set 1 _)
      | some b =>
        simp only [numV]
        go_wp2
        refine bodyPost_ret (span_ret _ _ w.heap.size rfl a b _ rfl ((HG4.out.set 0 _).set 1 _)) rfl ?_
        exact ⟨by rw [HS.out a b rfl rfl]; rfl, below_set (below_set HB4.out (Nat.le_refl _) 0 _) (Nat.le_refl _) 1 _⟩
end Go.Proofs.YtmcglecdidnhlaaDoor
