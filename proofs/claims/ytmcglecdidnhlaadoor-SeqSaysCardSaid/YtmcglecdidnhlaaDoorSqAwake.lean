/- The functions at what is known; awake. -/
import Derived.Test.YtmcglecdidnhlaaDoorSqLit
import Derived.Test.YtmcglecdidnhlaaDoorSqParseW
import Derived.Test.YtmcglecdidnhlaaDoorSqShowW
import Derived.Test.YtmcglecdidnhlaaDoorSqOfW
import Derived.Test.YtmcglecdidnhlaaDoorSqPick
namespace Go.Proofs.YtmcglecdidnhlaaDoor
open Go.RowKit
set_option linter.unusedVariables false
set_option maxRecDepth 100000

theorem parse_lit (s : ByteArray) (L : List (Int × Int)) (e : Int) (hs : s.size ≤ 1000000) (hL : Sq.parse s.data.toList = (L, e)) (n : Nat) (hn : n = L.length) (w : World) (hw : SW w) :
    Calls Tryd.prog 9 #[.string s] w fun x w' => ∃ A c, x = .returned (.tuple #[.agg #[.slice A n c], .int .i64 e]) ∧ n ≤ c ∧ c ≤ maxLen ∧ Pairs w' w'.heap.size A L ∧ Below w.heap.size w w' := by
  subst hn
  refine (parse_any s w hs hw).mono ?_
  rintro x w' ⟨v, rfl, ⟨A, c, rfl, h1, h2, h3⟩, hb⟩
  rw [hL] at h1 h3 ⊢
  exact ⟨A, c, rfl, h1, h2, h3, hb⟩
theorem of_lit (l : List Int) (L : List (Int × Int)) (hL : Sq.spans l = L) (n : Nat) (hn : n = L.length) (m : Nat) (hm : m = l.length) (hm6 : m ≤ 60) (A : Option Addr) (c : Nat) (w : World) (hp : Ints w w.heap.size A l) :
    Calls Tryd.prog 10 #[.slice A m c] w fun x w' => ∃ A' c', x = .returned (.agg #[.slice A' n c']) ∧ n ≤ c' ∧ c' ≤ maxLen ∧ Pairs w' w'.heap.size A' L ∧ Below w.heap.size w w' := by
  subst hn hm
  refine (of_any A l.length c l w rfl hm6 hp).mono ?_
  rintro x w' ⟨v, rfl, ⟨A, c, rfl, h1, h2, h3⟩, hb⟩
  rw [hL] at h1 h3 ⊢
  exact ⟨A, c, rfl, h1, h2, h3, hb⟩
theorem show_lit (L : List (Int × Int)) (t : ByteArray) (hL : Sq.shown L = t.data.toList) (n : Nat) (hn : n = L.length) (hm : n ≤ 1000) (A : Option Addr) (c : Nat) (w : World) (hp : Pairs w w.heap.size A L) (hw : SW w) :
    Calls Tryd.prog 11 #[.agg #[.slice A n c]] w fun x w' => x = .returned (.string t) ∧ Below w.heap.size w w' := by
  have := show_any A n c L w hn (by unfold maxLen; omega) hp hw
  rw [hL] at this
  exact this
theorem has_lit (L : List (Int × Int)) (x last : Int) (B : Bool) (hL : Sq.has L x last = B) (n : Nat) (hn : n = L.length) (hm : n ≤ 1000) (A : Option Addr) (c : Nat) (w : World) (hp : Pairs w w.heap.size A L) :
    Calls Tryd.prog 12 #[.agg #[.slice A n c], .int .i64 x, .int .i64 last] w fun e w' => e = .returned (.bool B) ∧ Below w.heap.size w w' :=
  has_any A n c L x last w hn (by unfold maxLen; omega) hp B hL.symm
theorem pick_lit (L : List (Int × Int)) (l r : List Int) (hL : Sq.pick L l = r) (n : Nat) (hn : n = L.length) (hm : n ≤ 1000) (k q : Nat) (hk : k = l.length) (hk6 : k ≤ 60) (hq : q = r.length) (A A2 : Option Addr) (c c2 : Nat) (w : World) (hp : Pairs w w.heap.size A L) (hp2 : Ints w w.heap.size A2 l) :
    Calls Tryd.prog 14 #[.agg #[.slice A n c], .slice A2 k c2] w fun x w' => ∃ A' c', x = .returned (.slice A' q c') ∧ q ≤ c' ∧ c' ≤ maxLen ∧ Ints w' w'.heap.size A' r ∧ Below w.heap.size w w' := by
  subst hn hk hq
  refine (pick_any A L.length c L A2 l.length c2 l w rfl (by unfold maxLen; omega) rfl hk6 hp hp2).mono ?_
  rintro x w' ⟨A', c', rfl, h1, h2, h3, hb⟩
  rw [hL] at h1 h3 ⊢
  exact ⟨A', c', rfl, h1, h2, h3, hb⟩
theorem ints_new (w : World) (e : TypeId) (l : List Int) : Ints (w.alloc (.cells (li l).toArray e)) (w.heap.size + 1) (some ⟨w.heap.size, 0, none⟩) l := fun _ =>
  ⟨w.heap.size, 0, rfl, by omega, fun j hj => by
    rw [Nat.zero_add, World.cell?_alloc_at _ _ _ _ rfl, ← Array.getElem?_toList]
    exact li_at l j hj⟩

theorem field_set (A : Option Addr) (n c : Nat) : ∀ W : World, (Instr.field 25 (.agg #[.slice A n c]) 0).run Tryd.prog W = .ok (.slice A n c) W := fun _ => by kernel_rfl
set_option maxHeartbeats 3200000 in
theorem awake_any (w : World) (h : SW w) : Calls Tryd.prog 8 #[] w fun e w' => e = .returned (.bool true) ∧ Below w.heap.size w w' := by
  have H := Lib.hid h
  clear h
  go_enter Tryd.func8, Tryd.ntmps8
  go_wp2_with fail
  refine (parse_lit ⟨#[51, 58, 49]⟩ _ _ (by decide) Sq.l1 1 rfl _ H.out).mono ?_
  rintro e w1 ⟨A, c, rfl, hc1, hc2, hp1, hb1⟩
  obtain ⟨w2, Hw2⟩ : ∃ w2, Hid (w2 = w1.alloc (.cells #[.slice A 1 c] 25)) := ⟨_, Lib.hid rfl⟩
  have hb12 : Below w1.heap.size w1 w2 := by rw [Hw2.out]; exact (Below.refl _ _).alloc (Nat.le_refl _) _
  have HB2 : Hid (Below w.heap.size w w2) := Lib.hid (hb1.trans (hb12.mono hb1.size))
  have HP2 : Hid (Pairs w2 w1.heap.size A [(3, 1)]) := Lib.hid (hp1.below hb12 (Nat.le_refl _))
  have HX2 : Hid (Blk w2 w1.heap.size 25 #[.slice A 1 c]) := Lib.hid (by rw [Hw2.out]; exact Blk.new w1 _ _)
  have HS2 : Hid (∀ W, Below w2.heap.size w2 W → SW W ∧ Pairs W W.heap.size A [(3, 1)] ∧ W.cell? ⟨w1.heap.size, 0, none⟩ = some (.slice A 1 c) ∧ Below w.heap.size w W) := Lib.hid (fun W hb => ⟨H.out.below (HB2.out.trans (hb.mono HB2.out.size)), (HP2.out.below hb hb12.size).mono (Nat.le_trans hb12.size hb.size), (HX2.out.below hb HX2.out.lt).cell 0 _ rfl, HB2.out.trans (hb.mono HB2.out.size)⟩)
  clear hc1 hc2 hp1 hb1 hb12
  have hb22 := Below.refl w2.heap.size w2
  obtain ⟨s1, s2, s3, s4⟩ := HS2.out w2 hb22
  have HS := Lib.hid (And.intro s1 (And.intro s2 s4))
  clear s1 s2 s3 s4
  go_wp2_with fail
  rw [← Hw2.out]
  refine (has_lit _ 2 9 true Sq.l2 1 rfl (by decide) A c w2 HS.out.2.1).mono ?_
  rintro e w3 ⟨rfl, hb3⟩
  obtain ⟨s1, s2, s3, s4⟩ := HS2.out w3 hb3
  have HS3 := Lib.hid (And.intro s1 (And.intro s2 s4))
  have HB3 := Lib.hid hb3
  clear s1 s2 s4 hb3
  go_wp2_with fail
  refine (has_lit _ 4 9 false Sq.l3 1 rfl (by decide) A c w3 HS3.out.2.1).mono ?_
  rintro e w4 ⟨rfl, hb4⟩
  have HB4 := Lib.hid (HB3.out.trans (hb4.mono HB3.out.size))
  obtain ⟨s1, s2, s3', s4⟩ := HS2.out w4 HB4.out
  have HS4 := Lib.hid (And.intro s1 (And.intro s2 s4))
  clear s1 s2 s4 hb4 s3
  go_wp2_with fail
  refine (show_lit _ ⟨#[51, 58, 49]⟩ Sq.l4 1 rfl (by decide) A c w4 HS4.out.2.1 HS4.out.1).mono ?_
  rintro e w5 ⟨rfl, hb5⟩
  have HB5 := Lib.hid (HB4.out.trans (hb5.mono HB4.out.size))
  have hin := ints_new w5 2 [1, 2]
  have HIN : Hid (Ints (w5.alloc (.cells #[.int .i64 1, .int .i64 2] 2)) (w5.heap.size + 1) (some ⟨w5.heap.size, 0, none⟩) [1, 2]) := Lib.hid hin
  have q1 : ((⟨#[51, 58, 49]⟩ : ByteArray).toList == [51, 58, 49]) = true := by decide +kernel
  clear s3' hb5 hin
  go_wp2_with fail
  refine (of_lit [1, 2] _ Sq.l5 1 rfl 2 rfl (by decide) _ _ _ (HIN.out.mono (by simp))).mono ?_
  rintro e w6 ⟨A6, c6, rfl, h61, h62, h63, hb6⟩
  have HB6 : Hid (Below w.heap.size w w6) := Lib.hid ((HS2.out w5 HB5.out).2.2.2.trans (((Below.refl w.heap.size w5).alloc (HS2.out w5 HB5.out).2.2.2.size _).trans (hb6.mono (by have := (HS2.out w5 HB5.out).2.2.2.size; simp; omega))))
  clear h61 h62 h63 hb6
  have hfd := field_set A6 1 c6
  go_wp2
  go_ret
  exact ⟨rfl, HB6.out⟩
end Go.Proofs.YtmcglecdidnhlaaDoor
