/- The walk of CrcParts. -/
import Derived.Test.YtfoddcelpgihfaaDoorCrcSaysW
import Derived.Deep.RegionHeld3
import Derived.Deep.DrawnRows
namespace Go.Proofs.YtfoddcelpgihfaaDoor
open Go.RowKit
attribute [local go_sem ↓] Go.wp_at_zero Go.wp_at_succ

theorem at_new (W : World) (b : Nat) (h : b = W.heap.size) (o : Obj) : (W.alloc o).heap[b]? = some o := by
  subst h
  show (W.heap.push o)[W.heap.size]? = _
  simp
theorem at_past (W : World) (b : Nat) (h : b < W.heap.size) (o : Obj) {x : Obj} (hx : W.heap[b]? = some x) : (W.alloc o).heap[b]? = some x := by
  show (W.heap.push o)[b]? = _
  rw [Array.getElem?_push_lt h, ← hx]
  exact (Array.getElem?_eq_getElem h).symm
theorem at_drew {W : World} {b : Nat} {x : Obj} (h : W.heap[b]? = some x) : W.drew.heap[b]? = some x := h
theorem bl_alloc {B : Nat} {a b : World} (h : Below B a b) (hB : B ≤ a.heap.size) (o : Obj) : Below B a (b.alloc o) := h.alloc (Nat.le_trans hB h.size) o

/-- In whatever world that the walk has come to since w1: the sum of the slices that lie in a block. -/
def OfIs (w1 : World) (cs : Array Value) (n : Nat) (q : BitVec 32) : Prop := ∀ (W : World) (N : Nat) (e : TypeId), W.heap[N]? = some (.cells cs e (0, 0)) → Below w1.heap.size w1 W →
  Calls Tryd.prog 9 #[.slice (some ⟨N, 0, none⟩) n n] W fun e w' => e = .returned (.int .u32 (q.toNat : Int)) ∧ W = w'
theorem OfIs.go {w1 : World} {cs : Array Value} {n : Nat} {q : BitVec 32} (h : OfIs w1 cs n q) (W : World) (N : Nat) (e : TypeId) (h1 : W.heap[N]? = some (.cells cs e (0, 0))) (h2 : Below w1.heap.size w1 W) :
    Calls Tryd.prog 9 #[.slice (some ⟨N, 0, none⟩) n n] W fun e w' => e = .returned (.int .u32 (q.toNat : Int)) ∧ W = w' := h W N e h1 h2
theorem ofIs (w1 : World) (cs : Array Value) (n : Nat) (ls : List (List UInt8)) (hn : n = ls.length) (hm : n ≤ maxLen) (hv : Views w1 w1.heap.size cs.toList ls) (ht : TabAt w1 0) : OfIs w1 cs n (Crc.add 0#32 ls.flatten) := fun W N e hN hb => by
  refine crcOf_any _ n n ls (W.heap.size) W hn (Nat.le_refl _) hm (fun _ => ⟨N, 0, rfl, (Array.getElem?_eq_some_iff.1 hN).1, fun j hj => ?_⟩) (ht.below hb (Nat.le_refl _))
  have hj' : j < cs.toList.length := by rw [hv.1]; exact hj
  obtain ⟨A, c, e1, h1, h2, h3⟩ := hv.2 j _ _ (List.getElem?_eq_getElem hj') (List.getElem?_eq_getElem hj)
  refine ⟨A, c, ?_, h1, h2, (h3.below hb (Nat.le_refl _)).mono hb.size⟩
  have e2 : cs[j]? = some (.slice A ls[j].length c) := by rw [← Array.getElem?_toList, List.getElem?_eq_getElem hj', e1]
  simp [World.cell?, hN, e2]
def AddIs (w1 : World) (r : BitVec 32) (A : Option Addr) (n c : Nat) (q : BitVec 32) : Prop := ∀ (W : World), Below w1.heap.size w1 W →
  Calls Tryd.prog 10 #[.int .u32 (r.toNat : Int), .slice A n c] W fun e w' => e = .returned (.int .u32 (q.toNat : Int)) ∧ W = w'
theorem AddIs.go {w1 : World} {r : BitVec 32} {A : Option Addr} {n c : Nat} {q : BitVec 32} (h : AddIs w1 r A n c q) (W : World) (hb : Below w1.heap.size w1 W) :
    Calls Tryd.prog 10 #[.int .u32 (r.toNat : Int), .slice A n c] W fun e w' => e = .returned (.int .u32 (q.toNat : Int)) ∧ W = w' := h W hb

set_option maxHeartbeats 80000000 in
set_option maxRecDepth 100000 in
theorem crcParts_walk (A0 : Option Addr) (n0 c0 : Nat) (l0 : List UInt8) (e0 : n0 = l0.length) (h0 : n0 ≤ c0) (_m0 : c0 ≤ maxLen) (at_ : Int) (_hat : (Lit.int .i64 at_).wf = true) (w : World)
    (s0 : Sees w w.heap.size A0 l0) (ht : Lib.TabIs Tryd.prog w "franking/crc.halfByte" .u32 crcTab) :
    Calls Tryd.prog 6 #[.slice A0 n0 c0, .int .i64 at_] w fun e w' => e = .returned (.bool true) ∧ Below w.heap.size w w' := by
  subst e0
  have HT := Lib.hid (tabAt ht)
  have HM0 := Lib.hid _m0
  unfold maxLen at _m0
  clear ht
  by_cases q0 : 300 < (l0.length : Int)
  · go_enter Tryd.func6, Tryd.ntmps6
    go_wp2_with (go_at_call 7; refine (crcAwake_any _ HT.out).mono ?_; rintro e w1 ⟨rfl, hb1⟩)
    all_goals (go_ret; exact ⟨rfl, hb1⟩)
  by_cases q1 : at_ < 0
  · go_enter Tryd.func6, Tryd.ntmps6
    go_wp2_with (go_at_call 7; refine (crcAwake_any _ HT.out).mono ?_; rintro e w1 ⟨rfl, hb1⟩)
    all_goals (go_ret; exact ⟨rfl, hb1⟩)
  by_cases q2 : (l0.length : Int) < at_
  · go_enter Tryd.func6, Tryd.ntmps6
    go_wp2_with (go_at_call 7; refine (crcAwake_any _ HT.out).mono ?_; rintro e w1 ⟨rfl, hb1⟩)
    all_goals (go_ret; exact ⟨rfl, hb1⟩)
  obtain ⟨p, rfl⟩ : ∃ p : Nat, at_ = (p : Int) := ⟨at_.toNat, by omega⟩
  have hp : p ≤ l0.length := by omega
  obtain ⟨Ah, hhead, hhs⟩ := run_head (P := Tryd.prog) Tryd.underlying22 (by intro w; kernel_rfl) A0 l0.length c0 p (by omega)
  obtain ⟨At, htail, hts⟩ := run_tail (P := Tryd.prog) Tryd.underlying22 (by intro w; kernel_rfl) s0 l0.length c0 p rfl hp h0
  have z1 : (0 : Int) ≤ (p : Int) := by omega
  have z2 : (p : Int) ≤ (l0.length : Int) := by omega
  have z3 : (p : Int) ≤ (c0 : Int) := by omega
  have z4 : (l0.length : Int) ≤ (c0 : Int) := by omega
  have SH := Lib.hid (hhs w w.heap.size (l0.take p) (s0.take p))
  have ST := Lib.hid hts
  have S0 := Lib.hid s0
  clear hhs hts s0
  go_enter Tryd.func6, Tryd.ntmps6
  go_wp2_with fail
  refine (crcAwake_any _ HT.out).mono ?_
  rintro e w1 ⟨rfl, hb1⟩
  have zw := hb1.size
  have HT1 := HT.out.below hb1 (Nat.le_refl _)
  have v0 := (S0.out.below hb1 (Nat.le_refl _)).mono zw
  have vh := (SH.out.below hb1 (Nat.le_refl _)).mono zw
  have vt := (ST.out.below hb1 (Nat.le_refl _)).mono zw
  have lh : (l0.take p).length = p := by rw [List.length_take]; omega
  have lt : (l0.drop p).length = l0.length - p := by rw [List.length_drop]
  have m1 : c0 - p ≤ maxLen := Nat.le_trans (Nat.sub_le _ _) HM0.out
  have F2 := ofIs w1 #[.slice Ah p c0, .slice At (l0.length - p) (c0 - p)] 2 [l0.take p, l0.drop p] rfl (by decide) (((Views.nil w1 _).snoc lh.symm (by omega) HM0.out vh).snoc lt.symm (by omega) m1 vt) HT1
  have F1 := ofIs w1 #[.slice A0 l0.length c0] 1 [l0] rfl (by decide) ((Views.nil w1 _).snoc rfl h0 HM0.out v0) HT1
  have FH := ofIs w1 #[.slice Ah p c0] 1 [l0.take p] rfl (by decide) ((Views.nil w1 _).snoc lh.symm (by omega) HM0.out vh) HT1
  have F3 := ofIs w1 #[.slice none 0 0, .slice A0 l0.length c0, .slice none 0 0] 3 [[], l0, []] rfl (by decide) ((((Views.nil w1 _).snoc rfl (Nat.le_refl _) (by decide) (Sees.nil _ _ _)).snoc rfl h0 HM0.out v0).snoc rfl (Nat.le_refl _) (by decide) (Sees.nil _ _ _)) HT1
  have FA : AddIs w1 (Crc.add 0#32 (l0.take p)) At (l0.length - p) (c0 - p) (Crc.add 0#32 l0) := fun W hb => by
    have h := crcAdd_any (Crc.add 0#32 (l0.take p)) At (l0.length - p) (c0 - p) (l0.drop p) _ W lt.symm (by omega) m1 (vt.below hb (Nat.le_refl _)) (HT1.below hb (Nat.le_refl _))
    rw [Crc.add_append, List.take_append_drop] at h
    exact h
  rw [show ([l0.take p, l0.drop p] : List (List UInt8)).flatten = l0 by simp] at F2
  rw [show ([l0] : List (List UInt8)).flatten = l0 by simp] at F1
  rw [show ([l0.take p] : List (List UInt8)).flatten = l0.take p by simp] at FH
  rw [show ([[], l0, []] : List (List UInt8)).flatten = l0 by simp] at F3
  generalize Crc.add 0#32 l0 = q at F1 F2 F3 FA
  generalize Crc.add 0#32 (l0.take p) = r at FH FA
  have G2 := Lib.hid F2
  have G1 := Lib.hid F1
  have GH := Lib.hid FH
  have G3 := Lib.hid F3
  have GA := Lib.hid FA
  have HB := Lib.hid hb1
  clear F1 F2 F3 FH FA v0 vh vt lh lt m1 HT1 hb1
  go_wp2_with fail
  go_region_held3 (fun _ => True) (trivial)
    (first
      | (go_at_call 9
         with_reducible refine (G2.out.go _ _ 22 ?_ ?_).mono ?_
         · (repeat' (first | with_reducible refine at_drew ?_ | (with_reducible refine at_new _ _ ?_ _; (· (simp; done))) | (with_reducible refine at_past _ _ ?_ _ ?_; (· (first | (simp; done) | (simp; omega))))))
         · (repeat' (first | with_reducible exact Below.refl _ _ | with_reducible apply Below.drew | with_reducible refine bl_alloc ?_ (Nat.le_refl _) _))
         rintro e w' ⟨rfl, rfl⟩)
      | (go_at_call 9
         with_reducible refine (G3.out.go _ _ 22 ?_ ?_).mono ?_
         · (repeat' (first | with_reducible refine at_drew ?_ | (with_reducible refine at_new _ _ ?_ _; (· (simp; done))) | (with_reducible refine at_past _ _ ?_ _ ?_; (· (first | (simp; done) | (simp; omega))))))
         · (repeat' (first | with_reducible exact Below.refl _ _ | with_reducible apply Below.drew | with_reducible refine bl_alloc ?_ (Nat.le_refl _) _))
         rintro e w' ⟨rfl, rfl⟩)
      | (go_at_call 9
         with_reducible refine (G1.out.go _ _ 22 ?_ ?_).mono ?_
         · (repeat' (first | with_reducible refine at_drew ?_ | (with_reducible refine at_new _ _ ?_ _; (· (simp; done))) | (with_reducible refine at_past _ _ ?_ _ ?_; (· (first | (simp; done) | (simp; omega))))))
         · (repeat' (first | with_reducible exact Below.refl _ _ | with_reducible apply Below.drew | with_reducible refine bl_alloc ?_ (Nat.le_refl _) _))
         rintro e w' ⟨rfl, rfl⟩)
      | (go_at_call 9
         with_reducible refine (GH.out.go _ _ 22 ?_ ?_).mono ?_
         · (repeat' (first | with_reducible refine at_drew ?_ | (with_reducible refine at_new _ _ ?_ _; (· (simp; done))) | (with_reducible refine at_past _ _ ?_ _ ?_; (· (first | (simp; done) | (simp; omega))))))
         · (repeat' (first | with_reducible exact Below.refl _ _ | with_reducible apply Below.drew | with_reducible refine bl_alloc ?_ (Nat.le_refl _) _))
         rintro e w' ⟨rfl, rfl⟩)
      | (go_at_call 10
         with_reducible refine (GA.out.go _ ?_).mono ?_
         · (repeat' (first | with_reducible exact Below.refl _ _ | with_reducible apply Below.drew | with_reducible refine bl_alloc ?_ (Nat.le_refl _) _))
         rintro e w' ⟨rfl, rfl⟩))
  all_goals
    go_wp2
    go_ret
    exact ⟨rfl, HB.out.trans (Below.mono (by repeat' (first | with_reducible exact Below.refl _ _ | with_reducible apply Below.drew | with_reducible refine bl_alloc ?_ (Nat.le_refl _) _)) zw)⟩
end Go.Proofs.YtfoddcelpgihfaaDoor
