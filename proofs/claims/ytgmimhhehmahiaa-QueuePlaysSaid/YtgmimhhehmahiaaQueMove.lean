/- The walks of package queue's Ready and Move. -/
import Derived.Test.YtgmimhhehmahiaaQueTake
import Derived.LoopTactic
import Derived.LaidEqlPtr
namespace Go.Proofs.Ytgmimhhehmahiaa
open Go.Conc Go.RowKit

/-- The queue at p gives nothing. -/
def Empt (w : World) (p : Option Addr) : Prop := p = none ∨ ∃ q c room cl, p = some ⟨q, 0, none⟩ ∧ Que w q c room cl []
theorem Empt.nil (w : World) : Empt w none := .inl rfl
theorem Empt.que {w : World} {q c room : Nat} {cl : Bool} (h : Que w q c room cl []) : Empt w (some ⟨q, 0, none⟩) := .inr ⟨q, c, room, cl, rfl, h⟩

theorem take_empt (p : Option Addr) (w : World) (h : Empt w p) : Calls Try.prog 14 #[.pointer p] w fun e w' => e = .returned (.tuple #[.slice none 0 0, .bool false]) ∧ w = w' := by
  rcases h with rfl | ⟨q, c, room, cl, rfl, h⟩
  · exact take_nil w
  · exact take_none w h

/-- A row of pointers. -/
def Ptrs (w : World) (A : Option Addr) (ps : List (Option Addr)) : Prop :=
  ps ≠ [] → ∃ g o, A = some ⟨g, o, none⟩ ∧ ∀ j (h : j < ps.length), w.cell? ⟨g, o + j, none⟩ = some (.pointer ps[j])

theorem Ptrs.new (w : World) (t : TypeId) (ps : List (Option Addr)) (cs : Array Value) (h : cs = (ps.map Value.pointer).toArray) : Ptrs (w.alloc (.cells cs t)) (some ⟨w.heap.size, 0, none⟩) ps := fun _ =>
  ⟨w.heap.size, 0, rfl, fun j hj => by
    subst h
    rw [Nat.zero_add, World.cell?_alloc_at _ _ _ _ rfl]
    simp [List.getElem?_eq_getElem hj]⟩

set_option maxHeartbeats 400000 in
theorem ready_ok (A : Option Addr) (cp : Nat) (ps : List (Option Addr)) (m : Nat) (hm : m = ps.length) (k : Nat) (hk : k < ps.length) (w : World) (hp : Ptrs w A ps) (hmc : ps.length ≤ cp) (hcm : cp ≤ maxLen) (hbefore : ∀ j (h : j < k), Empt w (ps[j]'(by omega)))
    {q c room : Nat} {cl : Bool} {x : List UInt8} {xs : List (List UInt8)} (hq : ps[k] = some ⟨q, 0, none⟩) (h : Que w q c room cl (x :: xs)) :
    Calls Try.prog 10 #[.slice A m cp] w fun e w' => ∃ A cp, e = .returned (.tuple #[.int .i64 (k : Int), .slice A x.length cp, .bool true]) ∧ x.length ≤ cp ∧ cp ≤ maxLen ∧ Sees w' w'.heap.size A x ∧ Que w' q c room cl xs ∧ Only [c] w w' := by
  subst hm
  obtain ⟨g, o, rfl, hcells⟩ := hp (List.length_pos_iff.1 (by omega))
  unfold maxLen at hcm
  have HQ := Lib.hid hq
  have HC := Lib.hid hcells
  have HB := Lib.hid hbefore
  clear hq hcells hbefore
  go_enter Try.func10, Try.ntmps10
  go_wp2
  go_loop [9] (fun i => ∃ j : Nat, j ≤ k ∧ i = .int .i64 j) (fun i => k - (intOf i).toNat)
  case atStart => exact ⟨0, Nat.zero_le _, rfl⟩
  case round =>
    obtain ⟨j, hj, rfl⟩ := hrel
    by_cases hlt : j < k
    · have hemp := HB.out j hlt
      have hcell := HC.out j (by omega)
      obtain ⟨p, HP⟩ : ∃ p, Hid (p = ps[j]'(by omega)) := ⟨_, Lib.hid rfl⟩
      rw [← HP.out] at hemp hcell
      go_wp2_with (go_at_call 14; refine (take_empt p w hemp).mono ?_; rintro e w' ⟨rfl, rfl⟩)
      go_round
      case rel => exact ⟨j + 1, by omega, by go_num⟩
      case measure => simp [intOf]; omega
    · obtain rfl : j = k := by omega
      have hcell := HC.out j hk
      rw [HQ.out] at hcell
      go_wp2_with (go_at_call 14; refine (take_ok w h).mono ?_; rintro e w' ⟨A1, cp1, rfl, h1, h2, h3, h4, h5⟩)
      go_ret3
      exact ⟨A1, cp1, rfl, h1, h2, h3, h4, h5⟩

set_option maxHeartbeats 400000 in
theorem ready_none (A : Option Addr) (cp : Nat) (ps : List (Option Addr)) (m : Nat) (hm : m = ps.length) (w : World) (hp : Ptrs w A ps) (hmc : ps.length ≤ cp) (hcm : cp ≤ maxLen) (hall : ∀ j (h : j < ps.length), Empt w ps[j]) :
    Calls Try.prog 10 #[.slice A m cp] w fun e w' => e = .returned (.tuple #[.int .i64 0, .slice none 0 0, .bool false]) ∧ w = w' := by
  subst hm
  unfold maxLen at hcm
  have HP := Lib.hid hp
  have HB := Lib.hid hall
  clear hp hall
  go_enter Try.func10, Try.ntmps10
  go_wp2
  go_loop [9] (fun i => ∃ j : Nat, j ≤ ps.length ∧ i = .int .i64 j) (fun i => ps.length - (intOf i).toNat)
  case atStart => exact ⟨0, Nat.zero_le _, rfl⟩
  case round =>
    obtain ⟨j, hj, rfl⟩ := hrel
    by_cases hlt : j < ps.length
    · have hemp := HB.out j hlt
      obtain ⟨g, o, rfl, hcells⟩ := HP.out (List.length_pos_iff.1 (by omega))
      have hcell := hcells j (by omega)
      clear hcells
      obtain ⟨p, HPP⟩ : ∃ p, Hid (p = ps[j]'(by omega)) := ⟨_, Lib.hid rfl⟩
      rw [← HPP.out] at hemp hcell
      go_wp2_with (go_at_call 14; refine (take_empt p w hemp).mono ?_; rintro e w' ⟨rfl, rfl⟩)
      go_round
      case rel => exact ⟨j + 1, by omega, by go_num⟩
      case measure => simp [intOf]; omega
    · go_wp2
      go_ret3
      exact ⟨rfl, rfl⟩

theorem Try.infoQueue : (Try.prog.info? 49).map (fun i => (i.size == 0)) = some false := by kernel_rfl
theorem infoQ : ∃ j, Try.prog.info? 49 = some j ∧ j.size ≠ 0 := by
  obtain ⟨i, hi, hb⟩ := Option.map_eq_some_iff.1 Try.infoQueue
  exact ⟨i, hi, by simpa using hb⟩
theorem ptr_same (w : World) (a : Addr) : (binOp .eql 23 (.pointer (some a)) (.pointer (some a))).run Try.prog w = .ok (.bool true) w := by
  obtain ⟨j, hj, _⟩ := infoQ
  exact run_eql_ptr_same w a Try.underlying23 hj
theorem ptr_other {w : World} {q c room q2 c2 room2 : Nat} {cl cl2 : Bool} {xs ys : List (List UInt8)} (h1 : Que w q c room cl xs) (h2 : Que w q2 c2 room2 cl2 ys) (hq : q ≠ q2) :
    (binOp .eql 23 (.pointer (some ⟨q, 0, none⟩)) (.pointer (some ⟨q2, 0, none⟩))).run Try.prog w = .ok (.bool false) w := by
  obtain ⟨j, hj, hs⟩ := infoQ
  obtain ⟨_, _, _, h, _⟩ := h1
  obtain ⟨_, _, _, h', _⟩ := h2
  exact run_eql_ptr_other w Try.underlying23 hj hs (fun e => hq (by injection e)) h h'

theorem move_same (q : Nat) (w : World) : Calls Try.prog 13 #[.pointer (some ⟨q, 0, none⟩), .pointer (some ⟨q, 0, none⟩)] w fun e w' => e = .returned (.bool false) ∧ w = w' := by
  have heq := ptr_same w ⟨q, 0, none⟩
  go_enter Try.func13, Try.ntmps13
  go_wp2
  go_ret
  exact ⟨rfl, rfl⟩

/-- to takes nothing more. -/
theorem move_shut {q c room q2 c2 room2 : Nat} {cl cl2 : Bool} {xs ys : List (List UInt8)} (w : World) (h1 : Que w q c room cl xs) (h2 : Que w q2 c2 room2 cl2 ys) (hs : (!cl2 && decide (ys.length < room2)) = false) (hq : q ≠ q2) :
    Calls Try.prog 13 #[.pointer (some ⟨q, 0, none⟩), .pointer (some ⟨q2, 0, none⟩)] w fun e w' => e = .returned (.bool false) ∧ ∃ n, w' = w.drewN n := by
  have heq := ptr_other h1 h2 hq
  have hacc := Lib.hid (accepts_any w h2 false hs.symm)
  clear hs
  go_enter Try.func13, Try.ntmps13
  go_wp2_with (go_at_call 18; refine hacc.out.mono ?_; rintro e w' ⟨rfl, n, rfl⟩)
  go_ret
  exact ⟨rfl, n, rfl⟩

theorem move_empty {q c room q2 c2 room2 : Nat} {cl : Bool} {ys : List (List UInt8)} (w : World) (h1 : Que w q c room cl []) (h2 : Que w q2 c2 room2 false ys) (hlt : ys.length < room2) (hq : q ≠ q2) :
    Calls Try.prog 13 #[.pointer (some ⟨q, 0, none⟩), .pointer (some ⟨q2, 0, none⟩)] w fun e w' => e = .returned (.bool false) ∧ ∃ n, w' = w.drewN n := by
  have heq := ptr_other h1 h2 hq
  have hacc := Lib.hid (accepts_any w h2 true (by simp [hlt]))
  have htk := Lib.hid (fun n => take_none (w.drewN n) (h1.drewN n))
  go_enter Try.func13, Try.ntmps13
  go_wp2_with fail
  refine hacc.out.mono ?_
  rintro e w' ⟨rfl, n, rfl⟩
  go_wp2_with fail
  refine (htk.out n).mono ?_
  rintro e w' ⟨rfl, rfl⟩
  go_wp2
  go_ret
  exact ⟨rfl, n, rfl⟩

theorem move_ok {q c room q2 c2 room2 : Nat} {cl : Bool} {x : List UInt8} {xs ys : List (List UInt8)} (w : World) (h1 : Que w q c room cl (x :: xs)) (h2 : Que w q2 c2 room2 false ys) (hlt : ys.length < room2) (hx : x.length ≤ 140737488355328) (hq : q ≠ q2) (hc : c ≠ c2) (hqc : q ≠ c2) (hcq : c ≠ q2) :
    Calls Try.prog 13 #[.pointer (some ⟨q, 0, none⟩), .pointer (some ⟨q2, 0, none⟩)] w fun e w' => e = .returned (.bool true) ∧ Que w' q c room cl xs ∧ Que w' q2 c2 room2 false (ys ++ [x]) ∧ Only [c, c2] w w' := by
  have heq := ptr_other h1 h2 hq
  have hacc := Lib.hid (accepts_any w h2 true (by simp [hlt]))
  have htk := Lib.hid (fun n => take_ok (w.drewN n) (h1.drewN n))
  go_enter Try.func13, Try.ntmps13
  go_wp2_with fail
  refine hacc.out.mono ?_
  rintro e w' ⟨rfl, n, rfl⟩
  go_wp2_with fail
  refine (htk.out n).mono ?_
  rintro e w1 ⟨A, cp, rfl, a1, a2, a3, a4, a5⟩
  have h2' : Que w1 q2 c2 room2 false ys := (h2.drewN n).beside (h1.drewN n) (.inr rfl) a5 (fun e => hcq e.symm) (fun e => hc e.symm)
  have a6 : Only [c] w w1 := ⟨a5.os, a5.tape, a5.output, a5.size, a5.block⟩
  clear heq
  go_wp2_with fail
  refine (put_ok A x.length cp x rfl w1 h2' hlt a3 hx).mono ?_
  rintro e w2 ⟨rfl, b1, b2⟩
  go_wp2
  go_ret
  exact ⟨rfl, a4.beside h2' (.inr rfl) b2 hqc hc, b1, (a6.more (by simp)).trans (b2.more (by simp))⟩
end Go.Proofs.Ytgmimhhehmahiaa
