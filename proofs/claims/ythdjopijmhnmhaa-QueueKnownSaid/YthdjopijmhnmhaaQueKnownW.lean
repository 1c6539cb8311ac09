/- The walk of QueueKnown. -/
import Derived.Test.YthdjopijmhnmhaaQueAwake
namespace Go.Proofs.Ythdjopijmhnmhaa
open Go.Conc Go.RowKit

theorem Sees.beside {w w' : World} {s B q2 c2 room2 : Nat} {cl2 : Bool} {ys : List (List UInt8)} {A : Option Addr} {l : List UInt8} (h : Sees w B A l) (h2 : Que w q2 c2 room2 cl2 ys) (hs : s = q2 ∨ s = c2) (ho : Only [s] w w') : Sees w' B A l :=
  h.only ho (fun b hb => by
    rw [List.mem_singleton] at hb; subst hb
    rcases hs with rfl | rfl
    · exact h2.noByte.1
    · exact h2.noByte.2)

set_option maxHeartbeats 1600000 in
set_option maxRecDepth 100000 in
theorem queueKnown_walk (w : World) : Calls Try.prog 3 #[] w fun e w' => e = .returned (.bool true) ∧ Below w.heap.size w w' := by
  have hkc := fun (w : World) (C : Array Value) (n c : Nat) => Lib.run_convert_bytes_const (P := Try.prog) w 27 5 C n c Try.underlying27 Try.underlying5
  go_enter Try.func3, Try.ntmps3
  go_wp2_with fail
  refine (awake_any _).mono ?_
  rintro e w1 ⟨rfl, b1⟩
  go_wp2_with fail
  refine (new_bad 0 w1 (by omega)).mono ?_
  rintro e w1' ⟨rfl, rfl⟩
  go_wp2_with fail
  refine (new_bad 65 w1 (by omega)).mono ?_
  rintro e w1' ⟨rfl, rfl⟩
  go_wp2_with fail
  refine (new_ok 1 w1 (by omega) (by omega)).mono ?_
  rintro e w2 ⟨p, rfl, hp, p1, p2, b2⟩
  go_wp2_with fail
  refine (new_ok 2 w2 (by omega) (by omega)).mono ?_
  rintro e w3 ⟨q, rfl, hq, q1, q2, b3⟩
  have hp := hp.below b3
  have z1 := b1.size
  have z2 := b2.size
  have z3 := b3.size
  -- Ready(p, q)
  go_wp2_with fail
  refine (ready_none _ 2 [some ⟨p, 0, none⟩, some ⟨q, 0, none⟩] 2 rfl _ (Ptrs.new w3 _ _ _ rfl) (by simp) (by decide) ?_).mono ?_
  · intro j hj
    match j, hj with
    | 0, _ => exact Empt.que (hp.below (below_alloc _ _))
    | 1, _ => exact Empt.que (hq.below (below_alloc _ _))
  rintro e w4 ⟨rfl, e4⟩
  have b4 : Below w3.heap.size w3 w4 := by rw [← e4]; exact below_alloc _ _
  clear e4
  have hp := hp.below b4
  have hq := hq.below b4
  have z4 := b4.size
  -- q.Put, q.Close, q.Close
  go_wp2_with fail
  refine (put_new w4 _ _ [120] rfl _ rfl _ (by decide) hq (by decide)).mono ?_
  rintro e w5 ⟨rfl, hq5, o5, z5⟩
  have hp := hp.beside hq (.inr rfl) o5 (by omega) (by omega)
  go_wp2_with fail
  refine (close_any w5 hq5).mono ?_
  rintro e w6 ⟨rfl, hq6, o6⟩
  have hp := hp.beside hq5 (.inl rfl) o6 (by omega) (by omega)
  go_wp2_with fail
  refine (close_any w6 hq6).mono ?_
  rintro e w7 ⟨rfl, hq7, o7⟩
  have hp := hp.beside hq6 (.inl rfl) o7 (by omega) (by omega)
  have z6 := o6.size
  have z7 := o7.size
  -- q.Put: refused
  go_wp2_with fail
  refine (put_shut _ _ _ _ (hq7.below (below_alloc _ _))).mono ?_
  rintro e w8 ⟨rfl, e8⟩
  have b8 : Below w7.heap.size w7 w8 := by rw [← e8]; exact below_alloc _ _
  clear e8
  have hp := hp.below b8
  have hq := hq7.below b8
  have z8 := b8.size
  -- Ready(p, nil, q)
  go_wp2_with fail
  refine (ready_ok _ 3 [some ⟨p, 0, none⟩, none, some ⟨q, 0, none⟩] 3 rfl 2 (by simp) _ (Ptrs.new w8 _ _ _ rfl) (by simp) (by decide) ?_ rfl (hq.below (below_alloc _ _))).mono ?_
  · intro j hj
    match j, hj with
    | 0, _ => exact Empt.que (hp.below (below_alloc _ _))
    | 1, _ => exact Empt.nil _
  rintro e w9 ⟨A9, cp9, rfl, _, _, s9, hq9, o9⟩
  have o9' : Only [w2.heap.size] w8 w9 := (Only.of_below (below_alloc _ _)).trans o9
  have hp := hp.beside hq (.inr rfl) o9' (by omega) (by omega)
  have z9 := o9'.size
  -- Move(q, p)
  go_wp2_with fail
  refine (move_empty w9 hq9 hp (by decide) (by omega)).mono ?_
  rintro e w10 ⟨rfl, n10, e10⟩
  have b10 : Below w9.heap.size w9 w10 := by rw [e10]; exact below_drewN (Below.refl _ _) _
  clear e10
  have hp := hp.below b10
  have hq := hq9.below b10
  have s10 := s9.below b10 (Nat.le_refl _)
  have z10 := b10.size
  -- p.Put
  go_wp2_with fail
  refine (put_new w10 _ _ [122] rfl _ rfl _ (by decide) hp (by decide)).mono ?_
  rintro e w11 ⟨rfl, hp11, o11, z11⟩
  have hq := hq.beside hp (.inr rfl) o11 (by omega) (by omega)
  have s11 := s10.beside hp (.inr rfl) o11
  -- r
  go_wp2_with fail
  refine (new_ok 1 w11 (by omega) (by omega)).mono ?_
  rintro e w12 ⟨r, rfl, hr, r1, r2, b12⟩
  have hp := hp11.below b12
  have hq := hq.below b12
  have s12 := s11.below b12 (by omega)
  have z12 := b12.size
  go_wp2_with fail
  refine (put_new w12 _ _ [119] rfl _ rfl _ (by decide) hr (by decide)).mono ?_
  rintro e w13 ⟨rfl, hr13, o13, z13⟩
  have hq := hq.beside hr (.inr rfl) o13 (by omega) (by omega)
  have hp := hp.beside hr (.inr rfl) o13 (by omega) (by omega)
  have s13 := s12.beside hr (.inr rfl) o13
  -- Move(p, r), Move(p, p)
  go_wp2_with fail
  refine (move_shut w13 hp hr13 (by decide) (by omega)).mono ?_
  rintro e w14 ⟨rfl, n14, e14⟩
  have b14 : Below w13.heap.size w13 w14 := by rw [e14]; exact below_drewN (Below.refl _ _) _
  clear e14
  have hp := hp.below b14
  have hq := hq.below b14
  have s14 := s13.below b14 (by omega)
  have z14 := b14.size
  go_wp2_with fail
  refine (move_same p w14).mono ?_
  rintro e w14' ⟨rfl, rfl⟩
  -- p.Take
  go_wp2_with fail
  refine (take_ok w14 hp).mono ?_
  rintro e w15 ⟨A15, cp15, rfl, _, _, s15, hp15, o15⟩
  have hq := hq.beside hp (.inr rfl) o15 (by omega) (by omega)
  have s9 := s14.beside hp (.inr rfl) o15
  have hconv := run_sees_string (P := Try.prog) w15 27 9 5 Try.underlying27 Try.underlying5 Try.underlying9 s9 1 cp9 rfl
  have hconv2 := run_sees_string (P := Try.prog) w15 27 9 5 Try.underlying27 Try.underlying5 Try.underlying9 s15 1 cp15 rfl
  have bT : Below w.heap.size w w15 := by
    have x1 := (b1.trans ((b2.mono (by omega)).trans ((b3.mono (by omega)).trans (b4.mono (by omega))))).trans (o5.below1 (by omega) (by omega))
    have x2 := ((x1.trans (o6.below1 (by omega) (by omega))).trans (o7.below1 (by omega) (by omega))).trans (b8.mono (by omega))
    have x3 := ((x2.trans (o9'.below1 (by omega) (by omega))).trans (b10.mono (by omega))).trans (o11.below1 (by omega) (by omega))
    have x4 := ((x3.trans (b12.mono (by omega))).trans (o13.below1 (by omega) (by omega))).trans (b14.mono (by omega))
    exact x4.trans (o15.below1 (by omega) (by omega))
  -- Ready()
  go_wp2_with fail
  refine (ready_none none 0 [] 0 rfl w15 (fun h => absurd rfl h) (by simp) (by decide) (fun j hj => by simp at hj)).mono ?_
  rintro e w15' ⟨rfl, rfl⟩
  go_wp2_with fail
  refine (closed_any w15 hq).mono ?_
  rintro e w15' ⟨rfl, rfl⟩
  go_wp2_with fail
  refine (closed_any w15 hp15).mono ?_
  rintro e w15' ⟨rfl, rfl⟩
  go_wp2_with fail
  refine (len_any w15 hq).mono ?_
  rintro e w15' ⟨rfl, rfl⟩
  go_wp2
  go_ret
  exact ⟨rfl, bT⟩
end Go.Proofs.Ythdjopijmhnmhaa
