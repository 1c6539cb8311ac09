/- The walk of QueuePlays. -/
import Derived.Test.YtgmimhhehmahiaaQueStep
import Derived.Test.YtgmimhhehmahiaaQueR45
import Derived.Test.YtgmimhhehmahiaaQueR30
import Derived.Test.YtgmimhhehmahiaaQueRT
import Derived.Test.YtgmimhhehmahiaaQueR43
import Derived.Test.YtgmimhhehmahiaaQueActsIn
import Derived.Deep.DeepCutAuto
import Derived.Deep.CutBlock
import Derived.Deep.RegionHeld3
import Derived.StillTailTactics
namespace Go.Proofs.Ytgmimhhehmahiaa
open Go.Conc Go.RowKit
set_option linter.unusedVariables false

theorem Try.sizeStr : ∀ w, (Go.sizeOf 9).run Try.prog w = .ok 1 w := fun _ => by kernel_rfl

theorem new_at (n : Nat) (w : World) (q : Nat) (hq : w.heap.size + 1 = q) (h1 : 1 ≤ n) (h2 : n ≤ 64) : Calls Try.prog 9 #[.int .i64 (n : Int)] w fun e w' => e = .returned (.tuple #[.pointer (some ⟨q, 0, none⟩), .int .i64 0]) ∧ newQ w n = w' := by
  subst hq
  exact new_raw n w h1 h2

/-- The world in which three queues and their mirror have been made. -/
def startW (w : World) (N : Nat) : World :=
  ((w.alloc (.cells #[.pointer (some ⟨N + 1, 0, none⟩), .pointer (some ⟨N + 3, 0, none⟩), .pointer (some ⟨N + 5, 0, none⟩)] 23)).alloc (.cells #[.slice none 0 0, .slice none 0 0, .slice none 0 0] 38)).alloc (.cells #[.bool false, .bool false, .bool false] 39)
theorem startW_inv (w1 : World) (N room : Nat) (hN : w1.heap.size = N) : Inv (startW (newQ (newQ (newQ w1 room) room) room) N) N room (fun _ => []) (fun _ => []) (fun _ => false) (fun _ => false) ∧ Below w1.heap.size w1 (startW (newQ (newQ (newQ w1 room) room) room) N) := by
  have s2 : (newQ w1 room).heap.size = N + 2 := by rw [newQ_size, hN]
  have s3 : (newQ (newQ w1 room) room).heap.size = N + 4 := by rw [newQ_size, s2]
  have s4 : (newQ (newQ (newQ w1 room) room) room).heap.size = N + 6 := by rw [newQ_size, s3]
  have q1 := newQ_que w1 room
  have q2 := newQ_que (newQ w1 room) room
  have q3 := newQ_que (newQ (newQ w1 room) room) room
  have b2 := newQ_below (newQ w1 room) room
  have b3 := newQ_below (newQ (newQ w1 room) room) room
  have b1 := newQ_below w1 room
  rw [hN] at q1
  rw [s2] at q2
  rw [s3] at q3
  have q1 := (q1.below b2).below b3
  have q2 := q2.below b3
  have bb : Below w1.heap.size w1 (newQ (newQ (newQ w1 room) room) room) := b1.trans ((b2.mono (by omega)).trans (b3.mono (by omega)))
  generalize newQ (newQ (newQ w1 room) room) room = w at s4 q1 q2 q3 bb ⊢
  have hbs : Below w.heap.size w (startW w N) := (((Below.refl _ _).alloc (Nat.le_refl _) _).alloc (by simp) _).alloc (by simp; omega) _
  have hz : (startW w N).heap.size = N + 9 := by simp [startW, s4]
  have c6 : (startW w N).heap[N + 6]? = some (.cells #[.pointer (some ⟨N + 1, 0, none⟩), .pointer (some ⟨N + 3, 0, none⟩), .pointer (some ⟨N + 5, 0, none⟩)] 23 (0, 0)) := by
    unfold startW
    rw [Below.heap_alloc _ _ _ (by simp; omega), Below.heap_alloc _ _ _ (by simp; omega), ← s4]
    exact heap_alloc_new _ _
  have c7 : (startW w N).heap[N + 7]? = some (.cells #[.slice none 0 0, .slice none 0 0, .slice none 0 0] 38 (0, 0)) := by
    unfold startW
    rw [Below.heap_alloc _ _ _ (by simp; omega)]
    have := heap_alloc_new (w.alloc (.cells #[.pointer (some ⟨N + 1, 0, none⟩), .pointer (some ⟨N + 3, 0, none⟩), .pointer (some ⟨N + 5, 0, none⟩)] 23)) (.cells #[.slice none 0 0, .slice none 0 0, .slice none 0 0] 38)
    rw [show (w.alloc (.cells #[.pointer (some ⟨N + 1, 0, none⟩), .pointer (some ⟨N + 3, 0, none⟩), .pointer (some ⟨N + 5, 0, none⟩)] 23)).heap.size = N + 7 by simp [s4]] at this
    exact this
  have c8 : (startW w N).heap[N + 8]? = some (.cells #[.bool false, .bool false, .bool false] 39 (0, 0)) := by
    unfold startW
    have := heap_alloc_new ((w.alloc (.cells #[.pointer (some ⟨N + 1, 0, none⟩), .pointer (some ⟨N + 3, 0, none⟩), .pointer (some ⟨N + 5, 0, none⟩)] 23)).alloc (.cells #[.slice none 0 0, .slice none 0 0, .slice none 0 0] 38)) (.cells #[.bool false, .bool false, .bool false] 39)
    rw [show ((w.alloc (.cells #[.pointer (some ⟨N + 1, 0, none⟩), .pointer (some ⟨N + 3, 0, none⟩), .pointer (some ⟨N + 5, 0, none⟩)] 23)).alloc (.cells #[.slice none 0 0, .slice none 0 0, .slice none 0 0] 38)).heap.size = N + 8 by simp [s4]] at this
    exact this
  refine ⟨⟨fun j hj => ?_, fun j hj => ?_, fun j hj => ⟨none, 0, ?_, Nat.le_refl _, Nat.zero_le _, fun h => absurd rfl h⟩, fun j hj => ?_, fun j hj => ?_, fun j hj => ?_, fun j hj s hs => absurd hs (by simp), by omega⟩, bb.trans (hbs.mono (by omega))⟩
  · match j, hj with
    | 0, _ => exact q1.below hbs
    | 1, _ => exact q2.below hbs
    | 2, _ => exact q3.below hbs
  · simp only [World.cell?, c6]
    match j, hj with
    | 0, _ => rfl
    | 1, _ => rfl
    | 2, _ => rfl
  · simp only [World.cell?, c7]
    match j, hj with
    | 0, _ => rfl
    | 1, _ => rfl
    | 2, _ => rfl
  · simp [World.frozen?, c7]
  · simp only [World.cell?, c8]
    match j, hj with
    | 0, _ => rfl
    | 1, _ => rfl
    | 2, _ => rfl
  · simp [World.frozen?, c8]

set_option maxHeartbeats 60000000 in
set_option maxRecDepth 100000 in
theorem queuePlays_walk (room : Int) (hroom : (Lit.int .i64 room).wf = true) (A : Option Addr) (len cap : Nat) (xs : List Act4) (hlen : len = xs.length) (hcap : len ≤ cap) (hmax : cap ≤ maxLen) (w : World) (hxs : Acts w w.heap.size A xs) :
    Calls Try.prog 4 #[.int .i64 room, .slice A len cap] w fun e w' => e = .returned (.bool true) ∧ Below w.heap.size w w' := by
  subst hlen
  unfold maxLen at hmax
  clear hroom
  obtain ⟨i0, hi, hz0, hz1, hz2⟩ := info_parts Try.infoStr
  by_cases hr1 : room < 1
  ·
    go_enter Try.func4, Try.ntmps4
    go_wp2_with fail
    refine (awake_any _).mono ?_
    rintro e w1 ⟨rfl, b1⟩
    go_wp2_with fail
    refine (new_bad room w1 (.inl hr1)).mono ?_
    rintro e w1' ⟨rfl, rfl⟩
    go_wp2
    go_ret
    exact ⟨rfl, b1⟩
  by_cases hr2 : 64 < room
  ·
    go_enter Try.func4, Try.ntmps4
    go_wp2_with fail
    refine (awake_any _).mono ?_
    rintro e w1 ⟨rfl, b1⟩
    go_wp2_with fail
    refine (new_bad room w1 (.inr hr2)).mono ?_
    rintro e w1' ⟨rfl, rfl⟩
    go_wp2
    go_ret
    exact ⟨rfl, b1⟩
  obtain ⟨rm, rfl⟩ : ∃ n : Nat, room = (n : Int) := ⟨room.toNat, by omega⟩
  have hm1 : 1 ≤ rm := by omega
  have hm2 : rm ≤ 64 := by omega
  have hr1 : ¬ ((rm : Int) < 1) := by omega
  by_cases hbig : 80 < (xs.length : Int)
  ·
    go_enter Try.func4, Try.ntmps4
    go_wp2_with fail
    refine (awake_any _).mono ?_
    rintro e w1 ⟨rfl, b1⟩
    go_wp2_with fail
    refine (new_raw rm w1 hm1 hm2).mono ?_
    rintro e w2 ⟨rfl, e2⟩
    have b2 : Below w1.heap.size w1 w2 := by rw [← e2]; exact newQ_below w1 rm
    clear e2
    go_wp2_with fail
    refine (new_raw rm w2 hm1 hm2).mono ?_
    rintro e w3 ⟨rfl, e3⟩
    have b3 : Below w2.heap.size w2 w3 := by rw [← e3]; exact newQ_below w2 rm
    clear e3
    go_wp2_with fail
    refine (new_raw rm w3 hm1 hm2).mono ?_
    rintro e w4 ⟨rfl, e4⟩
    have b4 : Below w3.heap.size w3 w4 := by rw [← e4]; exact newQ_below w3 rm
    clear e4
    go_wp2
    go_ret
    have z1 := b1.size
    have z2 := b2.size
    have z3 := b3.size
    exact ⟨rfl, b1.trans ((b2.mono z1).trans ((b3.mono (by omega)).trans (b4.mono (by omega))))⟩
  have HX := Lib.hid hxs
  clear hxs
  go_enter Try.func4, Try.ntmps4
  go_wp2_with fail
  refine (awake_any _).mono ?_
  rintro e w1 ⟨rfl, b1⟩
  have z1 := b1.size
  obtain ⟨N, HN⟩ : ∃ N, Hid (w1.heap.size = N) := ⟨_, Lib.hid rfl⟩
  have HSI := Lib.hid (startW_inv w1 N rm HN.out)
  have hN : w.heap.size ≤ N := by rw [← HN.out]; exact z1
  go_wp2_with fail
  refine (new_at rm w1 (N + 1) (by rw [HN.out]) hm1 hm2).mono ?_
  rintro e w2 ⟨rfl, e2⟩
  have E2 := Lib.hid e2
  clear e2
  go_wp2_with fail
  refine (new_at rm w2 (N + 3) (by rw [← E2.out, newQ_size, HN.out]) hm1 hm2).mono ?_
  rintro e w3 ⟨rfl, e3⟩
  have E3 := Lib.hid e3
  clear e3
  go_wp2_with fail
  refine (new_at rm w3 (N + 5) (by rw [← E3.out, newQ_size, ← E2.out, newQ_size, HN.out]) hm1 hm2).mono ?_
  rintro e w4 ⟨rfl, e4⟩
  have E4 := Lib.hid e4
  clear e4
  have hz4 : w4.heap.size = N + 6 := by rw [← E4.out, newQ_size, ← E3.out, newQ_size, ← E2.out, newQ_size, HN.out]
  go_wp2_with fail
  clear hz4
  have hst : Inv (startW w4 N) N rm (fun _ => []) (fun _ => []) (fun _ => false) (fun _ => false) ∧ Below w.heap.size w (startW w4 N) := by
    have h := HSI.out
    rw [E2.out, E3.out, E4.out] at h
    exact ⟨h.1, b1.trans (h.2.mono z1)⟩
  clear HSI E2 E3 E4 b1 z1 HN
  go_loopw [14] (fun i wr => ∃ (k : Nat) (F : Nat → List ByteArray) (C : Nat → Bool), k ≤ xs.length ∧ i = .int .i64 k ∧ Inv wr N rm F F C C ∧ Below w.heap.size w wr)
    (fun i _ => xs.length - (intOf i).toNat)
  case atStart => exact ⟨0, _, _, Nat.zero_le _, rfl, hst.1, hst.2⟩
  case round =>
    clear hst
    obtain ⟨k, F, C, hk, rfl, hinv, hb⟩ := hrel
    by_cases hlt : k < xs.length
    · obtain ⟨g, o, rfl, hg, hcells⟩ := (HX.out.below hb (Nat.le_refl _)) (List.length_pos_iff.1 (by omega))
      obtain ⟨c0, c1, c2, c3⟩ := hcells k hlt
      clear hcells
      generalize xs[k] = x at c0 c1 c2 c3
      obtain ⟨op, xq, xt, s⟩ := x
      dsimp only at c0 c1 c2 c3
      have hba : Below w.heap.size w (wr.alloc (.cells #[.int .i64 op, .int .i64 xq, .int .i64 xt, .string s] 41)) := hb.alloc hb.size _
      by_cases h1 : xq < 0
      ·
        as_aux_lemma =>
          go_wp2
          go_ret
          exact ⟨rfl, hba⟩
      by_cases h2 : 2 < xq
      ·
        as_aux_lemma =>
          go_wp2
          go_ret
          exact ⟨rfl, hba⟩
      by_cases h3 : xt < 0
      ·
        as_aux_lemma =>
          go_wp2
          go_ret
          exact ⟨rfl, hba⟩
      by_cases h4 : 2 < xt
      ·
        as_aux_lemma =>
          go_wp2
          go_ret
          exact ⟨rfl, hba⟩
      by_cases h5 : 100 < (s.size : Int)
      ·
        as_aux_lemma =>
          go_wp2
          go_ret
          exact ⟨rfl, hba⟩
      obtain ⟨kq, rfl⟩ : ∃ n : Nat, xq = (n : Int) := ⟨xq.toNat, by omega⟩
      obtain ⟨kt, rfl⟩ : ∃ n : Nat, xt = (n : Int) := ⟨xt.toNat, by omega⟩
      have hkq : kq < 3 := by omega
      have hkt : kt < 3 := by omega
      have hs100 : s.size ≤ 100 := by omega
      go_upto_block 2 with fail
      have hx : (wr.alloc (.cells #[.int .i64 op, .int .i64 kq, .int .i64 kt, .string s] 41)).heap[wr.heap.size]? = some (.cells #[.int .i64 op, .int .i64 kq, .int .i64 kt, .string s] 41 (0, 0)) := heap_alloc_new _ _
      have hinva := hinv.below (below_alloc wr (.cells #[.int .i64 op, .int .i64 kq, .int .i64 kt, .string s] 41))
      have hxN : N + 9 ≤ wr.heap.size := hinv.size
      clear hinv hb c0 c1 c2 c3
      generalize wr.heap.size = xb at hx hxN ⊢
      generalize wr.alloc (.cells #[.int .i64 op, .int .i64 kq, .int .i64 kt, .string s] 41) = wa at hx hinva hba ⊢
      go_cut [16] (fun s16 wx => ∃ (F' : Nat → List ByteArray) (C' : Nat → Bool), s16 = .bool true ∧ Inv wx N rm F' F' C' C' ∧ Below w.heap.size w wx)
      case first =>
        have hlive : Live w.heap.size w N rm xb op kq kt s F F C C wa := ⟨hinva, hx, hxN, hba, Nat.le_refl _, hN⟩
        have x1 := hlive.act.x1
        have x2 := hlive.act.x2
        have x3 := hlive.act.x3
        have hxl := hlive.act.lt
        have pq : wa.cell? ⟨N + 6, kq, none⟩ = some (.pointer (some ⟨N + 2 * kq + 1, 0, none⟩)) := hinva.ptr kq hkq
        have pt : wa.cell? ⟨N + 6, kt, none⟩ = some (.pointer (some ⟨N + 2 * kt + 1, 0, none⟩)) := hinva.ptr kt hkt
        obtain ⟨Aq, capq, rq, rq1, rq2, rq3⟩ := hinva.row kq hkq
        obtain ⟨At, capt, rt, rt1, rt2, rt3⟩ := hinva.row kt hkt
        have rq : wa.cell? ⟨N + 6 + 1, kq, none⟩ = some (.slice Aq (F kq).length capq) := rq
        have rt : wa.cell? ⟨N + 6 + 1, kt, none⟩ = some (.slice At (F kt).length capt) := rt
        have rqf : wa.frozen? ⟨N + 6 + 1, kq, none⟩ = false := hinva.rowf kq hkq
        have rtf : wa.frozen? ⟨N + 6 + 1, kt, none⟩ = false := hinva.rowf kt hkt
        have kcq : wa.cell? ⟨N + 6 + 1 + 1, kq, none⟩ = some (.bool (C kq)) := hinva.clo kq hkq
        have kct : wa.cell? ⟨N + 6 + 1 + 1, kt, none⟩ = some (.bool (C kt)) := hinva.clo kt hkt
        have kcqf : wa.frozen? ⟨N + 6 + 1 + 1, kq, none⟩ = false := hinva.clof kq hkq
        have hN8 : N + 6 + 1 + 1 < wa.heap.size := by have := hinva.size; omega
        have hN7 : N + 6 + 1 < wa.heap.size := by omega
        have hN6 : N + 6 < wa.heap.size := by omega
        have hkq1 : (kq : Int) < 3 := by omega
        have hkt1 : (kt : Int) < 3 := by omega
        have hkq0 : (0 : Int) ≤ (kq : Int) := by omega
        have hkt0 : (0 : Int) ≤ (kt : Int) := by omega
        unfold maxLen at rq2 rt2
        have HL := Lib.hid hlive
        clear hlive hinva hba hx
        by_cases hop0 : op = 0
        · subst hop0
          as_aux_lemma =>
            obtain ⟨b, Hb⟩ : ∃ b, Hid (b = (decide ((F kq).length < rm) && !C kq)) := ⟨_, Lib.hid rfl⟩
            by_cases hl : (F kq).length < rm
            case' pos =>
              have hd : decide (((F kq).length : Int) < (rm : Int)) = true := by simp; omega
              have hd2 : decide ((F kq).length < rm) = true := by simp; omega
            case' neg =>
              have hd : decide (((F kq).length : Int) < (rm : Int)) = false := by simp; omega
              have hd2 : decide ((F kq).length < rm) = false := by simp; omega
            all_goals
              cases hC : C kq
              all_goals
                rw [hC] at kcq
                have hb' := Hb.out
                rw [hC, hd2] at hb'
                simp only [Bool.not_true, Bool.not_false, Bool.and_true, Bool.and_false] at hb'
            all_goals
              subst hb'
              go_wp2_with fail
              refine region30 (by show 215 < 386; omega) rfl rfl rfl HL.out hkq hs100 Hb.out ?_
              intro af wf hfr h16 hlv
              have ha := hfr.eq (by intro t ht; simp at ht; show t < 386; omega)
              simp only [List.foldl_cons, List.foldl_nil] at ha
              clear hfr
              rw [h16] at ha
              clear h16
              generalize af.eval (.tmp 205) = u205 at ha
              generalize af.eval (.tmp 206) = u206 at ha
              generalize af.eval (.tmp 207) = u207 at ha
              generalize af.eval (.tmp 208) = u208 at ha
              generalize af.eval (.tmp 209) = u209 at ha
              generalize af.eval (.tmp 210) = u210 at ha
              generalize af.eval (.tmp 211) = u211 at ha
              generalize af.eval (.tmp 212) = u212 at ha
              generalize af.eval (.tmp 213) = u213 at ha
              generalize af.eval (.tmp 214) = u214 at ha
              generalize af.eval (.tmp 215) = u215 at ha
              subst ha
              simp only [Act.put, List.setIfInBounds_toArray, List.set_cons_zero, List.set_cons_succ]
            rotate_left 2
            · have hlv : Live w.heap.size w N rm xb 0 kq kt s (upd F kq (F kq ++ [s])) F C C wf := hlv
              obtain ⟨wp, rfl⟩ : ∃ x : World, x = wf := ⟨_, rfl⟩
              obtain ⟨Ap, capp, rp, rp1, rp2, rp3⟩ := hlv.inv.row kq hkq
              have hlen64 : (F kq).length ≤ 64 := by omega
              have rp : wp.cell? ⟨N + 7, kq, none⟩ = some (.slice Ap (F kq).length capp) := rp
              clear x1 x2 x3 pq pt rq rt rqf rtf kcq kct kcqf
              go_wp2_with fail
              refine region32 (by show 229 < 386; omega) rfl rfl hlv hkq hlen64 rp rp3 ?_
              clear rp rp1 rp2 rp3 hlen64 hlv
              intro af wf hfr hlf
              have ha := hfr.eq (by intro t ht; simp at ht; show t < 386; omega)
              simp only [List.foldl_cons, List.foldl_nil] at ha
              clear hfr
              generalize af.eval (.tmp 217) = u217 at ha
              generalize af.eval (.tmp 218) = u218 at ha
              generalize af.eval (.tmp 219) = u219 at ha
              generalize af.eval (.tmp 220) = u220 at ha
              generalize af.eval (.tmp 221) = u221 at ha
              generalize af.eval (.tmp 222) = u222 at ha
              generalize af.eval (.tmp 223) = u223 at ha
              generalize af.eval (.tmp 224) = u224 at ha
              generalize af.eval (.tmp 225) = u225 at ha
              generalize af.eval (.tmp 226) = u226 at ha
              generalize af.eval (.tmp 227) = u227 at ha
              generalize af.eval (.tmp 228) = u228 at ha
              generalize af.eval (.tmp 229) = u229 at ha
              subst ha
              simp only [Act.put, List.setIfInBounds_toArray, List.set_cons_zero, List.set_cons_succ]
              go_wp2_with fail
              go_meet
              exact ⟨_, _, by first | rfl | trivial, hlf.inv, hlf.bel⟩
            all_goals
              go_wp2_with fail
              go_meet
              exact ⟨_, _, by first | rfl | trivial, hlv.inv, hlv.bel⟩
        by_cases hop1 : op = 1
        · subst hop1
          as_aux_lemma =>
            have hop : ((1 : Int) == 0) = false := rfl
            cases hF : F kq with
            | nil =>
              rw [hF] at rq
              have hz0' : decide (0 < ([] : List ByteArray).length) = false := rfl
              go_wp2_with fail
              refine (take_inv_none HL.out.inv hkq hF).mono ?_
              rintro e w' ⟨rfl, rfl⟩
              go_wp2_with fail
              go_quiet (fail)
              go_wp2_with fail
              go_meet
              exact ⟨_, _, by first | rfl | trivial, (HL.out.drewN _).inv, (HL.out.drewN _).bel⟩
            | cons x r =>
              rw [hF] at rq rq1 rq3
              go_wp2_with fail
              refine (take_inv HL.out.inv hkq hF).mono ?_
              rintro e w1 ⟨A1, cp1, rfl, s1, hi1, hst1⟩
              have hlv := HL.out.step hi1 hst1
              obtain ⟨Ap, capp, rp, rp1, rp2, rp3⟩ := hlv.inv.row kq hkq
              rw [hF] at rp rp1 rp3
              have rp : w1.cell? ⟨N + 6 + 1, kq, none⟩ = some (.slice Ap (r.length + 1) capp) := rp
              obtain ⟨Ar, hAr, hsr⟩ := run_tail_strs (P := Try.prog) Try.underlying37 Try.sizeStr (A := Ap) r.length capp rp1
              have rp4 := hsr w1 _ x r rfl rp3
              obtain ⟨gp, og, rfl, hgp, hcp⟩ := rp3 (by simp)
              have hc0 : w1.cell? ⟨gp, og, none⟩ = some (.string x) := hcp 0 (by simp)
              have y1 := hlv.act.x1
              have rpf : w1.frozen? ⟨N + 6 + 1, kq, none⟩ = false := hlv.inv.rowf kq hkq
              have hconv := fun n => run_sees_string (P := Try.prog) (w1.drewN n) 27 9 5 Try.underlying27 Try.underlying5 Try.underlying9 (s1.drewN n) x.size cp1 rfl
              rw [bytes_back] at hconv
              have H1 := Lib.hid rp1
              have H2 := Lib.hid rp2
              have H4 := Lib.hid rp4
              have HAr := Lib.hid hAr
              unfold maxLen at rp2
              have hcc : r.length + 1 ≤ capp := rp1
              have HRP := Lib.hid rp
              have HLP := Lib.hid hlv
              clear x1 x2 x3 pq pt rq rt rqf rtf kcq kct kcqf s1 hi1 hst1 hlv hcp rp1 rp4 hsr hAr
              go_wp2_with fail
              go_quiet (fail)
              go_wp2_with fail
              refine region37 (by show 277 < 386; omega) rfl rfl (HLP.out.drewN _) hkq HRP.out H1.out H2.out HAr.out H4.out ?_
              intro af wf hfr hlf
              have ha := hfr.eq (by intro t ht; simp at ht; show t < 386; omega)
              simp only [List.foldl_cons, List.foldl_nil] at ha
              clear hfr
              generalize af.eval (.tmp 270) = u270 at ha
              generalize af.eval (.tmp 271) = u271 at ha
              generalize af.eval (.tmp 272) = u272 at ha
              generalize af.eval (.tmp 273) = u273 at ha
              generalize af.eval (.tmp 274) = u274 at ha
              generalize af.eval (.tmp 275) = u275 at ha
              generalize af.eval (.tmp 276) = u276 at ha
              generalize af.eval (.tmp 277) = u277 at ha
              subst ha
              simp only [Act.put, List.setIfInBounds_toArray, List.set_cons_zero, List.set_cons_succ]
              go_wp2_with fail
              go_meet
              exact ⟨_, _, by first | rfl | trivial, hlf.inv, hlf.bel⟩
        by_cases hop2 : op = 2
        · subst hop2
          as_aux_lemma =>
            have hop0 : ((2 : Int) == 0) = false := rfl
            have hop1 : ((2 : Int) == 1) = false := rfl
            go_wp2_with fail
            refine (close_inv HL.out.inv hkq).mono ?_
            rintro e w1 ⟨rfl, hi1, hst1⟩
            have hlv := HL.out.step hi1 hst1
            have y1 := hlv.act.x1
            have kc : w1.cell? ⟨N + 6 + 1 + 1, kq, none⟩ = some (.bool (C kq)) := hlv.inv.clo kq hkq
            have kcf : w1.frozen? ⟨N + 6 + 1 + 1, kq, none⟩ = false := hlv.inv.clof kq hkq
            have HFIN := Lib.hid (hlv.putClo hkq true)
            clear x1 x2 x3 pq pt rq rt rqf rtf kcq kct kcqf hi1 hst1 hlv
            go_wp2_with fail
            go_meet
            exact ⟨_, _, by first | rfl | trivial, HFIN.out.inv, HFIN.out.bel⟩
        by_cases hop3 : op = 3
        · subst hop3
          as_aux_lemma =>
            have hop0 : ((3 : Int) == 0) = false := rfl
            have hop1 : ((3 : Int) == 1) = false := rfl
            have hop2 : ((3 : Int) == 2) = false := rfl
            obtain ⟨b, Hb⟩ : ∃ b, Hid (b = mayMove rm F C kq kt) := ⟨_, Lib.hid rfl⟩
            by_cases hkk : kq = kt
            ·
              as_aux_lemma =>
                subst hkk
                have hb' : b = false := by rw [Hb.out]; simp [mayMove]
                subst hb'
                have hne : ((kq : Int) != (kq : Int)) = false := by simp
                go_wp2_with fail
                refine region43 (by show 332 < 386; omega) rfl rfl rfl HL.out hkq hkt Hb.out ?_
                intro af wf hfr h16 hlv
                have ha := hfr.eq (by intro t ht; simp at ht; show t < 386; omega)
                simp only [List.foldl_cons, List.foldl_nil] at ha
                clear hfr
                rw [h16] at ha
                clear h16
                generalize af.eval (.tmp 320) = u320 at ha
                generalize af.eval (.tmp 321) = u321 at ha
                generalize af.eval (.tmp 322) = u322 at ha
                generalize af.eval (.tmp 323) = u323 at ha
                generalize af.eval (.tmp 324) = u324 at ha
                generalize af.eval (.tmp 325) = u325 at ha
                generalize af.eval (.tmp 326) = u326 at ha
                generalize af.eval (.tmp 327) = u327 at ha
                generalize af.eval (.tmp 328) = u328 at ha
                generalize af.eval (.tmp 329) = u329 at ha
                generalize af.eval (.tmp 330) = u330 at ha
                generalize af.eval (.tmp 331) = u331 at ha
                generalize af.eval (.tmp 332) = u332 at ha
                subst ha
                simp only [Act.put, List.setIfInBounds_toArray, List.set_cons_zero, List.set_cons_succ]
                go_wp2_with fail
                go_meet
                exact ⟨_, _, by first | rfl | trivial, hlv.inv, hlv.bel⟩
            have hne1 : ((kq : Int) == (kt : Int)) = false := by simp; omega
            have hne2 : ((kq : Int) != (kt : Int)) = true := by simp; omega
            have hne3 : (kq == kt) = false := by simp; omega
            have hne4 : (kq != kt) = true := by simp; omega
            cases hF : F kq with
            | nil =>
              as_aux_lemma =>
                have hb' : b = false := by rw [Hb.out]; simp [mayMove, hF]
                subst hb'
                rw [hF] at rq
                go_wp2_with fail
                refine region43 (by show 332 < 386; omega) rfl rfl rfl HL.out hkq hkt Hb.out ?_
                intro af wf hfr h16 hlv
                have ha := hfr.eq (by intro t ht; simp at ht; show t < 386; omega)
                simp only [List.foldl_cons, List.foldl_nil] at ha
                clear hfr
                rw [h16] at ha
                clear h16
                generalize af.eval (.tmp 320) = u320 at ha
                generalize af.eval (.tmp 321) = u321 at ha
                generalize af.eval (.tmp 322) = u322 at ha
                generalize af.eval (.tmp 323) = u323 at ha
                generalize af.eval (.tmp 324) = u324 at ha
                generalize af.eval (.tmp 325) = u325 at ha
                generalize af.eval (.tmp 326) = u326 at ha
                generalize af.eval (.tmp 327) = u327 at ha
                generalize af.eval (.tmp 328) = u328 at ha
                generalize af.eval (.tmp 329) = u329 at ha
                generalize af.eval (.tmp 330) = u330 at ha
                generalize af.eval (.tmp 331) = u331 at ha
                generalize af.eval (.tmp 332) = u332 at ha
                subst ha
                simp only [Act.put, List.setIfInBounds_toArray, List.set_cons_zero, List.set_cons_succ]
                go_wp2_with fail
                go_meet
                exact ⟨_, _, by first | rfl | trivial, hlv.inv, hlv.bel⟩
            | cons x r =>
              rw [hF] at rq
              by_cases hl : (F kt).length < rm
              case' pos =>
                have hd : decide (((F kt).length : Int) < (rm : Int)) = true := by simp; omega
                have hd2 : decide ((F kt).length < rm) = true := by simp; omega
              case' neg =>
                have hd : decide (((F kt).length : Int) < (rm : Int)) = false := by simp; omega
                have hd2 : decide ((F kt).length < rm) = false := by simp; omega
              all_goals
                cases hC : C kt
                all_goals
                  rw [hC] at kct
                  have hb' := Hb.out
                  unfold mayMove at hb'
                  rw [hC, hd2, hF] at hb'
                  simp only [List.length_cons, Bool.not_true, Bool.not_false, Bool.and_true, Bool.and_false, ne_eq, hkk, not_false_eq_true, decide_true, Nat.zero_lt_succ] at hb'
              rotate_left 2
              ·
                as_aux_lemma =>
                  subst hb'
                  go_wp2_with fail
                  refine region43 (by show 332 < 386; omega) rfl rfl rfl HL.out hkq hkt Hb.out ?_
                  intro af wf hfr h16 hlv
                  have ha := hfr.eq (by intro t ht; simp at ht; show t < 386; omega)
                  simp only [List.foldl_cons, List.foldl_nil] at ha
                  clear hfr
                  rw [h16] at ha
                  clear h16
                  generalize af.eval (.tmp 320) = u320 at ha
                  generalize af.eval (.tmp 321) = u321 at ha
                  generalize af.eval (.tmp 322) = u322 at ha
                  generalize af.eval (.tmp 323) = u323 at ha
                  generalize af.eval (.tmp 324) = u324 at ha
                  generalize af.eval (.tmp 325) = u325 at ha
                  generalize af.eval (.tmp 326) = u326 at ha
                  generalize af.eval (.tmp 327) = u327 at ha
                  generalize af.eval (.tmp 328) = u328 at ha
                  generalize af.eval (.tmp 329) = u329 at ha
                  generalize af.eval (.tmp 330) = u330 at ha
                  generalize af.eval (.tmp 331) = u331 at ha
                  generalize af.eval (.tmp 332) = u332 at ha
                  subst ha
                  simp only [Act.put, List.setIfInBounds_toArray, List.set_cons_zero, List.set_cons_succ]
                  as_aux_lemma =>
                    have hlv : Live w.heap.size w N rm xb 3 kq kt s (moved F kq kt) F C C wf := hlv
                    obtain ⟨wp, rfl⟩ : ∃ x : World, x = wf := ⟨_, rfl⟩
                    obtain ⟨Ap, capp, rp, rp1, rp2, rp3⟩ := hlv.inv.row kq hkq
                    rw [hF] at rp rp1 rp3
                    have rp : wp.cell? ⟨N + 7, kq, none⟩ = some (.slice Ap (r.length + 1) capp) := rp
                    obtain ⟨gp, og, rfl, hgp, hcp⟩ := rp3 (by simp)
                    have hc0 : wp.cell? ⟨gp, og, none⟩ = some (.string x) := hcp 0 (by simp)
                    obtain ⟨Aq', capt', ru, ru1, ru2, ru3⟩ := hlv.inv.row kt hkt
                    have ru : wp.cell? ⟨N + 7, kt, none⟩ = some (.slice Aq' (F kt).length capt') := ru
                    have hlen64 : (F kt).length ≤ 64 := by omega
                    clear x1 x2 x3 pq pt rq rt rqf rtf kcq kct kcqf hcp rp1
                    go_wp2_with fail
                    refine region45 (by show 350 < 386; omega) rfl rfl hlv hkq hkt hlen64 ru ru3 rp hgp hc0 ?_
                    clear rp rp2 ru ru1 ru2 ru3 hc0 hgp hlen64 hlv
                    intro af wf hfr hlf
                    have ha := hfr.eq (by intro t ht; simp at ht; show t < 386; omega)
                    simp only [List.foldl_cons, List.foldl_nil] at ha
                    clear hfr
                    generalize af.eval (.tmp 334) = u334 at ha
                    generalize af.eval (.tmp 335) = u335 at ha
                    generalize af.eval (.tmp 336) = u336 at ha
                    generalize af.eval (.tmp 337) = u337 at ha
                    generalize af.eval (.tmp 338) = u338 at ha
                    generalize af.eval (.tmp 339) = u339 at ha
                    generalize af.eval (.tmp 340) = u340 at ha
                    generalize af.eval (.tmp 341) = u341 at ha
                    generalize af.eval (.tmp 342) = u342 at ha
                    generalize af.eval (.tmp 343) = u343 at ha
                    generalize af.eval (.tmp 344) = u344 at ha
                    generalize af.eval (.tmp 345) = u345 at ha
                    generalize af.eval (.tmp 346) = u346 at ha
                    generalize af.eval (.tmp 347) = u347 at ha
                    generalize af.eval (.tmp 348) = u348 at ha
                    generalize af.eval (.tmp 349) = u349 at ha
                    generalize af.eval (.tmp 350) = u350 at ha
                    subst ha
                    simp only [Act.put, List.setIfInBounds_toArray, List.set_cons_zero, List.set_cons_succ]
                    as_aux_lemma =>
                      have hup : upd F kt (F kt ++ [x]) kq = x :: r := by unfold upd; rw [if_neg hkk]; exact hF
                      obtain ⟨Ap, capp, rp, rp1, rp2, rp3⟩ := hlf.inv.row kq hkq
                      rw [hup] at rp rp1 rp3
                      have rp : wf.cell? ⟨N + 6 + 1, kq, none⟩ = some (.slice Ap (r.length + 1) capp) := rp
                      obtain ⟨Ar, hAr, hsr⟩ := run_tail_strs (P := Try.prog) Try.underlying37 Try.sizeStr (A := Ap) r.length capp rp1
                      have rp4 := hsr wf _ x r rfl rp3
                      have HMV : Hid (moved F kq kt = upd (upd F kt (F kt ++ [x])) kq r) := by
                        show _ = _
                        unfold moved; rw [hF]; rfl
                      have H1 := Lib.hid rp1
                      have H2 := Lib.hid rp2
                      have H4 := Lib.hid rp4
                      have HAr := Lib.hid hAr
                      have HRP := Lib.hid rp
                      have HLP := Lib.hid hlf
                      clear hlf hup rp rp1 rp2 rp3 rp4 hsr hAr
                      go_wp2_with fail
                      refine region46 (by show 358 < 386; omega) rfl rfl HLP.out hkq HRP.out H1.out H2.out HAr.out H4.out ?_
                      intro af2 wf2 hfr2 hlf2
                      rw [← HMV.out] at hlf2
                      have ha2 := hfr2.eq (by intro t ht; simp at ht; show t < 386; omega)
                      simp only [List.foldl_cons, List.foldl_nil] at ha2
                      clear hfr2
                      generalize af2.eval (.tmp 351) = v351 at ha2
                      generalize af2.eval (.tmp 352) = v352 at ha2
                      generalize af2.eval (.tmp 353) = v353 at ha2
                      generalize af2.eval (.tmp 354) = v354 at ha2
                      generalize af2.eval (.tmp 355) = v355 at ha2
                      generalize af2.eval (.tmp 356) = v356 at ha2
                      generalize af2.eval (.tmp 357) = v357 at ha2
                      generalize af2.eval (.tmp 358) = v358 at ha2
                      subst ha2
                      simp only [Act.put, List.setIfInBounds_toArray, List.set_cons_zero, List.set_cons_succ]
                      go_wp2_with fail
                      go_meet
                      exact ⟨_, _, by first | rfl | trivial, hlf2.inv, hlf2.bel⟩
              all_goals
                as_aux_lemma =>
                  subst hb'
                  go_wp2_with fail
                  refine region43 (by show 332 < 386; omega) rfl rfl rfl HL.out hkq hkt Hb.out ?_
                  intro af wf hfr h16 hlv
                  have ha := hfr.eq (by intro t ht; simp at ht; show t < 386; omega)
                  simp only [List.foldl_cons, List.foldl_nil] at ha
                  clear hfr
                  rw [h16] at ha
                  clear h16
                  generalize af.eval (.tmp 320) = u320 at ha
                  generalize af.eval (.tmp 321) = u321 at ha
                  generalize af.eval (.tmp 322) = u322 at ha
                  generalize af.eval (.tmp 323) = u323 at ha
                  generalize af.eval (.tmp 324) = u324 at ha
                  generalize af.eval (.tmp 325) = u325 at ha
                  generalize af.eval (.tmp 326) = u326 at ha
                  generalize af.eval (.tmp 327) = u327 at ha
                  generalize af.eval (.tmp 328) = u328 at ha
                  generalize af.eval (.tmp 329) = u329 at ha
                  generalize af.eval (.tmp 330) = u330 at ha
                  generalize af.eval (.tmp 331) = u331 at ha
                  generalize af.eval (.tmp 332) = u332 at ha
                  subst ha
                  simp only [Act.put, List.setIfInBounds_toArray, List.set_cons_zero, List.set_cons_succ]
                  go_wp2_with fail
                  go_meet
                  exact ⟨_, _, by first | rfl | trivial, hlv.inv, hlv.bel⟩
        as_aux_lemma =>
          have hq0 : (op == 0) = false := by simp [hop0]
          have hq1 : (op == 1) = false := by simp [hop1]
          have hq2 : (op == 2) = false := by simp [hop2]
          have hq3 : (op == 3) = false := by simp [hop3]
          obtain ⟨K, HK⟩ : ∃ K, Hid (K = first F) := ⟨_, Lib.hid rfl⟩
          have hK : K < 3 := by rw [HK.out]; exact first_lt F
          have hK0 : (0 : Int) ≤ (K : Int) := by omega
          have hK1 : (K : Int) < 3 := by omega
          have HBF : Hid (∀ j, j < K → F j = []) := by
            show ∀ j, j < K → F j = []
            rw [HK.out]
            exact first_before F
          cases hF : F K with
          | nil =>
            have hK2 : K = 2 := by rw [HK.out] at hF ⊢; exact first_nil F hF
            subst hK2
            go_wp2_with fail
            refine (ready_inv_none HL.out.inv (by rw [← HK.out]; exact hF)).mono ?_
            rintro e w1 ⟨rfl, hi1, hst1⟩
            have hlv := HL.out.step hi1 hst1
            have HLV := Lib.hid hlv
            clear x1 x2 x3 pq pt rq rt rqf rtf kcq kct kcqf hi1 hst1 hlv
            go_wp2_with fail
            go_loop [24] (fun i => ∃ j : Nat, j ≤ 2 ∧ i = .int .i64 j) (fun i => 2 - (intOf i).toNat)
            case atStart => exact ⟨0, by omega, rfl⟩
            case round =>
              obtain ⟨j, hj, rfl⟩ := hrel
              obtain ⟨Aj, cj, y0, y3, y4, _⟩ := HLV.out.inv.row j (by omega)
              have y2 : w1.cell? ⟨N + 6 + 1, j, none⟩ = some (.slice Aj (F j).length cj) := y0
              have hj0 : (0 : Int) ≤ (j : Int) := by omega
              have hj1 : (j : Int) < 3 := by omega
              by_cases hjk : j < 2
              · rw [HBF.out j hjk] at y0 y2
                have y2' : w1.cell? ⟨N + 6 + 1, j, none⟩ = some (.slice Aj 0 cj) := y2
                clear y0 y2
                have hj2 : (j : Int) < 2 := by omega
                go_wp2_with fail
                go_round
                case rel => exact ⟨j + 1, by omega, by go_num⟩
                case measure => simp [intOf]; omega
              · obtain rfl : j = 2 := by omega
                rw [hF] at y0 y2
                have y2' : w1.cell? ⟨N + 6 + 1, 2, none⟩ = some (.slice Aj 0 cj) := y2
                clear y0 y2
                go_wp2_with fail
                go_quiet (fail)
                go_wp2_with fail
                go_meet
                exact ⟨_, _, by first | rfl | trivial, (HLV.out.drewN _).inv, (HLV.out.drewN _).bel⟩
          | cons x r =>
            go_wp2_with fail
            refine (ready_inv HL.out.inv (x := x) (r := r) (by rw [← HK.out]; exact hF)).mono ?_
            rintro e w1 ⟨A1, cp1, rfl, s1, hi1, hst1⟩
            rw [← HK.out] at hi1 ⊢
            have hlv := HL.out.step hi1 hst1
            obtain ⟨Ap, capp, rp, rp1, rp2, rp3⟩ := hlv.inv.row K hK
            rw [hF] at rp rp1 rp3
            have rp : w1.cell? ⟨N + 6 + 1, K, none⟩ = some (.slice Ap (r.length + 1) capp) := rp
            obtain ⟨Ar, hAr, hsr⟩ := run_tail_strs (P := Try.prog) Try.underlying37 Try.sizeStr (A := Ap) r.length capp rp1
            have rp4 := hsr w1 _ x r rfl rp3
            obtain ⟨gp, og, rfl, hgp, hcp⟩ := rp3 (by simp)
            have hc0 : w1.cell? ⟨gp, og, none⟩ = some (.string x) := hcp 0 (by simp)
            have rpf : w1.frozen? ⟨N + 6 + 1, K, none⟩ = false := hlv.inv.rowf K hK
            have hconv := fun n => run_sees_string (P := Try.prog) (w1.drewN n) 27 9 5 Try.underlying27 Try.underlying5 Try.underlying9 (s1.drewN n) x.size cp1 rfl
            rw [bytes_back] at hconv
            have HFIN := Lib.hid (fun n => (hlv.drewN n).putRow hK (A := Ar) (n := r.length) (cap := capp - 1) (l := r) rfl (by simp at rp1; omega) (by omega) rp4)
            have HLV := Lib.hid hlv
            unfold maxLen at rp2
            have hcc : r.length + 1 ≤ capp := rp1
            clear x1 x2 x3 pq pt rq rt rqf rtf kcq kct kcqf hi1 hst1 hlv s1 hcp rp1 rp4 hsr
            have HCV := Lib.hid hconv
            have HC0 := Lib.hid hc0
            have HRP := Lib.hid rp
            have HAR := Lib.hid hAr
            clear hconv hc0 rp hAr
            go_wp2_with fail
            go_loop [24] (fun i => ∃ j : Nat, j ≤ K ∧ i = .int .i64 j) (fun i => K - (intOf i).toNat)
            case atStart => exact ⟨0, by omega, rfl⟩
            case round =>
              obtain ⟨j, hj, rfl⟩ := hrel
              by_cases hjk : j < K
              · obtain ⟨Aj, cj, y0, y3, y4, _⟩ := HLV.out.inv.row j (by omega)
                have y2 : w1.cell? ⟨N + 6 + 1, j, none⟩ = some (.slice Aj (F j).length cj) := y0
                have hj0 : (0 : Int) ≤ (j : Int) := by omega
                have hj1 : (j : Int) < 3 := by omega
                have hj2 : (j : Int) < 2 := by omega
                rw [HBF.out j hjk] at y0 y2
                have y2' : w1.cell? ⟨N + 6 + 1, j, none⟩ = some (.slice Aj 0 cj) := y2
                clear y0 y2
                go_wp2_with fail
                go_round
                case rel => exact ⟨j + 1, by omega, by go_num⟩
                case measure => simp [intOf]; omega
              · obtain rfl : j = K := by omega
                have rp := HRP.out
                have hc0 := HC0.out
                have hconv := HCV.out
                have hAr := HAR.out
                by_cases hj2 : j < 2
                case' pos => have hj3 : (j : Int) < 2 := by omega
                case' neg => have hj3 : ¬ (j : Int) < 2 := by omega
                all_goals
                  go_wp2_with fail
                  go_quiet (fail)
                  go_wp2_with fail
                  go_meet
                  exact ⟨_, _, by first | rfl | trivial, (HFIN.out _).inv, (HFIN.out _).bel⟩
      case rest =>
        obtain ⟨F', C', rfl, hinv, hb⟩ := hcut
        as_aux_lemma =>
          have hN8' : N + 6 + 1 + 1 < wc.heap.size := by have := hinv.size; omega
          clear hx hinva hba
          go_wp2_with fail
          have HI := Lib.hid hinv
          have HB := Lib.hid hb
          clear hinv hb
          obtain ⟨wo, rfl⟩ : ∃ wo : World, wo = wr := ⟨_, rfl⟩
          go_loopw [25] (fun i wr => ∃ j : Nat, j ≤ 3 ∧ i = .int .i64 j ∧ Inv wr N rm F' F' C' C' ∧ Below w.heap.size w wr) (fun i _ => 3 - (intOf i).toNat)
          case atStart => exact ⟨0, by omega, rfl, HI.out, HB.out⟩
          case round =>
            clear HI HB hN8'
            obtain ⟨j, hj, rfl, hinv, hb⟩ := hrel
            have HI := Lib.hid hinv
            have HB := Lib.hid hb
            by_cases hj3 : j < 3
            · have y1 : wr.cell? ⟨N + 6, j, none⟩ = some (.pointer (some ⟨N + 2 * j + 1, 0, none⟩)) := hinv.ptr j hj3
              obtain ⟨Aj, cj, y2, y3, y4, _⟩ := hinv.row j hj3
              have y2 : wr.cell? ⟨N + 6 + 1, j, none⟩ = some (.slice Aj (F' j).length cj) := y2
              have y5 : wr.cell? ⟨N + 6 + 1 + 1, j, none⟩ = some (.bool (C' j)) := hinv.clo j hj3
              have hj0 : (0 : Int) ≤ (j : Int) := by omega
              have hj1 : (j : Int) < 3 := by omega
              clear hinv hb
              cases hCj : C' j
              all_goals
                rw [hCj] at y5
                have hcl : ∀ n, Calls Try.prog 15 #[.pointer (some ⟨N + 2 * j + 1, 0, none⟩)] (wr.drewN n) fun e w' => e = .returned (.bool _) ∧ w' = wr.drewN n := fun n => by
                  have h := closed_inv (HI.out.drewN n) hj3
                  rw [hCj] at h
                  exact h
                have HCL := Lib.hid hcl
                clear hcl
                go_wp2_with fail
                go_quiet ((first | (go_at_call 16; exact Calls.quiet_of_same (len_inv (HI.out.drewN _) hj3)) | (go_at_call 15; exact Calls.quiet_of_same (HCL.out _))))
                go_wp2_with fail
                go_roundw
                case rel => exact ⟨j + 1, by omega, by go_num, HI.out.drewN _, below_drewN HB.out _⟩
                case measure => simp [intOf]; omega
            · go_wp2_with fail
              go_roundw
              case rel => exact ⟨k + 1, F', C', by omega, by go_num, HI.out, HB.out⟩
              case measure => simp [intOf]; omega
    ·
      as_aux_lemma =>
        go_wp2
        go_ret
        exact ⟨rfl, hb⟩
end Go.Proofs.Ytgmimhhehmahiaa
