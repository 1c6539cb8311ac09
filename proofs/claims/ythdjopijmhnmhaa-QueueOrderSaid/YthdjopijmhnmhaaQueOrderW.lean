/- The walk of QueueOrder. -/
import Derived.Test.YthdjopijmhnmhaaQueClosesW
namespace Go.Proofs.Ythdjopijmhnmhaa
open Go.Conc Go.RowKit
set_option linter.unusedVariables false

theorem mid_snoc {α : Type} (F : List α) (m k : Nat) (hm : m ≤ k) (hk : k < F.length) : (F.take (k + 1)).drop m = (F.take k).drop m ++ [F[k]] := by
  rw [List.take_succ_eq_append_getElem hk, List.drop_append_of_le_length (by simp; omega)]
theorem mid_cons {α : Type} (F : List α) (m k : Nat) (hm : m < k) (hk : k ≤ F.length) : (F.take k).drop m = F[m]'(by omega) :: (F.take k).drop (m + 1) := by
  rw [List.drop_eq_getElem_cons (by simp; omega)]
  simp
theorem elems_get (ss : List ByteArray) (k : Nat) (h : k < ss.length) : (elems ss)[k]'(by rw [elems_length]; exact h) = ss[k].data.toList := by simp [elems]

/-- The two queues' blocks lie apart. -/
structure Apart (B qa ca qb cb : Nat) : Prop where
  a1 : B ≤ ca
  a2 : ca < qa
  a3 : qa < cb
  a4 : cb < qb

theorem Apart.only {B qa ca qb cb : Nat} (h : Apart B qa ca qb cb) {w w' : World} (hB : B ≤ w.heap.size) {S : List Nat} (ho : Only S w w') (hS : ∀ s, s ∈ S → s = ca ∨ s = cb ∨ s = qa ∨ s = qb) : Below B w w' :=
  ho.below hB (fun s hs => by have := h.a1; have := h.a2; have := h.a3; have := h.a4; rcases hS s hs with rfl | rfl | rfl | rfl <;> omega)

/-- Ready of two queues that hold ys and xs: what comes first in ys ++ xs. -/
theorem ready_two (w : World) {B qa ca qb cb : Nat} {xs ys : List (List UInt8)} {x : List UInt8} {rest : List (List UInt8)} (hb : Que w qb cb 64 false ys) (ha : Que w qa ca 64 false xs) (hap : Apart B qa ca qb cb) (hxy : ys ++ xs = x :: rest) :
    Calls Try.prog 10 #[.slice (some ⟨w.heap.size, 0, none⟩) 2 2] (w.alloc (.cells #[.pointer (some ⟨qb, 0, none⟩), .pointer (some ⟨qa, 0, none⟩)] 23)) fun e w' =>
      ∃ (kk : Nat) (A : Option Addr) (cp : Nat) (xs' ys' : List (List UInt8)), e = .returned (.tuple #[.int .i64 (kk : Int), .slice A x.length cp, .bool true]) ∧ kk ≤ 1 ∧ Sees w' w'.heap.size A x ∧ Que w' qa ca 64 false xs' ∧ Que w' qb cb 64 false ys' ∧ ys' ++ xs' = rest ∧ Only [ca, cb] w w' := by
  have p1 := hap.a1
  have p2 := hap.a2
  have p3 := hap.a3
  have p4 := hap.a4
  have ha' := ha.below (below_alloc w (.cells #[.pointer (some ⟨qb, 0, none⟩), .pointer (some ⟨qa, 0, none⟩)] 23))
  have hb' := hb.below (below_alloc w (.cells #[.pointer (some ⟨qb, 0, none⟩), .pointer (some ⟨qa, 0, none⟩)] 23))
  cases ys with
  | nil =>
    rw [List.nil_append] at hxy
    subst hxy
    refine (ready_ok _ 2 [some ⟨qb, 0, none⟩, some ⟨qa, 0, none⟩] 2 rfl 1 (by simp) _ (Ptrs.new w _ _ _ rfl) (by simp) (by decide) ?_ rfl ha').mono ?_
    · intro j hj
      match j, hj with
      | 0, _ => exact Empt.que hb'
    rintro e w' ⟨A, cp, rfl, _, _, s, ha2, o⟩
    exact ⟨1, A, cp, rest, [], rfl, Nat.le_refl _, s, ha2, hb'.beside ha' (.inr rfl) o (by omega) (by omega), rfl, (Only.of_below (below_alloc w _)).trans (o.more (by simp))⟩
  | cons y ys =>
    rw [List.cons_append] at hxy
    injection hxy with h1 h2
    subst h1
    refine (ready_ok _ 2 [some ⟨qb, 0, none⟩, some ⟨qa, 0, none⟩] 2 rfl 0 (by simp) _ (Ptrs.new w _ _ _ rfl) (by simp) (by decide) (fun j hj => by omega) rfl hb').mono ?_
    rintro e w' ⟨A, cp, rfl, _, _, s, hb2, o⟩
    exact ⟨0, A, cp, xs, ys, rfl, Nat.zero_le _, s, ha'.beside hb' (.inr rfl) o (by omega) (by omega), hb2, h2, (Only.of_below (below_alloc w _)).trans (o.more (by simp))⟩

set_option maxHeartbeats 3200000 in
set_option maxRecDepth 100000 in
theorem queueOrder_walk (A : Option Addr) (len cap : Nat) (ss : List ByteArray) (hlen : len = ss.length) (hcap : len ≤ cap) (hmax : cap ≤ maxLen) (hreach : ∀ s ∈ ss, s.size ≤ 140737488351232) (step : Int) (hstep : (Lit.int .i64 step).wf = true) (w : World) (hss : Strs w w.heap.size A ss) :
    Calls Try.prog 6 #[.slice A len cap, .int .i64 step] w fun e w' => e = .returned (.bool true) ∧ Below w.heap.size w w' := by
  subst hlen
  unfold maxLen at hmax
  by_cases hbig : 50 < (ss.length : Int)
  · go_enter Try.func6, Try.ntmps6
    go_wp2_with fail
    refine (awake_any _).mono ?_
    rintro e w1 ⟨rfl, b1⟩
    go_wp2
    go_ret
    exact ⟨rfl, b1⟩
  by_cases hs1 : step < 1
  · go_enter Try.func6, Try.ntmps6
    go_wp2_with fail
    refine (awake_any _).mono ?_
    rintro e w1 ⟨rfl, b1⟩
    go_wp2
    go_ret
    exact ⟨rfl, b1⟩
  by_cases hs2 : 10 < step
  · go_enter Try.func6, Try.ntmps6
    go_wp2_with fail
    refine (awake_any _).mono ?_
    rintro e w1 ⟨rfl, b1⟩
    go_wp2
    go_ret
    exact ⟨rfl, b1⟩
  clear hstep
  have hs3 : 1 ≤ step := by omega
  have hs4 : step ≤ 10 := by omega
  have HS := Lib.hid hss
  have HR := Lib.hid hreach
  have hFl := elems_length ss
  obtain ⟨F, HF⟩ : ∃ F, Hid (F = elems ss) := ⟨_, Lib.hid rfl⟩
  rw [← HF.out] at hFl
  have HFL := Lib.hid hFl
  clear hss hreach hFl
  go_enter Try.func6, Try.ntmps6
  go_wp2_with fail
  refine (awake_any _).mono ?_
  rintro e w1 ⟨rfl, b1⟩
  have z1 := b1.size
  go_wp2_with fail
  refine (new_ok 64 w1 (by omega) (by omega)).mono ?_
  rintro e w2 ⟨qa, rfl, ha, qa1, qa2, b2⟩
  go_wp2_with fail
  refine (new_ok 64 w2 (by omega) (by omega)).mono ?_
  rintro e w3 ⟨qb, rfl, hb, qb1, qb2, b3⟩
  have ha := ha.below b3
  obtain ⟨ca, HCA⟩ : ∃ c, Hid (c = w1.heap.size) := ⟨_, Lib.hid rfl⟩
  obtain ⟨cb, HCB⟩ : ∃ c, Hid (c = w2.heap.size) := ⟨_, Lib.hid rfl⟩
  rw [← HCA.out] at ha qa1
  rw [← HCB.out] at hb qb1
  have z2 := b2.size
  have hap : Apart w.heap.size qa ca qb cb := ⟨by rw [HCA.out]; exact z1, qa1, by rw [HCB.out]; exact qa2, qb1⟩
  have b03 := b1.trans ((b2.mono z1).trans (b3.mono (by omega)))
  clear b1 b2 b3 HCA HCB qa1 qa2 qb1 qb2 z1 z2
  go_wp2_with fail
  go_loopw [10] (fun i wr => ∃ k m : Nat, k ≤ ss.length ∧ m ≤ k ∧ i = .int .i64 k ∧ Que wr qa ca 64 false ((F.take k).drop m) ∧ Que wr qb cb 64 false (F.take m) ∧ Below w.heap.size w wr) (fun i _ => ss.length - (intOf i).toNat)
  case atStart => exact ⟨0, 0, Nat.zero_le _, Nat.le_refl _, rfl, ha, hb, b03⟩
  case round =>
    obtain ⟨k, m, hk, hmk, rfl, ha, hb, hbel⟩ := hrel
    by_cases hlt : k < ss.length
    · obtain ⟨g, o, rfl, hg, hcells⟩ := (HS.out.below hbel (Nat.le_refl _)) (List.length_pos_iff.1 (by omega))
      have hcell := hcells k hlt
      clear hcells
      have hreach := HR.out _ (List.getElem_mem hlt)
      have hFk : k < F.length := by rw [HFL.out]; exact hlt
      have hsn := mid_snoc F m k hmk hFk
      have hFe : F[k] = ss[k].data.toList := by
        have := elems_get ss k hlt
        simpa [HF.out] using this
      rw [hFe] at hsn
      have hxl : (F[m]'(by omega)).length ≤ 140737488355328 := by
        have e1 : F[m]'(by omega) = ss[m].data.toList := by
          have := elems_get ss m (by omega)
          simpa [HF.out] using this
        rw [e1]
        have := HR.out _ (List.getElem_mem (show m < ss.length by omega))
        show ss[m].size ≤ _
        omega
      have hmc := mid_cons F m (k + 1) (by omega) hFk
      have htk : F.take (m + 1) = F.take m ++ [F[m]'(by omega)] := List.take_succ_eq_append_getElem (by omega)
      obtain ⟨x, HX⟩ : ∃ x, Hid (x = F[m]'(by omega)) := ⟨_, Lib.hid rfl⟩
      rw [← HX.out] at hxl hmc htk
      obtain ⟨sk, HK⟩ : ∃ sk, Hid (sk = ss[k]) := ⟨_, Lib.hid rfl⟩
      rw [← HK.out] at hcell hreach hsn
      have HN := Lib.hid hsn
      have HMC := Lib.hid hmc
      have HTK := Lib.hid htk
      clear hsn hFe hmc htk
      have hl : ((F.take k).drop m).length < 64 := by rw [List.length_drop, List.length_take]; omega
      have hl2 : (F.take m).length < 64 := by rw [List.length_take]; omega
      obtain ⟨cp, w4, hrun, hrow, hb4, _, _, _⟩ := run_bytes_row (P := Try.prog) wr 9 27 5 sk Try.underlying9 Try.underlying27 Try.underlying5
      have zr := hbel.size
      have la := ha.lt
      have lb := hb.lt
      have p1 := hap.a1
      have p2 := hap.a2
      have p3 := hap.a3
      have p4 := hap.a4
      go_wp2_with fail
      refine (put_str sk hreach cp wr w4 hb4 hrow ha hl).mono ?_
      rintro e w5 ⟨rfl, ha5, o5⟩
      have hb5 := hb.beside ha (.inr rfl) o5 (by omega) (by omega)
      have hbel5 := hbel.trans (o5.below1 hbel.size p1)
      rw [← HN.out] at ha5
      clear hrun hcell hrow ha hb hb4
      by_cases hm : (k : Int) % step = 0
      case neg =>
        go_wp2
        go_roundw
        case rel => exact ⟨k + 1, m, by omega, by omega, by go_num, ha5, hb5, hbel5⟩
        case measure => simp [intOf]; omega
      case pos =>
        rw [HMC.out] at ha5
        go_wp2_with fail
        refine (move_ok w5 ha5 hb5 hl2 hxl (by omega) (by omega) (by omega) (by omega)).mono ?_
        rintro e w6 ⟨rfl, ha6, hb6, o6⟩
        have hbel6 := hbel5.trans (hap.only (by have := hbel5.size; omega) o6 (by simp))
        rw [← HTK.out] at hb6
        clear ha5 hb5
        go_wp2
        go_roundw
        case rel => exact ⟨k + 1, m + 1, by omega, by omega, by go_num, ha6, hb6, hbel6⟩
        case measure => simp [intOf]; omega
    · have hks : k = ss.length := by omega
      rw [hks, ← HFL.out, List.take_length] at ha
      have hbi : F.take m ++ F.drop m = F.drop 0 := by rw [List.take_append_drop]; rfl
      have HBI := Lib.hid hbi
      clear hks hbi b03
      go_wp2_with fail
      obtain ⟨wo, rfl⟩ : ∃ wo : World, wo = wr := ⟨_, rfl⟩
      go_loopw [9] (fun i wr => ∃ (k : Nat) (xs ys : List (List UInt8)), k ≤ ss.length ∧ i = .int .i64 k ∧ Que wr qa ca 64 false xs ∧ Que wr qb cb 64 false ys ∧ Hid (ys ++ xs = F.drop k) ∧ Below w.heap.size w wr) (fun i _ => ss.length - (intOf i).toNat)
      case atStart => exact ⟨0, _, _, Nat.zero_le _, rfl, ha, hb, HBI, hbel⟩
      case round =>
        clear ha hb hbel HBI
        obtain ⟨k, xs, ys, hk, rfl, ha, hb, HXY, hbel⟩ := hrel
        by_cases hlt : k < ss.length
        · obtain ⟨g, o, rfl, hg, hcells⟩ := HS.out (List.length_pos_iff.1 (by omega))
          have hcell0 := hcells k hlt
          clear hcells
          have hFk : k < F.length := by rw [HFL.out]; exact hlt
          have hFe : F[k] = ss[k].data.toList := by
            have := elems_get ss k hlt
            simpa [HF.out] using this
          obtain ⟨sk, HK⟩ : ∃ sk, Hid (sk = ss[k]) := ⟨_, Lib.hid rfl⟩
          rw [← HK.out] at hcell0 hFe
          have hxy : ys ++ xs = sk.data.toList :: F.drop (k + 1) := by rw [HXY.out, List.drop_eq_getElem_cons hFk, hFe]
          have HXY2 := Lib.hid hxy
          have HC0 := Lib.hid hcell0
          clear hcell0 hFe hxy HXY
          go_wp2_with fail
          refine (ready_two wr hb ha hap HXY2.out).mono ?_
          rintro e w5 ⟨kk, A5, cp5, xs', ys', rfl, hkk, s5, ha5, hb5, hxy5, o5⟩
          have hbel5 := hbel.trans (hap.only hbel.size o5 (by simp))
          have hcell : w5.cell? ⟨g, o + k, none⟩ = some (.string sk) := (hbel5.cell (p := ⟨g, o + k, none⟩) hg).trans HC0.out
          have hconv := fun n => run_sees_string (P := Try.prog) (w5.drewN n) 27 9 5 Try.underlying27 Try.underlying5 Try.underlying9 (s5.drewN n) sk.size cp5 rfl
          rw [bytes_back] at hconv
          have hkk2 : ¬ (1 < (kk : Int)) := by omega
          have HXY5 := Lib.hid hxy5
          clear ha hb s5 hxy5
          go_wp2
          go_quiet (fail)
          go_wp2
          go_roundw
          case rel => exact ⟨k + 1, xs', ys', by omega, by go_num, ha5.drewN _, hb5.drewN _, HXY5, below_drewN hbel5 _⟩
          case measure => simp [intOf]; omega
        · have hnil : ys ++ xs = [] := by rw [HXY.out, List.drop_eq_nil_of_le (by rw [HFL.out]; omega)]
          obtain ⟨rfl, rfl⟩ := List.append_eq_nil_iff.1 hnil
          clear hnil HXY
          go_wp2_with fail
          refine (ready_none _ 2 [some ⟨qa, 0, none⟩, some ⟨qb, 0, none⟩] 2 rfl _ (Ptrs.new wr _ _ _ rfl) (by simp) (by decide) ?_).mono ?_
          · intro j hj
            match j, hj with
            | 0, _ => exact Empt.que (ha.below (below_alloc _ _))
            | 1, _ => exact Empt.que (hb.below (below_alloc _ _))
          rintro e w4 ⟨rfl, e4⟩
          have b4 : Below wr.heap.size wr w4 := by rw [← e4]; exact below_alloc _ _
          clear e4
          go_wp2
          go_ret
          exact ⟨rfl, hbel.trans (b4.mono hbel.size)⟩
end Go.Proofs.Ythdjopijmhnmhaa
