/- DateOrder: the walk. -/
import Derived.Test.YtgkibkophoikoaaDoorDtAwake
namespace Go.Proofs.YtgkibkophoikoaaDoor
open Go.RowKit
set_option linter.unusedVariables false
set_option maxRecDepth 100000

def fld (d : Dt.D) : Nat → Int
  | 0 => d.year
  | 1 => d.month
  | 2 => d.day
  | 3 => d.hour
  | 4 => d.min
  | _ => d.sec
theorem fld_le {a b : Dt.D} (ha : Dt.Good a) (hb : Dt.Good b) (hz : a.zone = b.zone) (hu : Dt.unix a ≤ Dt.unix b) (k : Nat) (hk : k < 6) (hj : ∀ j, j < k → fld a j = fld b j) : fld a k ≤ fld b k := by
  refine Classical.byContradiction fun hn => ?_
  have hlex : Dt.Lex b a := by
    unfold Dt.Lex
    match k, hk with
    | 0, _ => simp only [fld] at hn; omega
    | 1, _ =>
      have h0 := hj 0 (by decide)
      simp only [fld] at hn h0; omega
    | 2, _ =>
      have h0 := hj 0 (by decide)
      have h1 := hj 1 (by decide)
      simp only [fld] at hn h0 h1; omega
    | 3, _ =>
      have h0 := hj 0 (by decide)
      have h1 := hj 1 (by decide)
      have h2 := hj 2 (by decide)
      simp only [fld] at hn h0 h1 h2; omega
    | 4, _ =>
      have h0 := hj 0 (by decide)
      have h1 := hj 1 (by decide)
      have h2 := hj 2 (by decide)
      have h3 := hj 3 (by decide)
      simp only [fld] at hn h0 h1 h2 h3; omega
    | 5, _ =>
      have h0 := hj 0 (by decide)
      have h1 := hj 1 (by decide)
      have h2 := hj 2 (by decide)
      have h3 := hj 3 (by decide)
      have h4 := hj 4 (by decide)
      simp only [fld] at hn h0 h1 h2 h3 h4; omega
  have := Dt.unix_lt hb ha hz.symm hlex
  omega
theorem fld_eq {a b : Dt.D} (hz : a.zone = b.zone) (hj : ∀ j, j < 6 → fld a j = fld b j) : a = b := by
  have h0 := hj 0 (by decide)
  have h1 := hj 1 (by decide)
  have h2 := hj 2 (by decide)
  have h3 := hj 3 (by decide)
  have h4 := hj 4 (by decide)
  have h5 := hj 5 (by decide)
  simp only [fld] at h0 h1 h2 h3 h4 h5
  cases a; cases b
  simp only at *
  subst_vars
  rfl
theorem good_small {d : Dt.D} (h : Dt.Good d) (k : Nat) (hk : k < 6) : 0 ≤ fld d k ∧ fld d k ≤ 9999 := by
  obtain ⟨⟨a1, a2, a3, a4, a5, a6⟩, ⟨b1, b2⟩, ⟨c1, c2⟩, ⟨e1, e2⟩, _⟩ := h
  have hdm := (Dt.dm_pos d.year.toNat d.month.toNat).2
  match k, hk with
  | 0, _ => simp only [fld]; omega
  | 1, _ => simp only [fld]; omega
  | 2, _ => simp only [fld]; omega
  | 3, _ => simp only [fld]; omega
  | 4, _ => simp only [fld]; omega
  | 5, _ => simp only [fld]; omega

set_option maxHeartbeats 6400000 in
theorem dateOrder_walk (a : Int) (wa : (Lit.int .i64 a).wf = true) (b : Int) (wb : (Lit.int .i64 b).wf = true) (z : Int) (wz : (Lit.int .i64 z).wf = true) (w : World) (h : PW w) :
    Calls Tryd.prog 6 #[.int .i64 a, .int .i64 b, .int .i64 z] w fun e w' => e = .returned (.bool true) ∧ Below w.heap.size w w' := by
  have H := Lib.hid h
  have WA := Lib.hid wa
  have WB := Lib.hid wb
  clear h wa wb wz
  by_cases hab : b < a
  · obtain ⟨lo, Hlo⟩ : ∃ lo, Hid (lo = b) := ⟨_, Lib.hid rfl⟩
    obtain ⟨hi, Hhi⟩ : ∃ hi, Hid (hi = a) := ⟨_, Lib.hid rfl⟩
    have HLE : Hid (lo ≤ hi) := Lib.hid (by rw [Hlo.out, Hhi.out]; omega)
    have WL : Hid ((Lit.int .i64 lo).wf = true) := Lib.hid (by rw [Hlo.out]; exact WB.out)
    have WH : Hid ((Lit.int .i64 hi).wf = true) := Lib.hid (by rw [Hhi.out]; exact WA.out)
    go_enter Tryd.func6, Tryd.ntmps6
    go_wp2_with fail
    refine (awake_any w H.out).mono ?_
    rintro e w1 ⟨rfl, b1⟩
    have HB1 := Lib.hid b1
    clear b1
    go_wp2_with fail
    rw [← Hlo.out, ← Hhi.out]
    clear hab Hlo Hhi WA WB
    refine (of_any lo z WL.out w1).mono ?_
    rintro e w2 ⟨r, hr, rfl, b2⟩
    have HB2 := Lib.hid (HB1.out.trans (b2.mono HB1.out.size))
    have HR := Lib.hid hr
    clear b2 hr
    cases r with
    | none =>
      simp only [ofV, dcs, Dt.zero]
      obtain ⟨w3, Hw3⟩ : ∃ w3, Hid (w3 = w2.alloc (.cells #[.int .i64 0, .int .i64 0, .int .i64 0, .int .i64 0, .int .i64 0, .int .i64 0, .int .i64 0] 24)) := ⟨_, Lib.hid rfl⟩
      have HB3 : Hid (Below w.heap.size w w3) := Lib.hid (by rw [Hw3.out]; exact HB2.out.alloc HB2.out.size _)
      go_wp2_with fail
      rw [← Hw3.out]
      refine (of_any hi z WH.out w3).mono ?_
      rintro e w4 ⟨r', _, rfl, b4⟩
      have HB4 := Lib.hid (HB3.out.trans (b4.mono HB3.out.size))
      clear b4
      cases r' with
      | none =>
        simp only [ofV, dcs, Dt.zero]
        go_wp2
        go_ret
        exact ⟨rfl, HB4.out.alloc HB4.out.size _⟩
      | some d =>
        simp only [ofV, dcs]
        go_wp2
        go_ret
        exact ⟨rfl, HB4.out.alloc HB4.out.size _⟩
    | some d =>
      obtain ⟨y, m, k, hh, mi, s, z1⟩ := d
      simp only [ofV, dcs]
      obtain ⟨w3, Hw3⟩ : ∃ w3, Hid (w3 = w2.alloc (.cells #[.int .i64 y, .int .i64 m, .int .i64 k, .int .i64 hh, .int .i64 mi, .int .i64 s, .int .i64 z1] 24)) := ⟨_, Lib.hid rfl⟩
      have HB3 : Hid (Below w.heap.size w w3) := Lib.hid (by rw [Hw3.out]; exact HB2.out.alloc HB2.out.size _)
      have HG3 : Hid (Blk w3 w2.heap.size 24 #[.int .i64 y, .int .i64 m, .int .i64 k, .int .i64 hh, .int .i64 mi, .int .i64 s, .int .i64 z1]) := Lib.hid (by rw [Hw3.out]; exact Blk.new w2 _ _)
      go_wp2_with fail
      rw [← Hw3.out]
      refine (of_any hi z WH.out w3).mono ?_
      rintro e w4 ⟨r', hr', rfl, b4⟩
      have HB4 := Lib.hid (HB3.out.trans (b4.mono HB3.out.size))
      have HG4 := Lib.hid (HG3.out.below b4 HG3.out.lt)
      have HR' := Lib.hid hr'
      clear b4 hr'
      cases r' with
      | none =>
        simp only [ofV, dcs, Dt.zero]
        go_wp2
        go_ret
        exact ⟨rfl, HB4.out.alloc HB4.out.size _⟩
      | some d' =>
        obtain ⟨y', m', k', hh', mi', s', z1'⟩ := d'
        simp only [ofV, dcs]
        obtain ⟨w5, Hw5⟩ : ∃ w5, Hid (w5 = w4.alloc (.cells #[.int .i64 y', .int .i64 m', .int .i64 k', .int .i64 hh', .int .i64 mi', .int .i64 s', .int .i64 z1'] 24)) := ⟨_, Lib.hid rfl⟩
        have HB5 : Hid (Below w.heap.size w w5) := Lib.hid (by rw [Hw5.out]; exact HB4.out.alloc HB4.out.size _)
        have hg5 : Blk (w4.alloc (.cells #[.int .i64 y', .int .i64 m', .int .i64 k', .int .i64 hh', .int .i64 mi', .int .i64 s', .int .i64 z1'] 24)) w2.heap.size 24 #[.int .i64 y, .int .i64 m, .int .i64 k, .int .i64 hh, .int .i64 mi, .int .i64 s, .int .i64 z1] := HG4.out.alloc _
        obtain ⟨x0, x1, x2, x3, x4, x5, x6⟩ := hg5.seven
        have HU := Lib.hid (show Dt.unix ⟨y, m, k, hh, mi, s, z1⟩ ≤ Dt.unix ⟨y', m', k', hh', mi', s', z1'⟩ by rw [HR.out.2.2, HR'.out.2.2]; exact HLE.out)
        have HZZ := Lib.hid (show (⟨y, m, k, hh, mi, s, z1⟩ : Dt.D).zone = (⟨y', m', k', hh', mi', s', z1'⟩ : Dt.D).zone from HR.out.2.1.trans HR'.out.2.1.symm)
        have HLF := Lib.hid (fun (n : Nat) (hn : n < 6) (hj : ∀ j, j < n → fld ⟨y, m, k, hh, mi, s, z1⟩ j = fld ⟨y', m', k', hh', mi', s', z1'⟩ j) => fld_le HR.out.1 HR'.out.1 HZZ.out HU.out n hn hj)
        have HEQ := Lib.hid (fun (hj : ∀ j, j < 6 → fld ⟨y, m, k, hh, mi, s, z1⟩ j = fld ⟨y', m', k', hh', mi', s', z1'⟩ j) => show lo = hi by
          have e := fld_eq HZZ.out hj
          have e2 := HR.out.2.2
          rw [e, HR'.out.2.2] at e2
          exact e2.symm)
        have sub : ∀ n, n < 6 → ∃ v : Int, v = fld ⟨y, m, k, hh, mi, s, z1⟩ n - fld ⟨y', m', k', hh', mi', s', z1'⟩ n ∧ IntKind.i64.wrap (fld ⟨y, m, k, hh, mi, s, z1⟩ n - fld ⟨y', m', k', hh', mi', s', z1'⟩ n) = v := fun n hn => by
          have g1 := good_small HR.out.1 n hn
          have g2 := good_small HR'.out.1 n hn
          exact ⟨_, rfl, IntWalk.i64_in _ (by omega)⟩
        obtain ⟨v0, e0, i0⟩ := sub 0 (by decide)
        obtain ⟨v1, e1, i1⟩ := sub 1 (by decide)
        obtain ⟨v2, e2, i2⟩ := sub 2 (by decide)
        obtain ⟨v3, e3, i3⟩ := sub 3 (by decide)
        obtain ⟨v4, e4, i4⟩ := sub 4 (by decide)
        obtain ⟨v5, e5, i5⟩ := sub 5 (by decide)
        have HV : Hid (∀ n, n < 6 → ([v0, v1, v2, v3, v4, v5] : List Int).getD n 0 = fld ⟨y, m, k, hh, mi, s, z1⟩ n - fld ⟨y', m', k', hh', mi', s', z1'⟩ n) := Lib.hid (fun n hn => by
          match n, hn with
          | 0, _ => exact e0
          | 1, _ => exact e1
          | 2, _ => exact e2
          | 3, _ => exact e3
          | 4, _ => exact e4
          | 5, _ => exact e5)
        simp only [fld] at i0 i1 i2 i3 i4 i5
        have HGN : Hid (Blk (w5.alloc (.cells #[.int .i64 v0, .int .i64 v1, .int .i64 v2, .int .i64 v3, .int .i64 v4, .int .i64 v5] 3)) w5.heap.size 3 #[.int .i64 v0, .int .i64 v1, .int .i64 v2, .int .i64 v3, .int .i64 v4, .int .i64 v5]) := Lib.hid (Blk.new w5 _ _)
        have HBN : Hid (Below w.heap.size w (w5.alloc (.cells #[.int .i64 v0, .int .i64 v1, .int .i64 v2, .int .i64 v3, .int .i64 v4, .int .i64 v5] 3))) := Lib.hid (HB5.out.alloc HB5.out.size _)
        rw [Hw5.out] at HGN HBN
        have hsz : (w4.alloc (.cells #[.int .i64 y', .int .i64 m', .int .i64 k', .int .i64 hh', .int .i64 mi', .int .i64 s', .int .i64 z1'] 24)).heap.size = w4.heap.size + 1 := by simp
        rw [hsz] at HGN
        clear sub e0 e1 e2 e3 e4 e5 hg5 hsz
        go_wp2
        clear x0 x1 x2 x3 x4 x5 x6 i0 i1 i2 i3 i4 i5
        go_loop [12] (fun s12 => ∃ n : Nat, n ≤ 6 ∧ s12 = .int .i64 n ∧ Hid (∀ j, j < n → fld ⟨y, m, k, hh, mi, s, z1⟩ j = fld ⟨y', m', k', hh', mi', s', z1'⟩ j)) (fun s12 => 6 - (intOf s12).toNat)
        case atStart => exact ⟨0, Nat.zero_le _, rfl, Lib.hid (fun j hj => absurd hj (by omega))⟩
        case round =>
          obtain ⟨n, hn, rfl, HJ⟩ := hrel
          by_cases hlt : n < 6
          · obtain ⟨v, Hv⟩ : ∃ v, Hid (v = ([v0, v1, v2, v3, v4, v5] : List Int).getD n 0) := ⟨_, Lib.hid rfl⟩
            have hc := HGN.out.cell n (.int .i64 v) (by
              rw [Hv.out]
              match n, hlt with
              | 0, _ => rfl
              | 1, _ => rfl
              | 2, _ => rfl
              | 3, _ => rfl
              | 4, _ => rfl
              | 5, _ => rfl)
            have hvd := Hv.out.trans (HV.out n hlt)
            have hle := HLF.out n hlt HJ.out
            by_cases h0 : v = 0
            · have c0 : (v != 0) = false := by rw [bne_eq_false_iff_eq]; exact h0
              have HJ2 : Hid (∀ j, j < n + 1 → fld ⟨y, m, k, hh, mi, s, z1⟩ j = fld ⟨y', m', k', hh', mi', s', z1'⟩ j) := Lib.hid (fun j hj => by
                by_cases e : j = n
                · subst e; omega
                · exact HJ.out j (by omega))
              clear hvd hle h0
              go_wp2
              go_round
              case rel => exact ⟨n + 1, by omega, by go_num, HJ2⟩
              case measure => simp [intOf]; omega
            · have c0 : (v != 0) = true := by rw [bne_iff_ne]; exact h0
              have hneg : v < 0 := by omega
              have cn : decide (v < 0) = true := decide_eq_true hneg
              clear hvd hle h0
              go_wp2
              go_ret
              exact ⟨rfl, HBN.out⟩
          · obtain rfl : n = 6 := by omega
            have hE := HEQ.out HJ.out
            have cq : (lo == hi) = true := by rw [beq_iff_eq]; exact hE
            clear hE
            go_wp2
            go_ret
            exact ⟨rfl, HBN.out⟩
  · obtain ⟨lo, Hlo⟩ : ∃ lo, Hid (lo = a) := ⟨_, Lib.hid rfl⟩
    obtain ⟨hi, Hhi⟩ : ∃ hi, Hid (hi = b) := ⟨_, Lib.hid rfl⟩
    have HLE : Hid (lo ≤ hi) := Lib.hid (by rw [Hlo.out, Hhi.out]; omega)
    have WL : Hid ((Lit.int .i64 lo).wf = true) := Lib.hid (by rw [Hlo.out]; exact WA.out)
    have WH : Hid ((Lit.int .i64 hi).wf = true) := Lib.hid (by rw [Hhi.out]; exact WB.out)
    go_enter Tryd.func6, Tryd.ntmps6
    go_wp2_with fail
    refine (awake_any w H.out).mono ?_
    rintro e w1 ⟨rfl, b1⟩
    have HB1 := Lib.hid b1
    clear b1
    go_wp2_with fail
    rw [← Hlo.out, ← Hhi.out]
    clear hab Hlo Hhi WA WB
    refine (of_any lo z WL.out w1).mono ?_
    rintro e w2 ⟨r, hr, rfl, b2⟩
    have HB2 := Lib.hid (HB1.out.trans (b2.mono HB1.out.size))
    have HR := Lib.hid hr
    clear b2 hr
    cases r with
    | none =>
      simp only [ofV, dcs, Dt.zero]
      obtain ⟨w3, Hw3⟩ : ∃ w3, Hid (w3 = w2.alloc (.cells #[.int .i64 0, .int .i64 0, .int .i64 0, .int .i64 0, .int .i64 0, .int .i64 0, .int .i64 0] 24)) := ⟨_, Lib.hid rfl⟩
      have HB3 : Hid (Below w.heap.size w w3) := Lib.hid (by rw [Hw3.out]; exact HB2.out.alloc HB2.out.size _)
      go_wp2_with fail
      rw [← Hw3.out]
      refine (of_any hi z WH.out w3).mono ?_
      rintro e w4 ⟨r', _, rfl, b4⟩
      have HB4 := Lib.hid (HB3.out.trans (b4.mono HB3.out.size))
      clear b4
      cases r' with
      | none =>
        simp only [ofV, dcs, Dt.zero]
        go_wp2
        go_ret
        exact ⟨rfl, HB4.out.alloc HB4.out.size _⟩
      | some d =>
        simp only [ofV, dcs]
        go_wp2
        go_ret
        exact ⟨rfl, HB4.out.alloc HB4.out.size _⟩
    | some d =>
      obtain ⟨y, m, k, hh, mi, s, z1⟩ := d
      simp only [ofV, dcs]
      obtain ⟨w3, Hw3⟩ : ∃ w3, Hid (w3 = w2.alloc (.cells #[.int .i64 y, .int .i64 m, .int .i64 k, .int .i64 hh, .int .i64 mi, .int .i64 s, .int .i64 z1] 24)) := ⟨_, Lib.hid rfl⟩
      have HB3 : Hid (Below w.heap.size w w3) := Lib.hid (by rw [Hw3.out]; exact HB2.out.alloc HB2.out.size _)
      have HG3 : Hid (Blk w3 w2.heap.size 24 #[.int .i64 y, .int .i64 m, .int .i64 k, .int .i64 hh, .int .i64 mi, .int .i64 s, .int .i64 z1]) := Lib.hid (by rw [Hw3.out]; exact Blk.new w2 _ _)
      go_wp2_with fail
      rw [← Hw3.out]
      refine (of_any hi z WH.out w3).mono ?_
      rintro e w4 ⟨r', hr', rfl, b4⟩
      have HB4 := Lib.hid (HB3.out.trans (b4.mono HB3.out.size))
      have HG4 := Lib.hid (HG3.out.below b4 HG3.out.lt)
      have HR' := Lib.hid hr'
      clear b4 hr'
      cases r' with
      | none =>
        simp only [ofV, dcs, Dt.zero]
        go_wp2
        go_ret
        exact ⟨rfl, HB4.out.alloc HB4.out.size _⟩
      | some d' =>
        obtain ⟨y', m', k', hh', mi', s', z1'⟩ := d'
        simp only [ofV, dcs]
        obtain ⟨w5, Hw5⟩ : ∃ w5, Hid (w5 = w4.alloc (.cells #[.int .i64 y', .int .i64 m', .int .i64 k', .int .i64 hh', .int .i64 mi', .int .i64 s', .int .i64 z1'] 24)) := ⟨_, Lib.hid rfl⟩
        have HB5 : Hid (Below w.heap.size w w5) := Lib.hid (by rw [Hw5.out]; exact HB4.out.alloc HB4.out.size _)
        have hg5 : Blk (w4.alloc (.cells #[.int .i64 y', .int .i64 m', .int .i64 k', .int .i64 hh', .int .i64 mi', .int .i64 s', .int .i64 z1'] 24)) w2.heap.size 24 #[.int .i64 y, .int .i64 m, .int .i64 k, .int .i64 hh, .int .i64 mi, .int .i64 s, .int .i64 z1] := HG4.out.alloc _
        obtain ⟨x0, x1, x2, x3, x4, x5, x6⟩ := hg5.seven
        have HU := Lib.hid (show Dt.unix ⟨y, m, k, hh, mi, s, z1⟩ ≤ Dt.unix ⟨y', m', k', hh', mi', s', z1'⟩ by rw [HR.out.2.2, HR'.out.2.2]; exact HLE.out)
        have HZZ := Lib.hid (show (⟨y, m, k, hh, mi, s, z1⟩ : Dt.D).zone = (⟨y', m', k', hh', mi', s', z1'⟩ : Dt.D).zone from HR.out.2.1.trans HR'.out.2.1.symm)
        have HLF := Lib.hid (fun (n : Nat) (hn : n < 6) (hj : ∀ j, j < n → fld ⟨y, m, k, hh, mi, s, z1⟩ j = fld ⟨y', m', k', hh', mi', s', z1'⟩ j) => fld_le HR.out.1 HR'.out.1 HZZ.out HU.out n hn hj)
        have HEQ := Lib.hid (fun (hj : ∀ j, j < 6 → fld ⟨y, m, k, hh, mi, s, z1⟩ j = fld ⟨y', m', k', hh', mi', s', z1'⟩ j) => show lo = hi by
          have e := fld_eq HZZ.out hj
          have e2 := HR.out.2.2
          rw [e, HR'.out.2.2] at e2
          exact e2.symm)
        have sub : ∀ n, n < 6 → ∃ v : Int, v = fld ⟨y, m, k, hh, mi, s, z1⟩ n - fld ⟨y', m', k', hh', mi', s', z1'⟩ n ∧ IntKind.i64.wrap (fld ⟨y, m, k, hh, mi, s, z1⟩ n - fld ⟨y', m', k', hh', mi', s', z1'⟩ n) = v := fun n hn => by
          have g1 := good_small HR.out.1 n hn
          have g2 := good_small HR'.out.1 n hn
          exact ⟨_, rfl, IntWalk.i64_in _ (by omega)⟩
        obtain ⟨v0, e0, i0⟩ := sub 0 (by decide)
        obtain ⟨v1, e1, i1⟩ := sub 1 (by decide)
        obtain ⟨v2, e2, i2⟩ := sub 2 (by decide)
        obtain ⟨v3, e3, i3⟩ := sub 3 (by decide)
        obtain ⟨v4, e4, i4⟩ := sub 4 (by decide)
        obtain ⟨v5, e5, i5⟩ := sub 5 (by decide)
        have HV : Hid (∀ n, n < 6 → ([v0, v1, v2, v3, v4, v5] : List Int).getD n 0 = fld ⟨y, m, k, hh, mi, s, z1⟩ n - fld ⟨y', m', k', hh', mi', s', z1'⟩ n) := Lib.hid (fun n hn => by
          match n, hn with
          | 0, _ => exact e0
          | 1, _ => exact e1
          | 2, _ => exact e2
          | 3, _ => exact e3
          | 4, _ => exact e4
          | 5, _ => exact e5)
        simp only [fld] at i0 i1 i2 i3 i4 i5
        have HGN : Hid (Blk (w5.alloc (.cells #[.int .i64 v0, .int .i64 v1, .int .i64 v2, .int .i64 v3, .int .i64 v4, .int .i64 v5] 3)) w5.heap.size 3 #[.int .i64 v0, .int .i64 v1, .int .i64 v2, .int .i64 v3, .int .i64 v4, .int .i64 v5]) := Lib.hid (Blk.new w5 _ _)
        have HBN : Hid (Below w.heap.size w (w5.alloc (.cells #[.int .i64 v0, .int .i64 v1, .int .i64 v2, .int .i64 v3, .int .i64 v4, .int .i64 v5] 3))) := Lib.hid (HB5.out.alloc HB5.out.size _)
        rw [Hw5.out] at HGN HBN
        have hsz : (w4.alloc (.cells #[.int .i64 y', .int .i64 m', .int .i64 k', .int .i64 hh', .int .i64 mi', .int .i64 s', .int .i64 z1'] 24)).heap.size = w4.heap.size + 1 := by simp
        rw [hsz] at HGN
        clear sub e0 e1 e2 e3 e4 e5 hg5 hsz
        go_wp2
        clear x0 x1 x2 x3 x4 x5 x6 i0 i1 i2 i3 i4 i5
        go_loop [12] (fun s12 => ∃ n : Nat, n ≤ 6 ∧ s12 = .int .i64 n ∧ Hid (∀ j, j < n → fld ⟨y, m, k, hh, mi, s, z1⟩ j = fld ⟨y', m', k', hh', mi', s', z1'⟩ j)) (fun s12 => 6 - (intOf s12).toNat)
        case atStart => exact ⟨0, Nat.zero_le _, rfl, Lib.hid (fun j hj => absurd hj (by omega))⟩
        case round =>
          obtain ⟨n, hn, rfl, HJ⟩ := hrel
          by_cases hlt : n < 6
          · obtain ⟨v, Hv⟩ : ∃ v, Hid (v = ([v0, v1, v2, v3, v4, v5] : List Int).getD n 0) := ⟨_, Lib.hid rfl⟩
            have hc := HGN.out.cell n (.int .i64 v) (by
              rw [Hv.out]
              match n, hlt with
              | 0, _ => rfl
              | 1, _ => rfl
              | 2, _ => rfl
              | 3, _ => rfl
              | 4, _ => rfl
              | 5, _ => rfl)
            have hvd := Hv.out.trans (HV.out n hlt)
            have hle := HLF.out n hlt HJ.out
            by_cases h0 : v = 0
            · have c0 : (v != 0) = false := by rw [bne_eq_false_iff_eq]; exact h0
              have HJ2 : Hid (∀ j, j < n + 1 → fld ⟨y, m, k, hh, mi, s, z1⟩ j = fld ⟨y', m', k', hh', mi', s', z1'⟩ j) := Lib.hid (fun j hj => by
                by_cases e : j = n
                · subst e; omega
                · exact HJ.out j (by omega))
              clear hvd hle h0
              go_wp2
              go_round
              case rel => exact ⟨n + 1, by omega, by go_num, HJ2⟩
              case measure => simp [intOf]; omega
            · have c0 : (v != 0) = true := by rw [bne_iff_ne]; exact h0
              have hneg : v < 0 := by omega
              have cn : decide (v < 0) = true := decide_eq_true hneg
              clear hvd hle h0
              go_wp2
              go_ret
              exact ⟨rfl, HBN.out⟩
          · obtain rfl : n = 6 := by omega
            have hE := HEQ.out HJ.out
            have cq : (lo == hi) = true := by rw [beq_iff_eq]; exact hE
            clear hE
            go_wp2
            go_ret
            exact ⟨rfl, HBN.out⟩
end Go.Proofs.YtgkibkophoikoaaDoor
