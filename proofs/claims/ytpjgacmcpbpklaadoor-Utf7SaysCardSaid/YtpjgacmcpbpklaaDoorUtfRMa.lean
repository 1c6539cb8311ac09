/- The reference's Match. -/
import Derived.Test.YtpjgacmcpbpklaaDoorUtfRIn
import Derived.Test.YtpjgacmcpbpklaaDoorUtfMat
import Derived.Deep.QuietTactic
import Derived.BigQuiet
import Derived.BigRegion
namespace Go.Proofs.YtpjgacmcpbpklaaDoor
open Go.RowKit
set_option linter.unusedVariables false

/-- Block g holds the truth values f 0 .. f n. -/
def BlRow (w : World) (g n : Nat) (f : Nat → Bool) : Prop :=
  ∃ C : Array Value, w.heap[g]? = some (.cells C 4 (0, 0)) ∧ n < C.size ∧ ∀ j, j ≤ n → C[j]? = some (.bool (f j))
section
variable {w w' : World} {g g2 n : Nat} {f h : Nat → Bool}
theorem BlRow.cell (r : BlRow w g n f) (j : Nat) (hj : j ≤ n) : w.cell? ⟨g, j, none⟩ = some (.bool (f j)) := by
  obtain ⟨C, hC, _, hc⟩ := r
  simp [World.cell?, hC, hc j hj]
theorem BlRow.frozen (r : BlRow w g n f) (j : Nat) (hj : j ≤ n) : w.frozen? ⟨g, j, none⟩ = false := by
  obtain ⟨C, hC, hs, hc⟩ := r
  simp [World.frozen?, hC]
theorem BlRow.lt (r : BlRow w g n f) : g < w.heap.size := by
  obtain ⟨C, hC, _⟩ := r
  exact (Array.getElem?_eq_some_iff.1 hC).1
theorem BlRow.store (r : BlRow w g n f) (k : Nat) (b : Bool) (hh : ∀ j, j ≤ n → h j = if j = k then b else f j) : BlRow (w.setCell ⟨g, k, none⟩ (.bool b)) g n h := by
  obtain ⟨C, hC, hs, hc⟩ := r
  refine ⟨C.setIfInBounds k (.bool b), ?_, by simpa using hs, fun i hi => ?_⟩
  · simp [World.setCell, Array.getElem?_modify, hC]
  · rw [hh i hi]
    by_cases he : k = i
    · subst he
      have hlt : k < C.size := by omega
      simp [hlt]
    · rw [Array.getElem?_setIfInBounds_ne he, hc i hi, if_neg (fun e => he e.symm)]
theorem BlRow.away (r : BlRow w g n f) (hne : g2 ≠ g) (k : Nat) (v : Value) : BlRow (w.setCell ⟨g2, k, none⟩ v) g n f := by
  obtain ⟨C, hC, hs, hc⟩ := r
  refine ⟨C, ?_, hs, hc⟩
  simp [World.setCell, Array.getElem?_modify, hC, hne]
theorem BlRow.below (r : BlRow w g n f) (hb : Below w.heap.size w w') : BlRow w' g n f := by
  obtain ⟨C, hC, hs, hc⟩ := r
  exact ⟨C, (hb.block g ((Array.getElem?_eq_some_iff.1 hC).1)).trans hC, hs, hc⟩
theorem BlRow.drewN (r : BlRow w g n f) (q : Nat) : BlRow (w.drewN q) g n f := r
theorem BlRow.eq (r : BlRow w g n f) (hh : ∀ j, j ≤ n → h j = f j) : BlRow w g n h := by
  obtain ⟨C, hC, hs, hc⟩ := r
  exact ⟨C, hC, hs, fun j hj => by rw [hh j hj]; exact hc j hj⟩
end
theorem Tryd.infoBool : (Tryd.prog.info? 4).map (fun i => (i.zero, i.size, i.bytes)) = some (some (.bool false), 1, 1) := by kernel_rfl
/-- make([]bool, n + 1). -/
theorem mk_bools (w : World) (n : Nat) (hn : n ≤ 1000000010) (z : Int) (hz : z = ((n + 1 : Nat) : Int)) : ∃ w2, (Instr.makeSlice 45 (.int .i64 z) (.int .i64 z)).run Tryd.prog w = .ok (.slice (some ⟨w.heap.size, 0, none⟩) (n + 1) (n + 1)) w2 ∧
    BlRow w2 w.heap.size n (fun _ => false) ∧ Below w.heap.size w w2 := by
  subst hz
  obtain ⟨i0, hi, hz0, hz1, hz2⟩ := info_parts Tryd.infoBool
  have h := run_make (P := Tryd.prog) w 45 4 i0 (.bool false) Tryd.underlying45 hi hz0 .i64 .i64 ((n + 1 : Nat)) ((n + 1 : Nat)) (by omega) (by omega) (by rw [hz2]; omega) (by omega)
  refine ⟨_, h, ⟨madeCells (Value.bool false).cells ((n + 1) * i0.size), ?_, ?_, fun j hj => ?_⟩, (Below.refl _ _).alloc (Nat.le_refl _) _⟩
  · show (w.heap.push _)[w.heap.size]? = _
    simp
  · rw [size_madeCells, hz1]; omega
  · rw [hz1]
    have e : (Value.bool false).cells = #[Value.bool false] := rfl
    rw [e]
    simp [madeCells]
    exact ⟨j, by rw [Array.getElem?_eq_getElem (by simp; omega)]; simp, by rw [Nat.mod_one]; rfl⟩

/-- The next row as far as it is reckoned. -/
def nxF (c : UInt8) (s : List UInt8) (f : Nat → Bool) (k : Nat) : Nat → Bool := fun j => if j < k then U7.stepF c s f j else false
/-- Two rows, all of it new since w. -/
structure MW (w : World) (g g2 n : Nat) (f h : Nat → Bool) (wr : World) : Prop where
  old : BlRow wr g n f
  new : BlRow wr g2 n h
  ne : g2 ≠ g
  le : w.heap.size ≤ g
  le2 : w.heap.size ≤ g2
  below : Below w.heap.size w wr
section
variable {w wr : World} {g g2 n k : Nat} {f : Nat → Bool} {c : UInt8} {s : List UInt8}
theorem MW.drewN {h : Nat → Bool} (m : MW w g g2 n f h wr) (q : Nat) : MW w g g2 n f h (wr.drewN q) := ⟨m.old, m.new, m.ne, m.le, m.le2, below_drewN m.below q⟩
theorem MW.next (m : MW w g g2 n f (nxF c s f k) wr) (b : Bool) (hb : U7.stepF c s f k = b) : MW w g g2 n f (nxF c s f (k + 1)) (wr.setCell ⟨g2, k, none⟩ (.bool b)) := by
  refine ⟨m.old.away m.ne k _, m.new.store k b (fun j hj => ?_), m.ne, m.le, m.le2, m.below.setCell m.le2 _⟩
  unfold nxF
  by_cases h1 : j = k
  · subst h1; rw [if_pos rfl, if_pos (Nat.lt_succ_self _), hb]
  · rw [if_neg h1]
    by_cases h2 : j < k
    · rw [if_pos h2, if_pos (by omega)]
    · rw [if_neg h2, if_neg (by omega)]
theorem MW.skip (m : MW w g g2 n f (nxF c s f k) wr) (hb : U7.stepF c s f k = false) : MW w g g2 n f (nxF c s f (k + 1)) wr := by
  refine ⟨m.old, m.new.eq (fun j hj => ?_), m.ne, m.le, m.le2, m.below⟩
  unfold nxF
  by_cases h1 : j = k
  · subst h1; rw [if_neg (Nat.lt_irrefl _), if_pos (Nat.lt_succ_self _), hb]
  · by_cases h2 : j < k
    · rw [if_pos h2, if_pos (by omega)]
    · rw [if_neg h2, if_neg (by omega)]
end
theorem step_s0 (c : UInt8) (s : List UInt8) (f : Nat → Bool) (h : U7.star c = true) : U7.stepF c s f 0 = f 0 := by rw [U7.stepF, if_pos h]
theorem step_sS (c : UInt8) (s : List UInt8) (f : Nat → Bool) (k : Nat) (h : U7.star c = true) : U7.stepF c s f (k + 1) = (f (k + 1) || (U7.stepF c s f k && (c == 42 || s.getD k 0 != 47))) := by rw [U7.stepF, if_pos h]
theorem step_n0 (c : UInt8) (s : List UInt8) (f : Nat → Bool) (h : U7.star c = false) : U7.stepF c s f 0 = false := by rw [U7.stepF, if_neg (by rw [h]; decide)]
theorem step_nS (c : UInt8) (s : List UInt8) (f : Nat → Bool) (k : Nat) (h : U7.star c = false) : U7.stepF c s f (k + 1) = (f k && s.getD k 0 == c) := by rw [U7.stepF, if_neg (by rw [h]; decide)]

set_option maxHeartbeats 12800000 in
set_option maxRecDepth 100000 in
theorem rmatch_any (p s : ByteArray) (w : World) (hp : p.size ≤ 100000000) (hs : s.size ≤ 100000000) :
    Calls Tryd.prog 18 #[.string p, .string s] w (matchEnd p s w) := by
  obtain ⟨p1, HP1, hp1, hc1⟩ := rinbox_any p w (by omega)
  have HC1 := Lib.hid hc1
  clear hc1
  go_enter Tryd.func18, Tryd.ntmps18
  go_wp2_with fail
  refine HC1.out.mono ?_
  rintro e w1 ⟨rfl, hb1⟩
  obtain ⟨s1, HS1, hs1, hc2⟩ := rinbox_any s w1 (by omega)
  have HC2 := Lib.hid hc2
  clear hc2 HC1
  go_wp2_with fail
  refine HC2.out.mono ?_
  rintro e w2 ⟨rfl, hb2⟩
  have hb : Below w.heap.size w w2 := hb1.trans (hb2.mono hb1.size)
  have hn1 : p1.data.toList.length = p1.size := rfl
  have hn2 : s1.data.toList.length = s1.size := rfl
  obtain ⟨ans, HANS⟩ : ∃ ans, Hid (ans = U7.matchL p.data.toList s.data.toList) := ⟨_, Lib.hid rfl⟩
  have hfin : ans = U7.fits p1.data.toList s1.data.toList s1.size := by
    rw [HANS.out, ← hn2, HP1.out, HS1.out]; rfl
  have HFIN := Lib.hid hfin
  clear hfin HC2
  obtain ⟨w3, hmk, hrow, hbw⟩ := mk_bools w2 s1.size (by omega) ((s1.size : Int) + 1) rfl
  have hfr := hrow.frozen 0 (Nat.zero_le _)
  have hcl := hrow.cell 0 (Nat.zero_le _)
  have hg2 := hrow.lt
  have HB3 : Hid (Below w.heap.size w (w3.setCell ⟨w2.heap.size, 0, none⟩ (.bool true))) := Lib.hid ((hb.trans (hbw.mono hb.size)).setCell hb.size _)
  have HROW : Hid (BlRow (w3.setCell ⟨w2.heap.size, 0, none⟩ (.bool true)) w2.heap.size s1.size (U7.fits [] s1.data.toList)) := Lib.hid (hrow.store 0 true (fun j _ => by
    rw [U7.fits_nil]
    by_cases h : j = 0
    · subst h; rfl
    · rw [if_neg h]; exact beq_eq_false_iff_ne.2 h))
  clear hrow hbw
  go_wp2
  go_loopw [7, 8] (fun s7 i wr => ∃ (k g : Nat) (f : Nat → Bool), k ≤ p1.size ∧ i = .int .i64 k ∧ s7 = .slice (some ⟨g, 0, none⟩) (s1.size + 1) (s1.size + 1) ∧ w.heap.size ≤ g ∧
      Hid (BlRow wr g s1.size f) ∧ Hid (Below w.heap.size w wr) ∧ Hid (f = U7.fits (p1.data.toList.take k) s1.data.toList)) (fun _ i _ => p1.size - (intOf i).toNat)
  case atStart => exact ⟨0, w2.heap.size, _, Nat.zero_le _, rfl, rfl, hb.size, HROW, HB3, Lib.hid (by rw [List.take_zero])⟩
  case round =>
    obtain ⟨k, g, f, hk, rfl, rfl, hgw, HR, HB, HF⟩ := hrel
    by_cases hlt : k < p1.size
    · obtain ⟨c, hc⟩ : ∃ c : UInt8, p1[k] = c := ⟨_, rfl⟩
      have hck : p1.data.toList[k]'(by omega) = c := hc
      have htk : p1.data.toList.take (k + 1) = p1.data.toList.take k ++ [c] := by rw [List.take_succ_eq_append_getElem (by omega), hck]
      have hnf : U7.stepF c s1.data.toList f = U7.fits (p1.data.toList.take (k + 1)) s1.data.toList := by rw [htk, U7.fits_snoc, HF.out]
      have HNF := Lib.hid hnf
      obtain ⟨w4, hmk4, hrow4, hbw4⟩ := mk_bools wr s1.size (by omega) ((s1.size : Int) + 1) rfl
      have hgl := HR.out.lt
      have HMW : Hid (MW w g wr.heap.size s1.size f (nxF c s1.data.toList f 0) w4) := Lib.hid ⟨HR.out.below hbw4, hrow4.eq (fun j _ => by unfold nxF; rw [if_neg (Nat.not_lt_zero _)]), by omega, hgw, HB.out.size, HB.out.trans (hbw4.mono HB.out.size)⟩
      obtain ⟨g2, hg2'⟩ : ∃ g2, wr.heap.size = g2 := ⟨_, rfl⟩
      rw [hg2'] at HMW hmk4
      clear hck htk hnf hrow4 hbw4 hmk hcl hfr
      go_wp2
      go_loopw [10] (fun i wq => ∃ (q : Nat), q ≤ s1.size + 1 ∧ i = .int .i64 q ∧ Hid (MW w g g2 s1.size f (nxF c s1.data.toList f q) wq)) (fun i _ => s1.size + 1 - (intOf i).toNat)
      case atStart => exact ⟨0, Nat.zero_le _, rfl, HMW⟩
      case round =>
        obtain ⟨q, hq, rfl, HM⟩ := hrel
        clear HMW
        by_cases hql : q ≤ s1.size
        · have hqz : (q : Int) ≤ (s1.size : Int) := by omega
          have hcF := HM.out.old.cell q hql
          have hzF := HM.out.old.frozen q hql
          have hcN := HM.out.new.cell q hql
          have hzN := HM.out.new.frozen q hql
          obtain ⟨b0, hb0⟩ : ∃ b0, f q = b0 := ⟨_, rfl⟩
          rw [hb0] at hcF
          have HB0 := Lib.hid hb0
          clear hb0
          by_cases hc42 : c.toNat = 42
          · skip
            have HST : Hid (U7.star c = true) := Lib.hid ((star_iff c).2 (.inl hc42))
            have e42 : ((c.toNat : Int) == 42) = true := by rw [hc42]; rfl
            have HC : Hid (c = 42) := Lib.hid (UInt8.toNat_inj.1 hc42)
            clear hc42
            by_cases h0 : q = 0
            · subst h0
              have hq0 : ¬ (0 : Int) < ((0 : Nat) : Int) := by omega
              cases b0 with
              | true =>
                have HN : Hid (MW w g g2 s1.size f (nxF c s1.data.toList f (0 + 1)) (wr.setCell ⟨g2, 0, none⟩ (.bool true))) := Lib.hid ((HM.out).next true (by rw [step_s0 _ _ _ HST.out, HB0.out]))
                clear HST
                go_wp2
                go_roundw
                case rel => exact ⟨0 + 1, by omega, by go_num, HN⟩
                case measure => simp [intOf] <;> omega
              | false =>
                have HN : Hid (MW w g g2 s1.size f (nxF c s1.data.toList f (0 + 1)) (wr.setCell ⟨g2, 0, none⟩ (.bool false))) := Lib.hid ((HM.out).next false (by rw [step_s0 _ _ _ HST.out, HB0.out]))
                clear HST
                go_wp2
                go_roundw
                case rel => exact ⟨0 + 1, by omega, by go_num, HN⟩
                case measure => simp [intOf] <;> omega
            · obtain ⟨j, rfl⟩ : ∃ j, q = j + 1 := ⟨q - 1, by omega⟩
              have hq0 : (0 : Int) < ((j + 1 : Nat) : Int) := by omega
              have cj : ((j + 1 : Nat) : Int) - 1 = (j : Int) := by omega
              have hcJ := HM.out.new.cell j (by omega)
              have hzJ := HM.out.new.frozen j (by omega)
              have hnx : nxF c s1.data.toList f (j + 1) j = U7.stepF c s1.data.toList f j := by unfold nxF; rw [if_pos (Nat.lt_succ_self _)]
              obtain ⟨b1, hb1'⟩ : ∃ b1, U7.stepF c s1.data.toList f j = b1 := ⟨_, rfl⟩
              rw [hnx, hb1'] at hcJ
              have HB1 := Lib.hid hb1'
              clear hnx hb1'
              cases b0 with
              | true =>
                have HN : Hid (MW w g g2 s1.size f (nxF c s1.data.toList f ((j + 1) + 1)) (wr.setCell ⟨g2, (j + 1), none⟩ (.bool true))) := Lib.hid ((HM.out).next true (by rw [step_sS _ _ _ _ HST.out, HB0.out]; rfl))
                clear HST
                go_wp2
                go_roundw
                case rel => exact ⟨(j + 1) + 1, by omega, by go_num, HN⟩
                case measure => simp [intOf] <;> omega
              | false =>
                cases b1 with
                | false =>
                  have HN : Hid (MW w g g2 s1.size f (nxF c s1.data.toList f ((j + 1) + 1)) (wr.setCell ⟨g2, (j + 1), none⟩ (.bool false))) := Lib.hid ((HM.out).next false (by rw [step_sS _ _ _ _ HST.out, HB0.out, HB1.out]; rfl))
                  clear HST
                  go_wp2
                  go_roundw
                  case rel => exact ⟨(j + 1) + 1, by omega, by go_num, HN⟩
                  case measure => simp [intOf] <;> omega
                | true =>
                  have HN : Hid (MW w g g2 s1.size f (nxF c s1.data.toList f ((j + 1) + 1)) (wr.setCell ⟨g2, (j + 1), none⟩ (.bool true))) := Lib.hid ((HM.out).next true (by rw [step_sS _ _ _ _ HST.out, HB0.out, HB1.out, HC.out]; rfl))
                  clear HST
                  go_wp2
                  go_roundw
                  case rel => exact ⟨(j + 1) + 1, by omega, by go_num, HN⟩
                  case measure => simp [intOf] <;> omega
          · by_cases hc37 : c.toNat = 37
            · skip
              have HST : Hid (U7.star c = true) := Lib.hid ((star_iff c).2 (.inr hc37))
              have e42 : ((c.toNat : Int) == 42) = false := by rw [hc37]; rfl
              have e37 : ((c.toNat : Int) == 37) = true := by rw [hc37]; rfl
              have HC : Hid (c = 37) := Lib.hid (UInt8.toNat_inj.1 hc37)
              clear hc37
              by_cases h0 : q = 0
              · subst h0
                have hq0 : ¬ (0 : Int) < ((0 : Nat) : Int) := by omega
                cases b0 with
                | true =>
                  have HN : Hid (MW w g g2 s1.size f (nxF c s1.data.toList f (0 + 1)) (wr.setCell ⟨g2, 0, none⟩ (.bool true))) := Lib.hid ((HM.out).next true (by rw [step_s0 _ _ _ HST.out, HB0.out]))
                  clear HST
                  go_wp2
                  go_roundw
                  case rel => exact ⟨0 + 1, by omega, by go_num, HN⟩
                  case measure => simp [intOf] <;> omega
                | false =>
                  have HN : Hid (MW w g g2 s1.size f (nxF c s1.data.toList f (0 + 1)) (wr.setCell ⟨g2, 0, none⟩ (.bool false))) := Lib.hid ((HM.out).next false (by rw [step_s0 _ _ _ HST.out, HB0.out]))
                  clear HST
                  go_wp2
                  go_roundw
                  case rel => exact ⟨0 + 1, by omega, by go_num, HN⟩
                  case measure => simp [intOf] <;> omega
              · obtain ⟨j, rfl⟩ : ∃ j, q = j + 1 := ⟨q - 1, by omega⟩
                have hq0 : (0 : Int) < ((j + 1 : Nat) : Int) := by omega
                have cj : ((j + 1 : Nat) : Int) - 1 = (j : Int) := by omega
                have hcJ := HM.out.new.cell j (by omega)
                have hzJ := HM.out.new.frozen j (by omega)
                have hnx : nxF c s1.data.toList f (j + 1) j = U7.stepF c s1.data.toList f j := by unfold nxF; rw [if_pos (Nat.lt_succ_self _)]
                obtain ⟨b1, hb1'⟩ : ∃ b1, U7.stepF c s1.data.toList f j = b1 := ⟨_, rfl⟩
                rw [hnx, hb1'] at hcJ
                have HB1 := Lib.hid hb1'
                clear hnx hb1'
                cases b0 with
                | true =>
                  have HN : Hid (MW w g g2 s1.size f (nxF c s1.data.toList f ((j + 1) + 1)) (wr.setCell ⟨g2, (j + 1), none⟩ (.bool true))) := Lib.hid ((HM.out).next true (by rw [step_sS _ _ _ _ HST.out, HB0.out]; rfl))
                  clear HST
                  go_wp2
                  go_roundw
                  case rel => exact ⟨(j + 1) + 1, by omega, by go_num, HN⟩
                  case measure => simp [intOf] <;> omega
                | false =>
                  cases b1 with
                  | false =>
                    have HN : Hid (MW w g g2 s1.size f (nxF c s1.data.toList f ((j + 1) + 1)) (wr.setCell ⟨g2, (j + 1), none⟩ (.bool false))) := Lib.hid ((HM.out).next false (by rw [step_sS _ _ _ _ HST.out, HB0.out, HB1.out]; rfl))
                    clear HST
                    go_wp2
                    go_roundw
                    case rel => exact ⟨(j + 1) + 1, by omega, by go_num, HN⟩
                    case measure => simp [intOf] <;> omega
                  | true =>
                    obtain ⟨y, hy⟩ : ∃ y : UInt8, s1[j] = y := ⟨_, rfl⟩
                    have hyd : s1.data.toList.getD j 0 = y := by rw [List.getD_eq_getElem?_getD, List.getElem?_eq_getElem (by omega)]; exact hy
                    have HYD := Lib.hid hyd
                    clear hyd
                    by_cases h47 : y = 47
                    · have e47 : ((y.toNat : Int) != 47) = false := by rw [h47]; rfl
                      have HN : Hid (MW w g g2 s1.size f (nxF c s1.data.toList f ((j + 1) + 1)) (wr.setCell ⟨g2, (j + 1), none⟩ (.bool false))) := Lib.hid ((HM.out).next false (by rw [step_sS _ _ _ _ HST.out, HB0.out, HB1.out, HC.out, HYD.out, h47]; rfl))
                      clear HST h47
                      go_wp2
                      go_roundw
                      case rel => exact ⟨(j + 1) + 1, by omega, by go_num, HN⟩
                      case measure => simp [intOf] <;> omega
                    · have e47 : ((y.toNat : Int) != 47) = true := by
                        rw [bne_iff_ne]; intro h; apply h47; apply UInt8.toNat_inj.1; have : (47 : UInt8).toNat = 47 := rfl; omega
                      have HN : Hid (MW w g g2 s1.size f (nxF c s1.data.toList f ((j + 1) + 1)) (wr.setCell ⟨g2, (j + 1), none⟩ (.bool true))) := Lib.hid ((HM.out).next true (by rw [step_sS _ _ _ _ HST.out, HB0.out, HB1.out, HC.out, HYD.out, bne_iff_ne.2 h47]; rfl))
                      clear HST h47
                      go_wp2
                      go_roundw
                      case rel => exact ⟨(j + 1) + 1, by omega, by go_num, HN⟩
                      case measure => simp [intOf] <;> omega
            · have HST : Hid (U7.star c = false) := Lib.hid (by rw [← Bool.not_eq_true]; intro h; rcases (star_iff c).1 h with h | h <;> omega)
              have e42 : ((c.toNat : Int) == 42) = false := by rw [beq_eq_false_iff_ne]; omega
              have e37 : ((c.toNat : Int) == 37) = false := by rw [beq_eq_false_iff_ne]; omega
              clear hc42 hc37
              by_cases h0 : q = 0
              · subst h0
                have hq0 : ¬ (0 : Int) < ((0 : Nat) : Int) := by omega
                have HN : Hid (MW w g g2 s1.size f (nxF c s1.data.toList f (0 + 1)) wr) := Lib.hid (HM.out.skip (step_n0 _ _ _ HST.out))
                clear HST
                go_wp2
                go_roundw
                case rel => exact ⟨0 + 1, by omega, by go_num, HN⟩
                case measure => simp [intOf] <;> omega
              · obtain ⟨j, rfl⟩ : ∃ j, q = j + 1 := ⟨q - 1, by omega⟩
                have hq0 : (0 : Int) < ((j + 1 : Nat) : Int) := by omega
                have cj : ((j + 1 : Nat) : Int) - 1 = (j : Int) := by omega
                have hcJ := HM.out.old.cell j (by omega)
                have hzJ := HM.out.old.frozen j (by omega)
                obtain ⟨y, hy⟩ : ∃ y : UInt8, s1[j] = y := ⟨_, rfl⟩
                have hyd : s1.data.toList.getD j 0 = y := by rw [List.getD_eq_getElem?_getD, List.getElem?_eq_getElem (by omega)]; exact hy
                have HYD := Lib.hid hyd
                obtain ⟨b1, hb1'⟩ : ∃ b1, f j = b1 := ⟨_, rfl⟩
                rw [hb1'] at hcJ
                have HB1 := Lib.hid hb1'
                clear hyd hb1'
                cases b1 with
                | false =>
                  have HN : Hid (MW w g g2 s1.size f (nxF c s1.data.toList f ((j + 1) + 1)) ((wr.drewN 1).setCell ⟨g2, (j + 1), none⟩ (.bool false))) := Lib.hid ((HM.out.drewN 1).next false (by rw [step_nS _ _ _ _ HST.out, HB1.out]; rfl))
                  clear HST
                  go_wp2
                  go_region
                  go_wp2
                  go_roundw
                  case rel => exact ⟨(j + 1) + 1, by omega, by go_num, HN⟩
                  case measure => simp [intOf] <;> omega
                | true =>
                  by_cases hyc : y = c
                  · have eyc : ((y.toNat : Int) == (c.toNat : Int)) = true := by rw [hyc]; exact beq_self_eq_true _
                    have HN : Hid (MW w g g2 s1.size f (nxF c s1.data.toList f ((j + 1) + 1)) ((wr.drewN 1).setCell ⟨g2, (j + 1), none⟩ (.bool true))) := Lib.hid ((HM.out.drewN 1).next true (by rw [step_nS _ _ _ _ HST.out, HB1.out, HYD.out, hyc]; simp))
                    clear HST hyc
                    go_wp2
                    go_region
                    go_wp2
                    go_roundw
                    case rel => exact ⟨(j + 1) + 1, by omega, by go_num, HN⟩
                    case measure => simp [intOf] <;> omega
                  · have eyc : ((y.toNat : Int) == (c.toNat : Int)) = false := by
                      rw [beq_eq_false_iff_ne]; intro h; apply hyc; apply UInt8.toNat_inj.1; omega
                    have HN : Hid (MW w g g2 s1.size f (nxF c s1.data.toList f ((j + 1) + 1)) ((wr.drewN 1).setCell ⟨g2, (j + 1), none⟩ (.bool false))) := Lib.hid ((HM.out.drewN 1).next false (by rw [step_nS _ _ _ _ HST.out, HB1.out, HYD.out, beq_eq_false_iff_ne.2 hyc]; rfl))
                    clear HST hyc
                    go_wp2
                    go_region
                    go_wp2
                    go_roundw
                    case rel => exact ⟨(j + 1) + 1, by omega, by go_num, HN⟩
                    case measure => simp [intOf] <;> omega
        · obtain rfl : q = s1.size + 1 := by omega
          have hqz : ¬ ((s1.size + 1 : Nat) : Int) ≤ (s1.size : Int) := by omega
          have hnew : BlRow wr g2 s1.size (U7.stepF c s1.data.toList f) := HM.out.new.eq (fun j hj => by unfold nxF; rw [if_pos (by omega)])
          have HNEW := Lib.hid hnew
          have HBQ := Lib.hid HM.out.below
          have hle2 := HM.out.le2
          clear hnew
          go_wp2
          go_roundw
          case rel => exact ⟨k + 1, g2, _, by omega, by go_num, rfl, hle2, HNEW, HBQ, HNF⟩
          case measure => simp [intOf]; omega
    · obtain rfl : k = p1.size := by omega
      have hcF := HR.out.cell s1.size (Nat.le_refl _)
      have he : f s1.size = ans := by
        rw [HFIN.out, HF.out, List.take_of_length_le (by omega)]
      rw [he] at hcF
      clear he hmk hcl hfr
      go_wp2
      go_ret
      exact ⟨by rw [← HANS.out]; rfl, HB.out⟩
end Go.Proofs.YtpjgacmcpbpklaaDoor
