/- The walk of QueueCopies. -/
import Derived.Test.YthdjopijmhnmhaaQueClosesW
namespace Go.Proofs.Ythdjopijmhnmhaa
open Go.Conc Go.RowKit
set_option linter.unusedVariables false

/-- n bytes of one's own, that may be written to. -/
def Bytes8 (w : World) (g n : Nat) : Prop := ∀ i, i < n → ∃ z : Int, w.cell? ⟨g, i, none⟩ = some (.int .u8 z) ∧ w.frozen? ⟨g, i, none⟩ = false
theorem Bytes8.store {w : World} {g n : Nat} (h : Bytes8 w g n) (j : Nat) (hj : j < n) (z : Int) : Bytes8 (w.setCell ⟨g, j, none⟩ (.int .u8 z)) g n := fun i hi => by
  obtain ⟨zj, hcj, hfj⟩ := h j hj
  obtain ⟨zi, hci, hfi⟩ := h i hi
  by_cases e : i = j
  · subst e
    exact ⟨z, World.cell?_setCell_same _ _ _ hci, (World.frozen?_setCell _ _ _ _).trans hfi⟩
  · exact ⟨zi, (World.cell?_setCell_other _ _ _ _ (fun h => e (by injection h with _ h2 _; omega))).trans hci, (World.frozen?_setCell _ _ _ _).trans hfi⟩
theorem Bytes8.only {w w' : World} {g n : Nat} {S : List Nat} (h : Bytes8 w g n) (ho : Only S w w') (hg : g ∉ S) : Bytes8 w' g n := fun i hi => by
  obtain ⟨z, hc, hf⟩ := h i hi
  have hlt : g < w.heap.size := World.block_lt_of_cell? w _ hc
  exact ⟨z, (World.cell?_of_block (w := w) (a := ⟨g, i, none⟩) (ho.block g hlt hg)).trans hc, (World.frozen?_of_block (w := w) (a := ⟨g, i, none⟩) (ho.block g hlt hg)).trans hf⟩
theorem bytes8_of_own {w : World} {base e g c n : Nat} {o : Nat} {xs : List UInt8} (h : w.ownsRow base e 1 (.slice (some ⟨g, o, none⟩) n c) n (bv xs)) : Bytes8 w g n := by
  have hl : xs.length = n := by have := h.1; simpa [bv] using this
  rcases id h.2 with ⟨hv, _⟩ | ⟨g', cap, cur, hv, _, hg, _⟩
  · cases hv
  · injection hv with h1 _ _
    injection h1 with h1
    injection h1 with h1 h2 _
    subst h1; subst h2
    intro i hi
    have := h.cells (g := g) rfl i (.int .u8 ((xs[i]'(by omega)).toNat : Int)) (bv_at xs i (by omega))
    rw [add_to, Nat.zero_add] at this
    exact ⟨_, this, by simp [World.frozen?, hg]⟩

theorem Try.infoU8 : (Try.prog.info? 5).map (fun i => (i.zero, i.size, i.bytes)) = some (some (.int .u8 0), 1, 1) := by kernel_rfl

theorem take_snoc' {α : Type} (F : List α) (k : Nat) (hk : k < F.length) : F.take (k + 1) = F.take k ++ [F[k]] := List.take_succ_eq_append_getElem hk

set_option maxHeartbeats 3200000 in
set_option maxRecDepth 100000 in
theorem queueCopies_walk (A : Option Addr) (len cap : Nat) (ls : List (List UInt8)) (hlen : len = ls.length) (hcap : len ≤ cap) (hmax : cap ≤ maxLen) (w : World) (hls : Grid w w.heap.size A ls) :
    Calls Try.prog 5 #[.slice A len cap] w fun e w' => e = .returned (.bool true) ∧ Below w.heap.size w w' := by
  subst hlen
  unfold maxLen at hmax
  obtain ⟨i0, hi, hz0, hz1, hz2⟩ := info_parts Try.infoU8
  by_cases hbig : 30 < (ls.length : Int)
  · go_enter Try.func5, Try.ntmps5
    go_wp2_with fail
    refine (awake_any _).mono ?_
    rintro e w1 ⟨rfl, b1⟩
    go_wp2
    go_ret
    exact ⟨rfl, b1⟩
  have HG := Lib.hid hls
  clear hls
  go_enter Try.func5, Try.ntmps5
  go_wp2_with fail
  refine (awake_any _).mono ?_
  rintro e w1 ⟨rfl, b1⟩
  have z1 := b1.size
  go_wp2_with fail
  refine (new_ok 64 w1 (by omega) (by omega)).mono ?_
  rintro e w2 ⟨q, rfl, hq, q1, q2, b2⟩
  obtain ⟨c, HC⟩ : ∃ c, Hid (c = w1.heap.size) := ⟨_, Lib.hid rfl⟩
  rw [← HC.out] at hq q1
  have hc1 : w.heap.size ≤ c := by rw [HC.out]; exact z1
  have hcq : c < q := q1
  have b02 := b1.trans (b2.mono z1)
  clear b1 b2 HC q1 q2
  go_wp2_with fail
  go_loopw [5] (fun i wr => ∃ k : Nat, k ≤ ls.length ∧ i = .int .i64 k ∧ Que wr q c 64 false (ls.take k) ∧ Below w.heap.size w wr) (fun i _ => ls.length - (intOf i).toNat)
  case atStart => exact ⟨0, Nat.zero_le _, rfl, hq, b02⟩
  case round =>
    obtain ⟨k, hk, rfl, hq, hb⟩ := hrel
    by_cases hlt : k < ls.length
    · obtain ⟨g, o, rfl, hg, hcells⟩ := (HG.out.below hb (Nat.le_refl _)) (List.length_pos_iff.1 (by omega))
      obtain ⟨Ak, ck, hcell, hk1, hk2, hsk⟩ := hcells k hlt
      clear hcells
      have hsn := take_snoc' ls k hlt
      obtain ⟨l, HK⟩ : ∃ l, Hid (l = ls[k]) := ⟨_, Lib.hid rfl⟩
      rw [← HK.out] at hcell hk1 hsk hsn
      have HN := Lib.hid hsn
      clear hsn b02
      unfold maxLen at hk2
      by_cases hl50 : 50 < (l.length : Int)
      · go_wp2
        go_ret
        exact ⟨rfl, hb⟩
      have zr := hb.size
      have lq := hq.lt
      have hgw : g < wr.heap.size := by omega
      have hown0 : (wr.alloc (.cells #[] 5)).ownsRow wr.heap.size 5 1 (.slice (some ⟨wr.heap.size, 0, none⟩) 0 0) ([] : List UInt8).length (bv []) := World.ownsRow_lit wr #[] 0 (Nat.le_refl _) (by decide) rfl
      have hs0 : Sees (wr.alloc (.cells #[] 5)) (wr.heap.size + 1) Ak l := (hsk.mono zr |>.below (below_alloc wr _) (Nat.le_refl _)).mono (by omega)
      go_wp2_with (at_builtin; (refine wpList_append_sees rfl _ _ 27 rfl _ wr.heap.size 5 i0 (.int .u8 0) 1 Try.underlying27 hi hz0 hz1 hz2 rfl _ [] rfl (by exact hown0) (wr.heap.size + 1) Ak l l.length ck rfl rfl hs0 ?k1 ?k2 ?k3 ?_))
      case k1 => simp [maxLen]; omega
      case k2 => first | omega | (simp; omega)
      intro v4 w4 hown4 hg4 hb4
      obtain ⟨hb4', hw4⟩ := below_past (B := wr.heap.size) hb4 (by omega) (by omega)
      have hown4 : w4.ownsRow wr.heap.size 5 1 v4 l.length (bv l) := hown4
      obtain ⟨A4, c4, rfl, hc4, hm4⟩ := own_shape hown4
      have hs4 := Sees.of_own hown4
      have hq4 := hq.below hb4'
      have hgb : ∃ gb, wr.heap.size ≤ gb ∧ gb < w4.heap.size ∧ (l.length ≠ 0 → A4 = some ⟨gb, 0, none⟩ ∧ Bytes8 w4 gb l.length) := by
        by_cases h0 : l.length = 0
        · exact ⟨wr.heap.size, Nat.le_refl _, by omega, fun h => absurd h0 h⟩
        · obtain ⟨gb, cb, hv, h1, h2, _⟩ := own_form hown4 (by omega)
          injection hv with hv _ _
          subst hv
          exact ⟨gb, h1, h2, fun _ => ⟨rfl, bytes8_of_own hown4⟩⟩
      obtain ⟨gb, hgb1, hgb2, hgb3⟩ := hgb
      have hav4 : Avoid w4 c gb := (hq.avoid hgb1).same (hb4'.block c lq.2.1)
      have hbel4 := hb.trans (hb4'.mono zr)
      have hl64 : (ls.take k).length < 64 := by rw [List.length_take]; omega
      have HGB := Lib.hid hgb3
      clear hown4 hg4 hb4 hown0 hs0 hsk hcell hq hgb3
      go_wp2_with fail
      refine (put_avoid A4 l.length c4 l rfl w4 hq4 hl64 hs4 (by omega)).mono ?_
      rintro e w5 ⟨rfl, hq5, o5, av5⟩
      have hav5 := av5 gb hgb2 hav4
      have z5 := o5.size
      have hbel5 := hbel4.trans (o5.below1 (by omega) hc1)
      have HGB5 : Hid (l.length ≠ 0 → A4 = some ⟨gb, 0, none⟩ ∧ Bytes8 w5 gb l.length) := Lib.hid (fun h => ⟨(HGB.out h).1, (HGB.out h).2.only o5 (by simp; omega)⟩)
      rw [← HN.out] at hq5
      clear hs4 hq4 hbel4 hav4 HGB av5
      go_wp2_with fail
      obtain ⟨wo, rfl⟩ : ∃ wo : World, wo = wr := ⟨_, rfl⟩
      go_loopw [7] (fun i wr => ∃ j : Nat, j ≤ l.length ∧ i = .int .i64 j ∧ Que wr q c 64 false (ls.take (k + 1)) ∧ Avoid wr c gb ∧ Hid (l.length ≠ 0 → A4 = some ⟨gb, 0, none⟩ ∧ Bytes8 wr gb l.length) ∧ Below w.heap.size w wr) (fun i _ => l.length - (intOf i).toNat)
      case atStart => exact ⟨0, Nat.zero_le _, rfl, hq5, hav5, HGB5, hbel5⟩
      case round =>
        clear hq5 hav5 HGB5 hbel5 hb
        obtain ⟨j, hj, rfl, hq, hav, HGB, hb⟩ := hrel
        by_cases hjl : j < l.length
        · obtain ⟨rfl, hby⟩ := HGB.out (by omega)
          obtain ⟨z, hcj, hfj⟩ := hby j hjl
          have HB := Lib.hid hby
          clear hby HGB
          go_wp2
          go_roundw
          case rel =>
            have hw := hq.write hav (only_setCell _ ⟨gb, j, none⟩ (.int .u8 (IntKind.u8.wrap (z + 1)))) (by show q ≠ gb; omega) (by show c ≠ gb; omega)
            exact ⟨j + 1, by omega, by go_num, hw.1, hw.2, Lib.hid (fun _ => ⟨by first | rfl | trivial, HB.out.store j hjl _⟩), hb.setCell (by show w.heap.size ≤ gb; omega) _⟩
          case measure => simp [intOf]; omega
        · go_wp2
          go_roundw
          case rel => exact ⟨k + 1, by omega, by go_num, hq, hb⟩
          case measure => simp [intOf]; omega
    · have hks : k = ls.length := by omega
      rw [hks, List.take_length] at hq
      clear hks b02
      go_wp2_with fail
      obtain ⟨wo, rfl⟩ : ∃ wo : World, wo = wr := ⟨_, rfl⟩
      go_loopw [8] (fun i wr => ∃ k : Nat, k ≤ ls.length ∧ i = .int .i64 k ∧ Que wr q c 64 false (ls.drop k) ∧ Below w.heap.size w wr) (fun i _ => ls.length - (intOf i).toNat)
      case atStart => exact ⟨0, Nat.zero_le _, rfl, hq, hb⟩
      case round =>
        clear hq hb
        obtain ⟨k, hk, rfl, hq, hb⟩ := hrel
        by_cases hlt : k < ls.length
        · rw [List.drop_eq_getElem_cons hlt] at hq
          go_wp2_with fail
          refine (take_ok wr hq).mono ?_
          rintro e w5 ⟨A5, cp5, rfl, _, _, s5, hq5, o5⟩
          have hb5 := hb.trans (o5.below1 hb.size hc1)
          obtain ⟨g, o, rfl, hg, hcells⟩ := (HG.out.below hb5 (Nat.le_refl _)) (List.length_pos_iff.1 (by omega))
          obtain ⟨Ak, ck, hcell, hk1, hk2, hsk⟩ := hcells k hlt
          clear hcells
          obtain ⟨l, HK⟩ : ∃ l, Hid (l = ls[k]) := ⟨_, Lib.hid rfl⟩
          rw [← HK.out] at hcell hk1 hsk s5
          rw [← HK.out]
          have hconv := fun n => run_sees_string (P := Try.prog) (w5.drewN n) 27 9 5 Try.underlying27 Try.underlying5 Try.underlying9 (s5.drewN n) l.length cp5 rfl
          have hconv2 := fun n => run_sees_string (P := Try.prog) (w5.drewN n) 27 9 5 Try.underlying27 Try.underlying5 Try.underlying9 (hsk.drewN n) l.length ck rfl
          clear hq hb s5 hsk
          go_wp2
          go_quiet (fail)
          go_wp2
          go_roundw
          case rel => exact ⟨k + 1, by omega, by go_num, hq5.drewN _, below_drewN hb5 _⟩
          case measure => simp [intOf]; omega
        · rw [List.drop_eq_nil_of_le (by omega)] at hq
          go_wp2_with fail
          refine (len_any wr hq).mono ?_
          rintro e w5 ⟨rfl, rfl⟩
          go_wp2
          go_ret
          exact ⟨rfl, hb⟩
end Go.Proofs.Ythdjopijmhnmhaa
