/- Where a key stands: the search's closures, the search itself, find. -/
import Derived.Test.YtgpkdnnlgafenaaKv
import Derived.Test.YtgpkdnnlgafenaaShelf
import Derived.WalkLawsBesides
import Derived.Deep.QuietTactic
import Derived.BigQuiet
import Derived.IntWalk
import Derived.Outline
namespace Go.Proofs.Ytgpkdnnlgafenaa
open Go.RowKit Kv
set_option linter.unusedVariables false

set_option maxHeartbeats 400000 in
theorem cmp_any (a b : ByteArray) (A : Option Addr) (n c : Nat) (w : World) :
    Calls Try.prog 51 #[.agg #[.string a, .slice A n c], .string b] w fun e w' => e = .returned (.int .i64 (Go.Lib.compareBytes a.data.toList b.data.toList)) ∧ Below w.heap.size w w' := by
  have hb : Below w.heap.size w (w.alloc (.cells #[.string a, .slice A n c] 63)) := (Below.refl _ _).alloc (Nat.le_refl _) _
  have HB := Lib.hid hb
  clear hb
  go_enter Try.func51, Try.ntmps51
  go_wp2_with (go_at_call 52; refine (Try.strings_Compare _ _ _).mono ?_; rintro e w' ⟨rfl, rfl⟩)
  go_ret
  exact ⟨rfl, HB.out⟩

theorem pcells_at (L : List Ent) (i : Nat) (h : i < L.length) : (pcells L)[i * 2]? = some (.string L[i].k) ∧ (pcells L)[i * 2 + 1]? = some L[i].v := ⟨flat2_fst L i h, flat2_snd L i h⟩
theorem prow_cells {w : World} {g c : Nat} {L : List Ent} (h : PRow w (.slice (some ⟨g, 0, none⟩) L.length c) L) (i : Nat) (hi : i < L.length) :
    w.cell? ⟨g, i * 2, none⟩ = some (.string L[i].k) ∧ w.cell? ⟨g, i * 2 + 1, none⟩ = some L[i].v ∧ ∃ A n c', L[i].v = .slice A n c' ∧ n = L[i].l.length ∧ n ≤ c' ∧ c' ≤ maxLen ∧ Sees w w.heap.size A L[i].l := by
  have h1 := h.row.cells (g := g) rfl (i * 2) _ (pcells_at L i hi).1
  have h2 := h.row.cells (g := g) rfl (i * 2 + 1) _ (pcells_at L i hi).2
  rw [add_at] at h1 h2
  obtain ⟨A, c', e, h3, h4⟩ := (h.vals _ (List.getElem_mem hi)).shape
  have h5 := h.vals _ (List.getElem_mem hi)
  rw [e] at h5
  exact ⟨h1, h2, A, _, c', e, rfl, h3, h4, h5.sees⟩
theorem add_at0 (g j : Nat) : (⟨g, 0, none⟩ : Addr).add j = ⟨g, j, none⟩ := add_at g j

set_option maxHeartbeats 1600000 in
set_option maxRecDepth 100000 in
theorem bsf_any (g c : Nat) (L : List Ent) (key : ByteArray) (w : World) (hrow : PRow w (.slice (some ⟨g, 0, none⟩) L.length c) L) (hasc : Asc (L.map Ent.pr)) (hlen : L.length ≤ 1000000) :
    Calls Try.prog 50 #[.slice (some ⟨g, 0, none⟩) L.length c, .string key, .func (.func 51) #[] #[]] w fun e w' =>
      e = .returned (.tuple #[.int .i64 (pos (L.map Ent.pr) key : Int), .bool (hit (L.map Ent.pr) key)]) ∧ Below w.heap.size w w' := by
  obtain ⟨w0, rfl⟩ : ∃ w0, w0 = w := ⟨_, rfl⟩
  have HROW := Lib.hid hrow
  have HASC := Lib.hid hasc
  clear hrow hasc
  go_enter Try.func50, Try.ntmps50
  go_wp2_with fail
  go_loopw [9, 10] (fun a b wr => ∃ lo hi : Nat, a = .int .i64 lo ∧ b = .int .i64 hi ∧ lo ≤ hi ∧ hi ≤ L.length ∧ Below w0.heap.size w0 wr ∧ Hid ((∀ i (h : i < (L.map Ent.pr).length), i < lo → ltb ((L.map Ent.pr)[i]).1 key = true) ∧ ∀ i (h : i < (L.map Ent.pr).length), hi ≤ i → ltb ((L.map Ent.pr)[i]).1 key = false)) (fun a b _ => (intOf b - intOf a).toNat)
  case atStart => exact ⟨0, L.length, rfl, rfl, Nat.zero_le _, Nat.le_refl _, Below.refl _ _, Lib.hid ⟨fun _ _ h => absurd h (Nat.not_lt_zero _), fun i h h2 => by rw [List.length_map] at h; omega⟩⟩
  case round =>
    obtain ⟨lo, hi, rfl, rfl, hlh, hin, hbel, HI⟩ := hrel
    have HB := Lib.hid hbel
    have hrow2 : PRow wr (.slice (some ⟨g, 0, none⟩) L.length c) L := HROW.out.far (Only.of_below (S := []) hbel) (Far.nil _ _) (fun b hb => hb)
    have HR2 := Lib.hid hrow2
    clear hbel hrow2
    by_cases hlt : lo < hi
    · obtain ⟨q, Hq⟩ : ∃ q, Hid (q = (lo + hi) / 2) := ⟨_, Lib.hid rfl⟩
      have hq1 : lo ≤ q ∧ q < hi := by rw [Hq.out]; omega
      have hq2 : ((lo : Int) + (hi : Int)) / 2 = (q : Int) := by rw [Hq.out]; omega
      have hqL : q < L.length := by omega
      obtain ⟨k1, k2, A, n, c', ev, hn, _, _, _⟩ := prow_cells HR2.out q hqL
      rw [ev] at k2
      have hcall := cmp_any L[q].k key A n c' wr
      have hcl := Kv.cmp_ltb L[q].k key
      obtain ⟨kk, Hkk⟩ : ∃ kk, Hid (kk = L[q].k) := ⟨_, Lib.hid rfl⟩
      rw [← Hkk.out] at k1 hcall hcl
      obtain ⟨z, Hz⟩ : ∃ z, Hid (z = Go.Lib.compareBytes kk.data.toList key.data.toList) := ⟨_, Lib.hid rfl⟩
      rw [← Hz.out] at hcall hcl
      have HC := Lib.hid hcall
      clear hcall ev hn
      by_cases hlz : z < 0
      · have hl : ltb kk key = true := by rw [← hcl]; simpa using hlz
        have HL := Lib.hid hl
        clear hl hcl
        go_wp2_with fail
        refine HC.out.mono ?_
        rintro e w2 ⟨rfl, hb2⟩
        have hb3 : Below w0.heap.size w0 w2 := HB.out.trans (hb2.mono HB.out.size)
        have HB3 := Lib.hid hb3
        have HI2 : Hid ((∀ i (h : i < (L.map Ent.pr).length), i < q + 1 → ltb ((L.map Ent.pr)[i]).1 key = true) ∧ ∀ i (h : i < (L.map Ent.pr).length), hi ≤ i → ltb ((L.map Ent.pr)[i]).1 key = false) := Lib.hid ⟨fun i h h2 => by
          have hq : ltb ((L.map Ent.pr)[q]'(by rw [List.length_map]; exact hqL)).1 key = true := by rw [List.getElem_map]; show ltb L[q].k key = true; rw [← Hkk.out]; exact HL.out
          rcases Nat.lt_or_ge i q with h3 | h3
          · exact ltb_trans (HASC.out.lt h (by rw [List.length_map]; exact hqL) h3) hq
          · obtain rfl : i = q := by omega
            exact hq, HI.out.2⟩
        clear hb2 hb3 hq2 k1 k2
        go_wp2
        go_roundw
        case rel => exact ⟨q + 1, hi, by go_num, rfl, by omega, hin, HB3.out, HI2⟩
        case measure => simp [intOf]; omega
      · have hl : ltb kk key = false := by rw [← hcl]; simpa using hlz
        have HL := Lib.hid hl
        clear hl hcl
        go_wp2_with fail
        refine HC.out.mono ?_
        rintro e w2 ⟨rfl, hb2⟩
        have hb3 : Below w0.heap.size w0 w2 := HB.out.trans (hb2.mono HB.out.size)
        have HB3 := Lib.hid hb3
        have HI2 : Hid ((∀ i (h : i < (L.map Ent.pr).length), i < lo → ltb ((L.map Ent.pr)[i]).1 key = true) ∧ ∀ i (h : i < (L.map Ent.pr).length), q ≤ i → ltb ((L.map Ent.pr)[i]).1 key = false) := Lib.hid ⟨HI.out.1, fun i h h2 => by
          have hq : ltb ((L.map Ent.pr)[q]'(by rw [List.length_map]; exact hqL)).1 key = false := by rw [List.getElem_map]; show ltb L[q].k key = false; rw [← Hkk.out]; exact HL.out
          rcases Nat.lt_or_ge q i with h3 | h3
          · cases e : ltb ((L.map Ent.pr)[i]).1 key with
            | false => rfl
            | true => have := ltb_trans (HASC.out.lt (by rw [List.length_map]; exact hqL) h h3) e; rw [hq] at this; cases this
          · obtain rfl : i = q := by omega
            exact hq⟩
        clear hb2 hb3 hq2 k1 k2
        go_wp2
        go_roundw
        case rel => exact ⟨lo, q, rfl, rfl, by omega, by omega, HB3.out, HI2⟩
        case measure => simp [intOf]; omega
    · obtain rfl : hi = lo := by omega
      have hpos : Kv.pos (L.map Ent.pr) key = hi := pos_unique (by rw [List.length_map]; exact hin) (fun i h h2 => HI.out.1 i h h2) (fun h => HI.out.2 hi h (Nat.le_refl _))
      have HP := Lib.hid hpos
      clear hpos
      rcases Nat.lt_or_ge hi L.length with hiL | hiL
      · obtain ⟨k1, k2, A, n, c', ev, hn, _, _, _⟩ := prow_cells HR2.out hi hiL
        rw [ev] at k2
        have hcall := cmp_any L[hi].k key A n c' wr
        have hh : hit (L.map Ent.pr) key = decide (Go.Lib.compareBytes L[hi].k.data.toList key.data.toList = 0) := by
          have hl : pos (L.map Ent.pr) key < (L.map Ent.pr).length := by rw [HP.out, List.length_map]; exact hiL
          rw [hit_at hl, Kv.cmp_eq]
          simp only [HP.out, List.getElem_map]
          rfl
        obtain ⟨kk, Hkk⟩ : ∃ kk, Hid (kk = L[hi].k) := ⟨_, Lib.hid rfl⟩
        rw [← Hkk.out] at k1 hcall hh
        obtain ⟨z, Hz⟩ : ∃ z, Hid (z = Go.Lib.compareBytes kk.data.toList key.data.toList) := ⟨_, Lib.hid rfl⟩
        rw [← Hz.out] at hcall hh
        have HC := Lib.hid hcall
        have HH := Lib.hid hh
        clear hcall ev hn hh
        go_wp2_with fail
        refine HC.out.mono ?_
        rintro e w2 ⟨rfl, hb2⟩
        have hb3 : Below w0.heap.size w0 w2 := HB.out.trans (hb2.mono HB.out.size)
        have HB3 := Lib.hid hb3
        clear hb2 hb3 k1 k2
        go_wp2
        go_ret2
        exact ⟨by rw [HP.out, HH.out]; first | rfl | simp, HB3.out⟩
      · have hh : hit (L.map Ent.pr) key = false := hit_none (by rw [HP.out, List.length_map]; exact hiL)
        have HH := Lib.hid hh
        clear hh
        go_wp2
        go_ret2
        exact ⟨by rw [HP.out, HH.out]; rfl, HB.out⟩
set_option maxHeartbeats 400000 in
theorem first_any (bt bk t r c1 g c2 : Nat) (F : List Nat) (L : List Ent) (key : ByteArray) (w : World) (h0 : w.cell? ⟨bt, 0, none⟩ = some (.pointer (some ⟨t, 0, none⟩))) (h1 : w.cell? ⟨bk, 0, none⟩ = some (.string key)) (ht : TabN w t F r c1 g c2 L) :
    Calls Try.prog 49 #[.int .i64 0, .pointer (some ⟨bt, 0, none⟩), .pointer (some ⟨bk, 0, none⟩)] w fun e w' => ∃ b, e = .returned (.bool b) ∧ ∃ q, w' = w.drewN q := by
  obtain ⟨k1, k2, k3, k4⟩ := ht.cells
  have hpos : 0 < L.length := List.length_pos_iff.2 ht.pos
  obtain ⟨k5, _⟩ := prow_cells ht.row 0 hpos
  rw [Nat.zero_mul] at k5
  clear ht k2
  go_enter Try.func49, Try.ntmps49
  go_wp2
  go_quiet (fail)
  go_wp2
  go_ret
  exact ⟨_, rfl, _, rfl⟩
end Go.Proofs.Ytgpkdnnlgafenaa
