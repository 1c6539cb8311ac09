/- New, Len, Get. -/
import Derived.Test.YtgpkdnnlgafenaaKvCom
namespace Go.Proofs.Ytgpkdnnlgafenaa
open Go.RowKit Kv
set_option linter.unusedVariables false

theorem new_any (w : World) : Calls Try.prog 9 #[] w fun e w' => ∃ t, e = .returned (.pointer (some ⟨t, 0, none⟩)) ∧ Tab w' t [] [t] ∧ Below w.heap.size w w' ∧ w.heap.size ≤ t := by
  have key : ∃ t, Ending.returned (.pointer (some ⟨w.heap.size, 0, none⟩)) = .returned (.pointer (some ⟨t, 0, none⟩)) ∧ Tab (w.alloc (.cells #[.slice none 0 0, .int .i64 0] 67)) t [] [t] ∧ Below w.heap.size w (w.alloc (.cells #[.slice none 0 0, .int .i64 0] 67)) ∧ w.heap.size ≤ t :=
    ⟨w.heap.size, rfl, .inl ⟨rfl, rfl, none, 0, heap_alloc_new w _⟩, (Below.refl _ _).alloc (Nat.le_refl _) _, Nat.le_refl _⟩
  have KEY := Lib.hid key
  clear key
  go_enter Try.func9, Try.ntmps9
  go_wp2
  go_ret
  exact KEY.out

theorem Tab.count {w : World} {t : Nat} {m : List Pr} {F : List Nat} (h : Tab w t m F) : w.cell? ⟨t, 1, none⟩ = some (.int .i64 (m.length : Int)) := by
  rcases h with ⟨rfl, _, A, c, hh⟩ | ⟨r, c1, g, c2, L, rfl, ht⟩
  · simp [World.cell?, hh]
  · rw [List.length_map]; exact ht.cells.2.1
theorem len_any (w : World) (t : Nat) (m : List Pr) (F : List Nat) (h : Tab w t m F) : Calls Try.prog 11 #[.pointer (some ⟨t, 0, none⟩)] w fun e w' => e = .returned (.int .i64 (m.length : Int)) ∧ w = w' := by
  have hc := h.count
  clear h
  go_enter Try.func11, Try.ntmps11
  go_wp2
  go_ret
  exact ⟨rfl, rfl⟩

/-- What Get answers. -/
def got (m : List Pr) (k : ByteArray) : List UInt8 := match m[pos m k]? with
  | some e => if e.1 = k then e.2 else []
  | none => []
theorem got_miss {m : List Pr} {k : ByteArray} (h : hit m k = false) : got m k = [] := by
  unfold hit at h
  unfold got
  cases e : m[pos m k]? with
  | none => rfl
  | some x => rw [e] at h; simp at h; simp [h]
theorem got_hit {m : List Pr} {k : ByteArray} (h : hit m k = true) (hp : pos m k < m.length) : got m k = (m[pos m k]).2 := by
  obtain ⟨_, h2⟩ := hit_lt h
  unfold got
  rw [List.getElem?_eq_getElem hp]
  simp [h2]
def GetEnd (m : List Pr) (key : ByteArray) (w : World) (e : Ending) (w' : World) : Prop :=
  ∃ A n c, e = .returned (.tuple #[.slice A n c, .bool (hit m key)]) ∧ n = (got m key).length ∧ n ≤ c ∧ c ≤ maxLen ∧ BRow w' (.slice A n c) (got m key) ∧ Below w.heap.size w w'

set_option maxHeartbeats 800000 in
theorem get_no (w : World) (t : Nat) (m : List Pr) (key : ByteArray) (x : Int) (hh : hit m key = false)
    (hf : Calls Try.prog 38 #[.pointer (some ⟨t, 0, none⟩), .string key] w fun e w' => e = .returned (.tuple #[.int .i64 0, .int .i64 x, .bool false]) ∧ Below w.heap.size w w') :
    Calls Try.prog 21 #[.pointer (some ⟨t, 0, none⟩), .string key] w (GetEnd m key w) := by
  have HF := Lib.hid hf
  have HH := Lib.hid hh
  clear hf hh
  go_enter Try.func21, Try.ntmps21
  go_wp2_with fail
  refine HF.out.mono ?_
  rintro e w2 ⟨rfl, hb2⟩
  have key2 : GetEnd m key w (.returned (.tuple #[.slice none 0 0, .bool false])) w2 := ⟨none, 0, 0, by rw [HH.out], by rw [got_miss HH.out]; rfl, Nat.le_refl _, Nat.zero_le _, by rw [got_miss HH.out]; exact BRow.nil _, hb2⟩
  have KEY := Lib.hid key2
  clear hb2 key2
  go_wp2
  go_ret2
  exact KEY.out

set_option maxHeartbeats 800000 in
theorem get_yes (w : World) (t r c1 g c2 : Nat) (F : List Nat) (L : List Ent) (key : ByteArray) (ht : TabN w t F r c1 g c2 L) (hasc : Asc (L.map Ent.pr)) (hlen : L.length ≤ 1000000) (hgood : Kv.Good (L.map Ent.pr)) (hh : hit (L.map Ent.pr) key = true) :
    Calls Try.prog 21 #[.pointer (some ⟨t, 0, none⟩), .string key] w (GetEnd (L.map Ent.pr) key w) := by
  obtain ⟨p, Hp⟩ : ∃ p, Hid (p = pos (L.map Ent.pr) key) := ⟨_, Lib.hid rfl⟩
  have hp : p < L.length := by
    obtain ⟨h1, _⟩ := hit_lt hh
    rw [List.length_map] at h1
    rw [Hp.out]; exact h1
  have hgl : (got (L.map Ent.pr) key) = L[p].l := by
    have hp' : pos (L.map Ent.pr) key < (L.map Ent.pr).length := by rw [← Hp.out, List.length_map]; exact hp
    rw [got_hit hh hp']
    simp only [← Hp.out, List.getElem_map]
    rfl
  have hbig : L[p].l.length ≤ 200000 := by
    have := hgood (Ent.pr L[p]) (List.mem_map.2 ⟨_, List.getElem_mem hp, rfl⟩)
    exact (ok1_iff.1 this).2.2.1
  have hf := find_any w t r c1 g c2 F L key ht hasc hlen
  rw [hh, ← Hp.out] at hf
  have HF := Lib.hid hf
  have HT := Lib.hid ht
  have HG := Lib.hid hgl
  have HH := Lib.hid hh
  clear hf ht hasc hgood hh hgl
  go_enter Try.func21, Try.ntmps21
  go_wp2_with fail
  refine HF.out.mono ?_
  rintro e w2 ⟨rfl, hb2⟩
  have h2 := HT.out.below hb2
  obtain ⟨k1, _, k3, _⟩ := h2.cells
  obtain ⟨_, k5, A, n, c', ev, hn, _, _, hs⟩ := prow_cells h2.row p hp
  rw [ev] at k5
  have HCL := Lib.hid (clone_val A n c' _ _ w2 hn (by rw [hn]; omega) hs)
  have HB2 := Lib.hid hb2
  have HN := Lib.hid hn
  clear h2 hb2 hs hn ev
  go_wp2_with fail
  refine HCL.out.mono ?_
  rintro e w3 ⟨A', c3, rfl, q1, q2, q3, q4, _⟩
  have key2 : GetEnd (L.map Ent.pr) key w (.returned (.tuple #[.slice A' n c3, .bool true])) w3 := ⟨A', n, c3, by rw [HH.out], by rw [HG.out]; exact HN.out, q1, q2, by rw [HG.out]; exact q3, HB2.out.trans (q4.mono HB2.out.size)⟩
  have KEY := Lib.hid key2
  clear q1 q2 q3 q4 key2 k1 k3 k5
  go_wp2
  go_ret2
  exact KEY.out
theorem get_any (w : World) (t : Nat) (m : List Pr) (F : List Nat) (key : ByteArray) (ht : Tab w t m F) (hasc : Asc m) (hlen : m.length ≤ 1000000) (hgood : Kv.Good m) :
    Calls Try.prog 21 #[.pointer (some ⟨t, 0, none⟩), .string key] w (GetEnd m key w) := by
  rcases ht with ⟨rfl, _, A, c, hh⟩ | ⟨r, c1, g, c2, L, rfl, ht⟩
  · exact get_no w t [] key 0 rfl (find_none w t key A c _ _ hh)
  · rw [List.length_map] at hlen
    cases hh : hit (L.map Ent.pr) key with
    | true => exact get_yes w t r c1 g c2 F L key ht hasc hlen hgood hh
    | false =>
      have hf := find_any w t r c1 g c2 F L key ht hasc hlen
      rw [hh] at hf
      exact get_no w t _ key _ hh hf
end Go.Proofs.Ytgpkdnnlgafenaa
