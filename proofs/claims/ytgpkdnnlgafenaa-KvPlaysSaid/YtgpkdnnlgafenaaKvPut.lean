/- appendPut. -/
import Derived.Test.YtgpkdnnlgafenaaKvArg
import Derived.Test.YtgpkdnnlgafenaaRowK
import Derived.Test.YtgpkdnnlgafenaaAppStr
namespace Go.Proofs.Ytgpkdnnlgafenaa
open Go.RowKit Kv
set_option linter.unusedVariables false
set_option maxRecDepth 20000

section
variable {v0 v v' : Value} {w1 W W' : World} {l l' : List UInt8}
theorem num_any (h : RowAt v0 w1 W v l) (x s : Nat) (hs : s ≤ 8) (hl : l.length ≤ 1000000000) (X S : Int) (hX : X = (x : Int)) (hS : S = (s : Int)) :
    Calls Try.prog 47 #[v, .int .u64 X, .int .i64 S] W fun e W' => ∃ A c L, Hid (L = l ++ Rc.big x s) ∧ e = .returned (.slice A L.length c) ∧ RowAt v0 w1 W' (.slice A L.length c) L := by
  subst hX hS
  refine (appendNumber_any v l x s W h.row hs (by omega)).mono ?_
  rintro e W' ⟨v', rfl, h1, h2, h3⟩
  obtain ⟨A', c', rfl, _, _⟩ := h1.shape
  exact ⟨A', c', _, Lib.hid rfl, rfl, h.step h1 h2 h3⟩
end
/-- The Put's box. -/
structure PutBox (w w1 : World) (v : Value) (l : List UInt8) (k : ByteArray) (A : Option Addr) (c : Nat) (g : Bool) (val : List UInt8) : Prop where
  eq : w1 = w.alloc (.cells #[.string k, .slice A val.length c, .bool g] 29)
  size : w1.heap.size = w.heap.size + 1
  start : RowAt v w1 w1 v l
  sees : SeesX w1 w.heap.size (blk v) A val
  cells : ∀ {W v' l'}, RowAt v w1 W v' l' → W.cell? ⟨w.heap.size, 0, none⟩ = some (.string k) ∧ W.cell? ⟨w.heap.size, 1, none⟩ = some (.slice A val.length c) ∧ W.cell? ⟨w.heap.size, 2, none⟩ = some (.bool g)
  fin : ∀ {W v' l'}, RowAt v w1 W v' l' → RowEnd v l' w (.returned v') W
theorem put_box (w : World) (v : Value) (l : List UInt8) (h : BRow w v l) (k : ByteArray) (A : Option Addr) (c : Nat) (g : Bool) (val : List UInt8) (hs : SeesX w w.heap.size (blk v) A val) : ∃ w1, Hid (PutBox w w1 v l k A c g val) := by
  refine ⟨w.alloc (.cells #[.string k, .slice A val.length c, .bool g] 29), Lib.hid ?_⟩
  have hb1 : Below w.heap.size w (w.alloc (.cells #[.string k, .slice A val.length c, .bool g] 29)) := (Below.refl _ _).alloc (Nat.le_refl _) _
  have hnb : w.heap.size ∉ blk v := fun hm => by have := h.lt _ hm; omega
  have hcell : ∀ j, (w.alloc (.cells #[.string k, .slice A val.length c, .bool g] 29)).cell? ⟨w.heap.size, j, none⟩ = (#[Value.string k, .slice A val.length c, .bool g])[j]? := fun j => by simp only [World.cell?, heap_alloc_new]; rfl
  refine ⟨rfl, (by simp), .start (h.only (S := []) (Only.of_below hb1) (fun k _ hk => by cases hk)), hs.only ((Only.of_below (S := []) hb1).more fun _ h => by cases h) (Nat.le_refl _), fun h => ?_, fun h => ⟨_, rfl, h.row, ((Only.of_below hb1).trans h.only), fun b hb => (h.grows b hb).imp id (fun h' => Nat.le_trans hb1.size h')⟩⟩
  refine ⟨?_, ?_, ?_⟩
  all_goals rw [h.cell _ _ (by simp) hnb, hcell]; rfl
theorem enc_gone (k : ByteArray) (val : List UInt8) (l : List UInt8) : l ++ [0] ++ Rc.big k.size 2 ++ k.data.toList = l ++ enc1 ⟨k, val, true⟩ := by simp [enc1]
theorem enc_set (k : ByteArray) (val : List UInt8) (l : List UInt8) : l ++ [1] ++ Rc.big k.size 2 ++ k.data.toList ++ Rc.big val.length 4 ++ val = l ++ enc1 ⟨k, val, false⟩ := by simp [enc1]

set_option maxHeartbeats 1600000 in
set_option maxRecDepth 100000 in
theorem appendPut_gone (w : World) (v : Value) (l : List UInt8) (h : BRow w v l) (hl : l.length ≤ 100000000) (k : ByteArray) (A : Option Addr) (n c : Nat) (val : List UInt8) (hn : n = val.length) (hs : SeesX w w.heap.size (blk v) A val) (hk : k.size ≤ 200) :
    Calls Try.prog 34 #[v, .agg #[.string k, .slice A n c, .bool true]] w (RowEnd v (l ++ enc1 ⟨k, val, true⟩) w) := by
  subst hn
  obtain ⟨A0, c0, rfl, _, _⟩ := h.shape
  obtain ⟨w1, HB⟩ := put_box w _ l h k A c true val hs
  obtain ⟨A2, c2, L2, w2, HL2, hr2, h2⟩ := HB.out.start.one 0 0 rfl (by omega)
  have hl2 : L2.length = l.length + 1 := by rw [HL2.out]; simp
  have HN2 := Lib.hid hl2
  have hnum := num_any h2 k.size 2 (by omega) (by omega) (k.size : Int) 2 rfl rfl
  rw [HB.out.size, HB.out.eq] at hr2
  have HR2 := Lib.hid hr2
  have HNUM := Lib.hid hnum
  obtain ⟨y1, y2, y3⟩ := HB.out.cells h2
  have hkI : (k.size : Int) ≤ 200 := by omega
  clear h hs hr2 h2 hnum hl2
  go_enter Try.func34, Try.ntmps34
  go_wp2_with (at_builtin; refine wpList_append_run rfl _ _ 27 rfl _ (.slice A0 l.length c0) (.slice (some ⟨w.heap.size + 1, 0, none⟩) 1 1) rfl rfl (.slice A2 L2.length c2) w2 (by exact HR2.out) ?_)
  refine HNUM.out.mono ?_
  rintro e w3 ⟨A3, c3, L3, HL3, rfl, h3⟩
  have hl3 : L3.length = l.length + 3 := by rw [HL3.out, List.length_append, Rc.big_length, HN2.out]
  have HN3 := Lib.hid hl3
  obtain ⟨x1, x2, x3⟩ := HB.out.cells h3
  obtain ⟨A4, c4, L4, w4, HL4, hr4, h4⟩ := h3.str k (by omega)
  have hl4 : L4.length = l.length + 3 + k.size := by rw [HL4.out, List.length_append, hl3]; have := ba_len k; omega
  have HN4 := Lib.hid hl4
  obtain ⟨u1, u2, u3⟩ := HB.out.cells h4
  have HR4 := Lib.hid hr4
  have HFIN := Lib.hid (HB.out.fin h4)
  have HE : Hid (L4 = l ++ enc1 ⟨k, val, true⟩) := Lib.hid (by rw [← enc_gone, HL4.out, HL3.out, HL2.out])
  clear HNUM HR2 h3 hr4 h4 y1 y2 y3 hl3 hl4
  go_wp2_with (at_builtin; refine wpList_append_run2 rfl _ _ 27 9 rfl _ (.slice A3 L3.length c3) (.string k) rfl rfl (.slice A4 L4.length c4) w4 (by exact HR4.out) ?_)
  go_ret
  rw [← HE.out]
  exact HFIN.out

set_option maxHeartbeats 1600000 in
set_option maxRecDepth 100000 in
theorem appendPut_set (w : World) (v : Value) (l : List UInt8) (h : BRow w v l) (hl : l.length ≤ 100000000) (k : ByteArray) (A : Option Addr) (n c : Nat) (val : List UInt8) (hn : n = val.length) (hs : SeesX w w.heap.size (blk v) A val) (hk : k.size ≤ 200) (hv : val.length ≤ 200000) :
    Calls Try.prog 34 #[v, .agg #[.string k, .slice A n c, .bool false]] w (RowEnd v (l ++ enc1 ⟨k, val, false⟩) w) := by
  subst hn
  obtain ⟨A0, c0, rfl, _, _⟩ := h.shape
  obtain ⟨w1, HB⟩ := put_box w _ l h k A c false val hs
  obtain ⟨A2, c2, L2, w2, HL2, hr2, h2⟩ := HB.out.start.one 1 1 rfl (by omega)
  have hl2 : L2.length = l.length + 1 := by rw [HL2.out]; simp
  have HN2 := Lib.hid hl2
  have hnum := num_any h2 k.size 2 (by omega) (by omega) (k.size : Int) 2 rfl rfl
  rw [HB.out.size, HB.out.eq] at hr2
  have HR2 := Lib.hid hr2
  have HNUM := Lib.hid hnum
  obtain ⟨y1, y2, y3⟩ := HB.out.cells h2
  have hkI : (k.size : Int) ≤ 200 := by omega
  have hvI : (val.length : Int) ≤ 200000 := by omega
  clear h hs hr2 h2 hnum hl2
  go_enter Try.func34, Try.ntmps34
  go_wp2_with (at_builtin; refine wpList_append_run rfl _ _ 27 rfl _ (.slice A0 l.length c0) (.slice (some ⟨w.heap.size + 1, 0, none⟩) 1 1) rfl rfl (.slice A2 L2.length c2) w2 (by exact HR2.out) ?_)
  refine HNUM.out.mono ?_
  rintro e w3 ⟨A3, c3, L3, HL3, rfl, h3⟩
  have hl3 : L3.length = l.length + 3 := by rw [HL3.out, List.length_append, Rc.big_length, HN2.out]
  have HN3 := Lib.hid hl3
  obtain ⟨x1, x2, x3⟩ := HB.out.cells h3
  obtain ⟨A4, c4, L4, w4, HL4, hr4, h4⟩ := h3.str k (by omega)
  have hl4 : L4.length = l.length + 3 + k.size := by rw [HL4.out, List.length_append, hl3]; have := ba_len k; omega
  have HN4 := Lib.hid hl4
  obtain ⟨u1, u2, u3⟩ := HB.out.cells h4
  have HR4 := Lib.hid hr4
  have hnum := num_any h4 val.length 4 (by omega) (by omega) (val.length : Int) 4 rfl rfl
  have HNUM4 := Lib.hid hnum
  clear HNUM HR2 h3 hr4 h4 y1 y2 y3 hnum hl3 hl4
  go_wp2_with (at_builtin; refine wpList_append_run2 rfl _ _ 27 9 rfl _ (.slice A3 L3.length c3) (.string k) rfl rfl (.slice A4 L4.length c4) w4 (by exact HR4.out) ?_)
  refine HNUM4.out.mono ?_
  rintro e w5 ⟨A5, c5, L5, HL5, rfl, h5⟩
  have hl5 : L5.length = l.length + 7 + k.size := by rw [HL5.out, List.length_append, Rc.big_length, HN4.out]; omega
  obtain ⟨t1, t2, t3⟩ := HB.out.cells h5
  have hse := ((HB.out.sees.only h5.only (by rw [HB.out.eq]; simp))).grows h5.grows (by have := h5.only.size; have := HB.out.size; omega)
  obtain ⟨A6, c6, L6, w6, HL6, hr6, h6⟩ := h5.sees _ A val.length c val rfl hse.sees (by omega)
  have HR6 := Lib.hid hr6
  have HFIN := Lib.hid (HB.out.fin h6)
  have HE : Hid (L6 = l ++ enc1 ⟨k, val, false⟩) := Lib.hid (by rw [← enc_set, HL6.out, HL5.out, HL4.out, HL3.out, HL2.out])
  clear HNUM4 HR4 h5 hr6 h6 hl5 x1 x2 x3 u1 u2 u3 hse
  go_wp2_with (at_builtin; refine wpList_append_run rfl _ _ 27 rfl _ (.slice A5 L5.length c5) (.slice A val.length c) rfl rfl (.slice A6 L6.length c6) w6 (by exact HR6.out) ?_)
  go_ret
  rw [← HE.out]
  exact HFIN.out
theorem appendPut_any (w : World) (v : Value) (l : List UInt8) (h : BRow w v l) (hl : l.length ≤ 100000000) (k : ByteArray) (A : Option Addr) (n c : Nat) (g : Bool) (val : List UInt8) (hn : n = val.length) (hs : SeesX w w.heap.size (blk v) A val) (hk : k.size ≤ 200) (hv : val.length ≤ 200000) :
    Calls Try.prog 34 #[v, .agg #[.string k, .slice A n c, .bool g]] w (RowEnd v (l ++ enc1 ⟨k, val, g⟩) w) := by
  cases g with
  | true => exact appendPut_gone w v l h hl k A n c val hn hs hk
  | false => exact appendPut_set w v l h hl k A n c val hn hs hk hv
end Go.Proofs.Ytgpkdnnlgafenaa
