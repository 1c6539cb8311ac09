/- Bytes. -/
import Derived.Test.YtgpkdnnlgafenaaKvRgU
import Derived.Test.YtgpkdnnlgafenaaKvPut
namespace Go.Proofs.Ytgpkdnnlgafenaa
open Go.RowKit Kv
set_option linter.unusedVariables false
attribute [local go_sem] Oper.semAt_some

theorem pos_empty (m : List Pr) (k : ByteArray) (h : k.size = 0) : pos m k = 0 := by
  cases m with
  | nil => rfl
  | cons e m => rw [pos_cons, ltb_empty _ _ h]; rfl
/-- The bytes in the making. -/
structure BMak (w1 : World) (lb : Nat) (W : World) (v : Value) (l : List UInt8) : Prop where
  keep : KeepX w1.heap.size [lb] w1 W
  box : W.heap[lb]? = some (.cells #[v] 27 (0, 0))
  row : BRow W v l
  high : ∀ b, b ∈ blk v → w1.heap.size ≤ b
section
variable {w1 W W' : World} {lb : Nat} {v : Value} {l : List UInt8}
theorem BMak.turned {row : Option Nat} (h : BMak w1 lb W v l) (hg : W.grownBy W' row) (hr : ∀ r, row = some r → w1.heap.size ≤ r ∧ ∃ o : Obj, W.heap[r]? = some o ∧ o.isCells = false) : BMak w1 lb W' v l :=
  ⟨h.keep.trans (KeepX.of_grown hg (fun r e => (hr r e).1) h.keep.size), cells_turned hg (fun r e => (hr r e).2) h.box, own_turned h.row hg (fun r e => (hr r e).2), h.high⟩
theorem BMak.below (h : BMak w1 lb W v l) (hb : Below W.heap.size W W') : BMak w1 lb W' v l := h.turned (Below.grownNone hb) (fun r e => by cases e)
theorem BMak.notin (h : BMak w1 lb W v l) : lb ∉ blk v := h.row.noB (.of_cells h.box (by decide))
end
/-- A Put has been written behind. -/
theorem BMak.put {w1 W W2 : World} {lb : Nat} {v v' : Value} {l l' : List UInt8} (h : BMak w1 lb W v l) (hlb : lb < w1.heap.size) (hr : BRow W2 v' l') (ho : Only (blk v) W W2) (hg : Grows (blk v) (blk v') W) :
    (W2.cell? ⟨lb, 0, none⟩ = some v ∧ W2.frozen? ⟨lb, 0, none⟩ = false) ∧ BMak w1 lb (W2.setCell ⟨lb, 0, none⟩ v') v' l' ∧ KeepsFrom w1.heap.size W (W2.setCell ⟨lb, 0, none⟩ v') ∧ KeepX w1.heap.size [lb] W (W2.setCell ⟨lb, 0, none⟩ v') := by
  have hlw : lb < W.heap.size := (Array.getElem?_eq_some_iff.1 h.box).1
  have hb2 : W2.heap[lb]? = some (.cells #[v] 27 (0, 0)) := by rw [ho.block lb hlw h.notin]; exact h.box
  have hh : ∀ b, b ∈ blk v' → w1.heap.size ≤ b := fun b hb => (hg b hb).elim (h.high b) (fun h' => by have := h.keep.size; omega)
  have hnv : lb ∉ blk v' := fun hm => by have := hh lb hm; omega
  have hset : Only [lb] W2 (W2.setCell ⟨lb, 0, none⟩ v') := only_setCell W2 ⟨lb, 0, none⟩ v'
  have hall : Only (lb :: blk v) W (W2.setCell ⟨lb, 0, none⟩ v') := (ho.more (fun b hb => List.mem_cons_of_mem _ hb)).trans (hset.more (fun b hb => by rw [List.mem_singleton] at hb; subst hb; exact List.mem_cons_self ..))
  have hkx : KeepX w1.heap.size [lb] W (W2.setCell ⟨lb, 0, none⟩ v') := ⟨hall.os, hall.tape, hall.output, hall.size, fun i h1 h2 => hall.block i (by have := h.keep.size; omega) (by
    simp at h2 ⊢
    exact ⟨h2, fun hm => by have := h.high i hm; omega⟩)⟩
  refine ⟨⟨by simp [World.cell?, hb2], by simp [World.frozen?, hb2]⟩, ⟨h.keep.trans hkx, ?_, hr.only hset (fun b hb hS => by rw [List.mem_singleton] at hS; subst hS; exact hnv hb), hh⟩, (keeps_only hall fun b hb => ?_).from _, hkx⟩
  · have := setCell_heap hb2 0 v'
    simpa using this
  · rcases List.mem_cons.1 hb with rfl | hb
    · exact ⟨_, _, _, h.box⟩
    · rcases h.row.2 with ⟨rfl, _⟩ | ⟨g, cap, cur, rfl, _, hg, _⟩
      · simp [blk, Value.ownBlock] at hb
      · simp [blk, Value.ownBlock] at hb
        subst hb
        exact ⟨_, _, _, hg⟩
def BInv {L : List Ent} (w1 : World) (lb : Nat) (pre : List {x : Ent // x ∈ L}) (W : World) : Prop := ∃ v l, BMak w1 lb W v l ∧ l = encs (pre.map fun x => put1 x.1.pr)
def BEx {L : List Ent} (c : Code) (pre : List {x : Ent // x ∈ L}) (W : World) : Prop := False
theorem BInv.own {L : List Ent} (w1 : World) (lb : Nat) : OwnFrom w1.heap.size (BInv (L := L) w1 lb) := fun s W W' row hs hg hr => by
  obtain ⟨v, l, h, e⟩ := hs
  exact ⟨v, l, h.turned hg hr, e⟩
theorem BEx.own {L : List Ent} (N : Nat) (c : Code) : OwnFrom N (BEx (L := L) c) := fun s W W' row hs hg hr => hs.elim
theorem encs_le2 (m : List Pr) (h : Kv.Good m) : (encs (m.map put1)).length ≤ m.length * 200207 := bytes_le h
def BytesEnd (m : List Pr) (w : World) (e : Ending) (w' : World) : Prop :=
  ∃ A n c, e = .returned (.slice A n c) ∧ n = (Kv.bytes m).length ∧ n ≤ c ∧ c ≤ maxLen ∧ BRow w' (.slice A n c) (Kv.bytes m) ∧ Below w.heap.size w w'

set_option maxHeartbeats 4000000 in
set_option maxRecDepth 100000 in
theorem bytes_any (w : World) (t : Nat) (m : List Pr) (F : List Nat) (ht : Tab w t m F) (hasc : Asc m) (hlen : m.length ≤ 400) (hgood : Kv.Good m) :
    Calls Try.prog 14 #[.pointer (some ⟨t, 0, none⟩)] w (BytesEnd m w) := by
  refine (callsIn_wide (n := 10)).1 ?_
  refine callsIn_of_wp_marks Try.func14 rfl trivial ?_ rfl
  simp only [Try.ntmps14, List.size_toArray, List.length_cons, List.length_nil, Nat.reduceAdd, Nat.reduceSub, Array.replicate_succ, Array.replicate_zero, List.push_toArray, List.append_toArray, List.nil_append, List.cons_append]
  gi_wp2
  refine ⟨trivial, (callsIn_wide.2 (pairs_any _ t ⟨#[]⟩)).mono ?_⟩
  rintro e w1 ⟨rfl, rfl⟩
  gi_wp2
  obtain ⟨w1, Hw1⟩ : ∃ w1, Hid (w1 = ((w.alloc (.cells #[.slice none 0 0] 27)).alloc (.cells #[.pointer (some ⟨t, 0, none⟩)] 23)).alloc (.cells #[.string ⟨#[]⟩] 9)) := ⟨_, Lib.hid rfl⟩
  rw [← Hw1.out]
  have hsz : w1.heap.size = w.heap.size + 3 := by rw [Hw1.out]; simp
  have hb1 : Below w.heap.size w w1 := by
    rw [Hw1.out]
    exact (((Below.refl _ w).alloc (Nat.le_refl _) _).alloc (by simp) _).alloc (by simp; omega) _
  have hk2 : w1.heap[w.heap.size]? = some (.cells #[.slice none 0 0] 27 (0, 0)) := by
    rw [Hw1.out]; exact ((Boxed.new w _ _).alloc _).alloc _
  have hk3 : w1.heap[w.heap.size + 1]? = some (.cells #[.pointer (some ⟨t, 0, none⟩)] 23 (0, 0)) := by
    rw [Hw1.out]
    have := ((Boxed.new (w.alloc (.cells #[.slice none 0 0] 27)) 23 (.pointer (some ⟨t, 0, none⟩))).alloc (.cells #[.string ⟨#[]⟩] 9))
    simpa [Boxed] using this
  have hk4 : w1.heap[w.heap.size + 1 + 1]? = some (.cells #[.string ⟨#[]⟩] 9 (0, 0)) := by
    rw [Hw1.out]
    have := (Boxed.new ((w.alloc (.cells #[.slice none 0 0] 27)).alloc (.cells #[.pointer (some ⟨t, 0, none⟩)] 23)) 9 (.string ⟨#[]⟩))
    simpa [Boxed] using this
  have ht1 : Tab w1 t m F := ht.below hb1
  obtain ⟨L, hL, hLv, hseq⟩ := pairs_stops 9 (by omega) w1 t (w.heap.size + 1) (w.heap.size + 1 + 1) m F [w.heap.size] ⟨#[]⟩ ht1 hasc (by omega) (by simp) (by simp [World.cell?, hk3]) (by simp [World.cell?, hk4]) (fun i hi => by have := (ht.noB i hi).2; simp; omega) (fun b hb => by rw [List.mem_singleton] at hb; subst hb; exact .of_cells hk2 (by decide))
  have hM0 : BMak w1 w.heap.size w1 (.slice none 0 0) [] := ⟨KeepX.refl _ _ _, hk2, BRow.nil _, fun b hb => by simp [blk, Value.ownBlock] at hb⟩
  refine wpIn_rangeFunc_ownH rfl (by omega) (gf := 46) (lb := #[.pointer (some ⟨w.heap.size + 1, 0, none⟩), .pointer (some ⟨w.heap.size + 1 + 1, 0, none⟩)]) rfl trivial (enters_of Try.func46 (by kernel_rfl) rfl)
    hseq (fun h k => h.trans k) (keepX_b (Nat.le_refl _)) (Below.refl _ _) (fun _ => rfl)
    (BInv w1 w.heap.size) BEx (BInv.own _ _) (BEx.own _) ⟨_, _, hM0, rfl⟩
    (fun x a' W => ∃ Bx vx, w1.heap.size ≤ Bx ∧ W.heap[Bx]? = some (.cells #[.string x.1.k, x.1.v] 63 (0, 0)) ∧ W.heap[w.heap.size]? = some (.cells #[vx] 27 (0, 0)) ∧ Bx ∉ blk vx ∧ a' = { tmps := #[.pointer (some ⟨t, 0, none⟩), undef, .slice none 0 0, .pointer (some ⟨w.heap.size, 0, none⟩), .pointer (some ⟨Bx, 0, none⟩), .pointer (some ⟨t, 0, none⟩), .func (.func 46) #[] #[.pointer (some ⟨w.heap.size + 1, 0, none⟩), .pointer (some ⟨w.heap.size + 1 + 1, 0, none⟩)], .agg #[.string x.1.k, x.1.v], undef, undef, undef, undef, undef, undef, undef, undef], defers := [] })
    (fun x a' _ X Y row hs hg hr => by
      obtain ⟨Bx, vx, h1, h2, h3, h4, h5⟩ := hs
      exact ⟨Bx, vx, h1, cells_turned hg (fun r e => (hr r e).2) h2, cells_turned hg (fun r e => (hr r e).2) h3, h4, h5⟩)
    ?assign ?body ?done ?stop
  case assign =>
    intro l pre x W K hi hK
    obtain ⟨v, l', hG, hle⟩ := hi
    obtain ⟨A, n, c, hev⟩ : ∃ A n c, x.1.v = .slice A n c := by
      obtain ⟨A, c, e, _⟩ := (hLv x.1 x.2).1.shape
      exact ⟨A, _, c, e⟩
    have hb : Below W.heap.size W (W.alloc (.cells #[.string x.1.k, x.1.v] 63)) := (Below.refl _ _).alloc (Nat.le_refl _) _
    have key := hK _ _ ((KeepsOthers.alloc W (.cells #[.string x.1.k, x.1.v] 63)).from _) (KeepX.of_below hb hG.keep.size) ⟨v, l', hG.below hb, hle⟩ ⟨W.heap.size, v, hG.keep.size, heap_alloc_new W _, (hG.below hb).box, fun hm => by have := own_lt hG.row _ hm; omega, rfl⟩
    have KEY := Lib.hid key
    clear key hb hK hG hseq hM0 hLv
    simp only [encE]
    rw [hev] at KEY ⊢
    gi_wp2
    exact KEY.out
  case body =>
    rintro l pre x a' W hl ⟨r, hr⟩ hI ⟨Bx, vx, hBx, hBc, hBl, hBv, rfl⟩ hlt
    obtain ⟨v, l', hG, hle⟩ := hI
    obtain ⟨A0, c0, rfl, _⟩ := hG.row.shape
    obtain ⟨Av, cv, hev, hcv1, hcv2⟩ := (hLv x.1 x.2).1.shape
    have hbx := (hLv x.1 x.2).1.keepX hG.keep (hLv x.1 x.2).2
    have hcl : W.cell? ⟨w.heap.size, 0, none⟩ = some (.slice A0 l'.length c0) := by simp [World.cell?, hG.box]
    have hcp : W.cell? ⟨Bx, 0, none⟩ = some (.string x.1.k) := by simp [World.cell?, hBc]
    have hcq : W.cell? ⟨Bx, 1, none⟩ = some (.slice Av x.1.l.length cv) := by simp [World.cell?, hBc, hev]
    have hok := hgood (Ent.pr x.1) (by rw [hL]; exact List.mem_map.2 ⟨_, x.2, rfl⟩)
    have hbig : x.1.l.length ≤ 200000 := (ok1_iff.1 hok).2.2.1
    have hkz : x.1.k.size ≤ 200 := (ok1_iff.1 hok).2.1
    have hLlen : L.length = m.length := by rw [hL, List.length_map]
    have hll : l'.length ≤ 100000000 := by
      have h2 : (encs ((pre.map fun x => x.1.pr).map put1)).length ≤ (pre.map fun x => x.1.pr).length * 200207 := encs_le2 _ (fun e he => by
        obtain ⟨y, _, rfl⟩ := List.mem_map.1 he
        exact hgood _ (by rw [hL]; exact List.mem_map.2 ⟨_, y.2, rfl⟩))
      rw [hle]
      rw [List.map_map, List.length_map] at h2
      have h3 : pre.length ≤ 400 := by omega
      have e : (fun x : {x : Ent // x ∈ L} => put1 x.1.pr) = put1 ∘ (fun x => x.1.pr) := rfl
      rw [e]
      omega
    have hvb := (hLv x.1 x.2).2
    have hsee : SeesX W W.heap.size (blk (.slice A0 l'.length c0)) Av x.1.l := fun hn => by
      rw [hev] at hbx hvb
      obtain ⟨g, o, e, hg, hc⟩ := hbx.sees hn
      exact ⟨g, o, e, hg, fun hm => by
        have h1 := hG.high g hm
        have h2 := (hvb g (by rw [e]; simp [blk, Value.ownBlock])).1
        omega, hc⟩
    have hcall := callsIn_wide (n := 7) |>.2 (appendPut_any W _ l' hG.row hll x.1.k Av x.1.l.length cv false x.1.l rfl hsee hkz hbig)
    have hput := fun W2 v' l'' (h1 : BRow W2 v' l'') h2 h3 => hG.put (by omega) h1 h2 h3
    have HCALL := Lib.hid hcall
    have HPUT := Lib.hid hput
    have HLE : Hid (l' ++ enc1 ⟨x.1.k, x.1.l, false⟩ = encs ((pre ++ [x]).map fun x => put1 x.1.pr)) := Lib.hid (by rw [hle, List.map_append, encs, encs, List.flatMap_append]; simp [put1, Ent.pr])
    clear hsz hG hseq hM0 hLv hev hbx hlt hBc hBl hBv hcv1 hcv2 hle hok hvb hsee hcall hput hll
    gi_wp2
    refine ⟨trivial, CallsIn.inRound l (HCALL.out.mono ?_)⟩
    rintro e W2 ⟨v', rfl, q1, q2, q3⟩
    rw [HLE.out] at q1
    obtain ⟨L2, HL2⟩ : ∃ L2, Hid (L2 = encs ((pre ++ [x]).map fun x => put1 x.1.pr)) := ⟨_, Lib.hid rfl⟩
    rw [← HL2.out] at q1
    obtain ⟨A2, c2, rfl, _, _⟩ := q1.shape
    obtain ⟨⟨cl1, cl2⟩, p1, p2, p3⟩ := HPUT.out W2 _ L2 q1 q2 q3
    have key : KeepsFrom w1.heap.size W (W2.setCell ⟨w.heap.size, 0, none⟩ (.slice A2 L2.length c2)) ∧ KeepX w1.heap.size [w.heap.size] W (W2.setCell ⟨w.heap.size, 0, none⟩ (.slice A2 L2.length c2)) ∧ BInv w1 w.heap.size (pre ++ [x]) (W2.setCell ⟨w.heap.size, 0, none⟩ (.slice A2 L2.length c2)) := ⟨p2, p3, _, _, p1, HL2.out⟩
    have KEY := Lib.hid key
    clear HCALL HPUT q1 q2 q3 p1 p2 p3 key hcl hcp hcq
    gi_wp2
    exact KEY.out
  case done =>
    rintro D ys W hD rfl hI hK
    obtain ⟨v, l', hG, hle⟩ := hI
    obtain ⟨A, c, rfl, hc1, hc2⟩ := hG.row.shape
    have hc : W.cell? ⟨w.heap.size, 0, none⟩ = some (.slice A l'.length c) := by simp [World.cell?, hG.box]
    have hlb : l' = Kv.bytes m := by
      rw [hle, pos_empty m ⟨#[]⟩ rfl]
      have e : (elems L 0).map (fun x => put1 x.1.pr) = ((elems L 0).map (·.1)).map fun x => put1 x.pr := by rw [List.map_map]; rfl
      rw [e, elems_val, List.drop_zero, Kv.bytes, hL, List.map_map]; rfl
    have hk := hG.turned (grownBy_putObj' W D (.deferred none)) (fun r e => by injection e with e; subst e; exact ⟨hD, _, hK, rfl⟩)
    have hbel : Below w.heap.size w (W.putObj D (.deferred none)) := ⟨hk.keep.os.trans hb1.os, hk.keep.tape.trans hb1.tape, hk.keep.output.trans hb1.output, Nat.le_trans hb1.size hk.keep.size, fun b hb => (hk.keep.block b (Nat.lt_of_lt_of_le hb hb1.size) (by simp; omega)).trans (hb1.block b hb)⟩
    have key : BytesEnd m w (.returned (.slice A l'.length c)) (W.putObj D (.deferred none)) := ⟨A, _, c, rfl, by rw [hlb], hc1, hc2, by rw [← hlb]; exact hk.row, hbel⟩
    have KEY := Lib.hid key
    clear key hG hseq hM0 hLv hlb hk hbel hle hc1 hc2
    gi_wp2
    refine ⟨by simp, .inl ⟨_, _, rfl, run_takeDeferred hK, ?_⟩⟩
    exact ⟨.slice A l'.length c, by rw [results_tmp rfl _ _ _]; rfl, KEY.out⟩
  case stop =>
    rintro D c pre W hD hpre hIx hK
    exact hIx.elim
end Go.Proofs.Ytgpkdnnlgafenaa
