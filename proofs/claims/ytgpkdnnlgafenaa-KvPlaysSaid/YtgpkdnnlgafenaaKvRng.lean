/- Range. -/
import Derived.Test.YtgpkdnnlgafenaaKvRgU
namespace Go.Proofs.Ytgpkdnnlgafenaa
open Go.RowKit Kv
set_option linter.unusedVariables false
attribute [local go_sem] Oper.semAt_some

def RangeEnd (m : List Pr) (fr to : ByteArray) (most : Int) (w : World) (e : Ending) (w' : World) : Prop :=
  ∃ A n c L', e = .returned (.slice A n c) ∧ n = L'.length ∧ PRow w' (.slice A n c) L' ∧ L'.map Ent.pr = rng m fr to most ∧ Below w.heap.size w w' ∧ ∀ b, b ∈ blk (.slice A n c) → w.heap.size ≤ b
/-- What has been collected. -/
structure Got {L : List Ent} (w1 : World) (lb : Nat) (to : ByteArray) (most : Int) (pre : List {x : Ent // x ∈ L}) (W : World) (v : Value) (L' : List Ent) : Prop where
  made : Making w1 lb W v L'
  same : L'.map Ent.pr = pre.map fun x => x.1.pr
  fit : ∀ x ∈ pre, inT to x.1.pr = true
  few : pre.length ≤ most.toNat
def RgInv {L : List Ent} (w1 : World) (lb : Nat) (to : ByteArray) (most : Int) (pre : List {x : Ent // x ∈ L}) (W : World) : Prop := ∃ v L', Got w1 lb to most pre W v L'
def RgEx {L : List Ent} (w1 : World) (lb : Nat) (to : ByteArray) (most : Int) (c : Code) (pre : List {x : Ent // x ∈ L}) (W : World) : Prop :=
  c = .exit 0 ∧ ∃ v L' pre0 x, pre = pre0 ++ [x] ∧ Got w1 lb to most pre0 W v L' ∧ (most.toNat ≤ pre0.length ∨ inT to x.1.pr = false)
theorem RgInv.own {L : List Ent} (w1 : World) (lb : Nat) (to : ByteArray) (most : Int) : OwnFrom w1.heap.size (RgInv (L := L) w1 lb to most) := fun s W W' row hs hg hr => by
  obtain ⟨v, L', h⟩ := hs
  exact ⟨v, L', h.made.turned hg hr, h.same, h.fit, h.few⟩
theorem RgEx.own {L : List Ent} (w1 : World) (lb : Nat) (to : ByteArray) (most : Int) (c : Code) : OwnFrom w1.heap.size (RgEx (L := L) w1 lb to most c) := fun s W W' row hs hg hr => by
  obtain ⟨h0, v, L', pre0, x, e, h, h2⟩ := hs
  exact ⟨h0, v, L', pre0, x, e, ⟨h.made.turned hg hr, h.same, h.fit, h.few⟩, h2⟩
/-- The end of Range. -/
theorem Got.fin {L : List Ent} {w w1 W W' : World} {lb : Nat} {m : List Pr} {fr to : ByteArray} {most : Int} {pre : List {x : Ent // x ∈ L}} {A : Option Addr} {n c : Nat} {L' : List Ent} (h : Got w1 lb to most pre W (.slice A n c) L') (hm : m = L.map Ent.pr) (hasc : Asc m) (s : List {x : Ent // x ∈ L}) (hs : elems L (pos m fr) = pre ++ s)
    (hend : s = [] ∨ most.toNat ≤ pre.length ∨ ∃ x s', s = x :: s' ∧ inT to x.1.pr = false) (hb1 : Below w.heap.size w w1) (hlb : w.heap.size ≤ lb) {row : Option Nat} (hg : W.grownBy W' row) (hr : ∀ r, row = some r → w1.heap.size ≤ r ∧ ∃ o : Obj, W.heap[r]? = some o ∧ o.isCells = false) :
    RangeEnd m fr to most w (.returned (.slice A n c)) W' := by
  have hk := h.made.turned hg hr
  have hn : n = L'.length := by
    obtain ⟨A', c', e, _⟩ := own_shape h.made.row.row
    injection e
  refine ⟨A, n, c, L', rfl, hn, hk.row, ?_, ⟨hk.keep.os.trans hb1.os, hk.keep.tape.trans hb1.tape, hk.keep.output.trans hb1.output, Nat.le_trans hb1.size hk.keep.size, fun b hb => (hk.keep.block b (Nat.lt_of_lt_of_le hb hb1.size) (by simp; omega)).trans (hb1.block b hb)⟩, fun b hb => Nat.le_trans hb1.size (h.made.high b hb)⟩
  rw [h.same]
  have hd : m.drop (pos m fr) = pre.map (fun x => x.1.pr) ++ s.map (fun x => x.1.pr) := by
    rw [← List.map_append, ← hs]
    have e : (elems L (pos m fr)).map (fun x => x.1.pr) = ((elems L (pos m fr)).map (·.1)).map Ent.pr := by rw [List.map_map]; rfl
    rw [e, elems_val, List.map_drop, ← hm]
  refine rng_end hasc fr to most _ _ hd (fun e he => ?_) (by rw [List.length_map]; exact h.few) ?_
  · obtain ⟨x, hx, rfl⟩ := List.mem_map.1 he
    exact h.fit x hx
  · rcases hend with rfl | h1 | ⟨x, s', rfl, hx⟩
    · exact .inl rfl
    · exact .inr (.inl (by rw [List.length_map]; exact h1))
    · exact .inr (.inr ⟨_, _, rfl, hx⟩)

set_option maxHeartbeats 4000000 in
set_option maxRecDepth 100000 in
theorem range_any (w : World) (t : Nat) (m : List Pr) (F : List Nat) (fr to : ByteArray) (most : Int) (ht : Tab w t m F) (hasc : Asc m) (hlen : m.length ≤ 100000) (hgood : Kv.Good m) (hmost : -9223372036854775808 ≤ most ∧ most ≤ 9223372036854775807) :
    Calls Try.prog 15 #[.pointer (some ⟨t, 0, none⟩), .string fr, .string to, .int .i64 most] w (RangeEnd m fr to most w) := by
  refine (callsIn_wide (n := 10)).1 ?_
  refine callsIn_of_wp_marks Try.func15 rfl trivial ?_ rfl
  simp only [Try.ntmps15, List.size_toArray, List.length_cons, List.length_nil, Nat.reduceAdd, Nat.reduceSub, Array.replicate_succ, Array.replicate_zero, List.push_toArray, List.append_toArray, List.nil_append, List.cons_append]
  gi_wp2
  refine ⟨trivial, (callsIn_wide.2 (pairs_any _ t fr)).mono ?_⟩
  rintro e w1 ⟨rfl, rfl⟩
  gi_wp2
  obtain ⟨w1, Hw1⟩ : ∃ w1, Hid (w1 = ((((w.alloc (.cells #[.string to] 9)).alloc (.cells #[.int .i64 most] 3)).alloc (.cells #[.slice none 0 0] 37)).alloc (.cells #[.pointer (some ⟨t, 0, none⟩)] 23)).alloc (.cells #[.string fr] 9)) := ⟨_, Lib.hid rfl⟩
  rw [← Hw1.out]
  have hsz : w1.heap.size = w.heap.size + 5 := by rw [Hw1.out]; simp
  have hb1 : Below w.heap.size w w1 := by
    rw [Hw1.out]
    exact (((((Below.refl _ w).alloc (Nat.le_refl _) _).alloc (by simp) _).alloc (by simp; omega) _).alloc (by simp; omega) _).alloc (by simp; omega) _
  have hk0 : w1.heap[w.heap.size]? = some (.cells #[.string to] 9 (0, 0)) := by
    rw [Hw1.out]; exact ((((Boxed.new w _ _).alloc _).alloc _).alloc _).alloc _
  have hk1 : w1.heap[w.heap.size + 1]? = some (.cells #[.int .i64 most] 3 (0, 0)) := by
    rw [Hw1.out]
    have := ((((Boxed.new (w.alloc (.cells #[.string to] 9)) 3 (.int .i64 most)).alloc (.cells #[.slice none 0 0] 37)).alloc (.cells #[.pointer (some ⟨t, 0, none⟩)] 23)).alloc (.cells #[.string fr] 9))
    simpa [Boxed] using this
  have hk2 : w1.heap[w.heap.size + 1 + 1]? = some (.cells #[.slice none 0 0] 37 (0, 0)) := by
    rw [Hw1.out]
    have := (((Boxed.new ((w.alloc (.cells #[.string to] 9)).alloc (.cells #[.int .i64 most] 3)) 37 (.slice none 0 0)).alloc (.cells #[.pointer (some ⟨t, 0, none⟩)] 23)).alloc (.cells #[.string fr] 9))
    simpa [Boxed] using this
  have hk3 : w1.heap[w.heap.size + 1 + 1 + 1]? = some (.cells #[.pointer (some ⟨t, 0, none⟩)] 23 (0, 0)) := by
    rw [Hw1.out]
    have := ((Boxed.new (((w.alloc (.cells #[.string to] 9)).alloc (.cells #[.int .i64 most] 3)).alloc (.cells #[.slice none 0 0] 37)) 23 (.pointer (some ⟨t, 0, none⟩))).alloc (.cells #[.string fr] 9))
    simpa [Boxed] using this
  have hk4 : w1.heap[w.heap.size + 1 + 1 + 1 + 1]? = some (.cells #[.string fr] 9 (0, 0)) := by
    rw [Hw1.out]
    have := (Boxed.new ((((w.alloc (.cells #[.string to] 9)).alloc (.cells #[.int .i64 most] 3)).alloc (.cells #[.slice none 0 0] 37)).alloc (.cells #[.pointer (some ⟨t, 0, none⟩)] 23)) 9 (.string fr))
    simpa [Boxed] using this
  have ht1 : Tab w1 t m F := ht.below hb1
  obtain ⟨L, hL, hLv, hseq⟩ := pairs_stops 9 (by omega) w1 t (w.heap.size + 1 + 1 + 1) (w.heap.size + 1 + 1 + 1 + 1) m F [w.heap.size + 1 + 1] fr ht1 hasc (by omega) (by simp) (by simp [World.cell?, hk3]) (by simp [World.cell?, hk4]) (fun i hi => by have := (ht.noB i hi).2; simp; omega) (fun b hb => by rw [List.mem_singleton] at hb; subst hb; exact .of_cells hk2 (by decide))
  have hM0 : Got (L := L) w1 (w.heap.size + 1 + 1) to most [] w1 (.slice none 0 0) [] := ⟨⟨KeepX.refl _ _ _, hk2, ⟨World.ownsRow_nil _ 0 _ _, fun e he => by cases he⟩, fun b hb => by simp [blk, Value.ownBlock] at hb⟩, rfl, (fun x hx => by cases hx), Nat.zero_le _⟩
  refine wpIn_rangeFunc_ownH rfl (by omega) (gf := 46) (lb := #[.pointer (some ⟨w.heap.size + 1 + 1 + 1, 0, none⟩), .pointer (some ⟨w.heap.size + 1 + 1 + 1 + 1, 0, none⟩)]) rfl trivial (enters_of Try.func46 (by kernel_rfl) rfl)
    hseq (fun h k => h.trans k) (keepX_b (Nat.le_refl _)) (Below.refl _ _) (fun _ => rfl)
    (RgInv w1 (w.heap.size + 1 + 1) to most) (RgEx w1 (w.heap.size + 1 + 1) to most) (RgInv.own _ _ _ _) (RgEx.own _ _ _ _) ⟨_, _, hM0⟩
    (fun x a' W => ∃ Bx vx, w1.heap.size ≤ Bx ∧ W.heap[Bx]? = some (.cells #[.string x.1.k, x.1.v] 63 (0, 0)) ∧ W.heap[w.heap.size + 1 + 1]? = some (.cells #[vx] 37 (0, 0)) ∧ Bx ∉ blk vx ∧ a' = { tmps := #[.pointer (some ⟨t, 0, none⟩), .string fr, .string to, .int .i64 most, undef, undef, .pointer (some ⟨w.heap.size, 0, none⟩), .pointer (some ⟨w.heap.size + 1, 0, none⟩), .slice none 0 0, .pointer (some ⟨w.heap.size + 1 + 1, 0, none⟩), .pointer (some ⟨Bx, 0, none⟩), .pointer (some ⟨t, 0, none⟩), .string fr, .func (.func 46) #[] #[.pointer (some ⟨w.heap.size + 1 + 1 + 1, 0, none⟩), .pointer (some ⟨w.heap.size + 1 + 1 + 1 + 1, 0, none⟩)], .agg #[.string x.1.k, x.1.v], undef, undef, undef, undef, undef, undef, undef, undef, undef, undef, undef, undef, undef, undef, undef, undef, undef, undef, undef, undef, undef, undef, undef, undef], defers := [] })
    (fun x a' _ X Y row hs hg hr => by
      obtain ⟨Bx, vx, h1, h2, h3, h4, h5⟩ := hs
      exact ⟨Bx, vx, h1, cells_turned hg (fun r e => (hr r e).2) h2, cells_turned hg (fun r e => (hr r e).2) h3, h4, h5⟩)
    ?assign ?body ?done ?stop
  case assign =>
    intro l pre x W K hi hK
    obtain ⟨v, L', hG⟩ := hi
    obtain ⟨A, n, c, hev⟩ : ∃ A n c, x.1.v = .slice A n c := by
      obtain ⟨A, c, e, _⟩ := (hLv x.1 x.2).1.shape
      exact ⟨A, _, c, e⟩
    have hb : Below W.heap.size W (W.alloc (.cells #[.string x.1.k, x.1.v] 63)) := (Below.refl _ _).alloc (Nat.le_refl _) _
    have key := hK _ _ ((KeepsOthers.alloc W (.cells #[.string x.1.k, x.1.v] 63)).from _) (KeepX.of_below hb hG.made.keep.size) ⟨v, L', hG.made.below hb, hG.same, hG.fit, hG.few⟩ ⟨W.heap.size, v, hG.made.keep.size, heap_alloc_new W _, (hG.made.below hb).box, fun hm => by have := own_lt hG.made.row.row _ hm; omega, rfl⟩
    have KEY := Lib.hid key
    clear key hb hK hG hseq hM0 hLv
    simp only [encE]
    rw [hev] at KEY ⊢
    gi_wp2
    exact KEY.out
  case body =>
    rintro l pre x a' W hl ⟨r, hr⟩ hI ⟨Bx, vx, hBx, hBc, hBl, hBv, rfl⟩ hlt
    obtain ⟨v, L', hG⟩ := hI
    obtain ⟨A0, c0, rfl, _⟩ := own_shape hG.made.row.row
    obtain ⟨Av, cv, hev, hcv1, hcv2⟩ := (hLv x.1 x.2).1.shape
    have hbx := (hLv x.1 x.2).1.keepX hG.made.keep (hLv x.1 x.2).2
    have hcl : W.cell? ⟨w.heap.size + 1 + 1, 0, none⟩ = some (.slice A0 L'.length c0) := by simp [World.cell?, hG.made.box]
    have hct : W.cell? ⟨w.heap.size, 0, none⟩ = some (.string to) := by simp [World.cell?, hG.made.keep.block w.heap.size (by omega) (by simp; omega), hk0]
    have hcm : W.cell? ⟨w.heap.size + 1, 0, none⟩ = some (.int .i64 most) := by simp [World.cell?, hG.made.keep.block (w.heap.size + 1) (by omega) (by simp), hk1]
    have hcp : W.cell? ⟨Bx, 0, none⟩ = some (.string x.1.k) := by simp [World.cell?, hBc]
    obtain rfl : vx = .slice A0 L'.length c0 := by
      have := hG.made.box
      rw [hBl] at this
      simpa using this
    have hL'l : L'.length = pre.length := by
      have := congrArg List.length hG.same
      simpa using this
    have HG := Lib.hid hG
    have HLL := Lib.hid hL'l
    have HBC := Lib.hid hBc
    have HLV := Lib.hid hLv
    have HEV := Lib.hid hev
    have HBX := Lib.hid hbx
    have HX := Lib.hid hlt
    have hLle : L'.length ≤ 100000 := by
      have h1 : L.length ≤ 100000 := by
        have := congrArg List.length hL
        rw [List.length_map] at this; omega
      omega
    have HSZ := Lib.hid hsz
    have HBV := Lib.hid hBv
    have hbig : x.1.l.length ≤ 200000 := (ok1_iff.1 (hgood (Ent.pr x.1) (by rw [hL]; exact List.mem_map.2 ⟨_, x.2, rfl⟩))).2.2.1
    have hszl : w.heap.size + 5 ≤ w1.heap.size := by omega
    clear hsz hG hseq hM0 hLv hev hbx hlt hBc hBl hBv hL'l hcv1 hcv2
    by_cases h1 : most ≤ (L'.length : Int)
    · have hx : KeepsFrom w1.heap.size W W ∧ RgEx w1 (w.heap.size + 1 + 1) to most (.exit 0) (pre ++ [x]) W := ⟨KeepsFrom.refl _ _, rfl, _, _, pre, x, rfl, HG.out, .inl (by have := HLL.out; omega)⟩
      have HXX := Lib.hid hx
      clear hx
      gi_wp2
      exact HXX.out
    · have h2 : pre.length < most.toNat := by have := HLL.out; omega
      have h1' : (L'.length : Int) < most := by omega
      have hadd : ∀ WN v' ent, Making w1 (w.heap.size + 1 + 1) WN v' (L' ++ [ent]) → ent.pr = x.1.pr → inT to x.1.pr = true → RgInv w1 (w.heap.size + 1 + 1) to most (pre ++ [x]) WN := fun WN v' ent hmk he hin =>
        ⟨v', _, hmk, by rw [List.map_append, List.map_append, HG.out.same]; simp [he], (fun y hy => by
          rcases List.mem_append.1 hy with hy | hy
          · exact HG.out.fit y hy
          · rw [List.mem_singleton] at hy; subst hy; exact hin), by rw [List.length_append]; simp; omega⟩
      have HADD := Lib.hid hadd
      clear hadd
      by_cases h3 : inT to x.1.pr = true
      · have hor : (to.toList.isEmpty = true ∧ to.toList = []) ∨ ((to.toList.isEmpty = false ∧ ¬ to.toList = []) ∧ Op.bytesLess x.1.k.toList to.toList = true) := by
          by_cases h0 : to.size = 0
          · exact .inl (str_empty h0)
          · refine .inr ⟨str_some h0, ?_⟩
            rw [less_ltb]
            unfold inT at h3
            simp [h0] at h3
            exact h3
        have H3 := Lib.hid h3
        have hlbB : Bx ≠ w.heap.size + 1 + 1 := by omega
        have hpb : W.heap[Bx]? = some (.cells #[.string x.1.k, .slice Av x.1.l.length cv] 63 (0, 0)) := by rw [HBC.out, HEV.out]
        have hvb := (HLV.out x.1 x.2).2
        rw [HEV.out] at hvb
        have hbr := HBX.out
        rw [HEV.out] at hbr
        have hsee : Sees W w1.heap.size Av x.1.l := fun hn => by
          obtain ⟨g, o, e, hg, hc⟩ := hbr.sees hn
          exact ⟨g, o, e, (hvb g (by rw [e]; simp [blk, Value.ownBlock])).1, hc⟩
        obtain ⟨a1, a2, a3, a4, a5, a6, a7⟩ := HG.out.made.rg5 rfl hLle hpb hlbB HBV.out rfl hbig hsee (fun a e => by have := (hvb a.block (by rw [e]; simp [blk, Value.ownBlock])).2; simpa using this) _ rfl
        have H1 := Lib.hid a1
        have H2 := Lib.hid a2
        have H3' := Lib.hid a3
        have H4 := Lib.hid a4
        have H5 := Lib.hid a5
        have H6 := Lib.hid a6
        have H7 := Lib.hid a7
        have hfin : ∀ f R wN, RgS W (w.heap.size + 1 + 1) Bx (.slice A0 L'.length c0) L'.length (pcells L') x.1.k x.1.l.length x.1.l f R wN → (∀ j, j < 5 → f j = true) → KeepsFrom w1.heap.size W wN ∧ KeepX w1.heap.size [w.heap.size + 1 + 1] W wN ∧ RgInv w1 (w.heap.size + 1 + 1) to most (pre ++ [x]) wN := fun f R wN hS hall => by
          refine ⟨(keeps_only hS.only (fun b hb => ?_)).from _, ⟨hS.only.os, hS.only.tape, hS.only.output, hS.only.size, fun i h1 h2 => hS.only.block i (by have := HG.out.made.keep.size; omega) (by
            simp at h2 ⊢
            exact ⟨h2, fun hm => by have := HG.out.made.high i hm; omega⟩)⟩, HADD.out wN _ _ (HG.out.made.added hS hall) rfl H3.out⟩
          rcases List.mem_cons.1 hb with rfl | hb
          · exact ⟨_, _, _, HG.out.made.box⟩
          · obtain ⟨_, C, hC⟩ := HG.out.made.row.noB b hb
            exact ⟨_, _, _, hC⟩
        have HFIN := Lib.hid hfin
        clear hfin h3 hpb hvb hbr hsee a1 a2 a3 a4 a5 a6 a7
        rcases hor with ⟨e1, e2⟩ | ⟨⟨e1, e2⟩, e3⟩
        all_goals
          gi_wp2
          refine rg5 (w.heap.size + 1 + 1) Bx L'.length c0 x.1.l.length cv A0 Av x.1.k _ (by show 37 < 39; omega) rfl rfl H1.out H2.out H3'.out H4.out H5.out H6.out H7.out (RgS.start _) ?_
          intro af wN f hfr hall hS
          have HF := Lib.hid (HFIN.out f _ wN hS hall)
          clear hS hall
          have ha := hfr.eq (by intro t ht; simp at ht; show t < 39; omega)
          simp only [List.foldl_cons, List.foldl_nil] at ha
          clear hfr
          generalize af.eval (.tmp 29) = u29 at ha
          generalize af.eval (.tmp 30) = u30 at ha
          generalize af.eval (.tmp 31) = u31 at ha
          generalize af.eval (.tmp 32) = u32 at ha
          generalize af.eval (.tmp 33) = u33 at ha
          generalize af.eval (.tmp 34) = u34 at ha
          generalize af.eval (.tmp 35) = u35 at ha
          generalize af.eval (.tmp 36) = u36 at ha
          generalize af.eval (.tmp 37) = u37 at ha
          subst ha
          simp only [Act.put, List.setIfInBounds_toArray, List.set_cons_zero, List.set_cons_succ]
          exact HF.out
      · have hne : ¬ to.size = 0 := fun e => h3 (by unfold inT; simp [e])
        have hlt2 : Op.bytesLess x.1.k.toList to.toList = false := by
          rw [less_ltb]
          cases e : ltb x.1.k to with
          | false => rfl
          | true => exact absurd (by unfold inT; show (decide (to.size = 0) || ltb x.1.k to) = true; rw [e]; simp) h3
        have hx : KeepsFrom w1.heap.size W W ∧ RgEx w1 (w.heap.size + 1 + 1) to most (.exit 0) (pre ++ [x]) W := ⟨KeepsFrom.refl _ _, rfl, _, _, pre, x, rfl, HG.out, .inr (by simpa using h3)⟩
        have HXX := Lib.hid hx
        obtain ⟨e1, e2⟩ := str_some hne
        clear hx h3 hne
        gi_wp2
        exact HXX.out
  case done =>
    rintro D ys W hD rfl hI hK
    obtain ⟨v, L', hG⟩ := hI
    obtain ⟨A, c, rfl, _⟩ := own_shape hG.made.row.row
    have hc : W.cell? ⟨w.heap.size + 1 + 1, 0, none⟩ = some (.slice A L'.length c) := by simp [World.cell?, hG.made.box]
    have key := hG.fin (w := w) (m := m) (fr := fr) hL hasc [] (by rw [List.append_nil]) (.inl rfl) hb1 (by omega) (grownBy_putObj' W D (.deferred none)) (fun r e => by injection e with e; subst e; exact ⟨hD, _, hK, rfl⟩)
    have KEY := Lib.hid key
    clear key hG hseq hM0 hLv
    gi_wp2
    refine ⟨by simp, .inl ⟨_, _, rfl, run_takeDeferred hK, ?_⟩⟩
    exact ⟨.slice A L'.length c, by rw [results_tmp rfl _ _ _]; rfl, KEY.out⟩
  case stop =>
    rintro D c pre W hD hpre hIx hK
    obtain ⟨rfl, v, L', pre0, x, rfl, hG, hend⟩ := hIx
    obtain ⟨A, c, rfl, _⟩ := own_shape hG.made.row.row
    have hc : W.cell? ⟨w.heap.size + 1 + 1, 0, none⟩ = some (.slice A L'.length c) := by simp [World.cell?, hG.made.box]
    obtain ⟨s', hs'⟩ := hpre
    have key := hG.fin (w := w) (m := m) (fr := fr) hL hasc (x :: s') (by rw [← hs']; simp) (hend.elim (fun h => .inr (.inl h)) (fun h => .inr (.inr ⟨x, s', rfl, h⟩))) hb1 (by omega) (grownBy_putObj' W D (.deferred none)) (fun r e => by injection e with e; subst e; exact ⟨hD, _, hK, rfl⟩)
    have KEY := Lib.hid key
    clear key hG hseq hM0 hLv hs' hend
    gi_wp2
    refine ⟨by simp, .inl ⟨_, _, rfl, run_takeDeferred hK, ?_⟩⟩
    exact ⟨.slice A L'.length c, by rw [results_tmp rfl _ _ _]; rfl, KEY.out⟩
end Go.Proofs.Ytgpkdnnlgafenaa
