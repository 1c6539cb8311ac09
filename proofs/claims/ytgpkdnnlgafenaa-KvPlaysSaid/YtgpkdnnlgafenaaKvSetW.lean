/- set: a key's value is laid anew, or its pair is put in. -/
import Derived.Test.YtgpkdnnlgafenaaKvSet
namespace Go.Proofs.Ytgpkdnnlgafenaa
open Go.RowKit Kv
set_option linter.unusedVariables false

/-- A table that a call has turned. -/
def TurnEnd (t : Nat) (m' : List Pr) (F : List Nat) (w : World) (e : Ending) (w' : World) : Prop := (∃ u, e = .returned u) ∧ ∃ F', Tab w' t m' F' ∧ Only F w w' ∧ Grows F F' w

/-- The same key, another value. -/
theorem TabN.store {w : World} {t r c1 g c2 : Nat} {F : List Nat} {L : List Ent} (h : TabN w t F r c1 g c2 L) (p : Nat) (hp : p < L.length) (u : Value) (l : List UInt8) (hu : BRow w u l) :
    TabN (w.setCell ⟨g, p * 2 + 1, none⟩ u) t F r c1 g c2 (L.set p ⟨L[p].k, u, l⟩) ∧ Only F w (w.setCell ⟨g, p * 2 + 1, none⟩ u) := by
  obtain ⟨d1, d2, d3⟩ := h.rg
  have ho : Only [g] w (w.setCell ⟨g, p * 2 + 1, none⟩ u) := only_setCell w ⟨g, p * 2 + 1, none⟩ u
  have hgb : NoB w g := h.noB.2.2
  have keepB : ∀ v l, BRow w v l → BRow (w.setCell ⟨g, p * 2 + 1, none⟩ u) v l := fun v l hv => hv.only ho (fun b hb hm => by
    rw [List.mem_singleton] at hm
    subst hm
    exact hv.noB hgb hb)
  refine ⟨⟨h.foot, ?_, ?_, ⟨?_, ?_⟩, ?_⟩, ho.more (fun b hb => by rw [List.mem_singleton] at hb; subst hb; rw [h.foot]; simp)⟩
  · rw [ho.block t (Array.getElem?_eq_some_iff.1 h.head).1 (by simpa using d2), List.length_set]; exact h.head
  · rw [List.length_set]
    exact own_only h.mid ho (fun k hk hm => by
      simp [Value.ownBlock] at hk
      rw [List.mem_singleton] at hm
      omega)
  · rw [List.length_set, pcells_set L p hp]
    exact (h.row.row.stored (p * 2 + 1) u).1
  · intro e he
    rcases List.mem_or_eq_of_mem_set he with he | rfl
    · exact keepB _ _ (h.row.vals e he)
    · exact keepB _ _ hu
  · intro e0
    have := congrArg List.length e0
    rw [List.length_set] at this
    simp at this
    exact h.pos this
theorem step_hit (L : List Ent) (k : ByteArray) (v : Value) (l : List UInt8) (hh : hit (L.map Ent.pr) k = true) (hp : pos (L.map Ent.pr) k < L.length) :
    (L.set (pos (L.map Ent.pr) k) ⟨L[pos (L.map Ent.pr) k].k, v, l⟩).map Ent.pr = Kv.step (L.map Ent.pr) ⟨k, l, false⟩ := by
  obtain ⟨hp', hk⟩ := hit_lt hh
  rw [List.getElem_map] at hk
  have hk' : L[pos (L.map Ent.pr) k].k = k := hk
  unfold Kv.step
  rw [hh, if_pos rfl, List.map_set, List.set_eq_take_append_cons_drop, if_pos hp', hk']
  simp [Ent.pr]
theorem step_miss (L : List Ent) (k : ByteArray) (v : Value) (l : List UInt8) (hh : hit (L.map Ent.pr) k = false) :
    (L.take (pos (L.map Ent.pr) k) ++ [(⟨k, v, l⟩ : Ent)] ++ L.drop (pos (L.map Ent.pr) k)).map Ent.pr = Kv.step (L.map Ent.pr) ⟨k, l, false⟩ := by
  unfold Kv.step
  rw [hh]
  simp [Ent.pr, List.map_take, List.map_drop]

/-- The region of set, and what stands behind it. -/
theorem TabP.inserted {w2 W : World} {t r c1 : Nat} {v0 : Value} {L : List Ent} {p : Nat} {k : ByteArray} {v : Value} {l : List UInt8} {R : Nat → Value} {f : Nat → Bool} (h : TabP w2 t r c1 v0 L) (hv : BRow w2 v l)
    (hs : SeS w2 r c1 v0 L.length (pcells L) (pcells (L.take p ++ [⟨k, v, l⟩] ++ L.drop p)) (.string k) v f R W) (hp : p ≤ L.length) (hf : ∀ j, j < 3 → f j = true) (N : Int) (hN : N = (L.length : Int) + 1) :
    ∃ g c2, R 1 = .slice (some ⟨g, 0, none⟩) (L.length + 1) c2 ∧ TabN (W.setCell ⟨t, 1, none⟩ (.int .i64 N)) t [t, r, g] r c1 g c2 (L.take p ++ [⟨k, v, l⟩] ++ L.drop p) ∧ Only (t :: r :: blk v0) w2 (W.setCell ⟨t, 1, none⟩ (.int .i64 N)) ∧ Grows (t :: r :: blk v0) [t, r, g] w2 := by
  subst hN
  obtain ⟨o1, o2⟩ := hs.row1 (hf 1 (by decide))
  have hm := hs.mid1 (hf 2 (by decide))
  obtain ⟨hrt, htl, hrl⟩ := h.rt
  obtain ⟨hrv, htv⟩ := h.rv
  obtain ⟨nt, nr, nv⟩ := h.noB
  obtain ⟨g, c2, e, _, hgl, _⟩ := own_form o1 (by omega)
  rw [e] at o1 o2 hm
  have hgt : g ≠ t := fun e' => by
    rcases o2 g (by simp [blk, Value.ownBlock]) with h1 | h1
    · exact htv (by rw [← e']; exact h1)
    · omega
  have hlen : (L.take p ++ [(⟨k, v, l⟩ : Ent)] ++ L.drop p).length = L.length + 1 := by simp; omega
  have hoW : Only (t :: r :: blk v0) w2 (W.setCell ⟨t, 1, none⟩ (.int .i64 ((L.length : Int) + 1))) := (hs.only.more (fun b hb => List.mem_cons_of_mem _ hb)).setCell (.inl (by simp)) _
  have ht : W.heap[t]? = some (.cells #[.slice (some ⟨r, 0, none⟩) 1 c1, .int .i64 (L.length : Int)] 67 (0, 0)) := by
    rw [hs.only.block t htl (by simp; exact ⟨fun e => hrt e.symm, htv⟩)]; exact h.head
  have other : ∀ b, b ≠ t → (W.setCell ⟨t, 1, none⟩ (.int .i64 ((L.length : Int) + 1))).heap[b]? = W.heap[b]? := fun b hb => Below.heap_setCell _ _ _ _ hb
  have keepB : ∀ v l, BRow w2 v l → BRow (W.setCell ⟨t, 1, none⟩ (.int .i64 ((L.length : Int) + 1))) v l := fun v l hv => hv.only hoW (fun b hb hm => by
    rcases List.mem_cons.1 hm with rfl | hm
    · exact hv.noB nt hb
    · rcases List.mem_cons.1 hm with rfl | hm
      · exact hv.noB nr hb
      · exact hv.noB (nv b hm) hb)
  refine ⟨g, c2, e, ⟨rfl, ?_, ?_, ⟨?_, ?_⟩, ?_⟩, hoW, ?_⟩
  · rw [hlen, setCell_heap ht 1]
    simp
  · rw [hlen]
    exact own_same hm (fun b hb => other b (by simp [blk, Value.ownBlock] at hb; omega))
  · rw [hlen]
    exact own_same o1 (fun b hb => other b (by simp [blk, Value.ownBlock] at hb; omega))
  · intro x hx
    rcases List.mem_append.1 hx with hx | hx
    · rcases List.mem_append.1 hx with hx | hx
      · exact keepB _ _ (h.row.vals x (List.mem_of_mem_take hx))
      · rw [List.mem_singleton] at hx
        subst hx
        exact keepB _ _ hv
    · exact keepB _ _ (h.row.vals x (List.mem_of_mem_drop hx))
  · intro e0; rw [e0] at hlen; simp at hlen
  · intro b hb
    simp at hb
    rcases hb with rfl | rfl | rfl
    · exact .inl (by simp)
    · exact .inl (by simp)
    · exact (o2 b (by simp [blk, Value.ownBlock])).imp (fun h' => by simp [h']) id

set_option maxHeartbeats 1600000 in
set_option maxRecDepth 100000 in
theorem set_hit (w : World) (t r c1 g c2 : Nat) (F : List Nat) (L : List Ent) (key : ByteArray) (Av : Option Addr) (nv cv : Nat) (l : List UInt8) (ht : TabN w t F r c1 g c2 L) (hasc : Asc (L.map Ent.pr)) (hlen : L.length ≤ 255) (hv : BRow w (.slice Av nv cv) l) (hh : hit (L.map Ent.pr) key = true) :
    Calls Try.prog 30 #[.pointer (some ⟨t, 0, none⟩), .string key, .slice Av nv cv] w (TurnEnd t (Kv.step (L.map Ent.pr) ⟨key, l, false⟩) F w) := by
  obtain ⟨p, Hp⟩ : ∃ p, Hid (p = pos (L.map Ent.pr) key) := ⟨_, Lib.hid rfl⟩
  have hp : p < L.length := by
    obtain ⟨h1, _⟩ := hit_lt hh
    rw [List.length_map] at h1
    rw [Hp.out]; exact h1
  have hf := find_any w t r c1 g c2 F L key ht hasc (by omega)
  rw [hh, ← Hp.out] at hf
  have HF := Lib.hid hf
  have fin : ∀ W, Below w.heap.size w W → (W.cell? ⟨t, 0, none⟩ = some (.slice (some ⟨r, 0, none⟩) 1 c1) ∧ W.cell? ⟨r, 0, none⟩ = some (.slice (some ⟨g, 0, none⟩) L.length c2) ∧ (∃ u, W.cell? ⟨g, p * 2 + 1, none⟩ = some u) ∧ W.frozen? ⟨g, p * 2 + 1, none⟩ = false) ∧ TurnEnd t (Kv.step (L.map Ent.pr) ⟨key, l, false⟩) F w (.returned (.tuple #[])) (W.setCell ⟨g, p * 2 + 1, none⟩ (.slice Av nv cv)) := fun W hW => by
    have h1 := ht.below hW
    have hv1 : BRow W (.slice Av nv cv) l := hv.only (S := []) (Only.of_below hW) (fun _ _ h => by cases h)
    obtain ⟨k1, _, k3, _⟩ := h1.cells
    obtain ⟨_, k5, _⟩ := prow_cells h1.row p hp
    obtain ⟨s1, s2⟩ := h1.store p hp _ l hv1
    refine ⟨⟨k1, k3, ⟨_, k5⟩, h1.row.row.frozenAt _⟩, ⟨_, rfl⟩, F, .inr ⟨r, c1, g, c2, _, ?_, s1⟩, (Only.of_below hW).trans s2, Grows.refl _ _⟩
    have := step_hit L key (.slice Av nv cv) l hh (by rw [← Hp.out]; exact hp)
    rw [← this]
    simp only [← Hp.out]
  have FIN := Lib.hid fin
  have hp0 : (p : Int) < (L.length : Int) := by omega
  clear hf fin ht hasc hv hh
  go_enter Try.func30, Try.ntmps30
  go_wp2_with fail
  refine HF.out.mono ?_
  rintro e w2 ⟨rfl, hb2⟩
  obtain ⟨⟨k1, k2, ⟨u, k3⟩, k4⟩, k5⟩ := FIN.out w2 hb2
  have HK := Lib.hid k5
  clear k5 hb2
  go_wp2
  refine bodyPost_ret (results_none rfl _ _ _) rfl ?_
  exact HK.out

theorem TabP.se5 {w2 : World} {t r c1 n0 c0 p nv cv : Nat} {A0 Av : Option Addr} {L : List Ent} {key : ByteArray} {l : List UInt8} (h : TabP w2 t r c1 (.slice A0 n0 c0) L) (hn0 : n0 = L.length) (hp : p ≤ L.length) (hlen : L.length ≤ 255) (ys : List Value) (hys : ys = pcells (L.take p ++ [(⟨key, .slice Av nv cv, l⟩ : Ent)] ++ L.drop p))
    (S : (Nat → Bool) → (Nat → Value) → World → Prop) (hS : S = SeS w2 r c1 (.slice A0 n0 c0) L.length (pcells L) ys (.string key) (.slice Av nv cv)) :
    (∀ f R w, S f R w → w.cell? ⟨t, 0, none⟩ = some (.slice (some ⟨r, 0, none⟩) 1 c1)) ∧ (∀ f R w, S f R w → f 2 = false → w.cell? ⟨r, 0, none⟩ = some (.slice A0 n0 c0)) ∧
    (∀ f R w, S f R w → f 0 = false → f 1 = false → f 2 = false → S (setF f 0) (setR R 0 (.slice (some ⟨w.heap.size, 0, none⟩) 1 1)) (w.alloc (.cells #[.string key, .slice Av nv cv] 63))) ∧
    (∀ f R w, S f R w → f 0 = true → f 1 = false → f 2 = false → ∃ A2, R 0 = .slice (some ⟨A2, 0, none⟩) 1 1 ∧ Calls Try.prog 43 #[.slice A0 n0 c0, .int .i64 (p : Int), .slice (some ⟨A2, 0, none⟩) 1 1] w fun e w' => ∃ v, e = .returned v ∧ S (setF f 1) (setR R 1 v) w') ∧
    (∀ f R w, S f R w → f 1 = true → f 2 = false → ∃ A n c, R 1 = .slice A n c ∧ w.frozen? ⟨r, 0, none⟩ = false ∧ S (setF f 2) R (w.setCell ⟨r, 0, none⟩ (.slice A n c))) := by
  subst hS; subst hn0
  obtain ⟨k1, _, k3, _, _, k6⟩ := h.cells
  obtain ⟨hrt, htl, hrl⟩ := h.rt
  obtain ⟨hrv, htv⟩ := h.rv
  have hvl := own_lt h.row.row
  refine ⟨fun f R w hs => ?_, fun f R w hs h2 => ?_, fun f R w hs h0 h1 h2 => hs.s0 h1 h2 hrl hvl, fun f R w hs h0 h1 h2 => ?_, fun f R w hs h1 h2 => ?_⟩
  · rw [World.cell?_of_block (w := w2) (hs.only.block t htl (by simp; exact ⟨fun e => hrt e.symm, htv⟩))]; exact k1
  · rw [World.cell?_of_block (w := w2) (hs.mid0 h2)]; exact k3
  · obtain ⟨A2, e, hA, hA2⟩ := hs.lit h0 h1
    refine ⟨A2, e, ?_⟩
    have hone := pcells_one h.row.vals
    have hw : w.ownsRow 0 63 2 (.slice A0 L.length c0) L.length (pcells L) := own_same h.row.row (hs.row0 h1)
    refine (insert_any A0 L.length c0 p (pcells L) w A2 _ _ hw hA (fun g hg => fun e' => by
      have := hvl g (by rw [hg]; simp [blk, Value.ownBlock])
      omega) rfl rfl hone (by omega) hp).mono ?_
    rintro e2 w' ⟨v', rfl, i1, i2, i3⟩
    rw [pcells_insert L p ⟨key, .slice Av nv cv, l⟩, ← hys] at i1
    exact ⟨v', rfl, hs.s1 h2 hrl hrv i1 i2 i3⟩
  · obtain ⟨o1, _⟩ := hs.row1 h1
    obtain ⟨A, c, e, _⟩ := own_shape o1
    refine ⟨A, _, c, e, ?_, ?_⟩
    · rw [World.frozen?_of_block (w := w2) (hs.mid0 h2)]; exact k6
    · rw [← e]; exact hs.s2 h1 h2 h.mid hrl hrv

set_option maxHeartbeats 1600000 in
set_option maxRecDepth 100000 in
theorem set_miss (w : World) (t r c1 g c2 : Nat) (F : List Nat) (L : List Ent) (key : ByteArray) (Av : Option Addr) (nv cv : Nat) (l : List UInt8) (ht : TabN w t F r c1 g c2 L) (hasc : Asc (L.map Ent.pr)) (hlen : L.length ≤ 255) (hv : BRow w (.slice Av nv cv) l) (hh : hit (L.map Ent.pr) key = false) :
    Calls Try.prog 30 #[.pointer (some ⟨t, 0, none⟩), .string key, .slice Av nv cv] w (TurnEnd t (Kv.step (L.map Ent.pr) ⟨key, l, false⟩) F w) := by
  obtain ⟨p, Hp⟩ : ∃ p, Hid (p = pos (L.map Ent.pr) key) := ⟨_, Lib.hid rfl⟩
  have hp : p ≤ L.length := by
    have := pos_le (L.map Ent.pr) key
    rw [List.length_map] at this
    rw [Hp.out]; exact this
  have hf := find_any w t r c1 g c2 F L key ht hasc (by omega)
  rw [hh, ← Hp.out] at hf
  have HF := Lib.hid hf
  have HT := Lib.hid ht
  have HV := Lib.hid hv
  have hst := step_miss L key (.slice Av nv cv) l hh
  rw [← Hp.out] at hst
  have HST := Lib.hid hst
  obtain ⟨n, Hn⟩ : ∃ n, Hid (n = L.length) := ⟨_, Lib.hid rfl⟩
  clear hf ht hasc hv hh hst
  go_enter Try.func30, Try.ntmps30
  go_wp2_with fail
  refine HF.out.mono ?_
  rintro e w2 ⟨rfl, hb2⟩
  have hP := (HT.out.below hb2).toP
  have hv2 : BRow w2 (.slice Av nv cv) l := HV.out.only (S := []) (Only.of_below hb2) (fun _ _ h => by cases h)
  obtain ⟨k1, _, _⟩ := hP.cells
  have HB2 := Lib.hid hb2
  have HP := Lib.hid hP
  have HV2 := Lib.hid hv2
  obtain ⟨ys, Hys⟩ : ∃ ys, Hid (ys = pcells (L.take p ++ [(⟨key, .slice Av nv cv, l⟩ : Ent)] ++ L.drop p)) := ⟨_, Lib.hid rfl⟩
  obtain ⟨a1, a2, a3, a4, a5⟩ := hP.se5 rfl hp hlen ys Hys.out _ rfl
  have H1 := Lib.hid a1
  have H2 := Lib.hid a2
  have H3 := Lib.hid a3
  have H4 := Lib.hid a4
  have H5 := Lib.hid a5
  clear hb2 hP hv2 a1 a2 a3 a4 a5
  go_wp2_with fail
  refine se5 t r c1 p L.length c2 nv cv (some ⟨g, 0, none⟩) Av key _ (by show 56 < 76; omega) rfl rfl rfl rfl rfl H1.out H2.out H3.out H4.out H5.out (SeS.start _ _) ?_
  intro af wN f hfr hall hS
  rw [Hys.out] at hS
  obtain ⟨g', c', e1, z1, z2, z3⟩ := HP.out.inserted HV2.out hS hp hall ((L.length : Int) + 1) rfl
  have hlen2 : (L.take p ++ [(⟨key, .slice Av nv cv, l⟩ : Ent)] ++ L.drop p).length = L.length + 1 := by simp; omega
  obtain ⟨y1, y2, y3, _⟩ := z1.cells
  rw [hlen2] at y2 y3
  have hth : wN.heap[t]? = some (.cells #[.slice (some ⟨r, 0, none⟩) 1 c1, .int .i64 (L.length : Int)] 67 (0, 0)) := by
    obtain ⟨q1, q2, _⟩ := HP.out.rt
    obtain ⟨q3, q4⟩ := HP.out.rv
    rw [hS.only.block t q2 (by simp; exact ⟨fun e => q1 e.symm, by simpa using q4⟩)]
    exact HP.out.head
  have x1 : wN.cell? ⟨t, 1, none⟩ = some (.int .i64 (L.length : Int)) := by simp [World.cell?, hth]
  have x2 : wN.frozen? ⟨t, 1, none⟩ = false := by simp [World.frozen?, hth]
  have key2 : TurnEnd t (Kv.step (L.map Ent.pr) ⟨key, l, false⟩) F w (.returned (.tuple #[])) (wN.setCell ⟨t, 1, none⟩ (.int .i64 ((L.length : Int) + 1))) := by
    have hF : F = t :: r :: blk (.slice (some ⟨g, 0, none⟩) L.length c2) := HT.out.foot
    refine ⟨⟨_, rfl⟩, [t, r, g'], .inr ⟨r, c1, g', c', _, HST.out.symm, by rw [hlen2] at *; exact z1⟩, ?_, ?_⟩
    · rw [hF]; exact (Only.of_below HB2.out).trans z2
    · rw [hF]
      intro b hb
      exact (z3 b hb).imp id (fun h' => Nat.le_trans HB2.out.size h')
  have KEY := Lib.hid key2
  have x0 : wN.cell? ⟨t, 0, none⟩ = some (.slice (some ⟨r, 0, none⟩) 1 c1) := by simp [World.cell?, hth]
  have hrt : ¬ r = t := HP.out.rt.1
  have x3 : wN.cell? ⟨r, 0, none⟩ = some (.slice (some ⟨g', 0, none⟩) (L.length + 1) c') := by
    rw [World.cell?_of_block (w := wN) (w' := wN.setCell ⟨t, 1, none⟩ (.int .i64 ((L.length : Int) + 1))) (Below.heap_setCell _ _ _ _ hrt)] at y3
    exact y3
  have hL1 : (L.length : Int) ≤ 255 := by omega
  clear hS hall z1 z2 z3 e1 hth y1 y2 y3 key2 hlen2
  have ha := hfr.eq (by intro t ht; simp at ht; show t < 76; omega)
  simp only [List.foldl_cons, List.foldl_nil] at ha
  clear hfr
  generalize af.eval (.tmp 38) = u38 at ha
  generalize af.eval (.tmp 39) = u39 at ha
  generalize af.eval (.tmp 40) = u40 at ha
  generalize af.eval (.tmp 41) = u41 at ha
  generalize af.eval (.tmp 42) = u42 at ha
  generalize af.eval (.tmp 43) = u43 at ha
  generalize af.eval (.tmp 44) = u44 at ha
  generalize af.eval (.tmp 45) = u45 at ha
  generalize af.eval (.tmp 46) = u46 at ha
  generalize af.eval (.tmp 47) = u47 at ha
  generalize af.eval (.tmp 48) = u48 at ha
  generalize af.eval (.tmp 49) = u49 at ha
  generalize af.eval (.tmp 50) = u50 at ha
  generalize af.eval (.tmp 51) = u51 at ha
  generalize af.eval (.tmp 52) = u52 at ha
  generalize af.eval (.tmp 53) = u53 at ha
  generalize af.eval (.tmp 54) = u54 at ha
  generalize af.eval (.tmp 55) = u55 at ha
  generalize af.eval (.tmp 56) = u56 at ha
  subst ha
  simp only [Act.put, List.setIfInBounds_toArray, List.set_cons_zero, List.set_cons_succ]
  go_wp2
  refine bodyPost_ret (results_none rfl _ _ _) rfl ?_
  exact KEY.out

set_option maxHeartbeats 1600000 in
set_option maxRecDepth 100000 in
theorem set_new (w : World) (t : Nat) (F : List Nat) (key : ByteArray) (Av : Option Addr) (nv cv : Nat) (l : List UInt8) (ht : TabE w t F) (hv : BRow w (.slice Av nv cv) l) :
    Calls Try.prog 30 #[.pointer (some ⟨t, 0, none⟩), .string key, .slice Av nv cv] w (TurnEnd t [(key, l)] F w) := by
  obtain ⟨hF, A, c, hh⟩ := ht
  subst hF
  have HF := Lib.hid (find_none w t key A c _ _ hh)
  have hlt := (Array.getElem?_eq_some_iff.1 hh).1
  have HH := Lib.hid hh
  have HV := Lib.hid hv
  clear hh hv
  go_enter Try.func30, Try.ntmps30
  go_wp2_with fail
  refine HF.out.mono ?_
  rintro e w2 ⟨rfl, hb2⟩
  have hh2 : w2.heap[t]? = some (.cells #[.slice A 0 c, .int .i64 0] 67 (0, 0)) := by rw [hb2.block t hlt]; exact HH.out
  have q0 : w2.cell? ⟨t, 0, none⟩ = some (.slice A 0 c) := by simp [World.cell?, hh2]
  have hlt2 : t < w2.heap.size := (Array.getElem?_eq_some_iff.1 hh2).1
  obtain ⟨i0, hi0, hz0, hz1, hz2⟩ := info_parts Try.infoBl
  obtain ⟨w3, hmk, hown3, hg3⟩ := run_make_full (P := Try.prog) (w := w2) 0 65 37 i0 (.slice none 0 0) 1 Try.underlying65 hi0 hz0 hz1 .i64 .i64 1 (by rw [hz2]; omega) (by decide) (Nat.zero_le _)
  replace hmk : (Instr.makeSlice 65 (.int .i64 1) (.int .i64 1)).run Try.prog w2 = .ok (.slice (some ⟨w2.heap.size, 0, none⟩) 1 1) w3 := hmk
  replace hown3 : w3.ownsRow 0 37 1 (.slice (some ⟨w2.heap.size, 0, none⟩) 1 1) 1 [.slice none 0 0] := by
    have e : (madeCells (Value.slice none 0 0).cells (1 * 1)).toList = [Value.slice none 0 0] := by simp [madeCells, Value.cells]
    rw [e] at hown3; exact hown3
  obtain ⟨r, Hr⟩ : ∃ r, Hid (r = w2.heap.size) := ⟨_, Lib.hid rfl⟩
  rw [← Hr.out] at hmk hown3
  have hh3 : w3.heap[t]? = some (.cells #[.slice A 0 c, .int .i64 0] 67 (0, 0)) := by rw [hg3.block t hlt2 (by simp)]; exact hh2
  have q1 : w3.cell? ⟨t, 0, none⟩ = some (.slice A 0 c) := by simp [World.cell?, hh3]
  have q2 : w3.frozen? ⟨t, 0, none⟩ = false := by simp [World.frozen?, hh3]
  obtain ⟨w4, Hw4⟩ : ∃ w4, Hid (w4 = w3.setCell ⟨t, 0, none⟩ (.slice (some ⟨r, 0, none⟩) 1 1)) := ⟨_, Lib.hid rfl⟩
  have ho4 : Only [t] w w4 := by
    rw [Hw4.out]
    exact (((Only.of_below hb2).trans (Only.of_grown hg3 (fun k hk => by cases hk)))).setCell (p := ⟨t, 0, none⟩) (.inl (by simp)) _
  have hP : TabP w4 t r 1 (.slice none 0 0) [] := by
    rw [Hw4.out]
    refine ⟨by rw [setCell_heap hh3 0]; simp, own_same hown3 (fun b hb => Below.heap_setCell _ _ _ _ (by simp [blk, Value.ownBlock] at hb; subst hb; rw [Hr.out]; show w2.heap.size ≠ t; omega)), ⟨World.ownsRow_nil _ 0 _ _, fun e he => by cases he⟩⟩
  have hv4 : BRow w4 (.slice Av nv cv) l := HV.out.only ho4 (fun b hb hm => by
    rw [List.mem_singleton] at hm
    subst hm
    exact HV.out.noB (.of_cells HH.out (by decide)) hb)
  have HP := Lib.hid hP
  have HV2 := Lib.hid hv4
  have HO4 := Lib.hid ho4
  have hrn : w.heap.size ≤ r := by rw [Hr.out]; exact hb2.size
  obtain ⟨ys, Hys⟩ : ∃ ys, Hid (ys = pcells (([] : List Ent).take 0 ++ [(⟨key, .slice Av nv cv, l⟩ : Ent)] ++ ([] : List Ent).drop 0)) := ⟨_, Lib.hid rfl⟩
  obtain ⟨a1, a2, a3, a4, a5⟩ := hP.se5 rfl (Nat.le_refl _) (by decide) ys Hys.out _ rfl
  have H1 := Lib.hid a1
  have H2 := Lib.hid a2
  have H3 := Lib.hid a3
  have H4 := Lib.hid a4
  have H5 := Lib.hid a5
  clear hb2 hh2 hh3 hP hv4 ho4 hown3 hg3 hi0 hz0 hz1 hz2 a1 a2 a3 a4 a5
  go_wp2_with fail
  rw [← Hw4.out]
  refine se5 t r 1 0 0 0 nv cv none Av key _ (by show 56 < 76; omega) rfl rfl rfl rfl rfl H1.out H2.out H3.out H4.out H5.out (SeS.start _ _) ?_
  intro af wN f hfr hall hS
  rw [Hys.out] at hS
  obtain ⟨g', c', e1, z1, z2, z3⟩ := HP.out.inserted HV2.out hS (Nat.le_refl _) hall 1 rfl
  obtain ⟨y1, y2, y3, _⟩ := z1.cells
  have hth : wN.heap[t]? = some (.cells #[.slice (some ⟨r, 0, none⟩) 1 1, .int .i64 0] 67 (0, 0)) := by
    obtain ⟨q1, q2, _⟩ := HP.out.rt
    rw [hS.only.block t q2 (by simp [blk, Value.ownBlock]; exact fun e => q1 e.symm)]
    exact HP.out.head
  have x1 : wN.cell? ⟨t, 1, none⟩ = some (.int .i64 0) := by simp [World.cell?, hth]
  have x2 : wN.frozen? ⟨t, 1, none⟩ = false := by simp [World.frozen?, hth]
  have x0 : wN.cell? ⟨t, 0, none⟩ = some (.slice (some ⟨r, 0, none⟩) 1 1) := by simp [World.cell?, hth]
  have hrt : ¬ r = t := HP.out.rt.1
  have x3 : wN.cell? ⟨r, 0, none⟩ = some (.slice (some ⟨g', 0, none⟩) 1 c') := by
    rw [World.cell?_of_block (w := wN) (w' := wN.setCell ⟨t, 1, none⟩ (.int .i64 1)) (Below.heap_setCell _ _ _ _ hrt)] at y3
    exact y3
  have key2 : TurnEnd t [(key, l)] [t] w (.returned (.tuple #[])) (wN.setCell ⟨t, 1, none⟩ (.int .i64 1)) := by
    refine ⟨⟨_, rfl⟩, [t, r, g'], .inr ⟨r, 1, g', c', _, rfl, z1⟩, ?_, ?_⟩
    · refine ⟨z2.os.trans HO4.out.os, z2.tape.trans HO4.out.tape, z2.output.trans HO4.out.output, Nat.le_trans HO4.out.size z2.size, fun b hb hn => ?_⟩
      rw [z2.block b (Nat.lt_of_lt_of_le hb HO4.out.size) (by simp [blk, Value.ownBlock] at hn ⊢; exact ⟨hn, by omega⟩)]
      exact HO4.out.block b hb hn
    · intro b hb
      rcases z3 b hb with h' | h'
      · simp [blk, Value.ownBlock] at h'
        rcases h' with rfl | rfl
        · exact .inl (by simp)
        · exact .inr hrn
      · exact .inr (Nat.le_trans HO4.out.size h')
  have KEY := Lib.hid key2
  clear hS hall z1 z2 z3 e1 hth y1 y2 y3 key2 hmk q0 q1 q2
  have ha := hfr.eq (by intro t ht; simp at ht; show t < 76; omega)
  simp only [List.foldl_cons, List.foldl_nil] at ha
  clear hfr
  generalize af.eval (.tmp 38) = u38 at ha
  generalize af.eval (.tmp 39) = u39 at ha
  generalize af.eval (.tmp 40) = u40 at ha
  generalize af.eval (.tmp 41) = u41 at ha
  generalize af.eval (.tmp 42) = u42 at ha
  generalize af.eval (.tmp 43) = u43 at ha
  generalize af.eval (.tmp 44) = u44 at ha
  generalize af.eval (.tmp 45) = u45 at ha
  generalize af.eval (.tmp 46) = u46 at ha
  generalize af.eval (.tmp 47) = u47 at ha
  generalize af.eval (.tmp 48) = u48 at ha
  generalize af.eval (.tmp 49) = u49 at ha
  generalize af.eval (.tmp 50) = u50 at ha
  generalize af.eval (.tmp 51) = u51 at ha
  generalize af.eval (.tmp 52) = u52 at ha
  generalize af.eval (.tmp 53) = u53 at ha
  generalize af.eval (.tmp 54) = u54 at ha
  generalize af.eval (.tmp 55) = u55 at ha
  generalize af.eval (.tmp 56) = u56 at ha
  subst ha
  simp only [Act.put, List.setIfInBounds_toArray, List.set_cons_zero, List.set_cons_succ]
  go_wp2
  refine bodyPost_ret (results_none rfl _ _ _) rfl ?_
  exact KEY.out
/-- set, whatever the table. -/
theorem set_any (w : World) (t : Nat) (m : List Pr) (F : List Nat) (key : ByteArray) (Av : Option Addr) (nv cv : Nat) (l : List UInt8) (ht : Tab w t m F) (hasc : Asc m) (hlen : m.length ≤ 255) (hv : BRow w (.slice Av nv cv) l) :
    Calls Try.prog 30 #[.pointer (some ⟨t, 0, none⟩), .string key, .slice Av nv cv] w (TurnEnd t (Kv.step m ⟨key, l, false⟩) F w) := by
  rcases ht with ⟨rfl, ht⟩ | ⟨r, c1, g, c2, L, rfl, ht⟩
  · exact set_new w t F key Av nv cv l ht hv
  · rw [List.length_map] at hlen
    cases hh : hit (L.map Ent.pr) key with
    | true => exact set_hit w t r c1 g c2 F L key Av nv cv l ht hasc hlen hv hh
    | false => exact set_miss w t r c1 g c2 F L key Av nv cv l ht hasc hlen hv hh
end Go.Proofs.Ytgpkdnnlgafenaa
