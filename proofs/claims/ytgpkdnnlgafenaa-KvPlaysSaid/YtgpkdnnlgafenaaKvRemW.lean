/- remove: a key's pair is taken out; an empty block goes. -/
import Derived.Test.YtgpkdnnlgafenaaKvSetW
namespace Go.Proofs.Ytgpkdnnlgafenaa
open Go.RowKit Kv
set_option linter.unusedVariables false

/-- While the region of remove comes up. -/
structure ReS (w2 : World) (r c1 g n c0 : Nat) (ys : List Value) (f : Nat → Bool) (R : Nat → Value) (W : World) : Prop where
  only : Only [r, g] w2 W
  mid0 : f 1 = false → W.heap[r]? = w2.heap[r]?
  row0 : f 0 = false → W.heap[g]? = w2.heap[g]?
  row1 : f 0 = true → R 0 = .slice (some ⟨g, 0, none⟩) (n - 1) c0 ∧ W.ownsRow 0 63 2 (.slice (some ⟨g, 0, none⟩) (n - 1) c0) (n - 1) ys
  mid1 : f 1 = true → W.ownsRow 0 37 1 (.slice (some ⟨r, 0, none⟩) 1 c1) 1 [.slice (some ⟨g, 0, none⟩) (n - 1) c0]
section
variable {w2 W W' : World} {r c1 g n c0 : Nat} {ys : List Value} {f : Nat → Bool} {R : Nat → Value}
theorem ReS.start (w2 : World) (R : Nat → Value) : ReS w2 r c1 g n c0 ys (fun _ => false) R w2.drew :=
  ⟨(Only.refl _ _).drewN 1, fun _ => rfl, fun _ => rfl, fun h => absurd h (by simp), fun h => absurd h (by simp)⟩
theorem ReS.s0 (h : ReS w2 r c1 g n c0 ys f R W) (h1 : f 1 = false) (hr : r < w2.heap.size) (hrg : r ≠ g) (ho : W'.ownsRow 0 63 2 (.slice (some ⟨g, 0, none⟩) (n - 1) c0) (n - 1) ys) (hon : Only [g] W W') :
    ReS w2 r c1 g n c0 ys (setF f 0) (setR R 0 (.slice (some ⟨g, 0, none⟩) (n - 1) c0)) W' := by
  have hsz := h.only.size
  refine ⟨h.only.trans (hon.more fun b hb => by simp at hb; simp [hb]), fun c => ?_, fun c => ?_, fun _ => ⟨setR_self .., ho⟩, fun c => ?_⟩
  · rw [hon.block r (by omega) (by simpa using hrg)]; exact h.mid0 h1
  · rw [setF_self] at c; cases c
  · rw [setF_ne _ (by decide), h1] at c; cases c
theorem ReS.s1 (h : ReS w2 r c1 g n c0 ys f R W) (h0 : f 0 = true) (h1 : f 1 = false) {v0 : Value} (hm : w2.ownsRow 0 37 1 (.slice (some ⟨r, 0, none⟩) 1 c1) 1 [v0]) (hrg : r ≠ g) :
    ReS w2 r c1 g n c0 ys (setF f 1) R (W.setCell ⟨r, 0, none⟩ (.slice (some ⟨g, 0, none⟩) (n - 1) c0)) := by
  obtain ⟨e, o1⟩ := h.row1 h0
  have hmW : W.ownsRow 0 37 1 (.slice (some ⟨r, 0, none⟩) 1 c1) 1 [v0] := own_same hm (fun b hb => by simp [blk, Value.ownBlock] at hb; subst hb; exact h.mid0 h1)
  refine ⟨h.only.setCell (.inl (by simp)) _, fun c => ?_, fun c => ?_, fun _ => ⟨e, ?_⟩, fun _ => own_put hmW⟩
  · rw [setF_self] at c; cases c
  · rw [setF_ne _ (by decide), h0] at c; cases c
  · exact own_same o1 (fun b hb => Below.heap_setCell _ _ _ _ (by simp [blk, Value.ownBlock] at hb; subst hb; exact fun e => hrg e.symm))
end
theorem TabN.re2 {w2 : World} {t r c1 g c0 p : Nat} {F : List Nat} {L : List Ent} (h : TabN w2 t F r c1 g c0 L) (hp : p < L.length) (hlen : L.length ≤ 1000000) (ys : List Value) (hys : ys = pcells (L.take p ++ L.drop (p + 1)))
    (S : (Nat → Bool) → (Nat → Value) → World → Prop) (hS : S = ReS w2 r c1 g L.length c0 ys) :
    (∀ f R w, S f R w → w.cell? ⟨t, 0, none⟩ = some (.slice (some ⟨r, 0, none⟩) 1 c1)) ∧ (∀ f R w, S f R w → f 1 = false → w.cell? ⟨r, 0, none⟩ = some (.slice (some ⟨g, 0, none⟩) L.length c0)) ∧
    (∀ f R w, S f R w → f 0 = false → f 1 = false → Calls Try.prog 41 #[.slice (some ⟨g, 0, none⟩) L.length c0, .int .i64 (p : Int), .int .i64 ((p : Int) + 1)] w fun e w' => ∃ v, e = .returned v ∧ S (setF f 0) (setR R 0 v) w') ∧
    (∀ f R w, S f R w → f 0 = true → f 1 = false → ∃ A n c, R 0 = .slice A n c ∧ w.frozen? ⟨r, 0, none⟩ = false ∧ S (setF f 1) R (w.setCell ⟨r, 0, none⟩ (.slice A n c))) := by
  subst hS
  obtain ⟨k1, _, k3, _, _, k6⟩ := h.toP.cells
  obtain ⟨d1, d2, d3⟩ := h.rg
  obtain ⟨hrt, htl, hrl⟩ := h.toP.rt
  refine ⟨fun f R w hs => ?_, fun f R w hs h1 => ?_, fun f R w hs h0 h1 => ?_, fun f R w hs h0 h1 => ?_⟩
  · rw [World.cell?_of_block (w := w2) (hs.only.block t htl (by simp; exact ⟨d1, d2⟩))]; exact k1
  · rw [World.cell?_of_block (w := w2) (hs.mid0 h1)]; exact k3
  · have hw : w.ownsRow 0 63 2 (.slice (some ⟨g, 0, none⟩) L.length c0) L.length (pcells L) := own_same h.row.row (fun b hb => by simp [blk, Value.ownBlock] at hb; subst hb; exact hs.row0 h0)
    refine (delete_any g L.length c0 p (pcells L) w hw (pcells_one h.row.vals) hlen hp ys (by rw [hys, pcells_delete])).mono ?_
    rintro e w' ⟨rfl, i1, i2⟩
    exact ⟨_, rfl, hs.s0 h1 hrl d3 i1 i2⟩
  · obtain ⟨e, o1⟩ := hs.row1 h0
    refine ⟨_, _, _, e, ?_, hs.s1 h0 h1 h.mid d3⟩
    rw [World.frozen?_of_block (w := w2) (hs.mid0 h1)]; exact k6
theorem step_gone (L : List Ent) (k : ByteArray) (l : List UInt8) (hh : hit (L.map Ent.pr) k = true) :
    (L.take (pos (L.map Ent.pr) k) ++ L.drop (pos (L.map Ent.pr) k + 1)).map Ent.pr = Kv.step (L.map Ent.pr) ⟨k, l, true⟩ := by
  unfold Kv.step
  rw [hh]
  simp [List.map_take, List.map_drop]
theorem step_none (m : List Pr) (k : ByteArray) (l : List UInt8) (hh : hit m k = false) : Kv.step m ⟨k, l, true⟩ = m := by
  unfold Kv.step
  rw [hh]
  simp

/-- The region of remove, and what stands behind it. -/
theorem TabN.deleted {w2 W : World} {t r c1 g c0 p : Nat} {F : List Nat} {L : List Ent} {R : Nat → Value} {f : Nat → Bool} (h : TabN w2 t F r c1 g c0 L) (hp : p < L.length) (hs : ReS w2 r c1 g L.length c0 (pcells (L.take p ++ L.drop (p + 1))) f R W) (hf : ∀ j, j < 2 → f j = true) (N : Int) (hN : N = (L.length : Int) - 1) :
    TabP (W.setCell ⟨t, 1, none⟩ (.int .i64 N)) t r c1 (.slice (some ⟨g, 0, none⟩) (L.length - 1) c0) (L.take p ++ L.drop (p + 1)) ∧ Only F w2 (W.setCell ⟨t, 1, none⟩ (.int .i64 N)) := by
  subst hN
  obtain ⟨_, o1⟩ := hs.row1 (hf 0 (by decide))
  have hm := hs.mid1 (hf 1 (by decide))
  obtain ⟨d1, d2, d3⟩ := h.rg
  have htl := (Array.getElem?_eq_some_iff.1 h.head).1
  obtain ⟨nt, nr, ng⟩ := h.noB
  have hlen : (L.take p ++ L.drop (p + 1)).length = L.length - 1 := by simp; omega
  have hoW : Only F w2 (W.setCell ⟨t, 1, none⟩ (.int .i64 ((L.length : Int) - 1))) := by
    rw [h.foot]
    exact (hs.only.more (fun b hb => List.mem_cons_of_mem _ hb)).setCell (.inl (by simp)) _
  have ht : W.heap[t]? = some (.cells #[.slice (some ⟨r, 0, none⟩) 1 c1, .int .i64 (L.length : Int)] 67 (0, 0)) := by
    rw [hs.only.block t htl (by simp; exact ⟨d1, d2⟩)]; exact h.head
  have other : ∀ b, b ≠ t → (W.setCell ⟨t, 1, none⟩ (.int .i64 ((L.length : Int) - 1))).heap[b]? = W.heap[b]? := fun b hb => Below.heap_setCell _ _ _ _ hb
  refine ⟨⟨?_, ?_, ⟨?_, ?_⟩⟩, hoW⟩
  · rw [hlen, setCell_heap ht 1, show ((L.length - 1 : Nat) : Int) = (L.length : Int) - 1 by omega]
    simp
  · exact own_same hm (fun b hb => other b (by simp [blk, Value.ownBlock] at hb; omega))
  · rw [hlen]
    exact own_same o1 (fun b hb => other b (by simp [blk, Value.ownBlock] at hb; omega))
  · intro x hx
    have hxL : x ∈ L := (List.mem_append.1 hx).elim List.mem_of_mem_take List.mem_of_mem_drop
    refine (h.row.vals x hxL).only hoW (fun b hb hm => ?_)
    rw [h.foot] at hm
    simp at hm
    rcases hm with rfl | rfl | rfl
    · exact (h.row.vals x hxL).noB nt hb
    · exact (h.row.vals x hxL).noB nr hb
    · exact (h.row.vals x hxL).noB ng hb

set_option maxHeartbeats 800000 in
theorem remove_no (w : World) (t : Nat) (m : List Pr) (F : List Nat) (key : ByteArray) (l : List UInt8) (ht : Tab w t m F) (x : Int)
    (hf : Calls Try.prog 38 #[.pointer (some ⟨t, 0, none⟩), .string key] w fun e w' => e = .returned (.tuple #[.int .i64 0, .int .i64 x, .bool false]) ∧ Below w.heap.size w w') :
    Calls Try.prog 29 #[.pointer (some ⟨t, 0, none⟩), .string key] w (TurnEnd t m F w) := by
  have fin : ∀ W, Below w.heap.size w W → TurnEnd t m F w (.returned (.tuple #[])) W := fun W hW => ⟨⟨_, rfl⟩, F, ht.below hW, Only.of_below hW, Grows.refl _ _⟩
  have FIN := Lib.hid fin
  have HF := Lib.hid hf
  clear fin hf ht
  go_enter Try.func29, Try.ntmps29
  go_wp2_with fail
  refine HF.out.mono ?_
  rintro e w2 ⟨rfl, hb2⟩
  have HK := Lib.hid (FIN.out w2 hb2)
  clear hb2
  go_wp2
  refine bodyPost_ret (results_none rfl _ _ _) rfl ?_
  exact HK.out

set_option maxHeartbeats 1600000 in
set_option maxRecDepth 100000 in
theorem remove_hit (w : World) (t r c1 g c0 : Nat) (F : List Nat) (L : List Ent) (key : ByteArray) (l : List UInt8) (ht : TabN w t F r c1 g c0 L) (hasc : Asc (L.map Ent.pr)) (hlen : L.length ≤ 255) (hh : hit (L.map Ent.pr) key = true) :
    Calls Try.prog 29 #[.pointer (some ⟨t, 0, none⟩), .string key] w (TurnEnd t (Kv.step (L.map Ent.pr) ⟨key, l, true⟩) F w) := by
  obtain ⟨p, Hp⟩ : ∃ p, Hid (p = pos (L.map Ent.pr) key) := ⟨_, Lib.hid rfl⟩
  have hp : p < L.length := by
    obtain ⟨h1, _⟩ := hit_lt hh
    rw [List.length_map] at h1
    rw [Hp.out]; exact h1
  have hf := find_any w t r c1 g c0 F L key ht hasc (by omega)
  rw [hh, ← Hp.out] at hf
  have HF := Lib.hid hf
  have HT := Lib.hid ht
  have hst := step_gone L key l hh
  rw [← Hp.out] at hst
  have HST := Lib.hid hst
  clear hf ht hasc hh hst
  go_enter Try.func29, Try.ntmps29
  go_wp2_with fail
  refine HF.out.mono ?_
  rintro e w2 ⟨rfl, hb2⟩
  have hP := HT.out.below hb2
  have HB2 := Lib.hid hb2
  have HP := Lib.hid hP
  obtain ⟨ys, Hys⟩ : ∃ ys, Hid (ys = pcells (L.take p ++ L.drop (p + 1))) := ⟨_, Lib.hid rfl⟩
  obtain ⟨a1, a2, a3, a4⟩ := hP.re2 hp (by omega) ys Hys.out _ rfl
  have H1 := Lib.hid a1
  have H2 := Lib.hid a2
  have H3 := Lib.hid a3
  have H4 := Lib.hid a4
  clear hb2 hP a1 a2 a3 a4
  go_wp2_with fail
  refine re2 t r c1 p L.length c0 (some ⟨g, 0, none⟩) _ (by show 32 < 60; omega) rfl rfl rfl (by omega) H1.out H2.out H3.out H4.out (ReS.start _ _) ?_
  intro af wN f hfr hall hS
  rw [Hys.out] at hS
  obtain ⟨z1, z2⟩ := HP.out.deleted hp hS hall ((L.length : Int) - 1) rfl
  obtain ⟨d1, d2, d3⟩ := HP.out.rg
  have hth : wN.heap[t]? = some (.cells #[.slice (some ⟨r, 0, none⟩) 1 c1, .int .i64 (L.length : Int)] 67 (0, 0)) := by
    rw [hS.only.block t HP.out.toP.rt.2.1 (by simp; exact ⟨d1, d2⟩)]
    exact HP.out.head
  have x0 : wN.cell? ⟨t, 0, none⟩ = some (.slice (some ⟨r, 0, none⟩) 1 c1) := by simp [World.cell?, hth]
  have x1 : wN.cell? ⟨t, 1, none⟩ = some (.int .i64 (L.length : Int)) := by simp [World.cell?, hth]
  have x2 : wN.frozen? ⟨t, 1, none⟩ = false := by simp [World.frozen?, hth]
  have x4 : wN.frozen? ⟨t, 0, none⟩ = false := by simp [World.frozen?, hth]
  have hrt : ¬ r = t := fun e => d1 e.symm
  obtain ⟨y1, _, y3, _⟩ := z1.cells
  have x3 : wN.cell? ⟨r, 0, none⟩ = some (.slice (some ⟨g, 0, none⟩) (L.length - 1) c0) := by
    rw [World.cell?_of_block (w := wN) (w' := wN.setCell ⟨t, 1, none⟩ (.int .i64 ((L.length : Int) - 1))) (Below.heap_setCell _ _ _ _ hrt)] at y3
    exact y3
  have ho : Only F w (wN.setCell ⟨t, 1, none⟩ (.int .i64 ((L.length : Int) - 1))) := (Only.of_below HB2.out).trans z2
  have Z1 := Lib.hid z1
  have HO := Lib.hid ho
  have hF : Hid (F = [t, r, g]) := Lib.hid HP.out.foot
  have hln : Hid ((L.take p ++ L.drop (p + 1)).length = L.length - 1) := Lib.hid (by simp; omega)
  rcases Nat.lt_or_ge 1 L.length with h1 | h1
  · have key2 : TurnEnd t (Kv.step (L.map Ent.pr) ⟨key, l, true⟩) F w (.returned (.tuple #[])) (wN.setCell ⟨t, 1, none⟩ (.int .i64 ((L.length : Int) - 1))) := by
      obtain ⟨g', c', e, hN⟩ := z1.toN (by intro e; have := hln.out; rw [e] at this; simp at this; omega)
      have hg' : g' = g := by injection e with e _ _; injection e with e; injection e with e _ _; exact e.symm
      subst hg'
      exact ⟨⟨_, rfl⟩, [t, r, g'], .inr ⟨r, c1, g', c', _, HST.out.symm, hN⟩, ho, by rw [hF.out]; exact Grows.refl _ _⟩
    have KEY := Lib.hid key2
    have hb1 : ((L.length - 1 : Nat) : Int) = (L.length : Int) - 1 := by omega
    have hb2 : ((L.length - 1 : Nat) == 0) = false := by simp; omega
    have hb3 : 0 < L.length - 1 := by omega
    have HB1 := Lib.hid hb1
    clear hS hall z1 z2 hth y1 y3 key2 ho hb1
    have ha := hfr.eq (by intro t ht; simp at ht; show t < 60; omega)
    simp only [List.foldl_cons, List.foldl_nil] at ha
    clear hfr
    generalize af.eval (.tmp 16) = u16 at ha
    generalize af.eval (.tmp 17) = u17 at ha
    generalize af.eval (.tmp 18) = u18 at ha
    generalize af.eval (.tmp 19) = u19 at ha
    generalize af.eval (.tmp 20) = u20 at ha
    generalize af.eval (.tmp 21) = u21 at ha
    generalize af.eval (.tmp 22) = u22 at ha
    generalize af.eval (.tmp 23) = u23 at ha
    generalize af.eval (.tmp 24) = u24 at ha
    generalize af.eval (.tmp 25) = u25 at ha
    generalize af.eval (.tmp 26) = u26 at ha
    generalize af.eval (.tmp 27) = u27 at ha
    generalize af.eval (.tmp 28) = u28 at ha
    generalize af.eval (.tmp 29) = u29 at ha
    generalize af.eval (.tmp 30) = u30 at ha
    generalize af.eval (.tmp 31) = u31 at ha
    generalize af.eval (.tmp 32) = u32 at ha
    subst ha
    simp only [Act.put, List.setIfInBounds_toArray, List.set_cons_zero, List.set_cons_succ]
    go_wp2
    refine bodyPost_ret (results_none rfl _ _ _) rfl ?_
    exact KEY.out
  · have hl1 : L.length = 1 := by omega
    obtain ⟨W1, HW1⟩ : ∃ W1, Hid (W1 = wN.setCell ⟨t, 1, none⟩ (.int .i64 ((L.length : Int) - 1))) := ⟨_, Lib.hid rfl⟩
    have hD : Calls Try.prog 42 #[.slice (some ⟨r, 0, none⟩) 1 c1, .int .i64 0, .int .i64 1] W1 fun e w' => e = .returned (.slice (some ⟨r, 0, none⟩) 0 c1) ∧ Only [r] W1 w' :=
      (deleteB_any r 1 c1 0 [.slice (some ⟨g, 0, none⟩) (L.length - 1) c0] W1 (by rw [HW1.out]; exact z1.mid) (by intro u hu; simp at hu; subst hu; rfl) (by omega) (by omega) [] rfl).mono fun e w' he => ⟨he.1, he.2.2⟩
    have hW1t : W1.heap[t]? = some (.cells #[.slice (some ⟨r, 0, none⟩) 1 c1, .int .i64 0] 67 (0, 0)) := by
      rw [HW1.out, setCell_heap hth 1, show (L.length : Int) - 1 = 0 by omega]
      simp
    have fin : ∀ W2, Only [r] W1 W2 → (W2.cell? ⟨t, 0, none⟩ = some (.slice (some ⟨r, 0, none⟩) 1 c1) ∧ W2.frozen? ⟨t, 0, none⟩ = false) ∧ TurnEnd t (Kv.step (L.map Ent.pr) ⟨key, l, true⟩) F w (.returned (.tuple #[])) (W2.setCell ⟨t, 0, none⟩ (.slice (some ⟨r, 0, none⟩) 0 c1)) := fun W2 h2 => by
      have ht2 : W2.heap[t]? = some (.cells #[.slice (some ⟨r, 0, none⟩) 1 c1, .int .i64 0] 67 (0, 0)) := by
        rw [h2.block t (Array.getElem?_eq_some_iff.1 hW1t).1 (by simpa using d1)]; exact hW1t
      refine ⟨⟨by simp [World.cell?, ht2], by simp [World.frozen?, ht2]⟩, ⟨_, rfl⟩, [t], .inl ⟨?_, rfl, _, _, by rw [setCell_heap ht2 0]; simp; exact ⟨rfl, rfl⟩⟩, ?_, ?_⟩
      · rw [← HST.out]
        have : L.take p ++ L.drop (p + 1) = [] := List.eq_nil_of_length_eq_zero (by rw [hln.out]; omega)
        rw [this]; rfl
      · refine (ho.trans ?_).setCell (.inl (by rw [hF.out]; simp)) _
        rw [← HW1.out]
        exact h2.more fun b hb => by simp at hb; subst hb; rw [hF.out]; simp
      · intro b hb
        simp at hb
        subst hb
        exact .inl (by rw [hF.out]; simp)
    have FIN := Lib.hid fin
    have HD := Lib.hid hD
    rw [show L.length - 1 = 0 by omega] at x3
    have hl2 : (L.length : Int) ≤ 255 := by omega
    clear hS hall z1 z2 hth y1 y3 ho hD hW1t fin hl1 x4
    have ha := hfr.eq (by intro t ht; simp at ht; show t < 60; omega)
    simp only [List.foldl_cons, List.foldl_nil] at ha
    clear hfr
    generalize af.eval (.tmp 16) = u16 at ha
    generalize af.eval (.tmp 17) = u17 at ha
    generalize af.eval (.tmp 18) = u18 at ha
    generalize af.eval (.tmp 19) = u19 at ha
    generalize af.eval (.tmp 20) = u20 at ha
    generalize af.eval (.tmp 21) = u21 at ha
    generalize af.eval (.tmp 22) = u22 at ha
    generalize af.eval (.tmp 23) = u23 at ha
    generalize af.eval (.tmp 24) = u24 at ha
    generalize af.eval (.tmp 25) = u25 at ha
    generalize af.eval (.tmp 26) = u26 at ha
    generalize af.eval (.tmp 27) = u27 at ha
    generalize af.eval (.tmp 28) = u28 at ha
    generalize af.eval (.tmp 29) = u29 at ha
    generalize af.eval (.tmp 30) = u30 at ha
    generalize af.eval (.tmp 31) = u31 at ha
    generalize af.eval (.tmp 32) = u32 at ha
    subst ha
    simp only [Act.put, List.setIfInBounds_toArray, List.set_cons_zero, List.set_cons_succ]
    go_wp2_with fail
    rw [← HW1.out]
    refine HD.out.mono ?_
    rintro e w4 ⟨rfl, h4⟩
    obtain ⟨⟨q1, q2⟩, q3⟩ := FIN.out w4 h4
    have HQ := Lib.hid q3
    clear q3 h4
    go_wp2
    refine bodyPost_ret (results_none rfl _ _ _) rfl ?_
    exact HQ.out
/-- remove, whatever the table. -/
theorem remove_any (w : World) (t : Nat) (m : List Pr) (F : List Nat) (key : ByteArray) (l : List UInt8) (ht : Tab w t m F) (hasc : Asc m) (hlen : m.length ≤ 255) :
    Calls Try.prog 29 #[.pointer (some ⟨t, 0, none⟩), .string key] w (TurnEnd t (Kv.step m ⟨key, l, true⟩) F w) := by
  have hT := ht
  rcases ht with ⟨rfl, ht⟩ | ⟨r, c1, g, c2, L, rfl, ht⟩
  · obtain ⟨_, A, c, hh⟩ := ht
    exact remove_no w t [] F key l hT 0 (find_none w t key A c _ _ hh)
  · rw [List.length_map] at hlen
    cases hh : hit (L.map Ent.pr) key with
    | true => exact remove_hit w t r c1 g c2 F L key l ht hasc hlen hh
    | false =>
      rw [step_none _ _ _ hh]
      have hf := find_any w t r c1 g c2 F L key ht hasc (by omega)
      rw [hh] at hf
      exact remove_no w t _ F key l hT _ hf
end Go.Proofs.Ytgpkdnnlgafenaa
