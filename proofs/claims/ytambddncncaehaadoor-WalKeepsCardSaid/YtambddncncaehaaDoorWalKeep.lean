/- The walks of the log's Add where it refuses, and of Keep. -/
import Derived.Test.YtambddncncaehaaDoorWalAdd
namespace Go.Proofs.YtambddncncaehaaDoor
open Go.RowKit Dk Wl
set_option linter.unusedVariables false
set_option maxRecDepth 100000

set_option maxHeartbeats 1600000 in
set_option maxRecDepth 100000 in
theorem add_big {w : World} {F G : List Nat} {d l sz half used : Nat} {S : Disk} {tl base : List UInt8} {recs : List (List UInt8)} (h : Duo w F G d l S sz half used tl base recs false) (hrl : recs.length ≤ 1000000) (A : Option Addr) (n c : Nat) (hn : 200000 < n) (hm : n ≤ maxLen) :
    Calls Tryd.prog 11 #[.pointer (some ⟨l, 0, none⟩), .slice A n c] w fun e w' => e = .returned (.int .i64 1) ∧ Below w.heap.size w w' := by
  obtain ⟨zn, Hz⟩ : ∃ z : Nat, Hid (z = 2 + recs.length) := ⟨_, Lib.hid rfl⟩
  have hz : (2 : Int) + (recs.length : Int) = (zn : Int) := by have := Hz.out; omega
  obtain ⟨W1, HW1⟩ : ∃ W, Hid (W = w.alloc (.cells #[.int .i64 (zn : Int), .slice A n c] 61)) := ⟨_, Lib.hid rfl⟩
  have hbox := box_rec w (zn : Int) A n c W1 HW1.out
  obtain ⟨q0, q1, q2, q3, q7⟩ := h.log.cells
  obtain ⟨Ar, cr, vs, q6, hr1, hr2, _⟩ := h.log.recsAt
  obtain ⟨At, ct, q4, t1, t2, ts⟩ := h.log.tailAt
  have hll : l < w.heap.size := World.block_lt_of_cell? w _ q0
  have n4 : W1.cell? ⟨l, 4, none⟩ = some (.slice At tl.length ct) := (hbox.below.cell (p := ⟨l, 4, none⟩) hll).trans q4
  have hn0 := hbox.c0
  have hn1 := hbox.c1
  have HBOX := Lib.hid hbox
  have HM := Lib.hid hm
  unfold maxLen at hm hr2
  clear hbox h q0 q1 q2 q3 q4 hr1 t1 t2 ts
  go_enter Tryd.func11, Tryd.ntmps11
  go_wp2
  rw [← HW1.out]
  refine ad4_run l w.heap.size tl.length ct n c At A (zn : Int) (fun x y w' => x = .slice none 0 0 ∧ y = .int .i64 1 ∧ Below W1.heap.size W1 w') (by show 29 < 69; omega) rfl rfl n4 hn0 hn1 (fun W hb => (put_no At tl.length ct (zn : Int) A n c W HM.out (.inr hn)).mono fun e w' he => ⟨_, _, he.1, rfl, rfl, hb.trans (he.2.mono hb.size)⟩) ?_
  intro af w2 hfr hP
  obtain ⟨h6, h7, hbel2⟩ := hP
  have ha := hfr.eq (by intro t ht; simp at ht; show t < 69; omega)
  simp only [List.foldl_cons, List.foldl_nil] at ha
  clear hfr
  rw [h6] at ha
  clear h6
  rw [h7] at ha
  clear h7
  generalize af.eval (.tmp 22) = u22 at ha
  generalize af.eval (.tmp 23) = u23 at ha
  generalize af.eval (.tmp 24) = u24 at ha
  generalize af.eval (.tmp 25) = u25 at ha
  generalize af.eval (.tmp 26) = u26 at ha
  generalize af.eval (.tmp 27) = u27 at ha
  generalize af.eval (.tmp 21) = u21 at ha
  generalize af.eval (.tmp 28) = u28 at ha
  generalize af.eval (.tmp 29) = u29 at ha
  subst ha
  simp only [Act.put, List.setIfInBounds_toArray, List.set_cons_zero, List.set_cons_succ]
  have HB := Lib.hid ((HBOX.out.later hbel2).2.2)
  clear hbel2 n4 hn0 hn1
  go_wp2
  go_ret
  exact ⟨rfl, HB.out⟩

set_option maxHeartbeats 1600000 in
set_option maxRecDepth 100000 in
theorem add_full {w : World} {F G : List Nat} {d l sz : Nat} {S : Disk} {L : Lg} (h : Both w F G d l S sz L false) (A : Option Addr) (n c : Nat) (body : List UInt8) (hn : n = body.length) (hs : Sees w w.heap.size A body) (hb : body.length ≤ 200000) (hfit : sz * 512 < L.used + (body.length + 16)) :
    Calls Tryd.prog 11 #[.pointer (some ⟨l, 0, none⟩), .slice A n c] w fun e w' => e = .returned (.int .i64 6) ∧ Below w.heap.size w w' := by
  subst hn
  have hup := L.used_pos
  have hul := h.2.1.used
  have hsz : sz ≤ 8192 := by
    obtain ⟨_, _, _, _, _, _, _, _, _, _, _, _, _, _, hdl⟩ := h.1.dev
    have := h.2.2.2; omega
  obtain ⟨zn, Hz⟩ : ∃ z : Nat, Hid (z = 2 + L.recs.length) := ⟨_, Lib.hid rfl⟩
  have hz : (2 : Int) + (L.recs.length : Int) = (zn : Int) := by have := Hz.out; omega
  obtain ⟨W1, HW1⟩ : ∃ W, Hid (W = w.alloc (.cells #[.int .i64 (zn : Int), .slice A body.length c] 61)) := ⟨_, Lib.hid rfl⟩
  have hbox := box_rec w (zn : Int) A body.length c W1 HW1.out
  obtain ⟨q0, q1, q2, q3, q7⟩ := h.1.log.cells
  obtain ⟨Ar, cr, vs, q6, hr1, hr2, _⟩ := h.1.log.recsAt
  obtain ⟨At, ct, q4, t1, t2, ts⟩ := h.1.log.tailAt
  have hll : l < w.heap.size := World.block_lt_of_cell? w _ q0
  have htl : (tailOf L.stream).length ≤ 100000000 := by
    unfold tailOf; rw [List.length_drop]
    have : L.used = L.stream.length := rfl
    omega
  have hput := fun W (hb' : Below W1.heap.size W1 W) => put_ok At (tailOf L.stream).length ct (tailOf L.stream) zn A body.length c body W rfl (ts.only (Only.of_below (hbox.later hb').2.2 (S := [])) (by simp)) rfl (hs.only (Only.of_below (hbox.later hb').2.2 (S := [])) (by simp)) (by have := Hz.out; omega) (by have := Hz.out; omega) hb (by omega) (h.1.tab.below (hbox.later hb').2.2 (Nat.le_refl _))
  have n4 : W1.cell? ⟨l, 4, none⟩ = some (.slice At (tailOf L.stream).length ct) := (hbox.below.cell (p := ⟨l, 4, none⟩) hll).trans q4
  have keep : ∀ W, Below W1.heap.size W1 W → W.cell? ⟨l, 1, none⟩ = some (.int .i64 (sz : Int)) ∧ W.cell? ⟨l, 3, none⟩ = some (.int .i64 (L.used : Int)) := fun W hb => by
    have hb := (hbox.later hb).2.2
    exact ⟨(hb.cell (p := ⟨l, 1, none⟩) hll).trans q1, (hb.cell (p := ⟨l, 3, none⟩) hll).trans q3⟩
  have HP := Lib.hid hput
  have HBOX := Lib.hid hbox
  have HKEEP := Lib.hid keep
  have HF := Lib.hid hfit
  unfold maxLen at hr2
  have hbI : (body.length : Int) ≤ 200000 := by omega
  have hn0 := hbox.c0
  have hn1 := hbox.c1
  clear hput hbox h hs q0 q1 q2 q3 q4 hr1 t1 t2 ts keep
  go_enter Tryd.func11, Tryd.ntmps11
  go_wp2
  rw [← HW1.out]
  refine ad4_run l w.heap.size (tailOf L.stream).length ct body.length c At A (zn : Int) (PutPost W1 (tailOf L.stream ++ Rc.enc zn body)) (by show 29 < 69; omega) rfl rfl n4 hn0 hn1 (fun W hb => (HP.out W hb).mono fun e w' he => put_post he hb) ?_
  intro af w2 hfr hP
  obtain ⟨A2, c2, b, hb2, h6, h7, hbel2, hs2, hA2, hc2, hcm2⟩ := hP
  have ha := hfr.eq (by intro t ht; simp at ht; show t < 69; omega)
  simp only [List.foldl_cons, List.foldl_nil] at ha
  clear hfr
  rw [h6] at ha
  clear h6
  rw [h7] at ha
  clear h7
  generalize af.eval (.tmp 22) = u22 at ha
  generalize af.eval (.tmp 23) = u23 at ha
  generalize af.eval (.tmp 24) = u24 at ha
  generalize af.eval (.tmp 25) = u25 at ha
  generalize af.eval (.tmp 26) = u26 at ha
  generalize af.eval (.tmp 27) = u27 at ha
  generalize af.eval (.tmp 21) = u21 at ha
  generalize af.eval (.tmp 28) = u28 at ha
  generalize af.eval (.tmp 29) = u29 at ha
  subst ha
  simp only [Act.put, List.setIfInBounds_toArray, List.set_cons_zero, List.set_cons_succ]
  obtain ⟨m0, m1, m2⟩ := HBOX.out.later hbel2
  obtain ⟨k1, k3⟩ := HKEEP.out w2 hbel2
  have HBEL2 := Lib.hid hbel2
  clear hn0 hn1 n4 HP hb2 hs2 hA2 hc2 hcm2 hbel2 m2
  have hbb : decide ((sz : Int) * 512 - (L.used : Int) < (body.length : Int) + 16) = true := by
    have := HF.out
    simp; omega
  go_wp2
  refine ad7_run l w.heap.size sz L.used body.length c (zn : Int) A true (by show 42 < 69; omega) rfl rfl hsz (by omega) k1 k3 m0 m1 hb (by have := Hz.out; omega) hbb ?_
  intro af w3 hfr h42 hbel3
  have ha := hfr.eq (by intro t ht; simp at ht; show t < 69; omega)
  simp only [List.foldl_cons, List.foldl_nil] at ha
  clear hfr
  rw [h42] at ha
  clear h42
  generalize af.eval (.tmp 33) = u33 at ha
  generalize af.eval (.tmp 34) = u34 at ha
  generalize af.eval (.tmp 35) = u35 at ha
  generalize af.eval (.tmp 36) = u36 at ha
  generalize af.eval (.tmp 37) = u37 at ha
  generalize af.eval (.tmp 38) = u38 at ha
  generalize af.eval (.tmp 39) = u39 at ha
  generalize af.eval (.tmp 40) = u40 at ha
  generalize af.eval (.tmp 41) = u41 at ha
  subst ha
  simp only [Act.put, List.setIfInBounds_toArray, List.set_cons_zero, List.set_cons_succ]
  have HB3 := Lib.hid ((HBOX.out.later (HBEL2.out.trans (hbel3.mono HBEL2.out.size))).2.2)
  clear m0 m1 hbel3 k1 k3 hbb
  go_wp2
  go_ret
  exact ⟨rfl, HB3.out⟩

/-- Keep, where there is space: what store is called with. -/
theorem keep_store {w : World} {F G : List Nat} {d l sz : Nat} {S : Disk} {L : Lg} (h : Both w F G d l S sz L false) (hc0 : S.cache = []) (hH : Holds S.dur sz L) (body : List UInt8) (hb : body.length ≤ 200000) (hfit : body.length + 16 ≤ sz * 512)
    (W : World) (hW : Below w.heap.size w W) (A' : Option Addr) (c' : Nat) (b : List UInt8) (hbb : b = Rc.enc 1 body) (hs : Sees W W.heap.size A' b) (hA : ∀ a, A' = some a → w.heap.size ≤ a.block) (h1 : b.length ≤ c') (h2 : c' ≤ maxLen) (q : Nat) (hq : q = 1 - L.half) :
    Calls Tryd.prog 28 #[.pointer (some ⟨l, 0, none⟩), .int .i64 (q : Int), .int .i64 0, .slice A' b.length c'] W (StoreEnd F G d l S sz L.half L.used (tailOf L.stream) L.base L.recs L (L.keep body) W) := by
  obtain ⟨hd, hok, h1s, hlen⟩ := h
  have hsz : sz ≤ 8192 := by
    obtain ⟨_, _, _, _, _, _, _, _, _, _, _, _, _, _, hdl⟩ := hd.dev
    omega
  have hok' : (L.keep body).Ok sz := Lg.keep_ok body hb hfit
  have hbl : b.length = body.length + 16 := by rw [hbb, Rc.enc_length]
  have hhalf : (1 - L.half) * sz ≤ sz := by have := Nat.mul_le_mul_right sz (show 1 - L.half ≤ 1 by omega); omega
  have hks : (b.length + 511) / 512 ≤ sz := by omega
  have hD : 1 + (1 - L.half) * sz + (b.length + 511) / 512 ≤ S.dur.length := by omega
  have hst := keep_step (sz := sz) (n := S.dur.length) hok (Rc.enc 1 body) (k := (b.length + 511) / 512) hD hks
  have hpl := keep_placed (D := S.dur) (sz := sz) L body (k := (b.length + 511) / 512) hD (by rw [← hbb]; omega)
  rw [← hbb] at hst hpl
  rw [hq]
  exact store_any L (L.keep body) W (hd.below hW) hsz hok' A' b.length c' b [] rfl h1 h2 hs (fun a ha => ⟨fun hm => by have := hA a ha; have := hd.dev.lt _ hm; omega, fun hm => by have := hA a ha; have := hd.log.lt _ hm; omega⟩) (by omega) rfl (by rw [L.keep_stream, hbb]; rfl) _ rfl (by intro e; rw [e] at hbl; simp at hbl) hc0 hD hH hst hpl

theorem keep_big {w : World} {F G : List Nat} {d l sz half used : Nat} {S : Disk} {tl base : List UInt8} {recs : List (List UInt8)} (h : Duo w F G d l S sz half used tl base recs false) (A : Option Addr) (n c : Nat) (hn : 200000 < n) (hm : n ≤ maxLen) :
    Calls Tryd.prog 12 #[.pointer (some ⟨l, 0, none⟩), .slice A n c] w fun e w' => e = .returned (.int .i64 1) ∧ Below w.heap.size w w' := by
  obtain ⟨q0, q1, q2, q3, q7⟩ := h.log.cells
  have HP := Lib.hid (put_no none 0 0 1 A n c w hm (.inr hn))
  clear h q0 q1 q2 q3
  go_enter Tryd.func12, Tryd.ntmps12
  go_wp2_with fail
  refine HP.out.mono ?_
  rintro e w' ⟨rfl, hb⟩
  have HB := Lib.hid hb
  clear hb
  go_wp2
  go_ret
  exact ⟨rfl, HB.out⟩

set_option maxHeartbeats 3200000 in
set_option maxRecDepth 100000 in
theorem keep_full {w : World} {F G : List Nat} {d l sz : Nat} {S : Disk} {L : Lg} (h : Both w F G d l S sz L false) (A : Option Addr) (n c : Nat) (body : List UInt8) (hn : n = body.length) (hs : Sees w w.heap.size A body) (hb : body.length ≤ 200000) (hfit : sz * 512 < body.length + 16) :
    Calls Tryd.prog 12 #[.pointer (some ⟨l, 0, none⟩), .slice A n c] w fun e w' => e = .returned (.int .i64 6) ∧ Below w.heap.size w w' := by
  subst hn
  have hsz : sz ≤ 8192 := by
    obtain ⟨_, _, _, _, _, _, _, _, _, _, _, _, _, _, hdl⟩ := h.1.dev
    have := h.2.2.2; omega
  obtain ⟨q0, q1, q2, q3, q7⟩ := h.1.log.cells
  have hll : l < w.heap.size := World.block_lt_of_cell? w _ q0
  have hput := put_ok none 0 0 [] 1 A body.length c body w rfl (Sees.nil _ _ _) rfl hs (by omega) (by omega) hb (by simp) h.1.tab
  rw [List.nil_append, show ((1 : Nat) : Int) = 1 from rfl] at hput
  have HP := Lib.hid hput
  have HF := Lib.hid hfit
  have HQ := Lib.hid q1
  clear hput h hs q0 q1 q2 q3
  go_enter Tryd.func12, Tryd.ntmps12
  go_wp2_with fail
  refine HP.out.mono ?_
  rintro e w2 ⟨A2, c2, b, hb2, rfl, hrow, hbel2, hc2, hcm2⟩
  have hbl : b.length = body.length + 16 := by rw [hb2.out, Rc.enc_length]
  have hsp := space_any w2 ((hbel2.cell (p := ⟨l, 1, none⟩) hll).trans HQ.out) hsz
  have HSP := Lib.hid hsp
  have hlt : (sz : Int) * 512 < (b.length : Int) := by have := HF.out; omega
  have HB := Lib.hid hbel2
  clear hb2 hrow hbel2 hc2 hcm2 hsp HP
  go_wp2_with fail
  refine HSP.out.mono ?_
  rintro e w3 ⟨rfl, rfl⟩
  clear HSP
  go_wp2
  go_ret
  exact ⟨rfl, HB.out⟩

set_option maxHeartbeats 3200000 in
set_option maxRecDepth 100000 in
theorem keep_ok {w : World} {F G : List Nat} {d l sz : Nat} {S : Disk} {L : Lg} (h : Both w F G d l S sz L false) (hc0 : S.cache = []) (hH : Holds S.dur sz L) (A : Option Addr) (n c : Nat) (body : List UInt8) (hn : n = body.length) (hs : Sees w w.heap.size A body) (hA : body ≠ [] → ∀ a, A = some a → a.block ∉ F ∧ a.block ∉ G) (hb : body.length ≤ 200000) (hfit : body.length + 16 ≤ sz * 512) :
    Calls Tryd.prog 12 #[.pointer (some ⟨l, 0, none⟩), .slice A n c] w (WalEnd F G d l S sz L (L.keep body) w) := by
  subst hn
  have hsz : sz ≤ 8192 := by
    obtain ⟨_, _, _, _, _, _, _, _, _, _, _, _, _, _, hdl⟩ := h.1.dev
    have := h.2.2.2; omega
  obtain ⟨q0, q1, q2, q3, q7⟩ := h.1.log.cells
  have hll : l < w.heap.size := World.block_lt_of_cell? w _ q0
  have hput := put_ok none 0 0 [] 1 A body.length c body w rfl (Sees.nil _ _ _) rfl hs (by omega) (by omega) hb (by simp) h.1.tab
  rw [List.nil_append, show ((1 : Nat) : Int) = 1 from rfl] at hput
  obtain ⟨q, Hq⟩ : ∃ q : Nat, Hid (q = 1 - L.half) := ⟨_, Lib.hid rfl⟩
  have hhf := h.2.1.half
  have hq : (1 : Int) - (L.half : Int) = (q : Int) := by have := Hq.out; omega
  have HST := Lib.hid (fun W hW A' c' b hbb hs hA h1 h2 => keep_store h hc0 hH body hb hfit W hW A' c' b hbb hs hA h1 h2 q Hq.out)
  have HP := Lib.hid hput
  have HF := Lib.hid hfit
  have HQ := Lib.hid (⟨q1, q2⟩ : _ ∧ _)
  have HB := Lib.hid h
  have HS := Lib.hid hs
  have HA := Lib.hid hA
  clear hput h hs q0 q1 q2 q3 hA hc0 hH
  go_enter Tryd.func12, Tryd.ntmps12
  go_wp2_with fail
  refine HP.out.mono ?_
  rintro e w2 ⟨A2, c2, b, hb2, rfl, hrow, hbel2, hc2, hcm2⟩
  have hbl : b.length = body.length + 16 := by rw [hb2.out, Rc.enc_length]
  have hsp := space_any w2 ((hbel2.cell (p := ⟨l, 1, none⟩) hll).trans HQ.out.1) hsz
  have k2 := (hbel2.cell (p := ⟨l, 2, none⟩) hll).trans HQ.out.2
  have hst := HST.out w2 hbel2 A2 c2 b hb2.out (Sees.of_own hrow) (fun a ha => by
    subst ha
    rcases hrow.2 with ⟨hv, _⟩ | ⟨g, cap, cur, hv, hg, _⟩
    · cases hv
    · injection hv with e1 _ _
      injection e1 with e1
      subst e1
      exact hg) hc2 hcm2
  have HST2 := Lib.hid hst
  have HSP := Lib.hid hsp
  have hlt : ¬ (sz : Int) * 512 < (b.length : Int) := by have := HF.out; omega
  have HBEL := Lib.hid hbel2
  clear hb2 hrow hbel2 hc2 hcm2 hsp HP hst HST hbl
  go_wp2_with fail
  refine HSP.out.mono ?_
  rintro e w3 ⟨rfl, rfl⟩
  clear HSP
  go_wp2_with fail
  refine HST2.out.mono ?_
  rintro e w4 ⟨er, F4, G4, S4, rfl, ht4, hl4, hcase⟩
  have ht04 : Turns F G F4 G4 w w4 := (Turns.of_below HBEL.out).trans ht4
  rcases hcase with ⟨rfl, o1, o2, o3, o4, o5⟩ | ⟨rfl, o1, o2, o3, o5⟩
  · have hs4 : Sees w4 w4.heap.size A body := (HS.out.only (Only.of_below HBEL.out (S := F ++ G)) (fun hne a ha hm => by
        rcases List.mem_append.1 hm with hm | hm
        · exact (HA.out hne a ha).1 hm
        · exact (HA.out hne a ha).2 hm)).only ht4.only (fun hne a ha hm => by
        rcases List.mem_append.1 hm with hm | hm
        · exact (HA.out hne a ha).1 hm
        · exact (HA.out hne a ha).2 hm)
    have HCL := Lib.hid (clone_opt A body.length c body w4.heap.size w4 rfl (by omega) hs4)
    have HT4 := Lib.hid ht04
    have HO := Lib.hid (⟨o1, o2, o3, o5⟩ : _ ∧ _ ∧ _ ∧ _)
    have HD4 := Lib.hid o4
    have HL4 := Lib.hid hl4
    clear ht04 ht4 o1 o2 o3 o4 o5 hl4 HST2 k2 hs4
    go_wp2_with fail
    refine HCL.out.mono ?_
    rintro e w5 ⟨A5, c5, rfl, m1, m2, m3, m4, m5⟩
    have hd5 := HD4.out.below m4
    obtain ⟨p1, p2, p3⟩ := hd5.rebase (.slice A5 body.length c5) body m1 w4 m4.size (fun k hk => ⟨m5 k hk, fun hm => by have := HD4.out.dev.lt _ hm; have := m5 k hk; omega, fun e => by have := HD4.out.tab.lt; have := m5 k hk; omega⟩)
    have key : WalEnd F G d l S sz L (L.keep body) w (.returned (.int .i64 0)) ((w5.setCell ⟨l, 5, none⟩ (.slice A5 body.length c5)).setCell ⟨l, 6, none⟩ (.slice none 0 0)) :=
      ⟨0, F4, _, S4, rfl, HT4.out.trans (Turns.log ((Only.of_below m4).trans p2) p3), HL4.out, .inl ⟨rfl, HO.out.1, HO.out.2.1, HO.out.2.2.1, ⟨p1, Lg.keep_ok body hb HF.out, HB.out.2.2.1, by rw [HL4.out]; exact HB.out.2.2.2⟩, HO.out.2.2.2⟩⟩
    obtain ⟨Ab, cb, g5, _⟩ := hd5.log.baseAt
    obtain ⟨Ar, cr, vs, g6, _⟩ := hd5.log.recsAt
    have f5 := hd5.log.free 5
    have f6 := hd5.log.free 6
    have HK := Lib.hid key
    clear key p1 p2 p3 hd5 m1 m2 m3 m4 m5
    go_wp2
    go_ret
    exact HK.out
  · have key : WalEnd F G d l S sz L (L.keep body) w (.returned (.int .i64 7)) w4 :=
      ⟨7, F4, G4, S4, rfl, ht04, hl4, .inr ⟨rfl, o1, o2, ⟨o3, HB.out.2.1, HB.out.2.2.1, by rw [hl4]; exact HB.out.2.2.2⟩, o5⟩⟩
    have HK := Lib.hid key
    clear key ht04 ht4 o1 o2 o3 o5 hl4 HST2 k2
    go_wp2
    go_ret
    exact HK.out
end Go.Proofs.YtambddncncaehaaDoor
