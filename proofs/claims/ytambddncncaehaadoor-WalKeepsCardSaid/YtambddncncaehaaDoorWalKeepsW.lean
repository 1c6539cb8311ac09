/- The walk of WalKeeps. -/
import Derived.Test.YtambddncncaehaaDoorWalAgainW
import Derived.Test.YtambddncncaehaaDoorWalKe28
namespace Go.Proofs.YtambddncncaehaaDoor
open Go.RowKit Dk Wl
set_option linter.unusedVariables false
set_option maxRecDepth 100000

/-- What both logs have told. -/
def KeS (wz : World) (B nb : Nat) (base : List UInt8) (recs : List (List UInt8)) (p : Nat) (R : Nat → Value) (w : World) : Prop :=
  Below wz.heap.size wz w ∧ (∀ k, k = 0 ∨ k = 3 → k < p → ∃ A c, R k = .slice A nb c ∧ Sees w w.heap.size A base) ∧ (∀ k, k = 1 ∨ k = 4 → k < p → ∃ A c, R k = .slice A recs.length c ∧ Grid w w.heap.size A recs) ∧ (∀ k, k = 2 ∨ k = 5 → k < p → R k = .bool true)
section
variable {wz w w' : World} {B nb : Nat} {base : List UInt8} {recs : List (List UInt8)} {p : Nat} {R : Nat → Value}
theorem KeS.step (h : KeS wz B nb base recs p R w) (hb : Below w.heap.size w w') (v : Value) (h0 : p = 0 ∨ p = 3 → ∃ A c, v = .slice A nb c ∧ Sees w' w'.heap.size A base) (h1 : p = 1 ∨ p = 4 → ∃ A c, v = .slice A recs.length c ∧ Grid w' w'.heap.size A recs) (h2 : p = 2 ∨ p = 5 → v = .bool true) : KeS wz B nb base recs (p + 1) (setR R p v) w' := by
  obtain ⟨q0, q1, q2, q3⟩ := h
  refine ⟨q0.trans (hb.mono q0.size), fun k hk hkp => ?_, fun k hk hkp => ?_, fun k hk hkp => ?_⟩
  · by_cases e : k = p
    · subst e; rw [setR0]; exact h0 hk
    · obtain ⟨A, c, e1, e2⟩ := q1 k hk (by omega)
      exact ⟨A, c, by rw [setR1 _ _ e]; exact e1, (e2.below hb (Nat.le_refl _)).mono hb.size⟩
  · by_cases e : k = p
    · subst e; rw [setR0]; exact h1 hk
    · obtain ⟨A, c, e1, e2⟩ := q2 k hk (by omega)
      exact ⟨A, c, by rw [setR1 _ _ e]; exact e1, (e2.below hb (Nat.le_refl _)).up hb.size⟩
  · by_cases e : k = p
    · subst e; rw [setR0]; exact h2 hk
    · rw [setR1 _ _ e]; exact q3 k hk (by omega)
variable {x d sz half used : Nat} {G : List Nat} {tl : List UInt8} {dn : Bool}
theorem KeS.tellBase (h : KeS wz B nb base recs p R w) (hnb : nb = base.length) (hbig : nb ≤ 140737488355328) (hx : LogI wz G x d sz half used tl base recs dn) (hp : p = 0 ∨ p = 3) :
    Calls Tryd.prog 18 #[.pointer (some ⟨x, 0, none⟩)] w fun e w' => ∃ v, e = .returned v ∧ KeS wz B nb base recs (p + 1) (setR R p v) w' := by
  subst hnb
  refine (base_any (hx.below h.1) hbig).mono ?_
  rintro e w' ⟨A, c, rfl, h1, _, _, h2⟩
  exact ⟨_, rfl, h.step h2 _ (fun _ => ⟨A, c, rfl, h1⟩) (fun h => by omega) (fun h => by omega)⟩
theorem KeS.tellAll (h : KeS wz B nb base recs p R w) (hx : LogI wz G x d sz half used tl base recs dn) (hrl : recs.length ≤ 1000000) (hbl : ∀ b ∈ recs, b.length ≤ 200000) (hp : p = 1 ∨ p = 4) :
    Calls Tryd.prog 14 #[.pointer (some ⟨x, 0, none⟩)] w fun e w' => ∃ v, e = .returned v ∧ KeS wz B nb base recs (p + 1) (setR R p v) w' := by
  refine (all_any (hx.below h.1) hrl hbl).mono ?_
  rintro e w' ⟨A, c, rfl, h1, _, _, h2⟩
  exact ⟨_, rfl, h.step h2 _ (fun h => by omega) (fun _ => ⟨A, c, rfl, h1⟩) (fun h => by omega)⟩
theorem KeS.tellRows (h : KeS wz B nb base recs p R w) (hrl : recs.length ≤ 1000000) (Aw : Option Addr) (nw cw : Nat) (hnw : nw = (recs.map bstr).length) (hs : Strs wz wz.heap.size Aw (recs.map bstr)) (q : Nat) (hq : q + 1 = p) (hp : q = 1 ∨ q = 4) :
    Calls Tryd.prog 13 #[R q, .slice Aw nw cw] w fun e w' => ∃ v, e = .returned v ∧ KeS wz B nb base recs (p + 1) (setR R p v) w' := by
  obtain ⟨A, c, e1, e2⟩ := h.2.2.1 q hp (by omega)
  rw [e1]
  refine (rows_any w A recs.length c recs Aw nw cw (recs.map bstr) rfl hnw hrl (by rw [hnw, List.length_map]; exact hrl) e2 ((hs.below h.1 (Nat.le_refl _)).up h.1.size) true (by simp)).mono ?_
  rintro e w' ⟨rfl, hb⟩
  exact ⟨_, rfl, h.step hb _ (fun h => by omega) (fun h => by omega) (fun _ => rfl)⟩
end
theorem ke28_run {Q : Exit → Act → World → Prop} {a0 : Act} {wp : World} (m l nb cb nw cw : Nat) (Ab Aw : Option Addr) (base : List UInt8) (recs : List (List UInt8)) (hnb : nb = base.length) (hbig : nb ≤ 140737488355328) (hrl : recs.length ≤ 1000000) (hbl : ∀ b ∈ recs, b.length ≤ 200000) {d sz half used : Nat} {Gm Gl : List Nat} {tl : List UInt8} {dn : Bool}
    (hm : LogI wp Gm m d sz half used tl base recs dn) (hl : LogI wp Gl l d sz half used tl base recs dn) (hsb : Sees wp wp.heap.size Ab base) (hnw : nw = (recs.map bstr).length) (hsw : Strs wp wp.heap.size Aw (recs.map bstr))
    (hsz : 136 < a0.tmps.size) (in1 : a0.eval (.tmp 1) = .slice Ab nb cb) (in9 : a0.eval (.tmp 9) = .pointer (some ⟨l, 0, none⟩)) (in12 : a0.eval (.tmp 12) = .slice Aw nw cw) (in14 : a0.eval (.tmp 14) = .pointer (some ⟨m, 0, none⟩)) (in15 : a0.eval (.tmp 15) = .int .i64 0)
    (fin : ∀ a w, Fr [103, 104, 105, 106, 107, 108, 109, 110, 111, 112, 113, 114, 115, 116, 117, 118, 119, 120, 121, 122, 123, 124, 125, 126, 127, 128, 129, 130, 131, 132, 133, 134, 135, 136, 6] a0 a → a.eval (.tmp 6) = .bool true → Below wp.heap.size wp w → Q .normal a w) :
    (Code.region 28 opsKe28 true).wp Tryd.prog Q a0 wp := by
  refine ke28 m l nb cb nw cw Ab Aw (bstr base) (KeS wp 0 nb base recs) hsz in1 in9 in12 in14 in15 ?_ ?_ ?_ ?_ ?_ ?_ ?_ ?_ ?_ ?_ ?_
  · intro p R w hS
    exact run_sees_string (P := Tryd.prog) w 31 9 5 Tryd.underlying31 Tryd.underlying5 Tryd.underlying9 (hsb.below hS.1 (Nat.le_refl _)) nb cb hnb
  · intro p R w hS k hk hkp
    obtain ⟨A, c, q1, q2⟩ := hS.2.1 k hk hkp
    exact ⟨A, c, q1, run_sees_string (P := Tryd.prog) w 31 9 5 Tryd.underlying31 Tryd.underlying5 Tryd.underlying9 q2 nb c hnb⟩
  · intro p R w hS k hk hkp; exact hS.2.2.2 k hk hkp
  · intro R w hS; exact hS.tellBase hnb hbig hm (.inl rfl)
  · intro R w hS; exact hS.tellAll hm hrl hbl (.inl rfl)
  · intro R w hS; exact hS.tellRows hrl Aw nw cw hnw hsw 1 rfl (.inl rfl)
  · intro R w hS; exact hS.tellBase hnb hbig hl (.inr rfl)
  · intro R w hS; exact hS.tellAll hl hrl hbl (.inr rfl)
  · intro R w hS; exact hS.tellRows hrl Aw nw cw hnw hsw 4 rfl (.inr rfl)
  · exact ⟨(Below.refl _ _).drew, fun k _ hk => absurd hk (by omega), fun k _ hk => absurd hk (by omega), fun k _ hk => absurd hk (by omega)⟩
  · intro a w hfr h hS; exact fin a w hfr h hS.1

/-- A row of the law's own strings, one more. -/
theorem strs_append (w : World) (A : Option Addr) (n c : Nat) (ss : List ByteArray) (hn : n = ss.length) (h : w.ownsRow 0 9 1 (.slice A n c) n (ss.map Value.string)) (s : ByteArray) (hbig : n ≤ 300000) (ty : TypeId) :
    ∃ A' c' w', (Builtin.append_ #[37, 37] ty #[.slice A n c, .slice (some ⟨w.heap.size, 0, none⟩) 1 1]).run Tryd.prog (w.alloc (.cells #[.string s] 9)) = .ok (.slice A' (n + 1) c') w' ∧ w'.ownsRow 0 9 1 (.slice A' (n + 1) c') (n + 1) ((ss ++ [s]).map Value.string) ∧ Only (blk (.slice A n c)) w w' ∧ Grows (blk (.slice A n c)) (blk (.slice A' (n + 1) c')) w := by
  obtain ⟨i0, hi, hz0, hz1, hz2⟩ := info_parts (show (Tryd.prog.info? 9).map (fun i => (i.zero, i.size, i.bytes)) = some (some (.string ByteArray.empty), 1, 16) by kernel_rfl)
  have hal : Below w.heap.size w (w.alloc (.cells #[.string s] 9)) := (Below.refl _ _).alloc (Nat.le_refl _) _
  obtain ⟨v', w', hr, h2, h3, h4⟩ := run_append_here (P := Tryd.prog) (w.alloc (.cells #[.string s] 9)) 37 ty 9 i0 _ 1 16 Tryd.underlying37 hi hz0 hz1 hz2 rfl (by decide)
    (.slice A n c) n (ss.map Value.string) (h.alloc _) ⟨w.heap.size, 0, none⟩ 1 1 [.string s] rfl (fun j x hx => by
      match j, hx with
      | 0, hx => simp at hx; subst hx; rw [add_to, World.cell?_alloc_at _ _ _ _ rfl]; rfl
      | j + 1, hx => simp at hx) (by intro x hx; simp at hx; subst hx; rfl) (by unfold maxLen; omega) (by omega)
  obtain ⟨A', c', rfl, _, _⟩ := own_shape h2
  refine ⟨A', c', w', hr, by rw [List.map_append]; exact h2, (Only.of_below hal).trans (Only.of_grown h3 (fun k hk => mem_blk.2 hk)), fun k hk => ?_⟩
  rcases h4 k (mem_blk.1 hk) with h5 | h5
  · exact .inl (mem_blk.2 h5)
  · refine .inr ?_
    simp at h5; omega

/-- A row of strings of the law's own, beside device and log. -/
def SV (w : World) (B : Nat) (F G : List Nat) (v : Value) (ss : List ByteArray) : Prop := w.ownsRow 0 9 1 v ss.length (ss.map Value.string) ∧ ∀ k, k ∈ blk v → k ∉ F ∧ k ∉ G ∧ B ≤ k
section
variable {w w' : World} {B : Nat} {F G F' G' : List Nat} {v : Value} {ss : List ByteArray}
theorem SV.turns (h : SV w B F G v ss) (ht : Turns F G F' G' w w') : SV w' B F' G' v ss := by
  refine ⟨own_only h.1 ht.only (fun k hk hm => (List.mem_append.1 hm).elim (h.2 k (mem_blk.2 hk)).1 (h.2 k (mem_blk.2 hk)).2.1), fun k hk => ?_⟩
  have hlt := (World.ownsRow.lt h.1 k (mem_blk.1 hk)).2
  exact ⟨fun hm => (ht.gF k hm).elim (h.2 k hk).1 (fun h' => by omega), fun hm => (ht.gG k hm).elim (h.2 k hk).2.1 (fun h' => by omega), (h.2 k hk).2.2⟩
theorem SV.shape (h : SV w B F G v ss) : ∃ A c, v = .slice A ss.length c ∧ ss.length ≤ c ∧ c ≤ maxLen := own_shape h.1
theorem SV.num {A : Option Addr} {n c : Nat} (h : SV w B F G (.slice A n c) ss) : n = ss.length ∧ n ≤ c ∧ c ≤ maxLen := by
  obtain ⟨A', c', e, h1, h2⟩ := h.shape
  injection e with _ e2 e3
  subst e2; subst e3
  exact ⟨rfl, h1, h2⟩
theorem SV.strs {A : Option Addr} {n c : Nat} (h : SV w B F G (.slice A n c) ss) : Strs w w.heap.size A ss := fun hne => by
  have hpos := List.length_pos_iff.2 hne
  obtain ⟨g, cap, e, _, hg, _⟩ := own_form h.1 hpos
  injection e with e1 _ _
  subst e1
  refine ⟨g, 0, rfl, hg, fun j hj => ?_⟩
  have := h.1.cells (g := g) rfl j (.string ss[j]) (by rw [List.getElem?_map, List.getElem?_eq_getElem hj]; rfl)
  rw [add_to] at this
  exact this
/-- The law writes to a row of its own. -/
theorem Law.aside {w0 : World} {d l sz : Nat} {S : Disk} {L : Lg} {dn : Bool} (h : Law B w0 w F G d l S sz L dn) {T : List Nat} (ho : Only T w w') (hT : ∀ k, k ∈ T → k ∉ F ∧ k ∉ G ∧ B ≤ k) : Law B w0 w' F G d l S sz L dn := by
  obtain ⟨⟨hd, hok⟩, h2, h3, h4, h5, h6⟩ := h
  exact ⟨⟨⟨hd.dev.only ho (fun b hb hm => (hT b hm).1 hb), hd.log.only ho (fun b hb hm => (hT b hm).2.1 hb), hd.ap, hd.tab.only ho (fun hm => by have := (hT _ hm).2.2; omega), hd.tF, hd.tG⟩, hok⟩, h2, h3, h4.trans (ho.below h5 (fun k hk => (hT k hk).2.2)), Nat.le_trans h5 ho.size, h6⟩
end
theorem take_snoc {α : Type} (l : List α) (j : Nat) (h : j < l.length) : l.take (j + 1) = l.take j ++ [l[j]] := List.take_succ_eq_append_getElem h

set_option maxHeartbeats 10000000 in
set_option maxRecDepth 100000 in
theorem walKeeps_walk (A0 : Option Addr) (n0 c0 : Nat) (l : List (List UInt8)) (hn0 : n0 = l.length) (hnc0 : n0 ≤ c0) (hcm0 : c0 ≤ maxLen) (A1 : Option Addr) (n1 c1 : Nat) (base : List UInt8) (hn1 : n1 = base.length) (hnc1 : n1 ≤ c1) (hcm1 : c1 ≤ maxLen)
    (A2 : Option Addr) (n2 c2 : Nat) (l2 : List (List UInt8)) (hn2 : n2 = l2.length) (hnc2 : n2 ≤ c2) (hcm2 : c2 ≤ maxLen) (w : World) (hg0 : Grid w w.heap.size A0 l) (hs1 : Sees w w.heap.size A1 base) (hg2 : Grid w w.heap.size A2 l2) (ht0 : Lib.TabIs Tryd.prog w "franking/crc.halfByte" .u32 crcTab) :
    Calls Tryd.prog 7 #[.slice A0 n0 c0, .slice A1 n1 c1, .slice A2 n2 c2] w fun e w' => e = .returned (.bool true) ∧ Below w.heap.size w w' := by
  subst hn0 hn1 hn2
  have ht := tabAt ht0
  have HT := Lib.hid ht
  have HAW := Lib.hid (walAwake_any w ht)
  have HG0 := Lib.hid hg0
  have HG2 := Lib.hid hg2
  have HS1 := Lib.hid (⟨hs1, hcm1⟩ : _ ∧ _)
  unfold maxLen at hcm0 hcm1 hcm2
  clear ht ht0 hg0 hs1 hg2
  by_cases a1 : (10 : Int) < l.length
  · go_enter Tryd.func7, Tryd.ntmps7
    go_wp2_with fail
    refine HAW.out.mono ?_
    rintro e w1 ⟨rfl, hb1⟩
    have HB := Lib.hid hb1
    clear hb1
    go_wp2
    go_ret
    exact ⟨rfl, HB.out⟩
  by_cases a2 : (10 : Int) < l2.length
  · go_enter Tryd.func7, Tryd.ntmps7
    go_wp2_with fail
    refine HAW.out.mono ?_
    rintro e w1 ⟨rfl, hb1⟩
    have HB := Lib.hid hb1
    clear hb1
    go_wp2
    go_ret
    exact ⟨rfl, HB.out⟩
  by_cases a3 : (1000 : Int) < base.length
  · go_enter Tryd.func7, Tryd.ntmps7
    go_wp2_with fail
    refine HAW.out.mono ?_
    rintro e w1 ⟨rfl, hb1⟩
    have HB := Lib.hid hb1
    clear hb1
    go_wp2
    go_ret
    exact ⟨rfl, HB.out⟩
  have b1 : (l.length : Int) ≤ 10 := by omega
  have b2 : (l2.length : Int) ≤ 10 := by omega
  have b3 : (base.length : Int) ≤ 1000 := by omega
  obtain ⟨B, HB0⟩ : ∃ B : Nat, Hid (B = w.heap.size) := ⟨_, Lib.hid rfl⟩
  go_enter Tryd.func7, Tryd.ntmps7
  go_wp2_with fail
  refine HAW.out.mono ?_
  rintro e w1 ⟨rfl, hb1⟩
  have hnw := law_new (B := B) (w0 := w) (w := w1) 400 (by omega) (by omega) (by rw [HB0.out]; exact hb1) (by rw [HB0.out]; exact hb1.size) (HT.out.below hb1 (Nat.le_refl _)) (by rw [HB0.out]; exact HT.out.lt)
  rw [show ((400 : Nat) : Int) = 400 from rfl] at hnw
  have HNW := Lib.hid hnw
  clear HAW hb1 hnw
  go_wp2_with fail
  refine HNW.out.mono ?_
  rintro e w2 ⟨d, F, rfl, hd2, _⟩
  have HOP := Lib.hid (law_open0 (sz := 199) hd2 (by omega) rfl)
  clear HNW hd2
  go_wp2_with fail
  refine HOP.out.mono ?_
  rintro e w3 ⟨x, G, rfl, hl3, _, _⟩
  have HI : Hid (∃ F G S L, Law B w w3 F G d x S 199 L false ∧ Sane S 199 L ∧ S.dur.length = 400 ∧ L.used ≤ 16 + 516 * 0) := Lib.hid ⟨F, G, _, _, hl3, fresh_sane 400 199 (by omega), List.length_replicate, by rw [Lg.zero_used]; omega⟩
  clear HOP hl3
  go_wp2
  go_loopw [11] (fun i wr => ∃ j : Nat, j ≤ l.length ∧ i = .int .i64 j ∧ ∃ F G S L, Law B w wr F G d x S 199 L false ∧ Sane S 199 L ∧ S.dur.length = 400 ∧ L.used ≤ 16 + 516 * j) (fun i _ => l.length - (intOf i).toNat)
  case atStart => exact ⟨0, Nat.zero_le _, rfl, HI.out⟩
  case round =>
    clear HI
    obtain ⟨j, hj, rfl, F1, G1, S1, L1, hl1, hs1, hm1, hu1⟩ := hrel
    have hbw : Below w.heap.size w wr := by rw [← HB0.out]; exact hl1.bel
    by_cases hlt : j < l.length
    · have hjI : (j : Int) < l.length := by omega
      obtain ⟨g, o, rfl, hg, hat⟩ := HG0.out (by intro e; rw [e] at hlt; simp at hlt)
      obtain ⟨A', c', y, y1, y2, ys⟩ := hat j hlt
      obtain ⟨r, Hr⟩ : ∃ r, Hid (r = l[j]) := ⟨_, Lib.hid rfl⟩
      rw [← Hr.out] at y y1 ys
      have y' : wr.cell? ⟨g, o + j, none⟩ = some (.slice A' r.length c') := (hbw.cell (p := ⟨g, o + j, none⟩) hg).trans y
      have hrI : (r.length : Int) ≤ 9223372036854775807 := by unfold maxLen at y2; omega
      have HBW := Lib.hid hbw
      have HY := Lib.hid (⟨y1, y2, ys⟩ : _ ∧ _ ∧ _)
      have HL1 := Lib.hid (⟨hl1, hs1, hm1, hu1⟩ : _ ∧ _ ∧ _ ∧ _)
      clear hat y y1 y2 ys hbw hl1 hs1 hm1 hu1
      by_cases q1 : (500 : Int) < r.length
      · go_wp2
        go_ret
        exact ⟨rfl, HBW.out⟩
      have HADD := Lib.hid (law_addArg HL1.out.1 HL1.out.2.1 A' r.length c' r rfl HY.out.1 HY.out.2.1 (by rw [HB0.out]; exact HY.out.2.2.below HBW.out (Nat.le_refl _)) (by omega) (by have := HL1.out.2.2.2; omega))
      have HRU := Lib.hid (⟨HL1.out.2.2.1, HL1.out.2.2.2⟩ : _ ∧ _)
      clear HL1
      go_wp2_with fail
      refine HADD.out.mono ?_
      rintro e w4 ⟨rfl, F4, G4, S4, hl4, hs4, _, hd4⟩
      have HK := Lib.hid (show ∃ F G S L, Law B w w4 F G d x S 199 L false ∧ Sane S 199 L ∧ S.dur.length = 400 ∧ L.used ≤ 16 + 516 * (j + 1) from ⟨F4, G4, S4, _, hl4, hs4, hd4.trans HRU.out.1, by rw [Lg.add_used]; have := HRU.out.2; omega⟩)
      clear hl4 hs4 hd4 HADD y'
      go_wp2
      go_roundw
      case rel => exact ⟨j + 1, by omega, by go_num, HK.out⟩
      case measure => simp [intOf]; omega
    · obtain rfl : j = l.length := by omega
      have HKP := Lib.hid (law_keepArg hl1 hs1 A1 base.length c1 base rfl hnc1 HS1.out.2 (by rw [HB0.out]; exact HS1.out.1.below hbw (Nat.le_refl _)) (by omega) (by omega))
      have HM1 := Lib.hid hm1
      clear hl1 hs1 hm1 hu1 hbw
      go_wp2_with fail
      refine HKP.out.mono ?_
      rintro e w4 ⟨rfl, F4, G4, S4, hl4, hs4, _, hd4⟩
      have hal := all_any hl4.both.1.log (by show 0 ≤ 1000000; omega) (recs_all _ hl4.both.2.1)
      have HAL := Lib.hid (show Calls Tryd.prog 14 #[.pointer (some ⟨x, 0, none⟩)] w4 (AllEnd [] w4) from hal)
      have HL4 := Lib.hid (⟨hl4, hs4, hd4.trans HM1.out⟩ : _ ∧ _ ∧ _)
      clear HKP hl4 hs4 hd4 hal HM1
      go_wp2_with fail
      refine HAL.out.mono ?_
      rintro e w5 ⟨A5, c5, rfl, _, _, _, hb5⟩
      have HI2 : Hid (∃ Aw nw cw, (Value.slice none 0 0) = .slice Aw nw cw ∧ ∃ F G S L, Law B w w5 F G d x S 199 L false ∧ Sane S 199 L ∧ S.dur.length = 400 ∧ L.used ≤ 1016 + 516 * 0 ∧ L.base = base ∧ L.recs = l2.take 0 ∧ SV w5 B F G (.slice Aw nw cw) (L.recs.map bstr)) := Lib.hid
        ⟨none, 0, 0, rfl, F4, G4, S4, _, HL4.out.1.below hb5, HL4.out.2.1, HL4.out.2.2, by rw [Lg.keep_used]; omega, rfl, rfl, World.ownsRow_nil _ _ _ _, fun k hk => by simp [blk, Value.ownBlock] at hk⟩
      clear HAL hb5 HL4
      go_wp2
      go_loopw [12, 13] (fun wv i wr => ∃ j : Nat, j ≤ l2.length ∧ i = .int .i64 j ∧ ∃ Aw nw cw, wv = .slice Aw nw cw ∧ ∃ F G S L, Law B w wr F G d x S 199 L false ∧ Sane S 199 L ∧ S.dur.length = 400 ∧ L.used ≤ 1016 + 516 * j ∧ L.base = base ∧ L.recs = l2.take j ∧ SV wr B F G (.slice Aw nw cw) (L.recs.map bstr)) (fun _ i _ => l2.length - (intOf i).toNat)
      case atStart => exact ⟨0, Nat.zero_le _, rfl, HI2.out⟩
      case round =>
        clear HI2
        obtain ⟨j, hj, rfl, Aw, nw, cw, rfl, F1, G1, S1, L1, hl1, hs1, hm1, hu1, hba, hre, hsv⟩ := hrel
        have hbw : Below w.heap.size w wr := by rw [← HB0.out]; exact hl1.bel
        obtain ⟨enw, _, _⟩ := hsv.num
        have hnwl : nw = L1.recs.length := by rw [enw, List.length_map]
        have hrlen : L1.recs.length = j := by rw [hre, List.length_take]; omega
        by_cases hlt : j < l2.length
        · have hjI : (j : Int) < l2.length := by omega
          obtain ⟨g, o, rfl, hg, hat⟩ := HG2.out (by intro e; rw [e] at hlt; simp at hlt)
          obtain ⟨A', c', y, y1, y2, ys⟩ := hat j hlt
          obtain ⟨r, Hr⟩ : ∃ r, Hid (r = l2[j]) := ⟨_, Lib.hid rfl⟩
          rw [← Hr.out] at y y1 ys
          have y' : wr.cell? ⟨g, o + j, none⟩ = some (.slice A' r.length c') := (hbw.cell (p := ⟨g, o + j, none⟩) hg).trans y
          have hrI : (r.length : Int) ≤ 9223372036854775807 := by unfold maxLen at y2; omega
          have HBW := Lib.hid hbw
          have HY := Lib.hid (⟨y1, y2, ys, y, hg⟩ : _ ∧ _ ∧ _ ∧ _ ∧ _)
          have HL1 := Lib.hid (⟨hl1, hs1, hm1, hu1⟩ : _ ∧ _ ∧ _ ∧ _)
          have HRE := Lib.hid (⟨hba, hre, hsv, hnwl, hrlen⟩ : _ ∧ _ ∧ _ ∧ _ ∧ _)
          clear hat y y1 y2 ys hbw hl1 hs1 hm1 hu1 hba hre hsv hnwl hrlen hg enw
          by_cases q1 : (500 : Int) < r.length
          · go_wp2
            go_ret
            exact ⟨rfl, HBW.out⟩
          have HADD := Lib.hid (law_addArg HL1.out.1 HL1.out.2.1 A' r.length c' r rfl HY.out.1 HY.out.2.1 (by rw [HB0.out]; exact HY.out.2.2.1.below HBW.out (Nat.le_refl _)) (by omega) (by have := HL1.out.2.2.2; omega))
          have HRU := Lib.hid (⟨HL1.out.2.2.1, HL1.out.2.2.2⟩ : _ ∧ _)
          clear HL1
          go_wp2_with fail
          refine HADD.out.mono ?_
          rintro e w6 ⟨rfl, F6, G6, S6, hl6, hs6, ht6, hd6⟩
          have hb6 : Below w.heap.size w w6 := by rw [← HB0.out]; exact hl6.bel
          have y6 : w6.cell? ⟨g, o + j, none⟩ = some (.slice A' r.length c') := (hb6.cell (p := ⟨g, o + j, none⟩) HY.out.2.2.2.2).trans HY.out.2.2.2.1
          have hcv := run_sees_string (P := Tryd.prog) w6 31 9 5 Tryd.underlying31 Tryd.underlying5 Tryd.underlying9 (HY.out.2.2.1.below hb6 (Nat.le_refl _)) r.length c' rfl
          obtain ⟨sb, Hsb⟩ : ∃ s, Hid (s = bstr r) := ⟨_, Lib.hid rfl⟩
          replace hcv : (convert 31 9 (.slice A' r.length c')).run Tryd.prog w6 = .ok (.string sb) w6 := by rw [Hsb.out]; exact hcv
          have hsv6 := HRE.out.2.2.1.turns ht6
          obtain ⟨Az, cz, w7, hap, hown7, ho7, hg7⟩ := strs_append w6 Aw nw cw (L1.recs.map bstr) (by rw [HRE.out.2.2.2.1, List.length_map]) (by have := hsv6.1; rwa [← (show nw = (L1.recs.map bstr).length by rw [HRE.out.2.2.2.1, List.length_map])] at this) sb (by have := HRE.out.2.2.2; omega) 37
          have HAP := Lib.hid hap
          have hl7 := hl6.aside ho7 hsv6.2
          have hsv7 : SV w7 B F6 G6 (.slice Az (nw + 1) cz) ((L1.add r).recs.map bstr) := by
            have e1 : (L1.add r).recs.map bstr = L1.recs.map bstr ++ [sb] := by rw [Hsb.out]; show (L1.recs ++ [r]).map bstr = _; simp
            have e2 : nw + 1 = (L1.recs.map bstr ++ [sb]).length := by rw [List.length_append, List.length_map, HRE.out.2.2.2.1]; rfl
            rw [e1]
            refine ⟨by rw [← e2]; exact hown7, fun k hk => ?_⟩
            rcases hg7 k hk with h' | h'
            · exact hsv6.2 k h'
            · exact ⟨fun hm => by have := hl6.both.1.dev.lt _ hm; omega, fun hm => by have := hl6.both.1.log.lt _ hm; omega, by have := hl6.size; omega⟩
          have e3 : (L1.add r).recs = l2.take (j + 1) := by
            rw [take_snoc l2 j hlt, ← HRE.out.2.1, ← Hr.out]; rfl
          have HK := Lib.hid (show ∃ Aq nq cq, (Value.slice Az (nw + 1) cz) = .slice Aq nq cq ∧ ∃ F G S L, Law B w w7 F G d x S 199 L false ∧ Sane S 199 L ∧ S.dur.length = 400 ∧ L.used ≤ 1016 + 516 * (j + 1) ∧ L.base = base ∧ L.recs = l2.take (j + 1) ∧ SV w7 B F G (.slice Aq nq cq) (L.recs.map bstr) from
            ⟨Az, nw + 1, cz, rfl, F6, G6, S6, L1.add r, hl7, hs6, hd6.trans HRU.out.1, by rw [Lg.add_used]; have := HRU.out.2; omega, HRE.out.1, e3, hsv7⟩)
          clear hl6 hs6 ht6 hd6 hb6 hsv6 hap hown7 ho7 hg7 hl7 hsv7 e3 HADD y'
          go_wp2_with (at_builtin; refine wpList_append_run rfl _ _ 37 rfl _ _ _ rfl rfl _ _ (by exact HAP.out) ?_)
          go_roundw
          case rel => exact ⟨j + 1, by omega, by go_num, HK.out⟩
          case measure => simp [intOf]; omega
        · obtain rfl : j = l2.length := by omega
          have HOP2 := Lib.hid (law_open hl1.toD hs1.on hs1.safe hs1.holds (by omega) (by rw [hm1]) hl1.both.2.1)
          have HL1 := Lib.hid (⟨hl1, hsv, hba, hbw⟩ : _ ∧ _ ∧ _ ∧ _)
          have hrl1 : L1.recs.length ≤ 1000000 := by omega
          have hnw2 : nw = (L1.recs.map bstr).length := enw
          have HNW2 := Lib.hid hnw2
          clear hl1 hsv hs1 hm1 hu1 hba hre hbw enw hnwl hrlen hnw2
          go_wp2_with fail
          refine HOP2.out.mono ?_
          rintro e w6 ⟨m, Gm, rfl, hlm, hbm, hGm⟩
          have hlx := HL1.out.1.below hbm
          have hbw6 := HL1.out.2.2.2.trans (hbm.mono HL1.out.2.2.2.size)
          have HBL := Lib.hid (⟨hlm.bel, hlm.size⟩ : _ ∧ _)
          have hlogm : LogI w6 Gm m d 199 L1.half L1.used (tailOf L1.stream) base L1.recs false := by have := hlm.both.1.log; rwa [HL1.out.2.2.1] at this
          have hlogx : LogI w6 G1 x d 199 L1.half L1.used (tailOf L1.stream) base L1.recs false := by have := hlx.both.1.log; rwa [HL1.out.2.2.1] at this
          have HARG := Lib.hid (⟨hlogm, hlogx, recs_all _ hlm.both.2.1, (HS1.out.1.below hbw6 (Nat.le_refl _)).mono hbw6.size, ((HL1.out.2.1.strs).below hbm (Nat.le_refl _)).up hbm.size⟩ : _ ∧ _ ∧ _ ∧ _ ∧ _)
          clear HOP2 hlm hbm hGm hlx hbw6 hlogm hlogx HL1
          go_wp2
          refine ke28_run m x base.length c1 nw cw A1 Aw base L1.recs rfl (by omega) hrl1 HARG.out.2.2.1 HARG.out.1 HARG.out.2.1 HARG.out.2.2.2.1 HNW2.out HARG.out.2.2.2.2 (by show 136 < 137; omega) rfl rfl rfl rfl rfl ?_
          intro af w7 hfr h6 hb7
          have ha := hfr.eq (by intro t ht; simp at ht; show t < 137; omega)
          simp only [List.foldl_cons, List.foldl_nil] at ha
          clear hfr
          rw [h6] at ha
          clear h6
          generalize af.eval (.tmp 103) = u103 at ha
          generalize af.eval (.tmp 104) = u104 at ha
          generalize af.eval (.tmp 105) = u105 at ha
          generalize af.eval (.tmp 106) = u106 at ha
          generalize af.eval (.tmp 107) = u107 at ha
          generalize af.eval (.tmp 108) = u108 at ha
          generalize af.eval (.tmp 109) = u109 at ha
          generalize af.eval (.tmp 110) = u110 at ha
          generalize af.eval (.tmp 111) = u111 at ha
          generalize af.eval (.tmp 112) = u112 at ha
          generalize af.eval (.tmp 113) = u113 at ha
          generalize af.eval (.tmp 114) = u114 at ha
          generalize af.eval (.tmp 115) = u115 at ha
          generalize af.eval (.tmp 116) = u116 at ha
          generalize af.eval (.tmp 117) = u117 at ha
          generalize af.eval (.tmp 118) = u118 at ha
          generalize af.eval (.tmp 119) = u119 at ha
          generalize af.eval (.tmp 120) = u120 at ha
          generalize af.eval (.tmp 121) = u121 at ha
          generalize af.eval (.tmp 122) = u122 at ha
          generalize af.eval (.tmp 123) = u123 at ha
          generalize af.eval (.tmp 124) = u124 at ha
          generalize af.eval (.tmp 125) = u125 at ha
          generalize af.eval (.tmp 126) = u126 at ha
          generalize af.eval (.tmp 127) = u127 at ha
          generalize af.eval (.tmp 128) = u128 at ha
          generalize af.eval (.tmp 129) = u129 at ha
          generalize af.eval (.tmp 130) = u130 at ha
          generalize af.eval (.tmp 131) = u131 at ha
          generalize af.eval (.tmp 132) = u132 at ha
          generalize af.eval (.tmp 133) = u133 at ha
          generalize af.eval (.tmp 134) = u134 at ha
          generalize af.eval (.tmp 135) = u135 at ha
          generalize af.eval (.tmp 136) = u136 at ha
          subst ha
          simp only [Act.put, List.setIfInBounds_toArray, List.set_cons_zero, List.set_cons_succ]
          have HB7 := Lib.hid (HBL.out.1.trans (hb7.mono HBL.out.2))
          clear hb7 HBL HARG
          go_wp2
          go_ret
          exact ⟨rfl, by rw [← HB0.out]; exact HB7.out⟩
end Go.Proofs.YtambddncncaehaaDoor
