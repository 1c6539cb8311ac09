/- The walks of the log's load and Open. -/
import Derived.Test.YtambddncncaehaaDoorWalRead
import Derived.Test.YtambddncncaehaaDoorWalUse
import Derived.Test.YtambddncncaehaaDoorRecScan
namespace Go.Proofs.YtambddncncaehaaDoor
open Go.RowKit Dk Wl
set_option linter.unusedVariables false
set_option maxRecDepth 100000

/-- found[1:]. -/
theorem run_tail_rec (g n c : Nat) (h1 : 1 ≤ n) (hc : n ≤ c) : ∃ A', (∀ W, (Instr.slice 79 (.slice (some ⟨g, 0, none⟩) n c) (some (.int .i64 1)) none none).run Tryd.prog W = .ok (.slice A' (n - 1) (c - 1)) W) ∧ (1 < n → A' = some ⟨g, 2, none⟩) := by
  refine ⟨if c = 1 then some ⟨g, 0, none⟩ else (some ⟨g, 0, none⟩ : Option Addr).map (·.add (1 * 2)), fun W => ?_, fun hn => ?_⟩
  · have ht := Tryd.underlying79
    have ht' : Tryd.prog.underlying 79 = some (.slice (Tryd.prog.elem 79)) := by simp [Program.elem, ht]
    have he : Tryd.prog.elem 79 = 61 := by simp [Program.elem, ht]
    have hz : ∀ w, (Go.sizeOf 61).run Tryd.prog w = .ok 2 w := fun w => by exact Tryd.sizeOf61 w
    rw [run_slice_l W 79 (some ⟨g, 0, none⟩) n c ht' .i64 1 (by omega) (by omega), he, hz]
    simp [Result.andThen, sliced]
  · rw [if_neg (by omega), Option.map_some, add_to]
theorem sees_ne_log {w : World} {l d sz half used : Nat} {vt : Value} {tl : List UInt8} {vb : Value} {base : List UInt8} {vr : Value} {vs : List Value} {recs : List (List UInt8)} {dn : Bool} (h : LogC w l d sz half used vt tl vb base vr vs recs dn) (ht : ∃ A n c, vt = .slice A n c) (hb : ∃ A n c, vb = .slice A n c) (hr : ∃ A n c, vr = .slice A n c) {B : Nat} {A : Option Addr} {s : List UInt8} (hs : Sees w B A s) (hne : s ≠ []) : ∀ a, A = some a → a.block ≠ l := fun a ha hbl => by
  obtain ⟨g, o, e, _, hc⟩ := hs hne
  rw [ha] at e
  injection e with e
  subst e
  have hgl : g = l := hbl
  subst hgl
  have h0 := hc 0 (List.length_pos_iff.2 hne)
  have hown := h.own
  obtain ⟨_, _, _, rfl⟩ := ht
  obtain ⟨_, _, _, rfl⟩ := hb
  obtain ⟨_, _, _, rfl⟩ := hr
  simp only [World.cell?, hown, Nat.add_zero] at h0
  match o, h0 with
  | 0, h0 => simp at h0
  | 1, h0 => simp at h0
  | 2, h0 => simp at h0
  | 3, h0 => simp at h0
  | 4, h0 => simp at h0
  | 5, h0 => simp at h0
  | 6, h0 => simp at h0
  | 7, h0 => simp at h0
  | o + 8, h0 => simp at h0
section
variable {w w1 : World} {l d sz half used : Nat} {vt vb : Value} {tl base : List UInt8} {vs : List Value} {recs : List (List UInt8)} {dn : Bool}
theorem LogC.snoc {Ar : Option Addr} {c : Nat} (h : LogC w l d sz half used vt tl vb base (.slice Ar recs.length c) vs recs dn) {u : Value} {b : List UInt8} {A'' : Option Addr} {c'' : Nat} (hE : RowEnd1 w Ar recs.length c vs u A'' c'' w1) (hu : BRow w1 u b) :
    LogC (w1.setCell ⟨l, 6, none⟩ (.slice A'' (recs.length + 1) c'')) l d sz half used vt tl vb base (.slice A'' (recs.length + 1) c'') (vs ++ [u]) (recs ++ [b]) dn ∧ Only (l :: blk (.slice Ar recs.length c)) w (w1.setCell ⟨l, 6, none⟩ (.slice A'' (recs.length + 1) c'')) := by
  obtain ⟨r1, r2, r3⟩ := hE
  obtain ⟨a1, a2, a3, a4⟩ := h.apart
  have hlr : l ∉ blk (.slice Ar recs.length c) := fun hm => absurd (a3 l hm) (by simp)
  have ap : ∀ v, (∃ l', BRow w v l') → ∀ k, k ∈ blk v → k ∉ blk (.slice Ar recs.length c) := fun v ⟨l', hv⟩ k hk hm => by
    rcases own_own_ne hv h.row (by decide) with e | e
    · have := mem_blk.1 hk; rw [e] at this; cases this
    · exact e ((mem_blk.1 hk).trans (mem_blk.1 hm).symm)
  have own1 := (r2.block l h.llt hlr).trans h.own
  have ht1 : BRow w1 vt tl := h.tail.only r2 (ap vt ⟨_, h.tail⟩)
  have hb1 : BRow w1 vb base := h.base.only r2 (ap vb ⟨_, h.base⟩)
  have hp1 : Parts w1 0 5 vs recs := h.parts.only r2 (fun v hv k hk => by
    obtain ⟨i, hi, e⟩ := List.mem_iff_getElem.1 hv
    have hi' : i < recs.length := by rw [← h.parts.1]; exact hi
    exact ap v ⟨_, h.parts.2 i v recs[i] (by rw [List.getElem?_eq_getElem hi, e]) (List.getElem?_eq_getElem hi')⟩ k (mem_blk.2 hk))
  have hp2 : Parts w1 0 5 (vs ++ [u]) (recs ++ [b]) := hp1.snoc hu
  have ho := only_setCell w1 ⟨l, 6, none⟩ (.slice A'' (recs.length + 1) c'')
  have nl : ∀ v l', BRow w1 v l' → Apart (blk v) [l] := fun v l' hv k hk => by simpa using own_ne hv own1 (by decide) k (mem_blk.1 hk)
  have hr1 : w1.ownsRow 0 31 1 (.slice A'' (recs.length + 1) c'') (recs ++ [b]).length (vs ++ [u]) := by rw [List.length_append]; exact r1
  refine ⟨⟨heap_setCell_same w1 l 6 _ _ _ own1, ht1.only ho (nl _ _ ht1), hb1.only ho (nl _ _ hb1), own_only hr1 ho (fun k hk => by simpa using own_ne hr1 own1 (by decide) k hk), hp2.only ho (fun v hv k hk => by
      obtain ⟨i, hi, e⟩ := List.mem_iff_getElem.1 hv
      have hi' : i < (recs ++ [b]).length := by rw [← hp2.1]; exact hi
      exact nl v _ (hp2.2 i v (recs ++ [b])[i] (by rw [List.getElem?_eq_getElem hi, e]) (List.getElem?_eq_getElem hi')) k (mem_blk.2 hk))⟩, (r2.more (fun x hx => List.mem_cons_of_mem _ hx)).trans (ho.more (fun x hx => by rw [List.mem_singleton] at hx; subst hx; exact List.mem_cons_self ..))⟩
/-- A log's memory, listed. -/
theorem LogC.inner {vr : Value} (h : LogC w l d sz half used vt tl vb base vr vs recs dn) (w0 : World) (ht : ∀ k, k ∈ blk vt → w0.heap.size ≤ k) (hb : ∀ k, k ∈ blk vb → w0.heap.size ≤ k) (hr : ∀ k, k ∈ blk vr → w0.heap.size ≤ k) (hv : ∀ v, v ∈ vs → ∀ k, k ∈ blk v → w0.heap.size ≤ k) :
    ∃ G, LogI w G l d sz half used tl base recs dn ∧ ∀ b, b ∈ G → b = l ∨ w0.heap.size ≤ b := by
  refine ⟨l :: (blk vt ++ (blk vb ++ (blk vr ++ (vs.map blk).flatten))), ⟨vt, vb, vr, vs, h, List.mem_cons_self .., fun k hk => List.mem_cons_of_mem _ (List.mem_append_left _ hk), fun k hk => List.mem_cons_of_mem _ (List.mem_append_right _ (List.mem_append_left _ hk)),
    fun k hk => List.mem_cons_of_mem _ (List.mem_append_right _ (List.mem_append_right _ (List.mem_append_left _ hk))), fun v hv k hk => List.mem_cons_of_mem _ (List.mem_append_right _ (List.mem_append_right _ (List.mem_append_right _ (List.mem_flatten.2 ⟨blk v, List.mem_map.2 ⟨v, hv, rfl⟩, hk⟩)))), fun b hb => ?_⟩, fun b hb' => ?_⟩
  · rcases List.mem_cons.1 hb with rfl | hb
    · exact h.llt
    · rcases List.mem_append.1 hb with hb | hb
      · exact h.tail.lt b hb
      · rcases List.mem_append.1 hb with hb | hb
        · exact h.base.lt b hb
        · rcases List.mem_append.1 hb with hb | hb
          · exact (World.ownsRow.lt h.row b (mem_blk.1 hb)).2
          · obtain ⟨x, hx, hbx⟩ := List.mem_flatten.1 hb
            obtain ⟨v, hv, rfl⟩ := List.mem_map.1 hx
            obtain ⟨i, hi, e⟩ := List.mem_iff_getElem.1 hv
            have hi' : i < recs.length := by rw [← h.parts.1]; exact hi
            exact (World.ownsRow.lt (h.parts.2 i v recs[i] (by rw [List.getElem?_eq_getElem hi, e]) (List.getElem?_eq_getElem hi')) b (mem_blk.1 hbx)).2
  · rcases List.mem_cons.1 hb' with rfl | hb'
    · exact .inl rfl
    · refine .inr ?_
      rcases List.mem_append.1 hb' with hb' | hb'
      · exact ht b hb'
      · rcases List.mem_append.1 hb' with hb' | hb'
        · exact hb b hb'
        · rcases List.mem_append.1 hb' with hb' | hb'
          · exact hr b hb'
          · obtain ⟨x, hx, hbx⟩ := List.mem_flatten.1 hb'
            obtain ⟨v, hv', rfl⟩ := List.mem_map.1 hx
            exact hv v hv' b hbx
end

/-- A row of records, opened. -/
theorem recs_open {w : World} {B : Nat} {A : Option Addr} {n c : Nat} {rs : List (Nat × List UInt8)} (h : Recs w B 61 (.slice A n c) rs) (hpos : 0 < rs.length) :
    ∃ g ss, A = some ⟨g, 0, none⟩ ∧ g < w.heap.size ∧ w.ownsRow 0 61 2 (.slice A n c) rs.length (recVals rs ss) ∧ ss.length = rs.length ∧ Parts w B 5 ss (rs.map (·.2)) ∧
      ∀ i (hi : i < rs.length), ∃ A' c', ss[i]? = some (.slice A' rs[i].2.length c') ∧ w.cell? ⟨g, i * 2, none⟩ = some (.int .i64 (rs[i].1 : Int)) ∧ w.cell? ⟨g, i * 2 + 1, none⟩ = some (.slice A' rs[i].2.length c') ∧ BRow w (.slice A' rs[i].2.length c') rs[i].2 ∧ ∀ k, k ∈ blk (.slice A' rs[i].2.length c') → B ≤ k := by
  obtain ⟨ss, h1, h2⟩ := h
  have hl : ss.length = rs.length := by have := h1.1; simpa using this
  obtain ⟨g, cap, e, _, hg, _, _⟩ := own_form h2 hpos
  injection e with e1 e2 e3
  subst e1
  refine ⟨g, ss, rfl, hg, own_base h2 (Nat.zero_le _), hl, h1, fun i hi => ?_⟩
  have c1 := h2.cells (g := g) rfl (i * 2) _ (recVals_fst hl i hi)
  have c2 := h2.cells (g := g) rfl (i * 2 + 1) _ (recVals_snd hl i hi)
  rw [add_to, Nat.zero_add] at c1 c2
  have hrow := h1.2 i (ss[i]'(by omega)) rs[i].2 (List.getElem?_eq_getElem _) (by simp [hi])
  obtain ⟨A', c', f1, f2, f3⟩ := own_shape hrow
  rw [f1] at c2 hrow
  refine ⟨A', c', by rw [List.getElem?_eq_getElem (by omega), f1], c1, c2, own_base hrow (Nat.zero_le _), fun k hk => (hrow.lt k (mem_blk.1 hk)).1⟩

/-- What load ends in. -/
def LoadEnd (l d sz : Nat) (L : Lg) (w : World) (e : Ending) (w' : World) : Prop :=
  e = .returned (.int .i64 0) ∧ ∃ G, LogI w' G l d sz L.half L.used (tailOf L.stream) L.base L.recs false ∧ Only [l] w w' ∧ ∀ b, b ∈ G → b = l ∨ w.heap.size ≤ b

set_option maxRecDepth 100000 in
theorem stored_stream {D : List ByteArray} (hss : ∀ x ∈ D, x.size = 512) {sz : Nat} {L : Lg} (hL : L.Ok sz) (hlen : 1 + 2 * sz ≤ D.length) (hp : Placed D (1 + L.half * sz) L.stream) : (flat D (1 + L.half * sz) ((L.used + 511) / 512)).take L.used = L.stream := by
  have hu : L.used = L.stream.length := rfl
  have h1 := hL.used
  have hh : L.half * sz ≤ sz := by have := Nat.mul_le_mul_right sz hL.half; omega
  exact flat_placed hss (by omega) hp (by rw [← hu]; omega)

set_option maxHeartbeats 6400000 in
set_option maxRecDepth 100000 in
theorem load_stored {F : List Nat} {d l sz : Nat} {S : Disk} {L : Lg} (w : World) (h : DevM w F d S) (ho : S.off = false) (hl : LogC w l d sz 0 0 (.slice none 0 0) [] (.slice none 0 0) [] (.slice none 0 0) [] [] false) (hL : L.Ok sz) (hlen : 1 + 2 * sz ≤ S.dur.length) (ht : TabAt w tabG)
    (hhd : Headed S.last L.used L.half) (hpl : Placed S.last (1 + L.half * sz) L.stream) :
    Calls Tryd.prog 24 #[.pointer (some ⟨l, 0, none⟩)] w (LoadEnd l d sz L w) := by
  have hok := h.ok
  have hss : ∀ x ∈ S.last, x.size = 512 := putAll_size hok.sec (fun w hw => (hok.wr w hw).2)
  have hll2 : S.last.length = S.dur.length := putAll_length _ _
  have hsz : sz ≤ 8192 := by
    obtain ⟨_, _, _, _, _, _, _, _, _, _, _, _, _, _, hdl⟩ := h
    omega
  have hup := L.used_pos
  have hul := hL.used
  have hhf := hL.half
  obtain ⟨g1, g2, g3, g4⟩ := head_get hL hsz hhd
  obtain ⟨c0, c1, c2, c3, c4, c5, c6, c7⟩ := hl.cells
  have hlw := hl.llt
  have h0l : 0 < S.dur.length := by omega
  obtain ⟨er0, rv0⟩ := readE_on ho 0 h0l
  replace er0 : S.readE 0 = 0 := er0
  replace rv0 : S.readV 0 = sec S.last 0 := rv0
  have hs0 : (sec S.last 0).length = 512 := sec_length hss (by omega)
  have hrd : Calls Tryd.prog 33 #[.pointer (some ⟨d, 0, none⟩), .int .i64 0] w fun e w' => ∃ A c, e = .returned (.tuple #[.slice A 512 c, .int .i64 0]) ∧ 512 ≤ c ∧ c ≤ maxLen ∧ Sees w' w'.heap.size A (sec S.last 0) ∧ Below w.heap.size w w' := by
    refine (read_any 0 w h).mono ?_
    rintro e w' ⟨A, n, c, rfl, hn, hnc, hcm, hs, hb, _⟩
    rw [rv0] at hn hs
    rw [er0]
    rw [hs0] at hn
    subst hn
    exact ⟨A, c, rfl, hnc, hcm, hs, hb⟩
  have hstr := stored_stream hss hL (by rw [hll2]; exact hlen) hpl
  have hscan := scan_stream hL hsz
  obtain ⟨u, Hu⟩ : ∃ u : Nat, Hid (u = L.used) := ⟨_, Lib.hid rfl⟩
  obtain ⟨hf, Hh⟩ : ∃ x : Nat, Hid (x = L.half) := ⟨_, Lib.hid rfl⟩
  have HPL : Hid (∀ w1 A c, Below w.heap.size w w1 → 512 ≤ c → c ≤ maxLen → Sees w1 w1.heap.size A (sec S.last 0) → Calls Tryd.prog 34 #[.pointer (some ⟨l, 0, none⟩), .slice A 512 c] w1 fun e w' => e = .returned (.tuple #[.int .i64 (hf : Int), .int .i64 (u : Int)]) ∧ Below w1.heap.size w1 w') := Lib.hid fun w1 A c hb h1 h2 hs => by
    rw [Hh.out, Hu.out]
    exact place_yes w1 ((hb.cell (p := ⟨l, 1, none⟩) hlw).trans c1) hsz A 512 c _ hs0.symm h1 h2 hs (ht.below hb (Nat.le_refl _)) g1 L.half L.used hhf g4 g3 hul
  have HRD2 : Hid (∀ w1, Below w.heap.size w w1 → Calls Tryd.prog 35 #[.pointer (some ⟨l, 0, none⟩), .int .i64 (hf : Int), .int .i64 (u : Int)] w1 fun e w' => ∃ A c, e = .returned (.tuple #[.slice A u c, .int .i64 0]) ∧ u ≤ c ∧ c ≤ maxLen ∧ Sees w' w'.heap.size A L.stream ∧ Below w1.heap.size w1 w') := Lib.hid fun w1 hb => by
    rw [Hh.out, Hu.out]
    refine (read_log w1 (h.below hb) ho ((hb.cell (p := ⟨l, 0, none⟩) hlw).trans c0) ((hb.cell (p := ⟨l, 1, none⟩) hlw).trans c1) L.half L.used hhf hul hlen _ _ rfl rfl).mono ?_
    rintro e w' ⟨A, c, rfl, k1, k2, k3, k4⟩
    rw [hstr] at k3
    exact ⟨A, c, rfl, k1, k2, k3, k4⟩
  obtain ⟨rs, Hrs⟩ : ∃ rs, Hid (rs = Rc.zipn 1 (L.base :: L.recs)) := ⟨_, Lib.hid rfl⟩
  have HSC : Hid (∀ w1 A c, Below w.heap.size w w1 → u ≤ c → c ≤ maxLen → Sees w1 w1.heap.size A L.stream → Calls Tryd.prog 36 #[.slice A u c, .int .i64 1] w1 fun e w' => ∃ A' c', e = .returned (.tuple #[.slice A' rs.length c', .int .i64 (u : Int)]) ∧ Recs w' w1.heap.size 61 (.slice A' rs.length c') rs ∧ rs.length ≤ c' ∧ c' ≤ maxLen ∧ Below w1.heap.size w1 w') := Lib.hid fun w1 A c hb h1 h2 hs => by
    have hun : u = L.stream.length := Hu.out
    refine (scan_any A u c L.stream 1 w1 hun h1 h2 (by rw [← hun, Hu.out]; omega) (by omega) hs (ht.below hb (Nat.le_refl _))).mono ?_
    rintro e w' ⟨A', c', he, k1, k2, k3, k4⟩
    rw [hscan] at he k1 k2
    rw [Hrs.out, Hu.out]
    exact ⟨A', c', he, k1, k2, k3, k4⟩
  have hrl : rs.length = L.recs.length + 1 := by rw [Hrs.out, zipn_length]; rfl
  have hrm : rs.map (·.2) = L.base :: L.recs := by rw [Hrs.out, zipn_snd]
  have HLC := Lib.hid hl
  have HRM := Lib.hid hrm
  have HRL := Lib.hid hrl
  have HUL : Hid (u = L.stream.length) := Lib.hid Hu.out
  have HNE : Hid (L.stream ≠ []) := Lib.hid fun e => by
    have : L.used = L.stream.length := rfl
    rw [e] at this; simp at this; omega
  have hu5 : u ≤ 5000000 := by rw [Hu.out]; omega
  have HRB : Hid (L.recs.length ≤ 900000) := Lib.hid (by omega)
  have HRD := Lib.hid hrd
  have hrp : (rs.length : Int) ≠ 0 := by omega
  have hrpb : ((rs.length : Int) == 0) = false := by rw [beq_eq_false_iff_ne]; exact hrp
  have hrpos : 1 ≤ rs.length := by omega
  have hrle : (rs.length : Int) ≤ 1000000 := by omega
  clear h ho hl hL hlen ht hhd hpl hok hss hll2 hul g1 g2 g3 g4 c1 c2 c3 c4 c6 c7 h0l er0 rv0 hs0 hrd hstr hscan hrl hrm hup
  go_enter Tryd.func24, Tryd.ntmps24
  go_wp2_with fail
  refine HRD.out.mono ?_
  rintro e w1 ⟨A1, ca, rfl, k1, k2, k3, hb1⟩
  have hp1 := HPL.out w1 A1 ca hb1 k1 k2 k3
  have HP1 := Lib.hid hp1
  have HB1 := Lib.hid hb1
  clear k1 k2 k3 hb1 hp1 HPL HRD
  go_wp2_with fail
  refine HP1.out.mono ?_
  rintro e w2 ⟨rfl, hb2⟩
  have hb02 := HB1.out.trans (hb2.mono HB1.out.size)
  have HR2 := Lib.hid (HRD2.out w2 hb02)
  have HB2 := Lib.hid hb02
  clear hb2 hb02 HP1 HRD2
  go_wp2_with fail
  refine HR2.out.mono ?_
  rintro e w3 ⟨A3, cb, rfl, k1, k2, k3, hb3⟩
  have hb03 := HB2.out.trans (hb3.mono HB2.out.size)
  have HSC3 := Lib.hid (HSC.out w3 A3 cb hb03 k1 k2 k3)
  have HB3 := Lib.hid hb03
  have HS3 := Lib.hid k3
  have HC3 := Lib.hid k2
  obtain ⟨A4, hsl4, hsee4⟩ := run_head (P := Tryd.prog) Tryd.underlying31 (fun w => by exact Tryd.sizeOf5 w) A3 u cb u k1
  have HSEE4 := Lib.hid hsee4
  clear k2 k3 hb3 hb03 HSC HR2 hsee4
  go_wp2_with fail
  refine HSC3.out.mono ?_
  rintro e w4 ⟨Af, cf, rfl, hrec, hcf, hcfm, hb4⟩
  have hb04 := HB3.out.trans (hb4.mono HB3.out.size)
  obtain ⟨g, ss, rfl, hg4, hfrow, hssl, hparts, hat⟩ := recs_open hrec (by omega)
  obtain ⟨Ab, cb0, e0, x0, x1, xb, xh⟩ := hat 0 (by omega)
  obtain ⟨b0, Hb0⟩ : ∃ b, Hid (b = rs[0].2) := ⟨_, Lib.hid rfl⟩
  rw [← Hb0.out] at e0 x1 xb xh
  rw [Nat.zero_mul, Nat.zero_add] at x1
  have HB0 : Hid (b0 = L.base) := Lib.hid (by
    have := congrArg (fun l => l[0]?) HRM.out
    simp only [List.getElem?_map, List.getElem?_eq_getElem (show 0 < rs.length by omega), Option.map_some, List.getElem?_cons_zero] at this
    injection this with this
    rw [Hb0.out]; exact this)
  have hlc4 : LogC w4 l d sz 0 0 (.slice none 0 0) [] (.slice none 0 0) [] (.slice none 0 0) [] [] false := HLC.out.only (Only.of_below hb04 (S := [])) (by simp) (by simp) (by simp) (by simp) (by simp)
  have hlc5 := hlc4.put5 (.slice Ab b0.length cb0) b0 xb
  obtain ⟨q0, q1, q2, q3, q4, q5, q6, q7⟩ := hlc4.cells
  have f5 := hlc4.free 5
  obtain ⟨At, htl, hta⟩ := run_tail_rec g rs.length cf hrpos hcf
  have hm1 : rs.length - 1 = L.recs.length := by have := HRL.out; omega
  rw [hm1] at htl
  have hgl : g ≠ l := fun e => by
    subst e
    exact own_ne hfrow hlc4.own (by decide) g rfl rfl
  obtain ⟨w5, HW5⟩ : ∃ W, Hid (W = w4.setCell ⟨l, 5, none⟩ (.slice Ab b0.length cb0)) := ⟨_, Lib.hid rfl⟩
  have ho5 : Only [l] w4 w5 := by rw [HW5.out]; exact only_setCell w4 ⟨l, 5, none⟩ _
  rw [← HW5.out] at hlc5
  have HALL : Hid (∀ wr, Only [l] w5 wr → ∀ k, k < L.recs.length → ∃ A' c' r, Hid (r = L.recs[k]?.getD []) ∧ ss[k + 1]? = some (.slice A' r.length c') ∧ wr.cell? ⟨g, 2 + k * 2, none⟩ = some (.int .i64 ((rs[k + 1]?.getD (0, [])).1 : Int)) ∧ wr.cell? ⟨g, 2 + k * 2 + 1, none⟩ = some (.slice A' r.length c') ∧ BRow wr (.slice A' r.length c') r ∧ ∀ x, x ∈ blk (.slice A' r.length c') → w3.heap.size ≤ x) := Lib.hid fun wr hO k hk => by
    have hk1 : k + 1 < rs.length := by rw [HRL.out]; omega
    obtain ⟨A', c', y0, y1, y2, y3, y4⟩ := hat (k + 1) hk1
    have er : rs[k + 1].2 = L.recs[k]?.getD [] := by
      have := congrArg (fun l => l[k + 1]?) HRM.out
      simp only [List.getElem?_map, List.getElem?_eq_getElem hk1, Option.map_some, List.getElem?_cons_succ] at this
      rw [← this]; rfl
    have hO2 : Only [l] w4 wr := ho5.trans hO
    have e2 : 2 + k * 2 = (k + 1) * 2 := by omega
    refine ⟨A', c', rs[k + 1].2, Lib.hid er, y0, ?_, ?_, y3.only hO2 (fun x hx => by simpa using own_ne y3 hlc4.own (by decide) x (mem_blk.1 hx)), y4⟩
    · rw [e2, List.getElem?_eq_getElem hk1]
      exact (hO2.cell (a := ⟨g, (k + 1) * 2, none⟩) hg4 (by simpa using hgl)).trans y1
    · rw [e2]
      exact (hO2.cell (a := ⟨g, (k + 1) * 2 + 1, none⟩) hg4 (by simpa using hgl)).trans y2
  have HB4 := Lib.hid hb4
  have HB04 := Lib.hid hb04
  have HO5 := Lib.hid ho5
  have HLC4 := Lib.hid hlc4
  have HXH := Lib.hid xh
  have hssr : ss.length = L.recs.length + 1 := by rw [hssl, HRL.out]
  have HSSL := Lib.hid hssr
  have HTA := Lib.hid hta
  have HLC5 : Hid (∃ (A : Option Addr) (c : Nat) (rk : List (List UInt8)), Hid (rk = L.recs.take 0) ∧ rk.length = 0 ∧ LogC w5 l d sz 0 0 (.slice none 0 0) [] (.slice Ab b0.length cb0) b0 (.slice A rk.length c) ((ss.drop 1).take 0) rk false ∧ Only [l] w5 w5 ∧ ∀ x, x ∈ blk (.slice A rk.length c) → w5.heap.size ≤ x) := Lib.hid ⟨none, 0, [], Lib.hid rfl, rfl, by simpa using hlc5, Only.refl _ _, fun x hx => by simp [blk, Value.ownBlock] at hx⟩
  unfold maxLen at hcfm
  clear hrec hb4 hb04 hfrow hssl hparts hat xb xh hlc4 hlc5 hta ho5 HSC3 q0 q1 q2 q3 q4 q7 hssr e0 x0
  go_wp2
  rw [← HW5.out]
  go_loopw [72] (fun i wr => ∃ k : Nat, k ≤ L.recs.length ∧ i = .int .i64 k ∧ ∃ (A : Option Addr) (c : Nat) (rk : List (List UInt8)), Hid (rk = L.recs.take k) ∧ rk.length = k ∧ LogC wr l d sz 0 0 (.slice none 0 0) [] (.slice Ab b0.length cb0) b0 (.slice A rk.length c) ((ss.drop 1).take k) rk false ∧ Only [l] w5 wr ∧ ∀ x, x ∈ blk (.slice A rk.length c) → w5.heap.size ≤ x) (fun i _ => L.recs.length - (intOf i).toNat)
  case atStart => exact ⟨0, Nat.zero_le _, rfl, HLC5.out⟩
  case round =>
    obtain ⟨k, hk, rfl, A, c, rk, Hrk, hrkl, hlc, hO, hnew⟩ := hrel
    by_cases hlt : k < L.recs.length
    · obtain ⟨A', c', r, Hr, hss1, y1, y2, y3, y4⟩ := HALL.out wr hO k hlt
      have hltI : (k : Int) < (L.recs.length : Int) := by omega
      have hk1 : 1 < rs.length := by have := HRL.out; omega
      have hAt := HTA.out hk1
      subst hAt
      obtain ⟨w6, HW6⟩ : ∃ W, Hid (W = wr.alloc (.cells #[.int .i64 ((rs[k + 1]?.getD (0, [])).1 : Int), .slice A' r.length c'] 61)) := ⟨_, Lib.hid rfl⟩
      obtain ⟨nr, Hnr⟩ : ∃ x : Nat, Hid (x = (rs[k + 1]?.getD (0, [])).1) := ⟨_, Lib.hid rfl⟩
      rw [← Hnr.out] at HW6 y1
      have hb6 : Below wr.heap.size wr w6 := by rw [HW6.out]; exact (Below.refl _ _).alloc (Nat.le_refl _) _
      have hlc6 : LogC w6 l d sz 0 0 (.slice none 0 0) [] (.slice Ab b0.length cb0) b0 (.slice A rk.length c) ((ss.drop 1).take k) rk false := by
        obtain ⟨a1, a2, a3, a4⟩ := hlc.apart
        exact hlc.only (Only.of_below hb6 (S := [])) (by simp) (by simp) (by simp) (by simp) (by simp)
      obtain ⟨_, _, _, _, _, _, c6, _⟩ := hlc6.cells
      have f6 := hlc6.free 6
      have hN1 : w6.cell? ⟨wr.heap.size, 1, none⟩ = some (.slice A' r.length c') := by rw [HW6.out, World.cell?_alloc_at _ _ _ _ rfl]; rfl
      have hl6 : l ∉ blk (.slice A rk.length c) := fun hm => absurd (hlc6.apart.2.2.1 l hm) (by simp)
      have hrow6 := hlc6.row
      have hbr6 : BRow w6 (.slice A' r.length c') r := y3.only (Only.of_below hb6 (S := [])) (fun x _ hm => by cases hm)
      have HB6 := Lib.hid hb6
      have HLC6 := Lib.hid hlc6
      have HBR6 := Lib.hid hbr6
      have HO6 := Lib.hid hO
      have HNEW := Lib.hid hnew
      have HY4 := Lib.hid y4
      have HSS1 := Lib.hid hss1
      have HRKL := Lib.hid hrkl
      have hbig : rk.length + 1 ≤ 1000000 := by have := HRB.out; omega
      clear hb6 hlc6 hbr6 hO hnew y3 y4 hss1 hlc hrkl
      go_wp2
      rw [← HW6.out]
      refine ld20_run l wr.heap.size rk.length c r.length c' A A' ((ss.drop 1).take k) (by show 86 < 102; omega) rfl rfl c6 f6 hN1 hrow6 hl6 hbig ?_
      intro af A7 c7 w7 hfr hE
      have ha := hfr.eq (by intro t ht; simp at ht; show t < 102; omega)
      simp only [List.foldl_cons, List.foldl_nil] at ha
      clear hfr
      generalize af.eval (.tmp 76) = u76 at ha
      generalize af.eval (.tmp 77) = u77 at ha
      generalize af.eval (.tmp 78) = u78 at ha
      generalize af.eval (.tmp 79) = u79 at ha
      generalize af.eval (.tmp 80) = u80 at ha
      generalize af.eval (.tmp 81) = u81 at ha
      generalize af.eval (.tmp 82) = u82 at ha
      generalize af.eval (.tmp 83) = u83 at ha
      generalize af.eval (.tmp 84) = u84 at ha
      generalize af.eval (.tmp 85) = u85 at ha
      generalize af.eval (.tmp 86) = u86 at ha
      subst ha
      simp only [Act.put, List.setIfInBounds_toArray, List.set_cons_zero, List.set_cons_succ]
      have hbu : BRow w7 (.slice A' r.length c') r := HBR6.out.only hE.2.1 (fun x hx hm => by
        rcases own_own_ne HBR6.out HLC6.out.row (by decide) with e | e
        · have := mem_blk.1 hx; rw [e] at this; cases this
        · exact e ((mem_blk.1 hx).trans (mem_blk.1 hm).symm))
      obtain ⟨hlc8, ho8⟩ := HLC6.out.snoc hE hbu
      have e1 : (ss.drop 1).take (k + 1) = (ss.drop 1).take k ++ [.slice A' r.length c'] := by
        rw [List.take_succ_eq_append_getElem (by rw [List.length_drop, HSSL.out]; omega)]
        congr 2
        rw [List.getElem_drop]
        have := HSS1.out
        rw [List.getElem?_eq_getElem (by rw [HSSL.out]; omega)] at this
        injection this with this
        rw [← this]
        congr 1
        omega
      have e2 : L.recs.take (k + 1) = rk ++ [r] := by
        rw [List.take_succ_eq_append_getElem hlt, ← Hrk.out, Hr.out, List.getElem?_eq_getElem hlt]
        rfl
      have HK := Lib.hid (show ∃ (A : Option Addr) (c : Nat) (rk' : List (List UInt8)), Hid (rk' = L.recs.take (k + 1)) ∧ rk'.length = k + 1 ∧ LogC (w7.setCell ⟨l, 6, none⟩ (.slice A7 (rk.length + 1) c7)) l d sz 0 0 (.slice none 0 0) [] (.slice Ab b0.length cb0) b0 (.slice A rk'.length c) ((ss.drop 1).take (k + 1)) rk' false ∧ Only [l] w5 (w7.setCell ⟨l, 6, none⟩ (.slice A7 (rk.length + 1) c7)) ∧ ∀ x, x ∈ blk (.slice A rk'.length c) → w5.heap.size ≤ x from
        ⟨A7, c7, rk ++ [r], Lib.hid e2.symm, by rw [List.length_append, HRKL.out]; rfl, by rw [e1, List.length_append]; exact hlc8, ?_, fun x hx => ?_⟩)
      rotate_left
      · refine (HO6.out.trans (Only.of_below HB6.out)).step ho8 ?_
        intro x hx
        rcases List.mem_cons.1 hx with rfl | hx
        · exact .inl (List.mem_singleton.2 rfl)
        · exact .inr (HNEW.out x hx)
      · rw [List.length_append] at hx
        rcases hE.2.2 x hx with h' | h'
        · exact HNEW.out x h'
        · have := HO6.out.size; have := HB6.out.size; omega
      clear hlc8 ho8 e1 e2 hbu hE c6 f6 hN1 hl6 hrow6 y1 y2 hbig
      go_wp2
      go_roundw
      case rel => exact ⟨k + 1, by omega, by go_num, HK.out⟩
      case measure => simp [intOf]; omega
    · obtain rfl : k = L.recs.length := by omega
      have hs5 : Sees wr wr.heap.size A4 L.stream := by
        have h4 : Sees w4 w4.heap.size A4 L.stream := (HSEE4.out w4 _ _ (HS3.out.below HB4.out (Nat.le_refl _))).mono HB4.out.size
        have hn := sees_ne_log HLC4.out ⟨_, _, _, rfl⟩ ⟨_, _, _, rfl⟩ ⟨_, _, _, rfl⟩ h4 HNE.out
        exact h4.only (HO5.out.trans hO) (fun _ a ha hm => hn a ha (by simpa using hm))
      have HTL := Lib.hid (tailOf_any A4 u cb L.stream wr HUL.out k1 HC3.out (by omega) hs5)
      have HLC := Lib.hid hlc
      have HO := Lib.hid hO
      have HNEW := Lib.hid hnew
      have HRKL := Lib.hid hrkl
      clear hs5 hlc hO hnew hrkl
      go_wp2_with fail
      refine HTL.out.mono ?_
      rintro e w6 ⟨A6, c6, rfl, m1, m2, m3⟩
      have hlc6 := HLC.out.only (Only.of_below m2 (S := [])) (by simp) (by simp) (by simp) (by simp) (by simp)
      have hne6 := own_ne m1 hlc6.own (by decide)
      have hv2 : BRow ((w6.setCell ⟨l, 2, none⟩ (.int .i64 (hf : Int))).setCell ⟨l, 3, none⟩ (.int .i64 (u : Int))) (.slice A6 (tailOf L.stream).length c6) (tailOf L.stream) :=
        (m1.only (only_setCell w6 ⟨l, 2, none⟩ _) (fun x hx => by simpa using hne6 x (mem_blk.1 hx))).only (only_setCell _ ⟨l, 3, none⟩ _) (fun x hx => by simpa using hne6 x (mem_blk.1 hx))
      have hlc7 := ((hlc6.put2 hf).put3 u).put4 _ _ hv2
      have hzz := HB04.out.size
      have hz5 := HO5.out.size
      have hzr := HO.out.size
      have hz3 := HB3.out.size
      obtain ⟨G, hG, hGn⟩ := hlc7.inner w (fun x hx => by have := m3 x hx; omega) (fun x hx => by have := HXH.out x hx; omega) (fun x hx => by have := HNEW.out x hx; omega) (fun v hv x hx => by
        have hv2 := List.mem_of_mem_drop (List.mem_of_mem_take hv)
        obtain ⟨i, hi, e⟩ := List.mem_iff_getElem.1 hv
        have hil : i < L.recs.length := by rw [List.length_take, List.length_drop, HSSL.out] at hi; omega
        obtain ⟨A', c', r, _, q1, _, _, _, q5⟩ := HALL.out w5 (Only.refl _ _) i hil
        have e3 : v = .slice A' r.length c' := by
          rw [← e, List.getElem_take, List.getElem_drop]
          rw [List.getElem?_eq_getElem (by rw [HSSL.out]; omega)] at q1
          injection q1 with q1
          rw [← q1]
          congr 1
          omega
        rw [e3] at hx
        have := q5 x hx
        omega)
      have hO7 : Only [l] w (((w6.setCell ⟨l, 2, none⟩ (.int .i64 (hf : Int))).setCell ⟨l, 3, none⟩ (.int .i64 (u : Int))).setCell ⟨l, 4, none⟩ (.slice A6 (tailOf L.stream).length c6)) :=
        (((((Only.of_below HB04.out).trans (HO5.out.trans HO.out)).trans (Only.of_below m2)).setCell (p := ⟨l, 2, none⟩) (.inl (by simp)) _).setCell (p := ⟨l, 3, none⟩) (.inl (by simp)) _).setCell (p := ⟨l, 4, none⟩) (.inl (by simp)) _
      have hrk : rk = L.recs := by rw [Hrk.out, List.take_of_length_le (Nat.le_refl _)]
      have key : LoadEnd l d sz L w (.returned (.int .i64 0)) (((w6.setCell ⟨l, 2, none⟩ (.int .i64 (hf : Int))).setCell ⟨l, 3, none⟩ (.int .i64 (u : Int))).setCell ⟨l, 4, none⟩ (.slice A6 (tailOf L.stream).length c6)) :=
        ⟨rfl, G, by rw [← Hh.out, ← Hu.out, ← HB0.out, ← hrk]; exact hG, hO7, hGn⟩
      obtain ⟨p0, p1, p2, p3, p4, p5, p6, p7⟩ := hlc6.cells
      have f2 := hlc6.free 2
      have f3 := hlc6.free 3
      have f4 := hlc6.free 4
      have HK := Lib.hid key
      clear key hO7 hG hGn hlc7 hv2 hne6 hlc6 m1 m2 m3 p0 p1 p5 p6 p7 hrk
      go_wp2
      go_ret
      exact HK.out
end Go.Proofs.YtambddncncaehaaDoor
