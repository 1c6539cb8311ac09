/- The walk of rec.Scan. -/
import Derived.Test.YtambddncncaehaaDoorRecGet
import Derived.Test.YtambddncncaehaaDoorFlat2
namespace Go.Proofs.YtambddncncaehaaDoor
open Go.RowKit
set_option linter.unusedVariables false

def recVals (rs : List (Nat × List UInt8)) (ss : List Value) : List Value := flat2 Prod.fst Prod.snd ((rs.map fun r => Value.int .i64 (r.1 : Int)).zip ss)
theorem recVals_length {rs : List (Nat × List UInt8)} {ss : List Value} (h : ss.length = rs.length) : (recVals rs ss).length = rs.length * 2 := by
  unfold recVals; rw [flat2_length, List.length_zip, List.length_map, h, Nat.min_self]
theorem recVals_fst {rs : List (Nat × List UInt8)} {ss : List Value} (h : ss.length = rs.length) (i : Nat) (hi : i < rs.length) : (recVals rs ss)[i * 2]? = some (.int .i64 (rs[i].1 : Int)) := by
  unfold recVals; rw [flat2_fst _ i (by rw [List.length_zip, List.length_map]; omega)]; simp
theorem recVals_snd {rs : List (Nat × List UInt8)} {ss : List Value} (h : ss.length = rs.length) (i : Nat) (hi : i < rs.length) : (recVals rs ss)[i * 2 + 1]? = some (ss[i]'(by omega)) := by
  unfold recVals; rw [flat2_snd _ i (by rw [List.length_zip, List.length_map]; omega)]; simp
theorem recVals_snoc {rs : List (Nat × List UInt8)} {ss : List Value} (h : ss.length = rs.length) (r : Nat × List UInt8) (v : Value) : recVals (rs ++ [r]) (ss ++ [v]) = recVals rs ss ++ [.int .i64 (r.1 : Int), v] := by
  unfold recVals
  rw [List.map_append, List.zip_append (by rw [List.length_map, h]), flat2_append]
  rfl

/-- A row of records of one's own. -/
def Recs (w : World) (base : Nat) (T : TypeId) (v : Value) (rs : List (Nat × List UInt8)) : Prop :=
  ∃ ss : List Value, Parts w base 5 ss (rs.map (·.2)) ∧ w.ownsRow base T 2 v rs.length (recVals rs ss)
theorem Recs.nil (w : World) (base : Nat) (T : TypeId) : Recs w base T (.slice none 0 0) [] := ⟨[], Parts.nil _ _ _, World.ownsRow_nil w base T 2⟩
theorem Recs.below {w w' : World} {base : Nat} {T : TypeId} {v : Value} {rs : List (Nat × List UInt8)} (h : Recs w base T v rs) (hb : Below w.heap.size w w') : Recs w' base T v rs := by
  obtain ⟨ss, h1, h2⟩ := h
  exact ⟨ss, h1.below hb, own_below h2 hb (Nat.le_refl _)⟩
theorem Recs.shape {w : World} {base : Nat} {T : TypeId} {v : Value} {rs : List (Nat × List UInt8)} (h : Recs w base T v rs) : ∃ A c, v = .slice A rs.length c ∧ rs.length ≤ c ∧ c ≤ maxLen := by
  obtain ⟨ss, h1, h2⟩ := h; exact own_shape h2
theorem Recs.at {w : World} {base : Nat} {T : TypeId} {A : Option Addr} {n c : Nat} {rs : List (Nat × List UInt8)} (h : Recs w base T (.slice A n c) rs) (i : Nat) (hi : i < rs.length) :
    ∃ g A' c', A = some ⟨g, 0, none⟩ ∧ w.cell? ⟨g, i * 2, none⟩ = some (.int .i64 (rs[i].1 : Int)) ∧ w.cell? ⟨g, i * 2 + 1, none⟩ = some (.slice A' rs[i].2.length c') ∧ rs[i].2.length ≤ c' ∧ c' ≤ maxLen ∧ Sees w w.heap.size A' rs[i].2 := by
  obtain ⟨ss, h1, h2⟩ := h
  have hl : ss.length = rs.length := by have := h1.1; simpa using this
  obtain ⟨g, cap, e, _, _, _, _⟩ := own_form h2 (by omega)
  injection e with e1 e2 e3
  subst e1
  have c1 := h2.cells (g := g) rfl (i * 2) _ (recVals_fst hl i hi)
  have c2 := h2.cells (g := g) rfl (i * 2 + 1) _ (recVals_snd hl i hi)
  rw [add_to, Nat.zero_add] at c1 c2
  obtain ⟨A', c', f1, f2, f3, f4⟩ := h1.views.2 i (ss[i]'(by omega)) rs[i].2 (List.getElem?_eq_getElem _) (by simp [hi])
  rw [f1] at c2
  exact ⟨g, A', c', rfl, c1, c2, f2, f3, f4⟩

/-- append of one record, which the walk has just laid into a block of its own. -/
theorem Recs.snoc {w : World} {base : Nat} {T ST : TypeId} (hT : T ≠ 5) (hu : Tryd.prog.underlying ST = some (.slice T)) (hinfo : (Tryd.prog.info? T).map (fun i => (i.zero, i.size, i.bytes)) = some (some (.agg #[.int .i64 0, .slice none 0 0]), 2, 32))
    {v : Value} {rs : List (Nat × List UInt8)} (h : Recs w base T v rs) (hb : base ≤ w.heap.size) (y : Nat) (A : Option Addr) (n c : Nat) (r : List UInt8) (hn : n = r.length) (hr : w.ownsRow base 5 1 (.slice A n c) n (bv r)) (hl : (rs.length + 1) * 32 ≤ 140737488355328) (ty : TypeId) :
    ∃ A' c' w', (Builtin.append_ #[ST, ST] ty #[v, .slice (some ⟨w.heap.size, 0, none⟩) 1 1]).run Tryd.prog (w.alloc (.cells #[.int .i64 (y : Int), .slice A n c] T)) = .ok (.slice A' (rs.length + 1) c') w' ∧ Recs w' base T (.slice A' (rs.length + 1) c') (rs ++ [(y, r)]) ∧ Below base w w' ∧ rs.length + 1 ≤ c' ∧ c' ≤ maxLen := by
  subst hn
  obtain ⟨ss, h1, h2⟩ := h
  have hsl : ss.length = rs.length := by have := h1.1; simpa using this
  obtain ⟨i0, hi, hz0, hz1, hz2⟩ := info_parts hinfo
  have hal : Below w.heap.size w (w.alloc (.cells #[.int .i64 (y : Int), .slice A r.length c] T)) := (Below.refl _ _).alloc (Nat.le_refl _) _
  obtain ⟨v', w', hrun, k2, k3, k4⟩ := run_append_own (P := Tryd.prog) (w.alloc (.cells #[.int .i64 (y : Int), .slice A r.length c] T)) base ST ty T i0 _ 2 32 hu hi hz0 hz1 hz2 rfl (by decide) v rs.length (recVals rs ss) (h2.alloc _) ⟨w.heap.size, 0, none⟩ 1 1 [.int .i64 (y : Int), .slice A r.length c] rfl
    (fun j u hu => by
      rw [add_to, Nat.zero_add, World.cell?_alloc_at _ _ _ _ rfl]
      match j, hu with
      | 0, hu => exact hu
      | 1, hu => exact hu
      | j + 2, hu => simp at hu) (by intro u hu; simp at hu; rcases hu with rfl | rfl <;> rfl) (by unfold maxLen; omega) (by omega) (by simp; omega)
  obtain ⟨A', c', rfl, m1, m2⟩ := own_shape k2
  have hp : Parts (w.alloc (.cells #[.int .i64 (y : Int), .slice A r.length c] T)) base 5 (ss ++ [.slice A r.length c]) (rs.map (·.2) ++ [r]) := (h1.below hal).snoc (own_below hr hal (Nat.le_refl _))
  refine ⟨A', c', w', hrun, ⟨ss ++ [.slice A r.length c], ?_, ?_⟩, (((Below.refl base w).alloc hb _)).grown k3 (by simp; omega) (fun k hk => (h2.lt k hk).1), m1, m2⟩
  · have := hp.grown (h2.alloc _) k3 hT.symm
    simpa using this
  · rw [recVals_snoc hsl, List.length_append]; exact k2

theorem Tryd.infoRec : (Tryd.prog.info? 61).map (fun i => (i.zero, i.size, i.bytes)) = some (some (.agg #[.int .i64 0, .slice none 0 0]), 2, 32) := by kernel_rfl
def ScanEnd (T : TypeId) (l : List UInt8) (first : Int) (w : World) (e : Ending) (w' : World) : Prop :=
  ∃ A c, e = .returned (.tuple #[.slice A (Rc.scan l first).1.length c, .int .i64 ((Rc.scan l first).2 : Int)]) ∧ Recs w' w.heap.size T (.slice A (Rc.scan l first).1.length c) (Rc.scan l first).1 ∧ (Rc.scan l first).1.length ≤ c ∧ c ≤ maxLen ∧ Below w.heap.size w w'

theorem scan_end {T : TypeId} {l : List UInt8} {first : Int} {w w' : World} {rs : List (Nat × List UInt8)} {n : Nat} (h : Rc.scan l first = (rs, n)) {A : Option Addr} {c : Nat} (hr : Recs w' w.heap.size T (.slice A rs.length c) rs) (h1 : rs.length ≤ c) (h2 : c ≤ maxLen) (hb : Below w.heap.size w w') :
    ScanEnd T l first w (.returned (.tuple #[.slice A rs.length c, .int .i64 (n : Int)])) w' := by
  unfold ScanEnd
  rw [h]
  exact ⟨A, c, rfl, hr, h1, h2, hb⟩

set_option maxHeartbeats 1600000 in
set_option maxRecDepth 100000 in
theorem scan_any (A : Option Addr) (n c : Nat) (l : List UInt8) (first : Int) (w : World) (hn : n = l.length) (hnc : n ≤ c) (hcm : c ≤ maxLen) (hl : l.length ≤ 70000000000000) (hf : -9223372036854775808 ≤ first ∧ first ≤ 9223372036854775807) (hs : Sees w w.heap.size A l) (ht : TabAt w 0) :
    Calls Tryd.prog 36 #[.slice A n c, .int .i64 first] w (ScanEnd 61 l first w) := by
  subst hn
  have HCM := Lib.hid hcm
  have HT := Lib.hid ht
  have HS := Lib.hid hs
  obtain ⟨w0, rfl⟩ : ∃ w0, w0 = w := ⟨_, rfl⟩
  clear hs ht
  go_enter Tryd.func36, Tryd.ntmps36
  go_wp2
  go_loopw [4, 5, 6] (fun r i nx wr => ∃ (rs : List (Nat × List UInt8)) (n : Nat) (z : Int) (A : Option Addr) (c : Nat), r = .slice A rs.length c ∧ i = .int .i64 (n : Int) ∧ nx = .int .i64 z ∧ n ≤ l.length ∧ rs.length * 16 ≤ n ∧ Hid (Rc.Under l first rs n z) ∧ -9223372036854775808 ≤ z ∧ z ≤ 9223372036854775807 ∧ Recs wr w0.heap.size 61 (.slice A rs.length c) rs ∧ rs.length ≤ c ∧ c ≤ maxLen ∧ Below w0.heap.size w0 wr) (fun _ i _ _ => l.length - (intOf i).toNat)
  case atStart => exact ⟨[], 0, first, none, 0, rfl, rfl, rfl, Nat.zero_le _, Nat.le_refl _, Lib.hid (Rc.Under.start l first), hf.1, hf.2, Recs.nil _ _ _, Nat.le_refl _, Nat.zero_le _, Below.refl _ _⟩
  case round =>
    obtain ⟨rs, n, z, A1, c1, rfl, rfl, rfl, hn, hrs, HU, hz1, hz2, hrec, hc1, hc1m, hb⟩ := hrel
    have zr := hb.size
    obtain ⟨A2, hsl2, hsee2⟩ := run_tail (P := Tryd.prog) Tryd.underlying31 (fun w => by exact Tryd.sizeOf5 w) (HS.out.below hb (Nat.le_refl _)) l.length c n rfl hn hnc
    have hget := get_any A2 (l.length - n) (c - n) (l.drop n) wr (by simp) (by omega) (by have := HCM.out; omega) (hsee2.mono zr) (HT.out.below hb (Nat.le_refl _))
    have HGET := Lib.hid hget
    have HREC := Lib.hid hrec
    have HB := Lib.hid hb
    have HC1M := Lib.hid hc1m
    clear hsee2 hget hrec hb hc1m
    go_wp2_with fail
    refine HGET.out.mono ?_
    clear HGET hsl2
    obtain ⟨e0, He0⟩ : ∃ e0 : Nat, Hid (e0 = Rc.getE (l.drop n)) := ⟨_, Lib.hid rfl⟩
    rintro e w2 (⟨hE, rfl, hb2⟩ | ⟨hE, A3, n3, c3, rfl, hn3, hown3, h3a, h3b, hb2⟩)
    · have hfin := HU.out.stop (fun h => hE h.1)
      rw [← He0.out] at hE ⊢
      have hE' : ((e0 : Int) != 0) = true := by rw [bne_iff_ne]; omega
      have HK := Lib.hid (scan_end hfin ((HREC.out.below (hb2.mono (Nat.le_refl _))).below ((Below.refl _ _).alloc (Nat.le_refl _) (.cells #[.int .i64 0, .slice none 0 0] 61))) hc1 HC1M.out ((HB.out.trans (hb2.mono zr)).alloc (Nat.le_trans zr hb2.size) _))
      clear hb2 HREC HB hfin
      go_wp2
      go_ret2
      exact HK.out
    · have hE' : ((e0 : Int) != 0) = false := by rw [He0.out, hE]; rfl
      obtain ⟨y, Hy⟩ : ∃ y : Nat, Hid (y = Rc.nr (l.drop n)) := ⟨_, Lib.hid rfl⟩
      obtain ⟨m, Hm⟩ : ∃ m : Nat, Hid (m = Rc.len (l.drop n)) := ⟨_, Lib.hid rfl⟩
      obtain ⟨r, Hr⟩ : ∃ r, Hid (r = Rc.body (l.drop n)) := ⟨_, Lib.hid rfl⟩
      have hok := Rc.getE_ok hE
      rw [← Hy.out, ← Hm.out, List.length_drop] at hok
      obtain ⟨k1, k2, k3, k4, -⟩ := hok
      rw [← Hr.out] at hn3 hown3
      subst hn3
      rw [← Hy.out, ← Hm.out]
      have z2 := hb2.size
      by_cases hyz : (y : Int) = z
      · subst hyz
        by_cases hmax : (y : Int) = 9223372036854775807
        · have hymax : ((y : Int) == 9223372036854775807) = true := by simpa using hmax
          have hfin := HU.out.last hE (by rw [Hy.out]) hmax
          rw [← Hy.out, ← Hm.out, ← Hr.out] at hfin
          have hw3 : Below w2.heap.size w2 (w2.alloc (.cells #[.int .i64 (y : Int), .slice A3 r.length c3] 61)) := (Below.refl _ _).alloc (Nat.le_refl _) _
          obtain ⟨A4, c4, w4, hap, hrec4, hb4, hc4', hc4m⟩ := (((HREC.out.below (hb2.mono (Nat.le_refl _))).below hw3).snoc (T := 61) (ST := 79) (by decide) Tryd.underlying79 Tryd.infoRec (by simp; omega) y A3 r.length c3 r rfl (own_below (own_base hown3 zr) hw3 (Nat.le_refl _)) (by omega) 79)
          simp only [World.size_alloc] at hap
          have HAP := Lib.hid hap
          have HR4 := Lib.hid hrec4
          have HB4 := Lib.hid (((Below.refl w0.heap.size w2).alloc (Nat.le_trans zr z2) _).trans hb4)
          have HB2 := Lib.hid (hb2.mono zr)
          have HMAX := Lib.hid hmax
          have HC4M := Lib.hid hc4m
          clear hap hrec4 hb4 hb2 HREC hown3 hw3 hmax hc4m
          go_wp2_with (at_builtin; refine wpList_append_run rfl _ _ 79 rfl _ _ _ rfl rfl _ _ (by exact HAP.out) ?_)
          have HK := Lib.hid (scan_end hfin (by rw [List.length_append]; exact HR4.out) (by rw [List.length_append]; exact hc4') HC4M.out (HB.out.trans (HB2.out.trans HB4.out)))
          rw [List.length_append] at HK
          go_ret2
          exact HK.out
        · have hymax : ((y : Int) == 9223372036854775807) = false := by simpa using hmax
          have hylt : (y : Int) < 9223372036854775807 := by omega
          have hmore := HU.out.more hE (by rw [Hy.out]) hmax
          rw [← Hy.out, ← Hm.out, ← Hr.out] at hmore
          have HMORE := Lib.hid (Lib.hid hmore)
          clear hmore
          have hw3 : Below w2.heap.size w2 (w2.alloc (.cells #[.int .i64 (y : Int), .slice A3 r.length c3] 61)) := (Below.refl _ _).alloc (Nat.le_refl _) _
          obtain ⟨A4, c4, w4, hap, hrec4, hb4, hc4', hc4m⟩ := (((HREC.out.below (hb2.mono (Nat.le_refl _))).below hw3).snoc (T := 61) (ST := 79) (by decide) Tryd.underlying79 Tryd.infoRec (by simp; omega) y A3 r.length c3 r rfl (own_below (own_base hown3 zr) hw3 (Nat.le_refl _)) (by omega) 79)
          simp only [World.size_alloc] at hap
          have HAP := Lib.hid hap
          have HR4 := Lib.hid hrec4
          have HB4 := Lib.hid (((Below.refl w0.heap.size w2).alloc (Nat.le_trans zr z2) _).trans hb4)
          have HB2 := Lib.hid (hb2.mono zr)
          have HMAX := Lib.hid hmax
          have HC4M := Lib.hid hc4m
          clear hap hrec4 hb4 hb2 HREC hown3 hw3 hmax hc4m
          go_wp2_with (at_builtin; refine wpList_append_run rfl _ _ 79 rfl _ _ _ rfl rfl _ _ (by exact HAP.out) ?_)
          go_roundw
          case rel =>
            refine ⟨rs ++ [(y, r)], n + (m + 16), (y : Int) + 1, A4, c4, by simp, by simp, rfl, by omega, by simp; omega, HMORE.out, by omega, by omega, by rw [List.length_append]; exact HR4.out, by simpa using hc4', HC4M.out, HB.out.trans (HB2.out.trans HB4.out)⟩
          case measure => simp [intOf]; omega
      · have hfin := HU.out.stop (fun h => hyz (by rw [Hy.out]; exact h.2))
        have hyz' : ((y : Int) != z) = true := by rw [bne_iff_ne]; exact hyz
        have HK := Lib.hid (scan_end hfin ((HREC.out.below (hb2.mono (Nat.le_refl _))).below ((Below.refl _ _).alloc (Nat.le_refl _) (.cells #[.int .i64 (y : Int), .slice A3 r.length c3] 61))) hc1 HC1M.out ((HB.out.trans (hb2.mono zr)).alloc (Nat.le_trans zr hb2.size) _))
        clear hb2 HREC HB hfin hown3
        go_wp2
        go_ret2
        exact HK.out
end Go.Proofs.YtambddncncaehaaDoor
