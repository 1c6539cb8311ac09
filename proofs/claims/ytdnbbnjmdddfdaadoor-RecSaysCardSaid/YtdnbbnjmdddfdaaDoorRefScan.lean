/- The walk of the reference's Scan. -/
import Derived.Test.YtdnbbnjmdddfdaaDoorRecScan
import Derived.Test.YtdnbbnjmdddfdaaDoorRefGet
namespace Go.Proofs.YtdnbbnjmdddfdaaDoor
open Go.RowKit
set_option linter.unusedVariables false

theorem Tryd.infoRRec : (Tryd.prog.info? 36).map (fun i => (i.zero, i.size, i.bytes)) = some (some (.agg #[.int .i64 0, .slice none 0 0]), 2, 32) := by kernel_rfl

set_option maxHeartbeats 1600000 in
set_option maxRecDepth 100000 in
theorem rscan_any (A : Option Addr) (n c : Nat) (l : List UInt8) (first : Int) (w : World) (hn : n = l.length) (hnc : n ≤ c) (hcm : c ≤ maxLen) (hl : l.length ≤ 70000000000000) (hf : -9223372036854775808 ≤ first ∧ first ≤ 9223372036854775807) (hs : Sees w w.heap.size A l) :
    Calls Tryd.prog 17 #[.slice A n c, .int .i64 first] w (ScanEnd 36 l first w) := by
  subst hn
  have HCM := Lib.hid hcm
  have HS := Lib.hid hs
  obtain ⟨w0, rfl⟩ : ∃ w0, w0 = w := ⟨_, rfl⟩
  clear hs
  go_enter Tryd.func17, Tryd.ntmps17
  go_wp2
  go_loopw [1, 6, 7] (fun nx r i wr => ∃ (rs : List (Nat × List UInt8)) (n : Nat) (z : Int) (A : Option Addr) (c : Nat), r = .slice A rs.length c ∧ i = .int .i64 (n : Int) ∧ nx = .int .i64 z ∧ n ≤ l.length ∧ rs.length * 16 ≤ n ∧ Hid (Rc.Under l first rs n z) ∧ -9223372036854775808 ≤ z ∧ z ≤ 9223372036854775807 ∧ Recs wr w0.heap.size 36 (.slice A rs.length c) rs ∧ rs.length ≤ c ∧ c ≤ maxLen ∧ Below w0.heap.size w0 wr) (fun _ _ i _ => l.length - (intOf i).toNat)
  case atStart => exact ⟨[], 0, first, none, 0, rfl, rfl, rfl, Nat.zero_le _, Nat.le_refl _, Lib.hid (Rc.Under.start l first), hf.1, hf.2, Recs.nil _ _ _, Nat.le_refl _, Nat.zero_le _, Below.refl _ _⟩
  case round =>
    obtain ⟨rs, n, z, A1, c1, rfl, rfl, rfl, hn, hrs, HU, hz1, hz2, hrec, hc1, hc1m, hb⟩ := hrel
    have zr := hb.size
    obtain ⟨A2, hsl2, hsee2⟩ := run_tail (P := Tryd.prog) Tryd.underlying23 (fun w => by exact Tryd.sizeOf5 w) (HS.out.below hb (Nat.le_refl _)) l.length c n rfl hn hnc
    have hget := rget_any A2 (l.length - n) (c - n) (l.drop n) wr (by simp) (by omega) (by have := HCM.out; omega) (hsee2.mono zr)
    have HGET := Lib.hid hget
    have HREC := Lib.hid hrec
    have HB := Lib.hid hb
    have HC1M := Lib.hid hc1m
    clear hsee2 hget hrec hb hc1m
    go_wp2_with fail
    refine HGET.out.mono ?_
    clear HGET hsl2
    obtain ⟨e0, He0⟩ : ∃ e0 : Nat, Hid (e0 = Rc.getE (l.drop n)) := ⟨_, Lib.hid rfl⟩
    rintro e w2 (⟨hE, rfl, hb2⟩ | ⟨hE, A3, n3, c3, rfl, hn3, hown3, h3a, h3b, hb2⟩)
    · have hfin := HU.out.stop (fun h => hE h.1)
      rw [← He0.out] at hE ⊢
      have hE' : ((e0 : Int) != 0) = true := by rw [bne_iff_ne]; omega
      have HK := Lib.hid (scan_end hfin ((HREC.out.below (hb2.mono (Nat.le_refl _))).below ((Below.refl _ _).alloc (Nat.le_refl _) (.cells #[.int .i64 0, .slice none 0 0] 36))) hc1 HC1M.out ((HB.out.trans (hb2.mono zr)).alloc (Nat.le_trans zr hb2.size) _))
      clear hb2 HREC HB hfin
      go_wp2
      go_ret2
      exact HK.out
    · have hE' : ((e0 : Int) != 0) = false := by rw [He0.out, hE]; rfl
      obtain ⟨y, Hy⟩ : ∃ y : Nat, Hid (y = Rc.nr (l.drop n)) := ⟨_, Lib.hid rfl⟩
      obtain ⟨m, Hm⟩ : ∃ m : Nat, Hid (m = Rc.len (l.drop n)) := ⟨_, Lib.hid rfl⟩
      obtain ⟨r, Hr⟩ : ∃ r, Hid (r = Rc.body (l.drop n)) := ⟨_, Lib.hid rfl⟩
      have hok := Rc.getE_ok hE
      rw [← Hy.out, ← Hm.out, List.length_drop] at hok
      obtain ⟨k1, k2, k3, k4, -⟩ := hok
      rw [← Hr.out] at hn3 hown3
      subst hn3
      rw [← Hy.out, ← Hm.out]
      have z2 := hb2.size
      by_cases hyz : (y : Int) = z
      · subst hyz
        by_cases hmax : (y : Int) = 9223372036854775807
        · have hymax : ((y : Int) == 9223372036854775807) = true := by simpa using hmax
          have hfin := HU.out.last hE (by rw [Hy.out]) hmax
          rw [← Hy.out, ← Hm.out, ← Hr.out] at hfin
          have hw3 : Below w2.heap.size w2 (w2.alloc (.cells #[.int .i64 (y : Int), .slice A3 r.length c3] 36)) := (Below.refl _ _).alloc (Nat.le_refl _) _
          obtain ⟨A4, c4, w4, hap, hrec4, hb4, hc4', hc4m⟩ := (((HREC.out.below (hb2.mono (Nat.le_refl _))).below hw3).snoc (T := 36) (ST := 39) (by decide) Tryd.underlying39 Tryd.infoRRec (by simp; omega) y A3 r.length c3 r rfl (own_below (own_base hown3 zr) hw3 (Nat.le_refl _)) (by omega) 39)
          simp only [World.size_alloc] at hap
          have HAP := Lib.hid hap
          have HR4 := Lib.hid hrec4
          have HB4 := Lib.hid (((Below.refl w0.heap.size w2).alloc (Nat.le_trans zr z2) _).trans hb4)
          have HB2 := Lib.hid (hb2.mono zr)
          have HMAX := Lib.hid hmax
          have HC4M := Lib.hid hc4m
          clear hap hrec4 hb4 hb2 HREC hown3 hw3 hmax hc4m
          go_wp2_with (at_builtin; refine wpList_append_run rfl _ _ 39 rfl _ _ _ rfl rfl _ _ (by exact HAP.out) ?_)
          have HK := Lib.hid (scan_end hfin (by rw [List.length_append]; exact HR4.out) (by rw [List.length_append]; exact hc4') HC4M.out (HB.out.trans (HB2.out.trans HB4.out)))
          rw [List.length_append] at HK
          go_ret2
          exact HK.out
        · have hymax : ((y : Int) == 9223372036854775807) = false := by simpa using hmax
          have hylt : (y : Int) < 9223372036854775807 := by omega
          have hmore := HU.out.more hE (by rw [Hy.out]) hmax
          rw [← Hy.out, ← Hm.out, ← Hr.out] at hmore
          have HMORE := Lib.hid (Lib.hid hmore)
          clear hmore
          have hw3 : Below w2.heap.size w2 (w2.alloc (.cells #[.int .i64 (y : Int), .slice A3 r.length c3] 36)) := (Below.refl _ _).alloc (Nat.le_refl _) _
          obtain ⟨A4, c4, w4, hap, hrec4, hb4, hc4', hc4m⟩ := (((HREC.out.below (hb2.mono (Nat.le_refl _))).below hw3).snoc (T := 36) (ST := 39) (by decide) Tryd.underlying39 Tryd.infoRRec (by simp; omega) y A3 r.length c3 r rfl (own_below (own_base hown3 zr) hw3 (Nat.le_refl _)) (by omega) 39)
          simp only [World.size_alloc] at hap
          have HAP := Lib.hid hap
          have HR4 := Lib.hid hrec4
          have HB4 := Lib.hid (((Below.refl w0.heap.size w2).alloc (Nat.le_trans zr z2) _).trans hb4)
          have HB2 := Lib.hid (hb2.mono zr)
          have HMAX := Lib.hid hmax
          have HC4M := Lib.hid hc4m
          clear hap hrec4 hb4 hb2 HREC hown3 hw3 hmax hc4m
          go_wp2_with (at_builtin; refine wpList_append_run rfl _ _ 39 rfl _ _ _ rfl rfl _ _ (by exact HAP.out) ?_)
          go_roundw
          case rel =>
            refine ⟨rs ++ [(y, r)], n + (m + 16), (y : Int) + 1, A4, c4, by simp, by simp, rfl, by omega, by simp; omega, HMORE.out, by omega, by omega, by rw [List.length_append]; exact HR4.out, by simpa using hc4', HC4M.out, HB.out.trans (HB2.out.trans HB4.out)⟩
          case measure => simp [intOf]; omega
      · have hfin := HU.out.stop (fun h => hyz (by rw [Hy.out]; exact h.2))
        have hyz' : ((y : Int) != z) = true := by rw [bne_iff_ne]; exact hyz
        have HK := Lib.hid (scan_end hfin ((HREC.out.below (hb2.mono (Nat.le_refl _))).below ((Below.refl _ _).alloc (Nat.le_refl _) (.cells #[.int .i64 (y : Int), .slice A3 r.length c3] 36))) hc1 HC1M.out ((HB.out.trans (hb2.mono zr)).alloc (Nat.le_trans zr hb2.size) _))
        clear hb2 HREC HB hfin hown3
        go_wp2
        go_ret2
        exact HK.out
end Go.Proofs.YtdnbbnjmdddfdaaDoor
