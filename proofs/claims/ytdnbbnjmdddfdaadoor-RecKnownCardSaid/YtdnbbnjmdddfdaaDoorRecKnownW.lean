/- The walk of RecKnown. -/
import Derived.Test.YtdnbbnjmdddfdaaDoorRecTurnedW
namespace Go.Proofs.YtdnbbnjmdddfdaaDoor
open Go.RowKit
set_option linter.unusedVariables false

/-- Get, where no record stands. -/
theorem get_no (A : Option Addr) (n c : Nat) (l : List UInt8) (E : Nat) (F : Int) (w : World) (hE : Rc.getE l = E) (h0 : E ≠ 0) (hF : F = (E : Int)) (hn : n = l.length) (hnc : n ≤ c) (hcm : c ≤ maxLen) (hs : Sees w w.heap.size A l) (ht : TabAt w 0) :
    Calls Tryd.prog 12 #[.slice A n c] w fun e w' => e = .returned (.tuple #[.agg #[.int .i64 0, .slice none 0 0], .int .i64 0, .int .i64 F]) ∧ Below w.heap.size w w' := by
  subst hF
  refine (get_any A n c l w hn hnc hcm hs ht).mono ?_
  rintro e w' (⟨_, rfl, hb⟩ | ⟨h, _⟩)
  · exact ⟨by rw [hE], hb⟩
  · exact absurd (hE.symm.trans h) h0
theorem get_lit (w : World) (cs : Array Value) (l : List UInt8) (k : Nat) (E : Nat) (F : Int) (hk : k = l.length) (hc : cs.toList = bv l) (hE : Rc.getE l = E) (h0 : E ≠ 0) (hF : F = (E : Int)) (h4 : k ≤ maxLen) (N : Nat) (hN : N = w.heap.size) (ht : TabAt w 0) :
    Calls Tryd.prog 12 #[.slice (some ⟨N, 0, none⟩) k k] (w.alloc (.cells cs 5)) fun e w' => e = .returned (.tuple #[.agg #[.int .i64 0, .slice none 0 0], .int .i64 0, .int .i64 F]) ∧ Below w.heap.size w w' := by
  subst hN
  refine (get_no _ k k l E F _ hE h0 hF hk (Nat.le_refl _) h4 ((Sees.new w 5 cs l hc).mono (by simp)) (ht.alloc _)).mono ?_
  rintro e w' ⟨h1, h2⟩
  exact ⟨h1, ((Below.refl _ _).alloc (Nat.le_refl _) _).trans (h2.mono (by simp))⟩
theorem known_bad : Rc.getE ((Rc.enc 7 []).set 15 (UInt8.ofNat (((Rc.enc 7 []).getD 15 0).toNat + 1))) = 3 := by decide +kernel
theorem known_first : Rc.scan (Rc.enc 7 []) 6 = ([], 0) := Rc.scan_no _ _ (by
  have h : Rc.nr (Rc.enc 7 []) = 7 := by decide +kernel
  rw [h]; simp)

set_option maxHeartbeats 4000000 in
set_option maxRecDepth 100000 in
theorem recKnown_walk (w : World) (ht : Lib.TabIs Tryd.prog w "franking/crc.halfByte" .u32 crcTab) :
    Calls Tryd.prog 3 #[] w fun e w' => e = .returned (.bool true) ∧ Below w.heap.size w w' := by
  have HT := Lib.hid (tabAt ht)
  clear ht
  have kc := fun (w : World) (C : Array Value) (n c : Nat) => Lib.run_convert_bytes_const (P := Tryd.prog) w 23 5 C n c Tryd.underlying23 Tryd.underlying5
  go_enter Tryd.func3, Tryd.ntmps3
  go_wp2_with fail
  refine (recAwake_any w HT.out).mono ?_
  rintro e w1 ⟨rfl, hb1⟩
  have HB1 := Lib.hid hb1
  clear hb1
  go_wp2_with fail
  refine (put_okZ _ 1 1 [120] 7 7 rfl none 0 0 [] _ rfl ?s rfl (Sees.nil _ _ _) (by decide) (by decide) (by decide) (by decide) ?t).mono ?_
  case s => exact (sees_new_at w1 5 _ _ [120] rfl _ rfl).mono (by simp)
  case t => exact (HT.out.below HB1.out (Nat.le_refl _)).alloc _
  rintro e w2 ⟨A2, c2, L2, HL2, rfl, hown2, hb2, h2a, h2b⟩
  have hL2 : L2.length = 17 := by rw [HL2.out]; decide
  have HB2 : Hid (Below w.heap.size w w2) := Lib.hid ((HB1.out.alloc HB1.out.size _).trans (hb2.mono (by simp; have := HB1.out.size; omega)))
  have HO2 := Lib.hid (Sees.of_own hown2)
  obtain ⟨gA, oA, rfl, hgA, hcA⟩ := id HO2.out (by intro e; rw [e] at hL2; simp at hL2)
  have HCA := Lib.hid (hcA 0 (by omega))
  rw [show L2[0]'(by omega) = 120 by simp [HL2.out]] at HCA
  rw [hL2] at h2a ⊢
  clear hL2 hown2 hb2 hcA
  go_wp2_with fail
  refine (put_no none 0 0 0 none 0 0 _ (by decide) (by decide)).mono ?_
  rintro e w3 ⟨rfl, hb3⟩
  have HB3 := Lib.hid (HB2.out.trans (hb3.mono HB2.out.size))
  have HB23 := Lib.hid hb3
  clear hb3
  go_wp2_with fail
  refine (get_no none 0 0 [] 8 8 _ (by decide) (by decide) rfl rfl (by decide) (by decide) (Sees.nil _ _ _) (HT.out.below HB3.out (Nat.le_refl _))).mono ?_
  rintro e w4 ⟨rfl, hb4⟩
  obtain ⟨w4b, Hw4b⟩ : ∃ x, Hid (x = w4.alloc (.cells #[.int .i64 0, .slice none 0 0] 28)) := ⟨_, Lib.hid rfl⟩
  have HB34 : Hid (Below w3.heap.size w3 w4b) := Lib.hid (by rw [Hw4b.out]; exact hb4.alloc hb4.size _)
  have HB4 := Lib.hid (HB3.out.trans (HB34.out.mono HB3.out.size))
  clear hb4
  go_wp2_with fail
  rw [← Hw4b.out]
  refine (get_lit w4b _ [255, 0, 0, 0] 4 3 3 rfl rfl (by decide) (by decide) rfl (by decide) _ (by rw [Hw4b.out]; simp) (HT.out.below HB4.out (Nat.le_refl _))).mono ?_
  rintro e w5 ⟨rfl, hb5⟩
  obtain ⟨w5b, Hw5b⟩ : ∃ x, Hid (x = w5.alloc (.cells #[.int .i64 0, .slice none 0 0] 28)) := ⟨_, Lib.hid rfl⟩
  have HB45 : Hid (Below w4b.heap.size w4b w5b) := Lib.hid (by rw [Hw5b.out]; exact hb5.alloc hb5.size _)
  have HB5 := Lib.hid (HB4.out.trans (HB45.out.mono HB4.out.size))
  clear hb5
  go_wp2_with fail
  rw [← Hw5b.out]
  refine (get_lit w5b _ [0, 0, 0, 0] 4 8 8 rfl rfl (by decide) (by decide) rfl (by decide) _ (by rw [Hw5b.out]; simp) (HT.out.below HB5.out (Nat.le_refl _))).mono ?_
  rintro e w6 ⟨rfl, hb6⟩
  obtain ⟨w6b, Hw6b⟩ : ∃ x, Hid (x = w6.alloc (.cells #[.int .i64 0, .slice none 0 0] 28)) := ⟨_, Lib.hid rfl⟩
  have HB56 : Hid (Below w5b.heap.size w5b w6b) := Lib.hid (by rw [Hw6b.out]; exact hb6.alloc hb6.size _)
  have HB6 := Lib.hid (HB5.out.trans (HB56.out.mono HB5.out.size))
  clear hb6
  have hb26 : Below w2.heap.size w2 w6b := HB23.out.trans ((HB34.out.mono HB23.out.size).trans ((HB45.out.mono (Nat.le_trans HB23.out.size HB34.out.size)).trans (HB56.out.mono (Nat.le_trans HB23.out.size (Nat.le_trans HB34.out.size HB45.out.size)))))
  have hs26 : Sees w6b w2.heap.size (some ⟨gA, oA, none⟩) L2 := HO2.out.below hb26 (Nat.le_refl _)
  have HS26 := Lib.hid hs26
  have HZ26 := Lib.hid hb26.size
  have hL2 : L2.length = 17 := by rw [HL2.out]; decide
  obtain ⟨A7, hsl7, hsee7⟩ := run_tail (P := Tryd.prog) Tryd.underlying23 (fun w => by exact Tryd.sizeOf5 w) hs26 17 c2 1 hL2.symm (by decide) h2a
  rw [show L2.drop 1 = Rc.enc 7 [] by rw [HL2.out]; rfl, show ((1 : Nat) : Int) = 1 from rfl, show 17 - 1 = 16 from rfl] at *
  obtain ⟨w7, Hw7⟩ : ∃ x, Hid (x = w6b.alloc (.cells #[] 5)) := ⟨_, Lib.hid rfl⟩
  have hrow7 : BRow w7 (.slice (some ⟨w6b.heap.size, 0, none⟩) 0 0) [] := by rw [Hw7.out]; exact BRow.lit w6b 0
  have hb67 : Below w6b.heap.size w6b w7 := by rw [Hw7.out]; exact (Below.refl _ _).alloc (Nat.le_refl _) _
  obtain ⟨v8, w8, hap, hrow8, ho8, hg8⟩ := brow_sees w7 _ [] hrow7 w2.heap.size A7 16 (c2 - 1) (Rc.enc 7 []) (by decide) ((hsee7.mono (Nat.le_refl _)).below hb67 (HZ26.out)) (by decide) 23
  rw [List.nil_append] at hrow8
  obtain ⟨g, c8, rfl, hg1, hg2, hc8, hm8⟩ := own_form hrow8 (by decide)
  rw [show (Rc.enc 7 []).length = 16 by decide] at *
  have hb68 : Below w6b.heap.size w6b w8 := hb67.trans (ho8.below (by rw [Hw7.out]; simp) (fun k hk => by
    have := mem_blk.1 hk
    simp [Value.ownBlock] at this; omega))
  have hgw : w6b.heap.size ≤ g := by
    rcases hg8 g (mem_blk.2 rfl) with h | h
    · have := mem_blk.1 h
      simp [Value.ownBlock] at this; omega
    · rw [Hw7.out] at h; simp at h; omega
  have hrow8' := Row8.of_own hrow8
  obtain ⟨b, Hb⟩ : ∃ b, Hid (b = (Rc.enc 7 []).getD 15 0) := ⟨_, Lib.hid rfl⟩
  obtain ⟨hcell, hfree⟩ := hrow8' 15 (by decide)
  rw [show (Rc.enc 7 [])[15]'(by decide) = b by rw [Hb.out]; rfl] at hcell
  obtain ⟨x, Hx⟩ : ∃ x, Hid (x = UInt8.ofNat (b.toNat + 1)) := ⟨_, Lib.hid rfl⟩
  have hx : ((b.toNat : Int) + 1) % 256 = (x.toNat : Int) := by
    have e : (UInt8.ofNat (b.toNat + 1)).toNat = (b.toNat + 1) % 256 := UInt8.toNat_ofNat'
    rw [Hx.out, e]; omega
  have hb256 : b.toNat < 256 := b.toNat_lt
  obtain ⟨w9, Hw9⟩ : ∃ w9, Hid (w9 = w8.setCell ⟨g, 15, none⟩ (.int .u8 (x.toNat : Int))) := ⟨_, Lib.hid rfl⟩
  obtain ⟨L9, HL9⟩ : ∃ L, Hid (L = (Rc.enc 7 []).set 15 x) := ⟨_, Lib.hid rfl⟩
  have hrow9 : Row8 w9 g L9 := by rw [Hw9.out, HL9.out]; exact hrow8'.store 15 (by decide) x
  have hE9 : Rc.getE L9 = 3 := by rw [HL9.out, Hx.out, Hb.out]; exact known_bad
  have hn9 : 16 = L9.length := by rw [HL9.out]; simp; decide
  have hb69 : Below w6b.heap.size w6b w9 := by rw [Hw9.out]; exact hb68.setCell hgw _
  have hg9 : g < w9.heap.size := by rw [Hw9.out]; simpa [World.setCell] using hg2
  have HB69 := Lib.hid hb69
  have HB9 := Lib.hid (HB6.out.trans (hb69.mono HB6.out.size))
  have HGET9 := Lib.hid (get_no (some ⟨g, 0, none⟩) 16 c8 L9 3 3 w9 hE9 (by decide) rfl hn9 hc8 hm8 (hrow9.sees.mono (by omega)) (HT.out.below HB9.out (Nat.le_refl _)))
  rw [Hw7.out, Hw6b.out] at hap
  simp only [World.size_alloc] at hap
  have HAP := Lib.hid hap
  have HSEE7 := Lib.hid hsee7
  have HB26 := Lib.hid hb26
  clear hap hrow7 hb67 hrow8 ho8 hg8 hb68 hrow8' hrow9 hE9 hn9 hb69 hb26 hs26 hL2 hsee7 kc
  go_wp2_with (at_builtin; refine wpList_append_run rfl _ _ 23 rfl _ _ _ rfl rfl _ _ (by exact HAP.out) ?_)
  rw [← Hw9.out]
  refine HGET9.out.mono ?_
  rintro e w10 ⟨rfl, hb10⟩
  obtain ⟨w10b, Hw10b⟩ : ∃ x, Hid (x = w10.alloc (.cells #[.int .i64 0, .slice none 0 0] 28)) := ⟨_, Lib.hid rfl⟩
  have HB910 : Hid (Below w9.heap.size w9 w10b) := Lib.hid (by rw [Hw10b.out]; exact hb10.alloc hb10.size _)
  have HB10 := Lib.hid (HB9.out.trans (HB910.out.mono HB9.out.size))
  have HB6_10 := Lib.hid (HB69.out.trans (HB910.out.mono HB69.out.size))
  have hsee10 : Sees w10b w2.heap.size A7 (Rc.enc 7 []) := HSEE7.out.below HB6_10.out HZ26.out
  have hscan := scan_any A7 16 (c2 - 1) (Rc.enc 7 []) 6 w10b (by decide) (by omega) (by omega) (by decide) (by decide) (hsee10.mono (Nat.le_trans HZ26.out HB6_10.out.size)) (HT.out.below HB10.out (Nat.le_refl _))
  unfold ScanEnd at hscan
  rw [known_first] at hscan
  have HSC := Lib.hid hscan
  clear hb10 hsee10 hscan HGET9 HAP hcell hfree hx
  go_wp2_with fail
  rw [← Hw10b.out]
  refine HSC.out.mono ?_
  rintro e w11 ⟨A11, c11, rfl, -, h11a, h11b, hb11⟩
  have HB11 := Lib.hid (HB10.out.trans (hb11.mono HB10.out.size))
  have hb2_11 : Below w2.heap.size w2 w11 := HB26.out.trans ((HB6_10.out.mono HB26.out.size).trans (hb11.mono (Nat.le_trans HB26.out.size HB6_10.out.size)))
  have hcA : w11.cell? ⟨gA, oA, none⟩ = some (.int .u8 120) := (hb2_11.cell (p := ⟨gA, oA, none⟩) hgA).trans HCA.out
  have kc := fun (w : World) (C : Array Value) (n c : Nat) => Lib.run_convert_bytes_const (P := Tryd.prog) w 23 5 C n c Tryd.underlying23 Tryd.underlying5
  clear HSC hb11 hb2_11 hsl7
  go_wp2_with fail
  refine (recSize_any 1 _ 3 3 _ (by decide) 19 (by decide)).mono ?_
  rintro e w12 ⟨rfl, hb12⟩
  have HB12 : Hid (Below w.heap.size w w12) := Lib.hid ((HB11.out.alloc HB11.out.size _).trans (hb12.mono (by simp; have := HB11.out.size; omega)))
  rw [show ((19 : Nat) : Int) = 19 from rfl]
  clear hb12 kc hcA
  go_wp2_with fail
  refine (recSize_any 0 none 0 0 _ (by decide) 0 (by decide)).mono ?_
  rintro e w13 ⟨rfl, hb13⟩
  have HB13 := Lib.hid (HB12.out.trans (hb13.mono HB12.out.size))
  rw [show ((0 : Nat) : Int) = 0 from rfl]
  clear hb13
  go_wp2
  go_ret
  exact ⟨rfl, HB13.out⟩
end Go.Proofs.YtdnbbnjmdddfdaaDoor
