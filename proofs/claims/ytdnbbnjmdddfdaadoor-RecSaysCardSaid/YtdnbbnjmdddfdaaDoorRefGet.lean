/- The walk of the reference's GetRec. -/
import Derived.Test.YtdnbbnjmdddfdaaDoorRecGet
import Derived.Test.YtdnbbnjmdddfdaaDoorRefCrc
import Derived.Test.YtdnbbnjmdddfdaaDoorRefNum
import Derived.Deep.QuietTactic
import Derived.BigQuiet
namespace Go.Proofs.YtdnbbnjmdddfdaaDoor
open Go.RowKit
set_option linter.unusedVariables false

theorem rrec_ret (w : World) (tmps : Array Value) (g : Nat) (hp : tmps.getD 2 undef = .pointer (some ⟨g, 0, none⟩)) (a b x y : Value) (hx : tmps.getD 3 undef = x) (hy : tmps.getD 4 undef = y) (hg : w.heap[g]? = some (.cells #[a, b] 36 (0, 0))) :
    (results Tryd.f16 tmps).run Tryd.prog w = .ok (.tuple #[.agg #[a, b], x, y]) w :=
  ret_cell3 rfl tmps w g hp #[a, b] _ hg _ Tryd.underlying36 rfl (by kernel_rfl) x y hx hy
/-- The result's cells, empty, in a world that comes behind w. -/
structure Fresh (w W : World) : Prop where
  block : W.heap[w.heap.size]? = some (.cells #[.int .i64 0, .slice none 0 0] 36 (0, 0))
  below : Below w.heap.size w W
theorem Fresh.cells {w W : World} (h : Fresh w W) : W.cell? ⟨w.heap.size, 0, none⟩ = some (.int .i64 0) ∧ W.cell? ⟨w.heap.size, 1, none⟩ = some (.slice none 0 0) ∧ W.frozen? ⟨w.heap.size, 0, none⟩ = false ∧ W.frozen? ⟨w.heap.size, 1, none⟩ = false := by
  have := h.block
  refine ⟨by simp [World.cell?, this], by simp [World.cell?, this], by simp [World.frozen?, this], by simp [World.frozen?, this]⟩
theorem Fresh.put {w W : World} (h : Fresh w W) (a b : Value) : ((W.setCell ⟨w.heap.size, 0, none⟩ a).setCell ⟨w.heap.size, 1, none⟩ b).heap[w.heap.size]? = some (.cells #[a, b] 36 (0, 0)) ∧ Below w.heap.size w ((W.setCell ⟨w.heap.size, 0, none⟩ a).setCell ⟨w.heap.size, 1, none⟩ b) :=
  ⟨heap_setCell_same _ _ _ _ _ _ (heap_setCell_same _ _ _ _ _ _ h.block), (h.below.setCell (Nat.le_refl _) _).setCell (Nat.le_refl _) _⟩
theorem Fresh.lt {w W : World} (h : Fresh w W) : w.heap.size < W.heap.size := (Array.getElem?_eq_some_iff.1 h.block).1
theorem Fresh.later {w W W' : World} (h : Fresh w W) (hb : Below W.heap.size W W') : Fresh w W' := ⟨(hb.block _ h.lt).trans h.block, h.below.trans (hb.mono (Nat.le_of_lt h.lt))⟩
theorem Fresh.drewN {w W : World} (h : Fresh w W) (n : Nat) : Fresh w (W.drewN n) := ⟨h.block, below_drewN h.below n⟩
theorem Fresh.start (w : World) : Fresh w (w.alloc (.cells #[.int .i64 0, .slice none 0 0] 36)) := ⟨new_block w _, (Below.refl _ _).alloc (Nat.le_refl _) _⟩

set_option maxHeartbeats 1600000 in
set_option maxRecDepth 100000 in
theorem rget_any (A : Option Addr) (n c : Nat) (l : List UInt8) (w : World) (hn : n = l.length) (hnc : n ≤ c) (hcm : c ≤ maxLen) (hs : Sees w w.heap.size A l) :
    Calls Tryd.prog 16 #[.slice A n c] w (GetEnd l w) := by
  subst hn
  have HCM := Lib.hid hcm
  unfold maxLen at hcm
  obtain ⟨w1, Hw1⟩ : ∃ w1, Hid (w1 = w.alloc (.cells #[.int .i64 0, .slice none 0 0] 36)) := ⟨_, Lib.hid rfl⟩
  have HF1 : Hid (Fresh w w1) := Lib.hid (by rw [Hw1.out]; exact Fresh.start w)
  obtain ⟨hc0, hc1, hf0, hf1⟩ := HF1.out.cells
  obtain ⟨w2, Hw2⟩ : ∃ w2, Hid (w2 = (w1.setCell ⟨w.heap.size, 0, none⟩ (.int .i64 0)).setCell ⟨w.heap.size, 1, none⟩ (.slice none 0 0)) := ⟨_, Lib.hid rfl⟩
  have HP2 := Lib.hid (HF1.out.put (.int .i64 0) (.slice none 0 0))
  rw [← Hw2.out] at HP2
  by_cases q1 : l.length < 4
  · have HK := Lib.hid (getE_no l 8 (by unfold Rc.getE; rw [if_pos q1]) (by decide) w w1 HF1.out.below)
    have q1' : (l.length : Int) < 4 := by omega
    clear hs
    go_enter Tryd.func16, Tryd.ntmps16
    go_wp2
    rw [← Hw1.out]
    refine bodyPost_ret (rrec_ret w1 _ w.heap.size rfl _ _ _ _ rfl rfl HF1.out.block) rfl HK.out
  have h4 : 4 ≤ l.length := by omega
  have h4' : (4 : Int) ≤ l.length := by omega
  obtain ⟨g, o, rfl, hgl, _⟩ := id hs (by intro e; rw [e] at h4; simp at h4)
  obtain ⟨x, Hx⟩ : ∃ x : Nat, Hid (x = Rc.len l) := ⟨_, Lib.hid rfl⟩
  have hxlt : x < 4294967296 := by rw [Hx.out]; exact Rc.len_lt l
  obtain ⟨A2, hsl2, hsee2⟩ := run_head (P := Tryd.prog) Tryd.underlying23 (fun w => by exact Tryd.sizeOf5 w) (some ⟨g, o, none⟩) l.length c 4 (by omega)
  rw [show ((4 : Nat) : Int) = 4 from rfl] at hsl2
  have hs1 : Sees w1 w.heap.size (some ⟨g, o, none⟩) l := hs.below HF1.out.below (Nat.le_refl _)
  have hs2 := (hsee2 w1 _ l hs1).take 4
  have hnum2 := rfrom_any A2 4 c (l.take 4) _ w1 (by rw [List.length_take]; omega) (by rw [List.length_take]; omega) hs2
  rw [show Rc.num (l.take 4) = x from Hx.out.symm] at hnum2
  have HN2 := Lib.hid hnum2
  clear hs2 hnum2 hsee2
  by_cases q2 : 200000 < x
  · have HK := Lib.hid (getE_no l 3 (by unfold Rc.getE; rw [if_neg q1, if_pos (by rw [← Hx.out]; exact q2)]) (by decide) w w2 HP2.out.2)
    clear hs hs1
    go_enter Tryd.func16, Tryd.ntmps16
    go_wp2_with fail
    rw [← Hw1.out]
    refine HN2.out.mono ?_
    rintro e w' ⟨rfl, rfl⟩
    clear HN2 hsl2
    go_wp2
    rw [← Hw2.out]
    refine bodyPost_ret (rrec_ret w2 _ w.heap.size rfl _ _ _ _ rfl rfl HP2.out.1) rfl HK.out
  by_cases q3 : l.length < x + 16
  · have HK := Lib.hid (getE_no l 8 (by unfold Rc.getE; rw [if_neg q1, ← Hx.out, if_neg q2, if_pos q3]) (by decide) w w2 HP2.out.2)
    have q3' : (l.length : Int) < x + 16 := by omega
    clear hs hs1
    go_enter Tryd.func16, Tryd.ntmps16
    go_wp2_with fail
    rw [← Hw1.out]
    refine HN2.out.mono ?_
    rintro e w' ⟨rfl, rfl⟩
    clear HN2 hsl2
    go_wp2
    rw [← Hw2.out]
    refine bodyPost_ret (rrec_ret w2 _ w.heap.size rfl _ _ _ _ rfl rfl HP2.out.1) rfl HK.out
  obtain ⟨y, Hy⟩ : ∃ y : Nat, Hid (y = Rc.nr l) := ⟨_, Lib.hid rfl⟩
  obtain ⟨u, Hu⟩ : ∃ u : Nat, Hid (u = Rc.crc l) := ⟨_, Lib.hid rfl⟩
  obtain ⟨s, Hs⟩ : ∃ s : Nat, Hid (s = Rc.sum (l.take (x + 12))) := ⟨_, Lib.hid rfl⟩
  have hylt : y < 18446744073709551616 := by rw [Hy.out]; exact Rc.nr_lt l
  have hult : u < 4294967296 := by rw [Hu.out]; exact Rc.crc_lt l
  have hslt : s < 4294967296 := by rw [Hs.out]; exact Rc.sum_lt _
  have q2' : x ≤ 200000 := by omega
  have q3' : x + 16 ≤ l.length := by omega
  have hE : Hid (Rc.getE l = if y < 1 ∨ 9223372036854775807 < y ∨ u ≠ s then 3 else 0) := Lib.hid (by rw [Hy.out, Hu.out, Hs.out, Hx.out]; unfold Rc.getE; rw [if_neg q1, ← Hx.out, if_neg q2, if_neg q3])
  obtain ⟨a3, hsl3, hsee3⟩ := run_mid_some (P := Tryd.prog) Tryd.underlying23 (fun w => by exact Tryd.sizeOf5 w) ⟨g, o, none⟩ l.length c 4 12 (by omega) (by omega) hnc 12 4 rfl rfl
  rw [show 12 - 4 = 8 from rfl] at hsl3 hsee3
  have HN3 : Hid (Calls Tryd.prog 37 #[.slice (some a3) 8 (c - 4)] w1 fun e w' => e = .returned (.int .u64 (y : Int)) ∧ w1 = w') := Lib.hid (by
    have := rfrom_any (some a3) 8 (c - 4) ((l.drop 4).take 8) _ w1 (by rw [List.length_take, List.length_drop]; omega) (by rw [List.length_take]; omega) (hsee3 w1 _ l rfl hs1)
    rwa [show Rc.num ((l.drop 4).take 8) = y from Hy.out.symm] at this)
  clear hsee3
  by_cases q4 : y < 1 ∨ 9223372036854775807 < y
  · have HKA := Lib.hid (getE_no l 3 (by rw [hE.out, if_pos (by omega)]) (by decide) w)
    have q4' : wrap64 (y : Int) < 1 := by
      rcases q4 with q | q
      · rw [w64]; omega
      · rw [w64]; omega
    clear hs hs1
    go_enter Tryd.func16, Tryd.ntmps16
    go_wp2_with fail
    rw [← Hw1.out]
    refine HN2.out.mono ?_
    rintro e w' ⟨rfl, rfl⟩
    clear HN2 hsl2
    go_wp2_with fail
    refine HN3.out.mono ?_
    rintro e w' ⟨rfl, rfl⟩
    clear HN3 hsl3
    go_wp2_with fail
    go_quiet (fail)
    have HFW := Lib.hid (HF1.out.drewN nq)
    clear hc0 hc1 hf0 hf1
    obtain ⟨W, HW⟩ : ∃ W, Hid (W = w1.drewN nq) := ⟨_, Lib.hid rfl⟩
    rw [← HW.out] at HFW ⊢
    obtain ⟨hc0, hc1, hf0, hf1⟩ := HFW.out.cells
    obtain ⟨w3, Hw3⟩ : ∃ w3, Hid (w3 = (W.setCell ⟨w.heap.size, 0, none⟩ (.int .i64 0)).setCell ⟨w.heap.size, 1, none⟩ (.slice none 0 0)) := ⟨_, Lib.hid rfl⟩
    have HP3 := Lib.hid (HFW.out.put (.int .i64 0) (.slice none 0 0))
    rw [← Hw3.out] at HP3
    have HK := Lib.hid (HKA.out w3 HP3.out.2)
    go_wp2
    rw [← Hw3.out]
    refine bodyPost_ret (rrec_ret w3 _ w.heap.size rfl _ _ _ _ rfl rfl HP3.out.1) rfl HK.out
  have hwy : wrap64 (y : Int) = (y : Int) := by rw [w64]; omega
  have hwy1 : decide ((y : Int) < 1) = false := by simp; omega
  obtain ⟨a4, hsl4, hsee4⟩ := run_mid_some (P := Tryd.prog) Tryd.underlying23 (fun w => by exact Tryd.sizeOf5 w) ⟨g, o, none⟩ l.length c (x + 12) (x + 16) (by omega) (by omega) hnc ((x : Int) + 16) ((x : Int) + 12) (by omega) (by omega)
  rw [show x + 16 - (x + 12) = 4 by omega] at hsl4 hsee4
  have HN4 : Hid (∀ q, Calls Tryd.prog 37 #[.slice (some a4) 4 (c - (x + 12))] (w1.drewN q) fun e w' => e = .returned (.int .u64 (u : Int)) ∧ w' = w1.drewN q) := Lib.hid (fun q => by
    have := rfrom_any (some a4) 4 (c - (x + 12)) ((l.drop (x + 12)).take 4) _ (w1.drewN q) (by rw [List.length_take, List.length_drop]; omega) (by rw [List.length_take]; omega) (hsee4 (w1.drewN q) _ l rfl (hs1.drewN q))
    rw [show Rc.num ((l.drop (x + 12)).take 4) = u by rw [Hu.out, Hx.out]; rfl] at this
    exact this.mono fun e w' ⟨h1, h2⟩ => ⟨h1, h2.symm⟩)
  obtain ⟨A5, hsl5, hsee5⟩ := run_head (P := Tryd.prog) Tryd.underlying23 (fun w => by exact Tryd.sizeOf5 w) (some ⟨g, o, none⟩) l.length c (x + 12) (by omega)
  rw [show ((x + 12 : Nat) : Int) = (x : Int) + 12 by omega] at hsl5
  have HN5 : Hid (∀ q, Calls Tryd.prog 36 #[.int .u32 0, .slice A5 (x + 12) c] (w1.drewN q) fun e w' => e = .returned (.int .u32 (s : Int)) ∧ w' = w1.drewN q) := Lib.hid (fun q => by
    have := rcrc_any 0#32 A5 (x + 12) c (l.take (x + 12)) _ (w1.drewN q) (by rw [List.length_take]; omega) (by omega) HCM.out ((hsee5 (w1.drewN q) _ l (hs1.drewN q)).take (x + 12))
    rw [show (Crc.add 0#32 (l.take (x + 12))).toNat = s from Hs.out.symm] at this
    exact this.mono fun e w' ⟨h1, h2⟩ => ⟨h1, h2.symm⟩)
  have hcm12 : x + 12 ≤ c := by omega
  clear hsee4 hsee5
  by_cases q5 : u = s
  · have hE0 : Rc.getE l = 0 := by rw [hE.out, if_neg (by omega)]
    have q5' : ((u : Int) != (s : Int)) = false := by rw [q5]; simp
    have hbl := Rc.body_length (l := l) (by rw [← Hx.out]; exact q3')
    rw [← Hx.out] at hbl
    obtain ⟨r, Hr⟩ : ∃ r, Hid (r = Rc.body l) := ⟨_, Lib.hid rfl⟩
    rw [← Hr.out] at hbl
    have HBL := Lib.hid hbl
    obtain ⟨a6, hsl6, hsee6⟩ := run_mid_some (P := Tryd.prog) Tryd.underlying23 (fun w => by exact Tryd.sizeOf5 w) ⟨g, o, none⟩ l.length c 12 (x + 12) (by omega) (by omega) hnc ((x : Int) + 12) 12 (by omega) rfl
    rw [show x + 12 - 12 = x by omega] at hsl6 hsee6
    have HS6 : Hid (∀ (W : World) (B : Nat), Sees W B (some ⟨g, o, none⟩) l → Sees W B (some a6) r) := Lib.hid (fun W B h => by
      have := hsee6 W B l rfl h
      rwa [show (l.drop 12).take x = r by rw [Hr.out, Hx.out]; rfl] at this)
    have HS := Lib.hid hs
    clear hs hs1 hbl hsee6
    go_enter Tryd.func16, Tryd.ntmps16
    go_wp2_with fail
    rw [← Hw1.out]
    refine HN2.out.mono ?_
    rintro e w' ⟨rfl, rfl⟩
    clear HN2 hsl2
    go_wp2_with fail
    refine HN3.out.mono ?_
    rintro e w' ⟨rfl, rfl⟩
    clear HN3 hsl3
    go_wp2_with fail
    go_quiet ((first | (go_at_call 37; exact Calls.quiet_of_same (HN4.out _)) | (go_at_call 36; exact Calls.quiet_of_same (HN5.out _))))
    have HFW := Lib.hid (HF1.out.drewN nq)
    clear hc0 hc1 hf0 hf1 HN4 HN5 hsl4 hsl5
    obtain ⟨W, HW⟩ : ∃ W, Hid (W = w1.drewN nq) := ⟨_, Lib.hid rfl⟩
    rw [← HW.out] at HFW ⊢
    obtain ⟨hc0, hc1, hf0, hf1⟩ := HFW.out.cells
    obtain ⟨w4, Hw4⟩ : ∃ w4, Hid (w4 = W.alloc (.cells #[] 5)) := ⟨_, Lib.hid rfl⟩
    have hrow : BRow w4 (.slice (some ⟨W.heap.size, 0, none⟩) 0 0) [] := by rw [Hw4.out]; exact BRow.lit W 0
    have hF4 : Fresh w w4 := by rw [Hw4.out]; exact HFW.out.later ((Below.refl _ _).alloc (Nat.le_refl _) _)
    obtain ⟨v5, w5, hap, hrow5, ho5, hg5⟩ := brow_sees w4 _ [] hrow w.heap.size (some a6) x (c - 12) r HBL.out.symm (HS6.out w4 w.heap.size (HS.out.below hF4.below (Nat.le_refl _))) (by rw [HBL.out]; simp; omega) 23
    rw [List.nil_append] at hrow5
    obtain ⟨A7, c7, rfl, h7a, h7b⟩ := hrow5.shape
    rw [HBL.out] at hap hrow5 hg5
    have hb5 : Below W.heap.size w4 w5 := ho5.below (by rw [Hw4.out]; simp) (fun k hk => by
      have := mem_blk.1 hk
      simp [Value.ownBlock] at this; omega)
    have hF5 : Fresh w w5 := ⟨(hb5.block _ HFW.out.lt).trans hF4.block, hF4.below.trans (hb5.mono (Nat.le_of_lt HFW.out.lt))⟩
    have hown5 : w5.ownsRow W.heap.size 5 1 (.slice A7 x c7) x (bv r) := own_raise (by rw [← HBL.out]; rw [← HBL.out] at hrow5; exact hrow5) (fun k hk => by
      rcases hg5 k hk with h | h
      · have := mem_blk.1 h
        simp [Value.ownBlock] at this; omega
      · rw [Hw4.out] at h; simp at h; omega)
    obtain ⟨w6, Hw6⟩ : ∃ w6, Hid (w6 = (w5.setCell ⟨w.heap.size, 0, none⟩ (.int .i64 (y : Int))).setCell ⟨w.heap.size, 1, none⟩ (.slice A7 x c7)) := ⟨_, Lib.hid rfl⟩
    have HP6 := Lib.hid (hF5.put (.int .i64 (y : Int)) (.slice A7 x c7))
    rw [← Hw6.out] at HP6
    have hown6 : w6.ownsRow W.heap.size 5 1 (.slice A7 x c7) x (bv r) := by
      rw [Hw6.out]
      have hne : ∀ k, (Value.slice A7 x c7).ownBlock = some k → k ∉ [w.heap.size] := fun k hk hm => by
        have h1 := (hown5.lt k hk).1
        have h2 := HFW.out.lt
        rw [List.mem_singleton] at hm; omega
      exact own_only (own_only hown5 (only_setCell w5 ⟨w.heap.size, 0, none⟩ _) hne) (only_setCell _ ⟨w.heap.size, 1, none⟩ _) hne
    have key : GetEnd l w (.returned (.tuple #[.agg #[.int .i64 (y : Int), .slice A7 x c7], .int .i64 ((x : Int) + 16), .int .i64 0])) w6 :=
      .inr ⟨hE0, A7, x, c7, by rw [← Hy.out, ← Hx.out], by rw [← Hr.out]; exact HBL.out.symm, by rw [← Hr.out]; exact own_base hown6 (Nat.le_of_lt HFW.out.lt), by rw [← HBL.out]; exact h7a, h7b, HP6.out.2⟩
    have HK := Lib.hid key
    obtain ⟨hd0, hd1, he0, he1⟩ := hF5.cells
    rw [Hw4.out] at hap
    have HAP := Lib.hid hap
    clear hap hown5 hown6 key hb5 hrow5 ho5 hg5 hF5 hF4 hrow hE0 h7a hc0 hc1 hf0 hf1
    go_wp2_with (at_builtin; refine wpList_append_run rfl _ _ 23 rfl _ _ _ rfl rfl _ _ (by exact HAP.out) ?_)
    rw [← Hw6.out]
    refine bodyPost_ret (rrec_ret w6 _ w.heap.size rfl _ _ _ _ rfl rfl HP6.out.1) rfl HK.out
  · have q5' : ((u : Int) != (s : Int)) = true := by rw [bne_iff_ne]; omega
    have HKA := Lib.hid (getE_no l 3 (by rw [hE.out, if_pos (by omega)]) (by decide) w)
    clear hs hs1
    go_enter Tryd.func16, Tryd.ntmps16
    go_wp2_with fail
    rw [← Hw1.out]
    refine HN2.out.mono ?_
    rintro e w' ⟨rfl, rfl⟩
    clear HN2 hsl2
    go_wp2_with fail
    refine HN3.out.mono ?_
    rintro e w' ⟨rfl, rfl⟩
    clear HN3 hsl3
    go_wp2_with fail
    go_quiet ((first | (go_at_call 37; exact Calls.quiet_of_same (HN4.out _)) | (go_at_call 36; exact Calls.quiet_of_same (HN5.out _))))
    have HFW := Lib.hid (HF1.out.drewN nq)
    clear hc0 hc1 hf0 hf1 HN4 HN5 hsl4 hsl5
    obtain ⟨W, HW⟩ : ∃ W, Hid (W = w1.drewN nq) := ⟨_, Lib.hid rfl⟩
    rw [← HW.out] at HFW ⊢
    obtain ⟨hc0, hc1, hf0, hf1⟩ := HFW.out.cells
    obtain ⟨w3, Hw3⟩ : ∃ w3, Hid (w3 = (W.setCell ⟨w.heap.size, 0, none⟩ (.int .i64 0)).setCell ⟨w.heap.size, 1, none⟩ (.slice none 0 0)) := ⟨_, Lib.hid rfl⟩
    have HP3 := Lib.hid (HFW.out.put (.int .i64 0) (.slice none 0 0))
    rw [← Hw3.out] at HP3
    have HK := Lib.hid (HKA.out w3 HP3.out.2)
    go_wp2
    rw [← Hw3.out]
    refine bodyPost_ret (rrec_ret w3 _ w.heap.size rfl _ _ _ _ rfl rfl HP3.out.1) rfl HK.out
end Go.Proofs.YtdnbbnjmdddfdaaDoor
