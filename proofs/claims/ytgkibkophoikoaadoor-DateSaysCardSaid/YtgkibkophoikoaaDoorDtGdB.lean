/- The reference's GoodDate. -/
import Derived.Test.YtgkibkophoikoaaDoorDtGdA
namespace Go.Proofs.YtgkibkophoikoaaDoor
open Go.RowKit
set_option linter.unusedVariables false
set_option linter.unusedSimpArgs false


def gd10Vals (b : Nat) (y m k hh mi s z d : Int) : List (Nat × Nat × Value) := [(0, 3, .pointer (some ⟨b, 0, none⟩)), (1, 4, .int .i64 y), (2, 5, .bool true), (3, 6, .bool true), (4, 7, .pointer (some ⟨b, 0, none⟩)), (5, 8, .int .i64 y), (6, 9, .bool true), (7, 10, .bool true), (8, 11, .bool true), (9, 12, .pointer (some ⟨b, 1, none⟩)), (10, 13, .int .i64 m), (11, 14, .bool true), (12, 15, .bool true), (13, 16, .bool true), (14, 17, .pointer (some ⟨b, 1, none⟩)), (15, 18, .int .i64 m), (16, 19, .bool true), (17, 20, .bool true), (18, 21, .bool true), (19, 22, .pointer (some ⟨b, 2, none⟩)), (20, 23, .int .i64 k), (21, 24, .bool true), (22, 25, .bool true), (23, 26, .bool true), (24, 27, .pointer (some ⟨b, 2, none⟩)), (25, 28, .int .i64 k), (26, 29, .pointer (some ⟨b, 0, none⟩)), (27, 30, .int .i64 y), (28, 31, .pointer (some ⟨b, 1, none⟩)), (29, 32, .int .i64 m), (31, 34, .bool true), (32, 35, .bool true), (33, 36, .bool true), (34, 37, .pointer (some ⟨b, 3, none⟩)), (35, 38, .int .i64 hh), (36, 39, .bool true), (37, 40, .bool true), (38, 41, .bool true), (39, 42, .pointer (some ⟨b, 3, none⟩)), (40, 43, .int .i64 hh), (41, 44, .bool true), (42, 45, .bool true), (43, 46, .bool true), (44, 47, .pointer (some ⟨b, 4, none⟩)), (45, 48, .int .i64 mi), (46, 49, .bool true), (47, 50, .bool true), (48, 51, .bool true), (49, 52, .pointer (some ⟨b, 4, none⟩)), (50, 53, .int .i64 mi), (51, 54, .bool true), (52, 55, .bool true), (53, 56, .bool true), (54, 57, .pointer (some ⟨b, 5, none⟩)), (55, 58, .int .i64 s), (56, 59, .bool false), (57, 60, .bool false), (58, 61, .bool false), (59, 62, undef), (60, 63, undef), (61, 64, undef), (62, 65, .bool false), (63, 66, .bool false), (64, 67, undef), (65, 68, undef), (66, 69, undef), (67, 70, .bool false), (68, 71, .bool false), (69, 72, undef), (70, 73, undef), (71, 74, undef), (72, 75, .bool false), (73, 2, .bool false)]
def gd10C : List (Nat × Nat) := [(30, 33)]

set_option maxHeartbeats 4000000 in
set_option maxRecDepth 100000 in
theorem gd10 {Q : Exit → Act → World → Prop} {a0 : Act} {wp : World} (b : Nat) (y m k hh mi s z d : Int) (S : Nat → (Nat → Value) → World → Prop)
    (hsz : 75 < a0.tmps.size) (in1 : a0.eval (.tmp 1) = .pointer (some ⟨b, 0, none⟩))
    (hx : ∀ p R w, S p R w → w.cell? ⟨b, 0, none⟩ = some (.int .i64 y) ∧ w.cell? ⟨b, 1, none⟩ = some (.int .i64 m) ∧ w.cell? ⟨b, 2, none⟩ = some (.int .i64 k) ∧ w.cell? ⟨b, 3, none⟩ = some (.int .i64 hh) ∧ w.cell? ⟨b, 4, none⟩ = some (.int .i64 mi) ∧ w.cell? ⟨b, 5, none⟩ = some (.int .i64 s) ∧ w.cell? ⟨b, 6, none⟩ = some (.int .i64 z)) (c0 : decide (1970 ≤ y) = true) (c1 : decide (y ≤ 9999) = true) (c2 : decide (1 ≤ m) = true) (c3 : decide (m ≤ 12) = true) (c4 : decide (1 ≤ k) = true) (c5 : decide (k ≤ d) = true) (c6 : decide (0 ≤ hh) = true) (c7 : decide (hh ≤ 23) = true) (c8 : decide (0 ≤ mi) = true) (c9 : decide (mi ≤ 59) = true) (c10 : decide (0 ≤ s) = false)
    (hc : ∀ R w, S 0 R w → Calls Tryd.prog 37 #[.int .i64 y, .int .i64 m] w fun e w' => ∃ v, e = .returned v ∧ S 1 (setR R 0 v) w')
    (hv : ∀ p R w, S p R w → 0 < p → R 0 = .int .i64 d)
    (hS : S 0 (resOf gd10C fun t => a0.eval (.tmp t)) wp.drew)
    (fin : ∀ a w, Fr [3, 4, 5, 6, 7, 8, 9, 10, 11, 12, 13, 14, 15, 16, 17, 18, 19, 20, 21, 22, 23, 24, 25, 26, 27, 28, 29, 30, 31, 32, 33, 34, 35, 36, 37, 38, 39, 40, 41, 42, 43, 44, 45, 46, 47, 48, 49, 50, 51, 52, 53, 54, 55, 56, 57, 58, 59, 60, 61, 62, 63, 64, 65, 66, 67, 68, 69, 70, 71, 72, 73, 74, 75, 2] a0 a → a.eval (.tmp 2) = .bool false → S 1 (resOf gd10C fun t => a.eval (.tmp t)) w → Q .normal a w) :
    (Code.region 1 opsGd true).wp Tryd.prog Q a0 wp := by
  refine region_inv (by kernel_rfl) [3, 4, 5, 6, 7, 8, 9, 10, 11, 12, 13, 14, 15, 16, 17, 18, 19, 20, 21, 22, 23, 24, 25, 26, 27, 28, 29, 30, 31, 32, 33, 34, 35, 36, 37, 38, 39, 40, 41, 42, 43, 44, 45, 46, 47, 48, 49, 50, 51, 52, 53, 54, 55, 56, 57, 58, 59, 60, 61, 62, 63, 64, 65, 66, 67, 68, 69, 70, 71, 72, 73, 74, 75, 2] (by kernel_rfl) (by kernel_rfl) (fun t ht => by simp at ht; omega) (GV (gd10Vals b y m k hh mi s z d) gd10C S) (.start hS) ?_
    (fun L a w hf hall hG => fin a w hf (hG.val 72 73 2 _ rfl (hall 73 (by decide))) (hG.fin (fun c hc => by simp [gd10C] at hc; subst hc; exact hall _ (by decide))))
  clear hS fin
  intro ix oo ho L a w hfr hG hLi hdep hcl K hK
  have e1 : a.tmps[1]?.getD undef = .pointer (some ⟨b, 0, none⟩) := by rw [← ev]; exact (hfr.same 1 (by decide)).trans in1
  clear in1
  match ix, ho with
  | 0, ho =>
   obtain rfl := gdO0 ho
   rw [if_pos (show Region.wanted _ _ = true from rfl)]
   have HK := Lib.hid (hK (.pointer (some ⟨b, 0, none⟩)) w (hG.quiet 0 0 3 _ rfl (by kernel_rfl) (by kernel_rfl)))
   clear hx hc hv c0 c1 c2 c3 c4 c5 c6 c7 c8 c9 c10
   clear hG hcl hdep hfr hK hLi
   go_simp
   exact HK.out
  | 1, ho =>
   obtain rfl := gdO1 ho
   have x3 := gdX (hG.val 0 0 3 _ rfl (hdep ⟨0, .data⟩ (by simp) rfl))
   rw [if_pos (show Region.wanted _ _ = true from rfl)]
   obtain ⟨ph, hSp, hdone⟩ := hG.any
   have HK := Lib.hid (hK (.int .i64 y) w (hG.quiet 1 1 4 _ rfl (by kernel_rfl) (by kernel_rfl)))
   generalize (resOf gd10C fun t => a.eval (.tmp t)) = R at *
   obtain ⟨q0, q1, q2, q3, q4, q5, q6⟩ := hx _ _ _ hSp
   clear hx hc hv c0 c1 c2 c3 c4 c5 c6 c7 c8 c9 c10 q1 q2 q3 q4 q5 q6
   clear hSp hdone
   clear hG hcl hdep hfr hK hLi
   go_simp
   exact HK.out
  | 2, ho =>
   obtain rfl := gdO2 ho
   have x4 := gdX (hG.val 1 1 4 _ rfl (hdep ⟨1, .data⟩ (by simp) rfl))
   rw [if_pos (show Region.wanted _ _ = true from rfl)]
   have HK := Lib.hid (hK (.bool true) w (hG.quiet 2 2 5 _ rfl (by kernel_rfl) (by kernel_rfl)))
   clear hx hc hv c1 c2 c3 c4 c5 c6 c7 c8 c9 c10
   clear hG hcl hdep hfr hK hLi
   go_simp
   exact HK.out
  | 3, ho =>
   obtain rfl := gdO3 ho
   have x5 := gdX (hG.val 2 2 5 _ rfl (hdep ⟨2, .data⟩ (by simp) rfl))
   rw [if_pos (show Region.wanted _ _ = true from rfl)]
   have HK := Lib.hid (hK (.bool true) w (hG.quiet 3 3 6 _ rfl (by kernel_rfl) (by kernel_rfl)))
   clear hG hcl hdep hfr hK hLi
   go_simp
   exact HK.out
  | 4, ho =>
   obtain rfl := gdO4 ho
   rw [if_pos (gdT4 (hG.val 3 3 6 _ rfl (hdep ⟨3, .guard⟩ (by simp) rfl)))]
   have HK := Lib.hid (hK (.pointer (some ⟨b, 0, none⟩)) w (hG.quiet 4 4 7 _ rfl (by kernel_rfl) (by kernel_rfl)))
   clear hx hc hv c0 c1 c2 c3 c4 c5 c6 c7 c8 c9 c10
   clear hG hcl hdep hfr hK hLi
   go_simp
   exact HK.out
  | 5, ho =>
   obtain rfl := gdO5 ho
   have x7 := gdX (hG.val 4 4 7 _ rfl (hdep ⟨4, .data⟩ (by simp) rfl))
   rw [if_pos (gdT5 (hG.val 3 3 6 _ rfl (hdep ⟨3, .guard⟩ (by simp) rfl)))]
   obtain ⟨ph, hSp, hdone⟩ := hG.any
   have HK := Lib.hid (hK (.int .i64 y) w (hG.quiet 5 5 8 _ rfl (by kernel_rfl) (by kernel_rfl)))
   generalize (resOf gd10C fun t => a.eval (.tmp t)) = R at *
   obtain ⟨q0, q1, q2, q3, q4, q5, q6⟩ := hx _ _ _ hSp
   clear hx hc hv c0 c1 c2 c3 c4 c5 c6 c7 c8 c9 c10 q1 q2 q3 q4 q5 q6
   clear hSp hdone
   clear hG hcl hdep hfr hK hLi
   go_simp
   exact HK.out
  | 6, ho =>
   obtain rfl := gdO6 ho
   have x8 := gdX (hG.val 5 5 8 _ rfl (hdep ⟨5, .data⟩ (by simp) rfl))
   rw [if_pos (gdT6 (hG.val 3 3 6 _ rfl (hdep ⟨3, .guard⟩ (by simp) rfl)))]
   have HK := Lib.hid (hK (.bool true) w (hG.quiet 6 6 9 _ rfl (by kernel_rfl) (by kernel_rfl)))
   clear hx hc hv c0 c2 c3 c4 c5 c6 c7 c8 c9 c10
   clear hG hcl hdep hfr hK hLi
   go_simp
   exact HK.out
  | 7, ho =>
   obtain rfl := gdO7 ho
   have x6 := gdX (hG.val 3 3 6 _ rfl (hdep ⟨3, .data⟩ (by simp) rfl))
   have x9 := gdX (hG.val 6 6 9 _ rfl (hdep ⟨6, .data⟩ (by simp) rfl))
   rw [if_pos (show Region.wanted _ _ = true from rfl)]
   have HK := Lib.hid (hK (.bool true) w (hG.quiet 7 7 10 _ rfl (by kernel_rfl) (by kernel_rfl)))
   clear hG hcl hdep hfr hK hLi
   go_simp
   exact HK.out
  | 8, ho =>
   obtain rfl := gdO8 ho
   have x10 := gdX (hG.val 7 7 10 _ rfl (hdep ⟨7, .data⟩ (by simp) rfl))
   rw [if_pos (show Region.wanted _ _ = true from rfl)]
   have HK := Lib.hid (hK (.bool true) w (hG.quiet 8 8 11 _ rfl (by kernel_rfl) (by kernel_rfl)))
   clear hG hcl hdep hfr hK hLi
   go_simp
   exact HK.out
  | 9, ho =>
   obtain rfl := gdO9 ho
   rw [if_pos (gdT9 (hG.val 8 8 11 _ rfl (hdep ⟨8, .guard⟩ (by simp) rfl)))]
   have HK := Lib.hid (hK (.pointer (some ⟨b, 1, none⟩)) w (hG.quiet 9 9 12 _ rfl (by kernel_rfl) (by kernel_rfl)))
   clear hx hc hv c0 c1 c2 c3 c4 c5 c6 c7 c8 c9 c10
   clear hG hcl hdep hfr hK hLi
   go_simp
   exact HK.out
  | 10, ho =>
   obtain rfl := gdO10 ho
   have x12 := gdX (hG.val 9 9 12 _ rfl (hdep ⟨9, .data⟩ (by simp) rfl))
   rw [if_pos (gdT10 (hG.val 8 8 11 _ rfl (hdep ⟨8, .guard⟩ (by simp) rfl)))]
   obtain ⟨ph, hSp, hdone⟩ := hG.any
   have HK := Lib.hid (hK (.int .i64 m) w (hG.quiet 10 10 13 _ rfl (by kernel_rfl) (by kernel_rfl)))
   generalize (resOf gd10C fun t => a.eval (.tmp t)) = R at *
   obtain ⟨q0, q1, q2, q3, q4, q5, q6⟩ := hx _ _ _ hSp
   clear hx hc hv c0 c1 c2 c3 c4 c5 c6 c7 c8 c9 c10 q0 q2 q3 q4 q5 q6
   clear hSp hdone
   clear hG hcl hdep hfr hK hLi
   go_simp
   exact HK.out
  | 11, ho =>
   obtain rfl := gdO11 ho
   have x13 := gdX (hG.val 10 10 13 _ rfl (hdep ⟨10, .data⟩ (by simp) rfl))
   rw [if_pos (gdT11 (hG.val 8 8 11 _ rfl (hdep ⟨8, .guard⟩ (by simp) rfl)))]
   have HK := Lib.hid (hK (.bool true) w (hG.quiet 11 11 14 _ rfl (by kernel_rfl) (by kernel_rfl)))
   clear hx hc hv c0 c1 c3 c4 c5 c6 c7 c8 c9 c10
   clear hG hcl hdep hfr hK hLi
   go_simp
   exact HK.out
  | 12, ho =>
   obtain rfl := gdO12 ho
   have x11 := gdX (hG.val 8 8 11 _ rfl (hdep ⟨8, .data⟩ (by simp) rfl))
   have x14 := gdX (hG.val 11 11 14 _ rfl (hdep ⟨11, .data⟩ (by simp) rfl))
   rw [if_pos (show Region.wanted _ _ = true from rfl)]
   have HK := Lib.hid (hK (.bool true) w (hG.quiet 12 12 15 _ rfl (by kernel_rfl) (by kernel_rfl)))
   clear hG hcl hdep hfr hK hLi
   go_simp
   exact HK.out
  | 13, ho =>
   obtain rfl := gdO13 ho
   have x15 := gdX (hG.val 12 12 15 _ rfl (hdep ⟨12, .data⟩ (by simp) rfl))
   rw [if_pos (show Region.wanted _ _ = true from rfl)]
   have HK := Lib.hid (hK (.bool true) w (hG.quiet 13 13 16 _ rfl (by kernel_rfl) (by kernel_rfl)))
   clear hG hcl hdep hfr hK hLi
   go_simp
   exact HK.out
  | 14, ho =>
   obtain rfl := gdO14 ho
   rw [if_pos (gdT14 (hG.val 13 13 16 _ rfl (hdep ⟨13, .guard⟩ (by simp) rfl)))]
   have HK := Lib.hid (hK (.pointer (some ⟨b, 1, none⟩)) w (hG.quiet 14 14 17 _ rfl (by kernel_rfl) (by kernel_rfl)))
   clear hx hc hv c0 c1 c2 c3 c4 c5 c6 c7 c8 c9 c10
   clear hG hcl hdep hfr hK hLi
   go_simp
   exact HK.out
  | 15, ho =>
   obtain rfl := gdO15 ho
   have x17 := gdX (hG.val 14 14 17 _ rfl (hdep ⟨14, .data⟩ (by simp) rfl))
   rw [if_pos (gdT15 (hG.val 13 13 16 _ rfl (hdep ⟨13, .guard⟩ (by simp) rfl)))]
   obtain ⟨ph, hSp, hdone⟩ := hG.any
   have HK := Lib.hid (hK (.int .i64 m) w (hG.quiet 15 15 18 _ rfl (by kernel_rfl) (by kernel_rfl)))
   generalize (resOf gd10C fun t => a.eval (.tmp t)) = R at *
   obtain ⟨q0, q1, q2, q3, q4, q5, q6⟩ := hx _ _ _ hSp
   clear hx hc hv c0 c1 c2 c3 c4 c5 c6 c7 c8 c9 c10 q0 q2 q3 q4 q5 q6
   clear hSp hdone
   clear hG hcl hdep hfr hK hLi
   go_simp
   exact HK.out
  | 16, ho =>
   obtain rfl := gdO16 ho
   have x18 := gdX (hG.val 15 15 18 _ rfl (hdep ⟨15, .data⟩ (by simp) rfl))
   rw [if_pos (gdT16 (hG.val 13 13 16 _ rfl (hdep ⟨13, .guard⟩ (by simp) rfl)))]
   have HK := Lib.hid (hK (.bool true) w (hG.quiet 16 16 19 _ rfl (by kernel_rfl) (by kernel_rfl)))
   clear hx hc hv c0 c1 c2 c4 c5 c6 c7 c8 c9 c10
   clear hG hcl hdep hfr hK hLi
   go_simp
   exact HK.out
  | 17, ho =>
   obtain rfl := gdO17 ho
   have x16 := gdX (hG.val 13 13 16 _ rfl (hdep ⟨13, .data⟩ (by simp) rfl))
   have x19 := gdX (hG.val 16 16 19 _ rfl (hdep ⟨16, .data⟩ (by simp) rfl))
   rw [if_pos (show Region.wanted _ _ = true from rfl)]
   have HK := Lib.hid (hK (.bool true) w (hG.quiet 17 17 20 _ rfl (by kernel_rfl) (by kernel_rfl)))
   clear hG hcl hdep hfr hK hLi
   go_simp
   exact HK.out
  | 18, ho =>
   obtain rfl := gdO18 ho
   have x20 := gdX (hG.val 17 17 20 _ rfl (hdep ⟨17, .data⟩ (by simp) rfl))
   rw [if_pos (show Region.wanted _ _ = true from rfl)]
   have HK := Lib.hid (hK (.bool true) w (hG.quiet 18 18 21 _ rfl (by kernel_rfl) (by kernel_rfl)))
   clear hG hcl hdep hfr hK hLi
   go_simp
   exact HK.out
  | 19, ho =>
   obtain rfl := gdO19 ho
   rw [if_pos (gdT19 (hG.val 18 18 21 _ rfl (hdep ⟨18, .guard⟩ (by simp) rfl)))]
   have HK := Lib.hid (hK (.pointer (some ⟨b, 2, none⟩)) w (hG.quiet 19 19 22 _ rfl (by kernel_rfl) (by kernel_rfl)))
   clear hx hc hv c0 c1 c2 c3 c4 c5 c6 c7 c8 c9 c10
   clear hG hcl hdep hfr hK hLi
   go_simp
   exact HK.out
  | 20, ho =>
   obtain rfl := gdO20 ho
   have x22 := gdX (hG.val 19 19 22 _ rfl (hdep ⟨19, .data⟩ (by simp) rfl))
   rw [if_pos (gdT20 (hG.val 18 18 21 _ rfl (hdep ⟨18, .guard⟩ (by simp) rfl)))]
   obtain ⟨ph, hSp, hdone⟩ := hG.any
   have HK := Lib.hid (hK (.int .i64 k) w (hG.quiet 20 20 23 _ rfl (by kernel_rfl) (by kernel_rfl)))
   generalize (resOf gd10C fun t => a.eval (.tmp t)) = R at *
   obtain ⟨q0, q1, q2, q3, q4, q5, q6⟩ := hx _ _ _ hSp
   clear hx hc hv c0 c1 c2 c3 c4 c5 c6 c7 c8 c9 c10 q0 q1 q3 q4 q5 q6
   clear hSp hdone
   clear hG hcl hdep hfr hK hLi
   go_simp
   exact HK.out
  | 21, ho =>
   obtain rfl := gdO21 ho
   have x23 := gdX (hG.val 20 20 23 _ rfl (hdep ⟨20, .data⟩ (by simp) rfl))
   rw [if_pos (gdT21 (hG.val 18 18 21 _ rfl (hdep ⟨18, .guard⟩ (by simp) rfl)))]
   have HK := Lib.hid (hK (.bool true) w (hG.quiet 21 21 24 _ rfl (by kernel_rfl) (by kernel_rfl)))
   clear hx hc hv c0 c1 c2 c3 c5 c6 c7 c8 c9 c10
   clear hG hcl hdep hfr hK hLi
   go_simp
   exact HK.out
  | 22, ho =>
   obtain rfl := gdO22 ho
   have x21 := gdX (hG.val 18 18 21 _ rfl (hdep ⟨18, .data⟩ (by simp) rfl))
   have x24 := gdX (hG.val 21 21 24 _ rfl (hdep ⟨21, .data⟩ (by simp) rfl))
   rw [if_pos (show Region.wanted _ _ = true from rfl)]
   have HK := Lib.hid (hK (.bool true) w (hG.quiet 22 22 25 _ rfl (by kernel_rfl) (by kernel_rfl)))
   clear hG hcl hdep hfr hK hLi
   go_simp
   exact HK.out
  | 23, ho =>
   obtain rfl := gdO23 ho
   have x25 := gdX (hG.val 22 22 25 _ rfl (hdep ⟨22, .data⟩ (by simp) rfl))
   rw [if_pos (show Region.wanted _ _ = true from rfl)]
   have HK := Lib.hid (hK (.bool true) w (hG.quiet 23 23 26 _ rfl (by kernel_rfl) (by kernel_rfl)))
   clear hG hcl hdep hfr hK hLi
   go_simp
   exact HK.out
  | 24, ho =>
   obtain rfl := gdO24 ho
   rw [if_pos (gdT24 (hG.val 23 23 26 _ rfl (hdep ⟨23, .guard⟩ (by simp) rfl)))]
   have HK := Lib.hid (hK (.pointer (some ⟨b, 2, none⟩)) w (hG.quiet 24 24 27 _ rfl (by kernel_rfl) (by kernel_rfl)))
   clear hx hc hv c0 c1 c2 c3 c4 c5 c6 c7 c8 c9 c10
   clear hG hcl hdep hfr hK hLi
   go_simp
   exact HK.out
  | 25, ho =>
   obtain rfl := gdO25 ho
   have x27 := gdX (hG.val 24 24 27 _ rfl (hdep ⟨24, .data⟩ (by simp) rfl))
   rw [if_pos (gdT25 (hG.val 23 23 26 _ rfl (hdep ⟨23, .guard⟩ (by simp) rfl)))]
   obtain ⟨ph, hSp, hdone⟩ := hG.any
   have HK := Lib.hid (hK (.int .i64 k) w (hG.quiet 25 25 28 _ rfl (by kernel_rfl) (by kernel_rfl)))
   generalize (resOf gd10C fun t => a.eval (.tmp t)) = R at *
   obtain ⟨q0, q1, q2, q3, q4, q5, q6⟩ := hx _ _ _ hSp
   clear hx hc hv c0 c1 c2 c3 c4 c5 c6 c7 c8 c9 c10 q0 q1 q3 q4 q5 q6
   clear hSp hdone
   clear hG hcl hdep hfr hK hLi
   go_simp
   exact HK.out
  | 26, ho =>
   obtain rfl := gdO26 ho
   rw [if_pos (gdT26 (hG.val 23 23 26 _ rfl (hdep ⟨23, .guard⟩ (by simp) rfl)))]
   have HK := Lib.hid (hK (.pointer (some ⟨b, 0, none⟩)) w (hG.quiet 26 26 29 _ rfl (by kernel_rfl) (by kernel_rfl)))
   clear hx hc hv c0 c1 c2 c3 c4 c5 c6 c7 c8 c9 c10
   clear hG hcl hdep hfr hK hLi
   go_simp
   exact HK.out
  | 27, ho =>
   obtain rfl := gdO27 ho
   have x29 := gdX (hG.val 26 26 29 _ rfl (hdep ⟨26, .data⟩ (by simp) rfl))
   rw [if_pos (gdT27 (hG.val 23 23 26 _ rfl (hdep ⟨23, .guard⟩ (by simp) rfl)))]
   obtain ⟨ph, hSp, hdone⟩ := hG.any
   have HK := Lib.hid (hK (.int .i64 y) w (hG.quiet 27 27 30 _ rfl (by kernel_rfl) (by kernel_rfl)))
   generalize (resOf gd10C fun t => a.eval (.tmp t)) = R at *
   obtain ⟨q0, q1, q2, q3, q4, q5, q6⟩ := hx _ _ _ hSp
   clear hx hc hv c0 c1 c2 c3 c4 c5 c6 c7 c8 c9 c10 q1 q2 q3 q4 q5 q6
   clear hSp hdone
   clear hG hcl hdep hfr hK hLi
   go_simp
   exact HK.out
  | 28, ho =>
   obtain rfl := gdO28 ho
   rw [if_pos (gdT28 (hG.val 23 23 26 _ rfl (hdep ⟨23, .guard⟩ (by simp) rfl)))]
   have HK := Lib.hid (hK (.pointer (some ⟨b, 1, none⟩)) w (hG.quiet 28 28 31 _ rfl (by kernel_rfl) (by kernel_rfl)))
   clear hx hc hv c0 c1 c2 c3 c4 c5 c6 c7 c8 c9 c10
   clear hG hcl hdep hfr hK hLi
   go_simp
   exact HK.out
  | 29, ho =>
   obtain rfl := gdO29 ho
   have x31 := gdX (hG.val 28 28 31 _ rfl (hdep ⟨28, .data⟩ (by simp) rfl))
   rw [if_pos (gdT29 (hG.val 23 23 26 _ rfl (hdep ⟨23, .guard⟩ (by simp) rfl)))]
   obtain ⟨ph, hSp, hdone⟩ := hG.any
   have HK := Lib.hid (hK (.int .i64 m) w (hG.quiet 29 29 32 _ rfl (by kernel_rfl) (by kernel_rfl)))
   generalize (resOf gd10C fun t => a.eval (.tmp t)) = R at *
   obtain ⟨q0, q1, q2, q3, q4, q5, q6⟩ := hx _ _ _ hSp
   clear hx hc hv c0 c1 c2 c3 c4 c5 c6 c7 c8 c9 c10 q0 q2 q3 q4 q5 q6
   clear hSp hdone
   clear hG hcl hdep hfr hK hLi
   go_simp
   exact HK.out
  | 30, ho =>
   obtain rfl := gdO30 ho
   have x30 := gdX (hG.val 27 27 30 _ rfl (hdep ⟨27, .data⟩ (by simp) rfl))
   have x32 := gdX (hG.val 29 29 32 _ rfl (hdep ⟨29, .data⟩ (by simp) rfl))
   rw [if_pos (gdT30 (hG.val 23 23 26 _ rfl (hdep ⟨23, .chain⟩ (by simp) rfl)))]
   have hSj := hG.at 0 (30, 33) rfl hLi (fun c h0 hc => absurd h0 (by decide))
   have hfin := fun v w' hs => hK v w' (hG.call 0 (30, 33) rfl hLi (fun c h0 hc => absurd h0 (by decide)) (by kernel_rfl) v w' hs)
   have HK := Lib.hid hfin
   generalize (resOf gd10C fun t => a.eval (.tmp t)) = R at *
   clear hG hcl hdep hfr hK hfin hLi
   have hcc := Lib.hid (hc _ _ hSj)
   clear hSj hx hc hv c0 c1 c2 c3 c4 c5 c6 c7 c8 c9 c10
   go_simp
   go_at_call 37
   refine hcc.out.mono ?_
   rintro e w' ⟨v, rfl, hs⟩
   exact HK.out v w' hs
  | 31, ho =>
   obtain rfl := gdO31 ho
   have x28 := gdX (hG.val 25 25 28 _ rfl (hdep ⟨25, .data⟩ (by simp) rfl))
   rw [if_pos (gdT31 (hG.val 23 23 26 _ rfl (hdep ⟨23, .guard⟩ (by simp) rfl)))]
   obtain ⟨ph, hSp, hdone⟩ := hG.any
   have hd33 : 0 < ph := hdone 0 (30, 33) rfl (hdep ⟨30, .data⟩ (by simp) rfl)
   have r33 : a.tmps[33]?.getD undef = resOf gd10C (fun t => a.eval (.tmp t)) 0 := by rw [← ev]; exact (resOf_at (C := gd10C) (j := 0) rfl a).symm
   have HK := Lib.hid (hK (.bool true) w (hG.quiet 30 31 34 _ rfl (by kernel_rfl) (by kernel_rfl)))
   generalize (resOf gd10C fun t => a.eval (.tmp t)) = R at *
   rw [hv _ _ _ hSp hd33] at r33
   clear hd33
   clear hx hc hv c0 c1 c2 c3 c4 c6 c7 c8 c9 c10
   clear hSp hdone
   clear hG hcl hdep hfr hK hLi
   go_simp
   exact HK.out
  | 32, ho =>
   obtain rfl := gdO32 ho
   have x26 := gdX (hG.val 23 23 26 _ rfl (hdep ⟨23, .data⟩ (by simp) rfl))
   have x34 := gdX (hG.val 30 31 34 _ rfl (hdep ⟨31, .data⟩ (by simp) rfl))
   rw [if_pos (show Region.wanted _ _ = true from rfl)]
   have HK := Lib.hid (hK (.bool true) w (hG.quiet 31 32 35 _ rfl (by kernel_rfl) (by kernel_rfl)))
   clear hG hcl hdep hfr hK hLi
   go_simp
   exact HK.out
  | 33, ho =>
   obtain rfl := gdO33 ho
   have x35 := gdX (hG.val 31 32 35 _ rfl (hdep ⟨32, .data⟩ (by simp) rfl))
   rw [if_pos (show Region.wanted _ _ = true from rfl)]
   have HK := Lib.hid (hK (.bool true) w (hG.quiet 32 33 36 _ rfl (by kernel_rfl) (by kernel_rfl)))
   clear hG hcl hdep hfr hK hLi
   go_simp
   exact HK.out
  | 34, ho =>
   obtain rfl := gdO34 ho
   rw [if_pos (gdT34 (hG.val 32 33 36 _ rfl (hdep ⟨33, .guard⟩ (by simp) rfl)))]
   have HK := Lib.hid (hK (.pointer (some ⟨b, 3, none⟩)) w (hG.quiet 33 34 37 _ rfl (by kernel_rfl) (by kernel_rfl)))
   clear hx hc hv c0 c1 c2 c3 c4 c5 c6 c7 c8 c9 c10
   clear hG hcl hdep hfr hK hLi
   go_simp
   exact HK.out
  | 35, ho =>
   obtain rfl := gdO35 ho
   have x37 := gdX (hG.val 33 34 37 _ rfl (hdep ⟨34, .data⟩ (by simp) rfl))
   rw [if_pos (gdT35 (hG.val 32 33 36 _ rfl (hdep ⟨33, .guard⟩ (by simp) rfl)))]
   obtain ⟨ph, hSp, hdone⟩ := hG.any
   have HK := Lib.hid (hK (.int .i64 hh) w (hG.quiet 34 35 38 _ rfl (by kernel_rfl) (by kernel_rfl)))
   generalize (resOf gd10C fun t => a.eval (.tmp t)) = R at *
   obtain ⟨q0, q1, q2, q3, q4, q5, q6⟩ := hx _ _ _ hSp
   clear hx hc hv c0 c1 c2 c3 c4 c5 c6 c7 c8 c9 c10 q0 q1 q2 q4 q5 q6
   clear hSp hdone
   clear hG hcl hdep hfr hK hLi
   go_simp
   exact HK.out
  | 36, ho =>
   obtain rfl := gdO36 ho
   have x38 := gdX (hG.val 34 35 38 _ rfl (hdep ⟨35, .data⟩ (by simp) rfl))
   rw [if_pos (gdT36 (hG.val 32 33 36 _ rfl (hdep ⟨33, .guard⟩ (by simp) rfl)))]
   have HK := Lib.hid (hK (.bool true) w (hG.quiet 35 36 39 _ rfl (by kernel_rfl) (by kernel_rfl)))
   clear hx hc hv c0 c1 c2 c3 c4 c5 c7 c8 c9 c10
   clear hG hcl hdep hfr hK hLi
   go_simp
   exact HK.out
  | 37, ho =>
   obtain rfl := gdO37 ho
   have x36 := gdX (hG.val 32 33 36 _ rfl (hdep ⟨33, .data⟩ (by simp) rfl))
   have x39 := gdX (hG.val 35 36 39 _ rfl (hdep ⟨36, .data⟩ (by simp) rfl))
   rw [if_pos (show Region.wanted _ _ = true from rfl)]
   have HK := Lib.hid (hK (.bool true) w (hG.quiet 36 37 40 _ rfl (by kernel_rfl) (by kernel_rfl)))
   clear hG hcl hdep hfr hK hLi
   go_simp
   exact HK.out
  | 38, ho =>
   obtain rfl := gdO38 ho
   have x40 := gdX (hG.val 36 37 40 _ rfl (hdep ⟨37, .data⟩ (by simp) rfl))
   rw [if_pos (show Region.wanted _ _ = true from rfl)]
   have HK := Lib.hid (hK (.bool true) w (hG.quiet 37 38 41 _ rfl (by kernel_rfl) (by kernel_rfl)))
   clear hG hcl hdep hfr hK hLi
   go_simp
   exact HK.out
  | 39, ho =>
   obtain rfl := gdO39 ho
   rw [if_pos (gdT39 (hG.val 37 38 41 _ rfl (hdep ⟨38, .guard⟩ (by simp) rfl)))]
   have HK := Lib.hid (hK (.pointer (some ⟨b, 3, none⟩)) w (hG.quiet 38 39 42 _ rfl (by kernel_rfl) (by kernel_rfl)))
   clear hx hc hv c0 c1 c2 c3 c4 c5 c6 c7 c8 c9 c10
   clear hG hcl hdep hfr hK hLi
   go_simp
   exact HK.out
  | 40, ho =>
   obtain rfl := gdO40 ho
   have x42 := gdX (hG.val 38 39 42 _ rfl (hdep ⟨39, .data⟩ (by simp) rfl))
   rw [if_pos (gdT40 (hG.val 37 38 41 _ rfl (hdep ⟨38, .guard⟩ (by simp) rfl)))]
   obtain ⟨ph, hSp, hdone⟩ := hG.any
   have HK := Lib.hid (hK (.int .i64 hh) w (hG.quiet 39 40 43 _ rfl (by kernel_rfl) (by kernel_rfl)))
   generalize (resOf gd10C fun t => a.eval (.tmp t)) = R at *
   obtain ⟨q0, q1, q2, q3, q4, q5, q6⟩ := hx _ _ _ hSp
   clear hx hc hv c0 c1 c2 c3 c4 c5 c6 c7 c8 c9 c10 q0 q1 q2 q4 q5 q6
   clear hSp hdone
   clear hG hcl hdep hfr hK hLi
   go_simp
   exact HK.out
  | 41, ho =>
   obtain rfl := gdO41 ho
   have x43 := gdX (hG.val 39 40 43 _ rfl (hdep ⟨40, .data⟩ (by simp) rfl))
   rw [if_pos (gdT41 (hG.val 37 38 41 _ rfl (hdep ⟨38, .guard⟩ (by simp) rfl)))]
   have HK := Lib.hid (hK (.bool true) w (hG.quiet 40 41 44 _ rfl (by kernel_rfl) (by kernel_rfl)))
   clear hx hc hv c0 c1 c2 c3 c4 c5 c6 c8 c9 c10
   clear hG hcl hdep hfr hK hLi
   go_simp
   exact HK.out
  | 42, ho =>
   obtain rfl := gdO42 ho
   have x41 := gdX (hG.val 37 38 41 _ rfl (hdep ⟨38, .data⟩ (by simp) rfl))
   have x44 := gdX (hG.val 40 41 44 _ rfl (hdep ⟨41, .data⟩ (by simp) rfl))
   rw [if_pos (show Region.wanted _ _ = true from rfl)]
   have HK := Lib.hid (hK (.bool true) w (hG.quiet 41 42 45 _ rfl (by kernel_rfl) (by kernel_rfl)))
   clear hG hcl hdep hfr hK hLi
   go_simp
   exact HK.out
  | 43, ho =>
   obtain rfl := gdO43 ho
   have x45 := gdX (hG.val 41 42 45 _ rfl (hdep ⟨42, .data⟩ (by simp) rfl))
   rw [if_pos (show Region.wanted _ _ = true from rfl)]
   have HK := Lib.hid (hK (.bool true) w (hG.quiet 42 43 46 _ rfl (by kernel_rfl) (by kernel_rfl)))
   clear hG hcl hdep hfr hK hLi
   go_simp
   exact HK.out
  | 44, ho =>
   obtain rfl := gdO44 ho
   rw [if_pos (gdT44 (hG.val 42 43 46 _ rfl (hdep ⟨43, .guard⟩ (by simp) rfl)))]
   have HK := Lib.hid (hK (.pointer (some ⟨b, 4, none⟩)) w (hG.quiet 43 44 47 _ rfl (by kernel_rfl) (by kernel_rfl)))
   clear hx hc hv c0 c1 c2 c3 c4 c5 c6 c7 c8 c9 c10
   clear hG hcl hdep hfr hK hLi
   go_simp
   exact HK.out
  | 45, ho =>
   obtain rfl := gdO45 ho
   have x47 := gdX (hG.val 43 44 47 _ rfl (hdep ⟨44, .data⟩ (by simp) rfl))
   rw [if_pos (gdT45 (hG.val 42 43 46 _ rfl (hdep ⟨43, .guard⟩ (by simp) rfl)))]
   obtain ⟨ph, hSp, hdone⟩ := hG.any
   have HK := Lib.hid (hK (.int .i64 mi) w (hG.quiet 44 45 48 _ rfl (by kernel_rfl) (by kernel_rfl)))
   generalize (resOf gd10C fun t => a.eval (.tmp t)) = R at *
   obtain ⟨q0, q1, q2, q3, q4, q5, q6⟩ := hx _ _ _ hSp
   clear hx hc hv c0 c1 c2 c3 c4 c5 c6 c7 c8 c9 c10 q0 q1 q2 q3 q5 q6
   clear hSp hdone
   clear hG hcl hdep hfr hK hLi
   go_simp
   exact HK.out
  | 46, ho =>
   obtain rfl := gdO46 ho
   have x48 := gdX (hG.val 44 45 48 _ rfl (hdep ⟨45, .data⟩ (by simp) rfl))
   rw [if_pos (gdT46 (hG.val 42 43 46 _ rfl (hdep ⟨43, .guard⟩ (by simp) rfl)))]
   have HK := Lib.hid (hK (.bool true) w (hG.quiet 45 46 49 _ rfl (by kernel_rfl) (by kernel_rfl)))
   clear hx hc hv c0 c1 c2 c3 c4 c5 c6 c7 c9 c10
   clear hG hcl hdep hfr hK hLi
   go_simp
   exact HK.out
  | 47, ho =>
   obtain rfl := gdO47 ho
   have x46 := gdX (hG.val 42 43 46 _ rfl (hdep ⟨43, .data⟩ (by simp) rfl))
   have x49 := gdX (hG.val 45 46 49 _ rfl (hdep ⟨46, .data⟩ (by simp) rfl))
   rw [if_pos (show Region.wanted _ _ = true from rfl)]
   have HK := Lib.hid (hK (.bool true) w (hG.quiet 46 47 50 _ rfl (by kernel_rfl) (by kernel_rfl)))
   clear hG hcl hdep hfr hK hLi
   go_simp
   exact HK.out
  | 48, ho =>
   obtain rfl := gdO48 ho
   have x50 := gdX (hG.val 46 47 50 _ rfl (hdep ⟨47, .data⟩ (by simp) rfl))
   rw [if_pos (show Region.wanted _ _ = true from rfl)]
   have HK := Lib.hid (hK (.bool true) w (hG.quiet 47 48 51 _ rfl (by kernel_rfl) (by kernel_rfl)))
   clear hG hcl hdep hfr hK hLi
   go_simp
   exact HK.out
  | 49, ho =>
   obtain rfl := gdO49 ho
   rw [if_pos (gdT49 (hG.val 47 48 51 _ rfl (hdep ⟨48, .guard⟩ (by simp) rfl)))]
   have HK := Lib.hid (hK (.pointer (some ⟨b, 4, none⟩)) w (hG.quiet 48 49 52 _ rfl (by kernel_rfl) (by kernel_rfl)))
   clear hx hc hv c0 c1 c2 c3 c4 c5 c6 c7 c8 c9 c10
   clear hG hcl hdep hfr hK hLi
   go_simp
   exact HK.out
  | 50, ho =>
   obtain rfl := gdO50 ho
   have x52 := gdX (hG.val 48 49 52 _ rfl (hdep ⟨49, .data⟩ (by simp) rfl))
   rw [if_pos (gdT50 (hG.val 47 48 51 _ rfl (hdep ⟨48, .guard⟩ (by simp) rfl)))]
   obtain ⟨ph, hSp, hdone⟩ := hG.any
   have HK := Lib.hid (hK (.int .i64 mi) w (hG.quiet 49 50 53 _ rfl (by kernel_rfl) (by kernel_rfl)))
   generalize (resOf gd10C fun t => a.eval (.tmp t)) = R at *
   obtain ⟨q0, q1, q2, q3, q4, q5, q6⟩ := hx _ _ _ hSp
   clear hx hc hv c0 c1 c2 c3 c4 c5 c6 c7 c8 c9 c10 q0 q1 q2 q3 q5 q6
   clear hSp hdone
   clear hG hcl hdep hfr hK hLi
   go_simp
   exact HK.out
  | 51, ho =>
   obtain rfl := gdO51 ho
   have x53 := gdX (hG.val 49 50 53 _ rfl (hdep ⟨50, .data⟩ (by simp) rfl))
   rw [if_pos (gdT51 (hG.val 47 48 51 _ rfl (hdep ⟨48, .guard⟩ (by simp) rfl)))]
   have HK := Lib.hid (hK (.bool true) w (hG.quiet 50 51 54 _ rfl (by kernel_rfl) (by kernel_rfl)))
   clear hx hc hv c0 c1 c2 c3 c4 c5 c6 c7 c8 c10
   clear hG hcl hdep hfr hK hLi
   go_simp
   exact HK.out
  | 52, ho =>
   obtain rfl := gdO52 ho
   have x51 := gdX (hG.val 47 48 51 _ rfl (hdep ⟨48, .data⟩ (by simp) rfl))
   have x54 := gdX (hG.val 50 51 54 _ rfl (hdep ⟨51, .data⟩ (by simp) rfl))
   rw [if_pos (show Region.wanted _ _ = true from rfl)]
   have HK := Lib.hid (hK (.bool true) w (hG.quiet 51 52 55 _ rfl (by kernel_rfl) (by kernel_rfl)))
   clear hG hcl hdep hfr hK hLi
   go_simp
   exact HK.out
  | 53, ho =>
   obtain rfl := gdO53 ho
   have x55 := gdX (hG.val 51 52 55 _ rfl (hdep ⟨52, .data⟩ (by simp) rfl))
   rw [if_pos (show Region.wanted _ _ = true from rfl)]
   have HK := Lib.hid (hK (.bool true) w (hG.quiet 52 53 56 _ rfl (by kernel_rfl) (by kernel_rfl)))
   clear hG hcl hdep hfr hK hLi
   go_simp
   exact HK.out
  | 54, ho =>
   obtain rfl := gdO54 ho
   rw [if_pos (gdT54 (hG.val 52 53 56 _ rfl (hdep ⟨53, .guard⟩ (by simp) rfl)))]
   have HK := Lib.hid (hK (.pointer (some ⟨b, 5, none⟩)) w (hG.quiet 53 54 57 _ rfl (by kernel_rfl) (by kernel_rfl)))
   clear hx hc hv c0 c1 c2 c3 c4 c5 c6 c7 c8 c9 c10
   clear hG hcl hdep hfr hK hLi
   go_simp
   exact HK.out
  | 55, ho =>
   obtain rfl := gdO55 ho
   have x57 := gdX (hG.val 53 54 57 _ rfl (hdep ⟨54, .data⟩ (by simp) rfl))
   rw [if_pos (gdT55 (hG.val 52 53 56 _ rfl (hdep ⟨53, .guard⟩ (by simp) rfl)))]
   obtain ⟨ph, hSp, hdone⟩ := hG.any
   have HK := Lib.hid (hK (.int .i64 s) w (hG.quiet 54 55 58 _ rfl (by kernel_rfl) (by kernel_rfl)))
   generalize (resOf gd10C fun t => a.eval (.tmp t)) = R at *
   obtain ⟨q0, q1, q2, q3, q4, q5, q6⟩ := hx _ _ _ hSp
   clear hx hc hv c0 c1 c2 c3 c4 c5 c6 c7 c8 c9 c10 q0 q1 q2 q3 q4 q6
   clear hSp hdone
   clear hG hcl hdep hfr hK hLi
   go_simp
   exact HK.out
  | 56, ho =>
   obtain rfl := gdO56 ho
   have x58 := gdX (hG.val 54 55 58 _ rfl (hdep ⟨55, .data⟩ (by simp) rfl))
   rw [if_pos (gdT56 (hG.val 52 53 56 _ rfl (hdep ⟨53, .guard⟩ (by simp) rfl)))]
   have HK := Lib.hid (hK (.bool false) w (hG.quiet 55 56 59 _ rfl (by kernel_rfl) (by kernel_rfl)))
   clear hx hc hv c0 c1 c2 c3 c4 c5 c6 c7 c8 c9
   clear hG hcl hdep hfr hK hLi
   go_simp
   exact HK.out
  | 57, ho =>
   obtain rfl := gdO57 ho
   have x56 := gdX (hG.val 52 53 56 _ rfl (hdep ⟨53, .data⟩ (by simp) rfl))
   have x59 := gdX (hG.val 55 56 59 _ rfl (hdep ⟨56, .data⟩ (by simp) rfl))
   rw [if_pos (show Region.wanted _ _ = true from rfl)]
   have HK := Lib.hid (hK (.bool false) w (hG.quiet 56 57 60 _ rfl (by kernel_rfl) (by kernel_rfl)))
   clear hG hcl hdep hfr hK hLi
   go_simp
   exact HK.out
  | 58, ho =>
   obtain rfl := gdO58 ho
   have x60 := gdX (hG.val 56 57 60 _ rfl (hdep ⟨57, .data⟩ (by simp) rfl))
   rw [if_pos (show Region.wanted _ _ = true from rfl)]
   have HK := Lib.hid (hK (.bool false) w (hG.quiet 57 58 61 _ rfl (by kernel_rfl) (by kernel_rfl)))
   clear hG hcl hdep hfr hK hLi
   go_simp
   exact HK.out
  | 59, ho =>
   obtain rfl := gdO59 ho
   rw [if_neg (gdF59 (hG.val 57 58 61 _ rfl (hdep ⟨58, .guard⟩ (by simp) rfl)))]
   have HK := Lib.hid (hK (undef) w (hG.quiet 58 59 62 _ rfl (by kernel_rfl) (by kernel_rfl)))
   clear hG hcl hdep hfr hK hLi
   exact HK.out
  | 60, ho =>
   obtain rfl := gdO60 ho
   have x62 := gdX (hG.val 58 59 62 _ rfl (hdep ⟨59, .data⟩ (by simp) rfl))
   rw [if_neg (gdF60 (hG.val 57 58 61 _ rfl (hdep ⟨58, .guard⟩ (by simp) rfl)))]
   have HK := Lib.hid (hK (undef) w (hG.quiet 59 60 63 _ rfl (by kernel_rfl) (by kernel_rfl)))
   clear hG hcl hdep hfr hK hLi
   exact HK.out
  | 61, ho =>
   obtain rfl := gdO61 ho
   have x63 := gdX (hG.val 59 60 63 _ rfl (hdep ⟨60, .data⟩ (by simp) rfl))
   rw [if_neg (gdF61 (hG.val 57 58 61 _ rfl (hdep ⟨58, .guard⟩ (by simp) rfl)))]
   have HK := Lib.hid (hK (undef) w (hG.quiet 60 61 64 _ rfl (by kernel_rfl) (by kernel_rfl)))
   clear hG hcl hdep hfr hK hLi
   exact HK.out
  | 62, ho =>
   obtain rfl := gdO62 ho
   have x61 := gdX (hG.val 57 58 61 _ rfl (hdep ⟨58, .data⟩ (by simp) rfl))
   have x64 := gdX (hG.val 60 61 64 _ rfl (hdep ⟨61, .data⟩ (by simp) rfl))
   rw [if_pos (show Region.wanted _ _ = true from rfl)]
   have HK := Lib.hid (hK (.bool false) w (hG.quiet 61 62 65 _ rfl (by kernel_rfl) (by kernel_rfl)))
   clear hG hcl hdep hfr hK hLi
   go_simp
   exact HK.out
  | 63, ho =>
   obtain rfl := gdO63 ho
   have x65 := gdX (hG.val 61 62 65 _ rfl (hdep ⟨62, .data⟩ (by simp) rfl))
   rw [if_pos (show Region.wanted _ _ = true from rfl)]
   have HK := Lib.hid (hK (.bool false) w (hG.quiet 62 63 66 _ rfl (by kernel_rfl) (by kernel_rfl)))
   clear hG hcl hdep hfr hK hLi
   go_simp
   exact HK.out
  | 64, ho =>
   obtain rfl := gdO64 ho
   rw [if_neg (gdF64 (hG.val 62 63 66 _ rfl (hdep ⟨63, .guard⟩ (by simp) rfl)))]
   have HK := Lib.hid (hK (undef) w (hG.quiet 63 64 67 _ rfl (by kernel_rfl) (by kernel_rfl)))
   clear hG hcl hdep hfr hK hLi
   exact HK.out
  | 65, ho =>
   obtain rfl := gdO65 ho
   have x67 := gdX (hG.val 63 64 67 _ rfl (hdep ⟨64, .data⟩ (by simp) rfl))
   rw [if_neg (gdF65 (hG.val 62 63 66 _ rfl (hdep ⟨63, .guard⟩ (by simp) rfl)))]
   have HK := Lib.hid (hK (undef) w (hG.quiet 64 65 68 _ rfl (by kernel_rfl) (by kernel_rfl)))
   clear hG hcl hdep hfr hK hLi
   exact HK.out
  | 66, ho =>
   obtain rfl := gdO66 ho
   have x68 := gdX (hG.val 64 65 68 _ rfl (hdep ⟨65, .data⟩ (by simp) rfl))
   rw [if_neg (gdF66 (hG.val 62 63 66 _ rfl (hdep ⟨63, .guard⟩ (by simp) rfl)))]
   have HK := Lib.hid (hK (undef) w (hG.quiet 65 66 69 _ rfl (by kernel_rfl) (by kernel_rfl)))
   clear hG hcl hdep hfr hK hLi
   exact HK.out
  | 67, ho =>
   obtain rfl := gdO67 ho
   have x66 := gdX (hG.val 62 63 66 _ rfl (hdep ⟨63, .data⟩ (by simp) rfl))
   have x69 := gdX (hG.val 65 66 69 _ rfl (hdep ⟨66, .data⟩ (by simp) rfl))
   rw [if_pos (show Region.wanted _ _ = true from rfl)]
   have HK := Lib.hid (hK (.bool false) w (hG.quiet 66 67 70 _ rfl (by kernel_rfl) (by kernel_rfl)))
   clear hG hcl hdep hfr hK hLi
   go_simp
   exact HK.out
  | 68, ho =>
   obtain rfl := gdO68 ho
   have x70 := gdX (hG.val 66 67 70 _ rfl (hdep ⟨67, .data⟩ (by simp) rfl))
   rw [if_pos (show Region.wanted _ _ = true from rfl)]
   have HK := Lib.hid (hK (.bool false) w (hG.quiet 67 68 71 _ rfl (by kernel_rfl) (by kernel_rfl)))
   clear hG hcl hdep hfr hK hLi
   go_simp
   exact HK.out
  | 69, ho =>
   obtain rfl := gdO69 ho
   rw [if_neg (gdF69 (hG.val 67 68 71 _ rfl (hdep ⟨68, .guard⟩ (by simp) rfl)))]
   have HK := Lib.hid (hK (undef) w (hG.quiet 68 69 72 _ rfl (by kernel_rfl) (by kernel_rfl)))
   clear hG hcl hdep hfr hK hLi
   exact HK.out
  | 70, ho =>
   obtain rfl := gdO70 ho
   have x72 := gdX (hG.val 68 69 72 _ rfl (hdep ⟨69, .data⟩ (by simp) rfl))
   rw [if_neg (gdF70 (hG.val 67 68 71 _ rfl (hdep ⟨68, .guard⟩ (by simp) rfl)))]
   have HK := Lib.hid (hK (undef) w (hG.quiet 69 70 73 _ rfl (by kernel_rfl) (by kernel_rfl)))
   clear hG hcl hdep hfr hK hLi
   exact HK.out
  | 71, ho =>
   obtain rfl := gdO71 ho
   have x73 := gdX (hG.val 69 70 73 _ rfl (hdep ⟨70, .data⟩ (by simp) rfl))
   rw [if_neg (gdF71 (hG.val 67 68 71 _ rfl (hdep ⟨68, .guard⟩ (by simp) rfl)))]
   have HK := Lib.hid (hK (undef) w (hG.quiet 70 71 74 _ rfl (by kernel_rfl) (by kernel_rfl)))
   clear hG hcl hdep hfr hK hLi
   exact HK.out
  | 72, ho =>
   obtain rfl := gdO72 ho
   have x71 := gdX (hG.val 67 68 71 _ rfl (hdep ⟨68, .data⟩ (by simp) rfl))
   have x74 := gdX (hG.val 70 71 74 _ rfl (hdep ⟨71, .data⟩ (by simp) rfl))
   rw [if_pos (show Region.wanted _ _ = true from rfl)]
   have HK := Lib.hid (hK (.bool false) w (hG.quiet 71 72 75 _ rfl (by kernel_rfl) (by kernel_rfl)))
   clear hG hcl hdep hfr hK hLi
   go_simp
   exact HK.out
  | 73, ho =>
   obtain rfl := gdO73 ho
   have x75 := gdX (hG.val 71 72 75 _ rfl (hdep ⟨72, .data⟩ (by simp) rfl))
   rw [if_pos (show Region.wanted _ _ = true from rfl)]
   have HK := Lib.hid (hK (.bool false) w (hG.quiet 72 73 2 _ rfl (by kernel_rfl) (by kernel_rfl)))
   clear hG hcl hdep hfr hK hLi
   go_simp
   exact HK.out
  | n + 74, ho => exact absurd (Array.getElem?_eq_some_iff.1 ho).1 (by show ¬ n + 74 < 74; omega)


def gd11Vals (b : Nat) (y m k hh mi s z d : Int) : List (Nat × Nat × Value) := [(0, 3, .pointer (some ⟨b, 0, none⟩)), (1, 4, .int .i64 y), (2, 5, .bool true), (3, 6, .bool true), (4, 7, .pointer (some ⟨b, 0, none⟩)), (5, 8, .int .i64 y), (6, 9, .bool true), (7, 10, .bool true), (8, 11, .bool true), (9, 12, .pointer (some ⟨b, 1, none⟩)), (10, 13, .int .i64 m), (11, 14, .bool true), (12, 15, .bool true), (13, 16, .bool true), (14, 17, .pointer (some ⟨b, 1, none⟩)), (15, 18, .int .i64 m), (16, 19, .bool true), (17, 20, .bool true), (18, 21, .bool true), (19, 22, .pointer (some ⟨b, 2, none⟩)), (20, 23, .int .i64 k), (21, 24, .bool true), (22, 25, .bool true), (23, 26, .bool true), (24, 27, .pointer (some ⟨b, 2, none⟩)), (25, 28, .int .i64 k), (26, 29, .pointer (some ⟨b, 0, none⟩)), (27, 30, .int .i64 y), (28, 31, .pointer (some ⟨b, 1, none⟩)), (29, 32, .int .i64 m), (31, 34, .bool true), (32, 35, .bool true), (33, 36, .bool true), (34, 37, .pointer (some ⟨b, 3, none⟩)), (35, 38, .int .i64 hh), (36, 39, .bool true), (37, 40, .bool true), (38, 41, .bool true), (39, 42, .pointer (some ⟨b, 3, none⟩)), (40, 43, .int .i64 hh), (41, 44, .bool true), (42, 45, .bool true), (43, 46, .bool true), (44, 47, .pointer (some ⟨b, 4, none⟩)), (45, 48, .int .i64 mi), (46, 49, .bool true), (47, 50, .bool true), (48, 51, .bool true), (49, 52, .pointer (some ⟨b, 4, none⟩)), (50, 53, .int .i64 mi), (51, 54, .bool true), (52, 55, .bool true), (53, 56, .bool true), (54, 57, .pointer (some ⟨b, 5, none⟩)), (55, 58, .int .i64 s), (56, 59, .bool true), (57, 60, .bool true), (58, 61, .bool true), (59, 62, .pointer (some ⟨b, 5, none⟩)), (60, 63, .int .i64 s), (61, 64, .bool false), (62, 65, .bool false), (63, 66, .bool false), (64, 67, undef), (65, 68, undef), (66, 69, undef), (67, 70, .bool false), (68, 71, .bool false), (69, 72, undef), (70, 73, undef), (71, 74, undef), (72, 75, .bool false), (73, 2, .bool false)]
def gd11C : List (Nat × Nat) := [(30, 33)]

set_option maxHeartbeats 4000000 in
set_option maxRecDepth 100000 in
theorem gd11 {Q : Exit → Act → World → Prop} {a0 : Act} {wp : World} (b : Nat) (y m k hh mi s z d : Int) (S : Nat → (Nat → Value) → World → Prop)
    (hsz : 75 < a0.tmps.size) (in1 : a0.eval (.tmp 1) = .pointer (some ⟨b, 0, none⟩))
    (hx : ∀ p R w, S p R w → w.cell? ⟨b, 0, none⟩ = some (.int .i64 y) ∧ w.cell? ⟨b, 1, none⟩ = some (.int .i64 m) ∧ w.cell? ⟨b, 2, none⟩ = some (.int .i64 k) ∧ w.cell? ⟨b, 3, none⟩ = some (.int .i64 hh) ∧ w.cell? ⟨b, 4, none⟩ = some (.int .i64 mi) ∧ w.cell? ⟨b, 5, none⟩ = some (.int .i64 s) ∧ w.cell? ⟨b, 6, none⟩ = some (.int .i64 z)) (c0 : decide (1970 ≤ y) = true) (c1 : decide (y ≤ 9999) = true) (c2 : decide (1 ≤ m) = true) (c3 : decide (m ≤ 12) = true) (c4 : decide (1 ≤ k) = true) (c5 : decide (k ≤ d) = true) (c6 : decide (0 ≤ hh) = true) (c7 : decide (hh ≤ 23) = true) (c8 : decide (0 ≤ mi) = true) (c9 : decide (mi ≤ 59) = true) (c10 : decide (0 ≤ s) = true) (c11 : decide (s ≤ 59) = false)
    (hc : ∀ R w, S 0 R w → Calls Tryd.prog 37 #[.int .i64 y, .int .i64 m] w fun e w' => ∃ v, e = .returned v ∧ S 1 (setR R 0 v) w')
    (hv : ∀ p R w, S p R w → 0 < p → R 0 = .int .i64 d)
    (hS : S 0 (resOf gd11C fun t => a0.eval (.tmp t)) wp.drew)
    (fin : ∀ a w, Fr [3, 4, 5, 6, 7, 8, 9, 10, 11, 12, 13, 14, 15, 16, 17, 18, 19, 20, 21, 22, 23, 24, 25, 26, 27, 28, 29, 30, 31, 32, 33, 34, 35, 36, 37, 38, 39, 40, 41, 42, 43, 44, 45, 46, 47, 48, 49, 50, 51, 52, 53, 54, 55, 56, 57, 58, 59, 60, 61, 62, 63, 64, 65, 66, 67, 68, 69, 70, 71, 72, 73, 74, 75, 2] a0 a → a.eval (.tmp 2) = .bool false → S 1 (resOf gd11C fun t => a.eval (.tmp t)) w → Q .normal a w) :
    (Code.region 1 opsGd true).wp Tryd.prog Q a0 wp := by
  refine region_inv (by kernel_rfl) [3, 4, 5, 6, 7, 8, 9, 10, 11, 12, 13, 14, 15, 16, 17, 18, 19, 20, 21, 22, 23, 24, 25, 26, 27, 28, 29, 30, 31, 32, 33, 34, 35, 36, 37, 38, 39, 40, 41, 42, 43, 44, 45, 46, 47, 48, 49, 50, 51, 52, 53, 54, 55, 56, 57, 58, 59, 60, 61, 62, 63, 64, 65, 66, 67, 68, 69, 70, 71, 72, 73, 74, 75, 2] (by kernel_rfl) (by kernel_rfl) (fun t ht => by simp at ht; omega) (GV (gd11Vals b y m k hh mi s z d) gd11C S) (.start hS) ?_
    (fun L a w hf hall hG => fin a w hf (hG.val 72 73 2 _ rfl (hall 73 (by decide))) (hG.fin (fun c hc => by simp [gd11C] at hc; subst hc; exact hall _ (by decide))))
  clear hS fin
  intro ix oo ho L a w hfr hG hLi hdep hcl K hK
  have e1 : a.tmps[1]?.getD undef = .pointer (some ⟨b, 0, none⟩) := by rw [← ev]; exact (hfr.same 1 (by decide)).trans in1
  clear in1
  match ix, ho with
  | 0, ho =>
   obtain rfl := gdO0 ho
   rw [if_pos (show Region.wanted _ _ = true from rfl)]
   have HK := Lib.hid (hK (.pointer (some ⟨b, 0, none⟩)) w (hG.quiet 0 0 3 _ rfl (by kernel_rfl) (by kernel_rfl)))
   clear hx hc hv c0 c1 c2 c3 c4 c5 c6 c7 c8 c9 c10 c11
   clear hG hcl hdep hfr hK hLi
   go_simp
   exact HK.out
  | 1, ho =>
   obtain rfl := gdO1 ho
   have x3 := gdX (hG.val 0 0 3 _ rfl (hdep ⟨0, .data⟩ (by simp) rfl))
   rw [if_pos (show Region.wanted _ _ = true from rfl)]
   obtain ⟨ph, hSp, hdone⟩ := hG.any
   have HK := Lib.hid (hK (.int .i64 y) w (hG.quiet 1 1 4 _ rfl (by kernel_rfl) (by kernel_rfl)))
   generalize (resOf gd11C fun t => a.eval (.tmp t)) = R at *
   obtain ⟨q0, q1, q2, q3, q4, q5, q6⟩ := hx _ _ _ hSp
   clear hx hc hv c0 c1 c2 c3 c4 c5 c6 c7 c8 c9 c10 c11 q1 q2 q3 q4 q5 q6
   clear hSp hdone
   clear hG hcl hdep hfr hK hLi
   go_simp
   exact HK.out
  | 2, ho =>
   obtain rfl := gdO2 ho
   have x4 := gdX (hG.val 1 1 4 _ rfl (hdep ⟨1, .data⟩ (by simp) rfl))
   rw [if_pos (show Region.wanted _ _ = true from rfl)]
   have HK := Lib.hid (hK (.bool true) w (hG.quiet 2 2 5 _ rfl (by kernel_rfl) (by kernel_rfl)))
   clear hx hc hv c1 c2 c3 c4 c5 c6 c7 c8 c9 c10 c11
   clear hG hcl hdep hfr hK hLi
   go_simp
   exact HK.out
  | 3, ho =>
   obtain rfl := gdO3 ho
   have x5 := gdX (hG.val 2 2 5 _ rfl (hdep ⟨2, .data⟩ (by simp) rfl))
   rw [if_pos (show Region.wanted _ _ = true from rfl)]
   have HK := Lib.hid (hK (.bool true) w (hG.quiet 3 3 6 _ rfl (by kernel_rfl) (by kernel_rfl)))
   clear hG hcl hdep hfr hK hLi
   go_simp
   exact HK.out
  | 4, ho =>
   obtain rfl := gdO4 ho
   rw [if_pos (gdT4 (hG.val 3 3 6 _ rfl (hdep ⟨3, .guard⟩ (by simp) rfl)))]
   have HK := Lib.hid (hK (.pointer (some ⟨b, 0, none⟩)) w (hG.quiet 4 4 7 _ rfl (by kernel_rfl) (by kernel_rfl)))
   clear hx hc hv c0 c1 c2 c3 c4 c5 c6 c7 c8 c9 c10 c11
   clear hG hcl hdep hfr hK hLi
   go_simp
   exact HK.out
  | 5, ho =>
   obtain rfl := gdO5 ho
   have x7 := gdX (hG.val 4 4 7 _ rfl (hdep ⟨4, .data⟩ (by simp) rfl))
   rw [if_pos (gdT5 (hG.val 3 3 6 _ rfl (hdep ⟨3, .guard⟩ (by simp) rfl)))]
   obtain ⟨ph, hSp, hdone⟩ := hG.any
   have HK := Lib.hid (hK (.int .i64 y) w (hG.quiet 5 5 8 _ rfl (by kernel_rfl) (by kernel_rfl)))
   generalize (resOf gd11C fun t => a.eval (.tmp t)) = R at *
   obtain ⟨q0, q1, q2, q3, q4, q5, q6⟩ := hx _ _ _ hSp
   clear hx hc hv c0 c1 c2 c3 c4 c5 c6 c7 c8 c9 c10 c11 q1 q2 q3 q4 q5 q6
   clear hSp hdone
   clear hG hcl hdep hfr hK hLi
   go_simp
   exact HK.out
  | 6, ho =>
   obtain rfl := gdO6 ho
   have x8 := gdX (hG.val 5 5 8 _ rfl (hdep ⟨5, .data⟩ (by simp) rfl))
   rw [if_pos (gdT6 (hG.val 3 3 6 _ rfl (hdep ⟨3, .guard⟩ (by simp) rfl)))]
   have HK := Lib.hid (hK (.bool true) w (hG.quiet 6 6 9 _ rfl (by kernel_rfl) (by kernel_rfl)))
   clear hx hc hv c0 c2 c3 c4 c5 c6 c7 c8 c9 c10 c11
   clear hG hcl hdep hfr hK hLi
   go_simp
   exact HK.out
  | 7, ho =>
   obtain rfl := gdO7 ho
   have x6 := gdX (hG.val 3 3 6 _ rfl (hdep ⟨3, .data⟩ (by simp) rfl))
   have x9 := gdX (hG.val 6 6 9 _ rfl (hdep ⟨6, .data⟩ (by simp) rfl))
   rw [if_pos (show Region.wanted _ _ = true from rfl)]
   have HK := Lib.hid (hK (.bool true) w (hG.quiet 7 7 10 _ rfl (by kernel_rfl) (by kernel_rfl)))
   clear hG hcl hdep hfr hK hLi
   go_simp
   exact HK.out
  | 8, ho =>
   obtain rfl := gdO8 ho
   have x10 := gdX (hG.val 7 7 10 _ rfl (hdep ⟨7, .data⟩ (by simp) rfl))
   rw [if_pos (show Region.wanted _ _ = true from rfl)]
   have HK := Lib.hid (hK (.bool true) w (hG.quiet 8 8 11 _ rfl (by kernel_rfl) (by kernel_rfl)))
   clear hG hcl hdep hfr hK hLi
   go_simp
   exact HK.out
  | 9, ho =>
   obtain rfl := gdO9 ho
   rw [if_pos (gdT9 (hG.val 8 8 11 _ rfl (hdep ⟨8, .guard⟩ (by simp) rfl)))]
   have HK := Lib.hid (hK (.pointer (some ⟨b, 1, none⟩)) w (hG.quiet 9 9 12 _ rfl (by kernel_rfl) (by kernel_rfl)))
   clear hx hc hv c0 c1 c2 c3 c4 c5 c6 c7 c8 c9 c10 c11
   clear hG hcl hdep hfr hK hLi
   go_simp
   exact HK.out
  | 10, ho =>
   obtain rfl := gdO10 ho
   have x12 := gdX (hG.val 9 9 12 _ rfl (hdep ⟨9, .data⟩ (by simp) rfl))
   rw [if_pos (gdT10 (hG.val 8 8 11 _ rfl (hdep ⟨8, .guard⟩ (by simp) rfl)))]
   obtain ⟨ph, hSp, hdone⟩ := hG.any
   have HK := Lib.hid (hK (.int .i64 m) w (hG.quiet 10 10 13 _ rfl (by kernel_rfl) (by kernel_rfl)))
   generalize (resOf gd11C fun t => a.eval (.tmp t)) = R at *
   obtain ⟨q0, q1, q2, q3, q4, q5, q6⟩ := hx _ _ _ hSp
   clear hx hc hv c0 c1 c2 c3 c4 c5 c6 c7 c8 c9 c10 c11 q0 q2 q3 q4 q5 q6
   clear hSp hdone
   clear hG hcl hdep hfr hK hLi
   go_simp
   exact HK.out
  | 11, ho =>
   obtain rfl := gdO11 ho
   have x13 := gdX (hG.val 10 10 13 _ rfl (hdep ⟨10, .data⟩ (by simp) rfl))
   rw [if_pos (gdT11 (hG.val 8 8 11 _ rfl (hdep ⟨8, .guard⟩ (by simp) rfl)))]
   have HK := Lib.hid (hK (.bool true) w (hG.quiet 11 11 14 _ rfl (by kernel_rfl) (by kernel_rfl)))
   clear hx hc hv c0 c1 c3 c4 c5 c6 c7 c8 c9 c10 c11
   clear hG hcl hdep hfr hK hLi
   go_simp
   exact HK.out
  | 12, ho =>
   obtain rfl := gdO12 ho
   have x11 := gdX (hG.val 8 8 11 _ rfl (hdep ⟨8, .data⟩ (by simp) rfl))
   have x14 := gdX (hG.val 11 11 14 _ rfl (hdep ⟨11, .data⟩ (by simp) rfl))
   rw [if_pos (show Region.wanted _ _ = true from rfl)]
   have HK := Lib.hid (hK (.bool true) w (hG.quiet 12 12 15 _ rfl (by kernel_rfl) (by kernel_rfl)))
   clear hG hcl hdep hfr hK hLi
   go_simp
   exact HK.out
  | 13, ho =>
   obtain rfl := gdO13 ho
   have x15 := gdX (hG.val 12 12 15 _ rfl (hdep ⟨12, .data⟩ (by simp) rfl))
   rw [if_pos (show Region.wanted _ _ = true from rfl)]
   have HK := Lib.hid (hK (.bool true) w (hG.quiet 13 13 16 _ rfl (by kernel_rfl) (by kernel_rfl)))
   clear hG hcl hdep hfr hK hLi
   go_simp
   exact HK.out
  | 14, ho =>
   obtain rfl := gdO14 ho
   rw [if_pos (gdT14 (hG.val 13 13 16 _ rfl (hdep ⟨13, .guard⟩ (by simp) rfl)))]
   have HK := Lib.hid (hK (.pointer (some ⟨b, 1, none⟩)) w (hG.quiet 14 14 17 _ rfl (by kernel_rfl) (by kernel_rfl)))
   clear hx hc hv c0 c1 c2 c3 c4 c5 c6 c7 c8 c9 c10 c11
   clear hG hcl hdep hfr hK hLi
   go_simp
   exact HK.out
  | 15, ho =>
   obtain rfl := gdO15 ho
   have x17 := gdX (hG.val 14 14 17 _ rfl (hdep ⟨14, .data⟩ (by simp) rfl))
   rw [if_pos (gdT15 (hG.val 13 13 16 _ rfl (hdep ⟨13, .guard⟩ (by simp) rfl)))]
   obtain ⟨ph, hSp, hdone⟩ := hG.any
   have HK := Lib.hid (hK (.int .i64 m) w (hG.quiet 15 15 18 _ rfl (by kernel_rfl) (by kernel_rfl)))
   generalize (resOf gd11C fun t => a.eval (.tmp t)) = R at *
   obtain ⟨q0, q1, q2, q3, q4, q5, q6⟩ := hx _ _ _ hSp
   clear hx hc hv c0 c1 c2 c3 c4 c5 c6 c7 c8 c9 c10 c11 q0 q2 q3 q4 q5 q6
   clear hSp hdone
   clear hG hcl hdep hfr hK hLi
   go_simp
   exact HK.out
  | 16, ho =>
   obtain rfl := gdO16 ho
   have x18 := gdX (hG.val 15 15 18 _ rfl (hdep ⟨15, .data⟩ (by simp) rfl))
   rw [if_pos (gdT16 (hG.val 13 13 16 _ rfl (hdep ⟨13, .guard⟩ (by simp) rfl)))]
   have HK := Lib.hid (hK (.bool true) w (hG.quiet 16 16 19 _ rfl (by kernel_rfl) (by kernel_rfl)))
   clear hx hc hv c0 c1 c2 c4 c5 c6 c7 c8 c9 c10 c11
   clear hG hcl hdep hfr hK hLi
   go_simp
   exact HK.out
  | 17, ho =>
   obtain rfl := gdO17 ho
   have x16 := gdX (hG.val 13 13 16 _ rfl (hdep ⟨13, .data⟩ (by simp) rfl))
   have x19 := gdX (hG.val 16 16 19 _ rfl (hdep ⟨16, .data⟩ (by simp) rfl))
   rw [if_pos (show Region.wanted _ _ = true from rfl)]
   have HK := Lib.hid (hK (.bool true) w (hG.quiet 17 17 20 _ rfl (by kernel_rfl) (by kernel_rfl)))
   clear hG hcl hdep hfr hK hLi
   go_simp
   exact HK.out
  | 18, ho =>
   obtain rfl := gdO18 ho
   have x20 := gdX (hG.val 17 17 20 _ rfl (hdep ⟨17, .data⟩ (by simp) rfl))
   rw [if_pos (show Region.wanted _ _ = true from rfl)]
   have HK := Lib.hid (hK (.bool true) w (hG.quiet 18 18 21 _ rfl (by kernel_rfl) (by kernel_rfl)))
   clear hG hcl hdep hfr hK hLi
   go_simp
   exact HK.out
  | 19, ho =>
   obtain rfl := gdO19 ho
   rw [if_pos (gdT19 (hG.val 18 18 21 _ rfl (hdep ⟨18, .guard⟩ (by simp) rfl)))]
   have HK := Lib.hid (hK (.pointer (some ⟨b, 2, none⟩)) w (hG.quiet 19 19 22 _ rfl (by kernel_rfl) (by kernel_rfl)))
   clear hx hc hv c0 c1 c2 c3 c4 c5 c6 c7 c8 c9 c10 c11
   clear hG hcl hdep hfr hK hLi
   go_simp
   exact HK.out
  | 20, ho =>
   obtain rfl := gdO20 ho
   have x22 := gdX (hG.val 19 19 22 _ rfl (hdep ⟨19, .data⟩ (by simp) rfl))
   rw [if_pos (gdT20 (hG.val 18 18 21 _ rfl (hdep ⟨18, .guard⟩ (by simp) rfl)))]
   obtain ⟨ph, hSp, hdone⟩ := hG.any
   have HK := Lib.hid (hK (.int .i64 k) w (hG.quiet 20 20 23 _ rfl (by kernel_rfl) (by kernel_rfl)))
   generalize (resOf gd11C fun t => a.eval (.tmp t)) = R at *
   obtain ⟨q0, q1, q2, q3, q4, q5, q6⟩ := hx _ _ _ hSp
   clear hx hc hv c0 c1 c2 c3 c4 c5 c6 c7 c8 c9 c10 c11 q0 q1 q3 q4 q5 q6
   clear hSp hdone
   clear hG hcl hdep hfr hK hLi
   go_simp
   exact HK.out
  | 21, ho =>
   obtain rfl := gdO21 ho
   have x23 := gdX (hG.val 20 20 23 _ rfl (hdep ⟨20, .data⟩ (by simp) rfl))
   rw [if_pos (gdT21 (hG.val 18 18 21 _ rfl (hdep ⟨18, .guard⟩ (by simp) rfl)))]
   have HK := Lib.hid (hK (.bool true) w (hG.quiet 21 21 24 _ rfl (by kernel_rfl) (by kernel_rfl)))
   clear hx hc hv c0 c1 c2 c3 c5 c6 c7 c8 c9 c10 c11
   clear hG hcl hdep hfr hK hLi
   go_simp
   exact HK.out
  | 22, ho =>
   obtain rfl := gdO22 ho
   have x21 := gdX (hG.val 18 18 21 _ rfl (hdep ⟨18, .data⟩ (by simp) rfl))
   have x24 := gdX (hG.val 21 21 24 _ rfl (hdep ⟨21, .data⟩ (by simp) rfl))
   rw [if_pos (show Region.wanted _ _ = true from rfl)]
   have HK := Lib.hid (hK (.bool true) w (hG.quiet 22 22 25 _ rfl (by kernel_rfl) (by kernel_rfl)))
   clear hG hcl hdep hfr hK hLi
   go_simp
   exact HK.out
  | 23, ho =>
   obtain rfl := gdO23 ho
   have x25 := gdX (hG.val 22 22 25 _ rfl (hdep ⟨22, .data⟩ (by simp) rfl))
   rw [if_pos (show Region.wanted _ _ = true from rfl)]
   have HK := Lib.hid (hK (.bool true) w (hG.quiet 23 23 26 _ rfl (by kernel_rfl) (by kernel_rfl)))
   clear hG hcl hdep hfr hK hLi
   go_simp
   exact HK.out
  | 24, ho =>
   obtain rfl := gdO24 ho
   rw [if_pos (gdT24 (hG.val 23 23 26 _ rfl (hdep ⟨23, .guard⟩ (by simp) rfl)))]
   have HK := Lib.hid (hK (.pointer (some ⟨b, 2, none⟩)) w (hG.quiet 24 24 27 _ rfl (by kernel_rfl) (by kernel_rfl)))
   clear hx hc hv c0 c1 c2 c3 c4 c5 c6 c7 c8 c9 c10 c11
   clear hG hcl hdep hfr hK hLi
   go_simp
   exact HK.out
  | 25, ho =>
   obtain rfl := gdO25 ho
   have x27 := gdX (hG.val 24 24 27 _ rfl (hdep ⟨24, .data⟩ (by simp) rfl))
   rw [if_pos (gdT25 (hG.val 23 23 26 _ rfl (hdep ⟨23, .guard⟩ (by simp) rfl)))]
   obtain ⟨ph, hSp, hdone⟩ := hG.any
   have HK := Lib.hid (hK (.int .i64 k) w (hG.quiet 25 25 28 _ rfl (by kernel_rfl) (by kernel_rfl)))
   generalize (resOf gd11C fun t => a.eval (.tmp t)) = R at *
   obtain ⟨q0, q1, q2, q3, q4, q5, q6⟩ := hx _ _ _ hSp
   clear hx hc hv c0 c1 c2 c3 c4 c5 c6 c7 c8 c9 c10 c11 q0 q1 q3 q4 q5 q6
   clear hSp hdone
   clear hG hcl hdep hfr hK hLi
   go_simp
   exact HK.out
  | 26, ho =>
   obtain rfl := gdO26 ho
   rw [if_pos (gdT26 (hG.val 23 23 26 _ rfl (hdep ⟨23, .guard⟩ (by simp) rfl)))]
   have HK := Lib.hid (hK (.pointer (some ⟨b, 0, none⟩)) w (hG.quiet 26 26 29 _ rfl (by kernel_rfl) (by kernel_rfl)))
   clear hx hc hv c0 c1 c2 c3 c4 c5 c6 c7 c8 c9 c10 c11
   clear hG hcl hdep hfr hK hLi
   go_simp
   exact HK.out
  | 27, ho =>
   obtain rfl := gdO27 ho
   have x29 := gdX (hG.val 26 26 29 _ rfl (hdep ⟨26, .data⟩ (by simp) rfl))
   rw [if_pos (gdT27 (hG.val 23 23 26 _ rfl (hdep ⟨23, .guard⟩ (by simp) rfl)))]
   obtain ⟨ph, hSp, hdone⟩ := hG.any
   have HK := Lib.hid (hK (.int .i64 y) w (hG.quiet 27 27 30 _ rfl (by kernel_rfl) (by kernel_rfl)))
   generalize (resOf gd11C fun t => a.eval (.tmp t)) = R at *
   obtain ⟨q0, q1, q2, q3, q4, q5, q6⟩ := hx _ _ _ hSp
   clear hx hc hv c0 c1 c2 c3 c4 c5 c6 c7 c8 c9 c10 c11 q1 q2 q3 q4 q5 q6
   clear hSp hdone
   clear hG hcl hdep hfr hK hLi
   go_simp
   exact HK.out
  | 28, ho =>
   obtain rfl := gdO28 ho
   rw [if_pos (gdT28 (hG.val 23 23 26 _ rfl (hdep ⟨23, .guard⟩ (by simp) rfl)))]
   have HK := Lib.hid (hK (.pointer (some ⟨b, 1, none⟩)) w (hG.quiet 28 28 31 _ rfl (by kernel_rfl) (by kernel_rfl)))
   clear hx hc hv c0 c1 c2 c3 c4 c5 c6 c7 c8 c9 c10 c11
   clear hG hcl hdep hfr hK hLi
   go_simp
   exact HK.out
  | 29, ho =>
   obtain rfl := gdO29 ho
   have x31 := gdX (hG.val 28 28 31 _ rfl (hdep ⟨28, .data⟩ (by simp) rfl))
   rw [if_pos (gdT29 (hG.val 23 23 26 _ rfl (hdep ⟨23, .guard⟩ (by simp) rfl)))]
   obtain ⟨ph, hSp, hdone⟩ := hG.any
   have HK := Lib.hid (hK (.int .i64 m) w (hG.quiet 29 29 32 _ rfl (by kernel_rfl) (by kernel_rfl)))
   generalize (resOf gd11C fun t => a.eval (.tmp t)) = R at *
   obtain ⟨q0, q1, q2, q3, q4, q5, q6⟩ := hx _ _ _ hSp
   clear hx hc hv c0 c1 c2 c3 c4 c5 c6 c7 c8 c9 c10 c11 q0 q2 q3 q4 q5 q6
   clear hSp hdone
   clear hG hcl hdep hfr hK hLi
   go_simp
   exact HK.out
  | 30, ho =>
   obtain rfl := gdO30 ho
   have x30 := gdX (hG.val 27 27 30 _ rfl (hdep ⟨27, .data⟩ (by simp) rfl))
   have x32 := gdX (hG.val 29 29 32 _ rfl (hdep ⟨29, .data⟩ (by simp) rfl))
   rw [if_pos (gdT30 (hG.val 23 23 26 _ rfl (hdep ⟨23, .chain⟩ (by simp) rfl)))]
   have hSj := hG.at 0 (30, 33) rfl hLi (fun c h0 hc => absurd h0 (by decide))
   have hfin := fun v w' hs => hK v w' (hG.call 0 (30, 33) rfl hLi (fun c h0 hc => absurd h0 (by decide)) (by kernel_rfl) v w' hs)
   have HK := Lib.hid hfin
   generalize (resOf gd11C fun t => a.eval (.tmp t)) = R at *
   clear hG hcl hdep hfr hK hfin hLi
   have hcc := Lib.hid (hc _ _ hSj)
   clear hSj hx hc hv c0 c1 c2 c3 c4 c5 c6 c7 c8 c9 c10 c11
   go_simp
   go_at_call 37
   refine hcc.out.mono ?_
   rintro e w' ⟨v, rfl, hs⟩
   exact HK.out v w' hs
  | 31, ho =>
   obtain rfl := gdO31 ho
   have x28 := gdX (hG.val 25 25 28 _ rfl (hdep ⟨25, .data⟩ (by simp) rfl))
   rw [if_pos (gdT31 (hG.val 23 23 26 _ rfl (hdep ⟨23, .guard⟩ (by simp) rfl)))]
   obtain ⟨ph, hSp, hdone⟩ := hG.any
   have hd33 : 0 < ph := hdone 0 (30, 33) rfl (hdep ⟨30, .data⟩ (by simp) rfl)
   have r33 : a.tmps[33]?.getD undef = resOf gd11C (fun t => a.eval (.tmp t)) 0 := by rw [← ev]; exact (resOf_at (C := gd11C) (j := 0) rfl a).symm
   have HK := Lib.hid (hK (.bool true) w (hG.quiet 30 31 34 _ rfl (by kernel_rfl) (by kernel_rfl)))
   generalize (resOf gd11C fun t => a.eval (.tmp t)) = R at *
   rw [hv _ _ _ hSp hd33] at r33
   clear hd33
   clear hx hc hv c0 c1 c2 c3 c4 c6 c7 c8 c9 c10 c11
   clear hSp hdone
   clear hG hcl hdep hfr hK hLi
   go_simp
   exact HK.out
  | 32, ho =>
   obtain rfl := gdO32 ho
   have x26 := gdX (hG.val 23 23 26 _ rfl (hdep ⟨23, .data⟩ (by simp) rfl))
   have x34 := gdX (hG.val 30 31 34 _ rfl (hdep ⟨31, .data⟩ (by simp) rfl))
   rw [if_pos (show Region.wanted _ _ = true from rfl)]
   have HK := Lib.hid (hK (.bool true) w (hG.quiet 31 32 35 _ rfl (by kernel_rfl) (by kernel_rfl)))
   clear hG hcl hdep hfr hK hLi
   go_simp
   exact HK.out
  | 33, ho =>
   obtain rfl := gdO33 ho
   have x35 := gdX (hG.val 31 32 35 _ rfl (hdep ⟨32, .data⟩ (by simp) rfl))
   rw [if_pos (show Region.wanted _ _ = true from rfl)]
   have HK := Lib.hid (hK (.bool true) w (hG.quiet 32 33 36 _ rfl (by kernel_rfl) (by kernel_rfl)))
   clear hG hcl hdep hfr hK hLi
   go_simp
   exact HK.out
  | 34, ho =>
   obtain rfl := gdO34 ho
   rw [if_pos (gdT34 (hG.val 32 33 36 _ rfl (hdep ⟨33, .guard⟩ (by simp) rfl)))]
   have HK := Lib.hid (hK (.pointer (some ⟨b, 3, none⟩)) w (hG.quiet 33 34 37 _ rfl (by kernel_rfl) (by kernel_rfl)))
   clear hx hc hv c0 c1 c2 c3 c4 c5 c6 c7 c8 c9 c10 c11
   clear hG hcl hdep hfr hK hLi
   go_simp
   exact HK.out
  | 35, ho =>
   obtain rfl := gdO35 ho
   have x37 := gdX (hG.val 33 34 37 _ rfl (hdep ⟨34, .data⟩ (by simp) rfl))
   rw [if_pos (gdT35 (hG.val 32 33 36 _ rfl (hdep ⟨33, .guard⟩ (by simp) rfl)))]
   obtain ⟨ph, hSp, hdone⟩ := hG.any
   have HK := Lib.hid (hK (.int .i64 hh) w (hG.quiet 34 35 38 _ rfl (by kernel_rfl) (by kernel_rfl)))
   generalize (resOf gd11C fun t => a.eval (.tmp t)) = R at *
   obtain ⟨q0, q1, q2, q3, q4, q5, q6⟩ := hx _ _ _ hSp
   clear hx hc hv c0 c1 c2 c3 c4 c5 c6 c7 c8 c9 c10 c11 q0 q1 q2 q4 q5 q6
   clear hSp hdone
   clear hG hcl hdep hfr hK hLi
   go_simp
   exact HK.out
  | 36, ho =>
   obtain rfl := gdO36 ho
   have x38 := gdX (hG.val 34 35 38 _ rfl (hdep ⟨35, .data⟩ (by simp) rfl))
   rw [if_pos (gdT36 (hG.val 32 33 36 _ rfl (hdep ⟨33, .guard⟩ (by simp) rfl)))]
   have HK := Lib.hid (hK (.bool true) w (hG.quiet 35 36 39 _ rfl (by kernel_rfl) (by kernel_rfl)))
   clear hx hc hv c0 c1 c2 c3 c4 c5 c7 c8 c9 c10 c11
   clear hG hcl hdep hfr hK hLi
   go_simp
   exact HK.out
  | 37, ho =>
   obtain rfl := gdO37 ho
   have x36 := gdX (hG.val 32 33 36 _ rfl (hdep ⟨33, .data⟩ (by simp) rfl))
   have x39 := gdX (hG.val 35 36 39 _ rfl (hdep ⟨36, .data⟩ (by simp) rfl))
   rw [if_pos (show Region.wanted _ _ = true from rfl)]
   have HK := Lib.hid (hK (.bool true) w (hG.quiet 36 37 40 _ rfl (by kernel_rfl) (by kernel_rfl)))
   clear hG hcl hdep hfr hK hLi
   go_simp
   exact HK.out
  | 38, ho =>
   obtain rfl := gdO38 ho
   have x40 := gdX (hG.val 36 37 40 _ rfl (hdep ⟨37, .data⟩ (by simp) rfl))
   rw [if_pos (show Region.wanted _ _ = true from rfl)]
   have HK := Lib.hid (hK (.bool true) w (hG.quiet 37 38 41 _ rfl (by kernel_rfl) (by kernel_rfl)))
   clear hG hcl hdep hfr hK hLi
   go_simp
   exact HK.out
  | 39, ho =>
   obtain rfl := gdO39 ho
   rw [if_pos (gdT39 (hG.val 37 38 41 _ rfl (hdep ⟨38, .guard⟩ (by simp) rfl)))]
   have HK := Lib.hid (hK (.pointer (some ⟨b, 3, none⟩)) w (hG.quiet 38 39 42 _ rfl (by kernel_rfl) (by kernel_rfl)))
   clear hx hc hv c0 c1 c2 c3 c4 c5 c6 c7 c8 c9 c10 c11
   clear hG hcl hdep hfr hK hLi
   go_simp
   exact HK.out
  | 40, ho =>
   obtain rfl := gdO40 ho
   have x42 := gdX (hG.val 38 39 42 _ rfl (hdep ⟨39, .data⟩ (by simp) rfl))
   rw [if_pos (gdT40 (hG.val 37 38 41 _ rfl (hdep ⟨38, .guard⟩ (by simp) rfl)))]
   obtain ⟨ph, hSp, hdone⟩ := hG.any
   have HK := Lib.hid (hK (.int .i64 hh) w (hG.quiet 39 40 43 _ rfl (by kernel_rfl) (by kernel_rfl)))
   generalize (resOf gd11C fun t => a.eval (.tmp t)) = R at *
   obtain ⟨q0, q1, q2, q3, q4, q5, q6⟩ := hx _ _ _ hSp
   clear hx hc hv c0 c1 c2 c3 c4 c5 c6 c7 c8 c9 c10 c11 q0 q1 q2 q4 q5 q6
   clear hSp hdone
   clear hG hcl hdep hfr hK hLi
   go_simp
   exact HK.out
  | 41, ho =>
   obtain rfl := gdO41 ho
   have x43 := gdX (hG.val 39 40 43 _ rfl (hdep ⟨40, .data⟩ (by simp) rfl))
   rw [if_pos (gdT41 (hG.val 37 38 41 _ rfl (hdep ⟨38, .guard⟩ (by simp) rfl)))]
   have HK := Lib.hid (hK (.bool true) w (hG.quiet 40 41 44 _ rfl (by kernel_rfl) (by kernel_rfl)))
   clear hx hc hv c0 c1 c2 c3 c4 c5 c6 c8 c9 c10 c11
   clear hG hcl hdep hfr hK hLi
   go_simp
   exact HK.out
  | 42, ho =>
   obtain rfl := gdO42 ho
   have x41 := gdX (hG.val 37 38 41 _ rfl (hdep ⟨38, .data⟩ (by simp) rfl))
   have x44 := gdX (hG.val 40 41 44 _ rfl (hdep ⟨41, .data⟩ (by simp) rfl))
   rw [if_pos (show Region.wanted _ _ = true from rfl)]
   have HK := Lib.hid (hK (.bool true) w (hG.quiet 41 42 45 _ rfl (by kernel_rfl) (by kernel_rfl)))
   clear hG hcl hdep hfr hK hLi
   go_simp
   exact HK.out
  | 43, ho =>
   obtain rfl := gdO43 ho
   have x45 := gdX (hG.val 41 42 45 _ rfl (hdep ⟨42, .data⟩ (by simp) rfl))
   rw [if_pos (show Region.wanted _ _ = true from rfl)]
   have HK := Lib.hid (hK (.bool true) w (hG.quiet 42 43 46 _ rfl (by kernel_rfl) (by kernel_rfl)))
   clear hG hcl hdep hfr hK hLi
   go_simp
   exact HK.out
  | 44, ho =>
   obtain rfl := gdO44 ho
   rw [if_pos (gdT44 (hG.val 42 43 46 _ rfl (hdep ⟨43, .guard⟩ (by simp) rfl)))]
   have HK := Lib.hid (hK (.pointer (some ⟨b, 4, none⟩)) w (hG.quiet 43 44 47 _ rfl (by kernel_rfl) (by kernel_rfl)))
   clear hx hc hv c0 c1 c2 c3 c4 c5 c6 c7 c8 c9 c10 c11
   clear hG hcl hdep hfr hK hLi
   go_simp
   exact HK.out
  | 45, ho =>
   obtain rfl := gdO45 ho
   have x47 := gdX (hG.val 43 44 47 _ rfl (hdep ⟨44, .data⟩ (by simp) rfl))
   rw [if_pos (gdT45 (hG.val 42 43 46 _ rfl (hdep ⟨43, .guard⟩ (by simp) rfl)))]
   obtain ⟨ph, hSp, hdone⟩ := hG.any
   have HK := Lib.hid (hK (.int .i64 mi) w (hG.quiet 44 45 48 _ rfl (by kernel_rfl) (by kernel_rfl)))
   generalize (resOf gd11C fun t => a.eval (.tmp t)) = R at *
   obtain ⟨q0, q1, q2, q3, q4, q5, q6⟩ := hx _ _ _ hSp
   clear hx hc hv c0 c1 c2 c3 c4 c5 c6 c7 c8 c9 c10 c11 q0 q1 q2 q3 q5 q6
   clear hSp hdone
   clear hG hcl hdep hfr hK hLi
   go_simp
   exact HK.out
  | 46, ho =>
   obtain rfl := gdO46 ho
   have x48 := gdX (hG.val 44 45 48 _ rfl (hdep ⟨45, .data⟩ (by simp) rfl))
   rw [if_pos (gdT46 (hG.val 42 43 46 _ rfl (hdep ⟨43, .guard⟩ (by simp) rfl)))]
   have HK := Lib.hid (hK (.bool true) w (hG.quiet 45 46 49 _ rfl (by kernel_rfl) (by kernel_rfl)))
   clear hx hc hv c0 c1 c2 c3 c4 c5 c6 c7 c9 c10 c11
   clear hG hcl hdep hfr hK hLi
   go_simp
   exact HK.out
  | 47, ho =>
   obtain rfl := gdO47 ho
   have x46 := gdX (hG.val 42 43 46 _ rfl (hdep ⟨43, .data⟩ (by simp) rfl))
   have x49 := gdX (hG.val 45 46 49 _ rfl (hdep ⟨46, .data⟩ (by simp) rfl))
   rw [if_pos (show Region.wanted _ _ = true from rfl)]
   have HK := Lib.hid (hK (.bool true) w (hG.quiet 46 47 50 _ rfl (by kernel_rfl) (by kernel_rfl)))
   clear hG hcl hdep hfr hK hLi
   go_simp
   exact HK.out
  | 48, ho =>
   obtain rfl := gdO48 ho
   have x50 := gdX (hG.val 46 47 50 _ rfl (hdep ⟨47, .data⟩ (by simp) rfl))
   rw [if_pos (show Region.wanted _ _ = true from rfl)]
   have HK := Lib.hid (hK (.bool true) w (hG.quiet 47 48 51 _ rfl (by kernel_rfl) (by kernel_rfl)))
   clear hG hcl hdep hfr hK hLi
   go_simp
   exact HK.out
  | 49, ho =>
   obtain rfl := gdO49 ho
   rw [if_pos (gdT49 (hG.val 47 48 51 _ rfl (hdep ⟨48, .guard⟩ (by simp) rfl)))]
   have HK := Lib.hid (hK (.pointer (some ⟨b, 4, none⟩)) w (hG.quiet 48 49 52 _ rfl (by kernel_rfl) (by kernel_rfl)))
   clear hx hc hv c0 c1 c2 c3 c4 c5 c6 c7 c8 c9 c10 c11
   clear hG hcl hdep hfr hK hLi
   go_simp
   exact HK.out
  | 50, ho =>
   obtain rfl := gdO50 ho
   have x52 := gdX (hG.val 48 49 52 _ rfl (hdep ⟨49, .data⟩ (by simp) rfl))
   rw [if_pos (gdT50 (hG.val 47 48 51 _ rfl (hdep ⟨48, .guard⟩ (by simp) rfl)))]
   obtain ⟨ph, hSp, hdone⟩ := hG.any
   have HK := Lib.hid (hK (.int .i64 mi) w (hG.quiet 49 50 53 _ rfl (by kernel_rfl) (by kernel_rfl)))
   generalize (resOf gd11C fun t => a.eval (.tmp t)) = R at *
   obtain ⟨q0, q1, q2, q3, q4, q5, q6⟩ := hx _ _ _ hSp
   clear hx hc hv c0 c1 c2 c3 c4 c5 c6 c7 c8 c9 c10 c11 q0 q1 q2 q3 q5 q6
   clear hSp hdone
   clear hG hcl hdep hfr hK hLi
   go_simp
   exact HK.out
  | 51, ho =>
   obtain rfl := gdO51 ho
   have x53 := gdX (hG.val 49 50 53 _ rfl (hdep ⟨50, .data⟩ (by simp) rfl))
   rw [if_pos (gdT51 (hG.val 47 48 51 _ rfl (hdep ⟨48, .guard⟩ (by simp) rfl)))]
   have HK := Lib.hid (hK (.bool true) w (hG.quiet 50 51 54 _ rfl (by kernel_rfl) (by kernel_rfl)))
   clear hx hc hv c0 c1 c2 c3 c4 c5 c6 c7 c8 c10 c11
   clear hG hcl hdep hfr hK hLi
   go_simp
   exact HK.out
  | 52, ho =>
   obtain rfl := gdO52 ho
   have x51 := gdX (hG.val 47 48 51 _ rfl (hdep ⟨48, .data⟩ (by simp) rfl))
   have x54 := gdX (hG.val 50 51 54 _ rfl (hdep ⟨51, .data⟩ (by simp) rfl))
   rw [if_pos (show Region.wanted _ _ = true from rfl)]
   have HK := Lib.hid (hK (.bool true) w (hG.quiet 51 52 55 _ rfl (by kernel_rfl) (by kernel_rfl)))
   clear hG hcl hdep hfr hK hLi
   go_simp
   exact HK.out
  | 53, ho =>
   obtain rfl := gdO53 ho
   have x55 := gdX (hG.val 51 52 55 _ rfl (hdep ⟨52, .data⟩ (by simp) rfl))
   rw [if_pos (show Region.wanted _ _ = true from rfl)]
   have HK := Lib.hid (hK (.bool true) w (hG.quiet 52 53 56 _ rfl (by kernel_rfl) (by kernel_rfl)))
   clear hG hcl hdep hfr hK hLi
   go_simp
   exact HK.out
  | 54, ho =>
   obtain rfl := gdO54 ho
   rw [if_pos (gdT54 (hG.val 52 53 56 _ rfl (hdep ⟨53, .guard⟩ (by simp) rfl)))]
   have HK := Lib.hid (hK (.pointer (some ⟨b, 5, none⟩)) w (hG.quiet 53 54 57 _ rfl (by kernel_rfl) (by kernel_rfl)))
   clear hx hc hv c0 c1 c2 c3 c4 c5 c6 c7 c8 c9 c10 c11
   clear hG hcl hdep hfr hK hLi
   go_simp
   exact HK.out
  | 55, ho =>
   obtain rfl := gdO55 ho
   have x57 := gdX (hG.val 53 54 57 _ rfl (hdep ⟨54, .data⟩ (by simp) rfl))
   rw [if_pos (gdT55 (hG.val 52 53 56 _ rfl (hdep ⟨53, .guard⟩ (by simp) rfl)))]
   obtain ⟨ph, hSp, hdone⟩ := hG.any
   have HK := Lib.hid (hK (.int .i64 s) w (hG.quiet 54 55 58 _ rfl (by kernel_rfl) (by kernel_rfl)))
   generalize (resOf gd11C fun t => a.eval (.tmp t)) = R at *
   obtain ⟨q0, q1, q2, q3, q4, q5, q6⟩ := hx _ _ _ hSp
   clear hx hc hv c0 c1 c2 c3 c4 c5 c6 c7 c8 c9 c10 c11 q0 q1 q2 q3 q4 q6
   clear hSp hdone
   clear hG hcl hdep hfr hK hLi
   go_simp
   exact HK.out
  | 56, ho =>
   obtain rfl := gdO56 ho
   have x58 := gdX (hG.val 54 55 58 _ rfl (hdep ⟨55, .data⟩ (by simp) rfl))
   rw [if_pos (gdT56 (hG.val 52 53 56 _ rfl (hdep ⟨53, .guard⟩ (by simp) rfl)))]
   have HK := Lib.hid (hK (.bool true) w (hG.quiet 55 56 59 _ rfl (by kernel_rfl) (by kernel_rfl)))
   clear hx hc hv c0 c1 c2 c3 c4 c5 c6 c7 c8 c9 c11
   clear hG hcl hdep hfr hK hLi
   go_simp
   exact HK.out
  | 57, ho =>
   obtain rfl := gdO57 ho
   have x56 := gdX (hG.val 52 53 56 _ rfl (hdep ⟨53, .data⟩ (by simp) rfl))
   have x59 := gdX (hG.val 55 56 59 _ rfl (hdep ⟨56, .data⟩ (by simp) rfl))
   rw [if_pos (show Region.wanted _ _ = true from rfl)]
   have HK := Lib.hid (hK (.bool true) w (hG.quiet 56 57 60 _ rfl (by kernel_rfl) (by kernel_rfl)))
   clear hG hcl hdep hfr hK hLi
   go_simp
   exact HK.out
  | 58, ho =>
   obtain rfl := gdO58 ho
   have x60 := gdX (hG.val 56 57 60 _ rfl (hdep ⟨57, .data⟩ (by simp) rfl))
   rw [if_pos (show Region.wanted _ _ = true from rfl)]
   have HK := Lib.hid (hK (.bool true) w (hG.quiet 57 58 61 _ rfl (by kernel_rfl) (by kernel_rfl)))
   clear hG hcl hdep hfr hK hLi
   go_simp
   exact HK.out
  | 59, ho =>
   obtain rfl := gdO59 ho
   rw [if_pos (gdT59 (hG.val 57 58 61 _ rfl (hdep ⟨58, .guard⟩ (by simp) rfl)))]
   have HK := Lib.hid (hK (.pointer (some ⟨b, 5, none⟩)) w (hG.quiet 58 59 62 _ rfl (by kernel_rfl) (by kernel_rfl)))
   clear hx hc hv c0 c1 c2 c3 c4 c5 c6 c7 c8 c9 c10 c11
   clear hG hcl hdep hfr hK hLi
   go_simp
   exact HK.out
  | 60, ho =>
   obtain rfl := gdO60 ho
   have x62 := gdX (hG.val 58 59 62 _ rfl (hdep ⟨59, .data⟩ (by simp) rfl))
   rw [if_pos (gdT60 (hG.val 57 58 61 _ rfl (hdep ⟨58, .guard⟩ (by simp) rfl)))]
   obtain ⟨ph, hSp, hdone⟩ := hG.any
   have HK := Lib.hid (hK (.int .i64 s) w (hG.quiet 59 60 63 _ rfl (by kernel_rfl) (by kernel_rfl)))
   generalize (resOf gd11C fun t => a.eval (.tmp t)) = R at *
   obtain ⟨q0, q1, q2, q3, q4, q5, q6⟩ := hx _ _ _ hSp
   clear hx hc hv c0 c1 c2 c3 c4 c5 c6 c7 c8 c9 c10 c11 q0 q1 q2 q3 q4 q6
   clear hSp hdone
   clear hG hcl hdep hfr hK hLi
   go_simp
   exact HK.out
  | 61, ho =>
   obtain rfl := gdO61 ho
   have x63 := gdX (hG.val 59 60 63 _ rfl (hdep ⟨60, .data⟩ (by simp) rfl))
   rw [if_pos (gdT61 (hG.val 57 58 61 _ rfl (hdep ⟨58, .guard⟩ (by simp) rfl)))]
   have HK := Lib.hid (hK (.bool false) w (hG.quiet 60 61 64 _ rfl (by kernel_rfl) (by kernel_rfl)))
   clear hx hc hv c0 c1 c2 c3 c4 c5 c6 c7 c8 c9 c10
   clear hG hcl hdep hfr hK hLi
   go_simp
   exact HK.out
  | 62, ho =>
   obtain rfl := gdO62 ho
   have x61 := gdX (hG.val 57 58 61 _ rfl (hdep ⟨58, .data⟩ (by simp) rfl))
   have x64 := gdX (hG.val 60 61 64 _ rfl (hdep ⟨61, .data⟩ (by simp) rfl))
   rw [if_pos (show Region.wanted _ _ = true from rfl)]
   have HK := Lib.hid (hK (.bool false) w (hG.quiet 61 62 65 _ rfl (by kernel_rfl) (by kernel_rfl)))
   clear hG hcl hdep hfr hK hLi
   go_simp
   exact HK.out
  | 63, ho =>
   obtain rfl := gdO63 ho
   have x65 := gdX (hG.val 61 62 65 _ rfl (hdep ⟨62, .data⟩ (by simp) rfl))
   rw [if_pos (show Region.wanted _ _ = true from rfl)]
   have HK := Lib.hid (hK (.bool false) w (hG.quiet 62 63 66 _ rfl (by kernel_rfl) (by kernel_rfl)))
   clear hG hcl hdep hfr hK hLi
   go_simp
   exact HK.out
  | 64, ho =>
   obtain rfl := gdO64 ho
   rw [if_neg (gdF64 (hG.val 62 63 66 _ rfl (hdep ⟨63, .guard⟩ (by simp) rfl)))]
   have HK := Lib.hid (hK (undef) w (hG.quiet 63 64 67 _ rfl (by kernel_rfl) (by kernel_rfl)))
   clear hG hcl hdep hfr hK hLi
   exact HK.out
  | 65, ho =>
   obtain rfl := gdO65 ho
   have x67 := gdX (hG.val 63 64 67 _ rfl (hdep ⟨64, .data⟩ (by simp) rfl))
   rw [if_neg (gdF65 (hG.val 62 63 66 _ rfl (hdep ⟨63, .guard⟩ (by simp) rfl)))]
   have HK := Lib.hid (hK (undef) w (hG.quiet 64 65 68 _ rfl (by kernel_rfl) (by kernel_rfl)))
   clear hG hcl hdep hfr hK hLi
   exact HK.out
  | 66, ho =>
   obtain rfl := gdO66 ho
   have x68 := gdX (hG.val 64 65 68 _ rfl (hdep ⟨65, .data⟩ (by simp) rfl))
   rw [if_neg (gdF66 (hG.val 62 63 66 _ rfl (hdep ⟨63, .guard⟩ (by simp) rfl)))]
   have HK := Lib.hid (hK (undef) w (hG.quiet 65 66 69 _ rfl (by kernel_rfl) (by kernel_rfl)))
   clear hG hcl hdep hfr hK hLi
   exact HK.out
  | 67, ho =>
   obtain rfl := gdO67 ho
   have x66 := gdX (hG.val 62 63 66 _ rfl (hdep ⟨63, .data⟩ (by simp) rfl))
   have x69 := gdX (hG.val 65 66 69 _ rfl (hdep ⟨66, .data⟩ (by simp) rfl))
   rw [if_pos (show Region.wanted _ _ = true from rfl)]
   have HK := Lib.hid (hK (.bool false) w (hG.quiet 66 67 70 _ rfl (by kernel_rfl) (by kernel_rfl)))
   clear hG hcl hdep hfr hK hLi
   go_simp
   exact HK.out
  | 68, ho =>
   obtain rfl := gdO68 ho
   have x70 := gdX (hG.val 66 67 70 _ rfl (hdep ⟨67, .data⟩ (by simp) rfl))
   rw [if_pos (show Region.wanted _ _ = true from rfl)]
   have HK := Lib.hid (hK (.bool false) w (hG.quiet 67 68 71 _ rfl (by kernel_rfl) (by kernel_rfl)))
   clear hG hcl hdep hfr hK hLi
   go_simp
   exact HK.out
  | 69, ho =>
   obtain rfl := gdO69 ho
   rw [if_neg (gdF69 (hG.val 67 68 71 _ rfl (hdep ⟨68, .guard⟩ (by simp) rfl)))]
   have HK := Lib.hid (hK (undef) w (hG.quiet 68 69 72 _ rfl (by kernel_rfl) (by kernel_rfl)))
   clear hG hcl hdep hfr hK hLi
   exact HK.out
  | 70, ho =>
   obtain rfl := gdO70 ho
   have x72 := gdX (hG.val 68 69 72 _ rfl (hdep ⟨69, .data⟩ (by simp) rfl))
   rw [if_neg (gdF70 (hG.val 67 68 71 _ rfl (hdep ⟨68, .guard⟩ (by simp) rfl)))]
   have HK := Lib.hid (hK (undef) w (hG.quiet 69 70 73 _ rfl (by kernel_rfl) (by kernel_rfl)))
   clear hG hcl hdep hfr hK hLi
   exact HK.out
  | 71, ho =>
   obtain rfl := gdO71 ho
   have x73 := gdX (hG.val 69 70 73 _ rfl (hdep ⟨70, .data⟩ (by simp) rfl))
   rw [if_neg (gdF71 (hG.val 67 68 71 _ rfl (hdep ⟨68, .guard⟩ (by simp) rfl)))]
   have HK := Lib.hid (hK (undef) w (hG.quiet 70 71 74 _ rfl (by kernel_rfl) (by kernel_rfl)))
   clear hG hcl hdep hfr hK hLi
   exact HK.out
  | 72, ho =>
   obtain rfl := gdO72 ho
   have x71 := gdX (hG.val 67 68 71 _ rfl (hdep ⟨68, .data⟩ (by simp) rfl))
   have x74 := gdX (hG.val 70 71 74 _ rfl (hdep ⟨71, .data⟩ (by simp) rfl))
   rw [if_pos (show Region.wanted _ _ = true from rfl)]
   have HK := Lib.hid (hK (.bool false) w (hG.quiet 71 72 75 _ rfl (by kernel_rfl) (by kernel_rfl)))
   clear hG hcl hdep hfr hK hLi
   go_simp
   exact HK.out
  | 73, ho =>
   obtain rfl := gdO73 ho
   have x75 := gdX (hG.val 71 72 75 _ rfl (hdep ⟨72, .data⟩ (by simp) rfl))
   rw [if_pos (show Region.wanted _ _ = true from rfl)]
   have HK := Lib.hid (hK (.bool false) w (hG.quiet 72 73 2 _ rfl (by kernel_rfl) (by kernel_rfl)))
   clear hG hcl hdep hfr hK hLi
   go_simp
   exact HK.out
  | n + 74, ho => exact absurd (Array.getElem?_eq_some_iff.1 ho).1 (by show ¬ n + 74 < 74; omega)


def gd12Vals (b : Nat) (y m k hh mi s z d : Int) : List (Nat × Nat × Value) := [(0, 3, .pointer (some ⟨b, 0, none⟩)), (1, 4, .int .i64 y), (2, 5, .bool true), (3, 6, .bool true), (4, 7, .pointer (some ⟨b, 0, none⟩)), (5, 8, .int .i64 y), (6, 9, .bool true), (7, 10, .bool true), (8, 11, .bool true), (9, 12, .pointer (some ⟨b, 1, none⟩)), (10, 13, .int .i64 m), (11, 14, .bool true), (12, 15, .bool true), (13, 16, .bool true), (14, 17, .pointer (some ⟨b, 1, none⟩)), (15, 18, .int .i64 m), (16, 19, .bool true), (17, 20, .bool true), (18, 21, .bool true), (19, 22, .pointer (some ⟨b, 2, none⟩)), (20, 23, .int .i64 k), (21, 24, .bool true), (22, 25, .bool true), (23, 26, .bool true), (24, 27, .pointer (some ⟨b, 2, none⟩)), (25, 28, .int .i64 k), (26, 29, .pointer (some ⟨b, 0, none⟩)), (27, 30, .int .i64 y), (28, 31, .pointer (some ⟨b, 1, none⟩)), (29, 32, .int .i64 m), (31, 34, .bool true), (32, 35, .bool true), (33, 36, .bool true), (34, 37, .pointer (some ⟨b, 3, none⟩)), (35, 38, .int .i64 hh), (36, 39, .bool true), (37, 40, .bool true), (38, 41, .bool true), (39, 42, .pointer (some ⟨b, 3, none⟩)), (40, 43, .int .i64 hh), (41, 44, .bool true), (42, 45, .bool true), (43, 46, .bool true), (44, 47, .pointer (some ⟨b, 4, none⟩)), (45, 48, .int .i64 mi), (46, 49, .bool true), (47, 50, .bool true), (48, 51, .bool true), (49, 52, .pointer (some ⟨b, 4, none⟩)), (50, 53, .int .i64 mi), (51, 54, .bool true), (52, 55, .bool true), (53, 56, .bool true), (54, 57, .pointer (some ⟨b, 5, none⟩)), (55, 58, .int .i64 s), (56, 59, .bool true), (57, 60, .bool true), (58, 61, .bool true), (59, 62, .pointer (some ⟨b, 5, none⟩)), (60, 63, .int .i64 s), (61, 64, .bool true), (62, 65, .bool true), (63, 66, .bool true), (64, 67, .pointer (some ⟨b, 6, none⟩)), (65, 68, .int .i64 z), (66, 69, .bool false), (67, 70, .bool false), (68, 71, .bool false), (69, 72, undef), (70, 73, undef), (71, 74, undef), (72, 75, .bool false), (73, 2, .bool false)]
def gd12C : List (Nat × Nat) := [(30, 33)]

set_option maxHeartbeats 4000000 in
set_option maxRecDepth 100000 in
theorem gd12 {Q : Exit → Act → World → Prop} {a0 : Act} {wp : World} (b : Nat) (y m k hh mi s z d : Int) (S : Nat → (Nat → Value) → World → Prop)
    (hsz : 75 < a0.tmps.size) (in1 : a0.eval (.tmp 1) = .pointer (some ⟨b, 0, none⟩))
    (hx : ∀ p R w, S p R w → w.cell? ⟨b, 0, none⟩ = some (.int .i64 y) ∧ w.cell? ⟨b, 1, none⟩ = some (.int .i64 m) ∧ w.cell? ⟨b, 2, none⟩ = some (.int .i64 k) ∧ w.cell? ⟨b, 3, none⟩ = some (.int .i64 hh) ∧ w.cell? ⟨b, 4, none⟩ = some (.int .i64 mi) ∧ w.cell? ⟨b, 5, none⟩ = some (.int .i64 s) ∧ w.cell? ⟨b, 6, none⟩ = some (.int .i64 z)) (c0 : decide (1970 ≤ y) = true) (c1 : decide (y ≤ 9999) = true) (c2 : decide (1 ≤ m) = true) (c3 : decide (m ≤ 12) = true) (c4 : decide (1 ≤ k) = true) (c5 : decide (k ≤ d) = true) (c6 : decide (0 ≤ hh) = true) (c7 : decide (hh ≤ 23) = true) (c8 : decide (0 ≤ mi) = true) (c9 : decide (mi ≤ 59) = true) (c10 : decide (0 ≤ s) = true) (c11 : decide (s ≤ 59) = true) (c12 : decide (-1439 ≤ z) = false)
    (hc : ∀ R w, S 0 R w → Calls Tryd.prog 37 #[.int .i64 y, .int .i64 m] w fun e w' => ∃ v, e = .returned v ∧ S 1 (setR R 0 v) w')
    (hv : ∀ p R w, S p R w → 0 < p → R 0 = .int .i64 d)
    (hS : S 0 (resOf gd12C fun t => a0.eval (.tmp t)) wp.drew)
    (fin : ∀ a w, Fr [3, 4, 5, 6, 7, 8, 9, 10, 11, 12, 13, 14, 15, 16, 17, 18, 19, 20, 21, 22, 23, 24, 25, 26, 27, 28, 29, 30, 31, 32, 33, 34, 35, 36, 37, 38, 39, 40, 41, 42, 43, 44, 45, 46, 47, 48, 49, 50, 51, 52, 53, 54, 55, 56, 57, 58, 59, 60, 61, 62, 63, 64, 65, 66, 67, 68, 69, 70, 71, 72, 73, 74, 75, 2] a0 a → a.eval (.tmp 2) = .bool false → S 1 (resOf gd12C fun t => a.eval (.tmp t)) w → Q .normal a w) :
    (Code.region 1 opsGd true).wp Tryd.prog Q a0 wp := by
  refine region_inv (by kernel_rfl) [3, 4, 5, 6, 7, 8, 9, 10, 11, 12, 13, 14, 15, 16, 17, 18, 19, 20, 21, 22, 23, 24, 25, 26, 27, 28, 29, 30, 31, 32, 33, 34, 35, 36, 37, 38, 39, 40, 41, 42, 43, 44, 45, 46, 47, 48, 49, 50, 51, 52, 53, 54, 55, 56, 57, 58, 59, 60, 61, 62, 63, 64, 65, 66, 67, 68, 69, 70, 71, 72, 73, 74, 75, 2] (by kernel_rfl) (by kernel_rfl) (fun t ht => by simp at ht; omega) (GV (gd12Vals b y m k hh mi s z d) gd12C S) (.start hS) ?_
    (fun L a w hf hall hG => fin a w hf (hG.val 72 73 2 _ rfl (hall 73 (by decide))) (hG.fin (fun c hc => by simp [gd12C] at hc; subst hc; exact hall _ (by decide))))
  clear hS fin
  intro ix oo ho L a w hfr hG hLi hdep hcl K hK
  have e1 : a.tmps[1]?.getD undef = .pointer (some ⟨b, 0, none⟩) := by rw [← ev]; exact (hfr.same 1 (by decide)).trans in1
  clear in1
  match ix, ho with
  | 0, ho =>
   obtain rfl := gdO0 ho
   rw [if_pos (show Region.wanted _ _ = true from rfl)]
   have HK := Lib.hid (hK (.pointer (some ⟨b, 0, none⟩)) w (hG.quiet 0 0 3 _ rfl (by kernel_rfl) (by kernel_rfl)))
   clear hx hc hv c0 c1 c2 c3 c4 c5 c6 c7 c8 c9 c10 c11 c12
   clear hG hcl hdep hfr hK hLi
   go_simp
   exact HK.out
  | 1, ho =>
   obtain rfl := gdO1 ho
   have x3 := gdX (hG.val 0 0 3 _ rfl (hdep ⟨0, .data⟩ (by simp) rfl))
   rw [if_pos (show Region.wanted _ _ = true from rfl)]
   obtain ⟨ph, hSp, hdone⟩ := hG.any
   have HK := Lib.hid (hK (.int .i64 y) w (hG.quiet 1 1 4 _ rfl (by kernel_rfl) (by kernel_rfl)))
   generalize (resOf gd12C fun t => a.eval (.tmp t)) = R at *
   obtain ⟨q0, q1, q2, q3, q4, q5, q6⟩ := hx _ _ _ hSp
   clear hx hc hv c0 c1 c2 c3 c4 c5 c6 c7 c8 c9 c10 c11 c12 q1 q2 q3 q4 q5 q6
   clear hSp hdone
   clear hG hcl hdep hfr hK hLi
   go_simp
   exact HK.out
  | 2, ho =>
   obtain rfl := gdO2 ho
   have x4 := gdX (hG.val 1 1 4 _ rfl (hdep ⟨1, .data⟩ (by simp) rfl))
   rw [if_pos (show Region.wanted _ _ = true from rfl)]
   have HK := Lib.hid (hK (.bool true) w (hG.quiet 2 2 5 _ rfl (by kernel_rfl) (by kernel_rfl)))
   clear hx hc hv c1 c2 c3 c4 c5 c6 c7 c8 c9 c10 c11 c12
   clear hG hcl hdep hfr hK hLi
   go_simp
   exact HK.out
  | 3, ho =>
   obtain rfl := gdO3 ho
   have x5 := gdX (hG.val 2 2 5 _ rfl (hdep ⟨2, .data⟩ (by simp) rfl))
   rw [if_pos (show Region.wanted _ _ = true from rfl)]
   have HK := Lib.hid (hK (.bool true) w (hG.quiet 3 3 6 _ rfl (by kernel_rfl) (by kernel_rfl)))
   clear hG hcl hdep hfr hK hLi
   go_simp
   exact HK.out
  | 4, ho =>
   obtain rfl := gdO4 ho
   rw [if_pos (gdT4 (hG.val 3 3 6 _ rfl (hdep ⟨3, .guard⟩ (by simp) rfl)))]
   have HK := Lib.hid (hK (.pointer (some ⟨b, 0, none⟩)) w (hG.quiet 4 4 7 _ rfl (by kernel_rfl) (by kernel_rfl)))
   clear hx hc hv c0 c1 c2 c3 c4 c5 c6 c7 c8 c9 c10 c11 c12
   clear hG hcl hdep hfr hK hLi
   go_simp
   exact HK.out
  | 5, ho =>
   obtain rfl := gdO5 ho
   have x7 := gdX (hG.val 4 4 7 _ rfl (hdep ⟨4, .data⟩ (by simp) rfl))
   rw [if_pos (gdT5 (hG.val 3 3 6 _ rfl (hdep ⟨3, .guard⟩ (by simp) rfl)))]
   obtain ⟨ph, hSp, hdone⟩ := hG.any
   have HK := Lib.hid (hK (.int .i64 y) w (hG.quiet 5 5 8 _ rfl (by kernel_rfl) (by kernel_rfl)))
   generalize (resOf gd12C fun t => a.eval (.tmp t)) = R at *
   obtain ⟨q0, q1, q2, q3, q4, q5, q6⟩ := hx _ _ _ hSp
   clear hx hc hv c0 c1 c2 c3 c4 c5 c6 c7 c8 c9 c10 c11 c12 q1 q2 q3 q4 q5 q6
   clear hSp hdone
   clear hG hcl hdep hfr hK hLi
   go_simp
   exact HK.out
  | 6, ho =>
   obtain rfl := gdO6 ho
   have x8 := gdX (hG.val 5 5 8 _ rfl (hdep ⟨5, .data⟩ (by simp) rfl))
   rw [if_pos (gdT6 (hG.val 3 3 6 _ rfl (hdep ⟨3, .guard⟩ (by simp) rfl)))]
   have HK := Lib.hid (hK (.bool true) w (hG.quiet 6 6 9 _ rfl (by kernel_rfl) (by kernel_rfl)))
   clear hx hc hv c0 c2 c3 c4 c5 c6 c7 c8 c9 c10 c11 c12
   clear hG hcl hdep hfr hK hLi
   go_simp
   exact HK.out
  | 7, ho =>
   obtain rfl := gdO7 ho
   have x6 := gdX (hG.val 3 3 6 _ rfl (hdep ⟨3, .data⟩ (by simp) rfl))
   have x9 := gdX (hG.val 6 6 9 _ rfl (hdep ⟨6, .data⟩ (by simp) rfl))
   rw [if_pos (show Region.wanted _ _ = true from rfl)]
   have HK := Lib.hid (hK (.bool true) w (hG.quiet 7 7 10 _ rfl (by kernel_rfl) (by kernel_rfl)))
   clear hG hcl hdep hfr hK hLi
   go_simp
   exact HK.out
  | 8, ho =>
   obtain rfl := gdO8 ho
   have x10 := gdX (hG.val 7 7 10 _ rfl (hdep ⟨7, .data⟩ (by simp) rfl))
   rw [if_pos (show Region.wanted _ _ = true from rfl)]
   have HK := Lib.hid (hK (.bool true) w (hG.quiet 8 8 11 _ rfl (by kernel_rfl) (by kernel_rfl)))
   clear hG hcl hdep hfr hK hLi
   go_simp
   exact HK.out
  | 9, ho =>
   obtain rfl := gdO9 ho
   rw [if_pos (gdT9 (hG.val 8 8 11 _ rfl (hdep ⟨8, .guard⟩ (by simp) rfl)))]
   have HK := Lib.hid (hK (.pointer (some ⟨b, 1, none⟩)) w (hG.quiet 9 9 12 _ rfl (by kernel_rfl) (by kernel_rfl)))
   clear hx hc hv c0 c1 c2 c3 c4 c5 c6 c7 c8 c9 c10 c11 c12
   clear hG hcl hdep hfr hK hLi
   go_simp
   exact HK.out
  | 10, ho =>
   obtain rfl := gdO10 ho
   have x12 := gdX (hG.val 9 9 12 _ rfl (hdep ⟨9, .data⟩ (by simp) rfl))
   rw [if_pos (gdT10 (hG.val 8 8 11 _ rfl (hdep ⟨8, .guard⟩ (by simp) rfl)))]
   obtain ⟨ph, hSp, hdone⟩ := hG.any
   have HK := Lib.hid (hK (.int .i64 m) w (hG.quiet 10 10 13 _ rfl (by kernel_rfl) (by kernel_rfl)))
   generalize (resOf gd12C fun t => a.eval (.tmp t)) = R at *
   obtain ⟨q0, q1, q2, q3, q4, q5, q6⟩ := hx _ _ _ hSp
   clear hx hc hv c0 c1 c2 c3 c4 c5 c6 c7 c8 c9 c10 c11 c12 q0 q2 q3 q4 q5 q6
   clear hSp hdone
   clear hG hcl hdep hfr hK hLi
   go_simp
   exact HK.out
  | 11, ho =>
   obtain rfl := gdO11 ho
   have x13 := gdX (hG.val 10 10 13 _ rfl (hdep ⟨10, .data⟩ (by simp) rfl))
   rw [if_pos (gdT11 (hG.val 8 8 11 _ rfl (hdep ⟨8, .guard⟩ (by simp) rfl)))]
   have HK := Lib.hid (hK (.bool true) w (hG.quiet 11 11 14 _ rfl (by kernel_rfl) (by kernel_rfl)))
   clear hx hc hv c0 c1 c3 c4 c5 c6 c7 c8 c9 c10 c11 c12
   clear hG hcl hdep hfr hK hLi
   go_simp
   exact HK.out
  | 12, ho =>
   obtain rfl := gdO12 ho
   have x11 := gdX (hG.val 8 8 11 _ rfl (hdep ⟨8, .data⟩ (by simp) rfl))
   have x14 := gdX (hG.val 11 11 14 _ rfl (hdep ⟨11, .data⟩ (by simp) rfl))
   rw [if_pos (show Region.wanted _ _ = true from rfl)]
   have HK := Lib.hid (hK (.bool true) w (hG.quiet 12 12 15 _ rfl (by kernel_rfl) (by kernel_rfl)))
   clear hG hcl hdep hfr hK hLi
   go_simp
   exact HK.out
  | 13, ho =>
   obtain rfl := gdO13 ho
   have x15 := gdX (hG.val 12 12 15 _ rfl (hdep ⟨12, .data⟩ (by simp) rfl))
   rw [if_pos (show Region.wanted _ _ = true from rfl)]
   have HK := Lib.hid (hK (.bool true) w (hG.quiet 13 13 16 _ rfl (by kernel_rfl) (by kernel_rfl)))
   clear hG hcl hdep hfr hK hLi
   go_simp
   exact HK.out
  | 14, ho =>
   obtain rfl := gdO14 ho
   rw [if_pos (gdT14 (hG.val 13 13 16 _ rfl (hdep ⟨13, .guard⟩ (by simp) rfl)))]
   have HK := Lib.hid (hK (.pointer (some ⟨b, 1, none⟩)) w (hG.quiet 14 14 17 _ rfl (by kernel_rfl) (by kernel_rfl)))
   clear hx hc hv c0 c1 c2 c3 c4 c5 c6 c7 c8 c9 c10 c11 c12
   clear hG hcl hdep hfr hK hLi
   go_simp
   exact HK.out
  | 15, ho =>
   obtain rfl := gdO15 ho
   have x17 := gdX (hG.val 14 14 17 _ rfl (hdep ⟨14, .data⟩ (by simp) rfl))
   rw [if_pos (gdT15 (hG.val 13 13 16 _ rfl (hdep ⟨13, .guard⟩ (by simp) rfl)))]
   obtain ⟨ph, hSp, hdone⟩ := hG.any
   have HK := Lib.hid (hK (.int .i64 m) w (hG.quiet 15 15 18 _ rfl (by kernel_rfl) (by kernel_rfl)))
   generalize (resOf gd12C fun t => a.eval (.tmp t)) = R at *
   obtain ⟨q0, q1, q2, q3, q4, q5, q6⟩ := hx _ _ _ hSp
   clear hx hc hv c0 c1 c2 c3 c4 c5 c6 c7 c8 c9 c10 c11 c12 q0 q2 q3 q4 q5 q6
   clear hSp hdone
   clear hG hcl hdep hfr hK hLi
   go_simp
   exact HK.out
  | 16, ho =>
   obtain rfl := gdO16 ho
   have x18 := gdX (hG.val 15 15 18 _ rfl (hdep ⟨15, .data⟩ (by simp) rfl))
   rw [if_pos (gdT16 (hG.val 13 13 16 _ rfl (hdep ⟨13, .guard⟩ (by simp) rfl)))]
   have HK := Lib.hid (hK (.bool true) w (hG.quiet 16 16 19 _ rfl (by kernel_rfl) (by kernel_rfl)))
   clear hx hc hv c0 c1 c2 c4 c5 c6 c7 c8 c9 c10 c11 c12
   clear hG hcl hdep hfr hK hLi
   go_simp
   exact HK.out
  | 17, ho =>
   obtain rfl := gdO17 ho
   have x16 := gdX (hG.val 13 13 16 _ rfl (hdep ⟨13, .data⟩ (by simp) rfl))
   have x19 := gdX (hG.val 16 16 19 _ rfl (hdep ⟨16, .data⟩ (by simp) rfl))
   rw [if_pos (show Region.wanted _ _ = true from rfl)]
   have HK := Lib.hid (hK (.bool true) w (hG.quiet 17 17 20 _ rfl (by kernel_rfl) (by kernel_rfl)))
   clear hG hcl hdep hfr hK hLi
   go_simp
   exact HK.out
  | 18, ho =>
   obtain rfl := gdO18 ho
   have x20 := gdX (hG.val 17 17 20 _ rfl (hdep ⟨17, .data⟩ (by simp) rfl))
   rw [if_pos (show Region.wanted _ _ = true from rfl)]
   have HK := Lib.hid (hK (.bool true) w (hG.quiet 18 18 21 _ rfl (by kernel_rfl) (by kernel_rfl)))
   clear hG hcl hdep hfr hK hLi
   go_simp
   exact HK.out
  | 19, ho =>
   obtain rfl := gdO19 ho
   rw [if_pos (gdT19 (hG.val 18 18 21 _ rfl (hdep ⟨18, .guard⟩ (by simp) rfl)))]
   have HK := Lib.hid (hK (.pointer (some ⟨b, 2, none⟩)) w (hG.quiet 19 19 22 _ rfl (by kernel_rfl) (by kernel_rfl)))
   clear hx hc hv c0 c1 c2 c3 c4 c5 c6 c7 c8 c9 c10 c11 c12
   clear hG hcl hdep hfr hK hLi
   go_simp
   exact HK.out
  | 20, ho =>
   obtain rfl := gdO20 ho
   have x22 := gdX (hG.val 19 19 22 _ rfl (hdep ⟨19, .data⟩ (by simp) rfl))
   rw [if_pos (gdT20 (hG.val 18 18 21 _ rfl (hdep ⟨18, .guard⟩ (by simp) rfl)))]
   obtain ⟨ph, hSp, hdone⟩ := hG.any
   have HK := Lib.hid (hK (.int .i64 k) w (hG.quiet 20 20 23 _ rfl (by kernel_rfl) (by kernel_rfl)))
   generalize (resOf gd12C fun t => a.eval (.tmp t)) = R at *
   obtain ⟨q0, q1, q2, q3, q4, q5, q6⟩ := hx _ _ _ hSp
   clear hx hc hv c0 c1 c2 c3 c4 c5 c6 c7 c8 c9 c10 c11 c12 q0 q1 q3 q4 q5 q6
   clear hSp hdone
   clear hG hcl hdep hfr hK hLi
   go_simp
   exact HK.out
  | 21, ho =>
   obtain rfl := gdO21 ho
   have x23 := gdX (hG.val 20 20 23 _ rfl (hdep ⟨20, .data⟩ (by simp) rfl))
   rw [if_pos (gdT21 (hG.val 18 18 21 _ rfl (hdep ⟨18, .guard⟩ (by simp) rfl)))]
   have HK := Lib.hid (hK (.bool true) w (hG.quiet 21 21 24 _ rfl (by kernel_rfl) (by kernel_rfl)))
   clear hx hc hv c0 c1 c2 c3 c5 c6 c7 c8 c9 c10 c11 c12
   clear hG hcl hdep hfr hK hLi
   go_simp
   exact HK.out
  | 22, ho =>
   obtain rfl := gdO22 ho
   have x21 := gdX (hG.val 18 18 21 _ rfl (hdep ⟨18, .data⟩ (by simp) rfl))
   have x24 := gdX (hG.val 21 21 24 _ rfl (hdep ⟨21, .data⟩ (by simp) rfl))
   rw [if_pos (show Region.wanted _ _ = true from rfl)]
   have HK := Lib.hid (hK (.bool true) w (hG.quiet 22 22 25 _ rfl (by kernel_rfl) (by kernel_rfl)))
   clear hG hcl hdep hfr hK hLi
   go_simp
   exact HK.out
  | 23, ho =>
   obtain rfl := gdO23 ho
   have x25 := gdX (hG.val 22 22 25 _ rfl (hdep ⟨22, .data⟩ (by simp) rfl))
   rw [if_pos (show Region.wanted _ _ = true from rfl)]
   have HK := Lib.hid (hK (.bool true) w (hG.quiet 23 23 26 _ rfl (by kernel_rfl) (by kernel_rfl)))
   clear hG hcl hdep hfr hK hLi
   go_simp
   exact HK.out
  | 24, ho =>
   obtain rfl := gdO24 ho
   rw [if_pos (gdT24 (hG.val 23 23 26 _ rfl (hdep ⟨23, .guard⟩ (by simp) rfl)))]
   have HK := Lib.hid (hK (.pointer (some ⟨b, 2, none⟩)) w (hG.quiet 24 24 27 _ rfl (by kernel_rfl) (by kernel_rfl)))
   clear hx hc hv c0 c1 c2 c3 c4 c5 c6 c7 c8 c9 c10 c11 c12
   clear hG hcl hdep hfr hK hLi
   go_simp
   exact HK.out
  | 25, ho =>
   obtain rfl := gdO25 ho
   have x27 := gdX (hG.val 24 24 27 _ rfl (hdep ⟨24, .data⟩ (by simp) rfl))
   rw [if_pos (gdT25 (hG.val 23 23 26 _ rfl (hdep ⟨23, .guard⟩ (by simp) rfl)))]
   obtain ⟨ph, hSp, hdone⟩ := hG.any
   have HK := Lib.hid (hK (.int .i64 k) w (hG.quiet 25 25 28 _ rfl (by kernel_rfl) (by kernel_rfl)))
   generalize (resOf gd12C fun t => a.eval (.tmp t)) = R at *
   obtain ⟨q0, q1, q2, q3, q4, q5, q6⟩ := hx _ _ _ hSp
   clear hx hc hv c0 c1 c2 c3 c4 c5 c6 c7 c8 c9 c10 c11 c12 q0 q1 q3 q4 q5 q6
   clear hSp hdone
   clear hG hcl hdep hfr hK hLi
   go_simp
   exact HK.out
  | 26, ho =>
   obtain rfl := gdO26 ho
   rw [if_pos (gdT26 (hG.val 23 23 26 _ rfl (hdep ⟨23, .guard⟩ (by simp) rfl)))]
   have HK := Lib.hid (hK (.pointer (some ⟨b, 0, none⟩)) w (hG.quiet 26 26 29 _ rfl (by kernel_rfl) (by kernel_rfl)))
   clear hx hc hv c0 c1 c2 c3 c4 c5 c6 c7 c8 c9 c10 c11 c12
   clear hG hcl hdep hfr hK hLi
   go_simp
   exact HK.out
  | 27, ho =>
   obtain rfl := gdO27 ho
   have x29 := gdX (hG.val 26 26 29 _ rfl (hdep ⟨26, .data⟩ (by simp) rfl))
   rw [if_pos (gdT27 (hG.val 23 23 26 _ rfl (hdep ⟨23, .guard⟩ (by simp) rfl)))]
   obtain ⟨ph, hSp, hdone⟩ := hG.any
   have HK := Lib.hid (hK (.int .i64 y) w (hG.quiet 27 27 30 _ rfl (by kernel_rfl) (by kernel_rfl)))
   generalize (resOf gd12C fun t => a.eval (.tmp t)) = R at *
   obtain ⟨q0, q1, q2, q3, q4, q5, q6⟩ := hx _ _ _ hSp
   clear hx hc hv c0 c1 c2 c3 c4 c5 c6 c7 c8 c9 c10 c11 c12 q1 q2 q3 q4 q5 q6
   clear hSp hdone
   clear hG hcl hdep hfr hK hLi
   go_simp
   exact HK.out
  | 28, ho =>
   obtain rfl := gdO28 ho
   rw [if_pos (gdT28 (hG.val 23 23 26 _ rfl (hdep ⟨23, .guard⟩ (by simp) rfl)))]
   have HK := Lib.hid (hK (.pointer (some ⟨b, 1, none⟩)) w (hG.quiet 28 28 31 _ rfl (by kernel_rfl) (by kernel_rfl)))
   clear hx hc hv c0 c1 c2 c3 c4 c5 c6 c7 c8 c9 c10 c11 c12
   clear hG hcl hdep hfr hK hLi
   go_simp
   exact HK.out
  | 29, ho =>
   obtain rfl := gdO29 ho
   have x31 := gdX (hG.val 28 28 31 _ rfl (hdep ⟨28, .data⟩ (by simp) rfl))
   rw [if_pos (gdT29 (hG.val 23 23 26 _ rfl (hdep ⟨23, .guard⟩ (by simp) rfl)))]
   obtain ⟨ph, hSp, hdone⟩ := hG.any
   have HK := Lib.hid (hK (.int .i64 m) w (hG.quiet 29 29 32 _ rfl (by kernel_rfl) (by kernel_rfl)))
   generalize (resOf gd12C fun t => a.eval (.tmp t)) = R at *
   obtain ⟨q0, q1, q2, q3, q4, q5, q6⟩ := hx _ _ _ hSp
   clear hx hc hv c0 c1 c2 c3 c4 c5 c6 c7 c8 c9 c10 c11 c12 q0 q2 q3 q4 q5 q6
   clear hSp hdone
   clear hG hcl hdep hfr hK hLi
   go_simp
   exact HK.out
  | 30, ho =>
   obtain rfl := gdO30 ho
   have x30 := gdX (hG.val 27 27 30 _ rfl (hdep ⟨27, .data⟩ (by simp) rfl))
   have x32 := gdX (hG.val 29 29 32 _ rfl (hdep ⟨29, .data⟩ (by simp) rfl))
   rw [if_pos (gdT30 (hG.val 23 23 26 _ rfl (hdep ⟨23, .chain⟩ (by simp) rfl)))]
   have hSj := hG.at 0 (30, 33) rfl hLi (fun c h0 hc => absurd h0 (by decide))
   have hfin := fun v w' hs => hK v w' (hG.call 0 (30, 33) rfl hLi (fun c h0 hc => absurd h0 (by decide)) (by kernel_rfl) v w' hs)
   have HK := Lib.hid hfin
   generalize (resOf gd12C fun t => a.eval (.tmp t)) = R at *
   clear hG hcl hdep hfr hK hfin hLi
   have hcc := Lib.hid (hc _ _ hSj)
   clear hSj hx hc hv c0 c1 c2 c3 c4 c5 c6 c7 c8 c9 c10 c11 c12
   go_simp
   go_at_call 37
   refine hcc.out.mono ?_
   rintro e w' ⟨v, rfl, hs⟩
   exact HK.out v w' hs
  | 31, ho =>
   obtain rfl := gdO31 ho
   have x28 := gdX (hG.val 25 25 28 _ rfl (hdep ⟨25, .data⟩ (by simp) rfl))
   rw [if_pos (gdT31 (hG.val 23 23 26 _ rfl (hdep ⟨23, .guard⟩ (by simp) rfl)))]
   obtain ⟨ph, hSp, hdone⟩ := hG.any
   have hd33 : 0 < ph := hdone 0 (30, 33) rfl (hdep ⟨30, .data⟩ (by simp) rfl)
   have r33 : a.tmps[33]?.getD undef = resOf gd12C (fun t => a.eval (.tmp t)) 0 := by rw [← ev]; exact (resOf_at (C := gd12C) (j := 0) rfl a).symm
   have HK := Lib.hid (hK (.bool true) w (hG.quiet 30 31 34 _ rfl (by kernel_rfl) (by kernel_rfl)))
   generalize (resOf gd12C fun t => a.eval (.tmp t)) = R at *
   rw [hv _ _ _ hSp hd33] at r33
   clear hd33
   clear hx hc hv c0 c1 c2 c3 c4 c6 c7 c8 c9 c10 c11 c12
   clear hSp hdone
   clear hG hcl hdep hfr hK hLi
   go_simp
   exact HK.out
  | 32, ho =>
   obtain rfl := gdO32 ho
   have x26 := gdX (hG.val 23 23 26 _ rfl (hdep ⟨23, .data⟩ (by simp) rfl))
   have x34 := gdX (hG.val 30 31 34 _ rfl (hdep ⟨31, .data⟩ (by simp) rfl))
   rw [if_pos (show Region.wanted _ _ = true from rfl)]
   have HK := Lib.hid (hK (.bool true) w (hG.quiet 31 32 35 _ rfl (by kernel_rfl) (by kernel_rfl)))
   clear hG hcl hdep hfr hK hLi
   go_simp
   exact HK.out
  | 33, ho =>
   obtain rfl := gdO33 ho
   have x35 := gdX (hG.val 31 32 35 _ rfl (hdep ⟨32, .data⟩ (by simp) rfl))
   rw [if_pos (show Region.wanted _ _ = true from rfl)]
   have HK := Lib.hid (hK (.bool true) w (hG.quiet 32 33 36 _ rfl (by kernel_rfl) (by kernel_rfl)))
   clear hG hcl hdep hfr hK hLi
   go_simp
   exact HK.out
  | 34, ho =>
   obtain rfl := gdO34 ho
   rw [if_pos (gdT34 (hG.val 32 33 36 _ rfl (hdep ⟨33, .guard⟩ (by simp) rfl)))]
   have HK := Lib.hid (hK (.pointer (some ⟨b, 3, none⟩)) w (hG.quiet 33 34 37 _ rfl (by kernel_rfl) (by kernel_rfl)))
   clear hx hc hv c0 c1 c2 c3 c4 c5 c6 c7 c8 c9 c10 c11 c12
   clear hG hcl hdep hfr hK hLi
   go_simp
   exact HK.out
  | 35, ho =>
   obtain rfl := gdO35 ho
   have x37 := gdX (hG.val 33 34 37 _ rfl (hdep ⟨34, .data⟩ (by simp) rfl))
   rw [if_pos (gdT35 (hG.val 32 33 36 _ rfl (hdep ⟨33, .guard⟩ (by simp) rfl)))]
   obtain ⟨ph, hSp, hdone⟩ := hG.any
   have HK := Lib.hid (hK (.int .i64 hh) w (hG.quiet 34 35 38 _ rfl (by kernel_rfl) (by kernel_rfl)))
   generalize (resOf gd12C fun t => a.eval (.tmp t)) = R at *
   obtain ⟨q0, q1, q2, q3, q4, q5, q6⟩ := hx _ _ _ hSp
   clear hx hc hv c0 c1 c2 c3 c4 c5 c6 c7 c8 c9 c10 c11 c12 q0 q1 q2 q4 q5 q6
   clear hSp hdone
   clear hG hcl hdep hfr hK hLi
   go_simp
   exact HK.out
  | 36, ho =>
   obtain rfl := gdO36 ho
   have x38 := gdX (hG.val 34 35 38 _ rfl (hdep ⟨35, .data⟩ (by simp) rfl))
   rw [if_pos (gdT36 (hG.val 32 33 36 _ rfl (hdep ⟨33, .guard⟩ (by simp) rfl)))]
   have HK := Lib.hid (hK (.bool true) w (hG.quiet 35 36 39 _ rfl (by kernel_rfl) (by kernel_rfl)))
   clear hx hc hv c0 c1 c2 c3 c4 c5 c7 c8 c9 c10 c11 c12
   clear hG hcl hdep hfr hK hLi
   go_simp
   exact HK.out
  | 37, ho =>
   obtain rfl := gdO37 ho
   have x36 := gdX (hG.val 32 33 36 _ rfl (hdep ⟨33, .data⟩ (by simp) rfl))
   have x39 := gdX (hG.val 35 36 39 _ rfl (hdep ⟨36, .data⟩ (by simp) rfl))
   rw [if_pos (show Region.wanted _ _ = true from rfl)]
   have HK := Lib.hid (hK (.bool true) w (hG.quiet 36 37 40 _ rfl (by kernel_rfl) (by kernel_rfl)))
   clear hG hcl hdep hfr hK hLi
   go_simp
   exact HK.out
  | 38, ho =>
   obtain rfl := gdO38 ho
   have x40 := gdX (hG.val 36 37 40 _ rfl (hdep ⟨37, .data⟩ (by simp) rfl))
   rw [if_pos (show Region.wanted _ _ = true from rfl)]
   have HK := Lib.hid (hK (.bool true) w (hG.quiet 37 38 41 _ rfl (by kernel_rfl) (by kernel_rfl)))
   clear hG hcl hdep hfr hK hLi
   go_simp
   exact HK.out
  | 39, ho =>
   obtain rfl := gdO39 ho
   rw [if_pos (gdT39 (hG.val 37 38 41 _ rfl (hdep ⟨38, .guard⟩ (by simp) rfl)))]
   have HK := Lib.hid (hK (.pointer (some ⟨b, 3, none⟩)) w (hG.quiet 38 39 42 _ rfl (by kernel_rfl) (by kernel_rfl)))
   clear hx hc hv c0 c1 c2 c3 c4 c5 c6 c7 c8 c9 c10 c11 c12
   clear hG hcl hdep hfr hK hLi
   go_simp
   exact HK.out
  | 40, ho =>
   obtain rfl := gdO40 ho
   have x42 := gdX (hG.val 38 39 42 _ rfl (hdep ⟨39, .data⟩ (by simp) rfl))
   rw [if_pos (gdT40 (hG.val 37 38 41 _ rfl (hdep ⟨38, .guard⟩ (by simp) rfl)))]
   obtain ⟨ph, hSp, hdone⟩ := hG.any
   have HK := Lib.hid (hK (.int .i64 hh) w (hG.quiet 39 40 43 _ rfl (by kernel_rfl) (by kernel_rfl)))
   generalize (resOf gd12C fun t => a.eval (.tmp t)) = R at *
   obtain ⟨q0, q1, q2, q3, q4, q5, q6⟩ := hx _ _ _ hSp
   clear hx hc hv c0 c1 c2 c3 c4 c5 c6 c7 c8 c9 c10 c11 c12 q0 q1 q2 q4 q5 q6
   clear hSp hdone
   clear hG hcl hdep hfr hK hLi
   go_simp
   exact HK.out
  | 41, ho =>
   obtain rfl := gdO41 ho
   have x43 := gdX (hG.val 39 40 43 _ rfl (hdep ⟨40, .data⟩ (by simp) rfl))
   rw [if_pos (gdT41 (hG.val 37 38 41 _ rfl (hdep ⟨38, .guard⟩ (by simp) rfl)))]
   have HK := Lib.hid (hK (.bool true) w (hG.quiet 40 41 44 _ rfl (by kernel_rfl) (by kernel_rfl)))
   clear hx hc hv c0 c1 c2 c3 c4 c5 c6 c8 c9 c10 c11 c12
   clear hG hcl hdep hfr hK hLi
   go_simp
   exact HK.out
  | 42, ho =>
   obtain rfl := gdO42 ho
   have x41 := gdX (hG.val 37 38 41 _ rfl (hdep ⟨38, .data⟩ (by simp) rfl))
   have x44 := gdX (hG.val 40 41 44 _ rfl (hdep ⟨41, .data⟩ (by simp) rfl))
   rw [if_pos (show Region.wanted _ _ = true from rfl)]
   have HK := Lib.hid (hK (.bool true) w (hG.quiet 41 42 45 _ rfl (by kernel_rfl) (by kernel_rfl)))
   clear hG hcl hdep hfr hK hLi
   go_simp
   exact HK.out
  | 43, ho =>
   obtain rfl := gdO43 ho
   have x45 := gdX (hG.val 41 42 45 _ rfl (hdep ⟨42, .data⟩ (by simp) rfl))
   rw [if_pos (show Region.wanted _ _ = true from rfl)]
   have HK := Lib.hid (hK (.bool true) w (hG.quiet 42 43 46 _ rfl (by kernel_rfl) (by kernel_rfl)))
   clear hG hcl hdep hfr hK hLi
   go_simp
   exact HK.out
  | 44, ho =>
   obtain rfl := gdO44 ho
   rw [if_pos (gdT44 (hG.val 42 43 46 _ rfl (hdep ⟨43, .guard⟩ (by simp) rfl)))]
   have HK := Lib.hid (hK (.pointer (some ⟨b, 4, none⟩)) w (hG.quiet 43 44 47 _ rfl (by kernel_rfl) (by kernel_rfl)))
   clear hx hc hv c0 c1 c2 c3 c4 c5 c6 c7 c8 c9 c10 c11 c12
   clear hG hcl hdep hfr hK hLi
   go_simp
   exact HK.out
  | 45, ho =>
   obtain rfl := gdO45 ho
   have x47 := gdX (hG.val 43 44 47 _ rfl (hdep ⟨44, .data⟩ (by simp) rfl))
   rw [if_pos (gdT45 (hG.val 42 43 46 _ rfl (hdep ⟨43, .guard⟩ (by simp) rfl)))]
   obtain ⟨ph, hSp, hdone⟩ := hG.any
   have HK := Lib.hid (hK (.int .i64 mi) w (hG.quiet 44 45 48 _ rfl (by kernel_rfl) (by kernel_rfl)))
   generalize (resOf gd12C fun t => a.eval (.tmp t)) = R at *
   obtain ⟨q0, q1, q2, q3, q4, q5, q6⟩ := hx _ _ _ hSp
   clear hx hc hv c0 c1 c2 c3 c4 c5 c6 c7 c8 c9 c10 c11 c12 q0 q1 q2 q3 q5 q6
   clear hSp hdone
   clear hG hcl hdep hfr hK hLi
   go_simp
   exact HK.out
  | 46, ho =>
   obtain rfl := gdO46 ho
   have x48 := gdX (hG.val 44 45 48 _ rfl (hdep ⟨45, .data⟩ (by simp) rfl))
   rw [if_pos (gdT46 (hG.val 42 43 46 _ rfl (hdep ⟨43, .guard⟩ (by simp) rfl)))]
   have HK := Lib.hid (hK (.bool true) w (hG.quiet 45 46 49 _ rfl (by kernel_rfl) (by kernel_rfl)))
   clear hx hc hv c0 c1 c2 c3 c4 c5 c6 c7 c9 c10 c11 c12
   clear hG hcl hdep hfr hK hLi
   go_simp
   exact HK.out
  | 47, ho =>
   obtain rfl := gdO47 ho
   have x46 := gdX (hG.val 42 43 46 _ rfl (hdep ⟨43, .data⟩ (by simp) rfl))
   have x49 := gdX (hG.val 45 46 49 _ rfl (hdep ⟨46, .data⟩ (by simp) rfl))
   rw [if_pos (show Region.wanted _ _ = true from rfl)]
   have HK := Lib.hid (hK (.bool true) w (hG.quiet 46 47 50 _ rfl (by kernel_rfl) (by kernel_rfl)))
   clear hG hcl hdep hfr hK hLi
   go_simp
   exact HK.out
  | 48, ho =>
   obtain rfl := gdO48 ho
   have x50 := gdX (hG.val 46 47 50 _ rfl (hdep ⟨47, .data⟩ (by simp) rfl))
   rw [if_pos (show Region.wanted _ _ = true from rfl)]
   have HK := Lib.hid (hK (.bool true) w (hG.quiet 47 48 51 _ rfl (by kernel_rfl) (by kernel_rfl)))
   clear hG hcl hdep hfr hK hLi
   go_simp
   exact HK.out
  | 49, ho =>
   obtain rfl := gdO49 ho
   rw [if_pos (gdT49 (hG.val 47 48 51 _ rfl (hdep ⟨48, .guard⟩ (by simp) rfl)))]
   have HK := Lib.hid (hK (.pointer (some ⟨b, 4, none⟩)) w (hG.quiet 48 49 52 _ rfl (by kernel_rfl) (by kernel_rfl)))
   clear hx hc hv c0 c1 c2 c3 c4 c5 c6 c7 c8 c9 c10 c11 c12
   clear hG hcl hdep hfr hK hLi
   go_simp
   exact HK.out
  | 50, ho =>
   obtain rfl := gdO50 ho
   have x52 := gdX (hG.val 48 49 52 _ rfl (hdep ⟨49, .data⟩ (by simp) rfl))
   rw [if_pos (gdT50 (hG.val 47 48 51 _ rfl (hdep ⟨48, .guard⟩ (by simp) rfl)))]
   obtain ⟨ph, hSp, hdone⟩ := hG.any
   have HK := Lib.hid (hK (.int .i64 mi) w (hG.quiet 49 50 53 _ rfl (by kernel_rfl) (by kernel_rfl)))
   generalize (resOf gd12C fun t => a.eval (.tmp t)) = R at *
   obtain ⟨q0, q1, q2, q3, q4, q5, q6⟩ := hx _ _ _ hSp
   clear hx hc hv c0 c1 c2 c3 c4 c5 c6 c7 c8 c9 c10 c11 c12 q0 q1 q2 q3 q5 q6
   clear hSp hdone
   clear hG hcl hdep hfr hK hLi
   go_simp
   exact HK.out
  | 51, ho =>
   obtain rfl := gdO51 ho
   have x53 := gdX (hG.val 49 50 53 _ rfl (hdep ⟨50, .data⟩ (by simp) rfl))
   rw [if_pos (gdT51 (hG.val 47 48 51 _ rfl (hdep ⟨48, .guard⟩ (by simp) rfl)))]
   have HK := Lib.hid (hK (.bool true) w (hG.quiet 50 51 54 _ rfl (by kernel_rfl) (by kernel_rfl)))
   clear hx hc hv c0 c1 c2 c3 c4 c5 c6 c7 c8 c10 c11 c12
   clear hG hcl hdep hfr hK hLi
   go_simp
   exact HK.out
  | 52, ho =>
   obtain rfl := gdO52 ho
   have x51 := gdX (hG.val 47 48 51 _ rfl (hdep ⟨48, .data⟩ (by simp) rfl))
   have x54 := gdX (hG.val 50 51 54 _ rfl (hdep ⟨51, .data⟩ (by simp) rfl))
   rw [if_pos (show Region.wanted _ _ = true from rfl)]
   have HK := Lib.hid (hK (.bool true) w (hG.quiet 51 52 55 _ rfl (by kernel_rfl) (by kernel_rfl)))
   clear hG hcl hdep hfr hK hLi
   go_simp
   exact HK.out
  | 53, ho =>
   obtain rfl := gdO53 ho
   have x55 := gdX (hG.val 51 52 55 _ rfl (hdep ⟨52, .data⟩ (by simp) rfl))
   rw [if_pos (show Region.wanted _ _ = true from rfl)]
   have HK := Lib.hid (hK (.bool true) w (hG.quiet 52 53 56 _ rfl (by kernel_rfl) (by kernel_rfl)))
   clear hG hcl hdep hfr hK hLi
   go_simp
   exact HK.out
  | 54, ho =>
   obtain rfl := gdO54 ho
   rw [if_pos (gdT54 (hG.val 52 53 56 _ rfl (hdep ⟨53, .guard⟩ (by simp) rfl)))]
   have HK := Lib.hid (hK (.pointer (some ⟨b, 5, none⟩)) w (hG.quiet 53 54 57 _ rfl (by kernel_rfl) (by kernel_rfl)))
   clear hx hc hv c0 c1 c2 c3 c4 c5 c6 c7 c8 c9 c10 c11 c12
   clear hG hcl hdep hfr hK hLi
   go_simp
   exact HK.out
  | 55, ho =>
   obtain rfl := gdO55 ho
   have x57 := gdX (hG.val 53 54 57 _ rfl (hdep ⟨54, .data⟩ (by simp) rfl))
   rw [if_pos (gdT55 (hG.val 52 53 56 _ rfl (hdep ⟨53, .guard⟩ (by simp) rfl)))]
   obtain ⟨ph, hSp, hdone⟩ := hG.any
   have HK := Lib.hid (hK (.int .i64 s) w (hG.quiet 54 55 58 _ rfl (by kernel_rfl) (by kernel_rfl)))
   generalize (resOf gd12C fun t => a.eval (.tmp t)) = R at *
   obtain ⟨q0, q1, q2, q3, q4, q5, q6⟩ := hx _ _ _ hSp
   clear hx hc hv c0 c1 c2 c3 c4 c5 c6 c7 c8 c9 c10 c11 c12 q0 q1 q2 q3 q4 q6
   clear hSp hdone
   clear hG hcl hdep hfr hK hLi
   go_simp
   exact HK.out
  | 56, ho =>
   obtain rfl := gdO56 ho
   have x58 := gdX (hG.val 54 55 58 _ rfl (hdep ⟨55, .data⟩ (by simp) rfl))
   rw [if_pos (gdT56 (hG.val 52 53 56 _ rfl (hdep ⟨53, .guard⟩ (by simp) rfl)))]
   have HK := Lib.hid (hK (.bool true) w (hG.quiet 55 56 59 _ rfl (by kernel_rfl) (by kernel_rfl)))
   clear hx hc hv c0 c1 c2 c3 c4 c5 c6 c7 c8 c9 c11 c12
   clear hG hcl hdep hfr hK hLi
   go_simp
   exact HK.out
  | 57, ho =>
   obtain rfl := gdO57 ho
   have x56 := gdX (hG.val 52 53 56 _ rfl (hdep ⟨53, .data⟩ (by simp) rfl))
   have x59 := gdX (hG.val 55 56 59 _ rfl (hdep ⟨56, .data⟩ (by simp) rfl))
   rw [if_pos (show Region.wanted _ _ = true from rfl)]
   have HK := Lib.hid (hK (.bool true) w (hG.quiet 56 57 60 _ rfl (by kernel_rfl) (by kernel_rfl)))
   clear hG hcl hdep hfr hK hLi
   go_simp
   exact HK.out
  | 58, ho =>
   obtain rfl := gdO58 ho
   have x60 := gdX (hG.val 56 57 60 _ rfl (hdep ⟨57, .data⟩ (by simp) rfl))
   rw [if_pos (show Region.wanted _ _ = true from rfl)]
   have HK := Lib.hid (hK (.bool true) w (hG.quiet 57 58 61 _ rfl (by kernel_rfl) (by kernel_rfl)))
   clear hG hcl hdep hfr hK hLi
   go_simp
   exact HK.out
  | 59, ho =>
   obtain rfl := gdO59 ho
   rw [if_pos (gdT59 (hG.val 57 58 61 _ rfl (hdep ⟨58, .guard⟩ (by simp) rfl)))]
   have HK := Lib.hid (hK (.pointer (some ⟨b, 5, none⟩)) w (hG.quiet 58 59 62 _ rfl (by kernel_rfl) (by kernel_rfl)))
   clear hx hc hv c0 c1 c2 c3 c4 c5 c6 c7 c8 c9 c10 c11 c12
   clear hG hcl hdep hfr hK hLi
   go_simp
   exact HK.out
  | 60, ho =>
   obtain rfl := gdO60 ho
   have x62 := gdX (hG.val 58 59 62 _ rfl (hdep ⟨59, .data⟩ (by simp) rfl))
   rw [if_pos (gdT60 (hG.val 57 58 61 _ rfl (hdep ⟨58, .guard⟩ (by simp) rfl)))]
   obtain ⟨ph, hSp, hdone⟩ := hG.any
   have HK := Lib.hid (hK (.int .i64 s) w (hG.quiet 59 60 63 _ rfl (by kernel_rfl) (by kernel_rfl)))
   generalize (resOf gd12C fun t => a.eval (.tmp t)) = R at *
   obtain ⟨q0, q1, q2, q3, q4, q5, q6⟩ := hx _ _ _ hSp
   clear hx hc hv c0 c1 c2 c3 c4 c5 c6 c7 c8 c9 c10 c11 c12 q0 q1 q2 q3 q4 q6
   clear hSp hdone
   clear hG hcl hdep hfr hK hLi
   go_simp
   exact HK.out
  | 61, ho =>
   obtain rfl := gdO61 ho
   have x63 := gdX (hG.val 59 60 63 _ rfl (hdep ⟨60, .data⟩ (by simp) rfl))
   rw [if_pos (gdT61 (hG.val 57 58 61 _ rfl (hdep ⟨58, .guard⟩ (by simp) rfl)))]
   have HK := Lib.hid (hK (.bool true) w (hG.quiet 60 61 64 _ rfl (by kernel_rfl) (by kernel_rfl)))
   clear hx hc hv c0 c1 c2 c3 c4 c5 c6 c7 c8 c9 c10 c12
   clear hG hcl hdep hfr hK hLi
   go_simp
   exact HK.out
  | 62, ho =>
   obtain rfl := gdO62 ho
   have x61 := gdX (hG.val 57 58 61 _ rfl (hdep ⟨58, .data⟩ (by simp) rfl))
   have x64 := gdX (hG.val 60 61 64 _ rfl (hdep ⟨61, .data⟩ (by simp) rfl))
   rw [if_pos (show Region.wanted _ _ = true from rfl)]
   have HK := Lib.hid (hK (.bool true) w (hG.quiet 61 62 65 _ rfl (by kernel_rfl) (by kernel_rfl)))
   clear hG hcl hdep hfr hK hLi
   go_simp
   exact HK.out
  | 63, ho =>
   obtain rfl := gdO63 ho
   have x65 := gdX (hG.val 61 62 65 _ rfl (hdep ⟨62, .data⟩ (by simp) rfl))
   rw [if_pos (show Region.wanted _ _ = true from rfl)]
   have HK := Lib.hid (hK (.bool true) w (hG.quiet 62 63 66 _ rfl (by kernel_rfl) (by kernel_rfl)))
   clear hG hcl hdep hfr hK hLi
   go_simp
   exact HK.out
  | 64, ho =>
   obtain rfl := gdO64 ho
   rw [if_pos (gdT64 (hG.val 62 63 66 _ rfl (hdep ⟨63, .guard⟩ (by simp) rfl)))]
   have HK := Lib.hid (hK (.pointer (some ⟨b, 6, none⟩)) w (hG.quiet 63 64 67 _ rfl (by kernel_rfl) (by kernel_rfl)))
   clear hx hc hv c0 c1 c2 c3 c4 c5 c6 c7 c8 c9 c10 c11 c12
   clear hG hcl hdep hfr hK hLi
   go_simp
   exact HK.out
  | 65, ho =>
   obtain rfl := gdO65 ho
   have x67 := gdX (hG.val 63 64 67 _ rfl (hdep ⟨64, .data⟩ (by simp) rfl))
   rw [if_pos (gdT65 (hG.val 62 63 66 _ rfl (hdep ⟨63, .guard⟩ (by simp) rfl)))]
   obtain ⟨ph, hSp, hdone⟩ := hG.any
   have HK := Lib.hid (hK (.int .i64 z) w (hG.quiet 64 65 68 _ rfl (by kernel_rfl) (by kernel_rfl)))
   generalize (resOf gd12C fun t => a.eval (.tmp t)) = R at *
   obtain ⟨q0, q1, q2, q3, q4, q5, q6⟩ := hx _ _ _ hSp
   clear hx hc hv c0 c1 c2 c3 c4 c5 c6 c7 c8 c9 c10 c11 c12 q0 q1 q2 q3 q4 q5
   clear hSp hdone
   clear hG hcl hdep hfr hK hLi
   go_simp
   exact HK.out
  | 66, ho =>
   obtain rfl := gdO66 ho
   have x68 := gdX (hG.val 64 65 68 _ rfl (hdep ⟨65, .data⟩ (by simp) rfl))
   rw [if_pos (gdT66 (hG.val 62 63 66 _ rfl (hdep ⟨63, .guard⟩ (by simp) rfl)))]
   have HK := Lib.hid (hK (.bool false) w (hG.quiet 65 66 69 _ rfl (by kernel_rfl) (by kernel_rfl)))
   clear hx hc hv c0 c1 c2 c3 c4 c5 c6 c7 c8 c9 c10 c11
   clear hG hcl hdep hfr hK hLi
   go_simp
   exact HK.out
  | 67, ho =>
   obtain rfl := gdO67 ho
   have x66 := gdX (hG.val 62 63 66 _ rfl (hdep ⟨63, .data⟩ (by simp) rfl))
   have x69 := gdX (hG.val 65 66 69 _ rfl (hdep ⟨66, .data⟩ (by simp) rfl))
   rw [if_pos (show Region.wanted _ _ = true from rfl)]
   have HK := Lib.hid (hK (.bool false) w (hG.quiet 66 67 70 _ rfl (by kernel_rfl) (by kernel_rfl)))
   clear hG hcl hdep hfr hK hLi
   go_simp
   exact HK.out
  | 68, ho =>
   obtain rfl := gdO68 ho
   have x70 := gdX (hG.val 66 67 70 _ rfl (hdep ⟨67, .data⟩ (by simp) rfl))
   rw [if_pos (show Region.wanted _ _ = true from rfl)]
   have HK := Lib.hid (hK (.bool false) w (hG.quiet 67 68 71 _ rfl (by kernel_rfl) (by kernel_rfl)))
   clear hG hcl hdep hfr hK hLi
   go_simp
   exact HK.out
  | 69, ho =>
   obtain rfl := gdO69 ho
   rw [if_neg (gdF69 (hG.val 67 68 71 _ rfl (hdep ⟨68, .guard⟩ (by simp) rfl)))]
   have HK := Lib.hid (hK (undef) w (hG.quiet 68 69 72 _ rfl (by kernel_rfl) (by kernel_rfl)))
   clear hG hcl hdep hfr hK hLi
   exact HK.out
  | 70, ho =>
   obtain rfl := gdO70 ho
   have x72 := gdX (hG.val 68 69 72 _ rfl (hdep ⟨69, .data⟩ (by simp) rfl))
   rw [if_neg (gdF70 (hG.val 67 68 71 _ rfl (hdep ⟨68, .guard⟩ (by simp) rfl)))]
   have HK := Lib.hid (hK (undef) w (hG.quiet 69 70 73 _ rfl (by kernel_rfl) (by kernel_rfl)))
   clear hG hcl hdep hfr hK hLi
   exact HK.out
  | 71, ho =>
   obtain rfl := gdO71 ho
   have x73 := gdX (hG.val 69 70 73 _ rfl (hdep ⟨70, .data⟩ (by simp) rfl))
   rw [if_neg (gdF71 (hG.val 67 68 71 _ rfl (hdep ⟨68, .guard⟩ (by simp) rfl)))]
   have HK := Lib.hid (hK (undef) w (hG.quiet 70 71 74 _ rfl (by kernel_rfl) (by kernel_rfl)))
   clear hG hcl hdep hfr hK hLi
   exact HK.out
  | 72, ho =>
   obtain rfl := gdO72 ho
   have x71 := gdX (hG.val 67 68 71 _ rfl (hdep ⟨68, .data⟩ (by simp) rfl))
   have x74 := gdX (hG.val 70 71 74 _ rfl (hdep ⟨71, .data⟩ (by simp) rfl))
   rw [if_pos (show Region.wanted _ _ = true from rfl)]
   have HK := Lib.hid (hK (.bool false) w (hG.quiet 71 72 75 _ rfl (by kernel_rfl) (by kernel_rfl)))
   clear hG hcl hdep hfr hK hLi
   go_simp
   exact HK.out
  | 73, ho =>
   obtain rfl := gdO73 ho
   have x75 := gdX (hG.val 71 72 75 _ rfl (hdep ⟨72, .data⟩ (by simp) rfl))
   rw [if_pos (show Region.wanted _ _ = true from rfl)]
   have HK := Lib.hid (hK (.bool false) w (hG.quiet 72 73 2 _ rfl (by kernel_rfl) (by kernel_rfl)))
   clear hG hcl hdep hfr hK hLi
   go_simp
   exact HK.out
  | n + 74, ho => exact absurd (Array.getElem?_eq_some_iff.1 ho).1 (by show ¬ n + 74 < 74; omega)


def gd13Vals (b : Nat) (y m k hh mi s z d : Int) : List (Nat × Nat × Value) := [(0, 3, .pointer (some ⟨b, 0, none⟩)), (1, 4, .int .i64 y), (2, 5, .bool true), (3, 6, .bool true), (4, 7, .pointer (some ⟨b, 0, none⟩)), (5, 8, .int .i64 y), (6, 9, .bool true), (7, 10, .bool true), (8, 11, .bool true), (9, 12, .pointer (some ⟨b, 1, none⟩)), (10, 13, .int .i64 m), (11, 14, .bool true), (12, 15, .bool true), (13, 16, .bool true), (14, 17, .pointer (some ⟨b, 1, none⟩)), (15, 18, .int .i64 m), (16, 19, .bool true), (17, 20, .bool true), (18, 21, .bool true), (19, 22, .pointer (some ⟨b, 2, none⟩)), (20, 23, .int .i64 k), (21, 24, .bool true), (22, 25, .bool true), (23, 26, .bool true), (24, 27, .pointer (some ⟨b, 2, none⟩)), (25, 28, .int .i64 k), (26, 29, .pointer (some ⟨b, 0, none⟩)), (27, 30, .int .i64 y), (28, 31, .pointer (some ⟨b, 1, none⟩)), (29, 32, .int .i64 m), (31, 34, .bool true), (32, 35, .bool true), (33, 36, .bool true), (34, 37, .pointer (some ⟨b, 3, none⟩)), (35, 38, .int .i64 hh), (36, 39, .bool true), (37, 40, .bool true), (38, 41, .bool true), (39, 42, .pointer (some ⟨b, 3, none⟩)), (40, 43, .int .i64 hh), (41, 44, .bool true), (42, 45, .bool true), (43, 46, .bool true), (44, 47, .pointer (some ⟨b, 4, none⟩)), (45, 48, .int .i64 mi), (46, 49, .bool true), (47, 50, .bool true), (48, 51, .bool true), (49, 52, .pointer (some ⟨b, 4, none⟩)), (50, 53, .int .i64 mi), (51, 54, .bool true), (52, 55, .bool true), (53, 56, .bool true), (54, 57, .pointer (some ⟨b, 5, none⟩)), (55, 58, .int .i64 s), (56, 59, .bool true), (57, 60, .bool true), (58, 61, .bool true), (59, 62, .pointer (some ⟨b, 5, none⟩)), (60, 63, .int .i64 s), (61, 64, .bool true), (62, 65, .bool true), (63, 66, .bool true), (64, 67, .pointer (some ⟨b, 6, none⟩)), (65, 68, .int .i64 z), (66, 69, .bool true), (67, 70, .bool true), (68, 71, .bool true), (69, 72, .pointer (some ⟨b, 6, none⟩)), (70, 73, .int .i64 z), (71, 74, .bool false), (72, 75, .bool false), (73, 2, .bool false)]
def gd13C : List (Nat × Nat) := [(30, 33)]

set_option maxHeartbeats 4000000 in
set_option maxRecDepth 100000 in
theorem gd13 {Q : Exit → Act → World → Prop} {a0 : Act} {wp : World} (b : Nat) (y m k hh mi s z d : Int) (S : Nat → (Nat → Value) → World → Prop)
    (hsz : 75 < a0.tmps.size) (in1 : a0.eval (.tmp 1) = .pointer (some ⟨b, 0, none⟩))
    (hx : ∀ p R w, S p R w → w.cell? ⟨b, 0, none⟩ = some (.int .i64 y) ∧ w.cell? ⟨b, 1, none⟩ = some (.int .i64 m) ∧ w.cell? ⟨b, 2, none⟩ = some (.int .i64 k) ∧ w.cell? ⟨b, 3, none⟩ = some (.int .i64 hh) ∧ w.cell? ⟨b, 4, none⟩ = some (.int .i64 mi) ∧ w.cell? ⟨b, 5, none⟩ = some (.int .i64 s) ∧ w.cell? ⟨b, 6, none⟩ = some (.int .i64 z)) (c0 : decide (1970 ≤ y) = true) (c1 : decide (y ≤ 9999) = true) (c2 : decide (1 ≤ m) = true) (c3 : decide (m ≤ 12) = true) (c4 : decide (1 ≤ k) = true) (c5 : decide (k ≤ d) = true) (c6 : decide (0 ≤ hh) = true) (c7 : decide (hh ≤ 23) = true) (c8 : decide (0 ≤ mi) = true) (c9 : decide (mi ≤ 59) = true) (c10 : decide (0 ≤ s) = true) (c11 : decide (s ≤ 59) = true) (c12 : decide (-1439 ≤ z) = true) (c13 : decide (z ≤ 1439) = false)
    (hc : ∀ R w, S 0 R w → Calls Tryd.prog 37 #[.int .i64 y, .int .i64 m] w fun e w' => ∃ v, e = .returned v ∧ S 1 (setR R 0 v) w')
    (hv : ∀ p R w, S p R w → 0 < p → R 0 = .int .i64 d)
    (hS : S 0 (resOf gd13C fun t => a0.eval (.tmp t)) wp.drew)
    (fin : ∀ a w, Fr [3, 4, 5, 6, 7, 8, 9, 10, 11, 12, 13, 14, 15, 16, 17, 18, 19, 20, 21, 22, 23, 24, 25, 26, 27, 28, 29, 30, 31, 32, 33, 34, 35, 36, 37, 38, 39, 40, 41, 42, 43, 44, 45, 46, 47, 48, 49, 50, 51, 52, 53, 54, 55, 56, 57, 58, 59, 60, 61, 62, 63, 64, 65, 66, 67, 68, 69, 70, 71, 72, 73, 74, 75, 2] a0 a → a.eval (.tmp 2) = .bool false → S 1 (resOf gd13C fun t => a.eval (.tmp t)) w → Q .normal a w) :
    (Code.region 1 opsGd true).wp Tryd.prog Q a0 wp := by
  refine region_inv (by kernel_rfl) [3, 4, 5, 6, 7, 8, 9, 10, 11, 12, 13, 14, 15, 16, 17, 18, 19, 20, 21, 22, 23, 24, 25, 26, 27, 28, 29, 30, 31, 32, 33, 34, 35, 36, 37, 38, 39, 40, 41, 42, 43, 44, 45, 46, 47, 48, 49, 50, 51, 52, 53, 54, 55, 56, 57, 58, 59, 60, 61, 62, 63, 64, 65, 66, 67, 68, 69, 70, 71, 72, 73, 74, 75, 2] (by kernel_rfl) (by kernel_rfl) (fun t ht => by simp at ht; omega) (GV (gd13Vals b y m k hh mi s z d) gd13C S) (.start hS) ?_
    (fun L a w hf hall hG => fin a w hf (hG.val 72 73 2 _ rfl (hall 73 (by decide))) (hG.fin (fun c hc => by simp [gd13C] at hc; subst hc; exact hall _ (by decide))))
  clear hS fin
  intro ix oo ho L a w hfr hG hLi hdep hcl K hK
  have e1 : a.tmps[1]?.getD undef = .pointer (some ⟨b, 0, none⟩) := by rw [← ev]; exact (hfr.same 1 (by decide)).trans in1
  clear in1
  match ix, ho with
  | 0, ho =>
   obtain rfl := gdO0 ho
   rw [if_pos (show Region.wanted _ _ = true from rfl)]
   have HK := Lib.hid (hK (.pointer (some ⟨b, 0, none⟩)) w (hG.quiet 0 0 3 _ rfl (by kernel_rfl) (by kernel_rfl)))
   clear hx hc hv c0 c1 c2 c3 c4 c5 c6 c7 c8 c9 c10 c11 c12 c13
   clear hG hcl hdep hfr hK hLi
   go_simp
   exact HK.out
  | 1, ho =>
   obtain rfl := gdO1 ho
   have x3 := gdX (hG.val 0 0 3 _ rfl (hdep ⟨0, .data⟩ (by simp) rfl))
   rw [if_pos (show Region.wanted _ _ = true from rfl)]
   obtain ⟨ph, hSp, hdone⟩ := hG.any
   have HK := Lib.hid (hK (.int .i64 y) w (hG.quiet 1 1 4 _ rfl (by kernel_rfl) (by kernel_rfl)))
   generalize (resOf gd13C fun t => a.eval (.tmp t)) = R at *
   obtain ⟨q0, q1, q2, q3, q4, q5, q6⟩ := hx _ _ _ hSp
   clear hx hc hv c0 c1 c2 c3 c4 c5 c6 c7 c8 c9 c10 c11 c12 c13 q1 q2 q3 q4 q5 q6
   clear hSp hdone
   clear hG hcl hdep hfr hK hLi
   go_simp
   exact HK.out
  | 2, ho =>
   obtain rfl := gdO2 ho
   have x4 := gdX (hG.val 1 1 4 _ rfl (hdep ⟨1, .data⟩ (by simp) rfl))
   rw [if_pos (show Region.wanted _ _ = true from rfl)]
   have HK := Lib.hid (hK (.bool true) w (hG.quiet 2 2 5 _ rfl (by kernel_rfl) (by kernel_rfl)))
   clear hx hc hv c1 c2 c3 c4 c5 c6 c7 c8 c9 c10 c11 c12 c13
   clear hG hcl hdep hfr hK hLi
   go_simp
   exact HK.out
  | 3, ho =>
   obtain rfl := gdO3 ho
   have x5 := gdX (hG.val 2 2 5 _ rfl (hdep ⟨2, .data⟩ (by simp) rfl))
   rw [if_pos (show Region.wanted _ _ = true from rfl)]
   have HK := Lib.hid (hK (.bool true) w (hG.quiet 3 3 6 _ rfl (by kernel_rfl) (by kernel_rfl)))
   clear hG hcl hdep hfr hK hLi
   go_simp
   exact HK.out
  | 4, ho =>
   obtain rfl := gdO4 ho
   rw [if_pos (gdT4 (hG.val 3 3 6 _ rfl (hdep ⟨3, .guard⟩ (by simp) rfl)))]
   have HK := Lib.hid (hK (.pointer (some ⟨b, 0, none⟩)) w (hG.quiet 4 4 7 _ rfl (by kernel_rfl) (by kernel_rfl)))
   clear hx hc hv c0 c1 c2 c3 c4 c5 c6 c7 c8 c9 c10 c11 c12 c13
   clear hG hcl hdep hfr hK hLi
   go_simp
   exact HK.out
  | 5, ho =>
   obtain rfl := gdO5 ho
   have x7 := gdX (hG.val 4 4 7 _ rfl (hdep ⟨4, .data⟩ (by simp) rfl))
   rw [if_pos (gdT5 (hG.val 3 3 6 _ rfl (hdep ⟨3, .guard⟩ (by simp) rfl)))]
   obtain ⟨ph, hSp, hdone⟩ := hG.any
   have HK := Lib.hid (hK (.int .i64 y) w (hG.quiet 5 5 8 _ rfl (by kernel_rfl) (by kernel_rfl)))
   generalize (resOf gd13C fun t => a.eval (.tmp t)) = R at *
   obtain ⟨q0, q1, q2, q3, q4, q5, q6⟩ := hx _ _ _ hSp
   clear hx hc hv c0 c1 c2 c3 c4 c5 c6 c7 c8 c9 c10 c11 c12 c13 q1 q2 q3 q4 q5 q6
   clear hSp hdone
   clear hG hcl hdep hfr hK hLi
   go_simp
   exact HK.out
  | 6, ho =>
   obtain rfl := gdO6 ho
   have x8 := gdX (hG.val 5 5 8 _ rfl (hdep ⟨5, .data⟩ (by simp) rfl))
   rw [if_pos (gdT6 (hG.val 3 3 6 _ rfl (hdep ⟨3, .guard⟩ (by simp) rfl)))]
   have HK := Lib.hid (hK (.bool true) w (hG.quiet 6 6 9 _ rfl (by kernel_rfl) (by kernel_rfl)))
   clear hx hc hv c0 c2 c3 c4 c5 c6 c7 c8 c9 c10 c11 c12 c13
   clear hG hcl hdep hfr hK hLi
   go_simp
   exact HK.out
  | 7, ho =>
   obtain rfl := gdO7 ho
   have x6 := gdX (hG.val 3 3 6 _ rfl (hdep ⟨3, .data⟩ (by simp) rfl))
   have x9 := gdX (hG.val 6 6 9 _ rfl (hdep ⟨6, .data⟩ (by simp) rfl))
   rw [if_pos (show Region.wanted _ _ = true from rfl)]
   have HK := Lib.hid (hK (.bool true) w (hG.quiet 7 7 10 _ rfl (by kernel_rfl) (by kernel_rfl)))
   clear hG hcl hdep hfr hK hLi
   go_simp
   exact HK.out
  | 8, ho =>
   obtain rfl := gdO8 ho
   have x10 := gdX (hG.val 7 7 10 _ rfl (hdep ⟨7, .data⟩ (by simp) rfl))
   rw [if_pos (show Region.wanted _ _ = true from rfl)]
   have HK := Lib.hid (hK (.bool true) w (hG.quiet 8 8 11 _ rfl (by kernel_rfl) (by kernel_rfl)))
   clear hG hcl hdep hfr hK hLi
   go_simp
   exact HK.out
  | 9, ho =>
   obtain rfl := gdO9 ho
   rw [if_pos (gdT9 (hG.val 8 8 11 _ rfl (hdep ⟨8, .guard⟩ (by simp) rfl)))]
   have HK := Lib.hid (hK (.pointer (some ⟨b, 1, none⟩)) w (hG.quiet 9 9 12 _ rfl (by kernel_rfl) (by kernel_rfl)))
   clear hx hc hv c0 c1 c2 c3 c4 c5 c6 c7 c8 c9 c10 c11 c12 c13
   clear hG hcl hdep hfr hK hLi
   go_simp
   exact HK.out
  | 10, ho =>
   obtain rfl := gdO10 ho
   have x12 := gdX (hG.val 9 9 12 _ rfl (hdep ⟨9, .data⟩ (by simp) rfl))
   rw [if_pos (gdT10 (hG.val 8 8 11 _ rfl (hdep ⟨8, .guard⟩ (by simp) rfl)))]
   obtain ⟨ph, hSp, hdone⟩ := hG.any
   have HK := Lib.hid (hK (.int .i64 m) w (hG.quiet 10 10 13 _ rfl (by kernel_rfl) (by kernel_rfl)))
   generalize (resOf gd13C fun t => a.eval (.tmp t)) = R at *
   obtain ⟨q0, q1, q2, q3, q4, q5, q6⟩ := hx _ _ _ hSp
   clear hx hc hv c0 c1 c2 c3 c4 c5 c6 c7 c8 c9 c10 c11 c12 c13 q0 q2 q3 q4 q5 q6
   clear hSp hdone
   clear hG hcl hdep hfr hK hLi
   go_simp
   exact HK.out
  | 11, ho =>
   obtain rfl := gdO11 ho
   have x13 := gdX (hG.val 10 10 13 _ rfl (hdep ⟨10, .data⟩ (by simp) rfl))
   rw [if_pos (gdT11 (hG.val 8 8 11 _ rfl (hdep ⟨8, .guard⟩ (by simp) rfl)))]
   have HK := Lib.hid (hK (.bool true) w (hG.quiet 11 11 14 _ rfl (by kernel_rfl) (by kernel_rfl)))
   clear hx hc hv c0 c1 c3 c4 c5 c6 c7 c8 c9 c10 c11 c12 c13
   clear hG hcl hdep hfr hK hLi
   go_simp
   exact HK.out
  | 12, ho =>
   obtain rfl := gdO12 ho
   have x11 := gdX (hG.val 8 8 11 _ rfl (hdep ⟨8, .data⟩ (by simp) rfl))
   have x14 := gdX (hG.val 11 11 14 _ rfl (hdep ⟨11, .data⟩ (by simp) rfl))
   rw [if_pos (show Region.wanted _ _ = true from rfl)]
   have HK := Lib.hid (hK (.bool true) w (hG.quiet 12 12 15 _ rfl (by kernel_rfl) (by kernel_rfl)))
   clear hG hcl hdep hfr hK hLi
   go_simp
   exact HK.out
  | 13, ho =>
   obtain rfl := gdO13 ho
   have x15 := gdX (hG.val 12 12 15 _ rfl (hdep ⟨12, .data⟩ (by simp) rfl))
   rw [if_pos (show Region.wanted _ _ = true from rfl)]
   have HK := Lib.hid (hK (.bool true) w (hG.quiet 13 13 16 _ rfl (by kernel_rfl) (by kernel_rfl)))
   clear hG hcl hdep hfr hK hLi
   go_simp
   exact HK.out
  | 14, ho =>
   obtain rfl := gdO14 ho
   rw [if_pos (gdT14 (hG.val 13 13 16 _ rfl (hdep ⟨13, .guard⟩ (by simp) rfl)))]
   have HK := Lib.hid (hK (.pointer (some ⟨b, 1, none⟩)) w (hG.quiet 14 14 17 _ rfl (by kernel_rfl) (by kernel_rfl)))
   clear hx hc hv c0 c1 c2 c3 c4 c5 c6 c7 c8 c9 c10 c11 c12 c13
   clear hG hcl hdep hfr hK hLi
   go_simp
   exact HK.out
  | 15, ho =>
   obtain rfl := gdO15 ho
   have x17 := gdX (hG.val 14 14 17 _ rfl (hdep ⟨14, .data⟩ (by simp) rfl))
   rw [if_pos (gdT15 (hG.val 13 13 16 _ rfl (hdep ⟨13, .guard⟩ (by simp) rfl)))]
   obtain ⟨ph, hSp, hdone⟩ := hG.any
   have HK := Lib.hid (hK (.int .i64 m) w (hG.quiet 15 15 18 _ rfl (by kernel_rfl) (by kernel_rfl)))
   generalize (resOf gd13C fun t => a.eval (.tmp t)) = R at *
   obtain ⟨q0, q1, q2, q3, q4, q5, q6⟩ := hx _ _ _ hSp
   clear hx hc hv c0 c1 c2 c3 c4 c5 c6 c7 c8 c9 c10 c11 c12 c13 q0 q2 q3 q4 q5 q6
   clear hSp hdone
   clear hG hcl hdep hfr hK hLi
   go_simp
   exact HK.out
  | 16, ho =>
   obtain rfl := gdO16 ho
   have x18 := gdX (hG.val 15 15 18 _ rfl (hdep ⟨15, .data⟩ (by simp) rfl))
   rw [if_pos (gdT16 (hG.val 13 13 16 _ rfl (hdep ⟨13, .guard⟩ (by simp) rfl)))]
   have HK := Lib.hid (hK (.bool true) w (hG.quiet 16 16 19 _ rfl (by kernel_rfl) (by kernel_rfl)))
   clear hx hc hv c0 c1 c2 c4 c5 c6 c7 c8 c9 c10 c11 c12 c13
   clear hG hcl hdep hfr hK hLi
   go_simp
   exact HK.out
  | 17, ho =>
   obtain rfl := gdO17 ho
   have x16 := gdX (hG.val 13 13 16 _ rfl (hdep ⟨13, .data⟩ (by simp) rfl))
   have x19 := gdX (hG.val 16 16 19 _ rfl (hdep ⟨16, .data⟩ (by simp) rfl))
   rw [if_pos (show Region.wanted _ _ = true from rfl)]
   have HK := Lib.hid (hK (.bool true) w (hG.quiet 17 17 20 _ rfl (by kernel_rfl) (by kernel_rfl)))
   clear hG hcl hdep hfr hK hLi
   go_simp
   exact HK.out
  | 18, ho =>
   obtain rfl := gdO18 ho
   have x20 := gdX (hG.val 17 17 20 _ rfl (hdep ⟨17, .data⟩ (by simp) rfl))
   rw [if_pos (show Region.wanted _ _ = true from rfl)]
   have HK := Lib.hid (hK (.bool true) w (hG.quiet 18 18 21 _ rfl (by kernel_rfl) (by kernel_rfl)))
   clear hG hcl hdep hfr hK hLi
   go_simp
   exact HK.out
  | 19, ho =>
   obtain rfl := gdO19 ho
   rw [if_pos (gdT19 (hG.val 18 18 21 _ rfl (hdep ⟨18, .guard⟩ (by simp) rfl)))]
   have HK := Lib.hid (hK (.pointer (some ⟨b, 2, none⟩)) w (hG.quiet 19 19 22 _ rfl (by kernel_rfl) (by kernel_rfl)))
   clear hx hc hv c0 c1 c2 c3 c4 c5 c6 c7 c8 c9 c10 c11 c12 c13
   clear hG hcl hdep hfr hK hLi
   go_simp
   exact HK.out
  | 20, ho =>
   obtain rfl := gdO20 ho
   have x22 := gdX (hG.val 19 19 22 _ rfl (hdep ⟨19, .data⟩ (by simp) rfl))
   rw [if_pos (gdT20 (hG.val 18 18 21 _ rfl (hdep ⟨18, .guard⟩ (by simp) rfl)))]
   obtain ⟨ph, hSp, hdone⟩ := hG.any
   have HK := Lib.hid (hK (.int .i64 k) w (hG.quiet 20 20 23 _ rfl (by kernel_rfl) (by kernel_rfl)))
   generalize (resOf gd13C fun t => a.eval (.tmp t)) = R at *
   obtain ⟨q0, q1, q2, q3, q4, q5, q6⟩ := hx _ _ _ hSp
   clear hx hc hv c0 c1 c2 c3 c4 c5 c6 c7 c8 c9 c10 c11 c12 c13 q0 q1 q3 q4 q5 q6
   clear hSp hdone
   clear hG hcl hdep hfr hK hLi
   go_simp
   exact HK.out
  | 21, ho =>
   obtain rfl := gdO21 ho
   have x23 := gdX (hG.val 20 20 23 _ rfl (hdep ⟨20, .data⟩ (by simp) rfl))
   rw [if_pos (gdT21 (hG.val 18 18 21 _ rfl (hdep ⟨18, .guard⟩ (by simp) rfl)))]
   have HK := Lib.hid (hK (.bool true) w (hG.quiet 21 21 24 _ rfl (by kernel_rfl) (by kernel_rfl)))
   clear hx hc hv c0 c1 c2 c3 c5 c6 c7 c8 c9 c10 c11 c12 c13
   clear hG hcl hdep hfr hK hLi
   go_simp
   exact HK.out
  | 22, ho =>
   obtain rfl := gdO22 ho
   have x21 := gdX (hG.val 18 18 21 _ rfl (hdep ⟨18, .data⟩ (by simp) rfl))
   have x24 := gdX (hG.val 21 21 24 _ rfl (hdep ⟨21, .data⟩ (by simp) rfl))
   rw [if_pos (show Region.wanted _ _ = true from rfl)]
   have HK := Lib.hid (hK (.bool true) w (hG.quiet 22 22 25 _ rfl (by kernel_rfl) (by kernel_rfl)))
   clear hG hcl hdep hfr hK hLi
   go_simp
   exact HK.out
  | 23, ho =>
   obtain rfl := gdO23 ho
   have x25 := gdX (hG.val 22 22 25 _ rfl (hdep ⟨22, .data⟩ (by simp) rfl))
   rw [if_pos (show Region.wanted _ _ = true from rfl)]
   have HK := Lib.hid (hK (.bool true) w (hG.quiet 23 23 26 _ rfl (by kernel_rfl) (by kernel_rfl)))
   clear hG hcl hdep hfr hK hLi
   go_simp
   exact HK.out
  | 24, ho =>
   obtain rfl := gdO24 ho
   rw [if_pos (gdT24 (hG.val 23 23 26 _ rfl (hdep ⟨23, .guard⟩ (by simp) rfl)))]
   have HK := Lib.hid (hK (.pointer (some ⟨b, 2, none⟩)) w (hG.quiet 24 24 27 _ rfl (by kernel_rfl) (by kernel_rfl)))
   clear hx hc hv c0 c1 c2 c3 c4 c5 c6 c7 c8 c9 c10 c11 c12 c13
   clear hG hcl hdep hfr hK hLi
   go_simp
   exact HK.out
  | 25, ho =>
   obtain rfl := gdO25 ho
   have x27 := gdX (hG.val 24 24 27 _ rfl (hdep ⟨24, .data⟩ (by simp) rfl))
   rw [if_pos (gdT25 (hG.val 23 23 26 _ rfl (hdep ⟨23, .guard⟩ (by simp) rfl)))]
   obtain ⟨ph, hSp, hdone⟩ := hG.any
   have HK := Lib.hid (hK (.int .i64 k) w (hG.quiet 25 25 28 _ rfl (by kernel_rfl) (by kernel_rfl)))
   generalize (resOf gd13C fun t => a.eval (.tmp t)) = R at *
   obtain ⟨q0, q1, q2, q3, q4, q5, q6⟩ := hx _ _ _ hSp
   clear hx hc hv c0 c1 c2 c3 c4 c5 c6 c7 c8 c9 c10 c11 c12 c13 q0 q1 q3 q4 q5 q6
   clear hSp hdone
   clear hG hcl hdep hfr hK hLi
   go_simp
   exact HK.out
  | 26, ho =>
   obtain rfl := gdO26 ho
   rw [if_pos (gdT26 (hG.val 23 23 26 _ rfl (hdep ⟨23, .guard⟩ (by simp) rfl)))]
   have HK := Lib.hid (hK (.pointer (some ⟨b, 0, none⟩)) w (hG.quiet 26 26 29 _ rfl (by kernel_rfl) (by kernel_rfl)))
   clear hx hc hv c0 c1 c2 c3 c4 c5 c6 c7 c8 c9 c10 c11 c12 c13
   clear hG hcl hdep hfr hK hLi
   go_simp
   exact HK.out
  | 27, ho =>
   obtain rfl := gdO27 ho
   have x29 := gdX (hG.val 26 26 29 _ rfl (hdep ⟨26, .data⟩ (by simp) rfl))
   rw [if_pos (gdT27 (hG.val 23 23 26 _ rfl (hdep ⟨23, .guard⟩ (by simp) rfl)))]
   obtain ⟨ph, hSp, hdone⟩ := hG.any
   have HK := Lib.hid (hK (.int .i64 y) w (hG.quiet 27 27 30 _ rfl (by kernel_rfl) (by kernel_rfl)))
   generalize (resOf gd13C fun t => a.eval (.tmp t)) = R at *
   obtain ⟨q0, q1, q2, q3, q4, q5, q6⟩ := hx _ _ _ hSp
   clear hx hc hv c0 c1 c2 c3 c4 c5 c6 c7 c8 c9 c10 c11 c12 c13 q1 q2 q3 q4 q5 q6
   clear hSp hdone
   clear hG hcl hdep hfr hK hLi
   go_simp
   exact HK.out
  | 28, ho =>
   obtain rfl := gdO28 ho
   rw [if_pos (gdT28 (hG.val 23 23 26 _ rfl (hdep ⟨23, .guard⟩ (by simp) rfl)))]
   have HK := Lib.hid (hK (.pointer (some ⟨b, 1, none⟩)) w (hG.quiet 28 28 31 _ rfl (by kernel_rfl) (by kernel_rfl)))
   clear hx hc hv c0 c1 c2 c3 c4 c5 c6 c7 c8 c9 c10 c11 c12 c13
   clear hG hcl hdep hfr hK hLi
   go_simp
   exact HK.out
  | 29, ho =>
   obtain rfl := gdO29 ho
   have x31 := gdX (hG.val 28 28 31 _ rfl (hdep ⟨28, .data⟩ (by simp) rfl))
   rw [if_pos (gdT29 (hG.val 23 23 26 _ rfl (hdep ⟨23, .guard⟩ (by simp) rfl)))]
   obtain ⟨ph, hSp, hdone⟩ := hG.any
   have HK := Lib.hid (hK (.int .i64 m) w (hG.quiet 29 29 32 _ rfl (by kernel_rfl) (by kernel_rfl)))
   generalize (resOf gd13C fun t => a.eval (.tmp t)) = R at *
   obtain ⟨q0, q1, q2, q3, q4, q5, q6⟩ := hx _ _ _ hSp
   clear hx hc hv c0 c1 c2 c3 c4 c5 c6 c7 c8 c9 c10 c11 c12 c13 q0 q2 q3 q4 q5 q6
   clear hSp hdone
   clear hG hcl hdep hfr hK hLi
   go_simp
   exact HK.out
  | 30, ho =>
   obtain rfl := gdO30 ho
   have x30 := gdX (hG.val 27 27 30 _ rfl (hdep ⟨27, .data⟩ (by simp) rfl))
   have x32 := gdX (hG.val 29 29 32 _ rfl (hdep ⟨29, .data⟩ (by simp) rfl))
   rw [if_pos (gdT30 (hG.val 23 23 26 _ rfl (hdep ⟨23, .chain⟩ (by simp) rfl)))]
   have hSj := hG.at 0 (30, 33) rfl hLi (fun c h0 hc => absurd h0 (by decide))
   have hfin := fun v w' hs => hK v w' (hG.call 0 (30, 33) rfl hLi (fun c h0 hc => absurd h0 (by decide)) (by kernel_rfl) v w' hs)
   have HK := Lib.hid hfin
   generalize (resOf gd13C fun t => a.eval (.tmp t)) = R at *
   clear hG hcl hdep hfr hK hfin hLi
   have hcc := Lib.hid (hc _ _ hSj)
   clear hSj hx hc hv c0 c1 c2 c3 c4 c5 c6 c7 c8 c9 c10 c11 c12 c13
   go_simp
   go_at_call 37
   refine hcc.out.mono ?_
   rintro e w' ⟨v, rfl, hs⟩
   exact HK.out v w' hs
  | 31, ho =>
   obtain rfl := gdO31 ho
   have x28 := gdX (hG.val 25 25 28 _ rfl (hdep ⟨25, .data⟩ (by simp) rfl))
   rw [if_pos (gdT31 (hG.val 23 23 26 _ rfl (hdep ⟨23, .guard⟩ (by simp) rfl)))]
   obtain ⟨ph, hSp, hdone⟩ := hG.any
   have hd33 : 0 < ph := hdone 0 (30, 33) rfl (hdep ⟨30, .data⟩ (by simp) rfl)
   have r33 : a.tmps[33]?.getD undef = resOf gd13C (fun t => a.eval (.tmp t)) 0 := by rw [← ev]; exact (resOf_at (C := gd13C) (j := 0) rfl a).symm
   have HK := Lib.hid (hK (.bool true) w (hG.quiet 30 31 34 _ rfl (by kernel_rfl) (by kernel_rfl)))
   generalize (resOf gd13C fun t => a.eval (.tmp t)) = R at *
   rw [hv _ _ _ hSp hd33] at r33
   clear hd33
   clear hx hc hv c0 c1 c2 c3 c4 c6 c7 c8 c9 c10 c11 c12 c13
   clear hSp hdone
   clear hG hcl hdep hfr hK hLi
   go_simp
   exact HK.out
  | 32, ho =>
   obtain rfl := gdO32 ho
   have x26 := gdX (hG.val 23 23 26 _ rfl (hdep ⟨23, .data⟩ (by simp) rfl))
   have x34 := gdX (hG.val 30 31 34 _ rfl (hdep ⟨31, .data⟩ (by simp) rfl))
   rw [if_pos (show Region.wanted _ _ = true from rfl)]
   have HK := Lib.hid (hK (.bool true) w (hG.quiet 31 32 35 _ rfl (by kernel_rfl) (by kernel_rfl)))
   clear hG hcl hdep hfr hK hLi
   go_simp
   exact HK.out
  | 33, ho =>
   obtain rfl := gdO33 ho
   have x35 := gdX (hG.val 31 32 35 _ rfl (hdep ⟨32, .data⟩ (by simp) rfl))
   rw [if_pos (show Region.wanted _ _ = true from rfl)]
   have HK := Lib.hid (hK (.bool true) w (hG.quiet 32 33 36 _ rfl (by kernel_rfl) (by kernel_rfl)))
   clear hG hcl hdep hfr hK hLi
   go_simp
   exact HK.out
  | 34, ho =>
   obtain rfl := gdO34 ho
   rw [if_pos (gdT34 (hG.val 32 33 36 _ rfl (hdep ⟨33, .guard⟩ (by simp) rfl)))]
   have HK := Lib.hid (hK (.pointer (some ⟨b, 3, none⟩)) w (hG.quiet 33 34 37 _ rfl (by kernel_rfl) (by kernel_rfl)))
   clear hx hc hv c0 c1 c2 c3 c4 c5 c6 c7 c8 c9 c10 c11 c12 c13
   clear hG hcl hdep hfr hK hLi
   go_simp
   exact HK.out
  | 35, ho =>
   obtain rfl := gdO35 ho
   have x37 := gdX (hG.val 33 34 37 _ rfl (hdep ⟨34, .data⟩ (by simp) rfl))
   rw [if_pos (gdT35 (hG.val 32 33 36 _ rfl (hdep ⟨33, .guard⟩ (by simp) rfl)))]
   obtain ⟨ph, hSp, hdone⟩ := hG.any
   have HK := Lib.hid (hK (.int .i64 hh) w (hG.quiet 34 35 38 _ rfl (by kernel_rfl) (by kernel_rfl)))
   generalize (resOf gd13C fun t => a.eval (.tmp t)) = R at *
   obtain ⟨q0, q1, q2, q3, q4, q5, q6⟩ := hx _ _ _ hSp
   clear hx hc hv c0 c1 c2 c3 c4 c5 c6 c7 c8 c9 c10 c11 c12 c13 q0 q1 q2 q4 q5 q6
   clear hSp hdone
   clear hG hcl hdep hfr hK hLi
   go_simp
   exact HK.out
  | 36, ho =>
   obtain rfl := gdO36 ho
   have x38 := gdX (hG.val 34 35 38 _ rfl (hdep ⟨35, .data⟩ (by simp) rfl))
   rw [if_pos (gdT36 (hG.val 32 33 36 _ rfl (hdep ⟨33, .guard⟩ (by simp) rfl)))]
   have HK := Lib.hid (hK (.bool true) w (hG.quiet 35 36 39 _ rfl (by kernel_rfl) (by kernel_rfl)))
   clear hx hc hv c0 c1 c2 c3 c4 c5 c7 c8 c9 c10 c11 c12 c13
   clear hG hcl hdep hfr hK hLi
   go_simp
   exact HK.out
  | 37, ho =>
   obtain rfl := gdO37 ho
   have x36 := gdX (hG.val 32 33 36 _ rfl (hdep ⟨33, .data⟩ (by simp) rfl))
   have x39 := gdX (hG.val 35 36 39 _ rfl (hdep ⟨36, .data⟩ (by simp) rfl))
   rw [if_pos (show Region.wanted _ _ = true from rfl)]
   have HK := Lib.hid (hK (.bool true) w (hG.quiet 36 37 40 _ rfl (by kernel_rfl) (by kernel_rfl)))
   clear hG hcl hdep hfr hK hLi
   go_simp
   exact HK.out
  | 38, ho =>
   obtain rfl := gdO38 ho
   have x40 := gdX (hG.val 36 37 40 _ rfl (hdep ⟨37, .data⟩ (by simp) rfl))
   rw [if_pos (show Region.wanted _ _ = true from rfl)]
   have HK := Lib.hid (hK (.bool true) w (hG.quiet 37 38 41 _ rfl (by kernel_rfl) (by kernel_rfl)))
   clear hG hcl hdep hfr hK hLi
   go_simp
   exact HK.out
  | 39, ho =>
   obtain rfl := gdO39 ho
   rw [if_pos (gdT39 (hG.val 37 38 41 _ rfl (hdep ⟨38, .guard⟩ (by simp) rfl)))]
   have HK := Lib.hid (hK (.pointer (some ⟨b, 3, none⟩)) w (hG.quiet 38 39 42 _ rfl (by kernel_rfl) (by kernel_rfl)))
   clear hx hc hv c0 c1 c2 c3 c4 c5 c6 c7 c8 c9 c10 c11 c12 c13
   clear hG hcl hdep hfr hK hLi
   go_simp
   exact HK.out
  | 40, ho =>
   obtain rfl := gdO40 ho
   have x42 := gdX (hG.val 38 39 42 _ rfl (hdep ⟨39, .data⟩ (by simp) rfl))
   rw [if_pos (gdT40 (hG.val 37 38 41 _ rfl (hdep ⟨38, .guard⟩ (by simp) rfl)))]
   obtain ⟨ph, hSp, hdone⟩ := hG.any
   have HK := Lib.hid (hK (.int .i64 hh) w (hG.quiet 39 40 43 _ rfl (by kernel_rfl) (by kernel_rfl)))
   generalize (resOf gd13C fun t => a.eval (.tmp t)) = R at *
   obtain ⟨q0, q1, q2, q3, q4, q5, q6⟩ := hx _ _ _ hSp
   clear hx hc hv c0 c1 c2 c3 c4 c5 c6 c7 c8 c9 c10 c11 c12 c13 q0 q1 q2 q4 q5 q6
   clear hSp hdone
   clear hG hcl hdep hfr hK hLi
   go_simp
   exact HK.out
  | 41, ho =>
   obtain rfl := gdO41 ho
   have x43 := gdX (hG.val 39 40 43 _ rfl (hdep ⟨40, .data⟩ (by simp) rfl))
   rw [if_pos (gdT41 (hG.val 37 38 41 _ rfl (hdep ⟨38, .guard⟩ (by simp) rfl)))]
   have HK := Lib.hid (hK (.bool true) w (hG.quiet 40 41 44 _ rfl (by kernel_rfl) (by kernel_rfl)))
   clear hx hc hv c0 c1 c2 c3 c4 c5 c6 c8 c9 c10 c11 c12 c13
   clear hG hcl hdep hfr hK hLi
   go_simp
   exact HK.out
  | 42, ho =>
   obtain rfl := gdO42 ho
   have x41 := gdX (hG.val 37 38 41 _ rfl (hdep ⟨38, .data⟩ (by simp) rfl))
   have x44 := gdX (hG.val 40 41 44 _ rfl (hdep ⟨41, .data⟩ (by simp) rfl))
   rw [if_pos (show Region.wanted _ _ = true from rfl)]
   have HK := Lib.hid (hK (.bool true) w (hG.quiet 41 42 45 _ rfl (by kernel_rfl) (by kernel_rfl)))
   clear hG hcl hdep hfr hK hLi
   go_simp
   exact HK.out
  | 43, ho =>
   obtain rfl := gdO43 ho
   have x45 := gdX (hG.val 41 42 45 _ rfl (hdep ⟨42, .data⟩ (by simp) rfl))
   rw [if_pos (show Region.wanted _ _ = true from rfl)]
   have HK := Lib.hid (hK (.bool true) w (hG.quiet 42 43 46 _ rfl (by kernel_rfl) (by kernel_rfl)))
   clear hG hcl hdep hfr hK hLi
   go_simp
   exact HK.out
  | 44, ho =>
   obtain rfl := gdO44 ho
   rw [if_pos (gdT44 (hG.val 42 43 46 _ rfl (hdep ⟨43, .guard⟩ (by simp) rfl)))]
   have HK := Lib.hid (hK (.pointer (some ⟨b, 4, none⟩)) w (hG.quiet 43 44 47 _ rfl (by kernel_rfl) (by kernel_rfl)))
   clear hx hc hv c0 c1 c2 c3 c4 c5 c6 c7 c8 c9 c10 c11 c12 c13
   clear hG hcl hdep hfr hK hLi
   go_simp
   exact HK.out
  | 45, ho =>
   obtain rfl := gdO45 ho
   have x47 := gdX (hG.val 43 44 47 _ rfl (hdep ⟨44, .data⟩ (by simp) rfl))
   rw [if_pos (gdT45 (hG.val 42 43 46 _ rfl (hdep ⟨43, .guard⟩ (by simp) rfl)))]
   obtain ⟨ph, hSp, hdone⟩ := hG.any
   have HK := Lib.hid (hK (.int .i64 mi) w (hG.quiet 44 45 48 _ rfl (by kernel_rfl) (by kernel_rfl)))
   generalize (resOf gd13C fun t => a.eval (.tmp t)) = R at *
   obtain ⟨q0, q1, q2, q3, q4, q5, q6⟩ := hx _ _ _ hSp
   clear hx hc hv c0 c1 c2 c3 c4 c5 c6 c7 c8 c9 c10 c11 c12 c13 q0 q1 q2 q3 q5 q6
   clear hSp hdone
   clear hG hcl hdep hfr hK hLi
   go_simp
   exact HK.out
  | 46, ho =>
   obtain rfl := gdO46 ho
   have x48 := gdX (hG.val 44 45 48 _ rfl (hdep ⟨45, .data⟩ (by simp) rfl))
   rw [if_pos (gdT46 (hG.val 42 43 46 _ rfl (hdep ⟨43, .guard⟩ (by simp) rfl)))]
   have HK := Lib.hid (hK (.bool true) w (hG.quiet 45 46 49 _ rfl (by kernel_rfl) (by kernel_rfl)))
   clear hx hc hv c0 c1 c2 c3 c4 c5 c6 c7 c9 c10 c11 c12 c13
   clear hG hcl hdep hfr hK hLi
   go_simp
   exact HK.out
  | 47, ho =>
   obtain rfl := gdO47 ho
   have x46 := gdX (hG.val 42 43 46 _ rfl (hdep ⟨43, .data⟩ (by simp) rfl))
   have x49 := gdX (hG.val 45 46 49 _ rfl (hdep ⟨46, .data⟩ (by simp) rfl))
   rw [if_pos (show Region.wanted _ _ = true from rfl)]
   have HK := Lib.hid (hK (.bool true) w (hG.quiet 46 47 50 _ rfl (by kernel_rfl) (by kernel_rfl)))
   clear hG hcl hdep hfr hK hLi
   go_simp
   exact HK.out
  | 48, ho =>
   obtain rfl := gdO48 ho
   have x50 := gdX (hG.val 46 47 50 _ rfl (hdep ⟨47, .data⟩ (by simp) rfl))
   rw [if_pos (show Region.wanted _ _ = true from rfl)]
   have HK := Lib.hid (hK (.bool true) w (hG.quiet 47 48 51 _ rfl (by kernel_rfl) (by kernel_rfl)))
   clear hG hcl hdep hfr hK hLi
   go_simp
   exact HK.out
  | 49, ho =>
   obtain rfl := gdO49 ho
   rw [if_pos (gdT49 (hG.val 47 48 51 _ rfl (hdep ⟨48, .guard⟩ (by simp) rfl)))]
   have HK := Lib.hid (hK (.pointer (some ⟨b, 4, none⟩)) w (hG.quiet 48 49 52 _ rfl (by kernel_rfl) (by kernel_rfl)))
   clear hx hc hv c0 c1 c2 c3 c4 c5 c6 c7 c8 c9 c10 c11 c12 c13
   clear hG hcl hdep hfr hK hLi
   go_simp
   exact HK.out
  | 50, ho =>
   obtain rfl := gdO50 ho
   have x52 := gdX (hG.val 48 49 52 _ rfl (hdep ⟨49, .data⟩ (by simp) rfl))
   rw [if_pos (gdT50 (hG.val 47 48 51 _ rfl (hdep ⟨48, .guard⟩ (by simp) rfl)))]
   obtain ⟨ph, hSp, hdone⟩ := hG.any
   have HK := Lib.hid (hK (.int .i64 mi) w (hG.quiet 49 50 53 _ rfl (by kernel_rfl) (by kernel_rfl)))
   generalize (resOf gd13C fun t => a.eval (.tmp t)) = R at *
   obtain ⟨q0, q1, q2, q3, q4, q5, q6⟩ := hx _ _ _ hSp
   clear hx hc hv c0 c1 c2 c3 c4 c5 c6 c7 c8 c9 c10 c11 c12 c13 q0 q1 q2 q3 q5 q6
   clear hSp hdone
   clear hG hcl hdep hfr hK hLi
   go_simp
   exact HK.out
  | 51, ho =>
   obtain rfl := gdO51 ho
   have x53 := gdX (hG.val 49 50 53 _ rfl (hdep ⟨50, .data⟩ (by simp) rfl))
   rw [if_pos (gdT51 (hG.val 47 48 51 _ rfl (hdep ⟨48, .guard⟩ (by simp) rfl)))]
   have HK := Lib.hid (hK (.bool true) w (hG.quiet 50 51 54 _ rfl (by kernel_rfl) (by kernel_rfl)))
   clear hx hc hv c0 c1 c2 c3 c4 c5 c6 c7 c8 c10 c11 c12 c13
   clear hG hcl hdep hfr hK hLi
   go_simp
   exact HK.out
  | 52, ho =>
   obtain rfl := gdO52 ho
   have x51 := gdX (hG.val 47 48 51 _ rfl (hdep ⟨48, .data⟩ (by simp) rfl))
   have x54 := gdX (hG.val 50 51 54 _ rfl (hdep ⟨51, .data⟩ (by simp) rfl))
   rw [if_pos (show Region.wanted _ _ = true from rfl)]
   have HK := Lib.hid (hK (.bool true) w (hG.quiet 51 52 55 _ rfl (by kernel_rfl) (by kernel_rfl)))
   clear hG hcl hdep hfr hK hLi
   go_simp
   exact HK.out
  | 53, ho =>
   obtain rfl := gdO53 ho
   have x55 := gdX (hG.val 51 52 55 _ rfl (hdep ⟨52, .data⟩ (by simp) rfl))
   rw [if_pos (show Region.wanted _ _ = true from rfl)]
   have HK := Lib.hid (hK (.bool true) w (hG.quiet 52 53 56 _ rfl (by kernel_rfl) (by kernel_rfl)))
   clear hG hcl hdep hfr hK hLi
   go_simp
   exact HK.out
  | 54, ho =>
   obtain rfl := gdO54 ho
   rw [if_pos (gdT54 (hG.val 52 53 56 _ rfl (hdep ⟨53, .guard⟩ (by simp) rfl)))]
   have HK := Lib.hid (hK (.pointer (some ⟨b, 5, none⟩)) w (hG.quiet 53 54 57 _ rfl (by kernel_rfl) (by kernel_rfl)))
   clear hx hc hv c0 c1 c2 c3 c4 c5 c6 c7 c8 c9 c10 c11 c12 c13
   clear hG hcl hdep hfr hK hLi
   go_simp
   exact HK.out
  | 55, ho =>
   obtain rfl := gdO55 ho
   have x57 := gdX (hG.val 53 54 57 _ rfl (hdep ⟨54, .data⟩ (by simp) rfl))
   rw [if_pos (gdT55 (hG.val 52 53 56 _ rfl (hdep ⟨53, .guard⟩ (by simp) rfl)))]
   obtain ⟨ph, hSp, hdone⟩ := hG.any
   have HK := Lib.hid (hK (.int .i64 s) w (hG.quiet 54 55 58 _ rfl (by kernel_rfl) (by kernel_rfl)))
   generalize (resOf gd13C fun t => a.eval (.tmp t)) = R at *
   obtain ⟨q0, q1, q2, q3, q4, q5, q6⟩ := hx _ _ _ hSp
   clear hx hc hv c0 c1 c2 c3 c4 c5 c6 c7 c8 c9 c10 c11 c12 c13 q0 q1 q2 q3 q4 q6
   clear hSp hdone
   clear hG hcl hdep hfr hK hLi
   go_simp
   exact HK.out
  | 56, ho =>
   obtain rfl := gdO56 ho
   have x58 := gdX (hG.val 54 55 58 _ rfl (hdep ⟨55, .data⟩ (by simp) rfl))
   rw [if_pos (gdT56 (hG.val 52 53 56 _ rfl (hdep ⟨53, .guard⟩ (by simp) rfl)))]
   have HK := Lib.hid (hK (.bool true) w (hG.quiet 55 56 59 _ rfl (by kernel_rfl) (by kernel_rfl)))
   clear hx hc hv c0 c1 c2 c3 c4 c5 c6 c7 c8 c9 c11 c12 c13
   clear hG hcl hdep hfr hK hLi
   go_simp
   exact HK.out
  | 57, ho =>
   obtain rfl := gdO57 ho
   have x56 := gdX (hG.val 52 53 56 _ rfl (hdep ⟨53, .data⟩ (by simp) rfl))
   have x59 := gdX (hG.val 55 56 59 _ rfl (hdep ⟨56, .data⟩ (by simp) rfl))
   rw [if_pos (show Region.wanted _ _ = true from rfl)]
   have HK := Lib.hid (hK (.bool true) w (hG.quiet 56 57 60 _ rfl (by kernel_rfl) (by kernel_rfl)))
   clear hG hcl hdep hfr hK hLi
   go_simp
   exact HK.out
  | 58, ho =>
   obtain rfl := gdO58 ho
   have x60 := gdX (hG.val 56 57 60 _ rfl (hdep ⟨57, .data⟩ (by simp) rfl))
   rw [if_pos (show Region.wanted _ _ = true from rfl)]
   have HK := Lib.hid (hK (.bool true) w (hG.quiet 57 58 61 _ rfl (by kernel_rfl) (by kernel_rfl)))
   clear hG hcl hdep hfr hK hLi
   go_simp
   exact HK.out
  | 59, ho =>
   obtain rfl := gdO59 ho
   rw [if_pos (gdT59 (hG.val 57 58 61 _ rfl (hdep ⟨58, .guard⟩ (by simp) rfl)))]
   have HK := Lib.hid (hK (.pointer (some ⟨b, 5, none⟩)) w (hG.quiet 58 59 62 _ rfl (by kernel_rfl) (by kernel_rfl)))
   clear hx hc hv c0 c1 c2 c3 c4 c5 c6 c7 c8 c9 c10 c11 c12 c13
   clear hG hcl hdep hfr hK hLi
   go_simp
   exact HK.out
  | 60, ho =>
   obtain rfl := gdO60 ho
   have x62 := gdX (hG.val 58 59 62 _ rfl (hdep ⟨59, .data⟩ (by simp) rfl))
   rw [if_pos (gdT60 (hG.val 57 58 61 _ rfl (hdep ⟨58, .guard⟩ (by simp) rfl)))]
   obtain ⟨ph, hSp, hdone⟩ := hG.any
   have HK := Lib.hid (hK (.int .i64 s) w (hG.quiet 59 60 63 _ rfl (by kernel_rfl) (by kernel_rfl)))
   generalize (resOf gd13C fun t => a.eval (.tmp t)) = R at *
   obtain ⟨q0, q1, q2, q3, q4, q5, q6⟩ := hx _ _ _ hSp
   clear hx hc hv c0 c1 c2 c3 c4 c5 c6 c7 c8 c9 c10 c11 c12 c13 q0 q1 q2 q3 q4 q6
   clear hSp hdone
   clear hG hcl hdep hfr hK hLi
   go_simp
   exact HK.out
  | 61, ho =>
   obtain rfl := gdO61 ho
   have x63 := gdX (hG.val 59 60 63 _ rfl (hdep ⟨60, .data⟩ (by simp) rfl))
   rw [if_pos (gdT61 (hG.val 57 58 61 _ rfl (hdep ⟨58, .guard⟩ (by simp) rfl)))]
   have HK := Lib.hid (hK (.bool true) w (hG.quiet 60 61 64 _ rfl (by kernel_rfl) (by kernel_rfl)))
   clear hx hc hv c0 c1 c2 c3 c4 c5 c6 c7 c8 c9 c10 c12 c13
   clear hG hcl hdep hfr hK hLi
   go_simp
   exact HK.out
  | 62, ho =>
   obtain rfl := gdO62 ho
   have x61 := gdX (hG.val 57 58 61 _ rfl (hdep ⟨58, .data⟩ (by simp) rfl))
   have x64 := gdX (hG.val 60 61 64 _ rfl (hdep ⟨61, .data⟩ (by simp) rfl))
   rw [if_pos (show Region.wanted _ _ = true from rfl)]
   have HK := Lib.hid (hK (.bool true) w (hG.quiet 61 62 65 _ rfl (by kernel_rfl) (by kernel_rfl)))
   clear hG hcl hdep hfr hK hLi
   go_simp
   exact HK.out
  | 63, ho =>
   obtain rfl := gdO63 ho
   have x65 := gdX (hG.val 61 62 65 _ rfl (hdep ⟨62, .data⟩ (by simp) rfl))
   rw [if_pos (show Region.wanted _ _ = true from rfl)]
   have HK := Lib.hid (hK (.bool true) w (hG.quiet 62 63 66 _ rfl (by kernel_rfl) (by kernel_rfl)))
   clear hG hcl hdep hfr hK hLi
   go_simp
   exact HK.out
  | 64, ho =>
   obtain rfl := gdO64 ho
   rw [if_pos (gdT64 (hG.val 62 63 66 _ rfl (hdep ⟨63, .guard⟩ (by simp) rfl)))]
   have HK := Lib.hid (hK (.pointer (some ⟨b, 6, none⟩)) w (hG.quiet 63 64 67 _ rfl (by kernel_rfl) (by kernel_rfl)))
   clear hx hc hv c0 c1 c2 c3 c4 c5 c6 c7 c8 c9 c10 c11 c12 c13
   clear hG hcl hdep hfr hK hLi
   go_simp
   exact HK.out
  | 65, ho =>
   obtain rfl := gdO65 ho
   have x67 := gdX (hG.val 63 64 67 _ rfl (hdep ⟨64, .data⟩ (by simp) rfl))
   rw [if_pos (gdT65 (hG.val 62 63 66 _ rfl (hdep ⟨63, .guard⟩ (by simp) rfl)))]
   obtain ⟨ph, hSp, hdone⟩ := hG.any
   have HK := Lib.hid (hK (.int .i64 z) w (hG.quiet 64 65 68 _ rfl (by kernel_rfl) (by kernel_rfl)))
   generalize (resOf gd13C fun t => a.eval (.tmp t)) = R at *
   obtain ⟨q0, q1, q2, q3, q4, q5, q6⟩ := hx _ _ _ hSp
   clear hx hc hv c0 c1 c2 c3 c4 c5 c6 c7 c8 c9 c10 c11 c12 c13 q0 q1 q2 q3 q4 q5
   clear hSp hdone
   clear hG hcl hdep hfr hK hLi
   go_simp
   exact HK.out
  | 66, ho =>
   obtain rfl := gdO66 ho
   have x68 := gdX (hG.val 64 65 68 _ rfl (hdep ⟨65, .data⟩ (by simp) rfl))
   rw [if_pos (gdT66 (hG.val 62 63 66 _ rfl (hdep ⟨63, .guard⟩ (by simp) rfl)))]
   have HK := Lib.hid (hK (.bool true) w (hG.quiet 65 66 69 _ rfl (by kernel_rfl) (by kernel_rfl)))
   clear hx hc hv c0 c1 c2 c3 c4 c5 c6 c7 c8 c9 c10 c11 c13
   clear hG hcl hdep hfr hK hLi
   go_simp
   exact HK.out
  | 67, ho =>
   obtain rfl := gdO67 ho
   have x66 := gdX (hG.val 62 63 66 _ rfl (hdep ⟨63, .data⟩ (by simp) rfl))
   have x69 := gdX (hG.val 65 66 69 _ rfl (hdep ⟨66, .data⟩ (by simp) rfl))
   rw [if_pos (show Region.wanted _ _ = true from rfl)]
   have HK := Lib.hid (hK (.bool true) w (hG.quiet 66 67 70 _ rfl (by kernel_rfl) (by kernel_rfl)))
   clear hG hcl hdep hfr hK hLi
   go_simp
   exact HK.out
  | 68, ho =>
   obtain rfl := gdO68 ho
   have x70 := gdX (hG.val 66 67 70 _ rfl (hdep ⟨67, .data⟩ (by simp) rfl))
   rw [if_pos (show Region.wanted _ _ = true from rfl)]
   have HK := Lib.hid (hK (.bool true) w (hG.quiet 67 68 71 _ rfl (by kernel_rfl) (by kernel_rfl)))
   clear hG hcl hdep hfr hK hLi
   go_simp
   exact HK.out
  | 69, ho =>
   obtain rfl := gdO69 ho
   rw [if_pos (gdT69 (hG.val 67 68 71 _ rfl (hdep ⟨68, .guard⟩ (by simp) rfl)))]
   have HK := Lib.hid (hK (.pointer (some ⟨b, 6, none⟩)) w (hG.quiet 68 69 72 _ rfl (by kernel_rfl) (by kernel_rfl)))
   clear hx hc hv c0 c1 c2 c3 c4 c5 c6 c7 c8 c9 c10 c11 c12 c13
   clear hG hcl hdep hfr hK hLi
   go_simp
   exact HK.out
  | 70, ho =>
   obtain rfl := gdO70 ho
   have x72 := gdX (hG.val 68 69 72 _ rfl (hdep ⟨69, .data⟩ (by simp) rfl))
   rw [if_pos (gdT70 (hG.val 67 68 71 _ rfl (hdep ⟨68, .guard⟩ (by simp) rfl)))]
   obtain ⟨ph, hSp, hdone⟩ := hG.any
   have HK := Lib.hid (hK (.int .i64 z) w (hG.quiet 69 70 73 _ rfl (by kernel_rfl) (by kernel_rfl)))
   generalize (resOf gd13C fun t => a.eval (.tmp t)) = R at *
   obtain ⟨q0, q1, q2, q3, q4, q5, q6⟩ := hx _ _ _ hSp
   clear hx hc hv c0 c1 c2 c3 c4 c5 c6 c7 c8 c9 c10 c11 c12 c13 q0 q1 q2 q3 q4 q5
   clear hSp hdone
   clear hG hcl hdep hfr hK hLi
   go_simp
   exact HK.out
  | 71, ho =>
   obtain rfl := gdO71 ho
   have x73 := gdX (hG.val 69 70 73 _ rfl (hdep ⟨70, .data⟩ (by simp) rfl))
   rw [if_pos (gdT71 (hG.val 67 68 71 _ rfl (hdep ⟨68, .guard⟩ (by simp) rfl)))]
   have HK := Lib.hid (hK (.bool false) w (hG.quiet 70 71 74 _ rfl (by kernel_rfl) (by kernel_rfl)))
   clear hx hc hv c0 c1 c2 c3 c4 c5 c6 c7 c8 c9 c10 c11 c12
   clear hG hcl hdep hfr hK hLi
   go_simp
   exact HK.out
  | 72, ho =>
   obtain rfl := gdO72 ho
   have x71 := gdX (hG.val 67 68 71 _ rfl (hdep ⟨68, .data⟩ (by simp) rfl))
   have x74 := gdX (hG.val 70 71 74 _ rfl (hdep ⟨71, .data⟩ (by simp) rfl))
   rw [if_pos (show Region.wanted _ _ = true from rfl)]
   have HK := Lib.hid (hK (.bool false) w (hG.quiet 71 72 75 _ rfl (by kernel_rfl) (by kernel_rfl)))
   clear hG hcl hdep hfr hK hLi
   go_simp
   exact HK.out
  | 73, ho =>
   obtain rfl := gdO73 ho
   have x75 := gdX (hG.val 71 72 75 _ rfl (hdep ⟨72, .data⟩ (by simp) rfl))
   rw [if_pos (show Region.wanted _ _ = true from rfl)]
   have HK := Lib.hid (hK (.bool false) w (hG.quiet 72 73 2 _ rfl (by kernel_rfl) (by kernel_rfl)))
   clear hG hcl hdep hfr hK hLi
   go_simp
   exact HK.out
  | n + 74, ho => exact absurd (Array.getElem?_eq_some_iff.1 ho).1 (by show ¬ n + 74 < 74; omega)


def gd14Vals (b : Nat) (y m k hh mi s z d : Int) : List (Nat × Nat × Value) := [(0, 3, .pointer (some ⟨b, 0, none⟩)), (1, 4, .int .i64 y), (2, 5, .bool true), (3, 6, .bool true), (4, 7, .pointer (some ⟨b, 0, none⟩)), (5, 8, .int .i64 y), (6, 9, .bool true), (7, 10, .bool true), (8, 11, .bool true), (9, 12, .pointer (some ⟨b, 1, none⟩)), (10, 13, .int .i64 m), (11, 14, .bool true), (12, 15, .bool true), (13, 16, .bool true), (14, 17, .pointer (some ⟨b, 1, none⟩)), (15, 18, .int .i64 m), (16, 19, .bool true), (17, 20, .bool true), (18, 21, .bool true), (19, 22, .pointer (some ⟨b, 2, none⟩)), (20, 23, .int .i64 k), (21, 24, .bool true), (22, 25, .bool true), (23, 26, .bool true), (24, 27, .pointer (some ⟨b, 2, none⟩)), (25, 28, .int .i64 k), (26, 29, .pointer (some ⟨b, 0, none⟩)), (27, 30, .int .i64 y), (28, 31, .pointer (some ⟨b, 1, none⟩)), (29, 32, .int .i64 m), (31, 34, .bool true), (32, 35, .bool true), (33, 36, .bool true), (34, 37, .pointer (some ⟨b, 3, none⟩)), (35, 38, .int .i64 hh), (36, 39, .bool true), (37, 40, .bool true), (38, 41, .bool true), (39, 42, .pointer (some ⟨b, 3, none⟩)), (40, 43, .int .i64 hh), (41, 44, .bool true), (42, 45, .bool true), (43, 46, .bool true), (44, 47, .pointer (some ⟨b, 4, none⟩)), (45, 48, .int .i64 mi), (46, 49, .bool true), (47, 50, .bool true), (48, 51, .bool true), (49, 52, .pointer (some ⟨b, 4, none⟩)), (50, 53, .int .i64 mi), (51, 54, .bool true), (52, 55, .bool true), (53, 56, .bool true), (54, 57, .pointer (some ⟨b, 5, none⟩)), (55, 58, .int .i64 s), (56, 59, .bool true), (57, 60, .bool true), (58, 61, .bool true), (59, 62, .pointer (some ⟨b, 5, none⟩)), (60, 63, .int .i64 s), (61, 64, .bool true), (62, 65, .bool true), (63, 66, .bool true), (64, 67, .pointer (some ⟨b, 6, none⟩)), (65, 68, .int .i64 z), (66, 69, .bool true), (67, 70, .bool true), (68, 71, .bool true), (69, 72, .pointer (some ⟨b, 6, none⟩)), (70, 73, .int .i64 z), (71, 74, .bool true), (72, 75, .bool true), (73, 2, .bool true)]
def gd14C : List (Nat × Nat) := [(30, 33)]

set_option maxHeartbeats 4000000 in
set_option maxRecDepth 100000 in
theorem gd14 {Q : Exit → Act → World → Prop} {a0 : Act} {wp : World} (b : Nat) (y m k hh mi s z d : Int) (S : Nat → (Nat → Value) → World → Prop)
    (hsz : 75 < a0.tmps.size) (in1 : a0.eval (.tmp 1) = .pointer (some ⟨b, 0, none⟩))
    (hx : ∀ p R w, S p R w → w.cell? ⟨b, 0, none⟩ = some (.int .i64 y) ∧ w.cell? ⟨b, 1, none⟩ = some (.int .i64 m) ∧ w.cell? ⟨b, 2, none⟩ = some (.int .i64 k) ∧ w.cell? ⟨b, 3, none⟩ = some (.int .i64 hh) ∧ w.cell? ⟨b, 4, none⟩ = some (.int .i64 mi) ∧ w.cell? ⟨b, 5, none⟩ = some (.int .i64 s) ∧ w.cell? ⟨b, 6, none⟩ = some (.int .i64 z)) (c0 : decide (1970 ≤ y) = true) (c1 : decide (y ≤ 9999) = true) (c2 : decide (1 ≤ m) = true) (c3 : decide (m ≤ 12) = true) (c4 : decide (1 ≤ k) = true) (c5 : decide (k ≤ d) = true) (c6 : decide (0 ≤ hh) = true) (c7 : decide (hh ≤ 23) = true) (c8 : decide (0 ≤ mi) = true) (c9 : decide (mi ≤ 59) = true) (c10 : decide (0 ≤ s) = true) (c11 : decide (s ≤ 59) = true) (c12 : decide (-1439 ≤ z) = true) (c13 : decide (z ≤ 1439) = true)
    (hc : ∀ R w, S 0 R w → Calls Tryd.prog 37 #[.int .i64 y, .int .i64 m] w fun e w' => ∃ v, e = .returned v ∧ S 1 (setR R 0 v) w')
    (hv : ∀ p R w, S p R w → 0 < p → R 0 = .int .i64 d)
    (hS : S 0 (resOf gd14C fun t => a0.eval (.tmp t)) wp.drew)
    (fin : ∀ a w, Fr [3, 4, 5, 6, 7, 8, 9, 10, 11, 12, 13, 14, 15, 16, 17, 18, 19, 20, 21, 22, 23, 24, 25, 26, 27, 28, 29, 30, 31, 32, 33, 34, 35, 36, 37, 38, 39, 40, 41, 42, 43, 44, 45, 46, 47, 48, 49, 50, 51, 52, 53, 54, 55, 56, 57, 58, 59, 60, 61, 62, 63, 64, 65, 66, 67, 68, 69, 70, 71, 72, 73, 74, 75, 2] a0 a → a.eval (.tmp 2) = .bool true → S 1 (resOf gd14C fun t => a.eval (.tmp t)) w → Q .normal a w) :
    (Code.region 1 opsGd true).wp Tryd.prog Q a0 wp := by
  refine region_inv (by kernel_rfl) [3, 4, 5, 6, 7, 8, 9, 10, 11, 12, 13, 14, 15, 16, 17, 18, 19, 20, 21, 22, 23, 24, 25, 26, 27, 28, 29, 30, 31, 32, 33, 34, 35, 36, 37, 38, 39, 40, 41, 42, 43, 44, 45, 46, 47, 48, 49, 50, 51, 52, 53, 54, 55, 56, 57, 58, 59, 60, 61, 62, 63, 64, 65, 66, 67, 68, 69, 70, 71, 72, 73, 74, 75, 2] (by kernel_rfl) (by kernel_rfl) (fun t ht => by simp at ht; omega) (GV (gd14Vals b y m k hh mi s z d) gd14C S) (.start hS) ?_
    (fun L a w hf hall hG => fin a w hf (hG.val 72 73 2 _ rfl (hall 73 (by decide))) (hG.fin (fun c hc => by simp [gd14C] at hc; subst hc; exact hall _ (by decide))))
  clear hS fin
  intro ix oo ho L a w hfr hG hLi hdep hcl K hK
  have e1 : a.tmps[1]?.getD undef = .pointer (some ⟨b, 0, none⟩) := by rw [← ev]; exact (hfr.same 1 (by decide)).trans in1
  clear in1
  match ix, ho with
  | 0, ho =>
   obtain rfl := gdO0 ho
   rw [if_pos (show Region.wanted _ _ = true from rfl)]
   have HK := Lib.hid (hK (.pointer (some ⟨b, 0, none⟩)) w (hG.quiet 0 0 3 _ rfl (by kernel_rfl) (by kernel_rfl)))
   clear hx hc hv c0 c1 c2 c3 c4 c5 c6 c7 c8 c9 c10 c11 c12 c13
   clear hG hcl hdep hfr hK hLi
   go_simp
   exact HK.out
  | 1, ho =>
   obtain rfl := gdO1 ho
   have x3 := gdX (hG.val 0 0 3 _ rfl (hdep ⟨0, .data⟩ (by simp) rfl))
   rw [if_pos (show Region.wanted _ _ = true from rfl)]
   obtain ⟨ph, hSp, hdone⟩ := hG.any
   have HK := Lib.hid (hK (.int .i64 y) w (hG.quiet 1 1 4 _ rfl (by kernel_rfl) (by kernel_rfl)))
   generalize (resOf gd14C fun t => a.eval (.tmp t)) = R at *
   obtain ⟨q0, q1, q2, q3, q4, q5, q6⟩ := hx _ _ _ hSp
   clear hx hc hv c0 c1 c2 c3 c4 c5 c6 c7 c8 c9 c10 c11 c12 c13 q1 q2 q3 q4 q5 q6
   clear hSp hdone
   clear hG hcl hdep hfr hK hLi
   go_simp
   exact HK.out
  | 2, ho =>
   obtain rfl := gdO2 ho
   have x4 := gdX (hG.val 1 1 4 _ rfl (hdep ⟨1, .data⟩ (by simp) rfl))
   rw [if_pos (show Region.wanted _ _ = true from rfl)]
   have HK := Lib.hid (hK (.bool true) w (hG.quiet 2 2 5 _ rfl (by kernel_rfl) (by kernel_rfl)))
   clear hx hc hv c1 c2 c3 c4 c5 c6 c7 c8 c9 c10 c11 c12 c13
   clear hG hcl hdep hfr hK hLi
   go_simp
   exact HK.out
  | 3, ho =>
   obtain rfl := gdO3 ho
   have x5 := gdX (hG.val 2 2 5 _ rfl (hdep ⟨2, .data⟩ (by simp) rfl))
   rw [if_pos (show Region.wanted _ _ = true from rfl)]
   have HK := Lib.hid (hK (.bool true) w (hG.quiet 3 3 6 _ rfl (by kernel_rfl) (by kernel_rfl)))
   clear hG hcl hdep hfr hK hLi
   go_simp
   exact HK.out
  | 4, ho =>
   obtain rfl := gdO4 ho
   rw [if_pos (gdT4 (hG.val 3 3 6 _ rfl (hdep ⟨3, .guard⟩ (by simp) rfl)))]
   have HK := Lib.hid (hK (.pointer (some ⟨b, 0, none⟩)) w (hG.quiet 4 4 7 _ rfl (by kernel_rfl) (by kernel_rfl)))
   clear hx hc hv c0 c1 c2 c3 c4 c5 c6 c7 c8 c9 c10 c11 c12 c13
   clear hG hcl hdep hfr hK hLi
   go_simp
   exact HK.out
  | 5, ho =>
   obtain rfl := gdO5 ho
   have x7 := gdX (hG.val 4 4 7 _ rfl (hdep ⟨4, .data⟩ (by simp) rfl))
   rw [if_pos (gdT5 (hG.val 3 3 6 _ rfl (hdep ⟨3, .guard⟩ (by simp) rfl)))]
   obtain ⟨ph, hSp, hdone⟩ := hG.any
   have HK := Lib.hid (hK (.int .i64 y) w (hG.quiet 5 5 8 _ rfl (by kernel_rfl) (by kernel_rfl)))
   generalize (resOf gd14C fun t => a.eval (.tmp t)) = R at *
   obtain ⟨q0, q1, q2, q3, q4, q5, q6⟩ := hx _ _ _ hSp
   clear hx hc hv c0 c1 c2 c3 c4 c5 c6 c7 c8 c9 c10 c11 c12 c13 q1 q2 q3 q4 q5 q6
   clear hSp hdone
   clear hG hcl hdep hfr hK hLi
   go_simp
   exact HK.out
  | 6, ho =>
   obtain rfl := gdO6 ho
   have x8 := gdX (hG.val 5 5 8 _ rfl (hdep ⟨5, .data⟩ (by simp) rfl))
   rw [if_pos (gdT6 (hG.val 3 3 6 _ rfl (hdep ⟨3, .guard⟩ (by simp) rfl)))]
   have HK := Lib.hid (hK (.bool true) w (hG.quiet 6 6 9 _ rfl (by kernel_rfl) (by kernel_rfl)))
   clear hx hc hv c0 c2 c3 c4 c5 c6 c7 c8 c9 c10 c11 c12 c13
   clear hG hcl hdep hfr hK hLi
   go_simp
   exact HK.out
  | 7, ho =>
   obtain rfl := gdO7 ho
   have x6 := gdX (hG.val 3 3 6 _ rfl (hdep ⟨3, .data⟩ (by simp) rfl))
   have x9 := gdX (hG.val 6 6 9 _ rfl (hdep ⟨6, .data⟩ (by simp) rfl))
   rw [if_pos (show Region.wanted _ _ = true from rfl)]
   have HK := Lib.hid (hK (.bool true) w (hG.quiet 7 7 10 _ rfl (by kernel_rfl) (by kernel_rfl)))
   clear hG hcl hdep hfr hK hLi
   go_simp
   exact HK.out
  | 8, ho =>
   obtain rfl := gdO8 ho
   have x10 := gdX (hG.val 7 7 10 _ rfl (hdep ⟨7, .data⟩ (by simp) rfl))
   rw [if_pos (show Region.wanted _ _ = true from rfl)]
   have HK := Lib.hid (hK (.bool true) w (hG.quiet 8 8 11 _ rfl (by kernel_rfl) (by kernel_rfl)))
   clear hG hcl hdep hfr hK hLi
   go_simp
   exact HK.out
  | 9, ho =>
   obtain rfl := gdO9 ho
   rw [if_pos (gdT9 (hG.val 8 8 11 _ rfl (hdep ⟨8, .guard⟩ (by simp) rfl)))]
   have HK := Lib.hid (hK (.pointer (some ⟨b, 1, none⟩)) w (hG.quiet 9 9 12 _ rfl (by kernel_rfl) (by kernel_rfl)))
   clear hx hc hv c0 c1 c2 c3 c4 c5 c6 c7 c8 c9 c10 c11 c12 c13
   clear hG hcl hdep hfr hK hLi
   go_simp
   exact HK.out
  | 10, ho =>
   obtain rfl := gdO10 ho
   have x12 := gdX (hG.val 9 9 12 _ rfl (hdep ⟨9, .data⟩ (by simp) rfl))
   rw [if_pos (gdT10 (hG.val 8 8 11 _ rfl (hdep ⟨8, .guard⟩ (by simp) rfl)))]
   obtain ⟨ph, hSp, hdone⟩ := hG.any
   have HK := Lib.hid (hK (.int .i64 m) w (hG.quiet 10 10 13 _ rfl (by kernel_rfl) (by kernel_rfl)))
   generalize (resOf gd14C fun t => a.eval (.tmp t)) = R at *
   obtain ⟨q0, q1, q2, q3, q4, q5, q6⟩ := hx _ _ _ hSp
   clear hx hc hv c0 c1 c2 c3 c4 c5 c6 c7 c8 c9 c10 c11 c12 c13 q0 q2 q3 q4 q5 q6
   clear hSp hdone
   clear hG hcl hdep hfr hK hLi
   go_simp
   exact HK.out
  | 11, ho =>
   obtain rfl := gdO11 ho
   have x13 := gdX (hG.val 10 10 13 _ rfl (hdep ⟨10, .data⟩ (by simp) rfl))
   rw [if_pos (gdT11 (hG.val 8 8 11 _ rfl (hdep ⟨8, .guard⟩ (by simp) rfl)))]
   have HK := Lib.hid (hK (.bool true) w (hG.quiet 11 11 14 _ rfl (by kernel_rfl) (by kernel_rfl)))
   clear hx hc hv c0 c1 c3 c4 c5 c6 c7 c8 c9 c10 c11 c12 c13
   clear hG hcl hdep hfr hK hLi
   go_simp
   exact HK.out
  | 12, ho =>
   obtain rfl := gdO12 ho
   have x11 := gdX (hG.val 8 8 11 _ rfl (hdep ⟨8, .data⟩ (by simp) rfl))
   have x14 := gdX (hG.val 11 11 14 _ rfl (hdep ⟨11, .data⟩ (by simp) rfl))
   rw [if_pos (show Region.wanted _ _ = true from rfl)]
   have HK := Lib.hid (hK (.bool true) w (hG.quiet 12 12 15 _ rfl (by kernel_rfl) (by kernel_rfl)))
   clear hG hcl hdep hfr hK hLi
   go_simp
   exact HK.out
  | 13, ho =>
   obtain rfl := gdO13 ho
   have x15 := gdX (hG.val 12 12 15 _ rfl (hdep ⟨12, .data⟩ (by simp) rfl))
   rw [if_pos (show Region.wanted _ _ = true from rfl)]
   have HK := Lib.hid (hK (.bool true) w (hG.quiet 13 13 16 _ rfl (by kernel_rfl) (by kernel_rfl)))
   clear hG hcl hdep hfr hK hLi
   go_simp
   exact HK.out
  | 14, ho =>
   obtain rfl := gdO14 ho
   rw [if_pos (gdT14 (hG.val 13 13 16 _ rfl (hdep ⟨13, .guard⟩ (by simp) rfl)))]
   have HK := Lib.hid (hK (.pointer (some ⟨b, 1, none⟩)) w (hG.quiet 14 14 17 _ rfl (by kernel_rfl) (by kernel_rfl)))
   clear hx hc hv c0 c1 c2 c3 c4 c5 c6 c7 c8 c9 c10 c11 c12 c13
   clear hG hcl hdep hfr hK hLi
   go_simp
   exact HK.out
  | 15, ho =>
   obtain rfl := gdO15 ho
   have x17 := gdX (hG.val 14 14 17 _ rfl (hdep ⟨14, .data⟩ (by simp) rfl))
   rw [if_pos (gdT15 (hG.val 13 13 16 _ rfl (hdep ⟨13, .guard⟩ (by simp) rfl)))]
   obtain ⟨ph, hSp, hdone⟩ := hG.any
   have HK := Lib.hid (hK (.int .i64 m) w (hG.quiet 15 15 18 _ rfl (by kernel_rfl) (by kernel_rfl)))
   generalize (resOf gd14C fun t => a.eval (.tmp t)) = R at *
   obtain ⟨q0, q1, q2, q3, q4, q5, q6⟩ := hx _ _ _ hSp
   clear hx hc hv c0 c1 c2 c3 c4 c5 c6 c7 c8 c9 c10 c11 c12 c13 q0 q2 q3 q4 q5 q6
   clear hSp hdone
   clear hG hcl hdep hfr hK hLi
   go_simp
   exact HK.out
  | 16, ho =>
   obtain rfl := gdO16 ho
   have x18 := gdX (hG.val 15 15 18 _ rfl (hdep ⟨15, .data⟩ (by simp) rfl))
   rw [if_pos (gdT16 (hG.val 13 13 16 _ rfl (hdep ⟨13, .guard⟩ (by simp) rfl)))]
   have HK := Lib.hid (hK (.bool true) w (hG.quiet 16 16 19 _ rfl (by kernel_rfl) (by kernel_rfl)))
   clear hx hc hv c0 c1 c2 c4 c5 c6 c7 c8 c9 c10 c11 c12 c13
   clear hG hcl hdep hfr hK hLi
   go_simp
   exact HK.out
  | 17, ho =>
   obtain rfl := gdO17 ho
   have x16 := gdX (hG.val 13 13 16 _ rfl (hdep ⟨13, .data⟩ (by simp) rfl))
   have x19 := gdX (hG.val 16 16 19 _ rfl (hdep ⟨16, .data⟩ (by simp) rfl))
   rw [if_pos (show Region.wanted _ _ = true from rfl)]
   have HK := Lib.hid (hK (.bool true) w (hG.quiet 17 17 20 _ rfl (by kernel_rfl) (by kernel_rfl)))
   clear hG hcl hdep hfr hK hLi
   go_simp
   exact HK.out
  | 18, ho =>
   obtain rfl := gdO18 ho
   have x20 := gdX (hG.val 17 17 20 _ rfl (hdep ⟨17, .data⟩ (by simp) rfl))
   rw [if_pos (show Region.wanted _ _ = true from rfl)]
   have HK := Lib.hid (hK (.bool true) w (hG.quiet 18 18 21 _ rfl (by kernel_rfl) (by kernel_rfl)))
   clear hG hcl hdep hfr hK hLi
   go_simp
   exact HK.out
  | 19, ho =>
   obtain rfl := gdO19 ho
   rw [if_pos (gdT19 (hG.val 18 18 21 _ rfl (hdep ⟨18, .guard⟩ (by simp) rfl)))]
   have HK := Lib.hid (hK (.pointer (some ⟨b, 2, none⟩)) w (hG.quiet 19 19 22 _ rfl (by kernel_rfl) (by kernel_rfl)))
   clear hx hc hv c0 c1 c2 c3 c4 c5 c6 c7 c8 c9 c10 c11 c12 c13
   clear hG hcl hdep hfr hK hLi
   go_simp
   exact HK.out
  | 20, ho =>
   obtain rfl := gdO20 ho
   have x22 := gdX (hG.val 19 19 22 _ rfl (hdep ⟨19, .data⟩ (by simp) rfl))
   rw [if_pos (gdT20 (hG.val 18 18 21 _ rfl (hdep ⟨18, .guard⟩ (by simp) rfl)))]
   obtain ⟨ph, hSp, hdone⟩ := hG.any
   have HK := Lib.hid (hK (.int .i64 k) w (hG.quiet 20 20 23 _ rfl (by kernel_rfl) (by kernel_rfl)))
   generalize (resOf gd14C fun t => a.eval (.tmp t)) = R at *
   obtain ⟨q0, q1, q2, q3, q4, q5, q6⟩ := hx _ _ _ hSp
   clear hx hc hv c0 c1 c2 c3 c4 c5 c6 c7 c8 c9 c10 c11 c12 c13 q0 q1 q3 q4 q5 q6
   clear hSp hdone
   clear hG hcl hdep hfr hK hLi
   go_simp
   exact HK.out
  | 21, ho =>
   obtain rfl := gdO21 ho
   have x23 := gdX (hG.val 20 20 23 _ rfl (hdep ⟨20, .data⟩ (by simp) rfl))
   rw [if_pos (gdT21 (hG.val 18 18 21 _ rfl (hdep ⟨18, .guard⟩ (by simp) rfl)))]
   have HK := Lib.hid (hK (.bool true) w (hG.quiet 21 21 24 _ rfl (by kernel_rfl) (by kernel_rfl)))
   clear hx hc hv c0 c1 c2 c3 c5 c6 c7 c8 c9 c10 c11 c12 c13
   clear hG hcl hdep hfr hK hLi
   go_simp
   exact HK.out
  | 22, ho =>
   obtain rfl := gdO22 ho
   have x21 := gdX (hG.val 18 18 21 _ rfl (hdep ⟨18, .data⟩ (by simp) rfl))
   have x24 := gdX (hG.val 21 21 24 _ rfl (hdep ⟨21, .data⟩ (by simp) rfl))
   rw [if_pos (show Region.wanted _ _ = true from rfl)]
   have HK := Lib.hid (hK (.bool true) w (hG.quiet 22 22 25 _ rfl (by kernel_rfl) (by kernel_rfl)))
   clear hG hcl hdep hfr hK hLi
   go_simp
   exact HK.out
  | 23, ho =>
   obtain rfl := gdO23 ho
   have x25 := gdX (hG.val 22 22 25 _ rfl (hdep ⟨22, .data⟩ (by simp) rfl))
   rw [if_pos (show Region.wanted _ _ = true from rfl)]
   have HK := Lib.hid (hK (.bool true) w (hG.quiet 23 23 26 _ rfl (by kernel_rfl) (by kernel_rfl)))
   clear hG hcl hdep hfr hK hLi
   go_simp
   exact HK.out
  | 24, ho =>
   obtain rfl := gdO24 ho
   rw [if_pos (gdT24 (hG.val 23 23 26 _ rfl (hdep ⟨23, .guard⟩ (by simp) rfl)))]
   have HK := Lib.hid (hK (.pointer (some ⟨b, 2, none⟩)) w (hG.quiet 24 24 27 _ rfl (by kernel_rfl) (by kernel_rfl)))
   clear hx hc hv c0 c1 c2 c3 c4 c5 c6 c7 c8 c9 c10 c11 c12 c13
   clear hG hcl hdep hfr hK hLi
   go_simp
   exact HK.out
  | 25, ho =>
   obtain rfl := gdO25 ho
   have x27 := gdX (hG.val 24 24 27 _ rfl (hdep ⟨24, .data⟩ (by simp) rfl))
   rw [if_pos (gdT25 (hG.val 23 23 26 _ rfl (hdep ⟨23, .guard⟩ (by simp) rfl)))]
   obtain ⟨ph, hSp, hdone⟩ := hG.any
   have HK := Lib.hid (hK (.int .i64 k) w (hG.quiet 25 25 28 _ rfl (by kernel_rfl) (by kernel_rfl)))
   generalize (resOf gd14C fun t => a.eval (.tmp t)) = R at *
   obtain ⟨q0, q1, q2, q3, q4, q5, q6⟩ := hx _ _ _ hSp
   clear hx hc hv c0 c1 c2 c3 c4 c5 c6 c7 c8 c9 c10 c11 c12 c13 q0 q1 q3 q4 q5 q6
   clear hSp hdone
   clear hG hcl hdep hfr hK hLi
   go_simp
   exact HK.out
  | 26, ho =>
   obtain rfl := gdO26 ho
   rw [if_pos (gdT26 (hG.val 23 23 26 _ rfl (hdep ⟨23, .guard⟩ (by simp) rfl)))]
   have HK := Lib.hid (hK (.pointer (some ⟨b, 0, none⟩)) w (hG.quiet 26 26 29 _ rfl (by kernel_rfl) (by kernel_rfl)))
   clear hx hc hv c0 c1 c2 c3 c4 c5 c6 c7 c8 c9 c10 c11 c12 c13
   clear hG hcl hdep hfr hK hLi
   go_simp
   exact HK.out
  | 27, ho =>
   obtain rfl := gdO27 ho
   have x29 := gdX (hG.val 26 26 29 _ rfl (hdep ⟨26, .data⟩ (by simp) rfl))
   rw [if_pos (gdT27 (hG.val 23 23 26 _ rfl (hdep ⟨23, .guard⟩ (by simp) rfl)))]
   obtain ⟨ph, hSp, hdone⟩ := hG.any
   have HK := Lib.hid (hK (.int .i64 y) w (hG.quiet 27 27 30 _ rfl (by kernel_rfl) (by kernel_rfl)))
   generalize (resOf gd14C fun t => a.eval (.tmp t)) = R at *
   obtain ⟨q0, q1, q2, q3, q4, q5, q6⟩ := hx _ _ _ hSp
   clear hx hc hv c0 c1 c2 c3 c4 c5 c6 c7 c8 c9 c10 c11 c12 c13 q1 q2 q3 q4 q5 q6
   clear hSp hdone
   clear hG hcl hdep hfr hK hLi
   go_simp
   exact HK.out
  | 28, ho =>
   obtain rfl := gdO28 ho
   rw [if_pos (gdT28 (hG.val 23 23 26 _ rfl (hdep ⟨23, .guard⟩ (by simp) rfl)))]
   have HK := Lib.hid (hK (.pointer (some ⟨b, 1, none⟩)) w (hG.quiet 28 28 31 _ rfl (by kernel_rfl) (by kernel_rfl)))
   clear hx hc hv c0 c1 c2 c3 c4 c5 c6 c7 c8 c9 c10 c11 c12 c13
   clear hG hcl hdep hfr hK hLi
   go_simp
   exact HK.out
  | 29, ho =>
   obtain rfl := gdO29 ho
   have x31 := gdX (hG.val 28 28 31 _ rfl (hdep ⟨28, .data⟩ (by simp) rfl))
   rw [if_pos (gdT29 (hG.val 23 23 26 _ rfl (hdep ⟨23, .guard⟩ (by simp) rfl)))]
   obtain ⟨ph, hSp, hdone⟩ := hG.any
   have HK := Lib.hid (hK (.int .i64 m) w (hG.quiet 29 29 32 _ rfl (by kernel_rfl) (by kernel_rfl)))
   generalize (resOf gd14C fun t => a.eval (.tmp t)) = R at *
   obtain ⟨q0, q1, q2, q3, q4, q5, q6⟩ := hx _ _ _ hSp
   clear hx hc hv c0 c1 c2 c3 c4 c5 c6 c7 c8 c9 c10 c11 c12 c13 q0 q2 q3 q4 q5 q6
   clear hSp hdone
   clear hG hcl hdep hfr hK hLi
   go_simp
   exact HK.out
  | 30, ho =>
   obtain rfl := gdO30 ho
   have x30 := gdX (hG.val 27 27 30 _ rfl (hdep ⟨27, .data⟩ (by simp) rfl))
   have x32 := gdX (hG.val 29 29 32 _ rfl (hdep ⟨29, .data⟩ (by simp) rfl))
   rw [if_pos (gdT30 (hG.val 23 23 26 _ rfl (hdep ⟨23, .chain⟩ (by simp) rfl)))]
   have hSj := hG.at 0 (30, 33) rfl hLi (fun c h0 hc => absurd h0 (by decide))
   have hfin := fun v w' hs => hK v w' (hG.call 0 (30, 33) rfl hLi (fun c h0 hc => absurd h0 (by decide)) (by kernel_rfl) v w' hs)
   have HK := Lib.hid hfin
   generalize (resOf gd14C fun t => a.eval (.tmp t)) = R at *
   clear hG hcl hdep hfr hK hfin hLi
   have hcc := Lib.hid (hc _ _ hSj)
   clear hSj hx hc hv c0 c1 c2 c3 c4 c5 c6 c7 c8 c9 c10 c11 c12 c13
   go_simp
   go_at_call 37
   refine hcc.out.mono ?_
   rintro e w' ⟨v, rfl, hs⟩
   exact HK.out v w' hs
  | 31, ho =>
   obtain rfl := gdO31 ho
   have x28 := gdX (hG.val 25 25 28 _ rfl (hdep ⟨25, .data⟩ (by simp) rfl))
   rw [if_pos (gdT31 (hG.val 23 23 26 _ rfl (hdep ⟨23, .guard⟩ (by simp) rfl)))]
   obtain ⟨ph, hSp, hdone⟩ := hG.any
   have hd33 : 0 < ph := hdone 0 (30, 33) rfl (hdep ⟨30, .data⟩ (by simp) rfl)
   have r33 : a.tmps[33]?.getD undef = resOf gd14C (fun t => a.eval (.tmp t)) 0 := by rw [← ev]; exact (resOf_at (C := gd14C) (j := 0) rfl a).symm
   have HK := Lib.hid (hK (.bool true) w (hG.quiet 30 31 34 _ rfl (by kernel_rfl) (by kernel_rfl)))
   generalize (resOf gd14C fun t => a.eval (.tmp t)) = R at *
   rw [hv _ _ _ hSp hd33] at r33
   clear hd33
   clear hx hc hv c0 c1 c2 c3 c4 c6 c7 c8 c9 c10 c11 c12 c13
   clear hSp hdone
   clear hG hcl hdep hfr hK hLi
   go_simp
   exact HK.out
  | 32, ho =>
   obtain rfl := gdO32 ho
   have x26 := gdX (hG.val 23 23 26 _ rfl (hdep ⟨23, .data⟩ (by simp) rfl))
   have x34 := gdX (hG.val 30 31 34 _ rfl (hdep ⟨31, .data⟩ (by simp) rfl))
   rw [if_pos (show Region.wanted _ _ = true from rfl)]
   have HK := Lib.hid (hK (.bool true) w (hG.quiet 31 32 35 _ rfl (by kernel_rfl) (by kernel_rfl)))
   clear hG hcl hdep hfr hK hLi
   go_simp
   exact HK.out
  | 33, ho =>
   obtain rfl := gdO33 ho
   have x35 := gdX (hG.val 31 32 35 _ rfl (hdep ⟨32, .data⟩ (by simp) rfl))
   rw [if_pos (show Region.wanted _ _ = true from rfl)]
   have HK := Lib.hid (hK (.bool true) w (hG.quiet 32 33 36 _ rfl (by kernel_rfl) (by kernel_rfl)))
   clear hG hcl hdep hfr hK hLi
   go_simp
   exact HK.out
  | 34, ho =>
   obtain rfl := gdO34 ho
   rw [if_pos (gdT34 (hG.val 32 33 36 _ rfl (hdep ⟨33, .guard⟩ (by simp) rfl)))]
   have HK := Lib.hid (hK (.pointer (some ⟨b, 3, none⟩)) w (hG.quiet 33 34 37 _ rfl (by kernel_rfl) (by kernel_rfl)))
   clear hx hc hv c0 c1 c2 c3 c4 c5 c6 c7 c8 c9 c10 c11 c12 c13
   clear hG hcl hdep hfr hK hLi
   go_simp
   exact HK.out
  | 35, ho =>
   obtain rfl := gdO35 ho
   have x37 := gdX (hG.val 33 34 37 _ rfl (hdep ⟨34, .data⟩ (by simp) rfl))
   rw [if_pos (gdT35 (hG.val 32 33 36 _ rfl (hdep ⟨33, .guard⟩ (by simp) rfl)))]
   obtain ⟨ph, hSp, hdone⟩ := hG.any
   have HK := Lib.hid (hK (.int .i64 hh) w (hG.quiet 34 35 38 _ rfl (by kernel_rfl) (by kernel_rfl)))
   generalize (resOf gd14C fun t => a.eval (.tmp t)) = R at *
   obtain ⟨q0, q1, q2, q3, q4, q5, q6⟩ := hx _ _ _ hSp
   clear hx hc hv c0 c1 c2 c3 c4 c5 c6 c7 c8 c9 c10 c11 c12 c13 q0 q1 q2 q4 q5 q6
   clear hSp hdone
   clear hG hcl hdep hfr hK hLi
   go_simp
   exact HK.out
  | 36, ho =>
   obtain rfl := gdO36 ho
   have x38 := gdX (hG.val 34 35 38 _ rfl (hdep ⟨35, .data⟩ (by simp) rfl))
   rw [if_pos (gdT36 (hG.val 32 33 36 _ rfl (hdep ⟨33, .guard⟩ (by simp) rfl)))]
   have HK := Lib.hid (hK (.bool true) w (hG.quiet 35 36 39 _ rfl (by kernel_rfl) (by kernel_rfl)))
   clear hx hc hv c0 c1 c2 c3 c4 c5 c7 c8 c9 c10 c11 c12 c13
   clear hG hcl hdep hfr hK hLi
   go_simp
   exact HK.out
  | 37, ho =>
   obtain rfl := gdO37 ho
   have x36 := gdX (hG.val 32 33 36 _ rfl (hdep ⟨33, .data⟩ (by simp) rfl))
   have x39 := gdX (hG.val 35 36 39 _ rfl (hdep ⟨36, .data⟩ (by simp) rfl))
   rw [if_pos (show Region.wanted _ _ = true from rfl)]
   have HK := Lib.hid (hK (.bool true) w (hG.quiet 36 37 40 _ rfl (by kernel_rfl) (by kernel_rfl)))
   clear hG hcl hdep hfr hK hLi
   go_simp
   exact HK.out
  | 38, ho =>
   obtain rfl := gdO38 ho
   have x40 := gdX (hG.val 36 37 40 _ rfl (hdep ⟨37, .data⟩ (by simp) rfl))
   rw [if_pos (show Region.wanted _ _ = true from rfl)]
   have HK := Lib.hid (hK (.bool true) w (hG.quiet 37 38 41 _ rfl (by kernel_rfl) (by kernel_rfl)))
   clear hG hcl hdep hfr hK hLi
   go_simp
   exact HK.out
  | 39, ho =>
   obtain rfl := gdO39 ho
   rw [if_pos (gdT39 (hG.val 37 38 41 _ rfl (hdep ⟨38, .guard⟩ (by simp) rfl)))]
   have HK := Lib.hid (hK (.pointer (some ⟨b, 3, none⟩)) w (hG.quiet 38 39 42 _ rfl (by kernel_rfl) (by kernel_rfl)))
   clear hx hc hv c0 c1 c2 c3 c4 c5 c6 c7 c8 c9 c10 c11 c12 c13
   clear hG hcl hdep hfr hK hLi
   go_simp
   exact HK.out
  | 40, ho =>
   obtain rfl := gdO40 ho
   have x42 := gdX (hG.val 38 39 42 _ rfl (hdep ⟨39, .data⟩ (by simp) rfl))
   rw [if_pos (gdT40 (hG.val 37 38 41 _ rfl (hdep ⟨38, .guard⟩ (by simp) rfl)))]
   obtain ⟨ph, hSp, hdone⟩ := hG.any
   have HK := Lib.hid (hK (.int .i64 hh) w (hG.quiet 39 40 43 _ rfl (by kernel_rfl) (by kernel_rfl)))
   generalize (resOf gd14C fun t => a.eval (.tmp t)) = R at *
   obtain ⟨q0, q1, q2, q3, q4, q5, q6⟩ := hx _ _ _ hSp
   clear hx hc hv c0 c1 c2 c3 c4 c5 c6 c7 c8 c9 c10 c11 c12 c13 q0 q1 q2 q4 q5 q6
   clear hSp hdone
   clear hG hcl hdep hfr hK hLi
   go_simp
   exact HK.out
  | 41, ho =>
   obtain rfl := gdO41 ho
   have x43 := gdX (hG.val 39 40 43 _ rfl (hdep ⟨40, .data⟩ (by simp) rfl))
   rw [if_pos (gdT41 (hG.val 37 38 41 _ rfl (hdep ⟨38, .guard⟩ (by simp) rfl)))]
   have HK := Lib.hid (hK (.bool true) w (hG.quiet 40 41 44 _ rfl (by kernel_rfl) (by kernel_rfl)))
   clear hx hc hv c0 c1 c2 c3 c4 c5 c6 c8 c9 c10 c11 c12 c13
   clear hG hcl hdep hfr hK hLi
   go_simp
   exact HK.out
  | 42, ho =>
   obtain rfl := gdO42 ho
   have x41 := gdX (hG.val 37 38 41 _ rfl (hdep ⟨38, .data⟩ (by simp) rfl))
   have x44 := gdX (hG.val 40 41 44 _ rfl (hdep ⟨41, .data⟩ (by simp) rfl))
   rw [if_pos (show Region.wanted _ _ = true from rfl)]
   have HK := Lib.hid (hK (.bool true) w (hG.quiet 41 42 45 _ rfl (by kernel_rfl) (by kernel_rfl)))
   clear hG hcl hdep hfr hK hLi
   go_simp
   exact HK.out
  | 43, ho =>
   obtain rfl := gdO43 ho
   have x45 := gdX (hG.val 41 42 45 _ rfl (hdep ⟨42, .data⟩ (by simp) rfl))
   rw [if_pos (show Region.wanted _ _ = true from rfl)]
   have HK := Lib.hid (hK (.bool true) w (hG.quiet 42 43 46 _ rfl (by kernel_rfl) (by kernel_rfl)))
   clear hG hcl hdep hfr hK hLi
   go_simp
   exact HK.out
  | 44, ho =>
   obtain rfl := gdO44 ho
   rw [if_pos (gdT44 (hG.val 42 43 46 _ rfl (hdep ⟨43, .guard⟩ (by simp) rfl)))]
   have HK := Lib.hid (hK (.pointer (some ⟨b, 4, none⟩)) w (hG.quiet 43 44 47 _ rfl (by kernel_rfl) (by kernel_rfl)))
   clear hx hc hv c0 c1 c2 c3 c4 c5 c6 c7 c8 c9 c10 c11 c12 c13
   clear hG hcl hdep hfr hK hLi
   go_simp
   exact HK.out
  | 45, ho =>
   obtain rfl := gdO45 ho
   have x47 := gdX (hG.val 43 44 47 _ rfl (hdep ⟨44, .data⟩ (by simp) rfl))
   rw [if_pos (gdT45 (hG.val 42 43 46 _ rfl (hdep ⟨43, .guard⟩ (by simp) rfl)))]
   obtain ⟨ph, hSp, hdone⟩ := hG.any
   have HK := Lib.hid (hK (.int .i64 mi) w (hG.quiet 44 45 48 _ rfl (by kernel_rfl) (by kernel_rfl)))
   generalize (resOf gd14C fun t => a.eval (.tmp t)) = R at *
   obtain ⟨q0, q1, q2, q3, q4, q5, q6⟩ := hx _ _ _ hSp
   clear hx hc hv c0 c1 c2 c3 c4 c5 c6 c7 c8 c9 c10 c11 c12 c13 q0 q1 q2 q3 q5 q6
   clear hSp hdone
   clear hG hcl hdep hfr hK hLi
   go_simp
   exact HK.out
  | 46, ho =>
   obtain rfl := gdO46 ho
   have x48 := gdX (hG.val 44 45 48 _ rfl (hdep ⟨45, .data⟩ (by simp) rfl))
   rw [if_pos (gdT46 (hG.val 42 43 46 _ rfl (hdep ⟨43, .guard⟩ (by simp) rfl)))]
   have HK := Lib.hid (hK (.bool true) w (hG.quiet 45 46 49 _ rfl (by kernel_rfl) (by kernel_rfl)))
   clear hx hc hv c0 c1 c2 c3 c4 c5 c6 c7 c9 c10 c11 c12 c13
   clear hG hcl hdep hfr hK hLi
   go_simp
   exact HK.out
  | 47, ho =>
   obtain rfl := gdO47 ho
   have x46 := gdX (hG.val 42 43 46 _ rfl (hdep ⟨43, .data⟩ (by simp) rfl))
   have x49 := gdX (hG.val 45 46 49 _ rfl (hdep ⟨46, .data⟩ (by simp) rfl))
   rw [if_pos (show Region.wanted _ _ = true from rfl)]
   have HK := Lib.hid (hK (.bool true) w (hG.quiet 46 47 50 _ rfl (by kernel_rfl) (by kernel_rfl)))
   clear hG hcl hdep hfr hK hLi
   go_simp
   exact HK.out
  | 48, ho =>
   obtain rfl := gdO48 ho
   have x50 := gdX (hG.val 46 47 50 _ rfl (hdep ⟨47, .data⟩ (by simp) rfl))
   rw [if_pos (show Region.wanted _ _ = true from rfl)]
   have HK := Lib.hid (hK (.bool true) w (hG.quiet 47 48 51 _ rfl (by kernel_rfl) (by kernel_rfl)))
   clear hG hcl hdep hfr hK hLi
   go_simp
   exact HK.out
  | 49, ho =>
   obtain rfl := gdO49 ho
   rw [if_pos (gdT49 (hG.val 47 48 51 _ rfl (hdep ⟨48, .guard⟩ (by simp) rfl)))]
   have HK := Lib.hid (hK (.pointer (some ⟨b, 4, none⟩)) w (hG.quiet 48 49 52 _ rfl (by kernel_rfl) (by kernel_rfl)))
   clear hx hc hv c0 c1 c2 c3 c4 c5 c6 c7 c8 c9 c10 c11 c12 c13
   clear hG hcl hdep hfr hK hLi
   go_simp
   exact HK.out
  | 50, ho =>
   obtain rfl := gdO50 ho
   have x52 := gdX (hG.val 48 49 52 _ rfl (hdep ⟨49, .data⟩ (by simp) rfl))
   rw [if_pos (gdT50 (hG.val 47 48 51 _ rfl (hdep ⟨48, .guard⟩ (by simp) rfl)))]
   obtain ⟨ph, hSp, hdone⟩ := hG.any
   have HK := Lib.hid (hK (.int .i64 mi) w (hG.quiet 49 50 53 _ rfl (by kernel_rfl) (by kernel_rfl)))
   generalize (resOf gd14C fun t => a.eval (.tmp t)) = R at *
   obtain ⟨q0, q1, q2, q3, q4, q5, q6⟩ := hx _ _ _ hSp
   clear hx hc hv c0 c1 c2 c3 c4 c5 c6 c7 c8 c9 c10 c11 c12 c13 q0 q1 q2 q3 q5 q6
   clear hSp hdone
   clear hG hcl hdep hfr hK hLi
   go_simp
   exact HK.out
  | 51, ho =>
   obtain rfl := gdO51 ho
   have x53 := gdX (hG.val 49 50 53 _ rfl (hdep ⟨50, .data⟩ (by simp) rfl))
   rw [if_pos (gdT51 (hG.val 47 48 51 _ rfl (hdep ⟨48, .guard⟩ (by simp) rfl)))]
   have HK := Lib.hid (hK (.bool true) w (hG.quiet 50 51 54 _ rfl (by kernel_rfl) (by kernel_rfl)))
   clear hx hc hv c0 c1 c2 c3 c4 c5 c6 c7 c8 c10 c11 c12 c13
   clear hG hcl hdep hfr hK hLi
   go_simp
   exact HK.out
  | 52, ho =>
   obtain rfl := gdO52 ho
   have x51 := gdX (hG.val 47 48 51 _ rfl (hdep ⟨48, .data⟩ (by simp) rfl))
   have x54 := gdX (hG.val 50 51 54 _ rfl (hdep ⟨51, .data⟩ (by simp) rfl))
   rw [if_pos (show Region.wanted _ _ = true from rfl)]
   have HK := Lib.hid (hK (.bool true) w (hG.quiet 51 52 55 _ rfl (by kernel_rfl) (by kernel_rfl)))
   clear hG hcl hdep hfr hK hLi
   go_simp
   exact HK.out
  | 53, ho =>
   obtain rfl := gdO53 ho
   have x55 := gdX (hG.val 51 52 55 _ rfl (hdep ⟨52, .data⟩ (by simp) rfl))
   rw [if_pos (show Region.wanted _ _ = true from rfl)]
   have HK := Lib.hid (hK (.bool true) w (hG.quiet 52 53 56 _ rfl (by kernel_rfl) (by kernel_rfl)))
   clear hG hcl hdep hfr hK hLi
   go_simp
   exact HK.out
  | 54, ho =>
   obtain rfl := gdO54 ho
   rw [if_pos (gdT54 (hG.val 52 53 56 _ rfl (hdep ⟨53, .guard⟩ (by simp) rfl)))]
   have HK := Lib.hid (hK (.pointer (some ⟨b, 5, none⟩)) w (hG.quiet 53 54 57 _ rfl (by kernel_rfl) (by kernel_rfl)))
   clear hx hc hv c0 c1 c2 c3 c4 c5 c6 c7 c8 c9 c10 c11 c12 c13
   clear hG hcl hdep hfr hK hLi
   go_simp
   exact HK.out
  | 55, ho =>
   obtain rfl := gdO55 ho
   have x57 := gdX (hG.val 53 54 57 _ rfl (hdep ⟨54, .data⟩ (by simp) rfl))
   rw [if_pos (gdT55 (hG.val 52 53 56 _ rfl (hdep ⟨53, .guard⟩ (by simp) rfl)))]
   obtain ⟨ph, hSp, hdone⟩ := hG.any
   have HK := Lib.hid (hK (.int .i64 s) w (hG.quiet 54 55 58 _ rfl (by kernel_rfl) (by kernel_rfl)))
   generalize (resOf gd14C fun t => a.eval (.tmp t)) = R at *
   obtain ⟨q0, q1, q2, q3, q4, q5, q6⟩ := hx _ _ _ hSp
   clear hx hc hv c0 c1 c2 c3 c4 c5 c6 c7 c8 c9 c10 c11 c12 c13 q0 q1 q2 q3 q4 q6
   clear hSp hdone
   clear hG hcl hdep hfr hK hLi
   go_simp
   exact HK.out
  | 56, ho =>
   obtain rfl := gdO56 ho
   have x58 := gdX (hG.val 54 55 58 _ rfl (hdep ⟨55, .data⟩ (by simp) rfl))
   rw [if_pos (gdT56 (hG.val 52 53 56 _ rfl (hdep ⟨53, .guard⟩ (by simp) rfl)))]
   have HK := Lib.hid (hK (.bool true) w (hG.quiet 55 56 59 _ rfl (by kernel_rfl) (by kernel_rfl)))
   clear hx hc hv c0 c1 c2 c3 c4 c5 c6 c7 c8 c9 c11 c12 c13
   clear hG hcl hdep hfr hK hLi
   go_simp
   exact HK.out
  | 57, ho =>
   obtain rfl := gdO57 ho
   have x56 := gdX (hG.val 52 53 56 _ rfl (hdep ⟨53, .data⟩ (by simp) rfl))
   have x59 := gdX (hG.val 55 56 59 _ rfl (hdep ⟨56, .data⟩ (by simp) rfl))
   rw [if_pos (show Region.wanted _ _ = true from rfl)]
   have HK := Lib.hid (hK (.bool true) w (hG.quiet 56 57 60 _ rfl (by kernel_rfl) (by kernel_rfl)))
   clear hG hcl hdep hfr hK hLi
   go_simp
   exact HK.out
  | 58, ho =>
   obtain rfl := gdO58 ho
   have x60 := gdX (hG.val 56 57 60 _ rfl (hdep ⟨57, .data⟩ (by simp) rfl))
   rw [if_pos (show Region.wanted _ _ = true from rfl)]
   have HK := Lib.hid (hK (.bool true) w (hG.quiet 57 58 61 _ rfl (by kernel_rfl) (by kernel_rfl)))
   clear hG hcl hdep hfr hK hLi
   go_simp
   exact HK.out
  | 59, ho =>
   obtain rfl := gdO59 ho
   rw [if_pos (gdT59 (hG.val 57 58 61 _ rfl (hdep ⟨58, .guard⟩ (by simp) rfl)))]
   have HK := Lib.hid (hK (.pointer (some ⟨b, 5, none⟩)) w (hG.quiet 58 59 62 _ rfl (by kernel_rfl) (by kernel_rfl)))
   clear hx hc hv c0 c1 c2 c3 c4 c5 c6 c7 c8 c9 c10 c11 c12 c13
   clear hG hcl hdep hfr hK hLi
   go_simp
   exact HK.out
  | 60, ho =>
   obtain rfl := gdO60 ho
   have x62 := gdX (hG.val 58 59 62 _ rfl (hdep ⟨59, .data⟩ (by simp) rfl))
   rw [if_pos (gdT60 (hG.val 57 58 61 _ rfl (hdep ⟨58, .guard⟩ (by simp) rfl)))]
   obtain ⟨ph, hSp, hdone⟩ := hG.any
   have HK := Lib.hid (hK (.int .i64 s) w (hG.quiet 59 60 63 _ rfl (by kernel_rfl) (by kernel_rfl)))
   generalize (resOf gd14C fun t => a.eval (.tmp t)) = R at *
   obtain ⟨q0, q1, q2, q3, q4, q5, q6⟩ := hx _ _ _ hSp
   clear hx hc hv c0 c1 c2 c3 c4 c5 c6 c7 c8 c9 c10 c11 c12 c13 q0 q1 q2 q3 q4 q6
   clear hSp hdone
   clear hG hcl hdep hfr hK hLi
   go_simp
   exact HK.out
  | 61, ho =>
   obtain rfl := gdO61 ho
   have x63 := gdX (hG.val 59 60 63 _ rfl (hdep ⟨60, .data⟩ (by simp) rfl))
   rw [if_pos (gdT61 (hG.val 57 58 61 _ rfl (hdep ⟨58, .guard⟩ (by simp) rfl)))]
   have HK := Lib.hid (hK (.bool true) w (hG.quiet 60 61 64 _ rfl (by kernel_rfl) (by kernel_rfl)))
   clear hx hc hv c0 c1 c2 c3 c4 c5 c6 c7 c8 c9 c10 c12 c13
   clear hG hcl hdep hfr hK hLi
   go_simp
   exact HK.out
  | 62, ho =>
   obtain rfl := gdO62 ho
   have x61 := gdX (hG.val 57 58 61 _ rfl (hdep ⟨58, .data⟩ (by simp) rfl))
   have x64 := gdX (hG.val 60 61 64 _ rfl (hdep ⟨61, .data⟩ (by simp) rfl))
   rw [if_pos (show Region.wanted _ _ = true from rfl)]
   have HK := Lib.hid (hK (.bool true) w (hG.quiet 61 62 65 _ rfl (by kernel_rfl) (by kernel_rfl)))
   clear hG hcl hdep hfr hK hLi
   go_simp
   exact HK.out
  | 63, ho =>
   obtain rfl := gdO63 ho
   have x65 := gdX (hG.val 61 62 65 _ rfl (hdep ⟨62, .data⟩ (by simp) rfl))
   rw [if_pos (show Region.wanted _ _ = true from rfl)]
   have HK := Lib.hid (hK (.bool true) w (hG.quiet 62 63 66 _ rfl (by kernel_rfl) (by kernel_rfl)))
   clear hG hcl hdep hfr hK hLi
   go_simp
   exact HK.out
  | 64, ho =>
   obtain rfl := gdO64 ho
   rw [if_pos (gdT64 (hG.val 62 63 66 _ rfl (hdep ⟨63, .guard⟩ (by simp) rfl)))]
   have HK := Lib.hid (hK (.pointer (some ⟨b, 6, none⟩)) w (hG.quiet 63 64 67 _ rfl (by kernel_rfl) (by kernel_rfl)))
   clear hx hc hv c0 c1 c2 c3 c4 c5 c6 c7 c8 c9 c10 c11 c12 c13
   clear hG hcl hdep hfr hK hLi
   go_simp
   exact HK.out
  | 65, ho =>
   obtain rfl := gdO65 ho
   have x67 := gdX (hG.val 63 64 67 _ rfl (hdep ⟨64, .data⟩ (by simp) rfl))
   rw [if_pos (gdT65 (hG.val 62 63 66 _ rfl (hdep ⟨63, .guard⟩ (by simp) rfl)))]
   obtain ⟨ph, hSp, hdone⟩ := hG.any
   have HK := Lib.hid (hK (.int .i64 z) w (hG.quiet 64 65 68 _ rfl (by kernel_rfl) (by kernel_rfl)))
   generalize (resOf gd14C fun t => a.eval (.tmp t)) = R at *
   obtain ⟨q0, q1, q2, q3, q4, q5, q6⟩ := hx _ _ _ hSp
   clear hx hc hv c0 c1 c2 c3 c4 c5 c6 c7 c8 c9 c10 c11 c12 c13 q0 q1 q2 q3 q4 q5
   clear hSp hdone
   clear hG hcl hdep hfr hK hLi
   go_simp
   exact HK.out
  | 66, ho =>
   obtain rfl := gdO66 ho
   have x68 := gdX (hG.val 64 65 68 _ rfl (hdep ⟨65, .data⟩ (by simp) rfl))
   rw [if_pos (gdT66 (hG.val 62 63 66 _ rfl (hdep ⟨63, .guard⟩ (by simp) rfl)))]
   have HK := Lib.hid (hK (.bool true) w (hG.quiet 65 66 69 _ rfl (by kernel_rfl) (by kernel_rfl)))
   clear hx hc hv c0 c1 c2 c3 c4 c5 c6 c7 c8 c9 c10 c11 c13
   clear hG hcl hdep hfr hK hLi
   go_simp
   exact HK.out
  | 67, ho =>
   obtain rfl := gdO67 ho
   have x66 := gdX (hG.val 62 63 66 _ rfl (hdep ⟨63, .data⟩ (by simp) rfl))
   have x69 := gdX (hG.val 65 66 69 _ rfl (hdep ⟨66, .data⟩ (by simp) rfl))
   rw [if_pos (show Region.wanted _ _ = true from rfl)]
   have HK := Lib.hid (hK (.bool true) w (hG.quiet 66 67 70 _ rfl (by kernel_rfl) (by kernel_rfl)))
   clear hG hcl hdep hfr hK hLi
   go_simp
   exact HK.out
  | 68, ho =>
   obtain rfl := gdO68 ho
   have x70 := gdX (hG.val 66 67 70 _ rfl (hdep ⟨67, .data⟩ (by simp) rfl))
   rw [if_pos (show Region.wanted _ _ = true from rfl)]
   have HK := Lib.hid (hK (.bool true) w (hG.quiet 67 68 71 _ rfl (by kernel_rfl) (by kernel_rfl)))
   clear hG hcl hdep hfr hK hLi
   go_simp
   exact HK.out
  | 69, ho =>
   obtain rfl := gdO69 ho
   rw [if_pos (gdT69 (hG.val 67 68 71 _ rfl (hdep ⟨68, .guard⟩ (by simp) rfl)))]
   have HK := Lib.hid (hK (.pointer (some ⟨b, 6, none⟩)) w (hG.quiet 68 69 72 _ rfl (by kernel_rfl) (by kernel_rfl)))
   clear hx hc hv c0 c1 c2 c3 c4 c5 c6 c7 c8 c9 c10 c11 c12 c13
   clear hG hcl hdep hfr hK hLi
   go_simp
   exact HK.out
  | 70, ho =>
   obtain rfl := gdO70 ho
   have x72 := gdX (hG.val 68 69 72 _ rfl (hdep ⟨69, .data⟩ (by simp) rfl))
   rw [if_pos (gdT70 (hG.val 67 68 71 _ rfl (hdep ⟨68, .guard⟩ (by simp) rfl)))]
   obtain ⟨ph, hSp, hdone⟩ := hG.any
   have HK := Lib.hid (hK (.int .i64 z) w (hG.quiet 69 70 73 _ rfl (by kernel_rfl) (by kernel_rfl)))
   generalize (resOf gd14C fun t => a.eval (.tmp t)) = R at *
   obtain ⟨q0, q1, q2, q3, q4, q5, q6⟩ := hx _ _ _ hSp
   clear hx hc hv c0 c1 c2 c3 c4 c5 c6 c7 c8 c9 c10 c11 c12 c13 q0 q1 q2 q3 q4 q5
   clear hSp hdone
   clear hG hcl hdep hfr hK hLi
   go_simp
   exact HK.out
  | 71, ho =>
   obtain rfl := gdO71 ho
   have x73 := gdX (hG.val 69 70 73 _ rfl (hdep ⟨70, .data⟩ (by simp) rfl))
   rw [if_pos (gdT71 (hG.val 67 68 71 _ rfl (hdep ⟨68, .guard⟩ (by simp) rfl)))]
   have HK := Lib.hid (hK (.bool true) w (hG.quiet 70 71 74 _ rfl (by kernel_rfl) (by kernel_rfl)))
   clear hx hc hv c0 c1 c2 c3 c4 c5 c6 c7 c8 c9 c10 c11 c12
   clear hG hcl hdep hfr hK hLi
   go_simp
   exact HK.out
  | 72, ho =>
   obtain rfl := gdO72 ho
   have x71 := gdX (hG.val 67 68 71 _ rfl (hdep ⟨68, .data⟩ (by simp) rfl))
   have x74 := gdX (hG.val 70 71 74 _ rfl (hdep ⟨71, .data⟩ (by simp) rfl))
   rw [if_pos (show Region.wanted _ _ = true from rfl)]
   have HK := Lib.hid (hK (.bool true) w (hG.quiet 71 72 75 _ rfl (by kernel_rfl) (by kernel_rfl)))
   clear hG hcl hdep hfr hK hLi
   go_simp
   exact HK.out
  | 73, ho =>
   obtain rfl := gdO73 ho
   have x75 := gdX (hG.val 71 72 75 _ rfl (hdep ⟨72, .data⟩ (by simp) rfl))
   rw [if_pos (show Region.wanted _ _ = true from rfl)]
   have HK := Lib.hid (hK (.bool true) w (hG.quiet 72 73 2 _ rfl (by kernel_rfl) (by kernel_rfl)))
   clear hG hcl hdep hfr hK hLi
   go_simp
   exact HK.out
  | n + 74, ho => exact absurd (Array.getElem?_eq_some_iff.1 ho).1 (by show ¬ n + 74 < 74; omega)
end Go.Proofs.YtgkibkophoikoaaDoor
