/- The walk of OctetKnown. -/
import Derived.Test.YtmdbfjfdkgdmnaaDoorOctSaysW
namespace Go.Proofs.YtmdbfjfdkgdmnaaDoor
open Go.RowKit

set_option maxHeartbeats 1600000 in
set_option maxRecDepth 1000000 in
theorem octetKnown_walk (w : World) (hm : ∃ m, w.cell? ⟨0, 0, none⟩ = some (.int .i64 m)) (htab : Lib.TabIs Tryd.prog w "internal/strconv.uint64pow10" .u64 Lib.pow10Tab) :
    Calls Tryd.prog 3 #[] w fun e w' => e = .returned (.bool true) ∧ Below w.heap.size w w' := by
  obtain ⟨m, hm⟩ := hm
  have HM := Lib.hid hm
  have HT := Lib.hid htab
  have hmg := World.block_lt_of_cell? w _ hm
  clear hm htab
  have hkc := fun (w : World) (C : Array Value) (n c : Nat) => Lib.run_convert_bytes_const (P := Tryd.prog) w 30 5 C n c Tryd.underlying30 Tryd.underlying5
  go_enter Tryd.func3, Tryd.ntmps3
  go_wp2_with fail
  refine (awake_any _).mono ?_
  rintro e w1 ⟨rfl, hb1⟩
  go_wp2_with fail
  refine (quote_no ⟨#[97, 13]⟩ _ (by decide) (by decide)).mono ?_
  rintro e w2 ⟨rfl, hb2⟩
  go_wp2_with fail
  refine (unquote_ok ⟨#[]⟩ ⟨#[]⟩ 0 3 _ (by decide) (by decide)).mono ?_
  rintro e w3 ⟨rfl, hb3⟩
  go_wp2_with fail
  refine (unquote_ok ⟨#[34, 97]⟩ ⟨#[]⟩ 0 8 _ (by decide) (by decide)).mono ?_
  rintro e w4 ⟨rfl, hb4⟩
  go_wp2_with fail
  refine (unquote_ok ⟨#[34, 97, 92]⟩ ⟨#[]⟩ 0 8 _ (by decide) (by decide)).mono ?_
  rintro e w5 ⟨rfl, hb5⟩
  go_wp2_with fail
  refine (unquote_ok ⟨#[34, 97, 92, 98, 34]⟩ ⟨#[]⟩ 0 3 _ (by decide) (by decide)).mono ?_
  rintro e w6 ⟨rfl, hb6⟩
  go_wp2_with fail
  refine (unquote_ok ⟨#[34, 128, 34]⟩ ⟨#[]⟩ 0 3 _ (by decide) (by decide)).mono ?_
  rintro e w7 ⟨rfl, hb7⟩
  have z1 := hb1.size
  have z2 := hb2.size
  have z3 := hb3.size
  have z4 := hb4.size
  have z5 := hb5.size
  have z6 := hb6.size
  have z7 := hb7.size
  have hb07 : Below w.heap.size w w7 := hb1.trans ((hb2.mono (by omega)).trans ((hb3.mono (by omega)).trans ((hb4.mono (by omega)).trans ((hb5.mono (by omega)).trans ((hb6.mono (by omega)).trans (hb7.mono (by omega)))))))
  clear hb1 hb2 hb3 hb4 hb5 hb6 hb7 z1 z2 z3 z4 z5 z6 z7
  go_wp2_with fail
  have hs8 : Sees (w7.alloc (.cells #[.int .u8 97, .int .u8 13, .int .u8 10, .int .u8 13, .int .u8 10, .int .u8 98, .int .u8 13, .int .u8 99, .int .u8 10] 5 (9, 10))) (w7.heap.size + 1) (some ⟨w7.heap.size, 0, none⟩) [97, 13, 10, 13, 10, 98, 13, 99, 10] := Sees.newMark _ _ _ _ _ rfl
  have hb08 : Below w.heap.size w (w7.alloc (.cells #[.int .u8 97, .int .u8 13, .int .u8 10, .int .u8 13, .int .u8 10, .int .u8 98, .int .u8 13, .int .u8 99, .int .u8 10] 5 (9, 10))) := hb07.alloc hb07.size _
  have hm8 := (hb08.cell (p := ⟨0, 0, none⟩) hmg).trans HM.out
  refine (lines_views (some ⟨w7.heap.size, 0, none⟩) 9 [97, 13, 10, 13, 10, 98, 13, 99, 10] m _ (by simpa using hs8) (by decide) (by decide) hm8 (by decide)).mono ?_
  rintro e w9 ⟨v9, vs, rfl, hown, hviews, hb9⟩
  rw [show Oct.lines [97, 13, 10, 13, 10, 98, 13, 99, 10] = [[97, 13, 10], [13, 10], [98, 13, 99, 10]] from by decide] at hown hviews
  obtain ⟨g, cp, rfl, _, hgl, _, _⟩ := own_form hown (by decide)
  have hvl := hviews.1
  match vs, hvl, hown, hviews with
  | [v0, v1, v2], _, hown, hviews =>
    obtain ⟨A0, d0, rfl, _, _, s0⟩ := hviews.2 0 _ _ rfl rfl
    obtain ⟨A1, d1, rfl, _, _, s1⟩ := hviews.2 1 _ _ rfl rfl
    obtain ⟨A2, d2, rfl, _, _, s2⟩ := hviews.2 2 _ _ rfl rfl
    have c0 := hown.cells (g := g) rfl 0 _ rfl
    have c1 := hown.cells (g := g) rfl 1 _ rfl
    have c2 := hown.cells (g := g) rfl 2 _ rfl
    rw [add_to] at c0 c1 c2
    have k0 := run_sees_string (P := Tryd.prog) w9 30 9 5 Tryd.underlying30 Tryd.underlying5 Tryd.underlying9 s0 3 d0 rfl
    have k1 := run_sees_string (P := Tryd.prog) w9 30 9 5 Tryd.underlying30 Tryd.underlying5 Tryd.underlying9 s1 2 d1 rfl
    have k2 := run_sees_string (P := Tryd.prog) w9 30 9 5 Tryd.underlying30 Tryd.underlying5 Tryd.underlying9 s2 4 d2 rfl
    have hb09 : Below w.heap.size w w9 := hb08.trans (hb9.mono hb08.size)
    clear hown hviews s0 s1 s2 hb9 hb08 hs8 hm8 hkc
    go_wp2_with fail
    refine (num_ok ⟨#[48, 48, 49, 50]⟩ 12 true _ (by decide) (numVal_yes _ (by decide))).mono ?_
    rintro e w10 ⟨rfl, rfl⟩
    go_wp2_with fail
    refine (num_ok ⟨#[49, 50, 51, 52, 53, 54, 55, 56, 57, 48, 49]⟩ 0 false _ (by decide) (numVal_no _ (by decide))).mono ?_
    rintro e w10 ⟨rfl, rfl⟩
    go_wp2_with fail
    have hgl : Tryd.prog.globalNamed "internal/strconv.uint64pow10" = some 1 := by kernel_rfl
    have HG := Lib.hid hgl
    clear hgl
    refine (nstring_any ⟨#[]⟩ ⟨#[34, 34]⟩ _ (by decide) (by decide) (tab_below HT.out hb09 HG.out)).mono ?_
    rintro e w11 ⟨rfl, hb11⟩
    have hb011 : Below w.heap.size w w11 := hb09.trans (hb11.mono hb09.size)
    go_wp2_with fail
    refine (nstring_any ⟨#[97, 10]⟩ ⟨#[123, 50, 125, 13, 10, 97, 10]⟩ _ (by decide) (by unfold Oct.nstring; rw [if_neg (by decide)]; unfold Oct.lit; rw [show Lib.decDigits ([97, 10] : List UInt8).length = [50] from Lib.decDigits_one (by decide)]; rfl) (tab_below HT.out hb011 HG.out)).mono ?_
    rintro e w12 ⟨rfl, hb12⟩
    have hb012 : Below w.heap.size w w12 := hb011.trans (hb12.mono hb011.size)
    go_wp2_with fail
    refine (atom_any ⟨#[]⟩ false (by decide) _ (by decide)).mono ?_
    rintro e w13 ⟨rfl, rfl⟩
    go_wp2_with fail
    refine (atom_any ⟨#[97, 93]⟩ false (by decide) _ (by decide)).mono ?_
    rintro e w13 ⟨rfl, rfl⟩
    go_wp2_with fail
    refine (atom_any ⟨#[97, 32, 98]⟩ false (by decide) _ (by decide)).mono ?_
    rintro e w13 ⟨rfl, rfl⟩
    go_wp2_with fail
    refine (atom_any ⟨#[97, 91, 98, 125]⟩ true (by decide) _ (by decide)).mono ?_
    rintro e w13 ⟨rfl, rfl⟩
    go_wp2_with fail
    refine (same_ok ⟨#[73, 78, 66, 79, 88]⟩ ⟨#[105, 110, 66, 111, 120]⟩ true _ (by decide) (by decide) (by decide)).mono ?_
    rintro e w14 ⟨rfl, hb14⟩
    have hb014 : Below w.heap.size w w14 := hb012.trans (hb14.mono hb012.size)
    go_wp2_with fail
    have hm14 := (hb014.cell (p := ⟨0, 0, none⟩) hmg).trans HM.out
    refine (lines_views none 0 [] m _ (Sees.nil _ _ _) (by decide) (by decide) hm14 (by decide)).mono ?_
    rintro e w15 ⟨v15, vs15, rfl, hown15, _, hb15⟩
    obtain ⟨A15, c15, rfl, _, _⟩ := own_shape hown15
    clear hown15 hm14
    go_wp2
    go_ret
    exact ⟨rfl, hb014.trans (hb15.mono hb014.size)⟩
end Go.Proofs.YtmdbfjfdkgdmnaaDoor
