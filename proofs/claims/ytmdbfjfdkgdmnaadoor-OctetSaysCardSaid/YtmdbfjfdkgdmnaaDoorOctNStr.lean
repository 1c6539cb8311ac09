/- NString, package octet's and the reference's. -/
import Derived.Test.YtmdbfjfdkgdmnaaDoorOctAwake
import Derived.Test.YtmdbfjfdkgdmnaaDoorRefU
import Derived.Test.YtmdbfjfdkgdmnaaDoorRefD
import Derived.Test.YtmdbfjfdkgdmnaaDoorShelf
import Derived.Lib.LaidTab
import Derived.WalkSmall
namespace Go.Proofs.YtmdbfjfdkgdmnaaDoor
open Go.RowKit
open Go.Sort (grow)

namespace Oct
def lit (l : List UInt8) : List UInt8 := 123 :: Lib.decDigits l.length ++ [125, 13, 10] ++ l
def nstring (l : List UInt8) : List UInt8 := if quotable l then quoted l else lit l
end Oct

theorem below_grow {B : Nat} (w : World) (os : Array Obj) (h : B ≤ w.heap.size) : Below B w (grow w os) :=
  ⟨rfl, rfl, rfl, by simp [grow], fun k hk => by
    show (w.heap ++ os)[k]? = _
    rw [Array.getElem?_append_left (by omega)]⟩
theorem tab_below {P : Program} {w w' : World} {n : String} {k : IntKind} {z : Int} {zs : List Int} {g : Nat} (h : Lib.TabIs P w n k (z :: zs)) (hb : Below w.heap.size w w') (hg : P.globalNamed n = some g) : Lib.TabIs P w' n k (z :: zs) :=
  var?_below hb hg (World.block_lt_of_cell? w _ (h.cell hg 0 (by simp))) h

theorem rquote_ok (s : ByteArray) (q : ByteArray) (w : World) (h : s.size ≤ 8192) (hq : Oct.quotable s.data.toList = true) (he : q = ⟨(Oct.quoted s.data.toList).toArray⟩) :
    Calls Tryd.prog 13 #[.string s] w fun e w' => e = .returned (.tuple #[.string q, .bool true]) ∧ Below w.heap.size w w' := by
  subst he
  refine (rquote_short s w h).mono ?_
  rintro e w' ⟨he, hb⟩
  rw [hq] at he
  exact ⟨he, hb⟩
theorem rquote_no (s : ByteArray) (w : World) (hs : s.size ≤ maxLen) (hq : Oct.quotable s.data.toList = false) :
    Calls Tryd.prog 13 #[.string s] w fun e w' => e = .returned (.tuple #[.string ⟨#[]⟩, .bool false]) ∧ Below w.heap.size w w' := by
  by_cases h : s.size ≤ 8192
  · refine (rquote_short s w h).mono ?_
    rintro e w' ⟨he, hb⟩
    rw [hq] at he
    exact ⟨he, hb⟩
  · exact rquote_long s w hs (by omega)

theorem quotable_size (s : ByteArray) (h : Oct.quotable s.data.toList = true) : s.size ≤ 8192 := by
  have : s.data.toList.length ≤ 8192 := by
    simp [Oct.quotable] at h; simpa using h.1
  exact this

theorem lit_str (s : ByteArray) (D : List UInt8) (hD : Lib.decDigits s.size = D) : (⟨(Oct.lit s.data.toList).toArray⟩ : ByteArray) = ⟨#[123]⟩ ++ ⟨D.toArray⟩ ++ ⟨#[125]⟩ ++ ⟨#[13, 10]⟩ ++ s := by
  subst hD
  have hl : s.data.toList.length = s.size := rfl
  apply ByteArray.ext
  unfold Oct.lit
  rw [hl]
  simp [ByteArray.data_append]
theorem lit_str3 (s : ByteArray) (D : List UInt8) (hD : Lib.decDigits s.size = D) : (⟨(Oct.lit s.data.toList).toArray⟩ : ByteArray) = ⟨#[123]⟩ ++ ⟨D.toArray⟩ ++ ⟨#[125, 13, 10]⟩ ++ s := by
  subst hD
  have hl : s.data.toList.length = s.size := rfl
  apply ByteArray.ext
  unfold Oct.lit
  rw [hl]
  simp [ByteArray.data_append]

set_option maxHeartbeats 800000 in
theorem nstring_any (s q : ByteArray) (w : World) (hs : s.size ≤ 1000000) (hq : q = ⟨(Oct.nstring s.data.toList).toArray⟩) (htab : Lib.TabIs Tryd.prog w "internal/strconv.uint64pow10" .u64 Lib.pow10Tab) :
    Calls Tryd.prog 10 #[.string s] w fun e w' => e = .returned (.string q) ∧ Below w.heap.size w w' := by
  cases hqu : Oct.quotable s.data.toList with
  | true =>
    have hq' : q = ⟨(Oct.quoted s.data.toList).toArray⟩ := by rw [hq]; unfold Oct.nstring; rw [if_pos hqu]
    have hsz := quotable_size s hqu
    have HQ := Lib.hid hqu
    have HE := Lib.hid hq'
    clear hqu hq' hq htab
    go_enter Tryd.func10, Tryd.ntmps10
    go_wp2_with fail
    refine (quote_ok s q _ hsz HQ.out HE.out).mono ?_
    rintro e w1 ⟨rfl, hb1⟩
    go_wp2
    go_ret
    exact ⟨rfl, hb1⟩
  | false =>
    have hgl : Tryd.prog.globalNamed "internal/strconv.uint64pow10" = some 1 := by kernel_rfl
    have hito : Lib.itoa (s.size : Int) = Lib.decDigits s.size := by unfold Lib.itoa; rw [if_neg (by omega)]; simp
    have hlen := decDigits_le s.size
    obtain ⟨D, hD⟩ : ∃ D, Lib.decDigits s.size = D := ⟨_, rfl⟩
    have hq' : q = ⟨#[123]⟩ ++ ⟨D.toArray⟩ ++ ⟨#[125]⟩ ++ ⟨#[13, 10]⟩ ++ s := by
      rw [hq]; unfold Oct.nstring; rw [if_neg (by rw [hqu]; decide)]; exact lit_str s D hD
    rw [hD] at hito hlen
    have HQ := Lib.hid hqu
    have HE := Lib.hid hq'
    have HI := Lib.hid hito
    have HT := Lib.hid htab
    have HG := Lib.hid hgl
    clear hqu hq' hq hito hD htab hgl
    go_enter Tryd.func10, Tryd.ntmps10
    go_wp2_with fail
    refine (quote_no s _ (by unfold maxLen; omega) HQ.out).mono ?_
    rintro e w1 ⟨rfl, hb1⟩
    go_wp2_with fail
    refine (Tryd.strconv_Itoa (s.size : Int) (by omega) (by omega) w1 (tab_below HT.out hb1 HG.out)).mono ?_
    rintro e w2 ⟨rfl, k, os, rfl⟩
    rw [HI.out]
    go_wp2
    go_ret
    exact ⟨by rw [HE.out]; rfl, hb1.trans ((((Below.refl _ _) : Below w.heap.size w1 w1).trans (below_drewN (Below.refl _ _) k)).trans (below_grow _ os hb1.size))⟩

set_option maxHeartbeats 800000 in
theorem rnstring_any (s q : ByteArray) (w : World) (hs : s.size ≤ 1000000) (hq : q = ⟨(Oct.nstring s.data.toList).toArray⟩) :
    Calls Tryd.prog 21 #[.string s] w fun e w' => e = .returned (.string q) ∧ Below w.heap.size w w' := by
  cases hqu : Oct.quotable s.data.toList with
  | true =>
    have hq' : q = ⟨(Oct.quoted s.data.toList).toArray⟩ := by rw [hq]; unfold Oct.nstring; rw [if_pos hqu]
    have hsz := quotable_size s hqu
    have HQ := Lib.hid hqu
    have HE := Lib.hid hq'
    clear hqu hq' hq
    go_enter Tryd.func21, Tryd.ntmps21
    go_wp2_with fail
    refine (rquote_ok s q _ hsz HQ.out HE.out).mono ?_
    rintro e w1 ⟨rfl, hb1⟩
    go_wp2
    go_ret
    exact ⟨rfl, hb1⟩
  | false =>
    have hlen := decDigits_le s.size
    obtain ⟨D, hD⟩ : ∃ D, Lib.decDigits s.size = D := ⟨_, rfl⟩
    have hq' : q = ⟨#[123]⟩ ++ ⟨D.toArray⟩ ++ ⟨#[125, 13, 10]⟩ ++ s := by
      rw [hq]; unfold Oct.nstring; rw [if_neg (by rw [hqu]; decide)]; exact lit_str3 s D hD
    rw [hD] at hlen
    have HQ := Lib.hid hqu
    have HE := Lib.hid hq'
    have HD := Lib.hid hD
    clear hqu hq' hq hD
    go_enter Tryd.func21, Tryd.ntmps21
    go_wp2_with fail
    refine (rquote_no s _ (by unfold maxLen; omega) HQ.out).mono ?_
    rintro e w1 ⟨rfl, hb1⟩
    go_wp2_with fail
    refine (digits_any s.size (by omega) w1).mono ?_
    rintro e w2 ⟨rfl, hb2⟩
    rw [HD.out]
    go_wp2
    go_ret
    exact ⟨by rw [HE.out]; rfl, hb1.trans (hb2.mono hb1.size)⟩
end Go.Proofs.YtmdbfjfdkgdmnaaDoor
