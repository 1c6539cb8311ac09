/- The reference's Lines: pieces of the slice that came in. -/
import Derived.Test.YtmdbfjfdkgdmnaaDoorRefB
import Derived.Test.YtmdbfjfdkgdmnaaDoorOctLines
namespace Go.Proofs.YtmdbfjfdkgdmnaaDoor
open Go.RowKit

def ViewsEnd (ls : List (List UInt8)) (w : World) (e : Ending) (w' : World) : Prop :=
  ∃ v vs, e = .returned v ∧ w'.ownsRow w.heap.size 30 1 v ls.length vs ∧ Views w' w'.heap.size vs ls ∧ Below w.heap.size w w'

/-- What the loop has: the lines that are done, and where it stands. -/
def LinesAt (l : List UInt8) (done : List (List UInt8)) (f k : Nat) : Prop :=
  f ≤ k ∧ k ≤ l.length ∧ done.length ≤ f ∧ done ++ Oct.sc ((l.drop f).take (k - f)) (l.drop k) = Oct.lines l
theorem LinesAt.start (l : List UInt8) : LinesAt l [] 0 0 := ⟨Nat.le_refl _, Nat.zero_le _, Nat.le_refl _, by simp [Oct.sc_nil]⟩
theorem LinesAt.hit {l : List UInt8} {done : List (List UInt8)} {f k : Nat} (h : LinesAt l done f k) (hk : k + 1 < l.length) (h13 : l[k] = 13) (h10 : l[k + 1] = 10) : LinesAt l (done ++ [(l.drop f).take (k + 2 - f)]) (k + 2) (k + 2) := by
  obtain ⟨h1, h2, h3, h4⟩ := h
  have e1 : l.drop k = 13 :: 10 :: l.drop (k + 2) := by
    rw [List.drop_eq_getElem_cons (by omega : k < l.length), List.drop_eq_getElem_cons hk, h13, h10]
  have e2 : (l.drop f).take (k + 2 - f) = (l.drop f).take (k - f) ++ [13, 10] := by
    have e3 : k + 2 - f = (k - f) + 2 := by omega
    rw [e3, List.take_add, List.drop_drop]
    have e4 : f + (k - f) = k := by omega
    rw [e4, e1]; rfl
  refine ⟨Nat.le_refl _, by omega, by simp; omega, ?_⟩
  rw [← h4, e1, e2]
  simp [Oct.sc]
theorem LinesAt.miss {l : List UInt8} {done : List (List UInt8)} {f k : Nat} (h : LinesAt l done f k) (hk : k + 1 < l.length) (hn : ¬ (l[k] = 13 ∧ l[k + 1] = 10)) : LinesAt l done f (k + 1) := by
  obtain ⟨h1, h2, h3, h4⟩ := h
  have e1 : l.drop k = l[k] :: l[k + 1] :: l.drop (k + 2) := by
    rw [List.drop_eq_getElem_cons (by omega : k < l.length), List.drop_eq_getElem_cons hk]
  have e1' : l.drop (k + 1) = l[k + 1] :: l.drop (k + 2) := by rw [List.drop_eq_getElem_cons hk]
  have e2 : (l.drop f).take (k + 1 - f) = (l.drop f).take (k - f) ++ [l[k]] := by
    have e3 : k + 1 - f = (k - f) + 1 := by omega
    rw [e3, List.take_add, List.drop_drop]
    have e4 : f + (k - f) = k := by omega
    rw [e4, e1]; rfl
  refine ⟨by omega, by omega, h3, ?_⟩
  rw [← h4, e1, e1', e2]
  simp only [Oct.sc, hn, if_false]
theorem LinesAt.rest {l : List UInt8} {done : List (List UInt8)} {f k : Nat} (h : LinesAt l done f k) (hk : ¬ k + 1 < l.length) (hf : f < l.length) : done ++ [l.drop f] = Oct.lines l := by
  obtain ⟨h1, h2, h3, h4⟩ := h
  rw [← h4]
  congr 1
  by_cases he : k = l.length
  · subst he
    have e1 : (l.drop f).take (l.length - f) = l.drop f := List.take_of_length_le (by simp)
    have e2 : l.drop f ≠ [] := by
      intro h; have := congrArg List.length h; simp at this; omega
    rw [e1, List.drop_length]
    simp [Oct.sc, e2]
  · have e1 : l.drop k = [l[k]] := by
      rw [List.drop_eq_getElem_cons (by omega : k < l.length), List.drop_of_length_le (by omega)]
    rw [e1]
    show [l.drop f] = [(l.drop f).take (k - f) ++ [l[k]]]
    rw [← e1, show l.drop k = (l.drop f).drop (k - f) from by rw [List.drop_drop]; congr 1; omega, List.take_append_drop]
theorem LinesAt.done {l : List UInt8} {done : List (List UInt8)} {f k : Nat} (h : LinesAt l done f k) (hf : ¬ f < l.length) : done = Oct.lines l := by
  obtain ⟨h1, h2, h3, h4⟩ := h
  have e1 : l.drop k = [] := List.drop_of_length_le (by omega)
  have e2 : l.drop f = [] := List.drop_of_length_le (by omega)
  rw [← h4, e1, e2]
  simp [Oct.sc]

set_option maxHeartbeats 1600000 in
set_option maxRecDepth 100000 in
theorem rlines_any (A : Option Addr) (c : Nat) (l : List UInt8) (w : World) (h : Sees w w.heap.size A l) (hc : l.length ≤ c) (hl : l.length ≤ 1000000) (hcm : c ≤ maxLen) :
    Calls Tryd.prog 16 #[.slice A l.length c] w (ViewsEnd (Oct.lines l) w) := by
  obtain ⟨i0, hi, hz0, hz1, hz2⟩ := info_parts Tryd.infoBytes
  have hcm' := hcm
  unfold maxLen at hcm'
  have HCM := Lib.hid hcm
  clear hcm
  go_enter Tryd.func16, Tryd.ntmps16
  go_wp2
  go_loopw [3, 4, 5] (fun v fr i wr => ∃ (k f : Nat) (done : List (List UInt8)) (vs : List Value), fr = .int .i64 f ∧ i = .int .i64 k ∧ LinesAt l done f k ∧
      wr.ownsRow w.heap.size 30 1 v done.length vs ∧ Views wr w.heap.size vs done ∧ Below w.heap.size w wr)
    (fun _ _ i _ => l.length - (intOf i).toNat)
  case atStart => exact ⟨0, 0, [], [], rfl, rfl, LinesAt.start l, World.ownsRow_nil _ _ _ _, Views.nil _ _, Below.refl _ _⟩
  case round =>
    obtain ⟨k, f, done, vs, rfl, rfl, hat, hown, hviews, hb⟩ := hrel
    have hfk := hat.1
    have hkl := hat.2.1
    have hdf := hat.2.2.1
    have hwz := hb.size
    by_cases hlt : k + 1 < l.length
    · obtain ⟨g, o, rfl, hg, hcell⟩ := h (by intro e0; simp [e0] at hlt)
      have c0 : wr.cell? ⟨g, o + k, none⟩ = some (.int .u8 (l[k].toNat : Int)) := (hb.cell (p := ⟨g, o + k, none⟩) hg).trans (hcell k (by omega))
      have c1 : wr.cell? ⟨g, o + (k + 1), none⟩ = some (.int .u8 (l[k + 1].toNat : Int)) := (hb.cell (p := ⟨g, o + (k + 1), none⟩) hg).trans (hcell (k + 1) hlt)
      have hlt' : (k : Int) + 1 < (l.length : Int) := by omega
      by_cases h13 : l[k] = 13
      · have b13 : ((l[k].toNat : Int) == 13) = true := by rw [h13]; rfl
        by_cases h10 : l[k + 1] = 10
        · have b10 : ((l[k + 1].toNat : Int) == 10) = true := by rw [h10]; rfl
          have hnext := hat.hit hlt h13 h10
          obtain ⟨A', hmid, hsm⟩ := run_mid (P := Tryd.prog) Tryd.underlying30 Tryd.sizeByte (A := some ⟨g, o, none⟩) l.length c f (k + 2) (by omega) (by omega) hc ((k : Int) + 2) (by omega)
          have hv := hviews.snoc (A := A') (n := k + 2 - f) (c := c - f) (l := (l.drop f).take (k + 2 - f)) (by rw [List.length_take, List.length_drop]; omega) (by omega) (by have := HCM.out; omega) (hsm wr w.heap.size l rfl (h.below hb (Nat.le_refl _)))
          have HN := Lib.hid hnext
          have HV := Lib.hid hv
          clear hnext hat h13 h10 hsm hv hviews h hcell
          go_wp2_with (at_builtin; refine wpList_append_one_g rfl _ _ 28 rfl w.heap.size 30 i0 (.slice none 0 0) 24 Tryd.underlying28 hi hz0 hz1 hz2 rfl wr (.slice A' (k + 2 - f) (c - f)) rfl 1 _ _ _ rfl (by exact hown) rfl ?c1 ?c2 ?c3 ?_)
          case c1 => omega
          case c2 => unfold maxLen; omega
          case c3 => omega
          intro v' w' hown' hgr hb'
          clear c0 c1 hown hgr
          go_wp2
          go_roundw
          case rel => exact ⟨k + 2, k + 2, done ++ [(l.drop f).take (k + 2 - f)], _, by go_num, by go_num, HN.out, by rw [List.length_append]; exact hown', HV.out.below hb' (Nat.le_refl _), hb.trans hb'⟩
          case measure => simp [intOf]; omega
        · have b10 : ((l[k + 1].toNat : Int) == 10) = false := by
            rw [beq_eq_false_iff_ne]; intro e; apply h10; apply UInt8.toNat_inj.1; show _ = 10; omega
          have HN := Lib.hid (hat.miss hlt (fun e => h10 e.2))
          clear hat h13 h10
          go_wp2
          go_roundw
          case rel => exact ⟨k + 1, f, done, vs, rfl, by go_num, HN.out, hown, hviews, hb⟩
          case measure => simp [intOf]; omega
      · have b13 : ((l[k].toNat : Int) == 13) = false := by
          rw [beq_eq_false_iff_ne]; intro e; apply h13; apply UInt8.toNat_inj.1; show _ = 13; omega
        have HN := Lib.hid (hat.miss hlt (fun e => h13 e.1))
        clear hat h13
        go_wp2
        go_roundw
        case rel => exact ⟨k + 1, f, done, vs, rfl, by go_num, HN.out, hown, hviews, hb⟩
        case measure => simp [intOf]; omega
    · have hlt' : ¬ (k : Int) + 1 < (l.length : Int) := by omega
      by_cases hf : f < l.length
      · have hdone := hat.rest hlt hf
        obtain ⟨A', htail, hst⟩ := run_tail (P := Tryd.prog) Tryd.underlying30 Tryd.sizeByte (h.below hb (Nat.le_refl _)) l.length c f rfl (by omega) hc
        have hv := hviews.snoc (A := A') (n := l.length - f) (c := c - f) (l := l.drop f) (by rw [List.length_drop]) (by omega) (by have := HCM.out; omega) hst
        have HV := Lib.hid hv
        have HD := Lib.hid hdone
        clear hat hdone hst hv hviews h
        go_wp2_with (at_builtin; refine wpList_append_one_g rfl _ _ 28 rfl w.heap.size 30 i0 (.slice none 0 0) 24 Tryd.underlying28 hi hz0 hz1 hz2 rfl wr (.slice A' (l.length - f) (c - f)) rfl 1 _ _ _ rfl (by exact hown) rfl ?k1 ?k2 ?k3 ?_)
        case k1 => omega
        case k2 => unfold maxLen; omega
        intro v' w' hown' hgr hb'
        clear hown hgr
        go_wp2
        go_ret
        have ho2 : w'.ownsRow w.heap.size 30 1 v' (Oct.lines l).length (vs ++ [.slice A' (l.length - f) (c - f)]) := by
          rw [show (Oct.lines l).length = done.length + 1 from by rw [← HD.out, List.length_append]; rfl]
          exact hown'
        have hv2 : Views w' w'.heap.size (vs ++ [.slice A' (l.length - f) (c - f)]) (Oct.lines l) := by
          have := (HV.out.below hb' (Nat.le_refl _)).mono (hb.trans hb').size
          rw [HD.out] at this
          exact this
        exact ⟨v', _, rfl, ho2, hv2, hb.trans hb'⟩
      · have hdone := hat.done hf
        subst hdone
        clear hat
        go_wp2
        go_ret
        exact ⟨_, vs, rfl, hown, hviews.mono hb.size, hb⟩

theorem lines_views (A : Option Addr) (c : Nat) (l : List UInt8) (m : Int) (w : World) (h : Sees w w.heap.size A l) (hc : l.length ≤ c) (hl : l.length < 4294967281) (hm : w.cell? ⟨0, 0, none⟩ = some (.int .i64 m)) (hcm : c ≤ maxLen) :
    Calls Tryd.prog 8 #[.slice A l.length c] w (ViewsEnd (Oct.lines l) w) := by
  refine (lines_any A c l m w h hc hl hm hcm).mono ?_
  rintro e w' ⟨v, vs, he, ho, hp, hb⟩
  exact ⟨v, vs, he, ho, hp.views, hb⟩

end Go.Proofs.YtmdbfjfdkgdmnaaDoor
