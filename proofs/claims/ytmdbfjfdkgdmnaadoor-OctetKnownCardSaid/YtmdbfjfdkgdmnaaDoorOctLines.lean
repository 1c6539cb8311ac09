/- The walks of package octet's lineLen and Lines. -/
import Derived.Test.YtmdbfjfdkgdmnaaDoorOctQuote2
import Derived.Test.YtmdbfjfdkgdmnaaDoorSees
import Derived.Test.YtmdbfjfdkgdmnaaDoorShelf
import Derived.Lib.SlBytesConst
namespace Go.Proofs.YtmdbfjfdkgdmnaaDoor
open Go.RowKit

theorem Tryd.infoBytes : (Tryd.prog.info? 30).map (fun i => (i.zero, i.size, i.bytes)) = some (some (.slice none 0 0), 1, 24) := by kernel_rfl
theorem Tryd.sizeByte : ∀ w, (Go.sizeOf 5).run Tryd.prog w = .ok 1 w := fun _ => by kernel_rfl

theorem bytesOf_nums (l : List UInt8) : Lib.bytesOf (l.map fun b => (b.toNat : Int)) = l := by
  unfold Lib.bytesOf
  rw [List.map_map]
  conv => rhs; rw [← List.map_id l]
  apply List.map_congr_left
  intro b _
  simp
theorem nums_at (l : List UInt8) (j : Nat) (h : j < l.length) : (l.map fun b => (b.toNat : Int)).getD j 0 = (l[j].toNat : Int) := by
  simp [List.getD, List.getElem?_eq_getElem h]

set_option maxHeartbeats 800000 in
theorem lineLen_any (A : Option Addr) (c : Nat) (l : List UInt8) (m : Int) (w : World) (h : Sees w w.heap.size A l) (hne : l ≠ []) (hc : l.length ≤ c) (hl : l.length < 4294967281) (hm : w.cell? ⟨0, 0, none⟩ = some (.int .i64 m)) :
    Calls Tryd.prog 24 #[.slice A l.length c] w fun e w' => e = .returned (.int .i64 (Oct.ll l : Int)) ∧ Below w.heap.size w w' := by
  obtain ⟨g, o, rfl, hg, hcell⟩ := h hne
  have hix := Tryd.bytes_Index_at ⟨g, o, none⟩ ⟨w.heap.size, 0, none⟩ l.length c 2 2 (l.map fun b => (b.toNat : Int)) [13, 10] m (w.alloc (.cells #[.int .u8 13, .int .u8 10] 5 (2, 3))) (by simp) rfl
    (by intro x hx; simp at hx; obtain ⟨b, _, rfl⟩ := hx; have := b.toNat_lt; omega) (by intro y hy; simp at hy; rcases hy with rfl | rfl <;> decide)
    (by intro i hi; rw [add_to, World.cell?_alloc_past _ _ _ hg, hcell i hi, nums_at l i hi])
    (by intro i hi; rw [add_to, World.cell?_alloc_mark]; match i, hi with | 0, _ => rfl | 1, _ => rfl)
    hc hl (by omega) (by rw [World.cell?_alloc_past]; exact hm; exact World.block_lt_of_cell? w _ hm)
  rw [bytesOf_nums, show Lib.bytesOf [13, 10] = Oct.crlf from rfl] at hix
  have hll := Oct.ll_eq l
  unfold Oct.lineLen at hll
  have hge := Lib.index_ge l Oct.crlf
  have hkc := fun (w : World) (C : Array Value) (n c : Nat) => Lib.run_convert_bytes_const (P := Tryd.prog) w 30 5 C n c Tryd.underlying30 Tryd.underlying5
  generalize hq : Lib.index l Oct.crlf = q at hix hll hge
  have hlen : (Oct.ll l) ≤ l.length := Oct.ll_le l
  have HI := Lib.hid hix
  clear hix hq hcell hm hne h
  by_cases hneg : q < 0
  · rw [if_pos hneg] at hll
    rw [← hll]
    clear hll hlen
    go_enter Tryd.func24, Tryd.ntmps24
    go_wp2_with (go_at_call 31; refine HI.out.mono ?_; rintro e w' ⟨rfl, n, rfl⟩)
    go_ret
    exact ⟨rfl, below_drewN ((Below.refl _ _).alloc (Nat.le_refl _) _) _⟩
  · rw [if_neg hneg] at hll
    have hq2 : (Oct.ll l : Int) = q + 2 := by omega
    have hqb : q ≤ 9223372036854775800 := by omega
    rw [hq2]
    clear hll hq2 hlen
    go_enter Tryd.func24, Tryd.ntmps24
    go_wp2_with (go_at_call 31; refine HI.out.mono ?_; rintro e w' ⟨rfl, n, rfl⟩)
    go_ret
    exact ⟨rfl, below_drewN ((Below.refl _ _).alloc (Nat.le_refl _) _) _⟩

theorem clone_any (A : Option Addr) (n c : Nat) (l : List UInt8) (hn : n = l.length) (w : World) (h : Sees w w.heap.size A l) (hne : l ≠ []) (hl : l.length ≤ 140737488355328) :
    Calls Tryd.prog 25 #[.slice A n c] w fun e w' => ∃ g cap, e = .returned (.slice (some ⟨g, 0, none⟩) n cap) ∧ w'.ownsRow w.heap.size 5 1 (.slice (some ⟨g, 0, none⟩) n cap) l.length (bv l) ∧ Below w.heap.size w w' := by
  subst hn
  obtain ⟨g, o, rfl, hg, hcell⟩ := h hne
  refine (Tryd.bytes_Clone_at ⟨g, o, none⟩ l.length c (l.map fun b => (b.toNat : Int)) w (by simp) hl (by intro i hi; rw [add_to, hcell i hi, nums_at l i hi])).mono ?_
  rintro e w' ⟨v, rfl, hown, _, hb⟩
  have e1 : (l.map fun b => (b.toNat : Int)).map (Value.int .u8) = bv l := by rw [List.map_map]; rfl
  rw [e1] at hown
  have hpos : 0 < l.length := List.length_pos_iff.2 hne
  rcases id hown.2 with ⟨_, h0⟩ | ⟨g', cap, cur, rfl, _⟩
  · omega
  · exact ⟨g', cap, rfl, hown, hb⟩

def LinesEnd (l : List UInt8) (w : World) (e : Ending) (w' : World) : Prop :=
  ∃ v vs, e = .returned v ∧ w'.ownsRow w.heap.size 30 1 v (Oct.lines l).length vs ∧ Parts w' w.heap.size 5 vs (Oct.lines l) ∧ Below w.heap.size w w'

theorem lines_le (l : List UInt8) : (Oct.lines l).length ≤ l.length := by
  have key : ∀ (n : Nat) (l : List UInt8), l.length ≤ n → (Oct.lines l).length ≤ l.length := by
    intro n
    induction n with
    | zero => intro l hl; have : l = [] := List.eq_nil_of_length_eq_zero (by omega); subst this; simp [Oct.lines]
    | succ n ih =>
      intro l hl
      by_cases h : l = []
      · subst h; simp [Oct.lines]
      · have hp := Oct.ll_pos l h
        have hle := Oct.ll_le l
        have := ih (l.drop (Oct.ll l)) (by simp; omega)
        rw [Oct.lines_cons l h]
        simp at this ⊢; omega
  exact key _ l (Nat.le_refl _)

set_option maxHeartbeats 800000 in
set_option maxRecDepth 100000 in
theorem lines_any (A : Option Addr) (c : Nat) (l : List UInt8) (m : Int) (w : World) (h : Sees w w.heap.size A l) (hc : l.length ≤ c) (hl : l.length < 4294967281) (hm : w.cell? ⟨0, 0, none⟩ = some (.int .i64 m)) (hcm : c ≤ maxLen) :
    Calls Tryd.prog 8 #[.slice A l.length c] w (LinesEnd l w) := by
  obtain ⟨i0, hi, hz0, hz1, hz2⟩ := info_parts Tryd.infoBytes
  have hmg := World.block_lt_of_cell? w _ hm
  have hLle := lines_le l
  unfold maxLen at hcm
  go_enter Tryd.func8, Tryd.ntmps8
  go_wp2
  go_loopw [0, 3] (fun b v wr => ∃ (A' : Option Addr) (c' : Nat) (r : List UInt8) (done : List (List UInt8)) (vs : List Value), b = .slice A' r.length c' ∧ r.length ≤ c' ∧ c' ≤ c ∧ r.length ≤ l.length ∧ Sees wr w.heap.size A' r ∧ Hid (done ++ Oct.lines r = Oct.lines l) ∧
      wr.ownsRow w.heap.size 30 1 v done.length vs ∧ Parts wr w.heap.size 5 vs done ∧ Below w.heap.size w wr)
    (fun b _ _ => match b with | .slice _ n _ => n | _ => 0)
  case atStart => exact ⟨A, c, l, [], [], rfl, hc, Nat.le_refl _, Nat.le_refl _, h, rfl, World.ownsRow_nil _ _ _ _, Parts.nil _ _ _, Below.refl _ _⟩
  case round =>
    obtain ⟨A', c', r, done, vs, rfl, hrc, hcc, hrl, hs, HD, hown, hparts, hb⟩ := hrel
    have hwz := hb.size
    by_cases hpos : 0 < r.length
    · have hrne : r ≠ [] := List.length_pos_iff.1 hpos
      have hmr : wr.cell? ⟨0, 0, none⟩ = some (.int .i64 m) := (hb.cell (p := ⟨0, 0, none⟩) hmg).trans hm
      have hll := Oct.ll_pos r hrne
      have hlr := Oct.ll_le r
      obtain ⟨Ah, hhead, hsh⟩ := run_head (P := Tryd.prog) Tryd.underlying30 Tryd.sizeByte A' r.length c' (Oct.ll r) (by omega)
      obtain ⟨At, htail, hst⟩ := run_tail (P := Tryd.prog) Tryd.underlying30 Tryd.sizeByte hs r.length c' (Oct.ll r) rfl hlr hrc
      have hcnt : done.length + 1 ≤ (Oct.lines l).length := by
        rw [← HD.out, List.length_append]
        have := Oct.lines_cons r hrne
        rw [this]; simp
      have HM := Lib.hid hmr
      clear hmr hm
      go_wp2_with fail
      refine (lineLen_any A' c' r m wr (hs.mono hwz) hrne hrc (by omega) HM.out).mono ?_
      rintro e w1 ⟨rfl, hb1⟩
      have htk : (r.take (Oct.ll r)).length = Oct.ll r := by rw [List.length_take]; omega
      have hnt : r.take (Oct.ll r) ≠ [] := by
        apply List.length_pos_iff.1; omega
      have hs1 : Sees w1 w1.heap.size Ah (r.take (Oct.ll r)) := ((hsh _ _ _ (hs.take _)).below hb1 hwz).mono (Nat.le_trans hwz hb1.size)
      have HTK := Lib.hid htk
      have HD2 : Hid ((done ++ [r.take (Oct.ll r)]) ++ Oct.lines (r.drop (Oct.ll r)) = Oct.lines l) := by
        have := HD.out
        rw [Oct.lines_cons r hrne] at this
        show _ = _
        rw [← this]; simp
      clear htk HD
      go_wp2_with fail
      refine (clone_any Ah (Oct.ll r) c' (r.take (Oct.ll r)) HTK.out.symm w1 hs1 hnt (by rw [HTK.out]; omega)).mono ?_
      rintro e w2 ⟨g2, cap2, rfl, hown2, hb2⟩
      have hs1z := hb1.size
      have hs2z := hb2.size
      have hbb : Below wr.heap.size wr w2 := hb1.trans (hb2.mono hs1z)
      have hownL := own_below hown hbb (Nat.le_refl _)
      have hpartsL := hparts.below hbb
      clear hown hparts
      go_wp2_with (at_builtin; go_loud (refine wpList_append_one_g rfl _ _ 28 rfl w.heap.size 30 i0 (.slice none 0 0) 24 Tryd.underlying28 hi hz0 hz1 hz2 rfl w2 (.slice (some ⟨g2, 0, none⟩) (Oct.ll r) cap2) rfl 1 _ _ _ rfl (by exact hownL) rfl ?c1 ?c2 ?c3 ?_))
      case c1 => omega
      case c2 => unfold maxLen; omega
      case c3 => omega
      intro v' w' hown' hgr hb'
      have hp2 : Parts (w2.alloc (.cells #[.slice (some ⟨g2, 0, none⟩) (Oct.ll r) cap2] 30)) w.heap.size 5 (vs ++ [.slice (some ⟨g2, 0, none⟩) (Oct.ll r) cap2]) (done ++ [r.take (Oct.ll r)]) :=
        ((hpartsL.snoc (own_base hown2 (by omega))).below ((Below.refl _ _).alloc (Nat.le_refl _) _))
      have hp3 := hp2.grown (hownL.alloc _) hgr (by decide)
      have hbT : Below w.heap.size w w' := (hb.trans (hbb.mono hwz)).trans hb'
      have hsT : Sees w' w.heap.size At (r.drop (Oct.ll r)) := (hst.below (hbb.mono hwz) (Nat.le_refl _)).below hb' (Nat.le_refl _)
      have hlen : (r.drop (Oct.ll r)).length = r.length - Oct.ll r := List.length_drop ..
      have HL := Lib.hid hlen
      clear hlen hp2 hownL hpartsL hown2 hgr hs hs1 hst hsh
      go_wp2
      go_roundw
      case rel =>
        refine ⟨At, c' - Oct.ll r, r.drop (Oct.ll r), done ++ [r.take (Oct.ll r)], _, ?_, by rw [HL.out]; omega, by omega, by rw [HL.out]; omega, hsT, HD2, by rw [List.length_append]; exact hown', hp3, hbT⟩
        rw [HL.out]; try rfl
      case measure => simp; omega
    · have hr0 : r = [] := List.eq_nil_of_length_eq_zero (by omega)
      subst hr0
      have hdone : done = Oct.lines l := by
        have := HD.out
        simpa [Oct.lines] using this
      subst hdone
      clear hs HD hrl hrc
      go_wp2
      go_ret
      exact ⟨_, vs, rfl, hown, hparts, hb⟩
end Go.Proofs.YtmdbfjfdkgdmnaaDoor
