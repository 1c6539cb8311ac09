/- The walks of package octet's Fold and Same. -/
import Derived.Test.YtmdbfjfdkgdmnaaDoorOctQuote2
import Derived.Test.YtmdbfjfdkgdmnaaDoorSees
namespace Go.Proofs.YtmdbfjfdkgdmnaaDoor
open Go.RowKit

/-- Row g: the bytes l, none frozen, whatever lies behind them. -/
def ByteRow (w : World) (g : Nat) (e : TypeId) (l : List UInt8) : Prop :=
  ∃ C : Array Value, w.heap[g]? = some (.cells C e (C.size, C.size + 1)) ∧ l.length ≤ C.size ∧ ∀ j (h : j < l.length), C[j]? = some (.int .u8 (l[j].toNat : Int))

theorem ByteRow.cell {w : World} {g : Nat} {e : TypeId} {l : List UInt8} (h : ByteRow w g e l) (j : Nat) (hj : j < l.length) : w.cell? ⟨g, j, none⟩ = some (.int .u8 (l[j].toNat : Int)) := by
  obtain ⟨C, hC, _, hc⟩ := h
  simp [World.cell?, hC, hc j hj]
theorem ByteRow.frozen {w : World} {g : Nat} {e : TypeId} {l : List UInt8} (h : ByteRow w g e l) (j : Nat) (hj : j < l.length) : w.frozen? ⟨g, j, none⟩ = false := by
  obtain ⟨C, hC, hs, hc⟩ := h
  simp [World.frozen?, hC]; omega
theorem ByteRow.lt {w : World} {g : Nat} {e : TypeId} {l : List UInt8} (h : ByteRow w g e l) : g < w.heap.size := by
  obtain ⟨C, hC, _⟩ := h
  exact (Array.getElem?_eq_some_iff.1 hC).1
theorem ByteRow.store {w : World} {g : Nat} {e : TypeId} {l : List UInt8} (h : ByteRow w g e l) (j : Nat) (b : UInt8) : ByteRow (w.setCell ⟨g, j, none⟩ (.int .u8 (b.toNat : Int))) g e (l.set j b) := by
  obtain ⟨C, hC, hs, hc⟩ := h
  refine ⟨C.setIfInBounds j (.int .u8 (b.toNat : Int)), ?_, by simpa using hs, ?_⟩
  · simp [World.setCell, Array.getElem?_modify, hC]
  · intro i hi
    have hi' : i < l.length := by simpa using hi
    by_cases he : j = i
    · subst he
      have hlt : j < C.size := by omega
      simp [hlt]
    · rw [Array.getElem?_setIfInBounds_ne he, hc i hi']
      simp [he]
theorem ByteRow.drewN {w : World} {g : Nat} {e : TypeId} {l : List UInt8} (h : ByteRow w g e l) (q : Nat) : ByteRow (w.drewN q) g e l := h

theorem ByteRow.sees {w : World} {g : Nat} {e : TypeId} {l : List UInt8} (h : ByteRow w g e l) : Sees w (g + 1) (some ⟨g, 0, none⟩) l := fun _ =>
  ⟨g, 0, rfl, by omega, fun j hj => by rw [Nat.zero_add]; exact h.cell j hj⟩
theorem run_bytes_row {P : Program} (w : World) (src dst e : TypeId) (s : ByteArray) (hs : P.underlying src = some .string) (hd : P.underlying dst = some (.slice e)) (he : P.underlying e = some (.int .u8)) :
    ∃ cap w', (convert src dst (.string s)).run P w = .ok (.slice (some ⟨w.heap.size, 0, none⟩) s.size cap) w' ∧ ByteRow w' w.heap.size e s.data.toList ∧ Below w.heap.size w w' ∧ w'.heap.size = w.heap.size + 1 ∧ s.size ≤ cap ∧ (s.size ≤ maxLen → cap ≤ maxLen) := by
  refine ⟨_, _, run_bytes_of_string w src dst e s hs hd he, ⟨bytesRow s (grownCap w s.size 0 e), ?_, ?_, ?_⟩, ?_, ?_, grownCap_ge w s.size 0 e, grownCap_le_maxLen w s.size 0 e⟩
  · show (w.heap.push _)[w.heap.size]? = _
    simp
  · simp [bytesRow]
  · intro j hj
    exact bytesRow_at s _ j (by simpa using hj)
  · exact (Below.refl _ _).drew.alloc (Nat.le_refl _) _
  · simp

theorem add_at (g j : Nat) : (⟨g, 0, none⟩ : Addr).add j = ⟨g, j, none⟩ := by
  unfold Addr.add; by_cases h : j = 0 <;> simp [h]

def foldTo (l : List UInt8) (k : Nat) : List UInt8 := Oct.fold (l.take k) ++ l.drop k
theorem foldTo_length (l : List UInt8) (k : Nat) : (foldTo l k).length = l.length := by simp [foldTo, Oct.fold]; omega
theorem foldTo_at (l : List UInt8) (k : Nat) (h : k < l.length) : (foldTo l k)[k]'(by rw [foldTo_length]; exact h) = l[k] := by
  simp [foldTo, Oct.fold, List.getElem_append]
  have : min k l.length = k := by omega
  simp [this]
theorem fold_snoc (l : List UInt8) (b : UInt8) : Oct.fold (l ++ [b]) = Oct.fold l ++ [Oct.foldB b] := by
  simp only [Oct.fold, List.map_append, List.map_cons, List.map_nil]
theorem foldTo_next (l : List UInt8) (k : Nat) (h : k < l.length) : foldTo l (k + 1) = Oct.fold (l.take k) ++ Oct.foldB l[k] :: l.drop (k + 1) := by
  unfold foldTo
  rw [Oct.take_snoc l k h, fold_snoc, List.append_assoc]; rfl
theorem foldTo_step (l : List UInt8) (k : Nat) (h : k < l.length) : (foldTo l k).set k (Oct.foldB l[k]) = foldTo l (k + 1) := by
  rw [foldTo_next l k h]
  unfold foldTo
  have h1 : (Oct.fold (l.take k)).length = k := by rw [Oct.fold_length, List.length_take]; omega
  rw [List.set_append_right _ _ (by omega), h1, Nat.sub_self, List.drop_eq_getElem_cons h, List.set_cons_zero]
theorem foldTo_skip (l : List UInt8) (k : Nat) (h : k < l.length) (he : Oct.foldB l[k] = l[k]) : foldTo l k = foldTo l (k + 1) := by
  rw [foldTo_next l k h, he, ← List.drop_eq_getElem_cons h]; rfl
theorem foldTo_all (l : List UInt8) : foldTo l l.length = Oct.fold l := by simp [foldTo]

set_option maxHeartbeats 800000 in
set_option maxRecDepth 100000 in
theorem fold_any (s : ByteArray) (w : World) (hs : s.size ≤ maxLen) :
    Calls Tryd.prog 17 #[.string s] w fun e w' => e = .returned (.string ⟨(Oct.fold s.data.toList).toArray⟩) ∧ Below w.heap.size w w' := by
  unfold maxLen at hs
  obtain ⟨cap, w1, hrun, hrow, hbel, hz, _, _⟩ := run_bytes_row (P := Tryd.prog) w 9 30 5 s Tryd.underlying9 Tryd.underlying30 Tryd.underlying5
  have hrow0 : ByteRow w1 w.heap.size 5 (foldTo s.data.toList 0) := by simpa [foldTo, Oct.fold] using hrow
  have HR := Lib.hid hrow0
  clear hrow hrow0
  go_enter Tryd.func17, Tryd.ntmps17
  go_wp2
  go_loopw [10] (fun i wr => ∃ k : Nat, k ≤ s.size ∧ i = .int .i64 k ∧ ByteRow wr w.heap.size 5 (foldTo s.data.toList k) ∧ Below w.heap.size w wr) (fun i _ => s.size - (intOf i).toNat)
  case atStart => exact ⟨0, Nat.zero_le _, rfl, HR.out, hbel⟩
  case round =>
    obtain ⟨k, hk, rfl, hr, hb⟩ := hrel
    clear HR hrun hz
    by_cases hlt : k < s.size
    · have hlt' : k < s.data.toList.length := by simpa using hlt
      have hsk : s.data.toList[k] = s[k] := rfl
      have hc := hr.cell k (by rw [foldTo_length]; exact hlt')
      rw [foldTo_at _ _ hlt', hsk] at hc
      have hf := hr.frozen k (by rw [foldTo_length]; exact hlt')
      by_cases hA : 65 ≤ (s[k].toNat : Int) ∧ (s[k].toNat : Int) ≤ 90
      · obtain ⟨h1, h2⟩ := hA
        go_wp2
        go_roundw
        case rel =>
          refine ⟨k + 1, by omega, by go_num, ?_, hb.setCell (Nat.le_refl _) _⟩
          have hb' : Oct.foldB s[k] = s[k] + 32 := by unfold Oct.foldB; rw [if_pos (by omega)]
          have e : ((s[k] + 32).toNat : Int) = (s[k].toNat : Int) + 32 := by
            rw [UInt8.toNat_add]
            have : (32 : UInt8).toNat = 32 := rfl
            omega
          have h := hr.store k (Oct.foldB s[k])
          rw [show Oct.foldB s[k] = Oct.foldB s.data.toList[k] from by rw [hsk], foldTo_step _ _ hlt', hsk, hb', e] at h
          rw [show (s[k].toNat : Int) - 65 + 97 = (s[k].toNat : Int) + 32 from by omega]
          exact h
        case measure => simp [intOf]; omega
      · have hsame : Oct.foldB s.data.toList[k] = s.data.toList[k] := by rw [hsk]; unfold Oct.foldB; rw [if_neg (by omega)]
        have hnext : ByteRow wr w.heap.size 5 (foldTo s.data.toList (k + 1)) := by rw [← foldTo_skip _ _ hlt' hsame]; exact hr
        by_cases h1 : 65 ≤ (s[k].toNat : Int)
        · have h2 : ¬ (s[k].toNat : Int) ≤ 90 := by omega
          go_wp2
          go_roundw
          case rel => exact ⟨k + 1, by omega, by go_num, hnext, hb⟩
          case measure => simp [intOf]; omega
        · go_wp2
          go_roundw
          case rel => exact ⟨k + 1, by omega, by go_num, hnext, hb⟩
          case measure => simp [intOf]; omega
    · obtain rfl : k = s.size := by omega
      have e : foldTo s.data.toList s.size = Oct.fold s.data.toList := foldTo_all s.data.toList
      rw [e] at hr
      have hlen : (Oct.fold s.data.toList).length = s.size := by rw [Oct.fold_length]; rfl
      have hconv := run_convert_bytes_back (P := Tryd.prog) wr 30 9 5 ⟨w.heap.size, 0, none⟩ cap (Oct.fold s.data.toList) Tryd.underlying30 Tryd.underlying5 Tryd.underlying9 (fun j hj => by
        rw [add_at]; exact hr.cell j hj)
      rw [hlen] at hconv
      clear e hlen hr
      go_wp2
      go_ret
      exact ⟨rfl, hb⟩

theorem size_fold (s : ByteArray) : (⟨(Oct.fold s.data.toList).toArray⟩ : ByteArray).size = s.size := by
  show ((Oct.fold s.data.toList).toArray).size = s.size
  rw [List.size_toArray, Oct.fold_length]; rfl

def SameEnd (a b : ByteArray) (w : World) (e : Ending) (w' : World) : Prop :=
  e = .returned (.bool (Oct.fold a.data.toList == Oct.fold b.data.toList)) ∧ Below w.heap.size w w'

set_option maxHeartbeats 800000 in
theorem same_any (a b : ByteArray) (w : World) (ha : a.size ≤ maxLen) (hb : b.size ≤ maxLen) :
    Calls Tryd.prog 12 #[.string a, .string b] w (SameEnd a b w) := by
  have hm : maxLen = 9223372036854775807 := rfl
  by_cases hl : a.size = b.size
  · have h1 : ((a.size : Int) == (b.size : Int)) = true := by simp; omega
    have Hl := Lib.hid hl
    have Ha := Lib.hid ha
    have Hb := Lib.hid hb
    have ha' := ha
    have hb' := hb
    rw [hm] at ha' hb'
    clear hl ha hb hm
    go_enter Tryd.func12, Tryd.ntmps12
    go_wp2_with fail
    refine (fold_any a _ Ha.out).mono ?_
    rintro e w1 ⟨rfl, hb1⟩
    go_wp2_with fail
    refine (fold_any b _ Hb.out).mono ?_
    rintro e w2 ⟨rfl, hb2⟩
    go_wp2
    go_ret
    exact ⟨rfl, hb1.trans (hb2.mono hb1.size)⟩
  · have h1 : ((a.size : Int) == (b.size : Int)) = false := by simp; omega
    rw [hm] at ha hb
    have hne : (Oct.fold a.data.toList == Oct.fold b.data.toList) = false := by
      rw [beq_eq_false_iff_ne]
      intro h
      have := congrArg List.length h
      rw [Oct.fold_length, Oct.fold_length] at this
      exact hl this
    unfold SameEnd
    rw [hne]
    clear hl hm hne
    go_enter Tryd.func12, Tryd.ntmps12
    go_wp2
    go_ret
    exact ⟨rfl, Below.refl _ _⟩
end Go.Proofs.YtmdbfjfdkgdmnaaDoor
