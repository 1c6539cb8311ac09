/- KvRef, KvRef2, KvRef3, RkCm12, KvRefC, KvRefD, KvPairs, KvOw5, KvOwn, BigRef, OpApp2, RkEn10, RkEn12, KvREnc, KvREncW: these texts in one. -/
import Derived.Test.YtgpkdnnlgafenaaKvDcAll
import Derived.Test.YtgpkdnnlgafenaaFlags
import Derived.Test.YtgpkdnnlgafenaaAppend
import Derived.WalkKit
import Derived.WalkSpells
import Derived.WalkLawsBesides
import Derived.Lib.Hide
import Derived.Test.YtgpkdnnlgafenaaBigNum
namespace Go.Proofs.Ytgpkdnnlgafenaa
open Go.RowKit Kv
set_option linter.unusedVariables false

def rcells (m : List Pr) : List Value := flat2 (fun e => .string e.1) (fun e => .string (bstr e.2)) m
theorem rcells_length (m : List Pr) : (rcells m).length = m.length * 2 := flat2_length m
theorem rcells_append (a b : List Pr) : rcells (a ++ b) = rcells a ++ rcells b := flat2_append a b
/-- A row of the reference's pairs. -/
def RRow (w : World) (v : Value) (m : List Pr) : Prop := w.ownsRow 0 82 2 v m.length (rcells m)
theorem RRow.shape {w : World} {v : Value} {m : List Pr} (h : RRow w v m) : ∃ A c, v = .slice A m.length c ∧ m.length ≤ c ∧ c ≤ maxLen := own_shape h
theorem RRow.below {w w' : World} {v : Value} {m : List Pr} (h : RRow w v m) (hb : Below w.heap.size w w') : RRow w' v m := own_only h (Only.of_below (S := []) hb) (fun k _ hk => by cases hk)
theorem RRow.get {w : World} {A : Option Addr} {n c : Nat} {m : List Pr} (h : RRow w (.slice A n c) m) (i : Nat) (hi : i < m.length) :
    ∃ g, A = some ⟨g, 0, none⟩ ∧ g < w.heap.size ∧ w.cell? ⟨g, i * 2, none⟩ = some (.string m[i].1) ∧ w.cell? ⟨g, i * 2 + 1, none⟩ = some (.string (bstr m[i].2)) := by
  rcases h.2 with ⟨_, hl⟩ | ⟨g, cap, cur, hv, _, hg, _⟩
  · exfalso
    have hl' : m.length = 0 := hl
    omega
  · injection hv with hA hn hc
    subst hA hn hc
    have k1 := World.ownsRow.cells (g := g) h rfl _ _ (flat2_fst m i hi)
    have k2 := World.ownsRow.cells (g := g) h rfl _ _ (flat2_snd m i hi)
    rw [add_at] at k1 k2
    exact ⟨g, rfl, (Array.getElem?_eq_some_iff.1 hg).1, k1, k2⟩
/-- The reference's table at block t, its row v. -/
structure RTab (w : World) (t : Nat) (v : Value) (m : List Pr) : Prop where
  head : w.heap[t]? = some (.cells #[v] 45 (0, 0))
  row : RRow w v m
theorem RTab.below {w w' : World} {t : Nat} {v : Value} {m : List Pr} (h : RTab w t v m) (hb : Below w.heap.size w w') : RTab w' t v m :=
  ⟨by rw [hb.block t (Array.getElem?_eq_some_iff.1 h.head).1]; exact h.head, h.row.below hb⟩

set_option maxHeartbeats 1600000 in
set_option maxRecDepth 100000 in
theorem rmay_any (A : Option Addr) (n c : Nat) (l : List Pt) (X : List Nat) (w : World) (hn : n = l.length) (hm : n ≤ maxLen) (hp : Puts w w.heap.size X A l) (hk : ∀ x ∈ l, x.k.size ≤ maxLen) (B : Bool) (hB : B = may l) :
    Calls Try.prog 35 #[.slice A n c] w fun e w' => e = .returned (.bool B) ∧ Below w.heap.size w w' := by
  subst hn
  unfold maxLen at hm
  have HP := Lib.hid hp
  have HB := Lib.hid hB
  have HK := Lib.hid hk
  clear hp hB hk
  obtain ⟨w0, rfl⟩ : ∃ w0, w0 = w := ⟨_, rfl⟩
  go_enter Try.func35, Try.ntmps35
  go_wp2_with fail
  go_loopw [3] (fun i wr => ∃ k : Nat, k ≤ l.length ∧ i = .int .i64 k ∧ Hid (Below w0.heap.size w0 wr) ∧ Hid (may (l.take k) = true)) (fun i _ => l.length - (intOf i).toNat)
  case atStart => exact ⟨0, Nat.zero_le _, rfl, Lib.hid (Below.refl _ _), Lib.hid (by simp [may])⟩
  case round =>
    obtain ⟨k, hk, rfl, HBW, HM⟩ := hrel
    by_cases hlt : k < l.length
    · have hpw := (HP.out.below HBW.out (Nat.le_refl _))
      obtain ⟨g, o, A', c', rfl, hg, k1, k2, k3, k4, k5, k6⟩ := hpw.at k hlt
      have hgw : g < wr.heap.size := by have := HBW.out.size; omega
      have hkI : (k : Int) < (l.length : Int) := by omega
      have hso := may_take l k hlt
      have hno : ok1 l[k] = false → B = false := fun h => by
        rw [HB.out]; unfold may
        rw [List.all_eq_false]
        exact ⟨_, List.getElem_mem hlt, by rw [h]; simp⟩
      obtain ⟨x, Hx⟩ : ∃ x, Hid (x = l[k]) := ⟨_, Lib.hid rfl⟩
      rw [← Hx.out] at k1 k2 k3 k4 k6 hso hno
      have hx : x ∈ l := by rw [Hx.out]; exact List.getElem_mem hlt
      have hkz := HK.out x hx
      obtain ⟨kk, v, gg⟩ := x
      simp only at k1 k2 k3 k4 k6 hkz
      unfold maxLen at hkz k5
      rw [HM.out, Bool.true_and] at hso
      have HSO := Lib.hid hso
      have HNO := Lib.hid hno
      have HB2 : Hid (∀ cs, Below w0.heap.size w0 (wr.alloc (.cells cs 80))) := Lib.hid (fun cs => HBW.out.alloc HBW.out.size _)
      clear hso hno hpw k6 hx
      by_cases q1 : 1 ≤ kk.size
      case neg =>
        have hBf := HNO.out (by simp [ok1, q1])
        subst hBf
        go_wp2
        go_ret
        exact ⟨rfl, HB2.out _⟩
      by_cases q2 : kk.size ≤ 200
      case neg =>
        have hBf := HNO.out (by simp [ok1, q2])
        subst hBf
        go_wp2
        go_ret
        exact ⟨rfl, HB2.out _⟩
      by_cases q3 : v.length ≤ 200000
      case neg =>
        have hBf := HNO.out (by simp [ok1, q3])
        subst hBf
        go_wp2
        go_ret
        exact ⟨rfl, HB2.out _⟩
      cases gg with
      | false =>
        have HY : Hid (may (l.take (k + 1)) = true) := Lib.hid (by rw [HSO.out]; simp [ok1, q1, q2, q3])
        go_wp2
        go_roundw
        case rel => exact ⟨k + 1, by omega, by go_num, Lib.hid (HB2.out _), HY⟩
        case measure => simp [intOf]; omega
      | true =>
        by_cases q4 : 0 < v.length
        · have hBf := HNO.out (by simp [ok1, q4])
          subst hBf
          go_wp2
          go_ret
          exact ⟨rfl, HB2.out _⟩
        · have HY : Hid (may (l.take (k + 1)) = true) := Lib.hid (by rw [HSO.out]; have q5 : v = [] := List.eq_nil_of_length_eq_zero (by omega); subst q5; simp [ok1, q1, q2])
          go_wp2
          go_roundw
          case rel => exact ⟨k + 1, by omega, by go_num, Lib.hid (HB2.out _), HY⟩
          case measure => simp [intOf]; omega
    · obtain rfl : k = l.length := by omega
      have hBt : B = true := by rw [HB.out, ← HM.out, List.take_length]
      subst hBt
      go_wp2
      go_ret
      exact ⟨rfl, HBW.out⟩

set_option maxHeartbeats 1600000 in
set_option maxRecDepth 100000 in
theorem rfind_any (w : World) (t : Nat) (v : Value) (m : List Pr) (key : ByteArray) (h : RTab w t v m) (hlen : m.length ≤ 1000000) (P : Nat) (hP : P = pos m key) (H : Bool) (hH : H = hit m key) :
    Calls Try.prog 36 #[.pointer (some ⟨t, 0, none⟩), .string key] w fun e w' => e = .returned (.tuple #[.int .i64 (P : Int), .bool H]) ∧ Below w.heap.size w w' := by
  obtain ⟨A, c, rfl, _, _⟩ := h.row.shape
  have hc : w.cell? ⟨t, 0, none⟩ = some (.slice A m.length c) := by simp [World.cell?, h.head]
  have HR := Lib.hid h.row
  have HP := Lib.hid hP
  have HH := Lib.hid hH
  have hlI : (m.length : Int) ≤ 1000000 := by omega
  clear h hP hH
  go_enter Try.func36, Try.ntmps36
  go_wp2
  go_loop [6] (fun i => ∃ k : Nat, k ≤ m.length ∧ i = .int .i64 k ∧ Hid (∀ j (hj : j < m.length), j < k → ltb m[j].1 key = true)) (fun i => m.length - (intOf i).toNat)
  case atStart => exact ⟨0, Nat.zero_le _, rfl, Lib.hid (fun j hj h => absurd h (by omega))⟩
  case round =>
    obtain ⟨k, hk, rfl, HLT⟩ := hrel
    by_cases hlt : k < m.length
    · have hkI : (k : Int) < (m.length : Int) := by omega
      obtain ⟨g, rfl, hg, y1, _⟩ := HR.out.get k hlt
      have hbl := less_ltb m[k].1 key
      cases hlb : ltb m[k].1 key with
      | true =>
        rw [hlb] at hbl
        have HL2 : Hid (∀ j (hj : j < m.length), j < k + 1 → ltb m[j].1 key = true) := Lib.hid (fun j hj h => by
          by_cases e : j = k
          · subst e; exact hlb
          · exact HLT.out j hj (by omega))
        clear hlb
        generalize m[k].1 = kk at *
        go_wp2
        go_round
        case rel => exact ⟨k + 1, by omega, by go_num, HL2⟩
        case measure => simp [intOf]; omega
      | false =>
        rw [hlb] at hbl
        have hp : P = k := by rw [HP.out]; exact pos_unique hk (fun i h1 h2 => HLT.out i h1 h2) (fun _ => hlb)
        have hH2 : H = decide (m[k].1 = key) := by
          rw [HH.out]
          have hp' : pos m key = k := by rw [← HP.out]; exact hp
          have := hit_at (m := m) (k := key) (by rw [hp']; exact hlt)
          rw [this]; simp only [hp']
        subst hp
        clear hlb
        have heq : (m[P].1.toList == key.toList) = H := by
          rw [hH2]
          by_cases e : m[P].1 = key
          · rw [e]; simp
          · simp only [e, decide_false]
            rw [ByteArray.toList_eq, ByteArray.toList_eq, beq_eq_false_iff_ne]
            exact fun e' => e (Go.WideShapes.bytes_inj e')
        clear hH2
        generalize m[P].1 = kk at *
        cases H with
        | true =>
          obtain rfl : kk = key := by
            have h1 := beq_iff_eq.1 heq
            rw [ByteArray.toList_eq, ByteArray.toList_eq] at h1
            exact Go.WideShapes.bytes_inj h1
          go_wp2
          go_quiet (fail)
          go_wp2
          go_ret2
          exact ⟨rfl, below_drewN (Below.refl _ _) _⟩
        | false =>
          have heq2 : (kk.data.toList == key.data.toList) = false := by rw [← ByteArray.toList_eq, ← ByteArray.toList_eq]; exact heq
          go_wp2
          go_quiet (fail)
          go_wp2
          go_ret2
          exact ⟨rfl, below_drewN (Below.refl _ _) _⟩
    · obtain rfl : k = m.length := by omega
      have hp : P = m.length := by rw [HP.out]; exact pos_unique hk (fun i h1 h2 => HLT.out i h1 h2) (fun h => absurd h (by omega))
      have hH2 : H = false := by rw [HH.out]; exact hit_none (by rw [← HP.out, hp]; exact Nat.le_refl _)
      subst hp hH2
      go_wp2
      go_quiet (fail)
      go_wp2
      go_ret2
      exact ⟨rfl, below_drewN (Below.refl _ _) _⟩
end Go.Proofs.Ytgpkdnnlgafenaa

namespace Go.Proofs.Ytgpkdnnlgafenaa
open Go.RowKit Kv
set_option linter.unusedVariables false

set_option maxRecDepth 20000 in
theorem Try.infoRp : (Try.prog.info? 82).map (fun i => (i.zero, i.size, i.bytes)) = some (some (.agg #[.string ByteArray.empty, .string ByteArray.empty]), 2, 32) := by kernel_rfl
/-- Pairs in memory, wherever they lie. -/
def RV (w : World) (A : Option Addr) (m : List Pr) : Prop := m ≠ [] → ∃ g o, A = some ⟨g, o, none⟩ ∧ g < w.heap.size ∧ ∀ j (h : j < m.length), w.cell? ⟨g, o + j * 2, none⟩ = some (.string m[j].1) ∧ w.cell? ⟨g, o + j * 2 + 1, none⟩ = some (.string (bstr m[j].2))
theorem RRow.rv {w : World} {A : Option Addr} {n c : Nat} {m : List Pr} (h : RRow w (.slice A n c) m) : RV w A m := fun hn => by
  have hpos : 0 < m.length := List.length_pos_iff.2 hn
  obtain ⟨g, e, hg, _⟩ := h.get 0 hpos
  refine ⟨g, 0, e, hg, fun j hj => ?_⟩
  obtain ⟨g', e', _, k1, k2⟩ := h.get j hj
  rw [e] at e'
  injection e' with e'; injection e' with e' _ _; subst e'
  rw [Nat.zero_add]
  exact ⟨k1, k2⟩
theorem RV.below {w w' : World} {A : Option Addr} {m : List Pr} (h : RV w A m) (hb : Below w.heap.size w w') : RV w' A m := fun hn => by
  obtain ⟨g, o, e, hg, hc⟩ := h hn
  exact ⟨g, o, e, Nat.lt_of_lt_of_le hg hb.size, fun j hj => ⟨(hb.cell (p := ⟨g, o + j * 2, none⟩) hg).trans (hc j hj).1, (hb.cell (p := ⟨g, o + j * 2 + 1, none⟩) hg).trans (hc j hj).2⟩⟩
theorem RV.take {w : World} {A : Option Addr} {m : List Pr} (h : RV w A m) (k : Nat) : RV w A (m.take k) := fun hn => by
  obtain ⟨g, o, e, hg, hc⟩ := h (by intro e; rw [e] at hn; simp at hn)
  refine ⟨g, o, e, hg, fun j hj => ?_⟩
  rw [List.getElem_take]
  exact hc j (by rw [List.length_take] at hj; omega)
theorem rcells_one (m : List Pr) : ∀ u ∈ rcells m, u.oneCell' = true := by
  induction m with
  | nil => intro u hu; cases hu
  | cons e m ih =>
    intro u hu
    have e1 : rcells (e :: m) = [.string e.1, .string (bstr e.2)] ++ rcells m := rcells_append [e] m
    rw [e1] at hu
    rcases List.mem_append.1 hu with hu | hu
    · simp at hu; rcases hu with rfl | rfl <;> rfl
    · exact ih u hu
theorem rv_cells {w : World} {g o : Nat} {m : List Pr} (h : ∀ j (h : j < m.length), w.cell? ⟨g, o + j * 2, none⟩ = some (.string m[j].1) ∧ w.cell? ⟨g, o + j * 2 + 1, none⟩ = some (.string (bstr m[j].2))) : ∀ (j : Nat) (u : Value), (rcells m)[j]? = some u → w.cell? ((⟨g, o, none⟩ : Addr).add j) = some u := fun j u hu => by
  rw [add_to]
  have hj : j < m.length * 2 := by
    have := (List.getElem?_eq_some_iff.1 hu).1
    rwa [rcells_length] at this
  have hq : j / 2 < m.length := by omega
  obtain ⟨k1, k2⟩ := h (j / 2) hq
  rcases Nat.mod_two_eq_zero_or_one j with e | e
  · have e1 : j = j / 2 * 2 := by omega
    have f1 := flat2_fst (f := fun e : Pr => Value.string e.1) (g := fun e : Pr => Value.string (bstr e.2)) m (j / 2) hq
    rw [← e1] at f1 k1
    unfold rcells at hu
    rw [f1] at hu
    rw [k1]; exact hu
  · have e1 : j = j / 2 * 2 + 1 := by omega
    have f1 := flat2_snd (f := fun e : Pr => Value.string e.1) (g := fun e : Pr => Value.string (bstr e.2)) m (j / 2) hq
    rw [← e1] at f1
    have k2' : w.cell? ⟨g, o + j, none⟩ = some (.string (bstr m[j / 2].2)) := by
      have e2 : o + j = o + j / 2 * 2 + 1 := by omega
      rw [e2]; exact k2
    unfold rcells at hu
    rw [f1] at hu
    rw [k2']; exact hu
set_option maxRecDepth 20000 in
/-- append of pairs that lie somewhere. -/
theorem rrow_app (w : World) (v : Value) (m : List Pr) (h : RRow w v m) (A : Option Addr) (n c : Nat) (m2 : List Pr) (hn : n = m2.length) (h2 : RV w A m2) (hA : A = none → n = 0) (hl : m.length + m2.length ≤ 1000000) :
    ∃ A' c' L w', Hid (L = m ++ m2) ∧ (Builtin.append_ #[43, 43] 43 #[v, .slice A n c]).run Try.prog w = .ok (.slice A' L.length c') w' ∧ RRow w' (.slice A' L.length c') L ∧ Only (blk v) w w' ∧ Grows (blk v) (blk (.slice A' L.length c')) w := by
  subst hn
  obtain ⟨i0, hi, hz0, hz1, hz2⟩ := info_parts Try.infoRp
  obtain ⟨Av, cv, hv, _, _⟩ := h.shape
  by_cases h0 : m2 = []
  · subst h0
    refine ⟨Av, cv, m, w, Lib.hid (by simp), ?_, by rw [← hv]; exact h, Only.refl _ _, by rw [← hv]; exact Grows.refl _ _⟩
    rcases h.2 with ⟨rfl, _⟩ | ⟨g, cap, cur, rfl, _, _, hnc, _⟩
    · injection hv with e1 e2 e3
      subst e1 e3
      rw [← e2]
      cases A <;> simp [Builtin.append_, run_underlying Try.underlying43, sizeOf, typeInfo, hi, Builtin.lenOf, Builtin.firstCells, loadCells, loadCellsFrom]
    · injection hv with e1 e2 e3
      subst e1 e3
      cases A <;> simp [Builtin.append_, run_underlying Try.underlying43, sizeOf, typeInfo, hi, Builtin.lenOf, Builtin.firstCells, hnc, storeCells, loadCells, loadCellsFrom]
  · obtain ⟨g, o, rfl, hg, hc⟩ := h2 h0
    obtain ⟨v', w', hrun, k2, k3, k4⟩ := run_append_here (P := Try.prog) w 43 43 82 i0 _ 2 32 Try.underlying43 hi hz0 hz1 hz2 rfl (by decide) v m.length (rcells m) h ⟨g, o, none⟩ m2.length c (rcells m2) (rcells_length _) (rv_cells hc)
      (rcells_one m2) (by unfold maxLen; omega) (by omega)
    have hr : RRow w' v' (m ++ m2) := by unfold RRow; rw [List.length_append, rcells_append]; exact k2
    obtain ⟨A', c', rfl, _, _⟩ := hr.shape
    refine ⟨A', c', _, w', Lib.hid rfl, hrun, hr, Only.of_grown k3 (fun k hk => mem_blk.2 hk), fun b hb => ?_⟩
    rcases k4 b (mem_blk.1 hb) with h5 | h5
    · exact .inl (mem_blk.2 h5)
    · exact .inr h5
theorem RRow.new0 (w : World) : RRow (w.alloc (.cells #[] 82)) (.slice (some ⟨w.heap.size, 0, none⟩) 0 0) [] := World.ownsRow_lit w #[] 0 (Nat.zero_le _) (by decide) rfl

def RGetEnd (m : List Pr) (key : ByteArray) (w : World) (e : Ending) (w' : World) : Prop := e = .returned (.tuple #[.string (bstr (got m key)), .bool (hit m key)]) ∧ Below w.heap.size w w'
set_option maxHeartbeats 1600000 in
set_option maxRecDepth 100000 in
theorem rget_any (w : World) (t : Nat) (v : Value) (m : List Pr) (key : ByteArray) (h : RTab w t v m) (hlen : m.length ≤ 1000000) :
    Calls Try.prog 22 #[.pointer (some ⟨t, 0, none⟩), .string key] w (RGetEnd m key w) := by
  obtain ⟨P, HP⟩ : ∃ P, Hid (P = pos m key) := ⟨_, Lib.hid rfl⟩
  obtain ⟨H, HH⟩ : ∃ H, Hid (H = hit m key) := ⟨_, Lib.hid rfl⟩
  have HF := Lib.hid (rfind_any w t v m key h hlen P HP.out H HH.out)
  have HT := Lib.hid h
  clear h
  go_enter Try.func22, Try.ntmps22
  go_wp2_with fail
  refine HF.out.mono ?_
  rintro e w2 ⟨rfl, hb2⟩
  have h2 := HT.out.below hb2
  cases H with
  | false =>
    have key2 : RGetEnd m key w (.returned (.tuple #[.string ⟨#[]⟩, .bool false])) w2 := ⟨by rw [← HH.out, got_miss HH.out.symm]; rfl, hb2⟩
    have KEY := Lib.hid key2
    clear key2 hb2 h2 HF
    go_wp2
    go_ret2
    exact KEY.out
  | true =>
    have hp : P < m.length := by rw [HP.out]; exact (hit_lt HH.out.symm).1
    obtain ⟨A, c, rfl, _, _⟩ := h2.row.shape
    have hc : w2.cell? ⟨t, 0, none⟩ = some (.slice A m.length c) := by simp [World.cell?, h2.head]
    obtain ⟨g, rfl, hg, _, y2⟩ := h2.row.get P hp
    have hgl : got m key = m[P].2 := by
      have hp' : pos m key < m.length := by rw [← HP.out]; exact hp
      rw [got_hit HH.out.symm hp']
      simp only [← HP.out]
    have key2 : RGetEnd m key w (.returned (.tuple #[.string (bstr m[P].2), .bool true])) w2 := ⟨by rw [← HH.out, hgl], hb2⟩
    have KEY := Lib.hid key2
    have hpI : (P : Int) < (m.length : Int) := by omega
    generalize bstr m[P].2 = val at *
    clear key2 hb2 h2 HF hgl
    go_wp2
    go_ret2
    exact KEY.out
end Go.Proofs.Ytgpkdnnlgafenaa

namespace Go.Proofs.Ytgpkdnnlgafenaa
open Go.RowKit Kv
set_option linter.unusedVariables false

def RRangeEnd (m : List Pr) (fr to : ByteArray) (most : Int) (w : World) (e : Ending) (w' : World) : Prop :=
  ∃ A n c L, e = .returned (.slice A n c) ∧ n = L.length ∧ L = rng m fr to most ∧ RRow w' (.slice A n c) L ∧ Below w.heap.size w w'
def inR (fr to : ByteArray) (e : Pr) : Bool := !ltb e.1 fr && inT to e
theorem filter_take (p : Pr → Bool) (m : List Pr) (k : Nat) (hk : k < m.length) : (m.take (k + 1)).filter p = (m.take k).filter p ++ (if p m[k] then [m[k]] else []) := by
  rw [List.take_succ_eq_append_getElem hk, List.filter_append]
  congr 1
  by_cases h : p m[k] = true <;> simp [h]
theorem filter_len (p : Pr → Bool) (m : List Pr) (k : Nat) : ((m.take k).filter p).length ≤ m.length := Nat.le_trans (List.length_filter_le _ _) (by rw [List.length_take]; omega)

set_option maxHeartbeats 3200000 in
set_option maxRecDepth 100000 in
theorem rrange_any (w : World) (t : Nat) (v : Value) (m : List Pr) (fr to : ByteArray) (most : Int) (h : RTab w t v m) (hlen : m.length ≤ 100000) (hmost : -9223372036854775808 ≤ most ∧ most ≤ 9223372036854775807) :
    Calls Try.prog 24 #[.pointer (some ⟨t, 0, none⟩), .string fr, .string to, .int .i64 most] w (RRangeEnd m fr to most w) := by
  obtain ⟨A, c, rfl, _, _⟩ := h.row.shape
  have HT := Lib.hid h
  obtain ⟨w0, rfl⟩ : ∃ w0, w0 = w := ⟨_, rfl⟩
  have hlI : (m.length : Int) ≤ 100000 := by omega
  clear h
  go_enter Try.func24, Try.ntmps24
  go_wp2
  go_loopw [9, 10] (fun r i wr => ∃ (k : Nat) (Ar : Option Addr) (cr : Nat) (L : List Pr), k ≤ m.length ∧ r = .slice Ar L.length cr ∧ i = .int .i64 k ∧ Hid (L = (m.take k).filter (inR fr to)) ∧ Hid ((L.length : Int) ≤ most ∨ L.length = 0) ∧ Hid (RRow wr (.slice Ar L.length cr) L ∧ Below w0.heap.size w0 wr ∧ ∀ b, b ∈ blk (.slice Ar L.length cr) → w0.heap.size ≤ b)) (fun _ i _ => m.length - (intOf i).toNat)
  case atStart => exact ⟨0, none, 0, [], Nat.zero_le _, rfl, rfl, Lib.hid (by simp), Lib.hid (.inr rfl), Lib.hid ⟨World.ownsRow_nil _ 0 _ _, Below.refl _ _, fun b hb => by simp [blk, Value.ownBlock] at hb⟩⟩
  case round =>
    obtain ⟨k, Ar, cr, L, hk, rfl, rfl, HL, HM, HR⟩ := hrel
    have htr := HT.out.below HR.out.2.1
    have hc : wr.cell? ⟨t, 0, none⟩ = some (.slice A m.length c) := by simp [World.cell?, htr.head]
    have hLm : L.length ≤ m.length := by rw [HL.out]; exact filter_len _ _ _
    have FIN : Hid (L = rng m fr to most → RRangeEnd m fr to most w0 (.returned (.slice Ar L.length cr)) wr) := Lib.hid (fun h => ⟨Ar, _, cr, L, rfl, rfl, h, HR.out.1, HR.out.2.1⟩)
    by_cases hlt : k < m.length
    · have hkI : (k : Int) < (m.length : Int) := by omega
      by_cases hm : (L.length : Int) < most
      · obtain ⟨g, rfl, hg, y1, y2⟩ := htr.row.get k hlt
        have hst := filter_take (inR fr to) m k hlt
        rw [← HL.out] at hst
        have hb1 := less_ltb m[k].1 fr
        have hb2 := less_ltb m[k].1 to
        have hin : inR fr to m[k] = (!ltb m[k].1 fr && (decide (to.size = 0) || ltb m[k].1 to)) := rfl
        have HST := Lib.hid hst
        have HIN := Lib.hid hin
        have hHIGH := HR.out.2.2
        have hROW := HR.out.1
        have hBEL := HR.out.2.1
        have SKIP : Hid (inR fr to m[k] = false → Hid (L = (m.take (k + 1)).filter (inR fr to))) := Lib.hid (fun h => Lib.hid (by rw [HST.out, h]; simp))
        have NEXT : Hid (inR fr to m[k] = true → ∀ A' c' L' W, Hid (L' = L ++ [m[k]]) → RRow W (.slice A' L'.length c') L' → Below wr.heap.size wr W ∨ (Only (blk (.slice Ar L.length cr)) wr W) → Grows (blk (.slice Ar L.length cr)) (blk (.slice A' L'.length c')) wr → Hid (L' = (m.take (k + 1)).filter (inR fr to)) ∧ Hid ((L'.length : Int) ≤ most ∨ L'.length = 0) ∧ Hid (RRow W (.slice A' L'.length c') L' ∧ Below w0.heap.size w0 W ∧ ∀ b, b ∈ blk (.slice A' L'.length c') → w0.heap.size ≤ b)) := Lib.hid (fun h A' c' L' W e hr ho hg => by
          refine ⟨Lib.hid (by rw [e.out, HST.out, h]; simp), Lib.hid (.inl (by rw [e.out, List.length_append]; simp; omega)), Lib.hid ⟨hr, ?_, fun b hb => (hg b hb).elim (hHIGH b) (fun h' => Nat.le_trans hBEL.size h')⟩⟩
          rcases ho with ho | ho
          · exact hBEL.trans (ho.mono hBEL.size)
          · exact hBEL.trans (ho.below hBEL.size hHIGH))
        have YES : Hid (inR fr to m[k] = true → ∃ A' c' L' W, (Builtin.append_ #[43, 43] 43 #[.slice Ar L.length cr, .slice (some ⟨wr.heap.size, 0, none⟩) 1 1]).run Try.prog (wr.alloc (.cells #[.string m[k].1, .string (bstr m[k].2)] 82)) = .ok (.slice A' L'.length c') W ∧ Hid (L' = (m.take (k + 1)).filter (inR fr to)) ∧ Hid ((L'.length : Int) ≤ most ∨ L'.length = 0) ∧ Hid (RRow W (.slice A' L'.length c') L' ∧ Below w0.heap.size w0 W ∧ ∀ b, b ∈ blk (.slice A' L'.length c') → w0.heap.size ≤ b)) := Lib.hid (fun h => by
          have hba : Below wr.heap.size wr (wr.alloc (.cells #[.string m[k].1, .string (bstr m[k].2)] 82)) := (Below.refl _ _).alloc (Nat.le_refl _) _
          have hcell : ∀ j, (wr.alloc (.cells #[.string m[k].1, .string (bstr m[k].2)] 82)).cell? ⟨wr.heap.size, j, none⟩ = (#[Value.string m[k].1, .string (bstr m[k].2)])[j]? := fun j => by simp only [World.cell?, heap_alloc_new]; rfl
          have hrv : RV (wr.alloc (.cells #[.string m[k].1, .string (bstr m[k].2)] 82)) (some ⟨wr.heap.size, 0, none⟩) [m[k]] := fun _ => ⟨wr.heap.size, 0, rfl, by simp, fun j hj => by
            match j, hj with
            | 0, _ => exact ⟨(hcell _).trans rfl, (hcell _).trans rfl⟩
            | j + 1, hj => exact absurd hj (by simp)⟩
          obtain ⟨A', c', L', W, e, hrun, hr, ho, hg⟩ := rrow_app (wr.alloc (.cells #[.string m[k].1, .string (bstr m[k].2)] 82)) _ L (hROW.below hba) (some ⟨wr.heap.size, 0, none⟩) 1 1 [m[k]] rfl hrv (fun h => by cases h) (by simp; omega)
          have hg' : Grows (blk (.slice Ar L.length cr)) (blk (.slice A' L'.length c')) wr := fun b hb => (hg b hb).imp id (fun h' => by simp at h'; omega)
          have ho' : Only (blk (.slice Ar L.length cr)) wr W := (Only.of_below hba).trans ho
          exact ⟨A', c', L', W, hrun, NEXT.out h A' c' L' W e hr (.inr ho') hg'⟩)
        clear hst hin hHIGH hROW hBEL htr NEXT HST
        by_cases h1 : ltb m[k].1 fr = true
        · rw [h1] at hb1
          have HS := SKIP.out (by rw [HIN.out, h1]; rfl)
          clear SKIP YES HIN h1
          generalize m[k].1 = kk at *
          generalize bstr m[k].2 = kv at *
          go_wp2
          go_roundw
          case rel => exact ⟨k + 1, Ar, cr, L, by omega, rfl, by go_num, HS, HM, HR⟩
          case measure => simp [intOf]; omega
        · have h1' : ltb m[k].1 fr = false := by simpa using h1
          rw [h1'] at hb1
          by_cases h2 : to.size = 0
          · obtain ⟨e1, e2⟩ := str_empty h2
            obtain ⟨A', c', L', W, hrun, n1, n2, n3⟩ := YES.out (by rw [HIN.out, h1']; simp [h2])
            have HRUN := Lib.hid hrun
            clear SKIP YES HIN h1 h1' h2 hrun
            generalize m[k].1 = kk at *
            generalize bstr m[k].2 = kv at *
            go_wp2_with (at_builtin; refine wpList_append_run rfl _ _ 43 rfl _ (.slice Ar L.length cr) (.slice (some ⟨wr.heap.size, 0, none⟩) 1 1) rfl rfl (.slice A' L'.length c') W (by exact HRUN.out) ?_)
            go_roundw
            case rel => exact ⟨k + 1, A', c', L', by omega, rfl, by go_num, n1, n2, n3⟩
            case measure => simp [intOf]; omega
          · obtain ⟨e1, e2⟩ := str_some h2
            cases h3 : ltb m[k].1 to with
            | true =>
              rw [h3] at hb2
              obtain ⟨A', c', L', W, hrun, n1, n2, n3⟩ := YES.out (by rw [HIN.out, h1', h3]; simp)
              have HRUN := Lib.hid hrun
              clear SKIP YES HIN h1 h1' h2 hrun h3
              generalize m[k].1 = kk at *
              generalize bstr m[k].2 = kv at *
              go_wp2_with (at_builtin; refine wpList_append_run rfl _ _ 43 rfl _ (.slice Ar L.length cr) (.slice (some ⟨wr.heap.size, 0, none⟩) 1 1) rfl rfl (.slice A' L'.length c') W (by exact HRUN.out) ?_)
              go_roundw
              case rel => exact ⟨k + 1, A', c', L', by omega, rfl, by go_num, n1, n2, n3⟩
              case measure => simp [intOf]; omega
            | false =>
              rw [h3] at hb2
              have HS := SKIP.out (by rw [HIN.out, h1', h3]; simp [h2])
              clear SKIP YES HIN h1 h1' h2 h3
              generalize m[k].1 = kk at *
              generalize bstr m[k].2 = kv at *
              go_wp2
              go_roundw
              case rel => exact ⟨k + 1, Ar, cr, L, by omega, rfl, by go_num, HS, HM, HR⟩
              case measure => simp [intOf]; omega
      · have hle : L.length = most.toNat := by
          rcases HM.out with h | h <;> omega
        have hf := FIN.out (by
          unfold rng
          have e1 : m.filter (fun e => !ltb e.1 fr && inT to e) = L ++ (m.drop k).filter (inR fr to) := by
            rw [HL.out, ← List.filter_append, List.take_append_drop]; rfl
          rw [e1, List.take_append_of_le_length (by omega), List.take_of_length_le (by omega)])
        have HF := Lib.hid hf
        clear hf hle htr hLm
        go_wp2
        go_ret
        exact HF.out
    · obtain rfl : k = m.length := by omega
      have hf := FIN.out (by
        unfold rng
        have e1 : m.filter (fun e => !ltb e.1 fr && inT to e) = L := by
          rw [HL.out, List.take_length]; rfl
        rw [e1, List.take_of_length_le (by rcases HM.out with h | h <;> omega)])
      have HF := Lib.hid hf
      clear hf htr hLm
      go_wp2
      go_ret
      exact HF.out
end Go.Proofs.Ytgpkdnnlgafenaa

namespace Go.Proofs.Ytgpkdnnlgafenaa
open Go.RowKit
set_option linter.unusedVariables false
set_option linter.unusedSimpArgs false

def opsRkcm12 : Array Oper := #[
  { dst := some 57, op := Op.move (Operand.tmp 9), type := 43, pos := "ref.go:166", after := #[], guard := none },
  { dst := some 58, op := Op.move (Operand.tmp 1), type := 47, pos := "ref.go:166", after := #[], guard := none },
  { dst := some 59, op := Op.move (Operand.tmp 5), type := 3, pos := "ref.go:166", after := #[], guard := none },
  { dst := some 60, op := Op.indexAddr 47 (Operand.tmp 58) (Operand.tmp 59), type := 0, pos := "ref.go:166", after := #[{ on := 1, ground := Ground.data }, { on := 2, ground := Ground.data }], guard := none },
  { dst := some 61, op := Op.fieldAddr 80 (Operand.tmp 60) 0, type := 0, pos := "ref.go:166", after := #[{ on := 3, ground := Ground.data }], guard := none },
  { dst := some 62, op := Op.load 9 (Operand.tmp 61), type := 9, pos := "ref.go:166", after := #[{ on := 4, ground := Ground.data }], guard := none },
  { dst := some 63, op := Op.move (Operand.tmp 1), type := 47, pos := "ref.go:166", after := #[], guard := none },
  { dst := some 64, op := Op.move (Operand.tmp 5), type := 3, pos := "ref.go:166", after := #[], guard := none },
  { dst := some 65, op := Op.indexAddr 47 (Operand.tmp 63) (Operand.tmp 64), type := 0, pos := "ref.go:166", after := #[{ on := 6, ground := Ground.data }, { on := 7, ground := Ground.data }], guard := none },
  { dst := some 66, op := Op.fieldAddr 80 (Operand.tmp 65) 1, type := 0, pos := "ref.go:166", after := #[{ on := 8, ground := Ground.data }], guard := none },
  { dst := some 67, op := Op.load 27 (Operand.tmp 66), type := 27, pos := "ref.go:166", after := #[{ on := 9, ground := Ground.data }], guard := none },
  { dst := some 68, op := Op.convert 27 9 (Operand.tmp 67), type := 9, pos := "ref.go:166", after := #[{ on := 10, ground := Ground.data }], guard := none },
  { dst := some 69, op := Op.build 82 #[(0, Operand.tmp 62), (1, Operand.tmp 68)], type := 82, pos := "ref.go:166", after := #[{ on := 5, ground := Ground.data }, { on := 11, ground := Ground.data }], guard := none },
  { dst := some 70, op := Op.buildSlice 43 1 #[(0, Operand.tmp 69)], type := 43, pos := "ref.go:166", after := #[{ on := 12, ground := Ground.data }], guard := none },
  { dst := some 71, op := Op.call { callee := Callee.builtin Builtin.append, args := #[Operand.tmp 57, Operand.tmp 70], argTypes := #[43, 43] }, type := 43, pos := "ref.go:166", after := #[{ on := 0, ground := Ground.data }, { on := 13, ground := Ground.data }], guard := none },
  { dst := some 9, op := Op.assign (Operand.tmp 71), type := 43, pos := "ref.go:166", after := #[{ on := 14, ground := Ground.data }, { on := 14, ground := Ground.chain }, { on := 0, ground := Ground.phase }, { on := 1, ground := Ground.phase }, { on := 2, ground := Ground.phase }, { on := 3, ground := Ground.phase }, { on := 4, ground := Ground.phase }, { on := 5, ground := Ground.phase }, { on := 6, ground := Ground.phase }, { on := 7, ground := Ground.phase }, { on := 8, ground := Ground.phase }, { on := 9, ground := Ground.phase }, { on := 10, ground := Ground.phase }, { on := 11, ground := Ground.phase }, { on := 12, ground := Ground.phase }, { on := 13, ground := Ground.phase }, { on := 14, ground := Ground.phase }], guard := none }]

def rkcm12Vals (g o k nl c0 nm cm nv cv : Nat) (Am Av : Option Addr) (key vs : ByteArray) : List (Nat × Nat × Value) := [(0, 57, .slice Am nm cm), (1, 58, .slice (some ⟨g, o, none⟩) nl c0), (2, 59, .int .i64 (k : Int)), (3, 60, .pointer (some ⟨g, o + k * 3, none⟩)), (4, 61, .pointer (some ⟨g, o + k * 3, none⟩)), (5, 62, .string key), (6, 63, .slice (some ⟨g, o, none⟩) nl c0), (7, 64, .int .i64 (k : Int)), (8, 65, .pointer (some ⟨g, o + k * 3, none⟩)), (9, 66, .pointer (some ⟨g, o + k * 3 + 1, none⟩)), (10, 67, .slice Av nv cv), (11, 68, .string vs), (12, 69, .agg #[.string key, .string vs])]
def rkcm12C : List (Nat × Nat) := [(13, 70), (14, 71), (15, 9)]

set_option maxHeartbeats 4000000 in
set_option maxRecDepth 100000 in
theorem rkcm12 {Q : Exit → Act → World → Prop} {a0 : Act} {wp : World} (g o k nl c0 nm cm nv cv : Nat) (Am Av : Option Addr) (key vs : ByteArray) (S : (Nat → Bool) → (Nat → Value) → World → Prop)
    (hsz : 71 < a0.tmps.size) (in1 : a0.eval (.tmp 1) = .slice (some ⟨g, o, none⟩) nl c0) (in5 : a0.eval (.tmp 5) = .int .i64 (k : Int))
    (hkl : (k : Int) < (nl : Int)) (hl0 : ∀ f R w, S f R w → w.cell? ⟨g, o + k * 3, none⟩ = some (.string key) ∧ w.cell? ⟨g, o + k * 3 + 1, none⟩ = some (.slice Av nv cv)) (hcv : ∀ f R w, S f R w → (convert 27 9 (.slice Av nv cv)).run Try.prog w = .ok (.string vs) w)
    (hv : ∀ f R w, S f R w → f 2 = false → R 2 = .slice Am nm cm)
    (hb0 : ∀ f R w, S f R w → f 0 = false → f 1 = false → S (setF f 0) (setR R 0 (.slice (some ⟨w.heap.size, 0, none⟩) 1 1)) (w.alloc (.cells #[.string key, .string vs] 82)))
    (ha0 : ∀ f R w, S f R w → f 0 = true → f 1 = false → ∃ v w', (Builtin.append_ #[43, 43] 43 #[.slice Am nm cm, R 0]).run Try.prog w = .ok v w' ∧ S (setF f 1) (setR R 1 v) w')
    (hm0 : ∀ f R w, S f R w → f 1 = true → f 2 = false → S (setF f 2) (setR R 2 (R 1)) w)
    (hS : S (fun _ => false) (resOf rkcm12C fun t => a0.eval (.tmp t)) wp.drew)
    (fin : ∀ a w f, Fr [57, 58, 59, 60, 61, 62, 63, 64, 65, 66, 67, 68, 69, 70, 71, 9] a0 a → (∀ j, j < 3 → f j = true) → S f (resOf rkcm12C fun t => a.eval (.tmp t)) w → Q .normal a w) :
    (Code.region 12 opsRkcm12 true).wp Try.prog Q a0 wp := by
  refine region_inv (by kernel_rfl) [57, 58, 59, 60, 61, 62, 63, 64, 65, 66, 67, 68, 69, 70, 71, 9] (by kernel_rfl) (by kernel_rfl) (fun t ht => by simp at ht; omega) (GF (rkcm12Vals g o k nl c0 nm cm nv cv Am Av key vs) rkcm12C S) (.start hS) ?_
    (fun L a w hf hall hG => fin a w (flagsOf rkcm12C L) hf  (fun j hj => by
      match j, hj with
      | 0, _ => exact (flagsOf_at (C := rkcm12C) (j := 0) rfl L).trans (hall 13 (by decide))
      | 1, _ => exact (flagsOf_at (C := rkcm12C) (j := 1) rfl L).trans (hall 14 (by decide))
      | 2, _ => exact (flagsOf_at (C := rkcm12C) (j := 2) rfl L).trans (hall 15 (by decide))
      | n + 3, h => exact absurd h (by omega)) hG.1)
  clear hS fin
  intro ix oo ho L a w hfr hG hLi hdep hcl K hK
  have e1 : a.tmps[1]?.getD undef = .slice (some ⟨g, o, none⟩) nl c0 := by rw [← ev]; exact (hfr.same 1 (by decide)).trans in1
  have e5 : a.tmps[5]?.getD undef = .int .i64 (k : Int) := by rw [← ev]; exact (hfr.same 5 (by decide)).trans in5
  clear in1 in5
  match ix, ho with
  | 0, ho =>
    simp only [opsRkcm12, List.getElem?_toArray, List.getElem?_cons_zero, Option.some.injEq] at ho
    subst ho
    rw [if_pos (show Region.wanted _ _ = true from rfl)]
    have hSp := hG.1
    have hf1 : flagsOf rkcm12C L 1 = false := (flagsOf_at (C := rkcm12C) (j := 1) rfl L).trans (by
      cases hl : L 14 with
      | false => rfl
      | true => exact absurd (hcl 14 _ rfl (hl) ⟨0, .data⟩ (by simp [opsRkcm12]) rfl) (by rw [hLi]; decide))
    have hf2 : flagsOf rkcm12C L 2 = false := (flagsOf_at (C := rkcm12C) (j := 2) rfl L).trans (by
      cases hl : L 15 with
      | false => rfl
      | true => exact absurd (hcl 15 _ rfl (hl) ⟨0, .phase⟩ (by simp [opsRkcm12]) rfl) (by rw [hLi]; decide))
    have r9 : a.tmps[9]?.getD undef = resOf rkcm12C (fun t => a.eval (.tmp t)) 2 := by rw [← ev]; exact (resOf_at (C := rkcm12C) (j := 2) rfl a).symm
    have hfin := hK (.slice Am nm cm) w (hG.quiet 0 0 57 _ rfl (by kernel_rfl) (by kernel_rfl))
    have HK := Lib.hid hfin
    generalize (resOf rkcm12C fun t => a.eval (.tmp t)) = R at *
    generalize flagsOf rkcm12C L = f at *
    rw [hv _ _ _ hSp hf2] at r9
    clear hkl hl0 hcv hv hb0 ha0 hm0
    clear hSp
    clear hG hcl hdep hfr hK hfin hLi 
    go_simp
    exact HK.out
  | 1, ho =>
    simp only [opsRkcm12, List.getElem?_toArray, List.getElem?_cons_succ, List.getElem?_cons_zero, Option.some.injEq] at ho
    subst ho
    rw [if_pos (show Region.wanted _ _ = true from rfl)]
    have hfin := hK (.slice (some ⟨g, o, none⟩) nl c0) w (hG.quiet 1 1 58 _ rfl (by kernel_rfl) (by kernel_rfl))
    have HK := Lib.hid hfin
    clear hG hcl hdep hfr hK hfin hLi 
    go_simp
    exact HK.out
  | 2, ho =>
    simp only [opsRkcm12, List.getElem?_toArray, List.getElem?_cons_succ, List.getElem?_cons_zero, Option.some.injEq] at ho
    subst ho
    rw [if_pos (show Region.wanted _ _ = true from rfl)]
    have hfin := hK (.int .i64 (k : Int)) w (hG.quiet 2 2 59 _ rfl (by kernel_rfl) (by kernel_rfl))
    have HK := Lib.hid hfin
    clear hG hcl hdep hfr hK hfin hLi 
    go_simp
    exact HK.out
  | 3, ho =>
    simp only [opsRkcm12, List.getElem?_toArray, List.getElem?_cons_succ, List.getElem?_cons_zero, Option.some.injEq] at ho
    subst ho
    have x58 : a.tmps[58]?.getD undef = .slice (some ⟨g, o, none⟩) nl c0 := by rw [← ev]; exact hG.val 1 1 58 _ rfl (hdep ⟨1, .data⟩ (by simp) rfl)
    have x59 : a.tmps[59]?.getD undef = .int .i64 (k : Int) := by rw [← ev]; exact hG.val 2 2 59 _ rfl (hdep ⟨2, .data⟩ (by simp) rfl)
    rw [if_pos (show Region.wanted _ _ = true from rfl)]
    have hSp := hG.1
    have hf0 : flagsOf rkcm12C L 0 = false := (flagsOf_at (C := rkcm12C) (j := 0) rfl L).trans (by
      cases hl : L 13 with
      | false => rfl
      | true => exact absurd (hcl 4 _ rfl (hcl 5 _ rfl (hcl 12 _ rfl (hcl 13 _ rfl (hl) ⟨12, .data⟩ (by simp [opsRkcm12]) rfl) ⟨5, .data⟩ (by simp [opsRkcm12]) rfl) ⟨4, .data⟩ (by simp [opsRkcm12]) rfl) ⟨3, .data⟩ (by simp [opsRkcm12]) rfl) (by rw [hLi]; decide))
    have hf1 : flagsOf rkcm12C L 1 = false := (flagsOf_at (C := rkcm12C) (j := 1) rfl L).trans (by
      cases hl : L 14 with
      | false => rfl
      | true => exact absurd (hcl 4 _ rfl (hcl 5 _ rfl (hcl 12 _ rfl (hcl 13 _ rfl (hcl 14 _ rfl (hl) ⟨13, .data⟩ (by simp [opsRkcm12]) rfl) ⟨12, .data⟩ (by simp [opsRkcm12]) rfl) ⟨5, .data⟩ (by simp [opsRkcm12]) rfl) ⟨4, .data⟩ (by simp [opsRkcm12]) rfl) ⟨3, .data⟩ (by simp [opsRkcm12]) rfl) (by rw [hLi]; decide))
    have hf2 : flagsOf rkcm12C L 2 = false := (flagsOf_at (C := rkcm12C) (j := 2) rfl L).trans (by
      cases hl : L 15 with
      | false => rfl
      | true => exact absurd (hcl 15 _ rfl (hl) ⟨3, .phase⟩ (by simp [opsRkcm12]) rfl) (by rw [hLi]; decide))
    have hfin := hK (.pointer (some ⟨g, o + k * 3, none⟩)) w (hG.quiet 3 3 60 _ rfl (by kernel_rfl) (by kernel_rfl))
    have HK := Lib.hid hfin
    generalize (resOf rkcm12C fun t => a.eval (.tmp t)) = R at *
    generalize flagsOf rkcm12C L = f at *
    clear hl0 hcv hv hb0 ha0 hm0
    clear hSp
    clear hG hcl hdep hfr hK hfin hLi 
    go_simp
    exact HK.out
  | 4, ho =>
    simp only [opsRkcm12, List.getElem?_toArray, List.getElem?_cons_succ, List.getElem?_cons_zero, Option.some.injEq] at ho
    subst ho
    have x60 : a.tmps[60]?.getD undef = .pointer (some ⟨g, o + k * 3, none⟩) := by rw [← ev]; exact hG.val 3 3 60 _ rfl (hdep ⟨3, .data⟩ (by simp) rfl)
    rw [if_pos (show Region.wanted _ _ = true from rfl)]
    have hfin := hK (.pointer (some ⟨g, o + k * 3, none⟩)) w (hG.quiet 4 4 61 _ rfl (by kernel_rfl) (by kernel_rfl))
    have HK := Lib.hid hfin
    clear hG hcl hdep hfr hK hfin hLi 
    go_simp
    exact HK.out
  | 5, ho =>
    simp only [opsRkcm12, List.getElem?_toArray, List.getElem?_cons_succ, List.getElem?_cons_zero, Option.some.injEq] at ho
    subst ho
    have x61 : a.tmps[61]?.getD undef = .pointer (some ⟨g, o + k * 3, none⟩) := by rw [← ev]; exact hG.val 4 4 61 _ rfl (hdep ⟨4, .data⟩ (by simp) rfl)
    rw [if_pos (show Region.wanted _ _ = true from rfl)]
    have hSp := hG.1
    have hf0 : flagsOf rkcm12C L 0 = false := (flagsOf_at (C := rkcm12C) (j := 0) rfl L).trans (by
      cases hl : L 13 with
      | false => rfl
      | true => exact absurd (hcl 12 _ rfl (hcl 13 _ rfl (hl) ⟨12, .data⟩ (by simp [opsRkcm12]) rfl) ⟨5, .data⟩ (by simp [opsRkcm12]) rfl) (by rw [hLi]; decide))
    have hf1 : flagsOf rkcm12C L 1 = false := (flagsOf_at (C := rkcm12C) (j := 1) rfl L).trans (by
      cases hl : L 14 with
      | false => rfl
      | true => exact absurd (hcl 12 _ rfl (hcl 13 _ rfl (hcl 14 _ rfl (hl) ⟨13, .data⟩ (by simp [opsRkcm12]) rfl) ⟨12, .data⟩ (by simp [opsRkcm12]) rfl) ⟨5, .data⟩ (by simp [opsRkcm12]) rfl) (by rw [hLi]; decide))
    have hf2 : flagsOf rkcm12C L 2 = false := (flagsOf_at (C := rkcm12C) (j := 2) rfl L).trans (by
      cases hl : L 15 with
      | false => rfl
      | true => exact absurd (hcl 15 _ rfl (hl) ⟨5, .phase⟩ (by simp [opsRkcm12]) rfl) (by rw [hLi]; decide))
    have hfin := hK (.string key) w (hG.quiet 5 5 62 _ rfl (by kernel_rfl) (by kernel_rfl))
    have HK := Lib.hid hfin
    generalize (resOf rkcm12C fun t => a.eval (.tmp t)) = R at *
    generalize flagsOf rkcm12C L = f at *
    obtain ⟨q1, q2⟩ := hl0 _ _ _ hSp
    clear hkl hl0 hcv hv hb0 ha0 hm0 q2
    clear hSp
    clear hG hcl hdep hfr hK hfin hLi 
    go_simp
    exact HK.out
  | 6, ho =>
    simp only [opsRkcm12, List.getElem?_toArray, List.getElem?_cons_succ, List.getElem?_cons_zero, Option.some.injEq] at ho
    subst ho
    rw [if_pos (show Region.wanted _ _ = true from rfl)]
    have hfin := hK (.slice (some ⟨g, o, none⟩) nl c0) w (hG.quiet 6 6 63 _ rfl (by kernel_rfl) (by kernel_rfl))
    have HK := Lib.hid hfin
    clear hG hcl hdep hfr hK hfin hLi 
    go_simp
    exact HK.out
  | 7, ho =>
    simp only [opsRkcm12, List.getElem?_toArray, List.getElem?_cons_succ, List.getElem?_cons_zero, Option.some.injEq] at ho
    subst ho
    rw [if_pos (show Region.wanted _ _ = true from rfl)]
    have hfin := hK (.int .i64 (k : Int)) w (hG.quiet 7 7 64 _ rfl (by kernel_rfl) (by kernel_rfl))
    have HK := Lib.hid hfin
    clear hG hcl hdep hfr hK hfin hLi 
    go_simp
    exact HK.out
  | 8, ho =>
    simp only [opsRkcm12, List.getElem?_toArray, List.getElem?_cons_succ, List.getElem?_cons_zero, Option.some.injEq] at ho
    subst ho
    have x63 : a.tmps[63]?.getD undef = .slice (some ⟨g, o, none⟩) nl c0 := by rw [← ev]; exact hG.val 6 6 63 _ rfl (hdep ⟨6, .data⟩ (by simp) rfl)
    have x64 : a.tmps[64]?.getD undef = .int .i64 (k : Int) := by rw [← ev]; exact hG.val 7 7 64 _ rfl (hdep ⟨7, .data⟩ (by simp) rfl)
    rw [if_pos (show Region.wanted _ _ = true from rfl)]
    have hSp := hG.1
    have hf0 : flagsOf rkcm12C L 0 = false := (flagsOf_at (C := rkcm12C) (j := 0) rfl L).trans (by
      cases hl : L 13 with
      | false => rfl
      | true => exact absurd (hcl 9 _ rfl (hcl 10 _ rfl (hcl 11 _ rfl (hcl 12 _ rfl (hcl 13 _ rfl (hl) ⟨12, .data⟩ (by simp [opsRkcm12]) rfl) ⟨11, .data⟩ (by simp [opsRkcm12]) rfl) ⟨10, .data⟩ (by simp [opsRkcm12]) rfl) ⟨9, .data⟩ (by simp [opsRkcm12]) rfl) ⟨8, .data⟩ (by simp [opsRkcm12]) rfl) (by rw [hLi]; decide))
    have hf1 : flagsOf rkcm12C L 1 = false := (flagsOf_at (C := rkcm12C) (j := 1) rfl L).trans (by
      cases hl : L 14 with
      | false => rfl
      | true => exact absurd (hcl 9 _ rfl (hcl 10 _ rfl (hcl 11 _ rfl (hcl 12 _ rfl (hcl 13 _ rfl (hcl 14 _ rfl (hl) ⟨13, .data⟩ (by simp [opsRkcm12]) rfl) ⟨12, .data⟩ (by simp [opsRkcm12]) rfl) ⟨11, .data⟩ (by simp [opsRkcm12]) rfl) ⟨10, .data⟩ (by simp [opsRkcm12]) rfl) ⟨9, .data⟩ (by simp [opsRkcm12]) rfl) ⟨8, .data⟩ (by simp [opsRkcm12]) rfl) (by rw [hLi]; decide))
    have hf2 : flagsOf rkcm12C L 2 = false := (flagsOf_at (C := rkcm12C) (j := 2) rfl L).trans (by
      cases hl : L 15 with
      | false => rfl
      | true => exact absurd (hcl 15 _ rfl (hl) ⟨8, .phase⟩ (by simp [opsRkcm12]) rfl) (by rw [hLi]; decide))
    have hfin := hK (.pointer (some ⟨g, o + k * 3, none⟩)) w (hG.quiet 8 8 65 _ rfl (by kernel_rfl) (by kernel_rfl))
    have HK := Lib.hid hfin
    generalize (resOf rkcm12C fun t => a.eval (.tmp t)) = R at *
    generalize flagsOf rkcm12C L = f at *
    clear hl0 hcv hv hb0 ha0 hm0
    clear hSp
    clear hG hcl hdep hfr hK hfin hLi 
    go_simp
    exact HK.out
  | 9, ho =>
    simp only [opsRkcm12, List.getElem?_toArray, List.getElem?_cons_succ, List.getElem?_cons_zero, Option.some.injEq] at ho
    subst ho
    have x65 : a.tmps[65]?.getD undef = .pointer (some ⟨g, o + k * 3, none⟩) := by rw [← ev]; exact hG.val 8 8 65 _ rfl (hdep ⟨8, .data⟩ (by simp) rfl)
    rw [if_pos (show Region.wanted _ _ = true from rfl)]
    have hfin := hK (.pointer (some ⟨g, o + k * 3 + 1, none⟩)) w (hG.quiet 9 9 66 _ rfl (by kernel_rfl) (by kernel_rfl))
    have HK := Lib.hid hfin
    clear hG hcl hdep hfr hK hfin hLi 
    go_simp
    exact HK.out
  | 10, ho =>
    simp only [opsRkcm12, List.getElem?_toArray, List.getElem?_cons_succ, List.getElem?_cons_zero, Option.some.injEq] at ho
    subst ho
    have x66 : a.tmps[66]?.getD undef = .pointer (some ⟨g, o + k * 3 + 1, none⟩) := by rw [← ev]; exact hG.val 9 9 66 _ rfl (hdep ⟨9, .data⟩ (by simp) rfl)
    rw [if_pos (show Region.wanted _ _ = true from rfl)]
    have hSp := hG.1
    have hf0 : flagsOf rkcm12C L 0 = false := (flagsOf_at (C := rkcm12C) (j := 0) rfl L).trans (by
      cases hl : L 13 with
      | false => rfl
      | true => exact absurd (hcl 11 _ rfl (hcl 12 _ rfl (hcl 13 _ rfl (hl) ⟨12, .data⟩ (by simp [opsRkcm12]) rfl) ⟨11, .data⟩ (by simp [opsRkcm12]) rfl) ⟨10, .data⟩ (by simp [opsRkcm12]) rfl) (by rw [hLi]; decide))
    have hf1 : flagsOf rkcm12C L 1 = false := (flagsOf_at (C := rkcm12C) (j := 1) rfl L).trans (by
      cases hl : L 14 with
      | false => rfl
      | true => exact absurd (hcl 11 _ rfl (hcl 12 _ rfl (hcl 13 _ rfl (hcl 14 _ rfl (hl) ⟨13, .data⟩ (by simp [opsRkcm12]) rfl) ⟨12, .data⟩ (by simp [opsRkcm12]) rfl) ⟨11, .data⟩ (by simp [opsRkcm12]) rfl) ⟨10, .data⟩ (by simp [opsRkcm12]) rfl) (by rw [hLi]; decide))
    have hf2 : flagsOf rkcm12C L 2 = false := (flagsOf_at (C := rkcm12C) (j := 2) rfl L).trans (by
      cases hl : L 15 with
      | false => rfl
      | true => exact absurd (hcl 15 _ rfl (hl) ⟨10, .phase⟩ (by simp [opsRkcm12]) rfl) (by rw [hLi]; decide))
    have hfin := hK (.slice Av nv cv) w (hG.quiet 10 10 67 _ rfl (by kernel_rfl) (by kernel_rfl))
    have HK := Lib.hid hfin
    generalize (resOf rkcm12C fun t => a.eval (.tmp t)) = R at *
    generalize flagsOf rkcm12C L = f at *
    obtain ⟨q1, q2⟩ := hl0 _ _ _ hSp
    clear hkl hl0 hcv hv hb0 ha0 hm0 q1
    clear hSp
    clear hG hcl hdep hfr hK hfin hLi 
    go_simp
    exact HK.out
  | 11, ho =>
    simp only [opsRkcm12, List.getElem?_toArray, List.getElem?_cons_succ, List.getElem?_cons_zero, Option.some.injEq] at ho
    subst ho
    have x67 : a.tmps[67]?.getD undef = .slice Av nv cv := by rw [← ev]; exact hG.val 10 10 67 _ rfl (hdep ⟨10, .data⟩ (by simp) rfl)
    rw [if_pos (show Region.wanted _ _ = true from rfl)]
    have hSp := hG.1
    have hf0 : flagsOf rkcm12C L 0 = false := (flagsOf_at (C := rkcm12C) (j := 0) rfl L).trans (by
      cases hl : L 13 with
      | false => rfl
      | true => exact absurd (hcl 12 _ rfl (hcl 13 _ rfl (hl) ⟨12, .data⟩ (by simp [opsRkcm12]) rfl) ⟨11, .data⟩ (by simp [opsRkcm12]) rfl) (by rw [hLi]; decide))
    have hf1 : flagsOf rkcm12C L 1 = false := (flagsOf_at (C := rkcm12C) (j := 1) rfl L).trans (by
      cases hl : L 14 with
      | false => rfl
      | true => exact absurd (hcl 12 _ rfl (hcl 13 _ rfl (hcl 14 _ rfl (hl) ⟨13, .data⟩ (by simp [opsRkcm12]) rfl) ⟨12, .data⟩ (by simp [opsRkcm12]) rfl) ⟨11, .data⟩ (by simp [opsRkcm12]) rfl) (by rw [hLi]; decide))
    have hf2 : flagsOf rkcm12C L 2 = false := (flagsOf_at (C := rkcm12C) (j := 2) rfl L).trans (by
      cases hl : L 15 with
      | false => rfl
      | true => exact absurd (hcl 15 _ rfl (hl) ⟨11, .phase⟩ (by simp [opsRkcm12]) rfl) (by rw [hLi]; decide))
    have hfin := hK (.string vs) w (hG.quiet 11 11 68 _ rfl (by kernel_rfl) (by kernel_rfl))
    have HK := Lib.hid hfin
    generalize (resOf rkcm12C fun t => a.eval (.tmp t)) = R at *
    generalize flagsOf rkcm12C L = f at *
    have q1 := hcv _ _ _ hSp
    clear hkl hl0 hcv hv hb0 ha0 hm0
    clear hSp
    clear hG hcl hdep hfr hK hfin hLi 
    go_simp
    exact HK.out
  | 12, ho =>
    simp only [opsRkcm12, List.getElem?_toArray, List.getElem?_cons_succ, List.getElem?_cons_zero, Option.some.injEq] at ho
    subst ho
    have x62 : a.tmps[62]?.getD undef = .string key := by rw [← ev]; exact hG.val 5 5 62 _ rfl (hdep ⟨5, .data⟩ (by simp) rfl)
    have x68 : a.tmps[68]?.getD undef = .string vs := by rw [← ev]; exact hG.val 11 11 68 _ rfl (hdep ⟨11, .data⟩ (by simp) rfl)
    rw [if_pos (show Region.wanted _ _ = true from rfl)]
    have hfin := hK (.agg #[.string key, .string vs]) w (hG.quiet 12 12 69 _ rfl (by kernel_rfl) (by kernel_rfl))
    have HK := Lib.hid hfin
    clear hG hcl hdep hfr hK hfin hLi 
    go_simp
    exact HK.out
  | 13, ho =>
    simp only [opsRkcm12, List.getElem?_toArray, List.getElem?_cons_succ, List.getElem?_cons_zero, Option.some.injEq] at ho
    subst ho
    have x69 : a.tmps[69]?.getD undef = .agg #[.string key, .string vs] := by rw [← ev]; exact hG.val 12 12 69 _ rfl (hdep ⟨12, .data⟩ (by simp) rfl)
    rw [if_pos (show Region.wanted _ _ = true from rfl)]
    have hSj := hG.1
    have hf0 : flagsOf rkcm12C L 0 = false := (flagsOf_at (C := rkcm12C) (j := 0) rfl L).trans hLi
    have hf1 : flagsOf rkcm12C L 1 = false := (flagsOf_at (C := rkcm12C) (j := 1) rfl L).trans (by
      cases hl : L 14 with
      | false => rfl
      | true => exact absurd (hcl 14 _ rfl (hl) ⟨13, .data⟩ (by simp [opsRkcm12]) rfl) (by rw [hLi]; decide))
    have hf2 : flagsOf rkcm12C L 2 = false := (flagsOf_at (C := rkcm12C) (j := 2) rfl L).trans (by
      cases hl : L 15 with
      | false => rfl
      | true => exact absurd (hcl 15 _ rfl (hl) ⟨13, .phase⟩ (by simp [opsRkcm12]) rfl) (by rw [hLi]; decide))
    have hfin := fun v w' hs => hK v w' (hG.call 0 (13, 70) rfl (by kernel_rfl) v w' hs)
    have HK := Lib.hid hfin
    generalize (resOf rkcm12C fun t => a.eval (.tmp t)) = R at *
    generalize flagsOf rkcm12C L = f at *
    clear hG hcl hdep hfr hK hfin hLi
    have hs := hb0 _ _ _ hSj hf0 hf1
    have hk := HK.out _ _ hs
    have HK2 := Lib.hid hk
    clear hs hk HK hSj hkl hl0 hcv hv hb0 ha0 hm0
    go_simp
    exact HK2.out
  | 14, ho =>
    simp only [opsRkcm12, List.getElem?_toArray, List.getElem?_cons_succ, List.getElem?_cons_zero, Option.some.injEq] at ho
    subst ho
    have x57 : a.tmps[57]?.getD undef = .slice Am nm cm := by rw [← ev]; exact hG.val 0 0 57 _ rfl (hdep ⟨0, .data⟩ (by simp) rfl)
    rw [if_pos (show Region.wanted _ _ = true from rfl)]
    have hSj := hG.1
    have hf0 : flagsOf rkcm12C L 0 = true := (flagsOf_at (C := rkcm12C) (j := 0) rfl L).trans (hdep ⟨13, .data⟩ (by simp) rfl)
    have hf1 : flagsOf rkcm12C L 1 = false := (flagsOf_at (C := rkcm12C) (j := 1) rfl L).trans hLi
    have hf2 : flagsOf rkcm12C L 2 = false := (flagsOf_at (C := rkcm12C) (j := 2) rfl L).trans (by
      cases hl : L 15 with
      | false => rfl
      | true => exact absurd (hcl 15 _ rfl (hl) ⟨14, .data⟩ (by simp [opsRkcm12]) rfl) (by rw [hLi]; decide))
    have r70 : a.tmps[70]?.getD undef = resOf rkcm12C (fun t => a.eval (.tmp t)) 0 := by rw [← ev]; exact (resOf_at (C := rkcm12C) (j := 0) rfl a).symm
    have hfin := fun v w' hs => hK v w' (hG.call 1 (14, 71) rfl (by kernel_rfl) v w' hs)
    have HK := Lib.hid hfin
    generalize (resOf rkcm12C fun t => a.eval (.tmp t)) = R at *
    generalize flagsOf rkcm12C L = f at *
    clear hG hcl hdep hfr hK hfin hLi
    obtain ⟨v, w', hrun, hs⟩ := ha0 _ _ _ hSj hf0 hf1
    refine oper_append_run (.tmp 57) (.tmp 70) 43 rfl w _ _ (by rw [ev]; exact x57) (by rw [ev]; exact r70) v w' hrun (HK.out v w' hs)
  | 15, ho =>
    simp only [opsRkcm12, List.getElem?_toArray, List.getElem?_cons_succ, List.getElem?_cons_zero, Option.some.injEq] at ho
    subst ho
    rw [if_pos (show Region.wanted _ _ = true from rfl)]
    have hSj := hG.1
    have hf0 : flagsOf rkcm12C L 0 = true := (flagsOf_at (C := rkcm12C) (j := 0) rfl L).trans (hdep ⟨13, .phase⟩ (by simp) rfl)
    have hf1 : flagsOf rkcm12C L 1 = true := (flagsOf_at (C := rkcm12C) (j := 1) rfl L).trans (hdep ⟨14, .data⟩ (by simp) rfl)
    have hf2 : flagsOf rkcm12C L 2 = false := (flagsOf_at (C := rkcm12C) (j := 2) rfl L).trans hLi
    have r71 : a.tmps[71]?.getD undef = resOf rkcm12C (fun t => a.eval (.tmp t)) 1 := by rw [← ev]; exact (resOf_at (C := rkcm12C) (j := 1) rfl a).symm
    have hfin := fun v w' hs => hK v w' (hG.call 2 (15, 9) rfl (by kernel_rfl) v w' hs)
    have HK := Lib.hid hfin
    generalize (resOf rkcm12C fun t => a.eval (.tmp t)) = R at *
    generalize flagsOf rkcm12C L = f at *
    clear hG hcl hdep hfr hK hfin hLi
    have hs := hm0 _ _ _ hSj hf1 hf2
    have hk := HK.out _ _ hs
    have HK2 := Lib.hid hk
    clear hs hk HK hSj hkl hl0 hcv hv hb0 ha0 hm0
    go_simp
    exact HK2.out
  | n + 16, ho => exact absurd (Array.getElem?_eq_some_iff.1 ho).1 (by show ¬ n + 16 < 16; omega)
end Go.Proofs.Ytgpkdnnlgafenaa

namespace Go.Proofs.Ytgpkdnnlgafenaa
open Go.RowKit Kv
set_option linter.unusedVariables false

theorem rv_none {w : World} {m : List Pr} (h : RV w none m) : m = [] := Classical.byContradiction fun hn => by
  obtain ⟨g, o, e, _⟩ := h hn
  cases e
theorem RV.len0 {w : World} {A : Option Addr} {m : List Pr} (h : RV w A m) {n : Nat} (hn : n = m.length) : A = none → n = 0 := fun e => by
  subst e; rw [hn, rv_none h]; rfl
theorem Try.sizeRp : (Try.prog.info? 82).map (·.size) = some 2 := by kernel_rfl
theorem sizeOf_rp (w : World) : (Go.sizeOf 82).run Try.prog w = .ok 2 w := by
  have h := Try.sizeRp
  cases hi : Try.prog.info? 82 with
  | none => rw [hi] at h; cases h
  | some i =>
    rw [hi] at h
    simp only [Option.map_some, Option.some.injEq] at h
    simp [Go.sizeOf, typeInfo, hi, h]
/-- t.L[i:] -/
theorem rslice_lo {w : World} {A : Option Addr} {n c : Nat} {m : List Pr} (h : RRow w (.slice A n c) m) (hn : n = m.length) (i : Nat) (hi : i ≤ m.length) :
    ∃ A', (∀ W, (Instr.slice 43 (.slice A n c) (some (.int .i64 (i : Int))) none none).run Try.prog W = .ok (.slice A' (n - i) (c - i)) W) ∧ RV w A' (m.drop i) := by
  obtain ⟨A', h1, h2⟩ := run_slice_lo (P := Try.prog) (k := 2) Try.underlying43 sizeOf_rp A n c i (by omega)
  refine ⟨A', h1, fun hd => ?_⟩
  have hlt : i < m.length := by
    have := List.length_pos_iff.2 hd
    rw [List.length_drop] at this; omega
  obtain ⟨_, _, e, hnc, _⟩ := h.shape
  injection e with _ e1 e2
  subst e2
  obtain ⟨g, rfl, hg, _⟩ := h.get i hlt
  rw [h2 (by omega)]
  refine ⟨g, i * 2, by simp [add_to], hg, fun j hj => ?_⟩
  have hj' : i + j < m.length := by rw [List.length_drop] at hj; omega
  obtain ⟨g', e', _, k1, k2⟩ := h.get (i + j) hj'
  injection e' with e'; injection e' with e' _ _; subst e'
  rw [List.getElem_drop]
  have e1 : i * 2 + j * 2 = (i + j) * 2 := by omega
  rw [e1]
  exact ⟨k1, k2⟩
/-- t.L[:i] -/
theorem rslice_hi {w : World} {A : Option Addr} {n c : Nat} {m : List Pr} (h : RRow w (.slice A n c) m) (hn : n = m.length) (i : Nat) (hi : i ≤ m.length) :
    ∃ A', (∀ W, (Instr.slice 43 (.slice A n c) none (some (.int .i64 (i : Int))) none).run Try.prog W = .ok (.slice A' i c) W) ∧ RV w A' (m.take i) := by
  obtain ⟨_, _, e, hnc, _⟩ := h.shape
  injection e with e0 e1 e2
  subst e2
  refine ⟨if c = 0 then A else A.map (·.add (0 * 2)), fun W => ?_, fun hd => ?_⟩
  · have ht' : Try.prog.underlying 43 = some (.slice (Try.prog.elem 43)) := by simp [Program.elem, Try.underlying43]
    have he : Try.prog.elem 43 = 82 := by simp [Program.elem, Try.underlying43]
    rw [run_slice_h W _ A _ _ ht' .i64 _ (by omega) (by omega), he, sizeOf_rp]
    simp [Result.andThen, sliced]
  · have hpos : 0 < m.length := by
      have := List.length_pos_iff.2 hd
      rw [List.length_take] at this; omega
    obtain ⟨g, rfl, hg, _⟩ := h.get 0 hpos
    refine ⟨g, 0, by rw [if_neg (by omega)]; simp [add_to], hg, fun j hj => ?_⟩
    have hj' : j < m.length := by rw [List.length_take] at hj; omega
    obtain ⟨g', e', _, k1, k2⟩ := h.get j hj'
    injection e' with e'; injection e' with e' _ _; subst e'
    rw [List.getElem_take, Nat.zero_add]
    exact ⟨k1, k2⟩

/-- A pair being put behind the row vm. -/
structure CmS (wp : World) (vm : Value) (m1 : List Pr) (e : Pr) (f : Nat → Bool) (R : Nat → Value) (w : World) : Prop where
  only : Only (blk vm) wp w
  row : f 1 = false → RRow w vm m1
  lit : f 0 = true → f 1 = false → ∃ b, R 0 = .slice (some ⟨b, 0, none⟩) 1 1 ∧ RV w (some ⟨b, 0, none⟩) [e]
  fin : f 1 = true → ∃ A c L, R 1 = .slice A L.length c ∧ Hid (L = m1 ++ [e]) ∧ RRow w (.slice A L.length c) L ∧ ∀ b, b ∈ blk (.slice A L.length c) → b ∈ blk vm ∨ wp.heap.size ≤ b
  r2 : (f 2 = false → R 2 = vm) ∧ (f 2 = true → f 1 = true ∧ R 2 = R 1)
theorem cm_run {Q : Exit → Act → World → Prop} {a0 : Act} {wp : World} (g o k nl c0 nm cm nv cv : Nat) (Am Av : Option Addr) (key : ByteArray) (val : List UInt8) (m1 : List Pr) (hnv : nv = val.length) (hkl : (k : Int) < (nl : Int)) (hm : RRow wp (.slice Am nm cm) m1) (hlen : m1.length ≤ 100000)
    (hcell : wp.cell? ⟨g, o + k * 3, none⟩ = some (.string key) ∧ wp.cell? ⟨g, o + k * 3 + 1, none⟩ = some (.slice Av nv cv)) (hg : g < wp.heap.size ∧ g ∉ blk (.slice Am nm cm)) (hs : SeesX wp wp.heap.size (blk (.slice Am nm cm)) Av val)
    (hsz : 71 < a0.tmps.size) (in1 : a0.eval (.tmp 1) = .slice (some ⟨g, o, none⟩) nl c0) (in5 : a0.eval (.tmp 5) = .int .i64 (k : Int)) (in9 : a0.eval (.tmp 9) = .slice Am nm cm)
    (fin : ∀ a w A c L, Fr [57, 58, 59, 60, 61, 62, 63, 64, 65, 66, 67, 68, 69, 70, 71, 9] a0 a → a.eval (.tmp 9) = .slice A L.length c → Hid (L = m1 ++ [(key, val)]) → RRow w (.slice A L.length c) L → Only (blk (.slice Am nm cm)) wp w → (∀ b, b ∈ blk (.slice A L.length c) → b ∈ blk (.slice Am nm cm) ∨ wp.heap.size ≤ b) → Q .normal a w) :
    (Code.region 12 opsRkcm12 true).wp Try.prog Q a0 wp := by
  have hnm : nm = m1.length := by
    obtain ⟨_, _, e, _⟩ := hm.shape
    injection e
  refine rkcm12 g o k nl c0 nm cm nv cv Am Av key (bstr val) (CmS wp (.slice Am nm cm) m1 (key, val)) hsz in1 in5 hkl ?_ ?_ ?_ ?_ ?_ ?_ ?_ ?_
  · intro f R w hS
    exact ⟨(hS.only.cell (a := ⟨g, o + k * 3, none⟩) hg.1 hg.2).trans hcell.1, (hS.only.cell (a := ⟨g, o + k * 3 + 1, none⟩) hg.1 hg.2).trans hcell.2⟩
  · intro f R w hS
    exact run_sees_string (P := Try.prog) w 27 9 5 Try.underlying27 Try.underlying5 Try.underlying9 (hs.only hS.only (Nat.le_refl _)).sees nv cv hnv
  · intro f R w hS h2; exact hS.r2.1 h2
  · intro f R w hS h0 h1
    have hba : Below w.heap.size w (w.alloc (.cells #[.string key, .string (bstr val)] 82)) := (Below.refl _ _).alloc (Nat.le_refl _) _
    have hcell : ∀ j, (w.alloc (.cells #[.string key, .string (bstr val)] 82)).cell? ⟨w.heap.size, j, none⟩ = (#[Value.string key, .string (bstr val)])[j]? := fun j => by simp only [World.cell?, heap_alloc_new]; rfl
    refine ⟨hS.only.trans (Only.of_below hba), fun _ => (hS.row h1).below hba, fun _ _ => ⟨w.heap.size, setR_self .., fun _ => ⟨w.heap.size, 0, rfl, by simp, fun j hj => ?_⟩⟩, fun h => ?_, ?_⟩
    · match j, hj with
      | 0, _ => exact ⟨(hcell _).trans rfl, (hcell _).trans rfl⟩
      | j + 1, hj => exact absurd hj (by simp)
    · rw [setF_ne _ (by decide), h1] at h; cases h
    · rw [setF_ne _ (by decide), setF_ne _ (by decide), setR_ne _ _ (by decide), setR_ne _ _ (by decide)]; exact hS.r2
  · intro f R w hS h0 h1
    obtain ⟨b, e1, e2⟩ := hS.lit h0 h1
    obtain ⟨A', c', L, W, hL, hrun, hr, ho, hg'⟩ := rrow_app w (.slice Am nm cm) m1 (hS.row h1) (some ⟨b, 0, none⟩) 1 1 [(key, val)] rfl e2 (fun h => by cases h) (by simp; omega)
    refine ⟨_, W, by rw [e1]; exact hrun, hS.only.trans ho, (fun h => by rw [setF_self] at h; cases h), (fun _ h => by rw [setF_self] at h; cases h), fun _ => ⟨A', c', L, setR_self .., hL, hr, fun x hx => (hg' x hx).imp id (fun h' => Nat.le_trans hS.only.size h')⟩, ?_⟩
    rw [setF_ne _ (by decide), setR_ne _ _ (by decide)]
    refine ⟨hS.r2.1, fun h => ?_⟩
    have h9 := (hS.r2.2 h).1
    rw [h1] at h9; cases h9
  · intro f R w hS h1 h2
    refine ⟨hS.only, (fun h => by rw [setF_ne _ (by decide)] at h; exact hS.row h), (fun h h' => by rw [setF_ne _ (by decide)] at h h'; rw [h1] at h'; cases h'), (fun _ => by rw [setR_ne _ _ (by decide)]; exact hS.fin h1), (fun h => by rw [setF_self] at h; cases h), fun _ => ⟨by rw [setF_ne _ (by decide)]; exact h1, by rw [setR_self, setR_ne _ _ (by decide)]⟩⟩
  · exact ⟨Only.of_below (Below.refl _ _).drew, fun _ => hm, (fun h => by cases h), (fun h => by cases h), (fun _ => (resOf_at (C := rkcm12C) (j := 2) rfl a0).trans in9), (fun h => by cases h)⟩
  · intro a w f hfr hall hS
    obtain ⟨A, c, L, q1, q2, q3, q4⟩ := hS.fin (hall 1 (by decide))
    exact fin a w A c L hfr (((resOf_at (C := rkcm12C) (j := 2) rfl a).symm.trans (hS.r2.2 (hall 2 (by decide))).2).trans q1) q2 q3 hS.only q4
end Go.Proofs.Ytgpkdnnlgafenaa

namespace Go.Proofs.Ytgpkdnnlgafenaa
open Go.RowKit Kv
set_option linter.unusedVariables false

def RComEnd (t : Nat) (m : List Pr) (l : List Pt) (w : World) (e : Ending) (w' : World) : Prop :=
  (may l = true ∧ e = .returned (.int .i64 0) ∧ ∃ v', RTab w' t v' (steps m l) ∧ Only [t] w w') ∨ (may l = false ∧ e = .returned (.int .i64 1) ∧ Below w.heap.size w w')
/-- The new row is laid into the table. -/
theorem rtail {wr w2 W : World} {t : Nat} {v : Value} {mk : List Pr} (h : RTab wr t v mk) (hb2 : Below wr.heap.size wr w2) (hW : Below w2.heap.size w2 W) (A' : Option Addr) (c' : Nat) (L' : List Pr) (hr : RRow W (.slice A' L'.length c') L') (hhi : ∀ b, b ∈ blk (.slice A' L'.length c') → w2.heap.size ≤ b)
    (Ar : Option Addr) (nr cr : Nat) (d : List Pr) (hn : nr = d.length) (hrv : RV w2 Ar d) (hl : L'.length + d.length ≤ 1000000) :
    ∃ A5 c5 L5 w5, (Builtin.append_ #[43, 43] 43 #[.slice A' L'.length c', .slice Ar nr cr]).run Try.prog W = .ok (.slice A5 L5.length c5) w5 ∧ (w5.cell? ⟨t, 0, none⟩ = some v ∧ w5.frozen? ⟨t, 0, none⟩ = false) ∧
      Hid (L5 = L' ++ d ∧ RTab (w5.setCell ⟨t, 0, none⟩ (.slice A5 L5.length c5)) t (.slice A5 L5.length c5) L5 ∧ Only [t] wr (w5.setCell ⟨t, 0, none⟩ (.slice A5 L5.length c5))) := by
  have hrv' := hrv.below hW
  obtain ⟨A5, c5, L5, w5, hL5, hrun, hr5, ho5, hg5⟩ := rrow_app W _ L' hr Ar nr cr d hn hrv' (hrv'.len0 hn) hl
  have hb5 : Below w2.heap.size w2 w5 := hW.trans (ho5.below hW.size hhi)
  have hbw : Below wr.heap.size wr w5 := hb2.trans (hb5.mono hb2.size)
  have htl : t < wr.heap.size := (Array.getElem?_eq_some_iff.1 h.head).1
  have hd5 : w5.heap[t]? = some (.cells #[v] 45 (0, 0)) := by rw [hbw.block t htl]; exact h.head
  have hnt : t ∉ blk (.slice A5 L5.length c5) := fun hm => by
    rcases hg5 t hm with h1 | h1
    · have := hhi t h1; have := hb2.size; omega
    · have := hW.size; have := hb2.size; omega
  have hset : Only [t] w5 (w5.setCell ⟨t, 0, none⟩ (.slice A5 L5.length c5)) := only_setCell w5 ⟨t, 0, none⟩ _
  refine ⟨A5, c5, L5, w5, hrun, ⟨by simp [World.cell?, hd5], by simp [World.frozen?, hd5]⟩, Lib.hid ⟨hL5.out, ⟨?_, own_only hr5 hset (fun k hk hS => ?_)⟩, (Only.of_below hbw).trans hset⟩⟩
  · have := setCell_heap hd5 0 (.slice A5 L5.length c5)
    simpa using this
  · rw [List.mem_singleton] at hS; subst hS
    exact hnt (mem_blk.2 hk)

set_option maxHeartbeats 4000000 in
set_option maxRecDepth 100000 in
theorem rcommit_any (w : World) (t : Nat) (v : Value) (m : List Pr) (A : Option Addr) (n c : Nat) (l : List Pt) (h : RTab w t v m) (hlen : m.length + l.length ≤ 1000) (hn : n = l.length) (hp : Puts w w.heap.size [t] A l) (hk : ∀ x ∈ l, x.k.size ≤ maxLen) :
    Calls Try.prog 18 #[.pointer (some ⟨t, 0, none⟩), .slice A n c] w (RComEnd t m l w) := by
  subst hn
  obtain ⟨B, HB⟩ : ∃ B, Hid (B = may l) := ⟨_, Lib.hid rfl⟩
  have HA := Lib.hid (rmay_any A l.length c l [t] w rfl (by unfold maxLen; omega) hp hk B HB.out)
  have HT := Lib.hid h
  have HP := Lib.hid hp
  have hlI : (l.length : Int) ≤ 1000 := by omega
  obtain ⟨w0, rfl⟩ : ∃ w0, w0 = w := ⟨_, rfl⟩
  clear h hp
  go_enter Try.func18, Try.ntmps18
  go_wp2_with fail
  refine HA.out.mono ?_
  rintro e w1 ⟨rfl, hb1⟩
  cases B with
  | false =>
    have key : RComEnd t m l w0 (.returned (.int .i64 1)) w1 := .inr ⟨HB.out.symm, rfl, hb1⟩
    have KEY := Lib.hid key
    clear key hb1
    go_wp2
    go_ret
    exact KEY.out
  | true =>
    have HB1 := Lib.hid hb1
    clear hb1
    go_wp2
    go_loopw [5] (fun i wr => ∃ (k : Nat) (vk : Value), k ≤ l.length ∧ i = .int .i64 k ∧ Hid (RTab wr t vk (steps m (l.take k)) ∧ Only [t] w0 wr)) (fun i _ => l.length - (intOf i).toNat)
    case atStart => exact ⟨0, v, Nat.zero_le _, rfl, Lib.hid ⟨by simpa [steps] using HT.out.below HB1.out, Only.of_below HB1.out⟩⟩
    case round =>
      obtain ⟨k, vk, hk, rfl, HI⟩ := hrel
      by_cases hlt : k < l.length
      · obtain ⟨htr, ho⟩ := HI.out
        have hpw : Puts wr w0.heap.size [t] A l := HP.out.only ho (Nat.le_refl _)
        obtain ⟨g, o, rfl, hg0, hgt, hat⟩ := hpw (by intro e; rw [e] at hlt; simp at hlt)
        obtain ⟨k1, ⟨Av, cv, k2, k4, k5, k6⟩, k3⟩ := hat k hlt
        have hgw : g < wr.heap.size := Nat.lt_of_lt_of_le hg0 ho.size
        have hkI : (k : Int) < (l.length : Int) := by omega
        have hst := steps_take m l k hlt
        obtain ⟨mk, Hmk⟩ : ∃ mk, Hid (mk = steps m (l.take k)) := ⟨_, Lib.hid rfl⟩
        rw [← Hmk.out] at htr hst
        have hmk : mk.length ≤ 1000 := by
          have := steps_length (l.take k) m
          rw [List.length_take] at this
          rw [Hmk.out]; omega
        obtain ⟨x, Hx⟩ : ∃ x, Hid (x = l[k]) := ⟨_, Lib.hid rfl⟩
        rw [← Hx.out] at k1 k2 k3 k4 k6 hst
        obtain ⟨kk, val, gg⟩ := x
        simp only at k1 k2 k3 k4 k6
        obtain ⟨Ak, ck, rfl, _, _⟩ := htr.row.shape
        obtain ⟨P, HPp⟩ : ∃ P, Hid (P = pos mk kk) := ⟨_, Lib.hid rfl⟩
        obtain ⟨H, HHh⟩ : ∃ H, Hid (H = hit mk kk) := ⟨_, Lib.hid rfl⟩
        have HF := Lib.hid (rfind_any wr t _ mk kk htr (by omega) P HPp.out H HHh.out)
        have hPle : P ≤ mk.length := by rw [HPp.out]; exact pos_le _ _
        have HTR := Lib.hid htr
        have HO := Lib.hid ho
        have HK6 := Lib.hid k6
        have HST := Lib.hid hst
        have hmI : (mk.length : Int) ≤ 1000 := by omega
        clear htr ho hpw hat k4 k5 k6 hst HI
        go_wp2_with fail
        refine HF.out.mono ?_
        rintro e w2 ⟨rfl, hb2⟩
        have ht2 := HTR.out.below hb2
        have hc2 : w2.cell? ⟨t, 0, none⟩ = some (.slice Ak mk.length ck) := by simp [World.cell?, ht2.head]
        have htw : t < w2.heap.size := (Array.getElem?_eq_some_iff.1 ht2.head).1
        obtain ⟨A1, hs1, hv1⟩ := rslice_lo ht2.row rfl P hPle
        obtain ⟨A3, hs3, hv3⟩ := rslice_hi ht2.row rfl P hPle
        have hba : Below w2.heap.size w2 (w2.alloc (.cells #[] 82)) := (Below.refl _ _).alloc (Nat.le_refl _) _
        obtain ⟨A4, c4, L4, w3, HL4, hap, hr3, ho3, hg3⟩ := rrow_app (w2.alloc (.cells #[] 82)) _ [] (RRow.new0 w2) A3 P ck (mk.take P) (by rw [List.length_take]; omega) (hv3.below hba) ((hv3.below hba).len0 (by rw [List.length_take]; omega)) (by simp; omega)
        have hhi3 : ∀ b, b ∈ blk (.slice A4 L4.length c4) → w2.heap.size ≤ b := fun b hb => by
          rcases hg3 b hb with h1 | h1
          · simp [blk, Value.ownBlock] at h1; omega
          · simp at h1; omega
        have hb3 : Below w2.heap.size w2 w3 := hba.trans (ho3.below (by simp) (fun b hb => by simp [blk, Value.ownBlock] at hb; omega))
        have hb3w : Below wr.heap.size wr w3 := hb2.trans (hb3.mono hb2.size)
        have hL4 : L4.length ≤ 1000 := by rw [HL4.out]; simp; omega
        have z1 : w3.cell? ⟨g, o + k * 3, none⟩ = some (.string kk) := (hb3w.cell (p := ⟨g, o + k * 3, none⟩) hgw).trans k1
        have z2 : w3.cell? ⟨g, o + k * 3 + 1, none⟩ = some (.slice Av val.length cv) := (hb3w.cell (p := ⟨g, o + k * 3 + 1, none⟩) hgw).trans k2
        have z3 : w3.cell? ⟨g, o + k * 3 + 2, none⟩ = some (.bool gg) := (hb3w.cell (p := ⟨g, o + k * 3 + 2, none⟩) hgw).trans k3
        have HAP := Lib.hid hap
        -- what the end of a round leaves
        have HTAIL : Hid (∀ (W : World) (A' : Option Addr) (c' : Nat) (L' : List Pr) (Ar : Option Addr) (nr cr : Nat) (d : List Pr), Below w2.heap.size w2 W → RRow W (.slice A' L'.length c') L' → (∀ b, b ∈ blk (.slice A' L'.length c') → w2.heap.size ≤ b) → nr = d.length → RV w2 Ar d → L'.length + d.length ≤ 1000000 → L' ++ d = Kv.step mk ⟨kk, val, gg⟩ →
            ∃ (A5 : Option Addr) (c5 : Nat) (L5 : List Pr) (w5 : World), (Builtin.append_ #[43, 43] 43 #[.slice A' L'.length c', .slice Ar nr cr]).run Try.prog W = .ok (.slice A5 L5.length c5) w5 ∧ (w5.cell? ⟨t, 0, none⟩ = some (.slice Ak mk.length ck) ∧ w5.frozen? ⟨t, 0, none⟩ = false) ∧
              Hid (∃ vk, RTab (w5.setCell ⟨t, 0, none⟩ (.slice A5 L5.length c5)) t vk (steps m (l.take (k + 1))) ∧ Only [t] w0 (w5.setCell ⟨t, 0, none⟩ (.slice A5 L5.length c5)))) :=
          Lib.hid (fun W A' c' L' Ar nr cr d h1 h2 h3 h4 h5 h6 h7 => by
            obtain ⟨A5, c5, L5, w5, q1, q2, q3⟩ := rtail HTR.out hb2 h1 A' c' L' h2 h3 Ar nr cr d h4 h5 h6
            refine ⟨A5, c5, L5, w5, q1, q2, Lib.hid ⟨.slice A5 L5.length c5, ?_, HO.out.trans q3.out.2.2⟩⟩
            rw [HST.out, ← h7, ← q3.out.1]; exact q3.out.2.1)
        -- the row behind which the rest is put
        have HSTEP : Hid (Kv.step mk ⟨kk, val, gg⟩ = mk.take P ++ (if gg then [] else [(kk, val)]) ++ mk.drop (if H then P + 1 else P)) := Lib.hid (by rw [HPp.out, HHh.out]; rfl)
        have hrest : ∃ Ar nr cr, (H = false → (Ar, nr, cr) = (A1, mk.length - P, ck - P)) ∧ (H = true → (∀ W, (Instr.slice 43 (.slice Ak mk.length ck) (some (.int .i64 ((P : Int) + 1))) none none).run Try.prog W = .ok (.slice Ar nr cr) W)) ∧ nr = (mk.drop (if H then P + 1 else P)).length ∧ RV w2 Ar (mk.drop (if H then P + 1 else P)) := by
          cases H with
          | false => exact ⟨A1, _, _, fun _ => rfl, (fun h => by cases h), by simp, hv1⟩
          | true =>
            have hlt2 : P < mk.length := by rw [HPp.out]; exact (hit_lt HHh.out.symm).1
            obtain ⟨A2, hs2, hv2⟩ := rslice_lo ht2.row rfl (P + 1) (by omega)
            rw [show ((P + 1 : Nat) : Int) = (P : Int) + 1 from by omega] at hs2
            exact ⟨A2, _, _, (fun h => by cases h), fun _ => hs2, by simp, hv2⟩
        obtain ⟨Ar, nr, cr, hr0, hr1, hnr, hrv⟩ := hrest
        have hPI : (P : Int) ≤ (mk.length : Int) := by omega
        have HNR2 : Hid (nr ≤ mk.length ∧ (mk.drop (if H then P + 1 else P)).length ≤ mk.length) := Lib.hid ⟨by rw [hnr, List.length_drop]; omega, by rw [List.length_drop]; omega⟩
        have HNR := Lib.hid hnr
        have HRV := Lib.hid hrv
        have HB3 := Lib.hid hb3
        have HR3 := Lib.hid hr3
        have HHI3 := Lib.hid hhi3
        have HL4L := Lib.hid hL4
        have HGW : Hid (g < w3.heap.size ∧ g ∉ blk (.slice A4 L4.length c4)) := Lib.hid ⟨by have := hb3w.size; omega, fun hm => by have := hhi3 g hm; have := hb2.size; omega⟩
        have HSX : Hid (SeesX w3 w3.heap.size (blk (.slice A4 L4.length c4)) Av val) := Lib.hid (fun hn => by
          obtain ⟨g2, o2, e, h1, _, h2⟩ := HK6.out hn
          have hw := HO.out.size
          exact ⟨g2, o2, e, by have := hb3w.size; omega, fun hm => by have := hhi3 g2 hm; have := hb2.size; omega, fun j hj => (hb3w.cell (p := ⟨g2, o2 + j, none⟩) (by show g2 < _; omega)).trans (h2 j hj)⟩)
        clear hnr hrv hb3 hr3 hhi3 hL4 hb3w hg3 ho3 hba hb2 ht2 hv1 hv3 hap HF hmk
        cases H with
        | false =>
          have e0 := hr0 rfl
          simp only [Prod.mk.injEq] at e0
          rw [← e0.1, ← e0.2.1, ← e0.2.2] at hs1
          clear hr0 hr1 e0
          cases gg with
          | true =>
            obtain ⟨A5, c5, L5, w5, q1, ⟨q2, q3⟩, q4⟩ := HTAIL.out w3 A4 c4 L4 Ar nr cr _ HB3.out HR3.out HHI3.out HNR.out HRV.out (by have := HL4L.out; have := HNR2.out; omega) (by rw [HSTEP.out, HL4.out]; simp)
            have HQ := Lib.hid q1
            clear q1
            go_wp2_with (at_builtin; first | refine wpList_append_run rfl _ _ 43 rfl _ (.slice (some ⟨w2.heap.size, 0, none⟩) 0 0) (.slice A3 P ck) rfl rfl (.slice A4 L4.length c4) w3 (by exact HAP.out) ?_ | refine wpList_append_run rfl _ _ 43 rfl _ (.slice A4 L4.length c4) (.slice Ar nr cr) rfl rfl (.slice A5 L5.length c5) w5 (by exact HQ.out) ?_)
            go_roundw
            case rel =>
              obtain ⟨vk, q⟩ := q4.out
              exact ⟨k + 1, vk, by omega, by go_num, Lib.hid q⟩
            case measure => simp [intOf]; omega
          | false =>
            go_wp2_with (at_builtin; refine wpList_append_run rfl _ _ 43 rfl _ (.slice (some ⟨w2.heap.size, 0, none⟩) 0 0) (.slice A3 P ck) rfl rfl (.slice A4 L4.length c4) w3 (by exact HAP.out) ?_)
            refine cm_run g o k l.length c L4.length c4 val.length cv A4 Av kk val L4 rfl hkI HR3.out (by have := HL4L.out; omega) ⟨z1, z2⟩ HGW.out HSX.out (by show 71 < 78; omega) rfl rfl rfl ?_
            intro af w4 A6 c6 L6 hfr h9 hL6 hr6 ho6 hg6
            have hhi6 : ∀ b, b ∈ blk (.slice A6 L6.length c6) → w2.heap.size ≤ b := fun b hb => (hg6 b hb).elim (HHI3.out b) (fun h' => Nat.le_trans HB3.out.size h')
            have hb4 : Below w2.heap.size w2 w4 := HB3.out.trans (ho6.below HB3.out.size HHI3.out)
            obtain ⟨A5, c5, L5, w5, q1, ⟨q2, q3⟩, q4⟩ := HTAIL.out w4 A6 c6 L6 Ar nr cr _ hb4 hr6 hhi6 HNR.out HRV.out (by have := HL4L.out; have := HNR2.out; have h7 := congrArg List.length hL6.out; simp at h7; omega) (by rw [HSTEP.out, hL6.out, HL4.out]; simp)
            have HQ := Lib.hid q1
            clear q1 hL6 hr6 ho6 hg6 hhi6 hb4
            have ha := hfr.eq (by intro t ht; simp at ht; show t < 78; omega)
            simp only [List.foldl_cons, List.foldl_nil] at ha
            clear hfr
            rw [h9] at ha
            clear h9
            generalize af.eval (.tmp 57) = u57 at ha
            generalize af.eval (.tmp 58) = u58 at ha
            generalize af.eval (.tmp 59) = u59 at ha
            generalize af.eval (.tmp 60) = u60 at ha
            generalize af.eval (.tmp 61) = u61 at ha
            generalize af.eval (.tmp 62) = u62 at ha
            generalize af.eval (.tmp 63) = u63 at ha
            generalize af.eval (.tmp 64) = u64 at ha
            generalize af.eval (.tmp 65) = u65 at ha
            generalize af.eval (.tmp 66) = u66 at ha
            generalize af.eval (.tmp 67) = u67 at ha
            generalize af.eval (.tmp 68) = u68 at ha
            generalize af.eval (.tmp 69) = u69 at ha
            generalize af.eval (.tmp 70) = u70 at ha
            generalize af.eval (.tmp 71) = u71 at ha
            subst ha
            simp only [Act.put, List.setIfInBounds_toArray, List.set_cons_zero, List.set_cons_succ]
            go_wp2_with (at_builtin; refine wpList_append_run rfl _ _ 43 rfl _ (.slice A6 L6.length c6) (.slice Ar nr cr) rfl rfl (.slice A5 L5.length c5) w5 (by exact HQ.out) ?_)
            go_roundw
            case rel =>
              obtain ⟨vk, q⟩ := q4.out
              exact ⟨k + 1, vk, by omega, by go_num, Lib.hid q⟩
            case measure => simp [intOf]; omega
        | true =>
          have hs2 := hr1 rfl
          clear hr0 hr1
          cases gg with
          | true =>
            obtain ⟨A5, c5, L5, w5, q1, ⟨q2, q3⟩, q4⟩ := HTAIL.out w3 A4 c4 L4 Ar nr cr _ HB3.out HR3.out HHI3.out HNR.out HRV.out (by have := HL4L.out; have := HNR2.out; omega) (by rw [HSTEP.out, HL4.out]; simp)
            have HQ := Lib.hid q1
            clear q1
            go_wp2_with (at_builtin; first | refine wpList_append_run rfl _ _ 43 rfl _ (.slice (some ⟨w2.heap.size, 0, none⟩) 0 0) (.slice A3 P ck) rfl rfl (.slice A4 L4.length c4) w3 (by exact HAP.out) ?_ | refine wpList_append_run rfl _ _ 43 rfl _ (.slice A4 L4.length c4) (.slice Ar nr cr) rfl rfl (.slice A5 L5.length c5) w5 (by exact HQ.out) ?_)
            go_roundw
            case rel =>
              obtain ⟨vk, q⟩ := q4.out
              exact ⟨k + 1, vk, by omega, by go_num, Lib.hid q⟩
            case measure => simp [intOf]; omega
          | false =>
            go_wp2_with (at_builtin; refine wpList_append_run rfl _ _ 43 rfl _ (.slice (some ⟨w2.heap.size, 0, none⟩) 0 0) (.slice A3 P ck) rfl rfl (.slice A4 L4.length c4) w3 (by exact HAP.out) ?_)
            refine cm_run g o k l.length c L4.length c4 val.length cv A4 Av kk val L4 rfl hkI HR3.out (by have := HL4L.out; omega) ⟨z1, z2⟩ HGW.out HSX.out (by show 71 < 78; omega) rfl rfl rfl ?_
            intro af w4 A6 c6 L6 hfr h9 hL6 hr6 ho6 hg6
            have hhi6 : ∀ b, b ∈ blk (.slice A6 L6.length c6) → w2.heap.size ≤ b := fun b hb => (hg6 b hb).elim (HHI3.out b) (fun h' => Nat.le_trans HB3.out.size h')
            have hb4 : Below w2.heap.size w2 w4 := HB3.out.trans (ho6.below HB3.out.size HHI3.out)
            obtain ⟨A5, c5, L5, w5, q1, ⟨q2, q3⟩, q4⟩ := HTAIL.out w4 A6 c6 L6 Ar nr cr _ hb4 hr6 hhi6 HNR.out HRV.out (by have := HL4L.out; have := HNR2.out; have h7 := congrArg List.length hL6.out; simp at h7; omega) (by rw [HSTEP.out, hL6.out, HL4.out]; simp)
            have HQ := Lib.hid q1
            clear q1 hL6 hr6 ho6 hg6 hhi6 hb4
            have ha := hfr.eq (by intro t ht; simp at ht; show t < 78; omega)
            simp only [List.foldl_cons, List.foldl_nil] at ha
            clear hfr
            rw [h9] at ha
            clear h9
            generalize af.eval (.tmp 57) = u57 at ha
            generalize af.eval (.tmp 58) = u58 at ha
            generalize af.eval (.tmp 59) = u59 at ha
            generalize af.eval (.tmp 60) = u60 at ha
            generalize af.eval (.tmp 61) = u61 at ha
            generalize af.eval (.tmp 62) = u62 at ha
            generalize af.eval (.tmp 63) = u63 at ha
            generalize af.eval (.tmp 64) = u64 at ha
            generalize af.eval (.tmp 65) = u65 at ha
            generalize af.eval (.tmp 66) = u66 at ha
            generalize af.eval (.tmp 67) = u67 at ha
            generalize af.eval (.tmp 68) = u68 at ha
            generalize af.eval (.tmp 69) = u69 at ha
            generalize af.eval (.tmp 70) = u70 at ha
            generalize af.eval (.tmp 71) = u71 at ha
            subst ha
            simp only [Act.put, List.setIfInBounds_toArray, List.set_cons_zero, List.set_cons_succ]
            go_wp2_with (at_builtin; refine wpList_append_run rfl _ _ 43 rfl _ (.slice A6 L6.length c6) (.slice Ar nr cr) rfl rfl (.slice A5 L5.length c5) w5 (by exact HQ.out) ?_)
            go_roundw
            case rel =>
              obtain ⟨vk, q⟩ := q4.out
              exact ⟨k + 1, vk, by omega, by go_num, Lib.hid q⟩
            case measure => simp [intOf]; omega
      · obtain rfl : k = l.length := by omega
        obtain ⟨h1, h2⟩ := HI.out
        rw [List.take_length] at h1
        have key : RComEnd t m l w0 (.returned (.int .i64 0)) wr := .inl ⟨HB.out.symm, rfl, vk, h1, h2⟩
        have KEY := Lib.hid key
        clear key h1 h2 HI
        go_wp2
        go_ret
        exact KEY.out
end Go.Proofs.Ytgpkdnnlgafenaa

namespace Go.Proofs.Ytgpkdnnlgafenaa
open Go.RowKit Kv
set_option linter.unusedVariables false

theorem bstr_inj {a b : List UInt8} (h : bstr a = bstr b) : a = b := by
  unfold bstr at h
  injection h with h
  simpa using congrArg Array.toList h
theorem list_ne {α : Type} {a b : List α} (k : Nat) (h1 : k < a.length) (h2 : k < b.length) (h : a[k] ≠ b[k]) : a ≠ b := fun e => by
  subst e; exact h rfl

set_option maxHeartbeats 3200000 in
set_option maxRecDepth 100000 in
theorem pairs_eq (w : World) (A : Option Addr) (n c : Nat) (L : List Ent) (A2 : Option Addr) (n2 c2 : Nat) (m : List Pr) (hn : n = L.length) (hn2 : n2 = m.length) (hm : n ≤ 1000000) (hm2 : n2 ≤ 1000000) (ha : PRow w (.slice A n c) L) (hb : RRow w (.slice A2 n2 c2) m) (r : Bool) (hr : r = decide (L.map Ent.pr = m)) :
    Calls Try.prog 23 #[.slice A n c, .slice A2 n2 c2] w fun e w' => e = .returned (.bool r) ∧ Below w.heap.size w w' := by
  subst hn hn2
  have HR := Lib.hid hr
  have HA := Lib.hid ha
  have HB := Lib.hid hb
  have hlI : (L.length : Int) ≤ 1000000 := by omega
  have hlI2 : (m.length : Int) ≤ 1000000 := by omega
  clear hr ha hb
  by_cases hl : L.length = m.length
  · have hlb : ((L.length : Int) != (m.length : Int)) = false := by rw [hl]; simp
    have HL := Lib.hid hl
    clear hl
    go_enter Try.func23, Try.ntmps23
    go_wp2
    go_loopw [5] (fun i wr => ∃ k : Nat, k ≤ L.length ∧ i = .int .i64 k ∧ Hid (∀ j (hj : j < k) (h1 : j < L.length) (h2 : j < m.length), Ent.pr L[j] = m[j]) ∧ Hid (Below w.heap.size w wr)) (fun i _ => L.length - (intOf i).toNat)
    case atStart => exact ⟨0, Nat.zero_le _, rfl, Lib.hid (fun j hj => absurd hj (by omega)), Lib.hid (Below.refl _ _)⟩
    case round =>
      obtain ⟨k, hk, rfl, HEQ, HBW⟩ := hrel
      by_cases hlt : k < L.length
      · have hlt2 : k < m.length := by have := HL.out; omega
        have hkI : (k : Int) < (L.length : Int) := by omega
        have hkI2 : (k : Int) < (m.length : Int) := by omega
        obtain ⟨g, A', c', rfl, hg, y1, y2, y4, y5, y3⟩ := (HA.out.below HBW.out).get k hlt
        obtain ⟨g2, rfl, hg2, z1, z2⟩ := (HB.out.below HBW.out).get k hlt2
        have hcv : ∀ q, (convert 27 9 (.slice A' L[k].l.length c')).run Try.prog (wr.drewN q) = .ok (.string (bstr L[k].l)) (wr.drewN q) := fun q =>
          run_sees_string (P := Try.prog) (wr.drewN q) 27 9 5 Try.underlying27 Try.underlying5 Try.underlying9 (y3.drewN q) _ c' rfl
        have HYES : Hid (L[k].k = m[k].1 → bstr L[k].l = bstr m[k].2 → Hid (∀ j (hj : j < k + 1) (h1 : j < L.length) (h2 : j < m.length), Ent.pr L[j] = m[j])) := Lib.hid (fun h1 h2 => Lib.hid (fun j hj h3 h4 => by
          by_cases e : j = k
          · subst e
            exact Prod.ext h1 (bstr_inj h2)
          · exact HEQ.out j (by omega) h3 h4))
        have HNO : Hid (L[k].k ≠ m[k].1 ∨ bstr L[k].l ≠ bstr m[k].2 → r = false) := Lib.hid (fun h => by
          rw [HR.out, decide_eq_false_iff_not]
          refine list_ne k (by rw [List.length_map]; exact hlt) hlt2 ?_
          rw [List.getElem_map]
          intro e
          rcases h with h | h
          · exact h (congrArg Prod.fst e)
          · exact h (congrArg bstr (congrArg Prod.snd e)))
        clear y4 y5 y3
        generalize L[k].l.length = ln at *
        generalize L[k].k = ka at *
        generalize m[k].1 = kb at *
        generalize bstr L[k].l = va at *
        generalize bstr m[k].2 = vb at *
        have hne : ∀ {a b : ByteArray}, a ≠ b → (a.toList == b.toList) = false ∧ (a.data.toList == b.data.toList) = false := fun {a b} h => by
          refine ⟨?_, ?_⟩
          · rw [ByteArray.toList_eq, ByteArray.toList_eq, beq_eq_false_iff_ne]
            exact fun e => h (Go.WideShapes.bytes_inj e)
          · rw [beq_eq_false_iff_ne]
            exact fun e => h (Go.WideShapes.bytes_inj e)
        by_cases q1 : ka = kb
        · subst q1
          by_cases q2 : va = vb
          · subst q2
            have HY := HYES.out rfl rfl
            clear HYES HNO hne
            go_wp2
            go_quiet (fail)
            go_wp2
            go_roundw
            case rel => exact ⟨k + 1, by omega, by go_num, HY, Lib.hid (below_drewN HBW.out _)⟩
            case measure => simp [intOf]; omega
          · obtain ⟨e1, e2⟩ := hne q2
            have hrf := HNO.out (.inr q2)
            subst hrf
            clear HYES HNO hne q2
            go_wp2
            go_quiet (fail)
            go_wp2
            go_ret
            exact ⟨rfl, below_drewN HBW.out _⟩
        · obtain ⟨e1, e2⟩ := hne q1
          have hrf := HNO.out (.inl q1)
          subst hrf
          clear HYES HNO hne q1
          go_wp2
          go_quiet (fail)
          go_wp2
          go_ret
          exact ⟨rfl, below_drewN HBW.out _⟩
      · obtain rfl : k = L.length := by omega
        have hrt : r = true := by
          rw [HR.out, decide_eq_true_eq]
          apply List.ext_getElem
          · rw [List.length_map]; exact HL.out
          · intro i h1 h2
            rw [List.getElem_map]
            rw [List.length_map] at h1
            exact HEQ.out i h1 h1 h2
        subst hrt
        go_wp2
        go_ret
        exact ⟨rfl, HBW.out⟩
  · have hlb : ((L.length : Int) != (m.length : Int)) = true := by simp; omega
    have hrf : r = false := by
      rw [HR.out, decide_eq_false_iff_not]
      intro e
      exact hl (by have := congrArg List.length e; rwa [List.length_map] at this)
    subst hrf
    clear hl
    go_enter Try.func23, Try.ntmps23
    go_wp2
    go_ret
    exact ⟨rfl, Below.refl _ _⟩
end Go.Proofs.Ytgpkdnnlgafenaa

namespace Go.Proofs.Ytgpkdnnlgafenaa
open Go.RowKit
set_option linter.unusedVariables false
set_option linter.unusedSimpArgs false

def opsKow5 : Array Oper := #[
  { dst := some 11, op := Op.move (Operand.tmp 3), type := 47, pos := "law.go:14", after := #[], guard := none },
  { dst := some 12, op := Op.move (Operand.tmp 0), type := 31, pos := "law.go:14", after := #[], guard := none },
  { dst := some 13, op := Op.move (Operand.tmp 4), type := 3, pos := "law.go:14", after := #[], guard := none },
  { dst := some 14, op := Op.indexAddr 31 (Operand.tmp 12) (Operand.tmp 13), type := 0, pos := "law.go:14", after := #[{ on := 1, ground := Ground.data }, { on := 2, ground := Ground.data }], guard := none },
  { dst := some 15, op := Op.fieldAddr 29 (Operand.tmp 14) 0, type := 0, pos := "law.go:14", after := #[{ on := 3, ground := Ground.data }], guard := none },
  { dst := some 16, op := Op.load 9 (Operand.tmp 15), type := 9, pos := "law.go:14", after := #[{ on := 4, ground := Ground.data }], guard := none },
  { dst := some 17, op := Op.move (Operand.tmp 0), type := 31, pos := "law.go:14", after := #[], guard := none },
  { dst := some 18, op := Op.move (Operand.tmp 4), type := 3, pos := "law.go:14", after := #[], guard := none },
  { dst := some 19, op := Op.indexAddr 31 (Operand.tmp 17) (Operand.tmp 18), type := 0, pos := "law.go:14", after := #[{ on := 6, ground := Ground.data }, { on := 7, ground := Ground.data }], guard := none },
  { dst := some 20, op := Op.fieldAddr 29 (Operand.tmp 19) 1, type := 0, pos := "law.go:14", after := #[{ on := 8, ground := Ground.data }], guard := none },
  { dst := some 21, op := Op.load 27 (Operand.tmp 20), type := 27, pos := "law.go:14", after := #[{ on := 9, ground := Ground.data }], guard := none },
  { dst := some 22, op := Op.move (Operand.tmp 0), type := 31, pos := "law.go:14", after := #[], guard := none },
  { dst := some 23, op := Op.move (Operand.tmp 4), type := 3, pos := "law.go:14", after := #[], guard := none },
  { dst := some 24, op := Op.indexAddr 31 (Operand.tmp 22) (Operand.tmp 23), type := 0, pos := "law.go:14", after := #[{ on := 11, ground := Ground.data }, { on := 12, ground := Ground.data }], guard := none },
  { dst := some 25, op := Op.fieldAddr 29 (Operand.tmp 24) 2, type := 0, pos := "law.go:14", after := #[{ on := 13, ground := Ground.data }], guard := none },
  { dst := some 26, op := Op.load 4 (Operand.tmp 25), type := 4, pos := "law.go:14", after := #[{ on := 14, ground := Ground.data }], guard := none },
  { dst := some 27, op := Op.build 80 #[(0, Operand.tmp 16), (1, Operand.tmp 21), (2, Operand.tmp 26)], type := 80, pos := "law.go:14", after := #[{ on := 5, ground := Ground.data }, { on := 10, ground := Ground.data }, { on := 15, ground := Ground.data }], guard := none },
  { dst := some 28, op := Op.buildSlice 47 1 #[(0, Operand.tmp 27)], type := 47, pos := "law.go:14", after := #[{ on := 16, ground := Ground.data }], guard := none },
  { dst := some 29, op := Op.call { callee := Callee.builtin Builtin.append, args := #[Operand.tmp 11, Operand.tmp 28], argTypes := #[47, 47] }, type := 47, pos := "law.go:14", after := #[{ on := 0, ground := Ground.data }, { on := 17, ground := Ground.data }], guard := none },
  { dst := some 3, op := Op.assign (Operand.tmp 29), type := 47, pos := "law.go:14", after := #[{ on := 18, ground := Ground.data }, { on := 18, ground := Ground.chain }, { on := 0, ground := Ground.phase }, { on := 1, ground := Ground.phase }, { on := 2, ground := Ground.phase }, { on := 3, ground := Ground.phase }, { on := 4, ground := Ground.phase }, { on := 5, ground := Ground.phase }, { on := 6, ground := Ground.phase }, { on := 7, ground := Ground.phase }, { on := 8, ground := Ground.phase }, { on := 9, ground := Ground.phase }, { on := 10, ground := Ground.phase }, { on := 11, ground := Ground.phase }, { on := 12, ground := Ground.phase }, { on := 13, ground := Ground.phase }, { on := 14, ground := Ground.phase }, { on := 15, ground := Ground.phase }, { on := 16, ground := Ground.phase }, { on := 17, ground := Ground.phase }, { on := 18, ground := Ground.phase }], guard := none }]

def kow5Vals (g o k nl c0 nm cm nv cv : Nat) (Am Av : Option Addr) (key : ByteArray) (gg : Bool) : List (Nat × Nat × Value) := [(0, 11, .slice Am nm cm), (1, 12, .slice (some ⟨g, o, none⟩) nl c0), (2, 13, .int .i64 (k : Int)), (3, 14, .pointer (some ⟨g, o + k * 3, none⟩)), (4, 15, .pointer (some ⟨g, o + k * 3, none⟩)), (5, 16, .string key), (6, 17, .slice (some ⟨g, o, none⟩) nl c0), (7, 18, .int .i64 (k : Int)), (8, 19, .pointer (some ⟨g, o + k * 3, none⟩)), (9, 20, .pointer (some ⟨g, o + k * 3 + 1, none⟩)), (10, 21, .slice Av nv cv), (11, 22, .slice (some ⟨g, o, none⟩) nl c0), (12, 23, .int .i64 (k : Int)), (13, 24, .pointer (some ⟨g, o + k * 3, none⟩)), (14, 25, .pointer (some ⟨g, o + k * 3 + 2, none⟩)), (15, 26, .bool gg), (16, 27, .agg #[.string key, .slice Av nv cv, .bool gg])]
def kow5C : List (Nat × Nat) := [(17, 28), (18, 29), (19, 3)]

set_option maxHeartbeats 4000000 in
set_option maxRecDepth 100000 in
theorem kow5 {Q : Exit → Act → World → Prop} {a0 : Act} {wp : World} (g o k nl c0 nm cm nv cv : Nat) (Am Av : Option Addr) (key : ByteArray) (gg : Bool) (S : (Nat → Bool) → (Nat → Value) → World → Prop)
    (hsz : 29 < a0.tmps.size) (in0 : a0.eval (.tmp 0) = .slice (some ⟨g, o, none⟩) nl c0) (in4 : a0.eval (.tmp 4) = .int .i64 (k : Int))
    (hkl : (k : Int) < (nl : Int)) (hl0 : ∀ f R w, S f R w → w.cell? ⟨g, o + k * 3, none⟩ = some (.string key) ∧ w.cell? ⟨g, o + k * 3 + 1, none⟩ = some (.slice Av nv cv) ∧ w.cell? ⟨g, o + k * 3 + 2, none⟩ = some (.bool gg))
    (hv : ∀ f R w, S f R w → f 2 = false → R 2 = .slice Am nm cm)
    (hb0 : ∀ f R w, S f R w → f 0 = false → f 1 = false → S (setF f 0) (setR R 0 (.slice (some ⟨w.heap.size, 0, none⟩) 1 1)) (w.alloc (.cells #[.string key, .slice Av nv cv, .bool gg] 80)))
    (ha0 : ∀ f R w, S f R w → f 0 = true → f 1 = false → ∃ v w', (Builtin.append_ #[47, 47] 47 #[.slice Am nm cm, R 0]).run Try.prog w = .ok v w' ∧ S (setF f 1) (setR R 1 v) w')
    (hm0 : ∀ f R w, S f R w → f 1 = true → f 2 = false → S (setF f 2) (setR R 2 (R 1)) w)
    (hS : S (fun _ => false) (resOf kow5C fun t => a0.eval (.tmp t)) wp.drew)
    (fin : ∀ a w f, Fr [11, 12, 13, 14, 15, 16, 17, 18, 19, 20, 21, 22, 23, 24, 25, 26, 27, 28, 29, 3] a0 a → (∀ j, j < 3 → f j = true) → S f (resOf kow5C fun t => a.eval (.tmp t)) w → Q .normal a w) :
    (Code.region 5 opsKow5 true).wp Try.prog Q a0 wp := by
  refine region_inv (by kernel_rfl) [11, 12, 13, 14, 15, 16, 17, 18, 19, 20, 21, 22, 23, 24, 25, 26, 27, 28, 29, 3] (by kernel_rfl) (by kernel_rfl) (fun t ht => by simp at ht; omega) (GF (kow5Vals g o k nl c0 nm cm nv cv Am Av key gg) kow5C S) (.start hS) ?_
    (fun L a w hf hall hG => fin a w (flagsOf kow5C L) hf  (fun j hj => by
      match j, hj with
      | 0, _ => exact (flagsOf_at (C := kow5C) (j := 0) rfl L).trans (hall 17 (by decide))
      | 1, _ => exact (flagsOf_at (C := kow5C) (j := 1) rfl L).trans (hall 18 (by decide))
      | 2, _ => exact (flagsOf_at (C := kow5C) (j := 2) rfl L).trans (hall 19 (by decide))
      | n + 3, h => exact absurd h (by omega)) hG.1)
  clear hS fin
  intro ix oo ho L a w hfr hG hLi hdep hcl K hK
  have e0 : a.tmps[0]?.getD undef = .slice (some ⟨g, o, none⟩) nl c0 := by rw [← ev]; exact (hfr.same 0 (by decide)).trans in0
  have e4 : a.tmps[4]?.getD undef = .int .i64 (k : Int) := by rw [← ev]; exact (hfr.same 4 (by decide)).trans in4
  clear in0 in4
  match ix, ho with
  | 0, ho =>
    simp only [opsKow5, List.getElem?_toArray, List.getElem?_cons_zero, Option.some.injEq] at ho
    subst ho
    rw [if_pos (show Region.wanted _ _ = true from rfl)]
    have hSp := hG.1
    have hf1 : flagsOf kow5C L 1 = false := (flagsOf_at (C := kow5C) (j := 1) rfl L).trans (by
      cases hl : L 18 with
      | false => rfl
      | true => exact absurd (hcl 18 _ rfl (hl) ⟨0, .data⟩ (by simp [opsKow5]) rfl) (by rw [hLi]; decide))
    have hf2 : flagsOf kow5C L 2 = false := (flagsOf_at (C := kow5C) (j := 2) rfl L).trans (by
      cases hl : L 19 with
      | false => rfl
      | true => exact absurd (hcl 19 _ rfl (hl) ⟨0, .phase⟩ (by simp [opsKow5]) rfl) (by rw [hLi]; decide))
    have r3 : a.tmps[3]?.getD undef = resOf kow5C (fun t => a.eval (.tmp t)) 2 := by rw [← ev]; exact (resOf_at (C := kow5C) (j := 2) rfl a).symm
    have hfin := hK (.slice Am nm cm) w (hG.quiet 0 0 11 _ rfl (by kernel_rfl) (by kernel_rfl))
    have HK := Lib.hid hfin
    generalize (resOf kow5C fun t => a.eval (.tmp t)) = R at *
    generalize flagsOf kow5C L = f at *
    rw [hv _ _ _ hSp hf2] at r3
    clear hkl hl0 hv hb0 ha0 hm0
    clear hSp
    clear hG hcl hdep hfr hK hfin hLi 
    go_simp
    exact HK.out
  | 1, ho =>
    simp only [opsKow5, List.getElem?_toArray, List.getElem?_cons_succ, List.getElem?_cons_zero, Option.some.injEq] at ho
    subst ho
    rw [if_pos (show Region.wanted _ _ = true from rfl)]
    have hfin := hK (.slice (some ⟨g, o, none⟩) nl c0) w (hG.quiet 1 1 12 _ rfl (by kernel_rfl) (by kernel_rfl))
    have HK := Lib.hid hfin
    clear hG hcl hdep hfr hK hfin hLi 
    go_simp
    exact HK.out
  | 2, ho =>
    simp only [opsKow5, List.getElem?_toArray, List.getElem?_cons_succ, List.getElem?_cons_zero, Option.some.injEq] at ho
    subst ho
    rw [if_pos (show Region.wanted _ _ = true from rfl)]
    have hfin := hK (.int .i64 (k : Int)) w (hG.quiet 2 2 13 _ rfl (by kernel_rfl) (by kernel_rfl))
    have HK := Lib.hid hfin
    clear hG hcl hdep hfr hK hfin hLi 
    go_simp
    exact HK.out
  | 3, ho =>
    simp only [opsKow5, List.getElem?_toArray, List.getElem?_cons_succ, List.getElem?_cons_zero, Option.some.injEq] at ho
    subst ho
    have x12 : a.tmps[12]?.getD undef = .slice (some ⟨g, o, none⟩) nl c0 := by rw [← ev]; exact hG.val 1 1 12 _ rfl (hdep ⟨1, .data⟩ (by simp) rfl)
    have x13 : a.tmps[13]?.getD undef = .int .i64 (k : Int) := by rw [← ev]; exact hG.val 2 2 13 _ rfl (hdep ⟨2, .data⟩ (by simp) rfl)
    rw [if_pos (show Region.wanted _ _ = true from rfl)]
    have hSp := hG.1
    have hf0 : flagsOf kow5C L 0 = false := (flagsOf_at (C := kow5C) (j := 0) rfl L).trans (by
      cases hl : L 17 with
      | false => rfl
      | true => exact absurd (hcl 4 _ rfl (hcl 5 _ rfl (hcl 16 _ rfl (hcl 17 _ rfl (hl) ⟨16, .data⟩ (by simp [opsKow5]) rfl) ⟨5, .data⟩ (by simp [opsKow5]) rfl) ⟨4, .data⟩ (by simp [opsKow5]) rfl) ⟨3, .data⟩ (by simp [opsKow5]) rfl) (by rw [hLi]; decide))
    have hf1 : flagsOf kow5C L 1 = false := (flagsOf_at (C := kow5C) (j := 1) rfl L).trans (by
      cases hl : L 18 with
      | false => rfl
      | true => exact absurd (hcl 4 _ rfl (hcl 5 _ rfl (hcl 16 _ rfl (hcl 17 _ rfl (hcl 18 _ rfl (hl) ⟨17, .data⟩ (by simp [opsKow5]) rfl) ⟨16, .data⟩ (by simp [opsKow5]) rfl) ⟨5, .data⟩ (by simp [opsKow5]) rfl) ⟨4, .data⟩ (by simp [opsKow5]) rfl) ⟨3, .data⟩ (by simp [opsKow5]) rfl) (by rw [hLi]; decide))
    have hf2 : flagsOf kow5C L 2 = false := (flagsOf_at (C := kow5C) (j := 2) rfl L).trans (by
      cases hl : L 19 with
      | false => rfl
      | true => exact absurd (hcl 19 _ rfl (hl) ⟨3, .phase⟩ (by simp [opsKow5]) rfl) (by rw [hLi]; decide))
    have hfin := hK (.pointer (some ⟨g, o + k * 3, none⟩)) w (hG.quiet 3 3 14 _ rfl (by kernel_rfl) (by kernel_rfl))
    have HK := Lib.hid hfin
    generalize (resOf kow5C fun t => a.eval (.tmp t)) = R at *
    generalize flagsOf kow5C L = f at *
    clear hl0 hv hb0 ha0 hm0
    clear hSp
    clear hG hcl hdep hfr hK hfin hLi 
    go_simp
    exact HK.out
  | 4, ho =>
    simp only [opsKow5, List.getElem?_toArray, List.getElem?_cons_succ, List.getElem?_cons_zero, Option.some.injEq] at ho
    subst ho
    have x14 : a.tmps[14]?.getD undef = .pointer (some ⟨g, o + k * 3, none⟩) := by rw [← ev]; exact hG.val 3 3 14 _ rfl (hdep ⟨3, .data⟩ (by simp) rfl)
    rw [if_pos (show Region.wanted _ _ = true from rfl)]
    have hfin := hK (.pointer (some ⟨g, o + k * 3, none⟩)) w (hG.quiet 4 4 15 _ rfl (by kernel_rfl) (by kernel_rfl))
    have HK := Lib.hid hfin
    clear hG hcl hdep hfr hK hfin hLi 
    go_simp
    exact HK.out
  | 5, ho =>
    simp only [opsKow5, List.getElem?_toArray, List.getElem?_cons_succ, List.getElem?_cons_zero, Option.some.injEq] at ho
    subst ho
    have x15 : a.tmps[15]?.getD undef = .pointer (some ⟨g, o + k * 3, none⟩) := by rw [← ev]; exact hG.val 4 4 15 _ rfl (hdep ⟨4, .data⟩ (by simp) rfl)
    rw [if_pos (show Region.wanted _ _ = true from rfl)]
    have hSp := hG.1
    have hf0 : flagsOf kow5C L 0 = false := (flagsOf_at (C := kow5C) (j := 0) rfl L).trans (by
      cases hl : L 17 with
      | false => rfl
      | true => exact absurd (hcl 16 _ rfl (hcl 17 _ rfl (hl) ⟨16, .data⟩ (by simp [opsKow5]) rfl) ⟨5, .data⟩ (by simp [opsKow5]) rfl) (by rw [hLi]; decide))
    have hf1 : flagsOf kow5C L 1 = false := (flagsOf_at (C := kow5C) (j := 1) rfl L).trans (by
      cases hl : L 18 with
      | false => rfl
      | true => exact absurd (hcl 16 _ rfl (hcl 17 _ rfl (hcl 18 _ rfl (hl) ⟨17, .data⟩ (by simp [opsKow5]) rfl) ⟨16, .data⟩ (by simp [opsKow5]) rfl) ⟨5, .data⟩ (by simp [opsKow5]) rfl) (by rw [hLi]; decide))
    have hf2 : flagsOf kow5C L 2 = false := (flagsOf_at (C := kow5C) (j := 2) rfl L).trans (by
      cases hl : L 19 with
      | false => rfl
      | true => exact absurd (hcl 19 _ rfl (hl) ⟨5, .phase⟩ (by simp [opsKow5]) rfl) (by rw [hLi]; decide))
    have hfin := hK (.string key) w (hG.quiet 5 5 16 _ rfl (by kernel_rfl) (by kernel_rfl))
    have HK := Lib.hid hfin
    generalize (resOf kow5C fun t => a.eval (.tmp t)) = R at *
    generalize flagsOf kow5C L = f at *
    obtain ⟨q1, q2, q3⟩ := hl0 _ _ _ hSp
    clear hkl hl0 hv hb0 ha0 hm0 q2 q3
    clear hSp
    clear hG hcl hdep hfr hK hfin hLi 
    go_simp
    exact HK.out
  | 6, ho =>
    simp only [opsKow5, List.getElem?_toArray, List.getElem?_cons_succ, List.getElem?_cons_zero, Option.some.injEq] at ho
    subst ho
    rw [if_pos (show Region.wanted _ _ = true from rfl)]
    have hfin := hK (.slice (some ⟨g, o, none⟩) nl c0) w (hG.quiet 6 6 17 _ rfl (by kernel_rfl) (by kernel_rfl))
    have HK := Lib.hid hfin
    clear hG hcl hdep hfr hK hfin hLi 
    go_simp
    exact HK.out
  | 7, ho =>
    simp only [opsKow5, List.getElem?_toArray, List.getElem?_cons_succ, List.getElem?_cons_zero, Option.some.injEq] at ho
    subst ho
    rw [if_pos (show Region.wanted _ _ = true from rfl)]
    have hfin := hK (.int .i64 (k : Int)) w (hG.quiet 7 7 18 _ rfl (by kernel_rfl) (by kernel_rfl))
    have HK := Lib.hid hfin
    clear hG hcl hdep hfr hK hfin hLi 
    go_simp
    exact HK.out
  | 8, ho =>
    simp only [opsKow5, List.getElem?_toArray, List.getElem?_cons_succ, List.getElem?_cons_zero, Option.some.injEq] at ho
    subst ho
    have x17 : a.tmps[17]?.getD undef = .slice (some ⟨g, o, none⟩) nl c0 := by rw [← ev]; exact hG.val 6 6 17 _ rfl (hdep ⟨6, .data⟩ (by simp) rfl)
    have x18 : a.tmps[18]?.getD undef = .int .i64 (k : Int) := by rw [← ev]; exact hG.val 7 7 18 _ rfl (hdep ⟨7, .data⟩ (by simp) rfl)
    rw [if_pos (show Region.wanted _ _ = true from rfl)]
    have hSp := hG.1
    have hf0 : flagsOf kow5C L 0 = false := (flagsOf_at (C := kow5C) (j := 0) rfl L).trans (by
      cases hl : L 17 with
      | false => rfl
      | true => exact absurd (hcl 9 _ rfl (hcl 10 _ rfl (hcl 16 _ rfl (hcl 17 _ rfl (hl) ⟨16, .data⟩ (by simp [opsKow5]) rfl) ⟨10, .data⟩ (by simp [opsKow5]) rfl) ⟨9, .data⟩ (by simp [opsKow5]) rfl) ⟨8, .data⟩ (by simp [opsKow5]) rfl) (by rw [hLi]; decide))
    have hf1 : flagsOf kow5C L 1 = false := (flagsOf_at (C := kow5C) (j := 1) rfl L).trans (by
      cases hl : L 18 with
      | false => rfl
      | true => exact absurd (hcl 9 _ rfl (hcl 10 _ rfl (hcl 16 _ rfl (hcl 17 _ rfl (hcl 18 _ rfl (hl) ⟨17, .data⟩ (by simp [opsKow5]) rfl) ⟨16, .data⟩ (by simp [opsKow5]) rfl) ⟨10, .data⟩ (by simp [opsKow5]) rfl) ⟨9, .data⟩ (by simp [opsKow5]) rfl) ⟨8, .data⟩ (by simp [opsKow5]) rfl) (by rw [hLi]; decide))
    have hf2 : flagsOf kow5C L 2 = false := (flagsOf_at (C := kow5C) (j := 2) rfl L).trans (by
      cases hl : L 19 with
      | false => rfl
      | true => exact absurd (hcl 19 _ rfl (hl) ⟨8, .phase⟩ (by simp [opsKow5]) rfl) (by rw [hLi]; decide))
    have hfin := hK (.pointer (some ⟨g, o + k * 3, none⟩)) w (hG.quiet 8 8 19 _ rfl (by kernel_rfl) (by kernel_rfl))
    have HK := Lib.hid hfin
    generalize (resOf kow5C fun t => a.eval (.tmp t)) = R at *
    generalize flagsOf kow5C L = f at *
    clear hl0 hv hb0 ha0 hm0
    clear hSp
    clear hG hcl hdep hfr hK hfin hLi 
    go_simp
    exact HK.out
  | 9, ho =>
    simp only [opsKow5, List.getElem?_toArray, List.getElem?_cons_succ, List.getElem?_cons_zero, Option.some.injEq] at ho
    subst ho
    have x19 : a.tmps[19]?.getD undef = .pointer (some ⟨g, o + k * 3, none⟩) := by rw [← ev]; exact hG.val 8 8 19 _ rfl (hdep ⟨8, .data⟩ (by simp) rfl)
    rw [if_pos (show Region.wanted _ _ = true from rfl)]
    have hfin := hK (.pointer (some ⟨g, o + k * 3 + 1, none⟩)) w (hG.quiet 9 9 20 _ rfl (by kernel_rfl) (by kernel_rfl))
    have HK := Lib.hid hfin
    clear hG hcl hdep hfr hK hfin hLi 
    go_simp
    exact HK.out
  | 10, ho =>
    simp only [opsKow5, List.getElem?_toArray, List.getElem?_cons_succ, List.getElem?_cons_zero, Option.some.injEq] at ho
    subst ho
    have x20 : a.tmps[20]?.getD undef = .pointer (some ⟨g, o + k * 3 + 1, none⟩) := by rw [← ev]; exact hG.val 9 9 20 _ rfl (hdep ⟨9, .data⟩ (by simp) rfl)
    rw [if_pos (show Region.wanted _ _ = true from rfl)]
    have hSp := hG.1
    have hf0 : flagsOf kow5C L 0 = false := (flagsOf_at (C := kow5C) (j := 0) rfl L).trans (by
      cases hl : L 17 with
      | false => rfl
      | true => exact absurd (hcl 16 _ rfl (hcl 17 _ rfl (hl) ⟨16, .data⟩ (by simp [opsKow5]) rfl) ⟨10, .data⟩ (by simp [opsKow5]) rfl) (by rw [hLi]; decide))
    have hf1 : flagsOf kow5C L 1 = false := (flagsOf_at (C := kow5C) (j := 1) rfl L).trans (by
      cases hl : L 18 with
      | false => rfl
      | true => exact absurd (hcl 16 _ rfl (hcl 17 _ rfl (hcl 18 _ rfl (hl) ⟨17, .data⟩ (by simp [opsKow5]) rfl) ⟨16, .data⟩ (by simp [opsKow5]) rfl) ⟨10, .data⟩ (by simp [opsKow5]) rfl) (by rw [hLi]; decide))
    have hf2 : flagsOf kow5C L 2 = false := (flagsOf_at (C := kow5C) (j := 2) rfl L).trans (by
      cases hl : L 19 with
      | false => rfl
      | true => exact absurd (hcl 19 _ rfl (hl) ⟨10, .phase⟩ (by simp [opsKow5]) rfl) (by rw [hLi]; decide))
    have hfin := hK (.slice Av nv cv) w (hG.quiet 10 10 21 _ rfl (by kernel_rfl) (by kernel_rfl))
    have HK := Lib.hid hfin
    generalize (resOf kow5C fun t => a.eval (.tmp t)) = R at *
    generalize flagsOf kow5C L = f at *
    obtain ⟨q1, q2, q3⟩ := hl0 _ _ _ hSp
    clear hkl hl0 hv hb0 ha0 hm0 q1 q3
    clear hSp
    clear hG hcl hdep hfr hK hfin hLi 
    go_simp
    exact HK.out
  | 11, ho =>
    simp only [opsKow5, List.getElem?_toArray, List.getElem?_cons_succ, List.getElem?_cons_zero, Option.some.injEq] at ho
    subst ho
    rw [if_pos (show Region.wanted _ _ = true from rfl)]
    have hfin := hK (.slice (some ⟨g, o, none⟩) nl c0) w (hG.quiet 11 11 22 _ rfl (by kernel_rfl) (by kernel_rfl))
    have HK := Lib.hid hfin
    clear hG hcl hdep hfr hK hfin hLi 
    go_simp
    exact HK.out
  | 12, ho =>
    simp only [opsKow5, List.getElem?_toArray, List.getElem?_cons_succ, List.getElem?_cons_zero, Option.some.injEq] at ho
    subst ho
    rw [if_pos (show Region.wanted _ _ = true from rfl)]
    have hfin := hK (.int .i64 (k : Int)) w (hG.quiet 12 12 23 _ rfl (by kernel_rfl) (by kernel_rfl))
    have HK := Lib.hid hfin
    clear hG hcl hdep hfr hK hfin hLi 
    go_simp
    exact HK.out
  | 13, ho =>
    simp only [opsKow5, List.getElem?_toArray, List.getElem?_cons_succ, List.getElem?_cons_zero, Option.some.injEq] at ho
    subst ho
    have x22 : a.tmps[22]?.getD undef = .slice (some ⟨g, o, none⟩) nl c0 := by rw [← ev]; exact hG.val 11 11 22 _ rfl (hdep ⟨11, .data⟩ (by simp) rfl)
    have x23 : a.tmps[23]?.getD undef = .int .i64 (k : Int) := by rw [← ev]; exact hG.val 12 12 23 _ rfl (hdep ⟨12, .data⟩ (by simp) rfl)
    rw [if_pos (show Region.wanted _ _ = true from rfl)]
    have hSp := hG.1
    have hf0 : flagsOf kow5C L 0 = false := (flagsOf_at (C := kow5C) (j := 0) rfl L).trans (by
      cases hl : L 17 with
      | false => rfl
      | true => exact absurd (hcl 14 _ rfl (hcl 15 _ rfl (hcl 16 _ rfl (hcl 17 _ rfl (hl) ⟨16, .data⟩ (by simp [opsKow5]) rfl) ⟨15, .data⟩ (by simp [opsKow5]) rfl) ⟨14, .data⟩ (by simp [opsKow5]) rfl) ⟨13, .data⟩ (by simp [opsKow5]) rfl) (by rw [hLi]; decide))
    have hf1 : flagsOf kow5C L 1 = false := (flagsOf_at (C := kow5C) (j := 1) rfl L).trans (by
      cases hl : L 18 with
      | false => rfl
      | true => exact absurd (hcl 14 _ rfl (hcl 15 _ rfl (hcl 16 _ rfl (hcl 17 _ rfl (hcl 18 _ rfl (hl) ⟨17, .data⟩ (by simp [opsKow5]) rfl) ⟨16, .data⟩ (by simp [opsKow5]) rfl) ⟨15, .data⟩ (by simp [opsKow5]) rfl) ⟨14, .data⟩ (by simp [opsKow5]) rfl) ⟨13, .data⟩ (by simp [opsKow5]) rfl) (by rw [hLi]; decide))
    have hf2 : flagsOf kow5C L 2 = false := (flagsOf_at (C := kow5C) (j := 2) rfl L).trans (by
      cases hl : L 19 with
      | false => rfl
      | true => exact absurd (hcl 19 _ rfl (hl) ⟨13, .phase⟩ (by simp [opsKow5]) rfl) (by rw [hLi]; decide))
    have hfin := hK (.pointer (some ⟨g, o + k * 3, none⟩)) w (hG.quiet 13 13 24 _ rfl (by kernel_rfl) (by kernel_rfl))
    have HK := Lib.hid hfin
    generalize (resOf kow5C fun t => a.eval (.tmp t)) = R at *
    generalize flagsOf kow5C L = f at *
    clear hl0 hv hb0 ha0 hm0
    clear hSp
    clear hG hcl hdep hfr hK hfin hLi 
    go_simp
    exact HK.out
  | 14, ho =>
    simp only [opsKow5, List.getElem?_toArray, List.getElem?_cons_succ, List.getElem?_cons_zero, Option.some.injEq] at ho
    subst ho
    have x24 : a.tmps[24]?.getD undef = .pointer (some ⟨g, o + k * 3, none⟩) := by rw [← ev]; exact hG.val 13 13 24 _ rfl (hdep ⟨13, .data⟩ (by simp) rfl)
    rw [if_pos (show Region.wanted _ _ = true from rfl)]
    have hfin := hK (.pointer (some ⟨g, o + k * 3 + 2, none⟩)) w (hG.quiet 14 14 25 _ rfl (by kernel_rfl) (by kernel_rfl))
    have HK := Lib.hid hfin
    clear hG hcl hdep hfr hK hfin hLi 
    go_simp
    exact HK.out
  | 15, ho =>
    simp only [opsKow5, List.getElem?_toArray, List.getElem?_cons_succ, List.getElem?_cons_zero, Option.some.injEq] at ho
    subst ho
    have x25 : a.tmps[25]?.getD undef = .pointer (some ⟨g, o + k * 3 + 2, none⟩) := by rw [← ev]; exact hG.val 14 14 25 _ rfl (hdep ⟨14, .data⟩ (by simp) rfl)
    rw [if_pos (show Region.wanted _ _ = true from rfl)]
    have hSp := hG.1
    have hf0 : flagsOf kow5C L 0 = false := (flagsOf_at (C := kow5C) (j := 0) rfl L).trans (by
      cases hl : L 17 with
      | false => rfl
      | true => exact absurd (hcl 16 _ rfl (hcl 17 _ rfl (hl) ⟨16, .data⟩ (by simp [opsKow5]) rfl) ⟨15, .data⟩ (by simp [opsKow5]) rfl) (by rw [hLi]; decide))
    have hf1 : flagsOf kow5C L 1 = false := (flagsOf_at (C := kow5C) (j := 1) rfl L).trans (by
      cases hl : L 18 with
      | false => rfl
      | true => exact absurd (hcl 16 _ rfl (hcl 17 _ rfl (hcl 18 _ rfl (hl) ⟨17, .data⟩ (by simp [opsKow5]) rfl) ⟨16, .data⟩ (by simp [opsKow5]) rfl) ⟨15, .data⟩ (by simp [opsKow5]) rfl) (by rw [hLi]; decide))
    have hf2 : flagsOf kow5C L 2 = false := (flagsOf_at (C := kow5C) (j := 2) rfl L).trans (by
      cases hl : L 19 with
      | false => rfl
      | true => exact absurd (hcl 19 _ rfl (hl) ⟨15, .phase⟩ (by simp [opsKow5]) rfl) (by rw [hLi]; decide))
    have hfin := hK (.bool gg) w (hG.quiet 15 15 26 _ rfl (by kernel_rfl) (by kernel_rfl))
    have HK := Lib.hid hfin
    generalize (resOf kow5C fun t => a.eval (.tmp t)) = R at *
    generalize flagsOf kow5C L = f at *
    obtain ⟨q1, q2, q3⟩ := hl0 _ _ _ hSp
    clear hkl hl0 hv hb0 ha0 hm0 q1 q2
    clear hSp
    clear hG hcl hdep hfr hK hfin hLi 
    go_simp
    exact HK.out
  | 16, ho =>
    simp only [opsKow5, List.getElem?_toArray, List.getElem?_cons_succ, List.getElem?_cons_zero, Option.some.injEq] at ho
    subst ho
    have x16 : a.tmps[16]?.getD undef = .string key := by rw [← ev]; exact hG.val 5 5 16 _ rfl (hdep ⟨5, .data⟩ (by simp) rfl)
    have x21 : a.tmps[21]?.getD undef = .slice Av nv cv := by rw [← ev]; exact hG.val 10 10 21 _ rfl (hdep ⟨10, .data⟩ (by simp) rfl)
    have x26 : a.tmps[26]?.getD undef = .bool gg := by rw [← ev]; exact hG.val 15 15 26 _ rfl (hdep ⟨15, .data⟩ (by simp) rfl)
    rw [if_pos (show Region.wanted _ _ = true from rfl)]
    have hfin := hK (.agg #[.string key, .slice Av nv cv, .bool gg]) w (hG.quiet 16 16 27 _ rfl (by kernel_rfl) (by kernel_rfl))
    have HK := Lib.hid hfin
    clear hG hcl hdep hfr hK hfin hLi 
    go_simp
    exact HK.out
  | 17, ho =>
    simp only [opsKow5, List.getElem?_toArray, List.getElem?_cons_succ, List.getElem?_cons_zero, Option.some.injEq] at ho
    subst ho
    have x27 : a.tmps[27]?.getD undef = .agg #[.string key, .slice Av nv cv, .bool gg] := by rw [← ev]; exact hG.val 16 16 27 _ rfl (hdep ⟨16, .data⟩ (by simp) rfl)
    rw [if_pos (show Region.wanted _ _ = true from rfl)]
    have hSj := hG.1
    have hf0 : flagsOf kow5C L 0 = false := (flagsOf_at (C := kow5C) (j := 0) rfl L).trans hLi
    have hf1 : flagsOf kow5C L 1 = false := (flagsOf_at (C := kow5C) (j := 1) rfl L).trans (by
      cases hl : L 18 with
      | false => rfl
      | true => exact absurd (hcl 18 _ rfl (hl) ⟨17, .data⟩ (by simp [opsKow5]) rfl) (by rw [hLi]; decide))
    have hf2 : flagsOf kow5C L 2 = false := (flagsOf_at (C := kow5C) (j := 2) rfl L).trans (by
      cases hl : L 19 with
      | false => rfl
      | true => exact absurd (hcl 19 _ rfl (hl) ⟨17, .phase⟩ (by simp [opsKow5]) rfl) (by rw [hLi]; decide))
    have hfin := fun v w' hs => hK v w' (hG.call 0 (17, 28) rfl (by kernel_rfl) v w' hs)
    have HK := Lib.hid hfin
    generalize (resOf kow5C fun t => a.eval (.tmp t)) = R at *
    generalize flagsOf kow5C L = f at *
    clear hG hcl hdep hfr hK hfin hLi
    have hs := hb0 _ _ _ hSj hf0 hf1
    have hk := HK.out _ _ hs
    have HK2 := Lib.hid hk
    clear hs hk HK hSj hkl hl0 hv hb0 ha0 hm0
    go_simp
    exact HK2.out
  | 18, ho =>
    simp only [opsKow5, List.getElem?_toArray, List.getElem?_cons_succ, List.getElem?_cons_zero, Option.some.injEq] at ho
    subst ho
    have x11 : a.tmps[11]?.getD undef = .slice Am nm cm := by rw [← ev]; exact hG.val 0 0 11 _ rfl (hdep ⟨0, .data⟩ (by simp) rfl)
    rw [if_pos (show Region.wanted _ _ = true from rfl)]
    have hSj := hG.1
    have hf0 : flagsOf kow5C L 0 = true := (flagsOf_at (C := kow5C) (j := 0) rfl L).trans (hdep ⟨17, .data⟩ (by simp) rfl)
    have hf1 : flagsOf kow5C L 1 = false := (flagsOf_at (C := kow5C) (j := 1) rfl L).trans hLi
    have hf2 : flagsOf kow5C L 2 = false := (flagsOf_at (C := kow5C) (j := 2) rfl L).trans (by
      cases hl : L 19 with
      | false => rfl
      | true => exact absurd (hcl 19 _ rfl (hl) ⟨18, .data⟩ (by simp [opsKow5]) rfl) (by rw [hLi]; decide))
    have r28 : a.tmps[28]?.getD undef = resOf kow5C (fun t => a.eval (.tmp t)) 0 := by rw [← ev]; exact (resOf_at (C := kow5C) (j := 0) rfl a).symm
    have hfin := fun v w' hs => hK v w' (hG.call 1 (18, 29) rfl (by kernel_rfl) v w' hs)
    have HK := Lib.hid hfin
    generalize (resOf kow5C fun t => a.eval (.tmp t)) = R at *
    generalize flagsOf kow5C L = f at *
    clear hG hcl hdep hfr hK hfin hLi
    obtain ⟨v, w', hrun, hs⟩ := ha0 _ _ _ hSj hf0 hf1
    refine oper_append_run (.tmp 11) (.tmp 28) 47 rfl w _ _ (by rw [ev]; exact x11) (by rw [ev]; exact r28) v w' hrun (HK.out v w' hs)
  | 19, ho =>
    simp only [opsKow5, List.getElem?_toArray, List.getElem?_cons_succ, List.getElem?_cons_zero, Option.some.injEq] at ho
    subst ho
    rw [if_pos (show Region.wanted _ _ = true from rfl)]
    have hSj := hG.1
    have hf0 : flagsOf kow5C L 0 = true := (flagsOf_at (C := kow5C) (j := 0) rfl L).trans (hdep ⟨17, .phase⟩ (by simp) rfl)
    have hf1 : flagsOf kow5C L 1 = true := (flagsOf_at (C := kow5C) (j := 1) rfl L).trans (hdep ⟨18, .data⟩ (by simp) rfl)
    have hf2 : flagsOf kow5C L 2 = false := (flagsOf_at (C := kow5C) (j := 2) rfl L).trans hLi
    have r29 : a.tmps[29]?.getD undef = resOf kow5C (fun t => a.eval (.tmp t)) 1 := by rw [← ev]; exact (resOf_at (C := kow5C) (j := 1) rfl a).symm
    have hfin := fun v w' hs => hK v w' (hG.call 2 (19, 3) rfl (by kernel_rfl) v w' hs)
    have HK := Lib.hid hfin
    generalize (resOf kow5C fun t => a.eval (.tmp t)) = R at *
    generalize flagsOf kow5C L = f at *
    clear hG hcl hdep hfr hK hfin hLi
    have hs := hm0 _ _ _ hSj hf1 hf2
    have hk := HK.out _ _ hs
    have HK2 := Lib.hid hk
    clear hs hk HK hSj hkl hl0 hv hb0 ha0 hm0
    go_simp
    exact HK2.out
  | n + 20, ho => exact absurd (Array.getElem?_eq_some_iff.1 ho).1 (by show ¬ n + 20 < 20; omega)
end Go.Proofs.Ytgpkdnnlgafenaa

namespace Go.Proofs.Ytgpkdnnlgafenaa
open Go.RowKit Kv
set_option linter.unusedVariables false

set_option maxRecDepth 20000 in
theorem Try.infoP4 : (Try.prog.info? 80).map (fun i => (i.zero, i.size, i.bytes)) = some (some (.agg #[.string ByteArray.empty, .slice none 0 0, .bool false]), 3, 48) := by kernel_rfl
def ORow (w : World) (v : Value) (D : List DEnt) : Prop := w.ownsRow 0 80 3 v D.length (dcells D)
theorem ORow.shape {w : World} {v : Value} {D : List DEnt} (h : ORow w v D) : ∃ A c, v = .slice A D.length c ∧ D.length ≤ c ∧ c ≤ maxLen := own_shape h
theorem ORow.below {w w' : World} {v : Value} {D : List DEnt} (h : ORow w v D) (hb : Below w.heap.size w w') : ORow w' v D := own_only h (Only.of_below (S := []) hb) (fun k _ hk => by cases hk)
theorem orow_one (w : World) (v : Value) (D : List DEnt) (h : ORow w v D) (k : ByteArray) (A : Option Addr) (n c : Nat) (g : Bool) (val : List UInt8) (b : Nat) (hb : ∀ j, w.cell? ⟨b, j, none⟩ = (#[Value.string k, .slice A n c, .bool g])[j]?) (hl : D.length + 1 ≤ 1000000) :
    ∃ A' c' L' w', Hid (L' = D ++ [⟨k, .slice A n c, val, g⟩]) ∧ (Builtin.append_ #[47, 47] 47 #[v, .slice (some ⟨b, 0, none⟩) 1 1]).run Try.prog w = .ok (.slice A' L'.length c') w' ∧
      ORow w' (.slice A' L'.length c') L' ∧ Only (blk v) w w' ∧ Grows (blk v) (blk (.slice A' L'.length c')) w := by
  obtain ⟨i0, hi, hz0, hz1, hz2⟩ := info_parts Try.infoP4
  obtain ⟨v', w', hrun, k2, k3, k4⟩ := run_append_here (P := Try.prog) w 47 47 80 i0 _ 3 48 Try.underlying47 hi hz0 hz1 hz2 rfl (by decide) v D.length (dcells D) h ⟨b, 0, none⟩ 1 1 [.string k, .slice A n c, .bool g] rfl
    (fun j u hu => by rw [add_at, hb j]; simpa using hu)
    (by intro u hu; simp at hu; rcases hu with rfl | rfl | rfl <;> rfl) (by unfold maxLen; omega) (by omega)
  have hd : ORow w' v' (D ++ [⟨k, .slice A n c, val, g⟩]) := by unfold ORow; rw [List.length_append, dcells_append]; exact k2
  obtain ⟨A', c', rfl, _, _⟩ := hd.shape
  refine ⟨A', c', _, w', Lib.hid rfl, hrun, hd, Only.of_grown k3 (fun k hk => mem_blk.2 hk), fun x hx => ?_⟩
  rcases k4 x (mem_blk.1 hx) with h5 | h5
  · exact .inl (mem_blk.2 h5)
  · exact .inr h5
structure OwS (wp : World) (vm : Value) (D : List DEnt) (e : DEnt) (f : Nat → Bool) (R : Nat → Value) (w : World) : Prop where
  only : Only (blk vm) wp w
  row : f 1 = false → ORow w vm D
  lit : f 0 = true → f 1 = false → ∃ b, R 0 = .slice (some ⟨b, 0, none⟩) 1 1 ∧ ∀ j, w.cell? ⟨b, j, none⟩ = (#[Value.string e.k, e.v, .bool e.g])[j]?
  fin : f 1 = true → ∃ A c L, R 1 = .slice A L.length c ∧ Hid (L = D ++ [e]) ∧ ORow w (.slice A L.length c) L ∧ ∀ b, b ∈ blk (.slice A L.length c) → b ∈ blk vm ∨ wp.heap.size ≤ b
  r2 : (f 2 = false → R 2 = vm) ∧ (f 2 = true → f 1 = true ∧ R 2 = R 1)
theorem ow_run {Q : Exit → Act → World → Prop} {a0 : Act} {wp : World} (g o k nl c0 nm cm nv cv : Nat) (Am Av : Option Addr) (key : ByteArray) (gg : Bool) (val : List UInt8) (D : List DEnt) (hkl : (k : Int) < (nl : Int)) (hm : ORow wp (.slice Am nm cm) D) (hlen : D.length ≤ 100000)
    (hcell : wp.cell? ⟨g, o + k * 3, none⟩ = some (.string key) ∧ wp.cell? ⟨g, o + k * 3 + 1, none⟩ = some (.slice Av nv cv) ∧ wp.cell? ⟨g, o + k * 3 + 2, none⟩ = some (.bool gg)) (hg : g < wp.heap.size ∧ g ∉ blk (.slice Am nm cm))
    (hsz : 29 < a0.tmps.size) (in0 : a0.eval (.tmp 0) = .slice (some ⟨g, o, none⟩) nl c0) (in4 : a0.eval (.tmp 4) = .int .i64 (k : Int)) (in3 : a0.eval (.tmp 3) = .slice Am nm cm)
    (fin : ∀ a w A c L, Fr [11, 12, 13, 14, 15, 16, 17, 18, 19, 20, 21, 22, 23, 24, 25, 26, 27, 28, 29, 3] a0 a → a.eval (.tmp 3) = .slice A L.length c → Hid (L = D ++ [⟨key, .slice Av nv cv, val, gg⟩]) → ORow w (.slice A L.length c) L → Only (blk (.slice Am nm cm)) wp w → (∀ b, b ∈ blk (.slice A L.length c) → b ∈ blk (.slice Am nm cm) ∨ wp.heap.size ≤ b) → Q .normal a w) :
    (Code.region 5 opsKow5 true).wp Try.prog Q a0 wp := by
  refine kow5 g o k nl c0 nm cm nv cv Am Av key gg (OwS wp (.slice Am nm cm) D ⟨key, .slice Av nv cv, val, gg⟩) hsz in0 in4 hkl ?_ ?_ ?_ ?_ ?_ ?_ ?_
  · intro f R w hS
    exact ⟨(hS.only.cell (a := ⟨g, o + k * 3, none⟩) hg.1 hg.2).trans hcell.1, (hS.only.cell (a := ⟨g, o + k * 3 + 1, none⟩) hg.1 hg.2).trans hcell.2.1, (hS.only.cell (a := ⟨g, o + k * 3 + 2, none⟩) hg.1 hg.2).trans hcell.2.2⟩
  · intro f R w hS h2; exact hS.r2.1 h2
  · intro f R w hS h0 h1
    have hba : Below w.heap.size w (w.alloc (.cells #[.string key, .slice Av nv cv, .bool gg] 80)) := (Below.refl _ _).alloc (Nat.le_refl _) _
    refine ⟨hS.only.trans (Only.of_below hba), fun _ => (hS.row h1).below hba, fun _ _ => ⟨w.heap.size, setR_self .., fun j => by simp only [World.cell?, heap_alloc_new]; rfl⟩, (fun h => by rw [setF_ne _ (by decide), h1] at h; cases h), ?_⟩
    rw [setF_ne _ (by decide), setF_ne _ (by decide), setR_ne _ _ (by decide), setR_ne _ _ (by decide)]; exact hS.r2
  · intro f R w hS h0 h1
    obtain ⟨b, e1, e2⟩ := hS.lit h0 h1
    obtain ⟨A', c', L, W, hL, hrun, hr, ho, hg'⟩ := orow_one w (.slice Am nm cm) D (hS.row h1) key Av nv cv gg val b e2 (by omega)
    refine ⟨_, W, by rw [e1]; exact hrun, hS.only.trans ho, (fun h => by rw [setF_self] at h; cases h), (fun _ h => by rw [setF_self] at h; cases h), fun _ => ⟨A', c', L, setR_self .., hL, hr, fun x hx => (hg' x hx).imp id (fun h' => Nat.le_trans hS.only.size h')⟩, ?_⟩
    rw [setF_ne _ (by decide), setR_ne _ _ (by decide)]
    refine ⟨hS.r2.1, fun h => ?_⟩
    have h9 := (hS.r2.2 h).1
    rw [h1] at h9; cases h9
  · intro f R w hS h1 h2
    refine ⟨hS.only, (fun h => by rw [setF_ne _ (by decide)] at h; exact hS.row h), (fun h h' => by rw [setF_ne _ (by decide)] at h h'; rw [h1] at h'; cases h'), (fun _ => by rw [setR_ne _ _ (by decide)]; exact hS.fin h1), (fun h => by rw [setF_self] at h; cases h), fun _ => ⟨by rw [setF_ne _ (by decide)]; exact h1, by rw [setR_self, setR_ne _ _ (by decide)]⟩⟩
  · exact ⟨Only.of_below (Below.refl _ _).drew, fun _ => hm, (fun h => by cases h), (fun h => by cases h), (fun _ => (resOf_at (C := kow5C) (j := 2) rfl a0).trans in3), (fun h => by cases h)⟩
  · intro a w f hfr hall hS
    obtain ⟨A, c, L, q1, q2, q3, q4⟩ := hS.fin (hall 1 (by decide))
    exact fin a w A c L hfr (((resOf_at (C := kow5C) (j := 2) rfl a).symm.trans (hS.r2.2 (hall 2 (by decide))).2).trans q1) q2 q3 hS.only q4

set_option maxHeartbeats 3200000 in
set_option maxRecDepth 100000 in
theorem own_any (w : World) (A : Option Addr) (n c : Nat) (l : List Pt) (X : List Nat) (hn : n = l.length) (hm : n ≤ 1000) (hp : Puts w w.heap.size X A l) (hX : ∀ b, b ∈ X → b < w.heap.size) :
    Calls Try.prog 19 #[.slice A n c] w fun e w' => ∃ A' c', e = .returned (.slice A' l.length c') ∧ Puts w' w'.heap.size X A' l ∧ Below w.heap.size w w' := by
  subst hn
  have HP := Lib.hid hp
  have HX := Lib.hid hX
  obtain ⟨w0, rfl⟩ : ∃ w0, w0 = w := ⟨_, rfl⟩
  have hlI : (l.length : Int) ≤ 1000 := by omega
  clear hp hX
  go_enter Try.func19, Try.ntmps19
  go_wp2
  go_loopw [3, 4] (fun r i wr => ∃ (k : Nat) (Ar : Option Addr) (cr : Nat) (D : List DEnt), k ≤ l.length ∧ r = .slice Ar D.length cr ∧ i = .int .i64 k ∧ Hid (D.map DEnt.pt = l.take k ∧ (∀ e ∈ D, ∃ A' c', e.v = .slice A' e.l.length c' ∧ e.l.length ≤ c' ∧ c' ≤ maxLen ∧ SeesX w0 w0.heap.size X A' e.l) ∧ ORow wr (.slice Ar D.length cr) D ∧ Below w0.heap.size w0 wr ∧ ∀ b, b ∈ blk (.slice Ar D.length cr) → w0.heap.size ≤ b)) (fun _ i _ => l.length - (intOf i).toNat)
  case atStart => exact ⟨0, none, 0, [], Nat.zero_le _, rfl, rfl, Lib.hid ⟨by simp, (fun e he => by cases he), World.ownsRow_nil _ 0 _ _, Below.refl _ _, fun b hb => by simp [blk, Value.ownBlock] at hb⟩⟩
  case round =>
    obtain ⟨k, Ar, cr, D, hk, rfl, rfl, HI⟩ := hrel
    have hDl : D.length ≤ l.length := by have := congrArg List.length HI.out.1; rw [List.length_map, List.length_take] at this; omega
    by_cases hlt : k < l.length
    · obtain ⟨h1, h2, h3, h4, h5⟩ := HI.out
      obtain ⟨g, o, A', c', rfl, hg, k1, k2, k3, k4, k5, k6⟩ := HP.out.at k hlt
      rw [← h4.cell (p := ⟨g, o + k * 3, none⟩) hg] at k1
      rw [← h4.cell (p := ⟨g, o + k * 3 + 1, none⟩) hg] at k2
      rw [← h4.cell (p := ⟨g, o + k * 3 + 2, none⟩) hg] at k3
      have hkI : (k : Int) < (l.length : Int) := by omega
      have htk : l.take (k + 1) = l.take k ++ [l[k]] := List.take_succ_eq_append_getElem hlt
      obtain ⟨x, Hx⟩ : ∃ x, Hid (x = l[k]) := ⟨_, Lib.hid rfl⟩
      rw [← Hx.out] at k1 k2 k3 k4 k6 htk
      obtain ⟨kk, val, gg⟩ := x
      simp only at k1 k2 k3 k4 k6
      have NEXT : Hid (∀ W A6 c6 (L6 : List DEnt), Hid (L6 = D ++ [⟨kk, .slice A' val.length c', val, gg⟩]) → ORow W (.slice A6 L6.length c6) L6 → Only (blk (.slice Ar D.length cr)) wr W → (∀ b, b ∈ blk (.slice A6 L6.length c6) → b ∈ blk (.slice Ar D.length cr) ∨ wr.heap.size ≤ b) →
          Hid (L6.map DEnt.pt = l.take (k + 1) ∧ (∀ e ∈ L6, ∃ A' c', e.v = .slice A' e.l.length c' ∧ e.l.length ≤ c' ∧ c' ≤ maxLen ∧ SeesX w0 w0.heap.size X A' e.l) ∧ ORow W (.slice A6 L6.length c6) L6 ∧ Below w0.heap.size w0 W ∧ ∀ b, b ∈ blk (.slice A6 L6.length c6) → w0.heap.size ≤ b)) := Lib.hid (fun W A6 c6 L6 e hr ho hg6 => by
        refine Lib.hid ⟨by rw [e.out, List.map_append, h1, htk]; rfl, fun y hy => ?_, hr, h4.trans (ho.below h4.size h5), fun b hb => (hg6 b hb).elim (h5 b) (fun h' => Nat.le_trans h4.size h')⟩
        rw [e.out] at hy
        rcases List.mem_append.1 hy with hy | hy
        · exact h2 y hy
        · rw [List.mem_singleton] at hy; subst hy
          exact ⟨A', c', rfl, k4, k5, k6⟩)
      have HOR := Lib.hid h3
      have HGW : Hid (g < wr.heap.size ∧ g ∉ blk (.slice Ar D.length cr)) := Lib.hid ⟨Nat.lt_of_lt_of_le hg h4.size, fun hm => by have := h5 g hm; omega⟩
      clear h1 h2 h3 h4 h5 HI k4 k5 k6 htk
      go_wp2
      refine ow_run g o k l.length c D.length cr val.length c' Ar A' kk gg val D hkI HOR.out (by omega) ⟨k1, k2, k3⟩ HGW.out (by show 29 < 31; omega) rfl rfl rfl ?_
      intro af w4 A6 c6 L6 hfr h3 hL6 hr6 ho6 hg6
      have HN := NEXT.out w4 A6 c6 L6 hL6 hr6 ho6 hg6
      clear hL6 hr6 ho6 hg6 k1 k2 k3
      have ha := hfr.eq (by intro t ht; simp at ht; show t < 31; omega)
      simp only [List.foldl_cons, List.foldl_nil] at ha
      clear hfr
      rw [h3] at ha
      clear h3
      generalize af.eval (.tmp 11) = u11 at ha
      generalize af.eval (.tmp 12) = u12 at ha
      generalize af.eval (.tmp 13) = u13 at ha
      generalize af.eval (.tmp 14) = u14 at ha
      generalize af.eval (.tmp 15) = u15 at ha
      generalize af.eval (.tmp 16) = u16 at ha
      generalize af.eval (.tmp 17) = u17 at ha
      generalize af.eval (.tmp 18) = u18 at ha
      generalize af.eval (.tmp 19) = u19 at ha
      generalize af.eval (.tmp 20) = u20 at ha
      generalize af.eval (.tmp 21) = u21 at ha
      generalize af.eval (.tmp 22) = u22 at ha
      generalize af.eval (.tmp 23) = u23 at ha
      generalize af.eval (.tmp 24) = u24 at ha
      generalize af.eval (.tmp 25) = u25 at ha
      generalize af.eval (.tmp 26) = u26 at ha
      generalize af.eval (.tmp 27) = u27 at ha
      generalize af.eval (.tmp 28) = u28 at ha
      generalize af.eval (.tmp 29) = u29 at ha
      subst ha
      simp only [Act.put, List.setIfInBounds_toArray, List.set_cons_zero, List.set_cons_succ]
      go_wp2
      go_roundw
      case rel => exact ⟨k + 1, A6, c6, L6, by omega, rfl, by go_num, HN⟩
      case measure => simp [intOf]; omega
    · obtain rfl : k = l.length := by omega
      obtain ⟨h1, h2, h3, h4, h5⟩ := HI.out
      rw [List.take_length] at h1
      have hDL : D.length = l.length := by have := congrArg List.length h1; simpa using this
      have hfin : Puts wr wr.heap.size X Ar l := fun hne => by
        rcases h3.2 with ⟨_, hl⟩ | ⟨g, cap, cur, hv, _, hg, _⟩
        · exfalso
          have hl' : D.length = 0 := hl
          exact hne (List.eq_nil_of_length_eq_zero (by omega))
        · injection hv with hA hn hc
          subst hA hc
          refine ⟨g, 0, rfl, (Array.getElem?_eq_some_iff.1 hg).1, fun hm => by have := HX.out g hm; have := h5 g (by simp [blk, Value.ownBlock]); omega, fun j hj => ?_⟩
          have hj' : j < D.length := by omega
          have hjl : D[j].pt = l[j] := by
            have : (D.map DEnt.pt)[j]? = l[j]? := by rw [h1]
            rw [List.getElem?_map, List.getElem?_eq_getElem hj', List.getElem?_eq_getElem hj] at this
            simpa using this
          obtain ⟨d1, d2, d3⟩ := dcells_at D j hj'
          have q1 := World.ownsRow.cells (g := g) h3 rfl _ _ d1
          have q2 := World.ownsRow.cells (g := g) h3 rfl _ _ d2
          have q3 := World.ownsRow.cells (g := g) h3 rfl _ _ d3
          rw [add_at] at q1 q2 q3
          obtain ⟨A', c', e, m1, m2, m3⟩ := h2 _ (List.getElem_mem hj')
          rw [← hjl]
          simp only [Nat.zero_add, DEnt.pt]
          refine ⟨q1, ⟨A', c', by rw [q2, e], m1, m2, fun hnn => ?_⟩, q3⟩
          obtain ⟨g2, o2, ee, u1, u2, u3⟩ := m3 hnn
          exact ⟨g2, o2, ee, Nat.lt_of_lt_of_le u1 h4.size, u2, fun i hi => (h4.cell (p := ⟨g2, o2 + i, none⟩) u1).trans (u3 i hi)⟩
      have key : ∃ A' c', Ending.returned (.slice Ar D.length cr) = .returned (.slice A' l.length c') ∧ Puts wr wr.heap.size X A' l ∧ Below w0.heap.size w0 wr := ⟨Ar, cr, by rw [hDL], hfin, h4⟩
      have KEY := Lib.hid key
      clear key hfin h1 h2 h3 h4 h5 HI hDL
      go_wp2
      go_ret
      exact KEY.out
end Go.Proofs.Ytgpkdnnlgafenaa

namespace Go.Proofs.Ytgpkdnnlgafenaa
open Go.RowKit
set_option linter.unusedVariables false

set_option maxHeartbeats 400000 in
theorem rfrom_any (A : Option Addr) (n c : Nat) (l : List UInt8) (B : Nat) (w : World) (hn : n = l.length) (h8 : l.length ≤ 8) (hs : Sees w B A l) :
    Calls Try.prog 39 #[.slice A n c] w fun e w' => e = .returned (.int .u64 (Rc.num l : Int)) ∧ w = w' := by
  subst hn
  go_enter Try.func39, Try.ntmps39
  go_wp2
  go_loop [3, 4] (fun r i => ∃ k : Nat, k ≤ l.length ∧ i = .int .i64 k ∧ r = .int .u64 (Rc.num (l.take k) : Int)) (fun _ i => l.length - (intOf i).toNat)
  case atStart => exact ⟨0, Nat.zero_le _, rfl, rfl⟩
  case round =>
    obtain ⟨k, hk, rfl, rfl⟩ := hrel
    by_cases hlt : k < l.length
    · obtain ⟨g, o, rfl, hg, hcell⟩ := hs (by intro e; simp [e] at hlt)
      have hb := hcell k hlt
      obtain ⟨b, Hb⟩ : ∃ b, Hid (l[k] = b) := ⟨_, Lib.hid rfl⟩
      rw [Hb.out] at hb
      have HS : Hid (Rc.num (l.take (k + 1)) = Rc.num (l.take k) * 256 + b.toNat) := Lib.hid (by rw [List.take_succ_eq_append_getElem hlt, Rc.num_snoc, Hb.out])
      have hnb := num_bound l k (by omega)
      obtain ⟨r, hr⟩ : ∃ r, r = Rc.num (l.take k) := ⟨_, rfl⟩
      rw [← hr] at hnb HS ⊢
      have h1 := u64_step r b hnb
      have hb2 : (b.toNat : Int) < 256 := by have := b.toNat_lt; omega
      clear hr hcell hs
      go_wp2
      go_round
      case rel => exact ⟨k + 1, by omega, by go_num, by rw [HS.out]; simp⟩
      case measure => simp [intOf]; omega
    · obtain rfl : k = l.length := by omega
      rw [List.take_length]
      go_wp2
      go_ret
      exact ⟨rfl, rfl⟩

set_option maxHeartbeats 800000 in
set_option maxRecDepth 20000 in
theorem rbig_any (v : Value) (l : List UInt8) (x s : Nat) (w : World) (h : BRow w v l) (hs : s ≤ 8) (hl : l.length + 8 ≤ 140737488355328) :
    Calls Try.prog 37 #[v, .int .u64 (x : Int), .int .i64 (s : Int)] w (RowEnd v (l ++ Rc.big x s) w) := by
  obtain ⟨w0, rfl⟩ : ∃ w0, w0 = w := ⟨_, rfl⟩
  go_enter Try.func37, Try.ntmps37
  go_wp2
  go_loopw [0, 7] (fun r i wr => ∃ (k : Nat) (acc : List UInt8) (A : Option Addr) (c : Nat), k ≤ s ∧ i = .int .i64 ((s : Int) - k) ∧ r = .slice A acc.length c ∧ acc ++ Rc.big x k = l ++ Rc.big x s ∧ BRow wr (.slice A acc.length c) acc ∧ Only (blk v) w0 wr ∧ Grows (blk v) (blk (.slice A acc.length c)) w0) (fun _ i _ => ((s : Int) - intOf i).toNat)
  case atStart =>
    obtain ⟨A, c, rfl, _, _⟩ := h.shape
    exact ⟨s, l, A, c, Nat.le_refl _, by simp, rfl, rfl, h, Only.refl _ _, Grows.refl _ _⟩
  case round =>
    obtain ⟨k, acc, A, c, hk, rfl, rfl, hacc, hrow, ho, hg⟩ := hrel
    match k with
    | 0 =>
      have key : RowEnd v (l ++ Rc.big x s) w0 (.returned (.slice A acc.length c)) wr := ⟨_, rfl, by rw [← hacc]; simpa [Rc.big] using hrow, ho, hg⟩
      have HK := Lib.hid key
      clear key hacc hrow ho hg h
      go_wp2
      go_ret
      exact HK.out
    | j + 1 =>
      have hsh := byte_shift x j
      obtain ⟨b, Hb⟩ : ∃ b, Hid (b = UInt8.ofNat (x / 256 ^ j)) := ⟨_, Lib.hid rfl⟩
      rw [← Hb.out] at hsh
      have hacc2 : (acc ++ [b]) ++ Rc.big x j = l ++ Rc.big x s := by rw [← hacc, Rc.big, ← Hb.out]; simp
      have hal : acc.length + 1 ≤ 140737488355328 := by
        have := congrArg List.length hacc
        simp [Rc.big_length] at this
        omega
      obtain ⟨v', w', hap, h1, h2, h3⟩ := brow_one wr (.slice A acc.length c) acc hrow b _ rfl hal 27
      have HAP := Lib.hid hap
      obtain ⟨A', c', rfl, _, _⟩ := h1.shape
      have HR : Hid (∃ (k : Nat) (acc2 : List UInt8) (A2 : Option Addr) (c2 : Nat), k ≤ s ∧ Value.int .i64 ((s : Int) - j) = .int .i64 ((s : Int) - k) ∧ Value.slice A' (acc.length + 1) c' = .slice A2 acc2.length c2 ∧ acc2 ++ Rc.big x k = l ++ Rc.big x s ∧ BRow w' (.slice A2 acc2.length c2) acc2 ∧ Only (blk v) w0 w' ∧ Grows (blk v) (blk (.slice A2 acc2.length c2)) w0) :=
        Lib.hid ⟨j, acc ++ [b], A', c', by omega, rfl, by simp, hacc2, h1, ho.step h2 hg, hg.trans h3 ho.size⟩
      have hj8 : (j : Int) < s := by omega
      have e1 : (s : Int) - ((j + 1 : Nat) : Int) = (s : Int) - 1 - j := by omega
      rw [e1]
      have e2 : (s : Int) - 1 - ((s : Int) - 1 - j) = j := by omega
      clear hap h1 h2 h3 hacc hacc2 hrow ho hg h e1 hk hal
      go_wp2_with (at_builtin; refine wpList_append_run rfl _ _ 27 rfl _ _ _ rfl rfl _ _ (by exact HAP.out) ?_)
      go_roundw
      case rel => rw [show (s : Int) - 1 - j + 1 = s - j by omega]; exact HR.out
      case measure => simp [intOf]; omega
end Go.Proofs.Ytgpkdnnlgafenaa

namespace Go.Proofs.Ytgpkdnnlgafenaa
open Go.RowKit
theorem oper_append_run2 {P : Program} {o : Oper} {a : Act} {K : Act → World → Prop} {Q : Exit → Act → World → Prop} (s x : Operand) (t t' : TypeId)
    (ho : o.op = .call { callee := .builtin .append, args := #[s, x], argTypes := #[t, t'] }) (w : World) (v vx : Value) (hs : a.eval s = v) (hx : a.eval x = vx) (v' : Value) (w' : World)
    (hr : (Builtin.append_ #[t, t'] o.type #[v, vx]).run P w = .ok v' w') (h : K (a.put o.dst v') w') : Oper.wp P o a w K Q := by
  unfold Oper.wp
  simp [execOp, ho, resolve, invoke, builtin, hs, hx, hr, Result.andThen]
  exact h
end Go.Proofs.Ytgpkdnnlgafenaa

namespace Go.Proofs.Ytgpkdnnlgafenaa
open Go.RowKit
set_option linter.unusedVariables false
set_option linter.unusedSimpArgs false

def opsRken10 : Array Oper := #[
  { dst := some 25, op := Op.move (Operand.tmp 3), type := 27, pos := "ref.go:202", after := #[], guard := none },
  { dst := some 26, op := Op.move (Operand.tmp 0), type := 47, pos := "ref.go:202", after := #[], guard := none },
  { dst := some 27, op := Op.move (Operand.tmp 4), type := 3, pos := "ref.go:202", after := #[], guard := none },
  { dst := some 28, op := Op.indexAddr 47 (Operand.tmp 26) (Operand.tmp 27), type := 0, pos := "ref.go:202", after := #[{ on := 1, ground := Ground.data }, { on := 2, ground := Ground.data }], guard := none },
  { dst := some 29, op := Op.fieldAddr 80 (Operand.tmp 28) 0, type := 0, pos := "ref.go:202", after := #[{ on := 3, ground := Ground.data }], guard := none },
  { dst := some 30, op := Op.load 9 (Operand.tmp 29), type := 9, pos := "ref.go:202", after := #[{ on := 4, ground := Ground.data }], guard := none },
  { dst := some 31, op := Op.call { callee := Callee.builtin Builtin.len, args := #[Operand.tmp 30], argTypes := #[9] }, type := 3, pos := "ref.go:202", after := #[{ on := 5, ground := Ground.data }], guard := none },
  { dst := some 32, op := Op.convert 3 84 (Operand.tmp 31), type := 84, pos := "ref.go:202", after := #[{ on := 6, ground := Ground.data }], guard := none },
  { dst := some 33, op := Op.call { callee := Callee.value (Operand.func 37), args := #[Operand.tmp 25, Operand.tmp 32, Operand.const (Value.int IntKind.i64 2)], argTypes := #[27, 84, 3] }, type := 27, pos := "ref.go:202", after := #[{ on := 0, ground := Ground.data }, { on := 7, ground := Ground.data }], guard := none },
  { dst := some 34, op := Op.move (Operand.tmp 0), type := 47, pos := "ref.go:202", after := #[], guard := none },
  { dst := some 35, op := Op.move (Operand.tmp 4), type := 3, pos := "ref.go:202", after := #[], guard := none },
  { dst := some 36, op := Op.indexAddr 47 (Operand.tmp 34) (Operand.tmp 35), type := 0, pos := "ref.go:202", after := #[{ on := 9, ground := Ground.data }, { on := 10, ground := Ground.data }], guard := none },
  { dst := some 37, op := Op.fieldAddr 80 (Operand.tmp 36) 0, type := 0, pos := "ref.go:202", after := #[{ on := 11, ground := Ground.data }], guard := none },
  { dst := some 38, op := Op.load 9 (Operand.tmp 37), type := 9, pos := "ref.go:202", after := #[{ on := 12, ground := Ground.data }], guard := none },
  { dst := some 39, op := Op.call { callee := Callee.builtin Builtin.append, args := #[Operand.tmp 33, Operand.tmp 38], argTypes := #[27, 9] }, type := 27, pos := "ref.go:202", after := #[{ on := 8, ground := Ground.data }, { on := 13, ground := Ground.data }, { on := 8, ground := Ground.chain }], guard := none },
  { dst := some 3, op := Op.assign (Operand.tmp 39), type := 27, pos := "ref.go:202", after := #[{ on := 14, ground := Ground.data }, { on := 14, ground := Ground.chain }, { on := 0, ground := Ground.phase }, { on := 1, ground := Ground.phase }, { on := 2, ground := Ground.phase }, { on := 3, ground := Ground.phase }, { on := 4, ground := Ground.phase }, { on := 5, ground := Ground.phase }, { on := 6, ground := Ground.phase }, { on := 7, ground := Ground.phase }, { on := 8, ground := Ground.phase }, { on := 9, ground := Ground.phase }, { on := 10, ground := Ground.phase }, { on := 11, ground := Ground.phase }, { on := 12, ground := Ground.phase }, { on := 13, ground := Ground.phase }, { on := 14, ground := Ground.phase }], guard := none }]

def rken10Vals (g o k nl c0 nm cm : Nat) (Am : Option Addr) (key : ByteArray) : List (Nat × Nat × Value) := [(0, 25, .slice Am nm cm), (1, 26, .slice (some ⟨g, o, none⟩) nl c0), (2, 27, .int .i64 (k : Int)), (3, 28, .pointer (some ⟨g, o + k * 3, none⟩)), (4, 29, .pointer (some ⟨g, o + k * 3, none⟩)), (5, 30, .string key), (6, 31, .int .i64 (key.size : Int)), (7, 32, .int .u64 (key.size : Int)), (9, 34, .slice (some ⟨g, o, none⟩) nl c0), (10, 35, .int .i64 (k : Int)), (11, 36, .pointer (some ⟨g, o + k * 3, none⟩)), (12, 37, .pointer (some ⟨g, o + k * 3, none⟩)), (13, 38, .string key)]
def rken10C : List (Nat × Nat) := [(8, 33), (14, 39), (15, 3)]

set_option maxHeartbeats 4000000 in
set_option maxRecDepth 100000 in
theorem rken10 {Q : Exit → Act → World → Prop} {a0 : Act} {wp : World} (g o k nl c0 nm cm : Nat) (Am : Option Addr) (key : ByteArray) (S : (Nat → Bool) → (Nat → Value) → World → Prop)
    (hsz : 39 < a0.tmps.size) (in0 : a0.eval (.tmp 0) = .slice (some ⟨g, o, none⟩) nl c0) (in4 : a0.eval (.tmp 4) = .int .i64 (k : Int))
    (hkl : (k : Int) < (nl : Int)) (hks : (key.size : Int) ≤ 200) (hl0 : ∀ f R w, S f R w → w.cell? ⟨g, o + k * 3, none⟩ = some (.string key))
    (hv : ∀ f R w, S f R w → f 2 = false → R 2 = .slice Am nm cm)
    (hc0 : ∀ f R w, S f R w → f 0 = false → f 1 = false → Calls Try.prog 37 #[.slice Am nm cm, .int .u64 (key.size : Int), .int .i64 2] w fun e w' => ∃ v, e = .returned v ∧ S (setF f 0) (setR R 0 v) w')
    (ha0 : ∀ f R w, S f R w → f 0 = true → f 1 = false → ∃ v w', (Builtin.append_ #[27, 9] 27 #[R 0, .string key]).run Try.prog w = .ok v w' ∧ S (setF f 1) (setR R 1 v) w')
    (hm0 : ∀ f R w, S f R w → f 1 = true → f 2 = false → S (setF f 2) (setR R 2 (R 1)) w)
    (hS : S (fun _ => false) (resOf rken10C fun t => a0.eval (.tmp t)) wp.drew)
    (fin : ∀ a w f, Fr [25, 26, 27, 28, 29, 30, 31, 32, 33, 34, 35, 36, 37, 38, 39, 3] a0 a → (∀ j, j < 3 → f j = true) → S f (resOf rken10C fun t => a.eval (.tmp t)) w → Q .normal a w) :
    (Code.region 10 opsRken10 true).wp Try.prog Q a0 wp := by
  refine region_inv (by kernel_rfl) [25, 26, 27, 28, 29, 30, 31, 32, 33, 34, 35, 36, 37, 38, 39, 3] (by kernel_rfl) (by kernel_rfl) (fun t ht => by simp at ht; omega) (GF (rken10Vals g o k nl c0 nm cm Am key) rken10C S) (.start hS) ?_
    (fun L a w hf hall hG => fin a w (flagsOf rken10C L) hf  (fun j hj => by
      match j, hj with
      | 0, _ => exact (flagsOf_at (C := rken10C) (j := 0) rfl L).trans (hall 8 (by decide))
      | 1, _ => exact (flagsOf_at (C := rken10C) (j := 1) rfl L).trans (hall 14 (by decide))
      | 2, _ => exact (flagsOf_at (C := rken10C) (j := 2) rfl L).trans (hall 15 (by decide))
      | n + 3, h => exact absurd h (by omega)) hG.1)
  clear hS fin
  intro ix oo ho L a w hfr hG hLi hdep hcl K hK
  have e0 : a.tmps[0]?.getD undef = .slice (some ⟨g, o, none⟩) nl c0 := by rw [← ev]; exact (hfr.same 0 (by decide)).trans in0
  have e4 : a.tmps[4]?.getD undef = .int .i64 (k : Int) := by rw [← ev]; exact (hfr.same 4 (by decide)).trans in4
  clear in0 in4
  match ix, ho with
  | 0, ho =>
    simp only [opsRken10, List.getElem?_toArray, List.getElem?_cons_zero, Option.some.injEq] at ho
    subst ho
    rw [if_pos (show Region.wanted _ _ = true from rfl)]
    have hSp := hG.1
    have hf0 : flagsOf rken10C L 0 = false := (flagsOf_at (C := rken10C) (j := 0) rfl L).trans (by
      cases hl : L 8 with
      | false => rfl
      | true => exact absurd (hcl 8 _ rfl (hl) ⟨0, .data⟩ (by simp [opsRken10]) rfl) (by rw [hLi]; decide))
    have hf1 : flagsOf rken10C L 1 = false := (flagsOf_at (C := rken10C) (j := 1) rfl L).trans (by
      cases hl : L 14 with
      | false => rfl
      | true => exact absurd (hcl 8 _ rfl (hcl 14 _ rfl (hl) ⟨8, .data⟩ (by simp [opsRken10]) rfl) ⟨0, .data⟩ (by simp [opsRken10]) rfl) (by rw [hLi]; decide))
    have hf2 : flagsOf rken10C L 2 = false := (flagsOf_at (C := rken10C) (j := 2) rfl L).trans (by
      cases hl : L 15 with
      | false => rfl
      | true => exact absurd (hcl 15 _ rfl (hl) ⟨0, .phase⟩ (by simp [opsRken10]) rfl) (by rw [hLi]; decide))
    have r3 : a.tmps[3]?.getD undef = resOf rken10C (fun t => a.eval (.tmp t)) 2 := by rw [← ev]; exact (resOf_at (C := rken10C) (j := 2) rfl a).symm
    have hfin := hK (.slice Am nm cm) w (hG.quiet 0 0 25 _ rfl (by kernel_rfl) (by kernel_rfl))
    have HK := Lib.hid hfin
    generalize (resOf rken10C fun t => a.eval (.tmp t)) = R at *
    generalize flagsOf rken10C L = f at *
    rw [hv _ _ _ hSp hf2] at r3
    clear hkl hks hl0 hv hc0 ha0 hm0
    clear hSp
    clear hG hcl hdep hfr hK hfin hLi 
    go_simp
    exact HK.out
  | 1, ho =>
    simp only [opsRken10, List.getElem?_toArray, List.getElem?_cons_succ, List.getElem?_cons_zero, Option.some.injEq] at ho
    subst ho
    rw [if_pos (show Region.wanted _ _ = true from rfl)]
    have hfin := hK (.slice (some ⟨g, o, none⟩) nl c0) w (hG.quiet 1 1 26 _ rfl (by kernel_rfl) (by kernel_rfl))
    have HK := Lib.hid hfin
    clear hG hcl hdep hfr hK hfin hLi 
    go_simp
    exact HK.out
  | 2, ho =>
    simp only [opsRken10, List.getElem?_toArray, List.getElem?_cons_succ, List.getElem?_cons_zero, Option.some.injEq] at ho
    subst ho
    rw [if_pos (show Region.wanted _ _ = true from rfl)]
    have hfin := hK (.int .i64 (k : Int)) w (hG.quiet 2 2 27 _ rfl (by kernel_rfl) (by kernel_rfl))
    have HK := Lib.hid hfin
    clear hG hcl hdep hfr hK hfin hLi 
    go_simp
    exact HK.out
  | 3, ho =>
    simp only [opsRken10, List.getElem?_toArray, List.getElem?_cons_succ, List.getElem?_cons_zero, Option.some.injEq] at ho
    subst ho
    have x26 : a.tmps[26]?.getD undef = .slice (some ⟨g, o, none⟩) nl c0 := by rw [← ev]; exact hG.val 1 1 26 _ rfl (hdep ⟨1, .data⟩ (by simp) rfl)
    have x27 : a.tmps[27]?.getD undef = .int .i64 (k : Int) := by rw [← ev]; exact hG.val 2 2 27 _ rfl (hdep ⟨2, .data⟩ (by simp) rfl)
    rw [if_pos (show Region.wanted _ _ = true from rfl)]
    have hSp := hG.1
    have hf0 : flagsOf rken10C L 0 = false := (flagsOf_at (C := rken10C) (j := 0) rfl L).trans (by
      cases hl : L 8 with
      | false => rfl
      | true => exact absurd (hcl 4 _ rfl (hcl 5 _ rfl (hcl 6 _ rfl (hcl 7 _ rfl (hcl 8 _ rfl (hl) ⟨7, .data⟩ (by simp [opsRken10]) rfl) ⟨6, .data⟩ (by simp [opsRken10]) rfl) ⟨5, .data⟩ (by simp [opsRken10]) rfl) ⟨4, .data⟩ (by simp [opsRken10]) rfl) ⟨3, .data⟩ (by simp [opsRken10]) rfl) (by rw [hLi]; decide))
    have hf1 : flagsOf rken10C L 1 = false := (flagsOf_at (C := rken10C) (j := 1) rfl L).trans (by
      cases hl : L 14 with
      | false => rfl
      | true => exact absurd (hcl 4 _ rfl (hcl 5 _ rfl (hcl 6 _ rfl (hcl 7 _ rfl (hcl 8 _ rfl (hcl 14 _ rfl (hl) ⟨8, .data⟩ (by simp [opsRken10]) rfl) ⟨7, .data⟩ (by simp [opsRken10]) rfl) ⟨6, .data⟩ (by simp [opsRken10]) rfl) ⟨5, .data⟩ (by simp [opsRken10]) rfl) ⟨4, .data⟩ (by simp [opsRken10]) rfl) ⟨3, .data⟩ (by simp [opsRken10]) rfl) (by rw [hLi]; decide))
    have hf2 : flagsOf rken10C L 2 = false := (flagsOf_at (C := rken10C) (j := 2) rfl L).trans (by
      cases hl : L 15 with
      | false => rfl
      | true => exact absurd (hcl 15 _ rfl (hl) ⟨3, .phase⟩ (by simp [opsRken10]) rfl) (by rw [hLi]; decide))
    have hfin := hK (.pointer (some ⟨g, o + k * 3, none⟩)) w (hG.quiet 3 3 28 _ rfl (by kernel_rfl) (by kernel_rfl))
    have HK := Lib.hid hfin
    generalize (resOf rken10C fun t => a.eval (.tmp t)) = R at *
    generalize flagsOf rken10C L = f at *
    clear hks hl0 hv hc0 ha0 hm0
    clear hSp
    clear hG hcl hdep hfr hK hfin hLi 
    go_simp
    exact HK.out
  | 4, ho =>
    simp only [opsRken10, List.getElem?_toArray, List.getElem?_cons_succ, List.getElem?_cons_zero, Option.some.injEq] at ho
    subst ho
    have x28 : a.tmps[28]?.getD undef = .pointer (some ⟨g, o + k * 3, none⟩) := by rw [← ev]; exact hG.val 3 3 28 _ rfl (hdep ⟨3, .data⟩ (by simp) rfl)
    rw [if_pos (show Region.wanted _ _ = true from rfl)]
    have hfin := hK (.pointer (some ⟨g, o + k * 3, none⟩)) w (hG.quiet 4 4 29 _ rfl (by kernel_rfl) (by kernel_rfl))
    have HK := Lib.hid hfin
    clear hG hcl hdep hfr hK hfin hLi 
    go_simp
    exact HK.out
  | 5, ho =>
    simp only [opsRken10, List.getElem?_toArray, List.getElem?_cons_succ, List.getElem?_cons_zero, Option.some.injEq] at ho
    subst ho
    have x29 : a.tmps[29]?.getD undef = .pointer (some ⟨g, o + k * 3, none⟩) := by rw [← ev]; exact hG.val 4 4 29 _ rfl (hdep ⟨4, .data⟩ (by simp) rfl)
    rw [if_pos (show Region.wanted _ _ = true from rfl)]
    have hSp := hG.1
    have hf0 : flagsOf rken10C L 0 = false := (flagsOf_at (C := rken10C) (j := 0) rfl L).trans (by
      cases hl : L 8 with
      | false => rfl
      | true => exact absurd (hcl 6 _ rfl (hcl 7 _ rfl (hcl 8 _ rfl (hl) ⟨7, .data⟩ (by simp [opsRken10]) rfl) ⟨6, .data⟩ (by simp [opsRken10]) rfl) ⟨5, .data⟩ (by simp [opsRken10]) rfl) (by rw [hLi]; decide))
    have hf1 : flagsOf rken10C L 1 = false := (flagsOf_at (C := rken10C) (j := 1) rfl L).trans (by
      cases hl : L 14 with
      | false => rfl
      | true => exact absurd (hcl 6 _ rfl (hcl 7 _ rfl (hcl 8 _ rfl (hcl 14 _ rfl (hl) ⟨8, .data⟩ (by simp [opsRken10]) rfl) ⟨7, .data⟩ (by simp [opsRken10]) rfl) ⟨6, .data⟩ (by simp [opsRken10]) rfl) ⟨5, .data⟩ (by simp [opsRken10]) rfl) (by rw [hLi]; decide))
    have hf2 : flagsOf rken10C L 2 = false := (flagsOf_at (C := rken10C) (j := 2) rfl L).trans (by
      cases hl : L 15 with
      | false => rfl
      | true => exact absurd (hcl 15 _ rfl (hl) ⟨5, .phase⟩ (by simp [opsRken10]) rfl) (by rw [hLi]; decide))
    have hfin := hK (.string key) w (hG.quiet 5 5 30 _ rfl (by kernel_rfl) (by kernel_rfl))
    have HK := Lib.hid hfin
    generalize (resOf rken10C fun t => a.eval (.tmp t)) = R at *
    generalize flagsOf rken10C L = f at *
    have q1 := hl0 _ _ _ hSp
    clear hkl hks hl0 hv hc0 ha0 hm0
    clear hSp
    clear hG hcl hdep hfr hK hfin hLi 
    go_simp
    exact HK.out
  | 6, ho =>
    simp only [opsRken10, List.getElem?_toArray, List.getElem?_cons_succ, List.getElem?_cons_zero, Option.some.injEq] at ho
    subst ho
    have x30 : a.tmps[30]?.getD undef = .string key := by rw [← ev]; exact hG.val 5 5 30 _ rfl (hdep ⟨5, .data⟩ (by simp) rfl)
    rw [if_pos (show Region.wanted _ _ = true from rfl)]
    have hSp := hG.1
    have hf0 : flagsOf rken10C L 0 = false := (flagsOf_at (C := rken10C) (j := 0) rfl L).trans (by
      cases hl : L 8 with
      | false => rfl
      | true => exact absurd (hcl 7 _ rfl (hcl 8 _ rfl (hl) ⟨7, .data⟩ (by simp [opsRken10]) rfl) ⟨6, .data⟩ (by simp [opsRken10]) rfl) (by rw [hLi]; decide))
    have hf1 : flagsOf rken10C L 1 = false := (flagsOf_at (C := rken10C) (j := 1) rfl L).trans (by
      cases hl : L 14 with
      | false => rfl
      | true => exact absurd (hcl 7 _ rfl (hcl 8 _ rfl (hcl 14 _ rfl (hl) ⟨8, .data⟩ (by simp [opsRken10]) rfl) ⟨7, .data⟩ (by simp [opsRken10]) rfl) ⟨6, .data⟩ (by simp [opsRken10]) rfl) (by rw [hLi]; decide))
    have hf2 : flagsOf rken10C L 2 = false := (flagsOf_at (C := rken10C) (j := 2) rfl L).trans (by
      cases hl : L 15 with
      | false => rfl
      | true => exact absurd (hcl 15 _ rfl (hl) ⟨6, .phase⟩ (by simp [opsRken10]) rfl) (by rw [hLi]; decide))
    have hfin := hK (.int .i64 (key.size : Int)) w (hG.quiet 6 6 31 _ rfl (by kernel_rfl) (by kernel_rfl))
    have HK := Lib.hid hfin
    generalize (resOf rken10C fun t => a.eval (.tmp t)) = R at *
    generalize flagsOf rken10C L = f at *
    clear hkl hl0 hv hc0 ha0 hm0
    clear hSp
    clear hG hcl hdep hfr hK hfin hLi 
    go_simp
    exact HK.out
  | 7, ho =>
    simp only [opsRken10, List.getElem?_toArray, List.getElem?_cons_succ, List.getElem?_cons_zero, Option.some.injEq] at ho
    subst ho
    have x31 : a.tmps[31]?.getD undef = .int .i64 (key.size : Int) := by rw [← ev]; exact hG.val 6 6 31 _ rfl (hdep ⟨6, .data⟩ (by simp) rfl)
    rw [if_pos (show Region.wanted _ _ = true from rfl)]
    have hSp := hG.1
    have hf0 : flagsOf rken10C L 0 = false := (flagsOf_at (C := rken10C) (j := 0) rfl L).trans (by
      cases hl : L 8 with
      | false => rfl
      | true => exact absurd (hcl 8 _ rfl (hl) ⟨7, .data⟩ (by simp [opsRken10]) rfl) (by rw [hLi]; decide))
    have hf1 : flagsOf rken10C L 1 = false := (flagsOf_at (C := rken10C) (j := 1) rfl L).trans (by
      cases hl : L 14 with
      | false => rfl
      | true => exact absurd (hcl 8 _ rfl (hcl 14 _ rfl (hl) ⟨8, .data⟩ (by simp [opsRken10]) rfl) ⟨7, .data⟩ (by simp [opsRken10]) rfl) (by rw [hLi]; decide))
    have hf2 : flagsOf rken10C L 2 = false := (flagsOf_at (C := rken10C) (j := 2) rfl L).trans (by
      cases hl : L 15 with
      | false => rfl
      | true => exact absurd (hcl 15 _ rfl (hl) ⟨7, .phase⟩ (by simp [opsRken10]) rfl) (by rw [hLi]; decide))
    have hfin := hK (.int .u64 (key.size : Int)) w (hG.quiet 7 7 32 _ rfl (by kernel_rfl) (by kernel_rfl))
    have HK := Lib.hid hfin
    generalize (resOf rken10C fun t => a.eval (.tmp t)) = R at *
    generalize flagsOf rken10C L = f at *
    have q1 : IntKind.u64.wrap (key.size : Int) = (key.size : Int) := by rw [IntKind.wrap_u64]; omega
    clear hkl hl0 hv hc0 ha0 hm0
    clear hSp
    clear hG hcl hdep hfr hK hfin hLi 
    go_simp
    exact HK.out
  | 8, ho =>
    simp only [opsRken10, List.getElem?_toArray, List.getElem?_cons_succ, List.getElem?_cons_zero, Option.some.injEq] at ho
    subst ho
    have x25 : a.tmps[25]?.getD undef = .slice Am nm cm := by rw [← ev]; exact hG.val 0 0 25 _ rfl (hdep ⟨0, .data⟩ (by simp) rfl)
    have x32 : a.tmps[32]?.getD undef = .int .u64 (key.size : Int) := by rw [← ev]; exact hG.val 7 7 32 _ rfl (hdep ⟨7, .data⟩ (by simp) rfl)
    rw [if_pos (show Region.wanted _ _ = true from rfl)]
    have hSj := hG.1
    have hf0 : flagsOf rken10C L 0 = false := (flagsOf_at (C := rken10C) (j := 0) rfl L).trans hLi
    have hf1 : flagsOf rken10C L 1 = false := (flagsOf_at (C := rken10C) (j := 1) rfl L).trans (by
      cases hl : L 14 with
      | false => rfl
      | true => exact absurd (hcl 14 _ rfl (hl) ⟨8, .data⟩ (by simp [opsRken10]) rfl) (by rw [hLi]; decide))
    have hf2 : flagsOf rken10C L 2 = false := (flagsOf_at (C := rken10C) (j := 2) rfl L).trans (by
      cases hl : L 15 with
      | false => rfl
      | true => exact absurd (hcl 15 _ rfl (hl) ⟨8, .phase⟩ (by simp [opsRken10]) rfl) (by rw [hLi]; decide))
    have hfin := fun v w' hs => hK v w' (hG.call 0 (8, 33) rfl (by kernel_rfl) v w' hs)
    have HK := Lib.hid hfin
    generalize (resOf rken10C fun t => a.eval (.tmp t)) = R at *
    generalize flagsOf rken10C L = f at *
    clear hG hcl hdep hfr hK hfin hLi
    have hc := Lib.hid (hc0 _ _ _ hSj hf0 hf1)
    clear hSj hkl hks hl0 hv hc0 ha0 hm0
    go_simp
    go_at_call 37
    refine hc.out.mono ?_
    rintro e w' ⟨v, rfl, hs⟩
    exact HK.out v w' hs
  | 9, ho =>
    simp only [opsRken10, List.getElem?_toArray, List.getElem?_cons_succ, List.getElem?_cons_zero, Option.some.injEq] at ho
    subst ho
    rw [if_pos (show Region.wanted _ _ = true from rfl)]
    have hfin := hK (.slice (some ⟨g, o, none⟩) nl c0) w (hG.quiet 8 9 34 _ rfl (by kernel_rfl) (by kernel_rfl))
    have HK := Lib.hid hfin
    clear hG hcl hdep hfr hK hfin hLi 
    go_simp
    exact HK.out
  | 10, ho =>
    simp only [opsRken10, List.getElem?_toArray, List.getElem?_cons_succ, List.getElem?_cons_zero, Option.some.injEq] at ho
    subst ho
    rw [if_pos (show Region.wanted _ _ = true from rfl)]
    have hfin := hK (.int .i64 (k : Int)) w (hG.quiet 9 10 35 _ rfl (by kernel_rfl) (by kernel_rfl))
    have HK := Lib.hid hfin
    clear hG hcl hdep hfr hK hfin hLi 
    go_simp
    exact HK.out
  | 11, ho =>
    simp only [opsRken10, List.getElem?_toArray, List.getElem?_cons_succ, List.getElem?_cons_zero, Option.some.injEq] at ho
    subst ho
    have x34 : a.tmps[34]?.getD undef = .slice (some ⟨g, o, none⟩) nl c0 := by rw [← ev]; exact hG.val 8 9 34 _ rfl (hdep ⟨9, .data⟩ (by simp) rfl)
    have x35 : a.tmps[35]?.getD undef = .int .i64 (k : Int) := by rw [← ev]; exact hG.val 9 10 35 _ rfl (hdep ⟨10, .data⟩ (by simp) rfl)
    rw [if_pos (show Region.wanted _ _ = true from rfl)]
    have hSp := hG.1
    have hf1 : flagsOf rken10C L 1 = false := (flagsOf_at (C := rken10C) (j := 1) rfl L).trans (by
      cases hl : L 14 with
      | false => rfl
      | true => exact absurd (hcl 12 _ rfl (hcl 13 _ rfl (hcl 14 _ rfl (hl) ⟨13, .data⟩ (by simp [opsRken10]) rfl) ⟨12, .data⟩ (by simp [opsRken10]) rfl) ⟨11, .data⟩ (by simp [opsRken10]) rfl) (by rw [hLi]; decide))
    have hf2 : flagsOf rken10C L 2 = false := (flagsOf_at (C := rken10C) (j := 2) rfl L).trans (by
      cases hl : L 15 with
      | false => rfl
      | true => exact absurd (hcl 15 _ rfl (hl) ⟨11, .phase⟩ (by simp [opsRken10]) rfl) (by rw [hLi]; decide))
    have hfin := hK (.pointer (some ⟨g, o + k * 3, none⟩)) w (hG.quiet 10 11 36 _ rfl (by kernel_rfl) (by kernel_rfl))
    have HK := Lib.hid hfin
    generalize (resOf rken10C fun t => a.eval (.tmp t)) = R at *
    generalize flagsOf rken10C L = f at *
    clear hks hl0 hv hc0 ha0 hm0
    clear hSp
    clear hG hcl hdep hfr hK hfin hLi 
    go_simp
    exact HK.out
  | 12, ho =>
    simp only [opsRken10, List.getElem?_toArray, List.getElem?_cons_succ, List.getElem?_cons_zero, Option.some.injEq] at ho
    subst ho
    have x36 : a.tmps[36]?.getD undef = .pointer (some ⟨g, o + k * 3, none⟩) := by rw [← ev]; exact hG.val 10 11 36 _ rfl (hdep ⟨11, .data⟩ (by simp) rfl)
    rw [if_pos (show Region.wanted _ _ = true from rfl)]
    have hfin := hK (.pointer (some ⟨g, o + k * 3, none⟩)) w (hG.quiet 11 12 37 _ rfl (by kernel_rfl) (by kernel_rfl))
    have HK := Lib.hid hfin
    clear hG hcl hdep hfr hK hfin hLi 
    go_simp
    exact HK.out
  | 13, ho =>
    simp only [opsRken10, List.getElem?_toArray, List.getElem?_cons_succ, List.getElem?_cons_zero, Option.some.injEq] at ho
    subst ho
    have x37 : a.tmps[37]?.getD undef = .pointer (some ⟨g, o + k * 3, none⟩) := by rw [← ev]; exact hG.val 11 12 37 _ rfl (hdep ⟨12, .data⟩ (by simp) rfl)
    rw [if_pos (show Region.wanted _ _ = true from rfl)]
    have hSp := hG.1
    have hf1 : flagsOf rken10C L 1 = false := (flagsOf_at (C := rken10C) (j := 1) rfl L).trans (by
      cases hl : L 14 with
      | false => rfl
      | true => exact absurd (hcl 14 _ rfl (hl) ⟨13, .data⟩ (by simp [opsRken10]) rfl) (by rw [hLi]; decide))
    have hf2 : flagsOf rken10C L 2 = false := (flagsOf_at (C := rken10C) (j := 2) rfl L).trans (by
      cases hl : L 15 with
      | false => rfl
      | true => exact absurd (hcl 15 _ rfl (hl) ⟨13, .phase⟩ (by simp [opsRken10]) rfl) (by rw [hLi]; decide))
    have hfin := hK (.string key) w (hG.quiet 12 13 38 _ rfl (by kernel_rfl) (by kernel_rfl))
    have HK := Lib.hid hfin
    generalize (resOf rken10C fun t => a.eval (.tmp t)) = R at *
    generalize flagsOf rken10C L = f at *
    have q1 := hl0 _ _ _ hSp
    clear hkl hks hl0 hv hc0 ha0 hm0
    clear hSp
    clear hG hcl hdep hfr hK hfin hLi 
    go_simp
    exact HK.out
  | 14, ho =>
    simp only [opsRken10, List.getElem?_toArray, List.getElem?_cons_succ, List.getElem?_cons_zero, Option.some.injEq] at ho
    subst ho
    have x38 : a.tmps[38]?.getD undef = .string key := by rw [← ev]; exact hG.val 12 13 38 _ rfl (hdep ⟨13, .data⟩ (by simp) rfl)
    rw [if_pos (show Region.wanted _ _ = true from rfl)]
    have hSj := hG.1
    have hf0 : flagsOf rken10C L 0 = true := (flagsOf_at (C := rken10C) (j := 0) rfl L).trans (hdep ⟨8, .data⟩ (by simp) rfl)
    have hf1 : flagsOf rken10C L 1 = false := (flagsOf_at (C := rken10C) (j := 1) rfl L).trans hLi
    have hf2 : flagsOf rken10C L 2 = false := (flagsOf_at (C := rken10C) (j := 2) rfl L).trans (by
      cases hl : L 15 with
      | false => rfl
      | true => exact absurd (hcl 15 _ rfl (hl) ⟨14, .data⟩ (by simp [opsRken10]) rfl) (by rw [hLi]; decide))
    have r33 : a.tmps[33]?.getD undef = resOf rken10C (fun t => a.eval (.tmp t)) 0 := by rw [← ev]; exact (resOf_at (C := rken10C) (j := 0) rfl a).symm
    have hfin := fun v w' hs => hK v w' (hG.call 1 (14, 39) rfl (by kernel_rfl) v w' hs)
    have HK := Lib.hid hfin
    generalize (resOf rken10C fun t => a.eval (.tmp t)) = R at *
    generalize flagsOf rken10C L = f at *
    clear hG hcl hdep hfr hK hfin hLi
    obtain ⟨v, w', hrun, hs⟩ := ha0 _ _ _ hSj hf0 hf1
    refine oper_append_run2 (.tmp 33) (.tmp 38) 27 9 rfl w _ _ (by rw [ev]; exact r33) (by rw [ev]; exact x38) v w' hrun (HK.out v w' hs)
  | 15, ho =>
    simp only [opsRken10, List.getElem?_toArray, List.getElem?_cons_succ, List.getElem?_cons_zero, Option.some.injEq] at ho
    subst ho
    rw [if_pos (show Region.wanted _ _ = true from rfl)]
    have hSj := hG.1
    have hf0 : flagsOf rken10C L 0 = true := (flagsOf_at (C := rken10C) (j := 0) rfl L).trans (hdep ⟨8, .phase⟩ (by simp) rfl)
    have hf1 : flagsOf rken10C L 1 = true := (flagsOf_at (C := rken10C) (j := 1) rfl L).trans (hdep ⟨14, .data⟩ (by simp) rfl)
    have hf2 : flagsOf rken10C L 2 = false := (flagsOf_at (C := rken10C) (j := 2) rfl L).trans hLi
    have r39 : a.tmps[39]?.getD undef = resOf rken10C (fun t => a.eval (.tmp t)) 1 := by rw [← ev]; exact (resOf_at (C := rken10C) (j := 1) rfl a).symm
    have hfin := fun v w' hs => hK v w' (hG.call 2 (15, 3) rfl (by kernel_rfl) v w' hs)
    have HK := Lib.hid hfin
    generalize (resOf rken10C fun t => a.eval (.tmp t)) = R at *
    generalize flagsOf rken10C L = f at *
    clear hG hcl hdep hfr hK hfin hLi
    have hs := hm0 _ _ _ hSj hf1 hf2
    have hk := HK.out _ _ hs
    have HK2 := Lib.hid hk
    clear hs hk HK hSj hkl hks hl0 hv hc0 ha0 hm0
    go_simp
    exact HK2.out
  | n + 16, ho => exact absurd (Array.getElem?_eq_some_iff.1 ho).1 (by show ¬ n + 16 < 16; omega)
end Go.Proofs.Ytgpkdnnlgafenaa

namespace Go.Proofs.Ytgpkdnnlgafenaa
open Go.RowKit
set_option linter.unusedVariables false
set_option linter.unusedSimpArgs false

def opsRken12 : Array Oper := #[
  { dst := some 46, op := Op.move (Operand.tmp 3), type := 27, pos := "ref.go:204", after := #[], guard := none },
  { dst := some 47, op := Op.move (Operand.tmp 0), type := 47, pos := "ref.go:204", after := #[], guard := none },
  { dst := some 48, op := Op.move (Operand.tmp 4), type := 3, pos := "ref.go:204", after := #[], guard := none },
  { dst := some 49, op := Op.indexAddr 47 (Operand.tmp 47) (Operand.tmp 48), type := 0, pos := "ref.go:204", after := #[{ on := 1, ground := Ground.data }, { on := 2, ground := Ground.data }], guard := none },
  { dst := some 50, op := Op.fieldAddr 80 (Operand.tmp 49) 1, type := 0, pos := "ref.go:204", after := #[{ on := 3, ground := Ground.data }], guard := none },
  { dst := some 51, op := Op.load 27 (Operand.tmp 50), type := 27, pos := "ref.go:204", after := #[{ on := 4, ground := Ground.data }], guard := none },
  { dst := some 52, op := Op.call { callee := Callee.builtin Builtin.len, args := #[Operand.tmp 51], argTypes := #[27] }, type := 3, pos := "ref.go:204", after := #[{ on := 5, ground := Ground.data }], guard := none },
  { dst := some 53, op := Op.convert 3 84 (Operand.tmp 52), type := 84, pos := "ref.go:204", after := #[{ on := 6, ground := Ground.data }], guard := none },
  { dst := some 54, op := Op.call { callee := Callee.value (Operand.func 37), args := #[Operand.tmp 46, Operand.tmp 53, Operand.const (Value.int IntKind.i64 4)], argTypes := #[27, 84, 3] }, type := 27, pos := "ref.go:204", after := #[{ on := 0, ground := Ground.data }, { on := 7, ground := Ground.data }], guard := none },
  { dst := some 55, op := Op.move (Operand.tmp 0), type := 47, pos := "ref.go:204", after := #[], guard := none },
  { dst := some 56, op := Op.move (Operand.tmp 4), type := 3, pos := "ref.go:204", after := #[], guard := none },
  { dst := some 57, op := Op.indexAddr 47 (Operand.tmp 55) (Operand.tmp 56), type := 0, pos := "ref.go:204", after := #[{ on := 9, ground := Ground.data }, { on := 10, ground := Ground.data }], guard := none },
  { dst := some 58, op := Op.fieldAddr 80 (Operand.tmp 57) 1, type := 0, pos := "ref.go:204", after := #[{ on := 11, ground := Ground.data }], guard := none },
  { dst := some 59, op := Op.load 27 (Operand.tmp 58), type := 27, pos := "ref.go:204", after := #[{ on := 12, ground := Ground.data }], guard := none },
  { dst := some 60, op := Op.call { callee := Callee.builtin Builtin.append, args := #[Operand.tmp 54, Operand.tmp 59], argTypes := #[27, 27] }, type := 27, pos := "ref.go:204", after := #[{ on := 8, ground := Ground.data }, { on := 13, ground := Ground.data }, { on := 8, ground := Ground.chain }], guard := none },
  { dst := some 3, op := Op.assign (Operand.tmp 60), type := 27, pos := "ref.go:204", after := #[{ on := 14, ground := Ground.data }, { on := 14, ground := Ground.chain }, { on := 0, ground := Ground.phase }, { on := 1, ground := Ground.phase }, { on := 2, ground := Ground.phase }, { on := 3, ground := Ground.phase }, { on := 4, ground := Ground.phase }, { on := 5, ground := Ground.phase }, { on := 6, ground := Ground.phase }, { on := 7, ground := Ground.phase }, { on := 8, ground := Ground.phase }, { on := 9, ground := Ground.phase }, { on := 10, ground := Ground.phase }, { on := 11, ground := Ground.phase }, { on := 12, ground := Ground.phase }, { on := 13, ground := Ground.phase }, { on := 14, ground := Ground.phase }], guard := none }]

def rken12Vals (g o k nl c0 nm cm nv cv : Nat) (Am Av : Option Addr) : List (Nat × Nat × Value) := [(0, 46, .slice Am nm cm), (1, 47, .slice (some ⟨g, o, none⟩) nl c0), (2, 48, .int .i64 (k : Int)), (3, 49, .pointer (some ⟨g, o + k * 3, none⟩)), (4, 50, .pointer (some ⟨g, o + k * 3 + 1, none⟩)), (5, 51, .slice Av nv cv), (6, 52, .int .i64 (nv : Int)), (7, 53, .int .u64 (nv : Int)), (9, 55, .slice (some ⟨g, o, none⟩) nl c0), (10, 56, .int .i64 (k : Int)), (11, 57, .pointer (some ⟨g, o + k * 3, none⟩)), (12, 58, .pointer (some ⟨g, o + k * 3 + 1, none⟩)), (13, 59, .slice Av nv cv)]
def rken12C : List (Nat × Nat) := [(8, 54), (14, 60), (15, 3)]

set_option maxHeartbeats 4000000 in
set_option maxRecDepth 100000 in
theorem rken12 {Q : Exit → Act → World → Prop} {a0 : Act} {wp : World} (g o k nl c0 nm cm nv cv : Nat) (Am Av : Option Addr) (S : (Nat → Bool) → (Nat → Value) → World → Prop)
    (hsz : 60 < a0.tmps.size) (in0 : a0.eval (.tmp 0) = .slice (some ⟨g, o, none⟩) nl c0) (in4 : a0.eval (.tmp 4) = .int .i64 (k : Int))
    (hkl : (k : Int) < (nl : Int)) (hks : (nv : Int) ≤ 200000) (hl0 : ∀ f R w, S f R w → w.cell? ⟨g, o + k * 3 + 1, none⟩ = some (.slice Av nv cv))
    (hv : ∀ f R w, S f R w → f 2 = false → R 2 = .slice Am nm cm)
    (hc0 : ∀ f R w, S f R w → f 0 = false → f 1 = false → Calls Try.prog 37 #[.slice Am nm cm, .int .u64 (nv : Int), .int .i64 4] w fun e w' => ∃ v, e = .returned v ∧ S (setF f 0) (setR R 0 v) w')
    (ha0 : ∀ f R w, S f R w → f 0 = true → f 1 = false → ∃ v w', (Builtin.append_ #[27, 27] 27 #[R 0, .slice Av nv cv]).run Try.prog w = .ok v w' ∧ S (setF f 1) (setR R 1 v) w')
    (hm0 : ∀ f R w, S f R w → f 1 = true → f 2 = false → S (setF f 2) (setR R 2 (R 1)) w)
    (hS : S (fun _ => false) (resOf rken12C fun t => a0.eval (.tmp t)) wp.drew)
    (fin : ∀ a w f, Fr [46, 47, 48, 49, 50, 51, 52, 53, 54, 55, 56, 57, 58, 59, 60, 3] a0 a → (∀ j, j < 3 → f j = true) → S f (resOf rken12C fun t => a.eval (.tmp t)) w → Q .normal a w) :
    (Code.region 12 opsRken12 true).wp Try.prog Q a0 wp := by
  refine region_inv (by kernel_rfl) [46, 47, 48, 49, 50, 51, 52, 53, 54, 55, 56, 57, 58, 59, 60, 3] (by kernel_rfl) (by kernel_rfl) (fun t ht => by simp at ht; omega) (GF (rken12Vals g o k nl c0 nm cm nv cv Am Av) rken12C S) (.start hS) ?_
    (fun L a w hf hall hG => fin a w (flagsOf rken12C L) hf  (fun j hj => by
      match j, hj with
      | 0, _ => exact (flagsOf_at (C := rken12C) (j := 0) rfl L).trans (hall 8 (by decide))
      | 1, _ => exact (flagsOf_at (C := rken12C) (j := 1) rfl L).trans (hall 14 (by decide))
      | 2, _ => exact (flagsOf_at (C := rken12C) (j := 2) rfl L).trans (hall 15 (by decide))
      | n + 3, h => exact absurd h (by omega)) hG.1)
  clear hS fin
  intro ix oo ho L a w hfr hG hLi hdep hcl K hK
  have e0 : a.tmps[0]?.getD undef = .slice (some ⟨g, o, none⟩) nl c0 := by rw [← ev]; exact (hfr.same 0 (by decide)).trans in0
  have e4 : a.tmps[4]?.getD undef = .int .i64 (k : Int) := by rw [← ev]; exact (hfr.same 4 (by decide)).trans in4
  clear in0 in4
  match ix, ho with
  | 0, ho =>
    simp only [opsRken12, List.getElem?_toArray, List.getElem?_cons_zero, Option.some.injEq] at ho
    subst ho
    rw [if_pos (show Region.wanted _ _ = true from rfl)]
    have hSp := hG.1
    have hf0 : flagsOf rken12C L 0 = false := (flagsOf_at (C := rken12C) (j := 0) rfl L).trans (by
      cases hl : L 8 with
      | false => rfl
      | true => exact absurd (hcl 8 _ rfl (hl) ⟨0, .data⟩ (by simp [opsRken12]) rfl) (by rw [hLi]; decide))
    have hf1 : flagsOf rken12C L 1 = false := (flagsOf_at (C := rken12C) (j := 1) rfl L).trans (by
      cases hl : L 14 with
      | false => rfl
      | true => exact absurd (hcl 8 _ rfl (hcl 14 _ rfl (hl) ⟨8, .data⟩ (by simp [opsRken12]) rfl) ⟨0, .data⟩ (by simp [opsRken12]) rfl) (by rw [hLi]; decide))
    have hf2 : flagsOf rken12C L 2 = false := (flagsOf_at (C := rken12C) (j := 2) rfl L).trans (by
      cases hl : L 15 with
      | false => rfl
      | true => exact absurd (hcl 15 _ rfl (hl) ⟨0, .phase⟩ (by simp [opsRken12]) rfl) (by rw [hLi]; decide))
    have r3 : a.tmps[3]?.getD undef = resOf rken12C (fun t => a.eval (.tmp t)) 2 := by rw [← ev]; exact (resOf_at (C := rken12C) (j := 2) rfl a).symm
    have hfin := hK (.slice Am nm cm) w (hG.quiet 0 0 46 _ rfl (by kernel_rfl) (by kernel_rfl))
    have HK := Lib.hid hfin
    generalize (resOf rken12C fun t => a.eval (.tmp t)) = R at *
    generalize flagsOf rken12C L = f at *
    rw [hv _ _ _ hSp hf2] at r3
    clear hkl hks hl0 hv hc0 ha0 hm0
    clear hSp
    clear hG hcl hdep hfr hK hfin hLi 
    go_simp
    exact HK.out
  | 1, ho =>
    simp only [opsRken12, List.getElem?_toArray, List.getElem?_cons_succ, List.getElem?_cons_zero, Option.some.injEq] at ho
    subst ho
    rw [if_pos (show Region.wanted _ _ = true from rfl)]
    have hfin := hK (.slice (some ⟨g, o, none⟩) nl c0) w (hG.quiet 1 1 47 _ rfl (by kernel_rfl) (by kernel_rfl))
    have HK := Lib.hid hfin
    clear hG hcl hdep hfr hK hfin hLi 
    go_simp
    exact HK.out
  | 2, ho =>
    simp only [opsRken12, List.getElem?_toArray, List.getElem?_cons_succ, List.getElem?_cons_zero, Option.some.injEq] at ho
    subst ho
    rw [if_pos (show Region.wanted _ _ = true from rfl)]
    have hfin := hK (.int .i64 (k : Int)) w (hG.quiet 2 2 48 _ rfl (by kernel_rfl) (by kernel_rfl))
    have HK := Lib.hid hfin
    clear hG hcl hdep hfr hK hfin hLi 
    go_simp
    exact HK.out
  | 3, ho =>
    simp only [opsRken12, List.getElem?_toArray, List.getElem?_cons_succ, List.getElem?_cons_zero, Option.some.injEq] at ho
    subst ho
    have x47 : a.tmps[47]?.getD undef = .slice (some ⟨g, o, none⟩) nl c0 := by rw [← ev]; exact hG.val 1 1 47 _ rfl (hdep ⟨1, .data⟩ (by simp) rfl)
    have x48 : a.tmps[48]?.getD undef = .int .i64 (k : Int) := by rw [← ev]; exact hG.val 2 2 48 _ rfl (hdep ⟨2, .data⟩ (by simp) rfl)
    rw [if_pos (show Region.wanted _ _ = true from rfl)]
    have hSp := hG.1
    have hf0 : flagsOf rken12C L 0 = false := (flagsOf_at (C := rken12C) (j := 0) rfl L).trans (by
      cases hl : L 8 with
      | false => rfl
      | true => exact absurd (hcl 4 _ rfl (hcl 5 _ rfl (hcl 6 _ rfl (hcl 7 _ rfl (hcl 8 _ rfl (hl) ⟨7, .data⟩ (by simp [opsRken12]) rfl) ⟨6, .data⟩ (by simp [opsRken12]) rfl) ⟨5, .data⟩ (by simp [opsRken12]) rfl) ⟨4, .data⟩ (by simp [opsRken12]) rfl) ⟨3, .data⟩ (by simp [opsRken12]) rfl) (by rw [hLi]; decide))
    have hf1 : flagsOf rken12C L 1 = false := (flagsOf_at (C := rken12C) (j := 1) rfl L).trans (by
      cases hl : L 14 with
      | false => rfl
      | true => exact absurd (hcl 4 _ rfl (hcl 5 _ rfl (hcl 6 _ rfl (hcl 7 _ rfl (hcl 8 _ rfl (hcl 14 _ rfl (hl) ⟨8, .data⟩ (by simp [opsRken12]) rfl) ⟨7, .data⟩ (by simp [opsRken12]) rfl) ⟨6, .data⟩ (by simp [opsRken12]) rfl) ⟨5, .data⟩ (by simp [opsRken12]) rfl) ⟨4, .data⟩ (by simp [opsRken12]) rfl) ⟨3, .data⟩ (by simp [opsRken12]) rfl) (by rw [hLi]; decide))
    have hf2 : flagsOf rken12C L 2 = false := (flagsOf_at (C := rken12C) (j := 2) rfl L).trans (by
      cases hl : L 15 with
      | false => rfl
      | true => exact absurd (hcl 15 _ rfl (hl) ⟨3, .phase⟩ (by simp [opsRken12]) rfl) (by rw [hLi]; decide))
    have hfin := hK (.pointer (some ⟨g, o + k * 3, none⟩)) w (hG.quiet 3 3 49 _ rfl (by kernel_rfl) (by kernel_rfl))
    have HK := Lib.hid hfin
    generalize (resOf rken12C fun t => a.eval (.tmp t)) = R at *
    generalize flagsOf rken12C L = f at *
    clear hks hl0 hv hc0 ha0 hm0
    clear hSp
    clear hG hcl hdep hfr hK hfin hLi 
    go_simp
    exact HK.out
  | 4, ho =>
    simp only [opsRken12, List.getElem?_toArray, List.getElem?_cons_succ, List.getElem?_cons_zero, Option.some.injEq] at ho
    subst ho
    have x49 : a.tmps[49]?.getD undef = .pointer (some ⟨g, o + k * 3, none⟩) := by rw [← ev]; exact hG.val 3 3 49 _ rfl (hdep ⟨3, .data⟩ (by simp) rfl)
    rw [if_pos (show Region.wanted _ _ = true from rfl)]
    have hfin := hK (.pointer (some ⟨g, o + k * 3 + 1, none⟩)) w (hG.quiet 4 4 50 _ rfl (by kernel_rfl) (by kernel_rfl))
    have HK := Lib.hid hfin
    clear hG hcl hdep hfr hK hfin hLi 
    go_simp
    exact HK.out
  | 5, ho =>
    simp only [opsRken12, List.getElem?_toArray, List.getElem?_cons_succ, List.getElem?_cons_zero, Option.some.injEq] at ho
    subst ho
    have x50 : a.tmps[50]?.getD undef = .pointer (some ⟨g, o + k * 3 + 1, none⟩) := by rw [← ev]; exact hG.val 4 4 50 _ rfl (hdep ⟨4, .data⟩ (by simp) rfl)
    rw [if_pos (show Region.wanted _ _ = true from rfl)]
    have hSp := hG.1
    have hf0 : flagsOf rken12C L 0 = false := (flagsOf_at (C := rken12C) (j := 0) rfl L).trans (by
      cases hl : L 8 with
      | false => rfl
      | true => exact absurd (hcl 6 _ rfl (hcl 7 _ rfl (hcl 8 _ rfl (hl) ⟨7, .data⟩ (by simp [opsRken12]) rfl) ⟨6, .data⟩ (by simp [opsRken12]) rfl) ⟨5, .data⟩ (by simp [opsRken12]) rfl) (by rw [hLi]; decide))
    have hf1 : flagsOf rken12C L 1 = false := (flagsOf_at (C := rken12C) (j := 1) rfl L).trans (by
      cases hl : L 14 with
      | false => rfl
      | true => exact absurd (hcl 6 _ rfl (hcl 7 _ rfl (hcl 8 _ rfl (hcl 14 _ rfl (hl) ⟨8, .data⟩ (by simp [opsRken12]) rfl) ⟨7, .data⟩ (by simp [opsRken12]) rfl) ⟨6, .data⟩ (by simp [opsRken12]) rfl) ⟨5, .data⟩ (by simp [opsRken12]) rfl) (by rw [hLi]; decide))
    have hf2 : flagsOf rken12C L 2 = false := (flagsOf_at (C := rken12C) (j := 2) rfl L).trans (by
      cases hl : L 15 with
      | false => rfl
      | true => exact absurd (hcl 15 _ rfl (hl) ⟨5, .phase⟩ (by simp [opsRken12]) rfl) (by rw [hLi]; decide))
    have hfin := hK (.slice Av nv cv) w (hG.quiet 5 5 51 _ rfl (by kernel_rfl) (by kernel_rfl))
    have HK := Lib.hid hfin
    generalize (resOf rken12C fun t => a.eval (.tmp t)) = R at *
    generalize flagsOf rken12C L = f at *
    have q1 := hl0 _ _ _ hSp
    clear hkl hks hl0 hv hc0 ha0 hm0
    clear hSp
    clear hG hcl hdep hfr hK hfin hLi 
    go_simp
    exact HK.out
  | 6, ho =>
    simp only [opsRken12, List.getElem?_toArray, List.getElem?_cons_succ, List.getElem?_cons_zero, Option.some.injEq] at ho
    subst ho
    have x51 : a.tmps[51]?.getD undef = .slice Av nv cv := by rw [← ev]; exact hG.val 5 5 51 _ rfl (hdep ⟨5, .data⟩ (by simp) rfl)
    rw [if_pos (show Region.wanted _ _ = true from rfl)]
    have hSp := hG.1
    have hf0 : flagsOf rken12C L 0 = false := (flagsOf_at (C := rken12C) (j := 0) rfl L).trans (by
      cases hl : L 8 with
      | false => rfl
      | true => exact absurd (hcl 7 _ rfl (hcl 8 _ rfl (hl) ⟨7, .data⟩ (by simp [opsRken12]) rfl) ⟨6, .data⟩ (by simp [opsRken12]) rfl) (by rw [hLi]; decide))
    have hf1 : flagsOf rken12C L 1 = false := (flagsOf_at (C := rken12C) (j := 1) rfl L).trans (by
      cases hl : L 14 with
      | false => rfl
      | true => exact absurd (hcl 7 _ rfl (hcl 8 _ rfl (hcl 14 _ rfl (hl) ⟨8, .data⟩ (by simp [opsRken12]) rfl) ⟨7, .data⟩ (by simp [opsRken12]) rfl) ⟨6, .data⟩ (by simp [opsRken12]) rfl) (by rw [hLi]; decide))
    have hf2 : flagsOf rken12C L 2 = false := (flagsOf_at (C := rken12C) (j := 2) rfl L).trans (by
      cases hl : L 15 with
      | false => rfl
      | true => exact absurd (hcl 15 _ rfl (hl) ⟨6, .phase⟩ (by simp [opsRken12]) rfl) (by rw [hLi]; decide))
    have hfin := hK (.int .i64 (nv : Int)) w (hG.quiet 6 6 52 _ rfl (by kernel_rfl) (by kernel_rfl))
    have HK := Lib.hid hfin
    generalize (resOf rken12C fun t => a.eval (.tmp t)) = R at *
    generalize flagsOf rken12C L = f at *
    clear hkl hl0 hv hc0 ha0 hm0
    clear hSp
    clear hG hcl hdep hfr hK hfin hLi 
    go_simp
    exact HK.out
  | 7, ho =>
    simp only [opsRken12, List.getElem?_toArray, List.getElem?_cons_succ, List.getElem?_cons_zero, Option.some.injEq] at ho
    subst ho
    have x52 : a.tmps[52]?.getD undef = .int .i64 (nv : Int) := by rw [← ev]; exact hG.val 6 6 52 _ rfl (hdep ⟨6, .data⟩ (by simp) rfl)
    rw [if_pos (show Region.wanted _ _ = true from rfl)]
    have hSp := hG.1
    have hf0 : flagsOf rken12C L 0 = false := (flagsOf_at (C := rken12C) (j := 0) rfl L).trans (by
      cases hl : L 8 with
      | false => rfl
      | true => exact absurd (hcl 8 _ rfl (hl) ⟨7, .data⟩ (by simp [opsRken12]) rfl) (by rw [hLi]; decide))
    have hf1 : flagsOf rken12C L 1 = false := (flagsOf_at (C := rken12C) (j := 1) rfl L).trans (by
      cases hl : L 14 with
      | false => rfl
      | true => exact absurd (hcl 8 _ rfl (hcl 14 _ rfl (hl) ⟨8, .data⟩ (by simp [opsRken12]) rfl) ⟨7, .data⟩ (by simp [opsRken12]) rfl) (by rw [hLi]; decide))
    have hf2 : flagsOf rken12C L 2 = false := (flagsOf_at (C := rken12C) (j := 2) rfl L).trans (by
      cases hl : L 15 with
      | false => rfl
      | true => exact absurd (hcl 15 _ rfl (hl) ⟨7, .phase⟩ (by simp [opsRken12]) rfl) (by rw [hLi]; decide))
    have hfin := hK (.int .u64 (nv : Int)) w (hG.quiet 7 7 53 _ rfl (by kernel_rfl) (by kernel_rfl))
    have HK := Lib.hid hfin
    generalize (resOf rken12C fun t => a.eval (.tmp t)) = R at *
    generalize flagsOf rken12C L = f at *
    have q1 : IntKind.u64.wrap (nv : Int) = (nv : Int) := by rw [IntKind.wrap_u64]; omega
    clear hkl hl0 hv hc0 ha0 hm0
    clear hSp
    clear hG hcl hdep hfr hK hfin hLi 
    go_simp
    exact HK.out
  | 8, ho =>
    simp only [opsRken12, List.getElem?_toArray, List.getElem?_cons_succ, List.getElem?_cons_zero, Option.some.injEq] at ho
    subst ho
    have x46 : a.tmps[46]?.getD undef = .slice Am nm cm := by rw [← ev]; exact hG.val 0 0 46 _ rfl (hdep ⟨0, .data⟩ (by simp) rfl)
    have x53 : a.tmps[53]?.getD undef = .int .u64 (nv : Int) := by rw [← ev]; exact hG.val 7 7 53 _ rfl (hdep ⟨7, .data⟩ (by simp) rfl)
    rw [if_pos (show Region.wanted _ _ = true from rfl)]
    have hSj := hG.1
    have hf0 : flagsOf rken12C L 0 = false := (flagsOf_at (C := rken12C) (j := 0) rfl L).trans hLi
    have hf1 : flagsOf rken12C L 1 = false := (flagsOf_at (C := rken12C) (j := 1) rfl L).trans (by
      cases hl : L 14 with
      | false => rfl
      | true => exact absurd (hcl 14 _ rfl (hl) ⟨8, .data⟩ (by simp [opsRken12]) rfl) (by rw [hLi]; decide))
    have hf2 : flagsOf rken12C L 2 = false := (flagsOf_at (C := rken12C) (j := 2) rfl L).trans (by
      cases hl : L 15 with
      | false => rfl
      | true => exact absurd (hcl 15 _ rfl (hl) ⟨8, .phase⟩ (by simp [opsRken12]) rfl) (by rw [hLi]; decide))
    have hfin := fun v w' hs => hK v w' (hG.call 0 (8, 54) rfl (by kernel_rfl) v w' hs)
    have HK := Lib.hid hfin
    generalize (resOf rken12C fun t => a.eval (.tmp t)) = R at *
    generalize flagsOf rken12C L = f at *
    clear hG hcl hdep hfr hK hfin hLi
    have hc := Lib.hid (hc0 _ _ _ hSj hf0 hf1)
    clear hSj hkl hks hl0 hv hc0 ha0 hm0
    go_simp
    go_at_call 37
    refine hc.out.mono ?_
    rintro e w' ⟨v, rfl, hs⟩
    exact HK.out v w' hs
  | 9, ho =>
    simp only [opsRken12, List.getElem?_toArray, List.getElem?_cons_succ, List.getElem?_cons_zero, Option.some.injEq] at ho
    subst ho
    rw [if_pos (show Region.wanted _ _ = true from rfl)]
    have hfin := hK (.slice (some ⟨g, o, none⟩) nl c0) w (hG.quiet 8 9 55 _ rfl (by kernel_rfl) (by kernel_rfl))
    have HK := Lib.hid hfin
    clear hG hcl hdep hfr hK hfin hLi 
    go_simp
    exact HK.out
  | 10, ho =>
    simp only [opsRken12, List.getElem?_toArray, List.getElem?_cons_succ, List.getElem?_cons_zero, Option.some.injEq] at ho
    subst ho
    rw [if_pos (show Region.wanted _ _ = true from rfl)]
    have hfin := hK (.int .i64 (k : Int)) w (hG.quiet 9 10 56 _ rfl (by kernel_rfl) (by kernel_rfl))
    have HK := Lib.hid hfin
    clear hG hcl hdep hfr hK hfin hLi 
    go_simp
    exact HK.out
  | 11, ho =>
    simp only [opsRken12, List.getElem?_toArray, List.getElem?_cons_succ, List.getElem?_cons_zero, Option.some.injEq] at ho
    subst ho
    have x55 : a.tmps[55]?.getD undef = .slice (some ⟨g, o, none⟩) nl c0 := by rw [← ev]; exact hG.val 8 9 55 _ rfl (hdep ⟨9, .data⟩ (by simp) rfl)
    have x56 : a.tmps[56]?.getD undef = .int .i64 (k : Int) := by rw [← ev]; exact hG.val 9 10 56 _ rfl (hdep ⟨10, .data⟩ (by simp) rfl)
    rw [if_pos (show Region.wanted _ _ = true from rfl)]
    have hSp := hG.1
    have hf1 : flagsOf rken12C L 1 = false := (flagsOf_at (C := rken12C) (j := 1) rfl L).trans (by
      cases hl : L 14 with
      | false => rfl
      | true => exact absurd (hcl 12 _ rfl (hcl 13 _ rfl (hcl 14 _ rfl (hl) ⟨13, .data⟩ (by simp [opsRken12]) rfl) ⟨12, .data⟩ (by simp [opsRken12]) rfl) ⟨11, .data⟩ (by simp [opsRken12]) rfl) (by rw [hLi]; decide))
    have hf2 : flagsOf rken12C L 2 = false := (flagsOf_at (C := rken12C) (j := 2) rfl L).trans (by
      cases hl : L 15 with
      | false => rfl
      | true => exact absurd (hcl 15 _ rfl (hl) ⟨11, .phase⟩ (by simp [opsRken12]) rfl) (by rw [hLi]; decide))
    have hfin := hK (.pointer (some ⟨g, o + k * 3, none⟩)) w (hG.quiet 10 11 57 _ rfl (by kernel_rfl) (by kernel_rfl))
    have HK := Lib.hid hfin
    generalize (resOf rken12C fun t => a.eval (.tmp t)) = R at *
    generalize flagsOf rken12C L = f at *
    clear hks hl0 hv hc0 ha0 hm0
    clear hSp
    clear hG hcl hdep hfr hK hfin hLi 
    go_simp
    exact HK.out
  | 12, ho =>
    simp only [opsRken12, List.getElem?_toArray, List.getElem?_cons_succ, List.getElem?_cons_zero, Option.some.injEq] at ho
    subst ho
    have x57 : a.tmps[57]?.getD undef = .pointer (some ⟨g, o + k * 3, none⟩) := by rw [← ev]; exact hG.val 10 11 57 _ rfl (hdep ⟨11, .data⟩ (by simp) rfl)
    rw [if_pos (show Region.wanted _ _ = true from rfl)]
    have hfin := hK (.pointer (some ⟨g, o + k * 3 + 1, none⟩)) w (hG.quiet 11 12 58 _ rfl (by kernel_rfl) (by kernel_rfl))
    have HK := Lib.hid hfin
    clear hG hcl hdep hfr hK hfin hLi 
    go_simp
    exact HK.out
  | 13, ho =>
    simp only [opsRken12, List.getElem?_toArray, List.getElem?_cons_succ, List.getElem?_cons_zero, Option.some.injEq] at ho
    subst ho
    have x58 : a.tmps[58]?.getD undef = .pointer (some ⟨g, o + k * 3 + 1, none⟩) := by rw [← ev]; exact hG.val 11 12 58 _ rfl (hdep ⟨12, .data⟩ (by simp) rfl)
    rw [if_pos (show Region.wanted _ _ = true from rfl)]
    have hSp := hG.1
    have hf1 : flagsOf rken12C L 1 = false := (flagsOf_at (C := rken12C) (j := 1) rfl L).trans (by
      cases hl : L 14 with
      | false => rfl
      | true => exact absurd (hcl 14 _ rfl (hl) ⟨13, .data⟩ (by simp [opsRken12]) rfl) (by rw [hLi]; decide))
    have hf2 : flagsOf rken12C L 2 = false := (flagsOf_at (C := rken12C) (j := 2) rfl L).trans (by
      cases hl : L 15 with
      | false => rfl
      | true => exact absurd (hcl 15 _ rfl (hl) ⟨13, .phase⟩ (by simp [opsRken12]) rfl) (by rw [hLi]; decide))
    have hfin := hK (.slice Av nv cv) w (hG.quiet 12 13 59 _ rfl (by kernel_rfl) (by kernel_rfl))
    have HK := Lib.hid hfin
    generalize (resOf rken12C fun t => a.eval (.tmp t)) = R at *
    generalize flagsOf rken12C L = f at *
    have q1 := hl0 _ _ _ hSp
    clear hkl hks hl0 hv hc0 ha0 hm0
    clear hSp
    clear hG hcl hdep hfr hK hfin hLi 
    go_simp
    exact HK.out
  | 14, ho =>
    simp only [opsRken12, List.getElem?_toArray, List.getElem?_cons_succ, List.getElem?_cons_zero, Option.some.injEq] at ho
    subst ho
    have x59 : a.tmps[59]?.getD undef = .slice Av nv cv := by rw [← ev]; exact hG.val 12 13 59 _ rfl (hdep ⟨13, .data⟩ (by simp) rfl)
    rw [if_pos (show Region.wanted _ _ = true from rfl)]
    have hSj := hG.1
    have hf0 : flagsOf rken12C L 0 = true := (flagsOf_at (C := rken12C) (j := 0) rfl L).trans (hdep ⟨8, .data⟩ (by simp) rfl)
    have hf1 : flagsOf rken12C L 1 = false := (flagsOf_at (C := rken12C) (j := 1) rfl L).trans hLi
    have hf2 : flagsOf rken12C L 2 = false := (flagsOf_at (C := rken12C) (j := 2) rfl L).trans (by
      cases hl : L 15 with
      | false => rfl
      | true => exact absurd (hcl 15 _ rfl (hl) ⟨14, .data⟩ (by simp [opsRken12]) rfl) (by rw [hLi]; decide))
    have r54 : a.tmps[54]?.getD undef = resOf rken12C (fun t => a.eval (.tmp t)) 0 := by rw [← ev]; exact (resOf_at (C := rken12C) (j := 0) rfl a).symm
    have hfin := fun v w' hs => hK v w' (hG.call 1 (14, 60) rfl (by kernel_rfl) v w' hs)
    have HK := Lib.hid hfin
    generalize (resOf rken12C fun t => a.eval (.tmp t)) = R at *
    generalize flagsOf rken12C L = f at *
    clear hG hcl hdep hfr hK hfin hLi
    obtain ⟨v, w', hrun, hs⟩ := ha0 _ _ _ hSj hf0 hf1
    refine oper_append_run (.tmp 54) (.tmp 59) 27 rfl w _ _ (by rw [ev]; exact r54) (by rw [ev]; exact x59) v w' hrun (HK.out v w' hs)
  | 15, ho =>
    simp only [opsRken12, List.getElem?_toArray, List.getElem?_cons_succ, List.getElem?_cons_zero, Option.some.injEq] at ho
    subst ho
    rw [if_pos (show Region.wanted _ _ = true from rfl)]
    have hSj := hG.1
    have hf0 : flagsOf rken12C L 0 = true := (flagsOf_at (C := rken12C) (j := 0) rfl L).trans (hdep ⟨8, .phase⟩ (by simp) rfl)
    have hf1 : flagsOf rken12C L 1 = true := (flagsOf_at (C := rken12C) (j := 1) rfl L).trans (hdep ⟨14, .data⟩ (by simp) rfl)
    have hf2 : flagsOf rken12C L 2 = false := (flagsOf_at (C := rken12C) (j := 2) rfl L).trans hLi
    have r60 : a.tmps[60]?.getD undef = resOf rken12C (fun t => a.eval (.tmp t)) 1 := by rw [← ev]; exact (resOf_at (C := rken12C) (j := 1) rfl a).symm
    have hfin := fun v w' hs => hK v w' (hG.call 2 (15, 3) rfl (by kernel_rfl) v w' hs)
    have HK := Lib.hid hfin
    generalize (resOf rken12C fun t => a.eval (.tmp t)) = R at *
    generalize flagsOf rken12C L = f at *
    clear hG hcl hdep hfr hK hfin hLi
    have hs := hm0 _ _ _ hSj hf1 hf2
    have hk := HK.out _ _ hs
    have HK2 := Lib.hid hk
    clear hs hk HK hSj hkl hks hl0 hv hc0 ha0 hm0
    go_simp
    exact HK2.out
  | n + 16, ho => exact absurd (Array.getElem?_eq_some_iff.1 ho).1 (by show ¬ n + 16 < 16; omega)
end Go.Proofs.Ytgpkdnnlgafenaa

namespace Go.Proofs.Ytgpkdnnlgafenaa
open Go.RowKit Kv
set_option linter.unusedVariables false

/-- A number, then bytes, are put behind the row vm (bytes L): L1, then L2. -/
structure EnS (wp : World) (vm : Value) (L L1 L2 : List UInt8) (f : Nat → Bool) (R : Nat → Value) (w : World) : Prop where
  only : Only (blk vm) wp w
  r0 : f 0 = false → RowAt vm wp w vm L
  r1 : f 0 = true → f 1 = false → ∃ A c, R 0 = .slice A L1.length c ∧ RowAt vm wp w (.slice A L1.length c) L1
  r2 : f 1 = true → ∃ A c, R 1 = .slice A L2.length c ∧ RowAt vm wp w (.slice A L2.length c) L2
  rv : (f 2 = false → R 2 = vm) ∧ (f 2 = true → f 1 = true ∧ R 2 = R 1)
theorem rnum_any {v0 v : Value} {w1 W : World} {l : List UInt8} (h : RowAt v0 w1 W v l) (x s : Nat) (hs : s ≤ 8) (hl : l.length ≤ 1000000000) (X S : Int) (hX : X = (x : Int)) (hS : S = (s : Int)) :
    Calls Try.prog 37 #[v, .int .u64 X, .int .i64 S] W fun e W' => ∃ A c, e = .returned (.slice A (l ++ Rc.big x s).length c) ∧ RowAt v0 w1 W' (.slice A (l ++ Rc.big x s).length c) (l ++ Rc.big x s) := by
  subst hX hS
  refine (rbig_any v l x s W h.row hs (by omega)).mono ?_
  rintro e W' ⟨v', rfl, h1, h2, h3⟩
  obtain ⟨A', c', rfl, _, _⟩ := h1.shape
  exact ⟨A', c', rfl, h.step h1 h2 h3⟩
section
variable {wp w w' : World} {vm v : Value} {L L1 L2 : List UInt8} {f : Nat → Bool} {R : Nat → Value}
theorem EnS.num (h : EnS wp vm L L1 L2 f R w) (h1 : f 1 = false) {A : Option Addr} {c : Nat} (hr : RowAt vm wp w' (.slice A L1.length c) L1) : EnS wp vm L L1 L2 (setF f 0) (setR R 0 (.slice A L1.length c)) w' :=
  ⟨hr.only, (fun h => by rw [setF_self] at h; cases h), fun _ _ => ⟨A, c, setR_self .., hr⟩, (fun h => by rw [setF_ne _ (by decide), h1] at h; cases h), by rw [setF_ne _ (by decide), setF_ne _ (by decide), setR_ne _ _ (by decide), setR_ne _ _ (by decide)]; exact h.rv⟩
theorem EnS.app (h : EnS wp vm L L1 L2 f R w) (h0 : f 0 = true) (h1 : f 1 = false) {A : Option Addr} {c : Nat} (hr : RowAt vm wp w' (.slice A L2.length c) L2) : EnS wp vm L L1 L2 (setF f 1) (setR R 1 (.slice A L2.length c)) w' := by
  refine ⟨hr.only, (fun h => by rw [setF_ne _ (by decide), h0] at h; cases h), (fun _ h => by rw [setF_self] at h; cases h), fun _ => ⟨A, c, setR_self .., hr⟩, ?_⟩
  rw [setF_ne _ (by decide), setR_ne _ _ (by decide)]
  refine ⟨h.rv.1, fun h2 => ?_⟩
  have := (h.rv.2 h2).1
  rw [h1] at this; cases this
theorem EnS.mov (h : EnS wp vm L L1 L2 f R w) (h1 : f 1 = true) : EnS wp vm L L1 L2 (setF f 2) (setR R 2 (R 1)) w :=
  ⟨h.only, (fun h0 => by rw [setF_ne _ (by decide)] at h0; exact h.r0 h0), (fun _ h' => by rw [setF_ne _ (by decide), h1] at h'; cases h'), (fun _ => by rw [setR_ne _ _ (by decide)]; exact h.r2 h1), (fun h => by rw [setF_self] at h; cases h), fun _ => ⟨by rw [setF_ne _ (by decide)]; exact h1, by rw [setR_self, setR_ne _ _ (by decide)]⟩⟩
end
theorem en10_run {Q : Exit → Act → World → Prop} {a0 : Act} {wp : World} (g o k nl c0 cm : Nat) (Am : Option Addr) (key : ByteArray) (L : List UInt8) (hkl : (k : Int) < (nl : Int)) (hks : key.size ≤ 200) (hL : L.length ≤ 100000000) (hm : BRow wp (.slice Am L.length cm) L)
    (hcell : wp.cell? ⟨g, o + k * 3, none⟩ = some (.string key)) (hg : g < wp.heap.size ∧ g ∉ blk (.slice Am L.length cm))
    (hsz : 39 < a0.tmps.size) (in0 : a0.eval (.tmp 0) = .slice (some ⟨g, o, none⟩) nl c0) (in4 : a0.eval (.tmp 4) = .int .i64 (k : Int)) (in3 : a0.eval (.tmp 3) = .slice Am L.length cm)
    (fin : ∀ a w A c L2, Fr [25, 26, 27, 28, 29, 30, 31, 32, 33, 34, 35, 36, 37, 38, 39, 3] a0 a → Hid (L2 = L ++ Rc.big key.size 2 ++ key.data.toList) → a.eval (.tmp 3) = .slice A L2.length c → RowAt (.slice Am L.length cm) wp w (.slice A L2.length c) L2 → Q .normal a w) :
    (Code.region 10 opsRken10 true).wp Try.prog Q a0 wp := by
  refine rken10 g o k nl c0 L.length cm Am key (EnS wp (.slice Am L.length cm) L (L ++ Rc.big key.size 2) (L ++ Rc.big key.size 2 ++ key.data.toList)) hsz in0 in4 hkl (by omega) ?_ ?_ ?_ ?_ ?_ ?_ ?_
  · intro f R w hS; exact (hS.only.cell (a := ⟨g, o + k * 3, none⟩) hg.1 hg.2).trans hcell
  · intro f R w hS h2; exact hS.rv.1 h2
  · intro f R w hS h0 h1
    refine (rnum_any (hS.r0 h0) key.size 2 (by omega) (by omega) _ _ rfl rfl).mono ?_
    rintro e w' ⟨A, c, rfl, hr⟩
    exact ⟨_, rfl, hS.num h1 hr⟩
  · intro f R w hS h0 h1
    obtain ⟨A, c, e, hr⟩ := hS.r1 h0 h1
    obtain ⟨A', c', L', W, hL', hrun, hr'⟩ := hr.str key (by rw [List.length_append, Rc.big_length]; omega)
    have hle := hL'.out
    subst hle
    exact ⟨_, W, by rw [e]; exact hrun, hS.app h0 h1 hr'⟩
  · intro f R w hS h1 h2; exact hS.mov h1
  · exact ⟨Only.of_below (Below.refl _ _).drew, fun _ => .mk (hm.only (S := []) (Only.of_below (Below.refl _ _).drew) (fun k _ hk => by cases hk)) (Only.of_below (Below.refl _ _).drew) (Grows.refl _ _), (fun h => by cases h), (fun h => by cases h), (fun _ => (resOf_at (C := rken10C) (j := 2) rfl a0).trans in3), (fun h => by cases h)⟩
  · intro a w f hfr hall hS
    obtain ⟨A, c, q1, q2⟩ := hS.r2 (hall 1 (by decide))
    exact fin a w A c _ hfr (Lib.hid rfl) (((resOf_at (C := rken10C) (j := 2) rfl a).symm.trans (hS.rv.2 (hall 2 (by decide))).2).trans q1) q2
theorem en12_run {Q : Exit → Act → World → Prop} {a0 : Act} {wp : World} (g o k nl c0 cm cv : Nat) (Am Av : Option Addr) (val L : List UInt8) (hkl : (k : Int) < (nl : Int)) (hvs : val.length ≤ 200000) (hL : L.length ≤ 100000000) (hm : BRow wp (.slice Am L.length cm) L)
    (hcell : wp.cell? ⟨g, o + k * 3 + 1, none⟩ = some (.slice Av val.length cv)) (hg : g < wp.heap.size ∧ g ∉ blk (.slice Am L.length cm)) (hs : SeesX wp wp.heap.size (blk (.slice Am L.length cm)) Av val)
    (hsz : 60 < a0.tmps.size) (in0 : a0.eval (.tmp 0) = .slice (some ⟨g, o, none⟩) nl c0) (in4 : a0.eval (.tmp 4) = .int .i64 (k : Int)) (in3 : a0.eval (.tmp 3) = .slice Am L.length cm)
    (fin : ∀ a w A c L2, Fr [46, 47, 48, 49, 50, 51, 52, 53, 54, 55, 56, 57, 58, 59, 60, 3] a0 a → Hid (L2 = L ++ Rc.big val.length 4 ++ val) → a.eval (.tmp 3) = .slice A L2.length c → RowAt (.slice Am L.length cm) wp w (.slice A L2.length c) L2 → Q .normal a w) :
    (Code.region 12 opsRken12 true).wp Try.prog Q a0 wp := by
  refine rken12 g o k nl c0 L.length cm val.length cv Am Av (EnS wp (.slice Am L.length cm) L (L ++ Rc.big val.length 4) (L ++ Rc.big val.length 4 ++ val)) hsz in0 in4 hkl (by omega) ?_ ?_ ?_ ?_ ?_ ?_ ?_
  · intro f R w hS; exact (hS.only.cell (a := ⟨g, o + k * 3 + 1, none⟩) hg.1 hg.2).trans hcell
  · intro f R w hS h2; exact hS.rv.1 h2
  · intro f R w hS h0 h1
    refine (rnum_any (hS.r0 h0) val.length 4 (by omega) (by omega) _ _ rfl rfl).mono ?_
    rintro e w' ⟨A, c, rfl, hr⟩
    exact ⟨_, rfl, hS.num h1 hr⟩
  · intro f R w hS h0 h1
    obtain ⟨A, c, e, hr⟩ := hS.r1 h0 h1
    obtain ⟨A', c', L', W, hL', hrun, hr'⟩ := hr.sees _ Av val.length cv val rfl (((hs.only hr.only (Nat.le_refl _)).grows hr.grows (Nat.le_refl _)).sees) (by rw [List.length_append, Rc.big_length]; omega)
    have hle := hL'.out
    subst hle
    exact ⟨_, W, by rw [e]; exact hrun, hS.app h0 h1 hr'⟩
  · intro f R w hS h1 h2; exact hS.mov h1
  · exact ⟨Only.of_below (Below.refl _ _).drew, fun _ => .mk (hm.only (S := []) (Only.of_below (Below.refl _ _).drew) (fun k _ hk => by cases hk)) (Only.of_below (Below.refl _ _).drew) (Grows.refl _ _), (fun h => by cases h), (fun h => by cases h), (fun _ => (resOf_at (C := rken12C) (j := 2) rfl a0).trans in3), (fun h => by cases h)⟩
  · intro a w f hfr hall hS
    obtain ⟨A, c, q1, q2⟩ := hS.r2 (hall 1 (by decide))
    exact fin a w A c _ hfr (Lib.hid rfl) (((resOf_at (C := rken12C) (j := 2) rfl a).symm.trans (hS.rv.2 (hall 2 (by decide))).2).trans q1) q2
end Go.Proofs.Ytgpkdnnlgafenaa

namespace Go.Proofs.Ytgpkdnnlgafenaa
open Go.RowKit Kv
set_option linter.unusedVariables false

structure REn (w0 wr : World) (l : List Pt) (k : Nat) (A : Option Addr) (c : Nat) (L : List UInt8) : Prop where
  eq : L = encs (l.take k)
  row : BRow wr (.slice A L.length c) L
  bel : Below w0.heap.size w0 wr
  high : ∀ b, b ∈ blk (.slice A L.length c) → w0.heap.size ≤ b
set_option maxHeartbeats 3200000 in
set_option maxRecDepth 100000 in
theorem rencode_any (w : World) (A : Option Addr) (n c : Nat) (l : List Pt) (X : List Nat) (hn : n = l.length) (hm : n ≤ 400) (hp : Puts w w.heap.size X A l) (hk : ∀ x ∈ l, x.k.size ≤ maxLen) :
    Calls Try.prog 20 #[.slice A n c] w (EncEnd l w) := by
  subst hn
  obtain ⟨B, HB⟩ : ∃ B, Hid (B = may l) := ⟨_, Lib.hid rfl⟩
  have HA := Lib.hid (rmay_any A l.length c l X w rfl (by unfold maxLen; omega) hp hk B HB.out)
  have HP := Lib.hid hp
  have hlI : (l.length : Int) ≤ 400 := by omega
  obtain ⟨w0, rfl⟩ : ∃ w0, w0 = w := ⟨_, rfl⟩
  clear hp hk
  cases B with
  | false =>
    go_enter Try.func20, Try.ntmps20
    go_wp2_with fail
    refine HA.out.mono ?_
    rintro e w1 ⟨rfl, hb1⟩
    have key : EncEnd l w0 (.returned (.slice none 0 0)) w1 := ⟨none, 0, 0, rfl, by simp [encode, ← HB.out], Nat.le_refl _, Nat.zero_le _, by simp only [encode, ← HB.out]; exact BRow.nil _, hb1⟩
    have KEY := Lib.hid key
    clear key hb1
    go_wp2
    go_ret
    exact KEY.out
  | true =>
    have HM : Hid (may l = true) := Lib.hid HB.out.symm
    go_enter Try.func20, Try.ntmps20
    go_wp2_with fail
    refine HA.out.mono ?_
    rintro e w1 ⟨rfl, hb1⟩
    have HB1 := Lib.hid hb1
    clear hb1
    go_wp2_with fail
    go_loopw [3, 4] (fun b i wr => ∃ (k : Nat) (A : Option Addr) (c : Nat) (L : List UInt8), k ≤ l.length ∧ b = .slice A L.length c ∧ i = .int .i64 k ∧ Hid (REn w0 wr l k A c L)) (fun _ i _ => l.length - (intOf i).toNat)
    case atStart => exact ⟨0, none, 0, [], Nat.zero_le _, rfl, rfl, Lib.hid ⟨rfl, BRow.nil _, HB1.out, fun b hb => by simp [blk, Value.ownBlock] at hb⟩⟩
    case round =>
      obtain ⟨k, Ab, cb, L, hk, rfl, rfl, HI⟩ := hrel
      by_cases hlt : k < l.length
      · obtain ⟨h1, h2, h3, h4⟩ := HI.out
        have hll : L.length ≤ 90000000 := by
          rw [h1]
          have h5 : may (l.take k) = true := List.all_eq_true.2 fun x hx => List.all_eq_true.1 HM.out x (List.mem_of_mem_take hx)
          have h6 := encs_le (l.take k) h5
          rw [List.length_take] at h6
          have : min k l.length * 200207 ≤ 400 * 200207 := Nat.mul_le_mul_right _ (by omega)
          omega
        obtain ⟨g, o, A', c', rfl, hg, k1, k2, k3, k4, k5, k6⟩ := HP.out.at k hlt
        rw [← h3.cell (p := ⟨g, o + k * 3, none⟩) hg] at k1
        rw [← h3.cell (p := ⟨g, o + k * 3 + 1, none⟩) hg] at k2
        rw [← h3.cell (p := ⟨g, o + k * 3 + 2, none⟩) hg] at k3
        have hxo := List.all_eq_true.1 HM.out l[k] (List.getElem_mem hlt)
        have hen : encs (l.take (k + 1)) = L ++ enc1 l[k] := by rw [List.take_succ_eq_append_getElem hlt, encs_snoc, h1]
        obtain ⟨x, Hx⟩ : ∃ x, Hid (x = l[k]) := ⟨_, Lib.hid rfl⟩
        rw [← Hx.out] at k1 k2 k3 k4 k6 hxo hen
        obtain ⟨kk, v, gg⟩ := x
        simp only at k1 k2 k3 k4 k6
        have hok := ok1_iff.1 hxo
        have hkI : (k : Int) < (l.length : Int) := by omega
        have hgw : g < wr.heap.size := Nat.lt_of_lt_of_le hg h3.size
        obtain ⟨A2, c2, L2, w2, HL2, hr2, hrow2⟩ := (RowAt.start h2).one (if gg then 0 else 1) (if gg then 0 else 1) (by cases gg <;> rfl) (by omega)
        have hhi2 : ∀ b, b ∈ blk (.slice A2 L2.length c2) → w0.heap.size ≤ b := fun b hb => (hrow2.grows b hb).elim (h4 b) (fun h' => Nat.le_trans h3.size h')
        have hb2 : Below w0.heap.size wr w2 := hrow2.only.below h3.size h4
        have z1 : w2.cell? ⟨g, o + k * 3, none⟩ = some (.string kk) := (hb2.cell (p := ⟨g, o + k * 3, none⟩) hg).trans k1
        have z3 : w2.cell? ⟨g, o + k * 3 + 2, none⟩ = some (.bool gg) := (hb2.cell (p := ⟨g, o + k * 3 + 2, none⟩) hg).trans k3
        have HR2 := Lib.hid hr2
        have H2 := Lib.hid (⟨hrow2.row, hhi2, h3.trans hb2⟩ : BRow w2 (.slice A2 L2.length c2) L2 ∧ (∀ b, b ∈ blk (.slice A2 L2.length c2) → w0.heap.size ≤ b) ∧ Below w0.heap.size w0 w2)
        have HK := Lib.hid (⟨k2, k6⟩ : _ ∧ SeesX w0 w0.heap.size X A' v)
        have HB2 := Lib.hid hb2
        have HL2L : Hid (L2.length ≤ 90000001) := Lib.hid (by rw [HL2.out, List.length_append]; simp; omega)
        have HOK := Lib.hid hok
        have HEN := Lib.hid hen
        have HLV := Lib.hid k4
        clear h1 h2 h3 h4 hll k2 k4 k5 k6 hxo hen hr2 hrow2 hhi2 hb2 hok HI
        cases gg with
        | true =>
          simp only [if_true] at HR2 HL2
          go_wp2_with (at_builtin; refine wpList_append_run rfl _ _ 27 rfl _ (.slice Ab L.length cb) (.slice (some ⟨wr.heap.size, 0, none⟩) 1 1) rfl rfl (.slice A2 L2.length c2) w2 (by exact HR2.out) ?_)
          refine en10_run g o k l.length c c2 A2 kk L2 hkI HOK.out.2.1 (by have := HL2L.out; omega) H2.out.1 z1 ⟨by have := H2.out.2.2.size; omega, fun hm => by have := H2.out.2.1 g hm; omega⟩ (by show 39 < 62; omega) rfl rfl rfl ?_
          intro af w3 A3 c3 L3 hfr HL3 h3 hr3
          have HN : Hid (REn w0 w3 l (k + 1) A3 c3 L3) := Lib.hid ⟨by rw [HEN.out, ← enc_gone, HL3.out, HL2.out], hr3.row, H2.out.2.2.trans (hr3.only.below H2.out.2.2.size H2.out.2.1), fun b hb => (hr3.grows b hb).elim (H2.out.2.1 b) (fun h' => Nat.le_trans H2.out.2.2.size h')⟩
          have z4 : w3.cell? ⟨g, o + k * 3 + 2, none⟩ = some (.bool true) := ((hr3.only.below H2.out.2.2.size H2.out.2.1).cell (p := ⟨g, o + k * 3 + 2, none⟩) hg).trans z3
          clear hr3 z1 z3
          have ha := hfr.eq (by intro t ht; simp at ht; show t < 62; omega)
          simp only [List.foldl_cons, List.foldl_nil] at ha
          clear hfr
          rw [h3] at ha
          clear h3
          generalize af.eval (.tmp 25) = u25 at ha
          generalize af.eval (.tmp 26) = u26 at ha
          generalize af.eval (.tmp 27) = u27 at ha
          generalize af.eval (.tmp 28) = u28 at ha
          generalize af.eval (.tmp 29) = u29 at ha
          generalize af.eval (.tmp 30) = u30 at ha
          generalize af.eval (.tmp 31) = u31 at ha
          generalize af.eval (.tmp 32) = u32 at ha
          generalize af.eval (.tmp 33) = u33 at ha
          generalize af.eval (.tmp 34) = u34 at ha
          generalize af.eval (.tmp 35) = u35 at ha
          generalize af.eval (.tmp 36) = u36 at ha
          generalize af.eval (.tmp 37) = u37 at ha
          generalize af.eval (.tmp 38) = u38 at ha
          generalize af.eval (.tmp 39) = u39 at ha
          subst ha
          simp only [Act.put, List.setIfInBounds_toArray, List.set_cons_zero, List.set_cons_succ]
          go_wp2
          go_roundw
          case rel => exact ⟨k + 1, A3, c3, L3, by omega, rfl, by go_num, HN⟩
          case measure => simp [intOf]; omega
        | false =>
          simp only [if_false, Bool.false_eq_true] at HR2 HL2
          go_wp2_with (at_builtin; refine wpList_append_run rfl _ _ 27 rfl _ (.slice Ab L.length cb) (.slice (some ⟨wr.heap.size, 0, none⟩) 1 1) rfl rfl (.slice A2 L2.length c2) w2 (by exact HR2.out) ?_)
          refine en10_run g o k l.length c c2 A2 kk L2 hkI HOK.out.2.1 (by have := HL2L.out; omega) H2.out.1 z1 ⟨by have := H2.out.2.2.size; omega, fun hm => by have := H2.out.2.1 g hm; omega⟩ (by show 39 < 62; omega) rfl rfl rfl ?_
          intro af w3 A3 c3 L3 hfr HL3 h3 hr3
          have hb3 : Below w0.heap.size w2 w3 := hr3.only.below H2.out.2.2.size H2.out.2.1
          have hhi3 : ∀ b, b ∈ blk (.slice A3 L3.length c3) → w0.heap.size ≤ b := fun b hb => (hr3.grows b hb).elim (H2.out.2.1 b) (fun h' => Nat.le_trans H2.out.2.2.size h')
          have hb3w : Below w0.heap.size w0 w3 := H2.out.2.2.trans hb3
          have z4 : w3.cell? ⟨g, o + k * 3 + 2, none⟩ = some (.bool false) := (hb3.cell (p := ⟨g, o + k * 3 + 2, none⟩) hg).trans z3
          have z5 : w3.cell? ⟨g, o + k * 3 + 1, none⟩ = some (.slice A' v.length c') := ((HB2.out.trans hb3).cell (p := ⟨g, o + k * 3 + 1, none⟩) hg).trans HK.out.1
          have HL3L : Hid (L3.length ≤ 100000000) := Lib.hid (by rw [HL3.out, List.length_append, List.length_append, Rc.big_length]; have := HL2L.out; have := HOK.out.2.1; have := ba_len kk; omega)
          have HSX : Hid (SeesX w3 w3.heap.size (blk (.slice A3 L3.length c3)) A' v) := Lib.hid (fun hn => by
            obtain ⟨g2, o2, e, u1, _, u3⟩ := HK.out.2 hn
            exact ⟨g2, o2, e, Nat.lt_of_lt_of_le u1 hb3w.size, fun hm => by have := hhi3 g2 hm; omega, fun j hj => (hb3w.cell (p := ⟨g2, o2 + j, none⟩) u1).trans (u3 j hj)⟩)
          have H3 := Lib.hid (⟨hr3.row, hhi3, hb3w⟩ : BRow w3 (.slice A3 L3.length c3) L3 ∧ (∀ b, b ∈ blk (.slice A3 L3.length c3) → w0.heap.size ≤ b) ∧ Below w0.heap.size w0 w3)
          clear hr3 z1 z3 hb3 hhi3 hb3w
          have ha := hfr.eq (by intro t ht; simp at ht; show t < 62; omega)
          simp only [List.foldl_cons, List.foldl_nil] at ha
          clear hfr
          rw [h3] at ha
          clear h3
          generalize af.eval (.tmp 25) = u25 at ha
          generalize af.eval (.tmp 26) = u26 at ha
          generalize af.eval (.tmp 27) = u27 at ha
          generalize af.eval (.tmp 28) = u28 at ha
          generalize af.eval (.tmp 29) = u29 at ha
          generalize af.eval (.tmp 30) = u30 at ha
          generalize af.eval (.tmp 31) = u31 at ha
          generalize af.eval (.tmp 32) = u32 at ha
          generalize af.eval (.tmp 33) = u33 at ha
          generalize af.eval (.tmp 34) = u34 at ha
          generalize af.eval (.tmp 35) = u35 at ha
          generalize af.eval (.tmp 36) = u36 at ha
          generalize af.eval (.tmp 37) = u37 at ha
          generalize af.eval (.tmp 38) = u38 at ha
          generalize af.eval (.tmp 39) = u39 at ha
          subst ha
          simp only [Act.put, List.setIfInBounds_toArray, List.set_cons_zero, List.set_cons_succ]
          go_wp2
          refine en12_run g o k l.length c c3 c' A3 A' v L3 hkI HOK.out.2.2.1 HL3L.out H3.out.1 z5 ⟨by have := H3.out.2.2.size; omega, fun hm => by have := H3.out.2.1 g hm; omega⟩ HSX.out (by show 60 < 62; omega) rfl rfl rfl ?_
          intro af w4 A4 c4 L4 hfr HL4 h3 hr4
          have HN : Hid (REn w0 w4 l (k + 1) A4 c4 L4) := Lib.hid ⟨by rw [HEN.out, ← enc_set, HL4.out, HL3.out, HL2.out], hr4.row, H3.out.2.2.trans (hr4.only.below H3.out.2.2.size H3.out.2.1), fun b hb => (hr4.grows b hb).elim (H3.out.2.1 b) (fun h' => Nat.le_trans H3.out.2.2.size h')⟩
          clear hr4 z4 z5
          have ha := hfr.eq (by intro t ht; simp at ht; show t < 62; omega)
          simp only [List.foldl_cons, List.foldl_nil] at ha
          clear hfr
          rw [h3] at ha
          clear h3
          generalize af.eval (.tmp 46) = u46 at ha
          generalize af.eval (.tmp 47) = u47 at ha
          generalize af.eval (.tmp 48) = u48 at ha
          generalize af.eval (.tmp 49) = u49 at ha
          generalize af.eval (.tmp 50) = u50 at ha
          generalize af.eval (.tmp 51) = u51 at ha
          generalize af.eval (.tmp 52) = u52 at ha
          generalize af.eval (.tmp 53) = u53 at ha
          generalize af.eval (.tmp 54) = u54 at ha
          generalize af.eval (.tmp 55) = u55 at ha
          generalize af.eval (.tmp 56) = u56 at ha
          generalize af.eval (.tmp 57) = u57 at ha
          generalize af.eval (.tmp 58) = u58 at ha
          generalize af.eval (.tmp 59) = u59 at ha
          generalize af.eval (.tmp 60) = u60 at ha
          subst ha
          simp only [Act.put, List.setIfInBounds_toArray, List.set_cons_zero, List.set_cons_succ]
          go_wp2
          go_roundw
          case rel => exact ⟨k + 1, A4, c4, L4, by omega, rfl, by go_num, HN⟩
          case measure => simp [intOf]; omega
      · obtain rfl : k = l.length := by omega
        obtain ⟨h1, h2, h3, h4⟩ := HI.out
        rw [List.take_length] at h1
        obtain ⟨_, _, e, hc1, hc2⟩ := h2.shape
        injection e with e1 e2 e3
        subst e1 e3
        have he : encode l = L := by unfold encode; rw [if_pos HM.out, h1]
        have key : EncEnd l w0 (.returned (.slice Ab L.length cb)) wr := ⟨Ab, _, cb, rfl, by rw [he], hc1, hc2, by rw [he]; exact h2, h3⟩
        have KEY := Lib.hid key
        clear h1 h2 h3 h4 key HI hc1 hc2 he
        go_wp2
        go_ret
        exact KEY.out
end Go.Proofs.Ytgpkdnnlgafenaa
