/- The reference's cut: the walk. -/
import Derived.Test.YtgkibkophoikoaaDoorSqOf
import Derived.Test.YtgkibkophoikoaaDoorRowB
import Derived.Test.YtgkibkophoikoaaDoorProg
import Derived.LoopTactic
import Derived.IntWalk
import Derived.StillTailTactics
namespace Go.Proofs.YtgkibkophoikoaaDoor
open Go.RowKit
set_option linter.unusedVariables false
set_option maxRecDepth 100000

theorem part_le (c : UInt8) : ∀ (l : List UInt8), ∀ x ∈ Sq.parts c l, x.length ≤ l.length
  | [], x, h => by simp [Sq.parts] at h; subst h; simp
  | b :: r, x, h => by
    have ih := part_le c r
    unfold Sq.parts at h
    split at h
    · rcases List.mem_cons.1 h with rfl | h
      · simp
      · have := ih x h; simp; omega
    · split at h
      · rw [List.mem_singleton] at h; subst h; simp
      · rename_i p q hp
        rcases List.mem_cons.1 h with rfl | h
        · have := ih p (by rw [hp]; simp)
          simp; omega
        · have := ih x (by rw [hp]; simp [h])
          simp; omega
def sv (P : List ByteArray) : List Value := P.map Value.string
theorem sv_append (a b : List ByteArray) : sv (a ++ b) = sv a ++ sv b := by simp [sv]
theorem Tryd.infoStr : (Tryd.prog.info? 9).map (fun i => (i.zero, i.size, i.bytes)) = some (some (.string ⟨#[]⟩), 1, 16) := by kernel_rfl
def CutEnd (ch : UInt8) (s : ByteArray) (w : World) (e : Ending) (w' : World) : Prop :=
  ∃ A m c P, e = .returned (.slice A m c) ∧ m = P.length ∧ P.map (fun p => p.data.toList) = Sq.parts ch s.data.toList ∧ w'.ownsRow w.heap.size 9 1 (.slice A m c) m (sv P) ∧ Below w.heap.size w w'
theorem join_data (a b : ByteArray) : (a ++ b).data.toList = a.data.toList ++ b.data.toList := by rw [ByteArray.data_append]; simp
theorem one_data (s : ByteArray) (k : Nat) (h : k < s.size) : (s.extract k (k + 1)).data.toList = [s[k]] := by
  rw [Lib.extract_data, show k + 1 - k = 1 by omega, List.drop_eq_getElem_cons (l := s.data.toList) (i := k) h]; rfl
theorem push_map (ch b : UInt8) (P : List ByteArray) (h : b ≠ ch) (T : List ByteArray) (q y : ByteArray) (hP : P = T ++ [q]) (hy : y.data.toList = [b]) : (T ++ [q ++ y]).map (fun p => p.data.toList) = Sq.push ch (P.map fun p => p.data.toList) b := by
  subst hP
  unfold Sq.push
  rw [if_neg h]
  simp only [List.map_append, List.map_cons, List.map_nil, join_data, hy]
  simp
theorem push_map_sep (ch b : UInt8) (P : List ByteArray) (h : b = ch) : (P ++ [(⟨#[]⟩ : ByteArray)]).map (fun p => p.data.toList) = Sq.push ch (P.map fun p => p.data.toList) b := by
  unfold Sq.push
  rw [if_pos h]
  simp

set_option maxHeartbeats 3200000 in
theorem rcut_any (s : ByteArray) (ch : UInt8) (w : World) (hs : s.size ≤ 1000000) :
    Calls Tryd.prog 40 #[.string s, .int .u8 (ch.toNat : Int)] w (CutEnd ch s w) := by
  obtain ⟨w0, rfl⟩ : ∃ w0, w0 = w := ⟨_, rfl⟩
  have HB0 := Lib.hid ((Below.refl w0.heap.size w0).alloc (Nat.le_refl _) (.cells #[.string ⟨#[]⟩] 9))
  have HR0 : Hid ((w0.alloc (.cells #[.string ⟨#[]⟩] 9)).ownsRow w0.heap.size 9 1 (.slice (some ⟨w0.heap.size, 0, none⟩) 1 1) 1 (sv [⟨#[]⟩])) := Lib.hid (World.ownsRow_lit w0 #[.string ⟨#[]⟩] 1 (Nat.le_refl _) (by decide) rfl)
  have hlen : s.data.toList.length = s.size := rfl
  have HLEN := Lib.hid hlen
  clear hlen
  go_enter Tryd.func40, Tryd.ntmps40
  go_wp2
  go_loopw [5, 6] (fun b i wr => ∃ (k m : Nat) (Ab : Option Addr) (cb : Nat) (P : List ByteArray), k ≤ s.size ∧ m ≤ k + 1 ∧ b = .slice Ab m cb ∧ i = .int .i64 k ∧ Hid (m = P.length ∧ P.map (fun p => p.data.toList) = Sq.parts ch (s.data.toList.take k)) ∧ Hid (wr.ownsRow w0.heap.size 9 1 (.slice Ab m cb) m (sv P) ∧ Below w0.heap.size w0 wr)) (fun _ i _ => s.size - (intOf i).toNat)
  case atStart => exact ⟨0, 1, _, 1, [⟨#[]⟩], Nat.zero_le _, Nat.le_refl _, rfl, rfl, Lib.hid ⟨rfl, rfl⟩, Lib.hid ⟨HR0.out, HB0.out⟩⟩
  case round =>
    obtain ⟨k, m, Ab, cb, P, hk, hmk, rfl, rfl, HP, HR⟩ := hrel
    have hwz := HR.out.2.size
    by_cases hlt : k < s.size
    · have hsn : Sq.parts ch (s.data.toList.take (k + 1)) = Sq.push ch (P.map fun p => p.data.toList) s[k] := by
        rw [List.take_succ_eq_append_getElem (by rw [HLEN.out]; exact hlt), Sq.parts_snoc, HP.out.2]; rfl
      have HSN := Lib.hid hsn
      clear hsn
      by_cases hc : s[k] = ch
      · have h1 : ((s[k].toNat : Int) == (ch.toNat : Int)) = true := by rw [hc]; simp
        obtain ⟨v', w3, hr, h31, h32, h33, A3, c3, rfl⟩ := row_app wr 62 62 9 _ 1 16 Tryd.infoStr Tryd.underlying62 rfl (by decide) (by decide) w0.heap.size _ m (sv P) HR.out.1 [.string ⟨#[]⟩] rfl (by intro u hu; simp at hu; subst hu; rfl) (by omega) hwz
        have HR3 := Lib.hid hr
        have HW3 : Hid (w3.ownsRow w0.heap.size 9 1 (.slice A3 (m + 1) c3) (m + 1) (sv (P ++ [(⟨#[]⟩ : ByteArray)])) ∧ Below w0.heap.size w0 w3) := Lib.hid ⟨by rw [sv_append]; exact h31, HR.out.2.trans h33⟩
        have HN : Hid (m + 1 = (P ++ [(⟨#[]⟩ : ByteArray)]).length ∧ (P ++ [(⟨#[]⟩ : ByteArray)]).map (fun p => p.data.toList) = Sq.parts ch (s.data.toList.take (k + 1))) := Lib.hid ⟨by rw [List.length_append, ← HP.out.1]; rfl, by rw [HSN.out]; exact push_map_sep ch _ P hc⟩
        clear hc hr h31 h32 h33
        go_wp2_with (at_builtin; refine wpList_append_run rfl _ _ 62 rfl _ _ _ rfl rfl _ _ (by exact HR3.out) ?_)
        go_roundw
        case rel => exact ⟨k + 1, m + 1, A3, c3, P ++ [(⟨#[]⟩ : ByteArray)], by omega, by omega, rfl, by go_num, HN, HW3⟩
        case measure => simp [intOf]; omega
      · have h1 : ((s[k].toNat : Int) == (ch.toNat : Int)) = false := by
          rw [beq_eq_false_iff_ne]
          intro e
          exact hc (UInt8.toNat_inj.1 (by omega))
        have hPne : P ≠ [] := fun e => by
          have := HP.out.2
          rw [e] at this
          exact Sq.parts_ne ch _ this.symm
        rcases Sq.snoc_cases P with e | ⟨T, q, hPT⟩
        · exact absurd e hPne
        · obtain ⟨t, Ht⟩ : ∃ t, Hid (t = T.length) := ⟨_, Lib.hid rfl⟩
          have hmt : Hid (m = t + 1) := Lib.hid (by rw [HP.out.1, hPT, List.length_append, Ht.out]; rfl)
          have hsub : (m : Int) - 1 = (t : Int) := by have := hmt.out; omega
          have htm : t < m := by have := hmt.out; omega
          obtain ⟨y, Hy⟩ : ∃ y, Hid (s.extract k (k + 1) = y) := ⟨_, Lib.hid rfl⟩
          have hyl : y.data.toList = [s[k]] := by rw [← Hy.out]; exact one_data s k hlt
          have hys : y.size ≤ 1 := by
            have h1 : y.data.toList.length = y.size := rfl
            rw [hyl] at h1
            exact Nat.le_of_eq h1.symm
          have hqs : q.size ≤ 1000000 := by
            have h2 := part_le ch (s.data.toList.take k) q.data.toList (by rw [← HP.out.2, hPT]; simp)
            have h3 : q.data.toList.length = q.size := rfl
            rw [List.length_take, HLEN.out] at h2
            omega
          have hown := HR.out.1
          rw [hPT] at hown
          obtain ⟨g2, cap2, e4, _, hg2, _⟩ := own_form hown (by have := hmt.out; omega)
          obtain rfl : Ab = some ⟨g2, 0, none⟩ := by injection e4
          have hcq := hown.cells (g := g2) rfl T.length (.string q) (by rw [sv_append]; unfold sv; rw [List.getElem?_append_right (by simp)]; simp)
          rw [add_to, Nat.zero_add, ← Ht.out] at hcq
          have hfq := hown.frozenAt t
          have h5 := (hown.stored t (.string (q ++ y))).1
          have hset : (sv (T ++ [q])).set t (.string (q ++ y)) = sv (T ++ [q ++ y]) := by
            rw [sv_append, sv_append, List.set_append_right _ _ (by unfold sv; rw [List.length_map, Ht.out]; omega), Ht.out]
            unfold sv
            simp
          rw [hset] at h5
          have HW5 : Hid ((wr.setCell ⟨g2, t, none⟩ (.string (q ++ y))).ownsRow w0.heap.size 9 1 (.slice (some ⟨g2, 0, none⟩) m cb) m (sv (T ++ [q ++ y])) ∧ Below w0.heap.size w0 (wr.setCell ⟨g2, t, none⟩ (.string (q ++ y)))) := Lib.hid ⟨h5, below_set HR.out.2 (hown.lt g2 rfl).1 _ _⟩
          have HN : Hid (m = (T ++ [q ++ y]).length ∧ (T ++ [q ++ y]).map (fun p => p.data.toList) = Sq.parts ch (s.data.toList.take (k + 1))) := Lib.hid ⟨by rw [List.length_append, ← Ht.out, hmt.out]; rfl, by rw [HSN.out]; exact push_map ch _ P hc T q y hPT hyl⟩
          have hy2 := Hy.out
          have i1 : IntKind.i64.wrap (t : Int) = (t : Int) := IntWalk.i64_in _ (by omega)
          have i5 : (0 : Int) ≤ (t : Int) := by omega
          have i6 : (t : Int) < (m : Int) := by omega
          have i7 : (k : Int) + 1 ≤ (s.size : Int) := by omega
          have i8 : (k : Int) ≤ (k : Int) + 1 := by omega
          have i9 : ¬ 9223372036854775807 < q.size + y.size := by omega
          have i2 : IntKind.i64.wrap ((k : Int) + 1) = (k : Int) + 1 := IntWalk.i64_in _ (by omega)
          have i3 : (0 : Int) ≤ (k : Int) + 1 := by omega
          have i4 : ((k : Int) + 1).toNat = k + 1 := by omega
          clear hc hPne hPT hyl hown h5 hset e4 hg2
          go_wp2
          go_still_tail 17, (by kernel_rfl)
          go_wp2
          go_roundw
          case rel => exact ⟨k + 1, m, _, cb, T ++ [q ++ y], by omega, by omega, rfl, by go_num, HN, Lib.hid ⟨HW5.out.1, HW5.out.2.drew⟩⟩
          case measure => simp [intOf]; omega
    · obtain rfl : k = s.size := by omega
      have key : CutEnd ch s w0 (.returned (.slice Ab m cb)) wr := by
        refine ⟨Ab, m, cb, P, rfl, HP.out.1, ?_, HR.out.1, HR.out.2⟩
        rw [HP.out.2, ← HLEN.out, List.take_length]
      have KEY := Lib.hid key
      clear key
      go_wp2
      go_ret
      exact KEY.out
end Go.Proofs.YtgkibkophoikoaaDoor
