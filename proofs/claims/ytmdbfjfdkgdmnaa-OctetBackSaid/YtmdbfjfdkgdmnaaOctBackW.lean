/- The walk of OctetBack. -/
import Derived.Test.YtmdbfjfdkgdmnaaOctAwake
import Derived.Test.YtmdbfjfdkgdmnaaOctLines
import Derived.WalkSpells
import Derived.Deep.QuietTactic
import Derived.BigQuiet
import Derived.IntWalk
namespace Go.Proofs.Ytmdbfjfdkgdmnaa
open Go.RowKit

theorem unquote_again (s rest q : ByteArray) (hq : Oct.quotable s.data.toList = true) (he : q = ⟨(Oct.quoted s.data.toList).toArray⟩) : Oct.unquote (q ++ rest).data.toList = (s.data.toList, q.size, 0) := by
  subst he
  have h := Oct.unquote_quoted s.data.toList rest.data.toList hq
  have e : ((⟨(Oct.quoted s.data.toList).toArray⟩ : ByteArray) ++ rest).data.toList = Oct.quoted s.data.toList ++ rest.data.toList := by
    rw [ByteArray.data_append]; simp
  rw [e, h]
  rfl

theorem str_append (a b : List UInt8) : (⟨a.toArray⟩ : ByteArray) ++ ⟨b.toArray⟩ = ⟨(a ++ b).toArray⟩ := by
  apply ByteArray.ext
  rw [ByteArray.data_append]; simp
theorem flat_snoc (ls : List (List UInt8)) (k : Nat) (h : k < ls.length) : (ls.take (k + 1)).flatten = (ls.take k).flatten ++ ls[k] := by
  rw [Oct.take_snoc ls k h, List.flatten_append]; simp
theorem flat_take_le (ls : List (List UInt8)) (k : Nat) : (ls.take k).flatten.length ≤ ls.flatten.length := by
  have h : ls.flatten = (ls.take k).flatten ++ (ls.drop k).flatten := by rw [← List.flatten_append, List.take_append_drop]
  rw [h, List.length_append]; omega
theorem ends_drop (l p : List UInt8) (h : l = p ++ [13, 10]) : 2 ≤ l.length ∧ l.drop (l.length - 2) = [13, 10] := by
  subst h
  have e : (p ++ [13, 10]).length = p.length + 2 := by simp
  rw [e]
  exact ⟨by omega, by simp⟩

set_option maxHeartbeats 1600000 in
set_option maxRecDepth 100000 in
theorem octetBack_walk (s : ByteArray) (hs : s.size ≤ maxLen) (r : ByteArray) (hr : r.size ≤ maxLen) (w : World) (hm : ∃ m, w.cell? ⟨0, 0, none⟩ = some (.int .i64 m)) :
    Calls Try.prog 3 #[.string s, .string r] w fun e w' => e = .returned (.bool true) ∧ Below w.heap.size w w' := by
  obtain ⟨m, hm⟩ := hm
  have hlen : s.data.toList.length = s.size := rfl
  unfold maxLen at hs hr
  by_cases hb0 : 500 < (s.size : Int)
  · go_enter Try.func3, Try.ntmps3
    go_wp2_with (go_at_call 6; refine (awake_any _).mono ?_; rintro e w1 ⟨rfl, hb1⟩)
    go_ret
    exact ⟨rfl, hb1⟩
  · by_cases hb1 : 100 < (r.size : Int)
    · go_enter Try.func3, Try.ntmps3
      go_wp2_with (go_at_call 6; refine (awake_any _).mono ?_; rintro e w1 ⟨rfl, hb1⟩)
      go_ret
      exact ⟨rfl, hb1⟩
    · cases hq : Oct.quotable s.data.toList
      case' false =>
        have HQ := Lib.hid hq
        clear hq
        go_enter Try.func3, Try.ntmps3
        go_wp2_with fail
        refine (awake_any _).mono ?_
        rintro e w1 ⟨rfl, hb1⟩
        go_wp2_with fail
        refine (quote_no s _ (by unfold maxLen; omega) HQ.out).mono ?_
        rintro e w2 ⟨rfl, hb2⟩
        have hbq : Below w.heap.size w w2 := hb1.trans (hb2.mono hb1.size)
        clear hb1 hb2
        obtain ⟨wq, rfl⟩ : ∃ x : World, x = w2 := ⟨_, rfl⟩
      case' true =>
        have HQ := Lib.hid hq
        clear hq
        obtain ⟨qb, Hqb⟩ : ∃ qb : ByteArray, Hid (qb = ⟨(Oct.quoted s.data.toList).toArray⟩) := ⟨_, Lib.hid rfl⟩
        have hqs : qb.size ≤ 1002 := by
          rw [Hqb.out]
          show (Oct.quoted s.data.toList).toArray.size ≤ 1002
          have := Oct.body_le s.data.toList
          simp [Oct.quoted]; simp at this; omega
        have HU := Lib.hid (unquote_again s r qb HQ.out Hqb.out)
        go_enter Try.func3, Try.ntmps3
        go_wp2_with fail
        refine (awake_any _).mono ?_
        rintro e w1 ⟨rfl, hb1⟩
        go_wp2_with fail
        refine (quote_ok s qb _ (by omega) HQ.out Hqb.out).mono ?_
        rintro e w2 ⟨rfl, hb2⟩
        go_wp2_with fail
        refine (unquote_ok (qb ++ r) s qb.size 0 _ (by rw [ByteArray.size_append]; omega) HU.out).mono ?_
        rintro e wq ⟨rfl, hb3⟩
        have hbq : Below w.heap.size w wq := (hb1.trans (hb2.mono hb1.size)).trans (hb3.mono (Nat.le_trans hb1.size hb2.size))
        clear hb1 hb2 hb3
      all_goals
        obtain ⟨cap, w4, hrun, hrow, hb4, hz4, hcap1, hcap2⟩ := run_bytes_row (P := Try.prog) wq 9 30 5 s Try.underlying9 Try.underlying30 Try.underlying5
        have HM4 := Lib.hid (((hbq.trans (hb4.mono hbq.size)).cell (p := ⟨0, 0, none⟩) (World.block_lt_of_cell? w _ hm)).trans hm)
        have hs4 : Sees w4 w4.heap.size (some ⟨wq.heap.size, 0, none⟩) s.data.toList := hrow.sees.mono (by omega)
        have hb04 : Below w.heap.size w w4 := hbq.trans (hb4.mono hbq.size)
        have hcap3 : cap ≤ maxLen := hcap2 (by unfold maxLen; omega)
        have hlines : Calls Try.prog 9 #[.slice (some ⟨wq.heap.size, 0, none⟩) s.size cap] w4 (LinesEnd s.data.toList w4) := lines_any _ cap s.data.toList m w4 hs4 hcap1 (by omega) HM4.out hcap3
        have HLI := Lib.hid hlines
        clear hrow hz4 hcap2 hcap3 hlines
        go_wp2_with fail
        refine HLI.out.mono ?_
        rintro e w5 ⟨v5, vs, rfl, hown, hparts, hb5⟩
        obtain ⟨A5, c5, rfl, hc5, hc5m⟩ := own_shape hown
        obtain ⟨ls, HLS⟩ : ∃ ls : List (List UInt8), Hid (ls = Oct.lines s.data.toList) := ⟨_, Lib.hid rfl⟩
        have hls1 : ls.length ≤ s.size := by rw [HLS.out]; exact lines_le _
        rw [← HLS.out] at hown hparts hc5 ⊢
        have hb05 : Below w.heap.size w w5 := hb04.trans (hb5.mono hb04.size)
        clear hb4 hb5 HLI hrun hs4
        go_wp2_with fail
        go_loopw [10, 12] (fun a i wr => ∃ k : Nat, k ≤ ls.length ∧ i = .int .i64 k ∧ a = .string ⟨((ls.take k).flatten).toArray⟩ ∧ wr.ownsRow w4.heap.size 30 1 (.slice A5 ls.length c5) ls.length vs ∧ Parts wr w4.heap.size 5 vs ls ∧ Below w.heap.size w wr)
          (fun _ i _ => ls.length - (intOf i).toNat)
        case atStart => exact ⟨0, Nat.zero_le _, rfl, rfl, hown, hparts, hb05⟩
        case round =>
          obtain ⟨k, hk, rfl, rfl, hown, hparts, hb⟩ := hrel
          by_cases hlt : k < ls.length
          · obtain ⟨g, cp, hv, _, _, _, _⟩ := own_form hown (by omega)
            injection hv with hA _ hC
            subst hA hC
            have hkv : k < vs.length := by rw [hparts.1]; exact hlt
            have hcell := hown.cells (g := g) rfl k vs[k] (List.getElem?_eq_getElem hkv)
            rw [add_to, Nat.zero_add] at hcell
            have hpk := hparts.2 k vs[k] ls[k] (List.getElem?_eq_getElem hkv) (List.getElem?_eq_getElem hlt)
            obtain ⟨Ak, ck, hvk, hck, hckm⟩ := own_shape hpk
            rw [hvk] at hcell hpk
            have hsk := Sees.of_own hpk
            have hconv := fun q => run_sees_string (P := Try.prog) (wr.drewN q) 30 9 5 Try.underlying30 Try.underlying5 Try.underlying9 (Sees.drewN hsk q) ls[k].length ck rfl
            have hnext := flat_snoc ls k hlt
            obtain ⟨lk, HLK⟩ : ∃ lk : List UInt8, Hid (lk = ls[k]) := ⟨_, Lib.hid rfl⟩
            rw [← HLK.out] at hcell hpk hsk hconv hnext hck
            have hbd : (ls.take k).flatten.length + lk.length ≤ 500 := by
              have h1 := flat_take_le ls (k + 1)
              rw [hnext, List.length_append] at h1
              have h2 : ls.flatten.length = s.size := by rw [HLS.out, Oct.lines_flat]; rfl
              omega
            have HN := Lib.hid hnext
            generalize hacc : (ls.take k).flatten = acc at HN hbd ⊢
            clear hacc hnext hvk hpk
            unfold maxLen at hckm
            have hrel' : ∀ q, (wr.drewN q).ownsRow w4.heap.size 30 1 (.slice (some ⟨g, 0, none⟩) ls.length c5) ls.length vs ∧ Parts (wr.drewN q) w4.heap.size 5 vs ls ∧ Below w.heap.size w (wr.drewN q) := fun q => ⟨hown, hparts, below_drewN hb q⟩
            have HR := Lib.hid hrel'
            clear hrel' hown hparts hb
            by_cases hlast : k + 1 < ls.length
            · obtain ⟨p, hp⟩ := Oct.lines_ends s.data.toList k lk (by rw [← HLS.out]; exact hlast) (by rw [← HLS.out, HLK.out]; exact List.getElem?_eq_getElem hlt)
              obtain ⟨h2, hend⟩ := ends_drop lk p hp
              obtain ⟨At, htail, hst⟩ := run_tail (P := Try.prog) Try.underlying30 Try.sizeByte hsk lk.length ck (lk.length - 2) rfl (by omega) hck
              rw [hend] at hst
              have hconv2 := fun q => run_sees_string (P := Try.prog) (wr.drewN q) 30 9 5 Try.underlying30 Try.underlying5 Try.underlying9 (Sees.drewN hst q) 2 (ck - (lk.length - 2)) rfl
              have e2 : lk.length - (lk.length - 2) = 2 := by omega
              rw [e2] at htail
              have e3 : (((lk.length - 2 : Nat)) : Int) = (lk.length : Int) - 2 := by omega
              rw [e3] at htail
              have hd : decide ((k : Int) + 1 < (ls.length : Int)) = true := by simp; omega
              have hd2 : decide ((lk.length : Int) < 2) = false := by simp; omega
              have hw2 : IntKind.i64.wrap ((lk.length : Int) - 2) = (lk.length : Int) - 2 := IntWalk.i64_in _ (by omega)
              clear hst hend hp e2 e3 hsk
              go_wp2
              go_quiet (fail)
              go_wp2
              go_roundw
              case rel => exact ⟨k + 1, by omega, by go_num, by rw [HN.out, str_append], HR.out _⟩
              case measure => simp [intOf]; omega
            · have hd : decide ((k : Int) + 1 < (ls.length : Int)) = false := by simp; omega
              go_wp2
              go_quiet (fail)
              go_wp2
              go_roundw
              case rel => exact ⟨k + 1, by omega, by go_num, by rw [HN.out, str_append], HR.out _⟩
              case measure => simp [intOf]; omega
          · have hks : k = ls.length := by omega
            have hall : (ls.take k).flatten = s.data.toList := by
              rw [List.take_of_length_le (by omega), HLS.out, Oct.lines_flat]
            rw [hall]
            have hsb : (⟨s.data.toList.toArray⟩ : ByteArray) = s := by apply ByteArray.ext; simp
            rw [hsb]
            clear hall hsb hks hown hparts
            obtain ⟨fb, HFB⟩ : ∃ fb : ByteArray, Hid (fb = ⟨(Oct.fold s.data.toList).toArray⟩) := ⟨_, Lib.hid rfl⟩
            have hfb : fb.data.toList = Oct.fold s.data.toList := by rw [HFB.out]
            have hff : fb = ⟨(Oct.fold fb.data.toList).toArray⟩ := by rw [hfb, Oct.fold_fold]; exact HFB.out
            have hfs : fb.size = s.size := by rw [HFB.out]; exact size_fold s
            have hsame : (Oct.fold s.data.toList == Oct.fold fb.data.toList) = true := by rw [hfb, Oct.fold_fold]; simp
            have HFF := Lib.hid hff
            have HFS := Lib.hid hfs
            have HSM := Lib.hid hsame
            clear hfb hff hfs hsame
            go_wp2_with fail
            refine (fold_ok s fb _ (by unfold maxLen; omega) HFB.out).mono ?_
            rintro e w6 ⟨rfl, hb6⟩
            go_wp2_with fail
            refine (fold_ok fb fb _ (by rw [HFS.out]; unfold maxLen; omega) HFF.out).mono ?_
            rintro e w7 ⟨rfl, hb7⟩
            go_wp2_with fail
            refine (fold_ok s fb _ (by unfold maxLen; omega) HFB.out).mono ?_
            rintro e w8 ⟨rfl, hb8⟩
            go_wp2_with fail
            refine (fold_ok s fb _ (by unfold maxLen; omega) HFB.out).mono ?_
            rintro e w9 ⟨rfl, hb9⟩
            go_wp2_with fail
            refine (same_any s fb _ (by unfold maxLen; omega) (by rw [HFS.out]; unfold maxLen; omega)).mono ?_
            rintro e w10 ⟨rfl, hb10⟩
            rw [HSM.out]
            have z6 := hb6.size
            have z7 := hb7.size
            have z8 := hb8.size
            have z9 := hb9.size
            have z := hb.size
            go_wp2
            go_ret
            exact ⟨rfl, hb.trans ((hb6.mono (by omega)).trans ((hb7.mono (by omega)).trans ((hb8.mono (by omega)).trans ((hb9.mono (by omega)).trans (hb10.mono (by omega))))))⟩
end Go.Proofs.Ytmdbfjfdkgdmnaa
