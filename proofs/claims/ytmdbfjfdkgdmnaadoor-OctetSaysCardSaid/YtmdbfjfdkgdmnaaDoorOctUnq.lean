/- The walk of package octet's Unquote. -/
import Derived.Test.YtmdbfjfdkgdmnaaDoorOctQuote2
namespace Go.Proofs.YtmdbfjfdkgdmnaaDoor
open Go.RowKit

theorem drop_at {α : Type} (l : List α) (k : Nat) (h : k < l.length) : l.drop k = l[k] :: l.drop (k + 1) := List.drop_eq_getElem_cons h

def unqVal (r : List UInt8 × Nat × Nat) : Value := .tuple #[.string ⟨r.1.toArray⟩, .int .i64 (r.2.1 : Int), .int .i64 (r.2.2 : Int)]
def UnqEnd (s : ByteArray) (w : World) (e : Ending) (w' : World) : Prop :=
  e = .returned (unqVal (Oct.unquote s.data.toList)) ∧ Below w.heap.size w w'

set_option maxHeartbeats 800000 in
set_option maxRecDepth 100000 in
theorem unquote_any (s : ByteArray) (w : World) (hs : s.size ≤ 140737488351232) :
    Calls Tryd.prog 7 #[.string s] w (UnqEnd s w) := by
  obtain ⟨i0, hi, hz0, hz1, hz2⟩ := info_parts Tryd.infoByte
  have hlen : s.data.toList.length = s.size := rfl
  by_cases h0 : s.size = 0
  · have e1 : s.data.toList = [] := List.eq_nil_of_length_eq_zero h0
    have e2 : s.toList = [] := by rw [Go.ByteArray.toList_eq]; exact e1
    have h3 : s.toList.isEmpty = true := by rw [e2]; rfl
    unfold UnqEnd
    rw [e1]
    clear e1 h0 hlen
    go_enter Tryd.func7, Tryd.ntmps7
    go_wp2
    go_ret3
    exact ⟨rfl, Below.refl _ _⟩
  · have hpos : 0 < s.size := by omega
    have hlt0 : 0 < s.data.toList.length := by omega
    have e0 : s.data.toList = s[0] :: s.data.toList.drop 1 := by
      have := drop_at s.data.toList 0 hlt0
      rw [List.drop_zero] at this
      exact this
    have h3 : s.toList.isEmpty = false := by
      rw [Go.ByteArray.toList_eq, e0]; rfl
    by_cases hq : (s[0].toNat : Int) = 34
    · have hu : Oct.unqGo (s.data.toList.drop 1) false [] 1 = Oct.unquote s.data.toList := by
        conv => rhs; rw [e0]
        simp only [Oct.unquote]; rw [if_pos (by omega)]
      have HU := Lib.hid hu
      have h4 : ((s[0].toNat : Int) == 34) = true := by simp; omega
      have h5 : ((s[0].toNat : Int) != 34) = false := by simp; omega
      clear hu e0 hq h0
      go_enter Tryd.func7, Tryd.ntmps7
      go_wp2
      clear h4 h5
      go_loopw [5, 6] (fun t i wr => ∃ (k : Nat) (acc : List UInt8), 1 ≤ k ∧ k ≤ s.size ∧ i = .int .i64 k ∧ acc.length ≤ k ∧ wr.ownsRow w.heap.size 5 1 t acc.length (bv acc) ∧ Hid (Oct.unqGo (s.data.toList.drop k) false acc k = Oct.unquote s.data.toList) ∧ Below w.heap.size w wr)
        (fun _ i _ => s.size - (intOf i).toNat)
      case atStart => exact ⟨1, [], Nat.le_refl _, by omega, rfl, by simp, World.ownsRow_nil _ _ _ _, HU, Below.refl _ _⟩
      case round =>
        obtain ⟨k, acc, hk1, hk, rfl, hacc, hown, HK, hb⟩ := hrel
        clear HU
        have hwz := hb.size
        by_cases hlt : k < s.size
        · have hlt' : k < s.data.toList.length := by omega
          have hd : s.data.toList.drop k = s[k] :: s.data.toList.drop (k + 1) := drop_at _ _ hlt'
          have HD := Lib.hid hd
          clear hd
          by_cases h34 : (s[k].toNat : Int) = 34
          · have h1 : ((s[k].toNat : Int) == 34) = true := by simp; omega
            have hv : Oct.unquote s.data.toList = (acc, k + 1, 0) := by
              rw [← HK.out, HD.out]; simp only [Oct.unqGo]; rw [if_pos (by omega)]
            have HV := Lib.hid hv
            have hconv := run_own_string (P := Tryd.prog) wr 30 9 5 Tryd.underlying30 Tryd.underlying5 Tryd.underlying9 w.heap.size _ _ hown
            clear hv h34 hown
            go_wp2
            go_ret3
            refine ⟨?_, hb⟩
            rw [HV.out]; rfl
          · have h1 : ((s[k].toNat : Int) == 34) = false := by simp; omega
            have n34 : ¬ s[k].toNat = 34 := by omega
            have N34 := Lib.hid n34
            clear h34 n34
            cases hp : Oct.plainB s[k] with
            | false =>
              have HQ := Lib.hid hp
              clear hp
              have hv : Oct.unquote s.data.toList = ([], 0, 3) := by
                rw [← HK.out, HD.out]; simp only [Oct.unqGo]; rw [if_neg N34.out, if_pos HQ.out]
              have HV := Lib.hid hv
              clear hv
              go_wp2_with (go_at_call 22; refine (quotable_any _ _ HQ.out _).mono ?_; rintro e w' ⟨rfl, rfl⟩)
              go_ret3
              refine ⟨?_, hb⟩
              rw [HV.out]; rfl
            | true =>
              have HQ := Lib.hid hp
              clear hp
              by_cases h92 : (s[k].toNat : Int) = 92
              · have h2 : ((s[k].toNat : Int) == 92) = true := by simp; omega
                have hu : Oct.unqGo (s.data.toList.drop (k + 1)) true acc (k + 1) = Oct.unquote s.data.toList := by
                  rw [← HK.out, HD.out]; simp only [Oct.unqGo]; rw [if_neg N34.out, if_neg (by rw [HQ.out]; decide), if_pos (by omega)]
                have HU := Lib.hid hu
                clear hu h92
                by_cases hend : k + 1 = s.size
                · have h3 : ((k : Int) + 1 == (s.size : Int)) = true := by simp; omega
                  have hv : Oct.unquote s.data.toList = ([], 0, 8) := by
                    rw [← HU.out, List.drop_of_length_le (by omega)]; rfl
                  have HV := Lib.hid hv
                  clear hv hend
                  go_wp2_with (go_at_call 22; refine (quotable_any _ _ HQ.out _).mono ?_; rintro e w' ⟨rfl, rfl⟩)
                  go_ret3
                  refine ⟨?_, hb⟩
                  rw [HV.out]; rfl
                · have h3 : ((k : Int) + 1 == (s.size : Int)) = false := by simp; omega
                  have hlt2 : k + 1 < s.size := by omega
                  have hd2 : s.data.toList.drop (k + 1) = s[k + 1] :: s.data.toList.drop (k + 1 + 1) := drop_at _ _ (by omega)
                  have HD2 := Lib.hid hd2
                  clear hd2 hend
                  cases he : Oct.escB s[k + 1] with
                  | false =>
                    have hv : Oct.unquote s.data.toList = ([], 0, 3) := by
                      rw [← HU.out, HD2.out]; simp only [Oct.unqGo]; rw [he]; rfl
                    have HV := Lib.hid hv
                    have HE := Lib.hid he
                    clear hv he
                    go_wp2_with (first
                      | (go_at_call 22; refine (quotable_any _ _ HQ.out _).mono ?_; rintro e w' ⟨rfl, rfl⟩)
                      | (go_at_call 23; refine (escaped_any _ _ HE.out _).mono ?_; rintro e w' ⟨rfl, rfl⟩))
                    go_ret3
                    refine ⟨?_, hb⟩
                    rw [HV.out]; rfl
                  | true =>
                    have hv : Oct.unqGo (s.data.toList.drop (k + 1 + 1)) false (acc ++ [s[k + 1]]) (k + 1 + 1) = Oct.unquote s.data.toList := by
                      rw [← HU.out, HD2.out]; simp only [Oct.unqGo]; rw [if_pos he]
                    have HV := Lib.hid hv
                    have HE := Lib.hid he
                    clear hv he
                    go_wp2_with (first
                      | (go_at_call 22; refine (quotable_any _ _ HQ.out _).mono ?_; rintro e w' ⟨rfl, rfl⟩)
                      | (go_at_call 23; refine (escaped_any _ _ HE.out _).mono ?_; rintro e w' ⟨rfl, rfl⟩)
                      | (at_builtin; refine wpList_append_one rfl _ _ 30 rfl w.heap.size 5 i0 (.int .u8 0) 1 Tryd.underlying30 hi hz0 hz1 hz2 rfl wr (.int .u8 (s[k + 1].toNat : Int)) rfl 1 _ _ _ rfl (by exact hown) rfl ?c1 ?c2 ?c3 ?_))
                    case c1 => omega
                    case c2 => unfold maxLen; omega
                    case c3 => omega
                    intro v' w' hown' hb'
                    go_wp2
                    go_roundw
                    case rel =>
                      refine ⟨k + 1 + 1, acc ++ [s[k + 1]], by omega, by omega, by go_num, by simp; omega, ?_, HV, hb.trans hb'⟩
                      rw [bv_append, List.length_append]; exact hown'
                    case measure => simp [intOf]; omega
              · have h2 : ((s[k].toNat : Int) == 92) = false := by simp; omega
                have hv : Oct.unqGo (s.data.toList.drop (k + 1)) false (acc ++ [s[k]]) (k + 1) = Oct.unquote s.data.toList := by
                  rw [← HK.out, HD.out]; simp only [Oct.unqGo]; rw [if_neg N34.out, if_neg (by rw [HQ.out]; decide), if_neg (by omega)]
                have HV := Lib.hid hv
                clear hv h92
                go_wp2_with (first
                  | (go_at_call 22; refine (quotable_any _ _ HQ.out _).mono ?_; rintro e w' ⟨rfl, rfl⟩)
                  | (at_builtin; refine wpList_append_one rfl _ _ 30 rfl w.heap.size 5 i0 (.int .u8 0) 1 Tryd.underlying30 hi hz0 hz1 hz2 rfl wr (.int .u8 (s[k].toNat : Int)) rfl 1 _ _ _ rfl (by exact hown) rfl ?c1 ?c2 ?c3 ?_))
                case c1 => omega
                case c2 => unfold maxLen; omega
                case c3 => omega
                intro v' w' hown' hb'
                go_wp2
                go_roundw
                case rel =>
                  refine ⟨k + 1, acc ++ [s[k]], by omega, by omega, by go_num, by simp; omega, ?_, HV, hb.trans hb'⟩
                  rw [bv_append, List.length_append]; exact hown'
                case measure => simp [intOf]; omega
        · have hv : Oct.unquote s.data.toList = ([], 0, 8) := by
            rw [← HK.out, List.drop_of_length_le (by omega)]; rfl
          have HV := Lib.hid hv
          clear hv
          go_wp2
          go_ret3
          refine ⟨?_, hb⟩
          rw [HV.out]; rfl
    · have hv : Oct.unquote s.data.toList = ([], 0, 3) := by
        rw [e0]; simp only [Oct.unquote]; rw [if_neg (by omega)]
      have HV := Lib.hid hv
      have h4 : ((s[0].toNat : Int) == 34) = false := by simp; omega
      have h5 : ((s[0].toNat : Int) != 34) = true := by simp; omega
      clear hv hq e0
      go_enter Tryd.func7, Tryd.ntmps7
      go_wp2
      go_ret3
      refine ⟨?_, Below.refl _ _⟩
      rw [HV.out]; rfl
end Go.Proofs.YtmdbfjfdkgdmnaaDoor
