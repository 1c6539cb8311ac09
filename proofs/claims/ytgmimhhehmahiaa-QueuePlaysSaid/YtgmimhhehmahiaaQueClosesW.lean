/- The walk of QueueCloses. -/
import Derived.Test.YtgmimhhehmahiaaQueAwake
import Derived.Test.YtgmimhhehmahiaaRow
import Derived.Test.YtgmimhhehmahiaaArgs
namespace Go.Proofs.Ytgmimhhehmahiaa
open Go.Conc Go.RowKit
set_option linter.unusedVariables false

/-- The elements that a list of strings makes. -/
def elems (ss : List ByteArray) : List (List UInt8) := ss.map fun s => s.data.toList
theorem elems_length (ss : List ByteArray) : (elems ss).length = ss.length := by simp [elems]
theorem elems_at (ss : List ByteArray) (k : Nat) (h : k < ss.length) : (elems ss)[k]? = some ss[k].data.toList := by simp [elems, List.getElem?_eq_getElem h]
theorem elems_snoc (ss : List ByteArray) (k : Nat) (h : k < ss.length) : elems (ss.take (k + 1)) = elems (ss.take k) ++ [ss[k].data.toList] := by
  unfold elems
  rw [List.take_succ_eq_append_getElem h, List.map_append]; rfl
theorem elems_cons (ss : List ByteArray) (k : Nat) (h : k < ss.length) : elems (ss.drop k) = ss[k].data.toList :: elems (ss.drop (k + 1)) := by
  unfold elems
  rw [List.drop_eq_getElem_cons h, List.map_cons]
theorem bytes_back (s : ByteArray) : (⟨s.data.toList.toArray⟩ : ByteArray) = s := by apply ByteArray.ext; simp

/-- Put of []byte(s). -/
theorem put_str (s : ByteArray) (hs : s.size ≤ 140737488351232) (cap : Nat) {q c room : Nat} {xs : List (List UInt8)} (w w1 : World) (hb : Below w.heap.size w w1) (hrow : ByteRow w1 w.heap.size 5 s.data.toList) (h : Que w q c room false xs) (hlt : xs.length < room) :
    Calls Try.prog 11 #[.pointer (some ⟨q, 0, none⟩), .slice (some ⟨w.heap.size, 0, none⟩) s.size cap] w1 fun e w' => e = .returned (.bool true) ∧ Que w' q c room false (xs ++ [s.data.toList]) ∧ Only [c] w w' := by
  have hz := hrow.lt
  refine (put_ok _ s.size cap s.data.toList rfl w1 (h.below hb) hlt (hrow.sees.mono (by omega)) (by show s.size ≤ _; omega)).mono ?_
  rintro e w' ⟨rfl, h1, h2⟩
  exact ⟨rfl, h1, (Only.of_below hb).trans h2⟩
theorem put_shut' (A : Option Addr) (n cp : Nat) {q c room : Nat} {xs : List (List UInt8)} (w : World) (h : Que w q c room true xs) : Calls Try.prog 11 #[.pointer (some ⟨q, 0, none⟩), .slice A n cp] w fun e w' => e = .returned (.bool false) ∧ w' = w :=
  (put_shut A n cp w h).mono fun _ _ ⟨h1, h2⟩ => ⟨h1, h2.symm⟩

set_option maxHeartbeats 1600000 in
set_option maxRecDepth 100000 in
theorem queueCloses_walk (A : Option Addr) (len cap : Nat) (ss : List ByteArray) (hlen : len = ss.length) (hcap : len ≤ cap) (hmax : cap ≤ maxLen) (hreach : ∀ s ∈ ss, s.size ≤ 140737488351232) (more : ByteArray) (hmore : more.size ≤ maxLen) (w : World) (hss : Strs w w.heap.size A ss) :
    Calls Try.prog 7 #[.slice A len cap, .string more] w fun e w' => e = .returned (.bool true) ∧ Below w.heap.size w w' := by
  subst hlen
  unfold maxLen at hmax hmore
  by_cases hbig : 60 < (ss.length : Int)
  · go_enter Try.func7, Try.ntmps7
    go_wp2_with fail
    refine (awake_any _).mono ?_
    rintro e w1 ⟨rfl, b1⟩
    go_wp2
    go_ret
    exact ⟨rfl, b1⟩
  · have HS := Lib.hid hss
    have HR := Lib.hid hreach
    clear hss hreach
    go_enter Try.func7, Try.ntmps7
    go_wp2_with fail
    refine (awake_any _).mono ?_
    rintro e w1 ⟨rfl, b1⟩
    have z1 := b1.size
    go_wp2_with fail
    refine (new_ok 64 w1 (by omega) (by omega)).mono ?_
    rintro e w2 ⟨q, rfl, hq, q1, q2, b2⟩
    obtain ⟨c, HC⟩ : ∃ c, Hid (c = w1.heap.size) := ⟨_, Lib.hid rfl⟩
    rw [← HC.out] at hq q1
    have hc1 : w.heap.size ≤ c := by rw [HC.out]; exact z1
    have hcq : c < q := q1
    have b02 := b1.trans (b2.mono z1)
    clear b1 b2 HC q1 q2
    go_wp2_with fail
    go_loopw [7] (fun i wr => ∃ k : Nat, k ≤ ss.length ∧ i = .int .i64 k ∧ Que wr q c 64 false (elems (ss.take k)) ∧ Below w.heap.size w wr) (fun i _ => ss.length - (intOf i).toNat)
    case atStart => exact ⟨0, Nat.zero_le _, rfl, hq, b02⟩
    case round =>
      obtain ⟨k, hk, rfl, hq, hb⟩ := hrel
      by_cases hlt : k < ss.length
      · obtain ⟨g, o, rfl, hg, hcells⟩ := (HS.out.below hb (Nat.le_refl _)) (List.length_pos_iff.1 (by omega))
        have hcell := hcells k hlt
        clear hcells
        have hreach := HR.out _ (List.getElem_mem hlt)
        have hsn := elems_snoc ss k hlt
        obtain ⟨sk, HK⟩ : ∃ sk, Hid (sk = ss[k]) := ⟨_, Lib.hid rfl⟩
        rw [← HK.out] at hcell hreach hsn
        have HN := Lib.hid hsn
        clear hsn
        have hl : (elems (ss.take k)).length < 64 := by rw [elems_length, List.length_take]; omega
        obtain ⟨cp, w4, hrun, hrow, hb4, _, _, _⟩ := run_bytes_row (P := Try.prog) wr 9 27 5 sk Try.underlying9 Try.underlying27 Try.underlying5
        go_wp2_with fail
        refine (put_str sk hreach cp wr w4 hb4 hrow hq hl).mono ?_
        rintro e w5 ⟨rfl, hq5, o5⟩
        have hb5 := hb.trans (o5.below1 hb.size hc1)
        rw [← HN.out] at hq5
        clear hrun hcell hrow
        go_wp2
        go_roundw
        case rel => exact ⟨k + 1, by omega, by go_num, hq5, hb5⟩
        case measure => simp [intOf]; omega
      · have hks : k = ss.length := by omega
        rw [hks, List.take_length] at hq
        clear hks b02
        obtain ⟨n, HNL⟩ : ∃ n, Hid (n = (elems ss).length) := ⟨_, Lib.hid rfl⟩
        have hz := hb.size
        go_wp2_with fail
        refine (close_any wr hq).mono ?_
        rintro e w3 ⟨rfl, hq3, o3⟩
        have b3 := hb.trans (o3.below1 hz (by omega))
        have z3 := o3.size
        obtain ⟨cp, w4, hrun, hrow, hb4, _, _, _⟩ := run_bytes_row (P := Try.prog) w3 9 27 5 more Try.underlying9 Try.underlying27 Try.underlying5
        have hq4 := hq3.below hb4
        have b4 := b3.trans (hb4.mono (by omega))
        clear hq hrow hb4 hb o3
        go_wp2_with fail
        refine (put_shut _ _ _ _ hq4).mono ?_
        rintro e w4' ⟨rfl, rfl⟩
        clear hrun
        go_wp2_with fail
        refine (len_any w4 hq4).mono ?_
        rintro e w4' ⟨rfl, rfl⟩
        rw [elems_length]
        go_wp2_with fail
        refine (closed_any w4 hq4).mono ?_
        rintro e w4' ⟨rfl, rfl⟩
        go_wp2_with fail
        obtain ⟨wo, rfl⟩ : ∃ wo : World, wo = w4 := ⟨_, rfl⟩
        go_loopw [8] (fun i wr => ∃ k : Nat, k ≤ ss.length ∧ i = .int .i64 k ∧ Que wr q c 64 true (elems (ss.drop k)) ∧ Below w.heap.size w wr) (fun i _ => ss.length - (intOf i).toNat)
        case atStart => exact ⟨0, Nat.zero_le _, rfl, hq4, b4⟩
        case round =>
          obtain ⟨k, hk, rfl, hq, hb⟩ := hrel
          by_cases hlt : k < ss.length
          · obtain ⟨g, o, rfl, hg, hcells⟩ := HS.out (List.length_pos_iff.1 (by omega))
            have hcell0 := hcells k hlt
            clear hcells
            have hsn := elems_cons ss k hlt
            rw [hsn] at hq
            obtain ⟨sk, HK⟩ : ∃ sk, Hid (sk = ss[k]) := ⟨_, Lib.hid rfl⟩
            rw [← HK.out] at hcell0 hq
            clear hsn
            have HC0 := Lib.hid hcell0
            clear hcell0
            go_wp2_with fail
            refine (take_ok wr hq).mono ?_
            rintro e w5 ⟨A5, cp5, rfl, _, _, s5, hq5, o5⟩
            have hb5 := hb.trans (o5.below1 hb.size hc1)
            have hcell : w5.cell? ⟨g, o + k, none⟩ = some (.string sk) := (hb5.cell (p := ⟨g, o + k, none⟩) hg).trans HC0.out
            have hconv := fun n => run_sees_string (P := Try.prog) (w5.drewN n) 27 9 5 Try.underlying27 Try.underlying5 Try.underlying9 (s5.drewN n) sk.size cp5 rfl
            rw [bytes_back] at hconv
            clear hq hb s5
            go_wp2
            go_quiet ((go_at_call 11; exact Calls.quiet_of_same (put_shut' _ _ _ _ (hq5.drewN _))))
            go_wp2
            go_roundw
            case rel => exact ⟨k + 1, by omega, by go_num, hq5.drewN _, below_drewN hb5 _⟩
            case measure => simp [intOf]; omega
          · have hks : ss.length ≤ k := by omega
            rw [List.drop_eq_nil_of_le hks] at hq
            clear hks
            go_wp2_with fail
            refine (take_none wr hq).mono ?_
            rintro e w5 ⟨rfl, rfl⟩
            go_wp2
            go_ret
            exact ⟨rfl, hb⟩
end Go.Proofs.Ytgmimhhehmahiaa
