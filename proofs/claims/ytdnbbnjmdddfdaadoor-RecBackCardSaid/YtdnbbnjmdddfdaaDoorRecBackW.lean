/- The walk of RecBack. -/
import Derived.Test.YtdnbbnjmdddfdaaDoorRecTurnedW
import Derived.Deep.QuietTactic
import Derived.BigQuiet
namespace Go.Proofs.YtdnbbnjmdddfdaaDoor
open Go.RowKit
set_option linter.unusedVariables false

theorem zipn_length (n : Nat) (l : List (List UInt8)) : (Rc.zipn n l).length = l.length := by
  induction l generalizing n with
  | nil => rfl
  | cons b l ih => simp [Rc.zipn, ih]
theorem zipn_get (n : Nat) (l : List (List UInt8)) (i : Nat) (h : i < l.length) : (Rc.zipn n l)[i]'(by rw [zipn_length]; exact h) = (n + i, l[i]) := by
  induction l generalizing n i with
  | nil => simp at h
  | cons b l ih =>
    cases i with
    | zero => rfl
    | succ i =>
      simp only [Rc.zipn, List.getElem_cons_succ]
      rw [ih (n + 1) i (by simpa using h)]
      congr 1; omega
theorem sizes_snoc (l : List (List UInt8)) (b : List UInt8) : Rc.sizes (l ++ [b]) = Rc.sizes l + (b.length + 16) := by simp [Rc.sizes]
/-- How many records are whole up to the cut, which may be less than nothing. -/
def wholeI (cut : Int) (l : List (List UInt8)) : Nat := if cut < 0 then 0 else Rc.whole cut.toNat l
theorem wholeI_snoc (cut : Int) (l : List (List UInt8)) (b : List UInt8) : wholeI cut (l ++ [b]) = if ((Rc.sizes (l ++ [b]) : Nat) : Int) ≤ cut then l.length + 1 else wholeI cut l := by
  unfold wholeI
  have h16 : 16 ≤ Rc.sizes (l ++ [b]) := by rw [sizes_snoc]; omega
  by_cases hc : cut < 0
  · rw [if_pos hc, if_pos hc, if_neg (by omega)]
  · rw [if_neg hc, if_neg hc, Rc.whole_snoc]
    by_cases h : Rc.sizes (l ++ [b]) ≤ cut.toNat
    · rw [if_pos h, if_pos (by omega)]
    · rw [if_neg h, if_neg (by omega)]
theorem wholeI_le (cut : Int) (l : List (List UInt8)) : wholeI cut l ≤ l.length := by
  unfold wholeI; split
  · omega
  · exact Rc.whole_le _ _
theorem sizes_le (l : List (List UInt8)) (h : ∀ b ∈ l, b.length ≤ 100) : Rc.sizes l ≤ l.length * 116 := by
  induction l with
  | nil => simp [Rc.sizes]
  | cons b l ih =>
    have h1 := ih (fun x hx => h x (by simp [hx]))
    have h2 := h b (by simp)
    simp [Rc.sizes] at h1 ⊢; omega

set_option maxHeartbeats 4000000 in
set_option maxRecDepth 100000 in
theorem recBack_walk (A0 : Option Addr) (n0 c0 : Nat) (ls : List (List UInt8)) (e0 : n0 = ls.length) (h0 : n0 ≤ c0) (_m0 : c0 ≤ maxLen) (first : Int) (hfirst : (Lit.int .i64 first).wf = true) (cut : Int) (hcut : (Lit.int .i64 cut).wf = true) (w : World)
    (s0 : Grid w w.heap.size A0 ls) (ht : Lib.TabIs Tryd.prog w "franking/crc.halfByte" .u32 crcTab) :
    Calls Tryd.prog 5 #[.slice A0 n0 c0, .int .i64 first, .int .i64 cut] w fun e w' => e = .returned (.bool true) ∧ Below w.heap.size w w' := by
  subst e0
  have HT := Lib.hid (tabAt ht)
  clear ht
  unfold maxLen at _m0
  have HAW := Lib.hid (recAwake_any w HT.out)
  by_cases q0 : (20 : Int) < ls.length
  · go_enter Tryd.func5, Tryd.ntmps5
    go_wp2_with fail
    refine HAW.out.mono ?_
    rintro e w2 ⟨rfl, hb2⟩
    have KB := Lib.hid hb2
    clear hb2
    go_wp2
    go_ret
    exact ⟨rfl, KB.out⟩
  by_cases q1 : first < 1
  · go_enter Tryd.func5, Tryd.ntmps5
    go_wp2_with fail
    refine HAW.out.mono ?_
    rintro e w2 ⟨rfl, hb2⟩
    have KB := Lib.hid hb2
    clear hb2
    go_wp2
    go_ret
    exact ⟨rfl, KB.out⟩
  by_cases q2 : 1099511627776 < first
  · go_enter Tryd.func5, Tryd.ntmps5
    go_wp2_with fail
    refine HAW.out.mono ?_
    rintro e w2 ⟨rfl, hb2⟩
    have KB := Lib.hid hb2
    clear hb2
    go_wp2
    go_ret
    exact ⟨rfl, KB.out⟩
  obtain ⟨f, rfl⟩ : ∃ f : Nat, first = (f : Int) := ⟨first.toNat, by omega⟩
  have q0' : ls.length ≤ 20 := by omega
  have qf1 : 1 ≤ f := by omega
  have qf2 : f ≤ 1099511627776 := by omega
  have HS0 := Lib.hid s0
  clear s0
  go_enter Tryd.func5, Tryd.ntmps5
  go_wp2_with fail
  refine HAW.out.mono ?_
  rintro e w2 ⟨rfl, hb2⟩
  have HB2 := Lib.hid hb2
  clear hb2
  go_wp2_with fail
  go_loopw [7, 8, 9] (fun b wh i wr => ∃ (k : Nat) (A : Option Addr) (c : Nat) (L : List UInt8), k ≤ ls.length ∧ i = .int .i64 (k : Int) ∧ wh = .int .i64 (wholeI cut (ls.take k) : Int) ∧ b = .slice A L.length c ∧ Hid (L = Rc.encs f (ls.take k)) ∧ Hid (∀ x ∈ ls.take k, x.length ≤ 100) ∧
      Sees wr wr.heap.size A L ∧ L.length ≤ c ∧ c ≤ maxLen ∧ Below w.heap.size w wr) (fun _ _ i _ => ls.length - (intOf i).toNat)
  case atStart => exact ⟨0, none, 0, [], Nat.zero_le _, rfl, by simp [wholeI, Rc.whole], rfl, Lib.hid rfl, Lib.hid (by simp), Sees.nil _ _ _, Nat.le_refl _, Nat.zero_le _, HB2.out⟩
  case round =>
    obtain ⟨k, A, c, L, hk, rfl, rfl, rfl, HL, H100, hsL, hLc, hcm, hb⟩ := hrel
    by_cases hlt : k < ls.length
    · obtain ⟨g, o, rfl, hg, hrow⟩ := (HS0.out.below hb (Nat.le_refl _)) (by intro e; simp [e] at hlt)
      obtain ⟨A', c', hcell, h1, h2, h3⟩ := hrow k hlt
      have hkI : (k : Int) < ls.length := by omega
      obtain ⟨x, Hx⟩ : ∃ x, Hid (x = ls[k]) := ⟨_, Lib.hid rfl⟩
      rw [← Hx.out] at hcell h1 h3
      obtain ⟨wk, Hwk⟩ : ∃ wk, Hid (wk = wholeI cut (ls.take k)) := ⟨_, Lib.hid rfl⟩
      rw [← Hwk.out]
      have hx63 : (x.length : Int) ≤ 9223372036854775807 := by unfold maxLen at h2; omega
      have HB := Lib.hid hb
      clear hrow hb
      by_cases hx : (100 : Int) < x.length
      · clear h3 hsL
        go_wp2
        go_ret
        exact ⟨rfl, HB.out⟩
      have hx' : x.length ≤ 100 := by omega
      have hlenL : L.length ≤ 20 * 116 := by
        rw [HL.out, Rc.encs_length]
        have h4 := sizes_le (ls.take k) H100.out
        have h5 : (ls.take k).length ≤ 20 := by rw [List.length_take]; omega
        omega
      have HPUT := Lib.hid (put_okZ A L.length c L ((f : Int) + k) (f + k) (by omega) A' x.length c' x wr rfl hsL rfl (h3.mono HB.out.size) (by omega) (by omega) (by omega) (by omega) (HT.out.below HB.out (Nat.le_refl _)))
      clear h3 hsL
      go_wp2_with fail
      refine HPUT.out.mono ?_
      rintro e w3 ⟨A3, c3, L3, HL3, rfl, hown3, hb3, h3a, h3b⟩
      have htake : ls.take (k + 1) = ls.take k ++ [x] := by rw [Hx.out]; exact List.take_succ_eq_append_getElem hlt
      have hL3e : L3 = Rc.encs f (ls.take (k + 1)) := by
        rw [HL3.out, HL.out, htake, Rc.encs_snoc, List.length_take, Nat.min_eq_left hk]
      have hL3n : L3.length = Rc.sizes (ls.take k ++ [x]) := by rw [hL3e, Rc.encs_length, htake]
      have h100 : ∀ y ∈ ls.take (k + 1), y.length ≤ 100 := by
        rw [htake]; intro y hy
        rcases List.mem_append.1 hy with h | h
        · exact H100.out y h
        · rw [List.mem_singleton] at h; subst h; exact hx'
      have hwS := wholeI_snoc cut (ls.take k) x
      rw [← htake, ← Hwk.out, List.length_take, Nat.min_eq_left hk] at hwS
      rw [htake, ← hL3n] at hwS
      rw [← htake] at hwS
      have HWS := Lib.hid hwS
      have HLE := Lib.hid hL3e
      have H100' := Lib.hid h100
      have HS3 := Lib.hid (Sees.of_own hown3)
      have HB3 := Lib.hid (HB.out.trans (hb3.mono HB.out.size))
      have hL63 : (L3.length : Int) ≤ 9223372036854775807 := by unfold maxLen at h3b; omega
      clear HPUT hwS hL3e h100 hown3 hb3 htake hL3n
      by_cases hcu : (L3.length : Int) ≤ cut
      · go_wp2
        go_roundw
        case rel => exact ⟨k + 1, A3, c3, L3, by omega, by go_num, by rw [HWS.out, if_pos hcu]; simp, rfl, HLE, H100', HS3.out, h3a, h3b, HB3.out⟩
        case measure => simp [intOf]; omega
      · go_wp2
        go_roundw
        case rel => exact ⟨k + 1, A3, c3, L3, by omega, by go_num, by rw [HWS.out, if_neg (by omega)], rfl, HLE, H100', HS3.out, h3a, h3b, HB3.out⟩
        case measure => simp [intOf]; omega
    · obtain rfl : k = ls.length := by omega
      rw [List.take_length] at HL H100
      rw [List.take_length]
      obtain ⟨wk, Hwk⟩ : ∃ wk, Hid (wk = wholeI cut ls) := ⟨_, Lib.hid rfl⟩
      rw [← Hwk.out]
      have HB := Lib.hid hb
      have HCM := Lib.hid hcm
      have HSL := Lib.hid hsL
      have hL63 : (L.length : Int) ≤ 9223372036854775807 := by unfold maxLen at hcm; omega
      have hLs : Hid (L.length = Rc.sizes ls) := Lib.hid (by rw [HL.out, Rc.encs_length])
      have hL2320 : L.length ≤ 2320 := by
        have h4 := sizes_le ls H100.out
        rw [hLs.out]; omega
      clear hb hcm hsL
      by_cases hc0 : cut < 0
      · go_wp2
        go_ret
        exact ⟨rfl, HB.out⟩
      by_cases hc1 : (L.length : Int) < cut
      · go_wp2
        go_ret
        exact ⟨rfl, HB.out⟩
      obtain ⟨d, rfl⟩ : ∃ d : Nat, cut = (d : Int) := ⟨cut.toNat, by omega⟩
      have hdL : d ≤ L.length := by omega
      have hwk : Hid (wk = Rc.whole d ls) := Lib.hid (by rw [Hwk.out]; unfold wholeI; rw [if_neg hc0]; simp)
      obtain ⟨A4, hsl4, hsee4⟩ := run_head (P := Tryd.prog) Tryd.underlying23 (fun w => by exact Tryd.sizeOf5 w) A L.length c d (by omega)
      have hs4 := (hsee4 wr _ L HSL.out).take d
      have hscan := scan_any A4 d c (L.take d) (f : Int) wr (by rw [List.length_take]; omega) (by omega) HCM.out (by rw [List.length_take]; omega) (by omega) hs4 (HT.out.below HB.out (Nat.le_refl _))
      unfold ScanEnd at hscan
      have hval := Rc.scan_encs f ls d qf1 (by omega) (fun b hb => by have := H100.out b hb; omega)
      rw [HL.out, hval, ← hwk.out] at hscan
      obtain ⟨ms, Hms⟩ : ∃ ms, Hid (ms = Rc.zipn f (ls.take wk)) := ⟨_, Lib.hid rfl⟩
      obtain ⟨sz, Hsz⟩ : ∃ sz, Hid (sz = Rc.sizes (ls.take wk)) := ⟨_, Lib.hid rfl⟩
      simp only [← Hms.out, ← Hsz.out] at hscan
      have hwl : wk ≤ ls.length := by rw [hwk.out]; exact Rc.whole_le _ _
      have hml : ms.length = wk := by rw [Hms.out, zipn_length, List.length_take]; omega
      have hszd : sz ≤ d := by rw [Hsz.out, hwk.out]; exact Rc.sizes_whole _ _
      have HSC := Lib.hid hscan
      clear hscan hs4 hsee4 hval
      go_wp2_with fail
      refine HSC.out.mono ?_
      rintro e w5 ⟨A5, c5, rfl, hr5, h5a, h5b, hb5⟩
      have HR5 := Lib.hid hr5
      have HB5 := Lib.hid (HB.out.trans (hb5.mono HB.out.size))
      have hszI : decide ((d : Int) < sz) = false := by simp; omega
      have hszN : decide (d < sz) = false := by simp; omega
      have hmlI : ((ms.length : Int) != (wk : Int)) = false := by rw [hml]; simp
      have HML := Lib.hid hml
      clear HSC hr5 hb5 hsl4 hml
      go_wp2_with fail
      have hml20 : ms.length ≤ 20 := by rw [HML.out]; omega
      go_loopw [12, 13] (fun at_ i wq => ∃ (k m : Nat), k ≤ ms.length ∧ at_ = .int .i64 (m : Int) ∧ i = .int .i64 (k : Int) ∧ Hid (m = Rc.sizes ((ls.take wk).take k)) ∧ m ≤ 2320 ∧ Below w5.heap.size w5 wq) (fun _ i _ => ms.length - (intOf i).toNat)
      case atStart => exact ⟨0, 0, Nat.zero_le _, rfl, rfl, Lib.hid rfl, Nat.zero_le _, Below.refl _ _⟩
      case round =>
        obtain ⟨k, m, hk, rfl, rfl, HM, hm, hbq⟩ := hrel
        by_cases hlt : k < ms.length
        · have hkw : k < (ls.take wk).length := by rw [List.length_take]; have := HML.out; omega
          have hkl : k < ls.length := by rw [List.length_take] at hkw; omega
          have hbw := HB5.out.trans (hbq.mono HB5.out.size)
          obtain ⟨g, o, rfl, hg, hrow⟩ := (HS0.out.below hbw (Nat.le_refl _)) (by intro e; simp [e] at hkl)
          obtain ⟨A', c', hcell, h1, h2, h3⟩ := hrow k hkl
          obtain ⟨g7, B7, d7, rfl, y70, y71, y7a, y7b, y72⟩ := (HR5.out.below hbq).at k hlt
          have hmk : ms[k] = (f + k, ls[k]) := by
            simp only [Hms.out]
            rw [zipn_get f (ls.take wk) k hkw, List.getElem_take]
          rw [hmk] at y70 y71 y7a y72
          obtain ⟨x, Hx⟩ : ∃ x, Hid (x = ls[k]) := ⟨_, Lib.hid rfl⟩
          simp only [← Hx.out] at hcell h1 h3 y70 y71 y7a y72
          have hx100 : x.length ≤ 100 := by rw [Hx.out]; exact H100.out _ (List.getElem_mem hkl)
          have hsk : Hid (Rc.sizes ((ls.take wk).take (k + 1)) = m + (x.length + 16)) := Lib.hid (by
            rw [HM.out, List.take_succ_eq_append_getElem hkw, sizes_snoc, List.getElem_take, ← Hx.out])
          have hsk2 : m + (x.length + 16) ≤ 2320 := by
            rw [← hsk.out]
            have h4 := sizes_le ((ls.take wk).take (k + 1)) (fun b hb => H100.out b (List.mem_of_mem_take (List.mem_of_mem_take hb)))
            have h5 : ((ls.take wk).take (k + 1)).length ≤ 20 := by rw [List.length_take, List.length_take]; omega
            omega
          have v7 := fun q => run_sees_string (P := Tryd.prog) (wr.drewN q) 23 9 5 Tryd.underlying23 Tryd.underlying5 Tryd.underlying9 (Sees.drewN y72 q) x.length d7 rfl
          have v8 := fun q => run_sees_string (P := Tryd.prog) (wr.drewN q) 23 9 5 Tryd.underlying23 Tryd.underlying5 Tryd.underlying9 (Sees.drewN h3 q) x.length c' rfl
          have hfk : ((f + k : Nat) : Int) = (f : Int) + k := by simp
          rw [hfk] at y70
          have hkI : (k : Int) < ms.length := by omega
          have hkI2 : (k : Int) < ls.length := by omega
          have HSZ := Lib.hid (fun w => recSize_any ((f : Int) + k) B7 x.length d7 w (by unfold maxLen; omega) (x.length + 16) (by rw [if_neg (by omega)]))
          have HBQ := Lib.hid hbq
          clear hrow h3 y72 hmk hkw hbw hbq hfk
          go_wp2
          go_quiet (fail)
          have HBN := Lib.hid (below_drewN HBQ.out nq)
          clear HBQ v7 v8
          go_wp2_with fail
          refine (HSZ.out _).mono ?_
          rintro e w7 ⟨rfl, hb7⟩
          have HB7 := Lib.hid (HBN.out.trans (hb7.mono HBN.out.size))
          rw [show ((x.length + 16 : Nat) : Int) = (x.length : Int) + 16 by simp]
          clear hb7 HSZ
          go_wp2
          go_roundw
          case rel => exact ⟨k + 1, m + (x.length + 16), by omega, by simp, by go_num, Lib.hid hsk.out.symm, hsk2, HB7.out⟩
          case measure => simp [intOf]; omega
        · obtain rfl : k = ms.length := by omega
          have hm2 : m = sz := by
            rw [HM.out, Hsz.out, List.take_of_length_le (l := ls.take wk) (by rw [List.length_take]; have := HML.out; omega)]
          subst hm2
          have HB6 := Lib.hid (HB5.out.trans (hbq.mono HB5.out.size))
          clear hbq
          go_wp2
          go_ret
          exact ⟨rfl, HB6.out⟩
end Go.Proofs.YtdnbbnjmdddfdaaDoor
