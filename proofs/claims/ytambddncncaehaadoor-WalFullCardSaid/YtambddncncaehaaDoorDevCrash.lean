/- The walk of package dev's Crash. -/
import Derived.Test.YtambddncncaehaaDoorDevLose
import Derived.Test.YtambddncncaehaaDoorDevNew
import Derived.StillTailTactics
namespace Go.Proofs.YtambddncncaehaaDoor
open Go.RowKit Dk
set_option linter.unusedVariables false

/-- The slice at A reads the integers l, and lies below block B. -/
def SeesI (w : World) (B : Nat) (A : Option Addr) (l : List Int) : Prop :=
  l ≠ [] → ∃ g o, A = some ⟨g, o, none⟩ ∧ g < B ∧ ∀ j (h : j < l.length), w.cell? ⟨g, o + j, none⟩ = some (.int .i64 l[j])
theorem SeesI.nil (w : World) (B : Nat) (A : Option Addr) : SeesI w B A [] := fun h => absurd rfl h
theorem SeesI.below {w w' : World} {B B' : Nat} {A : Option Addr} {l : List Int} (h : SeesI w B A l) (hb : Below B' w w') (hB : B ≤ B') : SeesI w' B A l := fun hn => by
  obtain ⟨g, o, e, hg, hc⟩ := h hn
  exact ⟨g, o, e, hg, fun j hj => (hb.cell (p := ⟨g, o + j, none⟩) (by show g < B'; omega)).trans (hc j hj)⟩
theorem SeesI.mono {w : World} {B B' : Nat} {A : Option Addr} {l : List Int} (h : SeesI w B A l) (hB : B ≤ B') : SeesI w B' A l := fun hn => by
  obtain ⟨g, o, e, hg, hc⟩ := h hn
  exact ⟨g, o, e, by omega, hc⟩
theorem SeesI.drewN {w : World} {B : Nat} {A : Option Addr} {l : List Int} (h : SeesI w B A l) (q : Nat) : SeesI (w.drewN q) B A l := h
theorem SeesI.of_own {w : World} {base e n : Nat} {A : Option Addr} {c : Nat} {l : List Int} (h : w.ownsRow base e 1 (.slice A n c) n (l.map (Value.int .i64))) : SeesI w w.heap.size A l := fun hn => by
  have hpos : 0 < l.length := List.length_pos_iff.2 hn
  have hl := h.1
  rcases h.2 with ⟨hv, h0⟩ | ⟨g, cap, cur, hv, hb, hg, rest⟩
  · simp at hl; omega
  · injection hv with h1 h2 h3
    subst h1
    refine ⟨g, 0, rfl, (Array.getElem?_eq_some_iff.1 hg).1, fun j hj => ?_⟩
    have := h.cells (g := g) rfl j (.int .i64 l[j]) (by simp [List.getElem?_eq_getElem hj])
    rw [add_to] at this
    exact this

/-- Marks of one's own. -/
def MarkAt (w : World) (b n : Nat) (f : Nat → Bool) : Prop := b < w.heap.size ∧ ∀ j, j < n → w.cell? ⟨b, j, none⟩ = some (.bool (f j)) ∧ w.frozen? ⟨b, j, none⟩ = false
theorem MarkAt.only {w w' : World} {b n : Nat} {f : Nat → Bool} {S : List Nat} (h : MarkAt w b n f) (ho : Only S w w') (hn : b ∉ S) : MarkAt w' b n f :=
  ⟨Nat.lt_of_lt_of_le h.1 ho.size, fun j hj => ⟨(ho.cell (a := ⟨b, j, none⟩) h.1 hn).trans (h.2 j hj).1, (ho.frozen (a := ⟨b, j, none⟩) h.1 hn).trans (h.2 j hj).2⟩⟩
theorem MarkAt.store {w : World} {b n : Nat} {f g : Nat → Bool} (h : MarkAt w b n f) (i : Nat) (hi : i < n) (x : Bool) (hg : ∀ j, j < n → g j = if j = i then x else f j) : MarkAt (w.setCell ⟨b, i, none⟩ (.bool x)) b n g :=
  ⟨by simpa [World.setCell] using h.1, fun j hj => by
    rw [hg j hj]
    refine ⟨?_, (World.frozen?_setCell _ _ _ _).trans (h.2 j hj).2⟩
    by_cases e : j = i
    · subst e
      rw [if_pos rfl]
      exact World.cell?_setCell_same _ _ _ (h.2 j hj).1
    · rw [if_neg e]
      exact (World.cell?_setCell_other _ _ _ _ (fun h => e (by injection h with _ h2 _; omega))).trans (h.2 j hj).1⟩
theorem MarkAt.same {w : World} {b n : Nat} {f g : Nat → Bool} (h : MarkAt w b n f) (hg : ∀ j, j < n → g j = f j) : MarkAt w b n g :=
  ⟨h.1, fun j hj => by rw [hg j hj]; exact h.2 j hj⟩
def kept (keep : List Int) (i : Nat) (j : Nat) : Bool := decide ((j : Int) ∈ keep.take i)
theorem kept_succ (keep : List Int) (i : Nat) (hi : i < keep.length) (j : Nat) : kept keep (i + 1) j = (kept keep i j || decide ((j : Int) = keep[i])) := by
  unfold kept
  rw [List.take_succ_eq_append_getElem hi, Bool.eq_iff_iff, Bool.or_eq_true, decide_eq_true_eq, decide_eq_true_eq, decide_eq_true_eq, List.mem_append, List.mem_singleton]
theorem kept_all (keep : List Int) (j : Nat) : kept keep keep.length j = decide ((j : Int) ∈ keep) := by
  unfold kept; rw [List.take_length]

theorem tear_eq (a b : ByteArray) : a.extract 0 256 ++ b.extract 256 b.size = tear a b := by
  apply ByteArray.ext
  apply Array.toList_inj.1
  rw [ByteArray.data_append, ByteArray.data_extract, ByteArray.data_extract, Array.toList_append, Array.toList_extract, Array.toList_extract]
  show (a.data.toList.drop 0).take (256 - 0) ++ (b.data.toList.drop 256).take (b.size - 256) = a.data.toList.take 256 ++ b.data.toList.drop 256
  rw [List.drop_zero, Nat.sub_zero, List.take_of_length_le (l := b.data.toList.drop 256)]
  rw [List.length_drop]
  exact Nat.le_refl _
theorem Tryd.infoBool : (Tryd.prog.info? 4).map (fun i => (i.zero, i.size, i.bytes)) = some (some (.bool false), 1, 1) := by kernel_rfl

def CrashEnd (w : World) (d sb cap : Nat) (dur : List ByteArray) (e : Ending) (w' : World) : Prop :=
  e = .returned (.tuple #[]) ∧ DevC w' d sb cap dur dur (.slice none 0 0) [] true 0 (.slice none 0 0) 0 ∧ Only [d, sb] w w'

set_option maxHeartbeats 2000000 in
set_option maxRecDepth 100000 in
theorem crash_on {w : World} {d sb cap : Nat} {dur : List ByteArray} {vc : Value} {cache : List Wr} {calls : Nat} {vk : Value} {tn : Int} (h : DevC w d sb cap dur (putAll dur cache) vc cache false calls vk tn) (hvk : ∃ A n c, vk = .slice A n c)
    (hc : ∀ w ∈ cache, w.1 < dur.length ∧ w.2.size = 512) (hs : ∀ x ∈ dur, x.size = 512) (hcl : cache.length ≤ 100000)
    (A : Option Addr) (n c : Nat) (keep : List Int) (hn : n = keep.length) (hnc : n ≤ c) (hcm : c ≤ maxLen) (hk : SeesI w w.heap.size A keep) (torn : Int) :
    Calls Tryd.prog 15 #[.pointer (some ⟨d, 0, none⟩), .slice A n c, .int .i64 torn] w (CrashEnd w d sb cap (fallTo keep torn dur cache cache.length)) := by
  subst hn
  obtain ⟨i0, hi, hz0, hz1, hz2⟩ := info_parts Tryd.infoBool
  obtain ⟨w2, hmk, hown2, hg2⟩ := run_make_full (P := Tryd.prog) (w := w) 0 67 4 i0 _ 1 Tryd.underlying67 hi hz0 hz1 .i64 .i64 cache.length (by rw [hz2]; omega) (by unfold maxLen; omega) (Nat.zero_le _)
  rw [show (Value.bool false).cells = #[Value.bool false] from rfl] at hown2
  rw [toList_madeCells_one, Nat.mul_one] at hown2
  have hb2 : Below w.heap.size w w2 := (Below.refl _ _).grown hg2 (Nat.le_refl _) (fun k hk => by cases hk)
  obtain ⟨kb, HKB⟩ : ∃ kb, Hid (kb = w.heap.size) := ⟨_, Lib.hid rfl⟩
  rw [← HKB.out] at hmk hown2
  have hm2 : MarkAt w2 kb cache.length (kept keep 0) := by
    refine ⟨?_, fun j hj => ⟨?_, hown2.frozenAt j⟩⟩
    · rcases hown2.2 with ⟨hv, _⟩ | ⟨g, cp, cur, hv, _, hg, _⟩
      · cases hv
      · injection hv with h1 h2 h3
        injection h1 with h1
        injection h1 with h1 _ _
        subst h1
        exact (Array.getElem?_eq_some_iff.1 hg).1
    · rw [hown2.cellAt j (by omega), List.getElem?_replicate, if_pos hj]
      simp [kept]
  obtain ⟨Ac, cc, rfl, hc1, hc2⟩ := h.cacheShape
  obtain ⟨c0, c1, c2, c3, c4, c5⟩ := h.cells
  have hd2 := h.below hb2
  obtain ⟨d0, d1, d2, d3, d4, d5⟩ := hd2.cells
  have hlt := h.dlt
  have HC := Lib.hid hc
  have HS := Lib.hid hs
  have HD := Lib.hid hd2
  have HB := Lib.hid hb2
  have HM := Lib.hid hm2
  have HK := Lib.hid hk
  have HV := Lib.hid hvk
  have HN := Lib.hid hcm
  have HL := Lib.hid (⟨h.dlt, h.slt.1⟩ : d < w.heap.size ∧ sb < w.heap.size)
  unfold maxLen at hc2 hcm
  clear hc hs hd2 hb2 hm2 hk hown2 hg2 hi hz0 hz1 hz2 h c0 c3 c4 c5 d0 d3 d4 d5 hvk
  go_enter Tryd.func15, Tryd.ntmps15
  go_wp2
  clear hmk c1 c2
  go_loopw [24] (fun i wr => ∃ k : Nat, k ≤ keep.length ∧ i = .int .i64 k ∧ DevC wr d sb cap dur (putAll dur cache) (.slice Ac cache.length cc) cache false calls vk tn ∧ MarkAt wr kb cache.length (kept keep k) ∧ Below w.heap.size w wr) (fun i _ => keep.length - (intOf i).toNat)
  case atStart => exact ⟨0, Nat.zero_le _, rfl, HD.out, HM.out, HB.out⟩
  case round =>
    clear HD HM HB d1 d2
    obtain ⟨k, hk, rfl, hd, hm, hb⟩ := hrel
    by_cases hlt2 : k < keep.length
    · obtain ⟨g, o, rfl, hg, hcells⟩ := (HK.out.below hb (Nat.le_refl _)) (List.length_pos_iff.1 (by omega))
      have hcell := hcells k hlt2
      clear hcells
      have HKS := Lib.hid (kept_succ keep k hlt2)
      obtain ⟨x, HX⟩ : ∃ x, Hid (x = keep[k]) := ⟨_, Lib.hid rfl⟩
      rw [← HX.out] at hcell HKS
      have HD := Lib.hid hd
      have HM := Lib.hid hm
      have HB := Lib.hid hb
      by_cases x0 : 0 ≤ x
      · by_cases x1 : x < (cache.length : Int)
        · obtain ⟨m, rfl⟩ : ∃ m : Nat, x = (m : Int) := ⟨x.toNat, by omega⟩
          have hml : m < cache.length := by omega
          obtain ⟨e1, e2⟩ := hm.2 m hml
          clear hd hm hb
          go_wp2
          go_roundw
          case rel =>
            refine ⟨k + 1, by omega, by go_num, ?_, ?_, ?_⟩
            · refine HD.out.only (only_setCell _ _ _) ?_ ?_ ?_
              · have := HL.out.1; simp; rw [HKB.out]; omega
              · have := HL.out.2; simp; rw [HKB.out]; omega
              · intro q hq
                have h1 := HM.out.1
                have hne : ∀ k, (Value.slice Ac cache.length cc).ownBlock = some k → k ≠ kb := by
                  intro q hq hqe
                  subst hqe
                  have hw := HD.out.wr
                  rcases hw.2 with ⟨hv, h0⟩ | ⟨g', cp, cur, hv, _, hg', _⟩
                  · omega
                  · rw [hv] at hq
                    simp [Value.ownBlock] at hq
                    subst hq
                    have hcz := HD.out.wr.cells (g := g') (by rw [hv]; rfl) 0 _ (flat2_fst cache 0 (by omega))
                    rw [add_to] at hcz
                    have := (HM.out.2 0 (by omega)).1
                    rw [hcz] at this
                    cases this
                simpa using hne q hq
            · exact HM.out.store m hml true (fun j hj => by rw [HKS.out j]; by_cases e : j = m <;> simp [e] <;> omega)
            · exact HB.out.setCell (by show _ ≤ kb; rw [HKB.out]; exact Nat.le_refl _) _
          case measure => simp [intOf]; omega
        · clear hd hm hb
          go_wp2
          go_roundw
          case rel => exact ⟨k + 1, by omega, by go_num, HD.out, HM.out.same (fun j hj => by rw [HKS.out j]; have : ¬ (j : Int) = x := by omega
                                                                                             simp [this]), HB.out⟩
          case measure => simp [intOf]; omega
      · clear hd hm hb
        have x2 : decide (0 ≤ x) = false := by simpa using x0
        go_wp2
        go_roundw
        case rel => exact ⟨k + 1, by omega, by go_num, HD.out, HM.out.same (fun j hj => by rw [HKS.out j]; have : ¬ (j : Int) = x := by omega
                                                                                           simp [this]), HB.out⟩
        case measure => simp [intOf]; omega
    · have hkn : k = keep.length := by omega
      subst hkn
      obtain ⟨d0, d1, d2, _⟩ := hd.cells
      have hm := hm.same (g := fun (j : Nat) => decide ((j : Int) ∈ keep)) (fun j hj => (kept_all keep j).symm)
      obtain ⟨f, HF⟩ : ∃ f : Nat → Bool, Hid (f = fun (j : Nat) => decide ((j : Int) ∈ keep)) := ⟨_, Lib.hid rfl⟩
      rw [← HF.out] at hm
      have HD := Lib.hid hd
      have HM := Lib.hid hm
      have HB := Lib.hid hb
      clear hd hm hb hlt2 d0 d2
      go_wp2
      clear d1
      obtain ⟨wo, rfl⟩ : ∃ wo : World, wo = wr := ⟨_, rfl⟩
      go_loopw [45] (fun i wr => ∃ k : Nat, k ≤ cache.length ∧ i = .int .i64 k ∧ DevC wr d sb cap (fallTo keep torn dur cache k) (putAll dur cache) (.slice Ac cache.length cc) cache false calls vk tn ∧ MarkAt wr kb cache.length f ∧ Only [sb] w wr) (fun i _ => cache.length - (intOf i).toNat)
      case atStart => exact ⟨0, Nat.zero_le _, rfl, HD.out, HM.out, Only.of_below HB.out⟩
      case round =>
        clear HD HM HB
        obtain ⟨k, hk, rfl, hd, hm, ho⟩ := hrel
        by_cases hlt2 : k < cache.length
        · obtain ⟨cb, c', e, _, _⟩ := hd.cacheForm (by omega)
          injection e with e1 e2 e3
          subst e1; subst e3
          clear e2
          have hfl : (fallTo keep torn dur cache k).length = dur.length := fallTo_length _ _ _ _ _
          obtain ⟨hat', hsz⟩ := HC.out cache[k] (List.getElem_mem hlt2)
          have hat : cache[k].1 < (fallTo keep torn dur cache k).length := by rw [hfl]; exact hat'
          have hfs := fallTo_size (keep := keep) (torn := torn) HS.out HC.out k _ (List.getElem_mem hat)
          obtain ⟨f1, f2⟩ := hd.cacheFst k hlt2
          have g1 := hd.secFst cache[k].1 hat
          obtain ⟨c0, _⟩ := hd.cells
          rw [hfl] at c0
          have fr := hd.secFree (cache[k].1 * 2)
          obtain ⟨s0, s1, s2⟩ := hd.slt
          rw [hfl] at s1
          have dl := hd.dlt
          have kl := hm.1
          obtain ⟨m1, m2⟩ := hm.2 k hlt2
          have hf2 : f k = decide ((k : Int) ∈ keep) := by rw [HF.out]
          have HG := Lib.hid (fallTo_succ keep torn dur cache k hlt2)
          obtain ⟨old, HOLD⟩ : ∃ x, Hid (x = (fallTo keep torn dur cache k)[cache[k].1]) := ⟨_, Lib.hid rfl⟩
          have HT : Hid ((fallTo keep torn dur cache k).getD cache[k].1 ByteArray.empty = old) := Lib.hid (by rw [HOLD.out]; simp [List.getD, List.getElem?_eq_getElem hat])
          rw [← HOLD.out] at g1 hfs
          obtain ⟨wc, HWC⟩ : ∃ x, Hid (x = cache[k]) := ⟨_, Lib.hid rfl⟩
          rw [← HWC.out] at f1 f2 g1 fr hsz hat' HG HT
          obtain ⟨at_, dat⟩ := wc
          have HSZ := Lib.hid hsz
          have HFS := Lib.hid hfs
          have hsz' : 256 ≤ dat.size := by rw [hsz]; decide
          have hfs' : 256 ≤ old.size := by rw [hfs]; decide
          have HD := Lib.hid hd
          have HM := Lib.hid hm
          have HO := Lib.hid ho
          have HKBs : Hid (kb ≠ sb) := Lib.hid (by rw [HKB.out]; have := HL.out.2; omega)
          have HHL := Lib.hid hfl
          clear HOLD
          clear hd hm ho hfl hat hsz hfs
          simp only at f1 f2 g1 fr hat' hsz'
          cases hfk : f k
          case true =>
            rw [hfk] at m1 hf2
            have hin : (k : Int) ∈ keep := of_decide_eq_true hf2.symm
            have HIN := Lib.hid hin
            clear hf2 hin hfk
            go_wp2
            go_quiet (fail)
            go_wp2
            go_roundw
            case rel =>
              refine ⟨k + 1, by omega, by go_num, ?_, ?_, ?_⟩
              · rw [HG.out, fallStep, if_pos HIN.out]
                exact (HD.out.step _ _).putFst at_ dat
              · exact (HM.out.only (S := []) (Only.of_below (below_drewN ((Below.refl _ _).alloc (Nat.le_refl _) _) _)) (by simp)).only (only_setCell _ _ _) (by simpa using HKBs.out)
              · exact ((HO.out.alloc _).drewN _).setCell (.inl (by simp)) _
            case measure => simp [intOf]; omega
          case false =>
            rw [hfk] at m1 hf2
            have hout : ¬ (k : Int) ∈ keep := of_decide_eq_false hf2.symm
            have HOUT := Lib.hid hout
            clear hf2 hout hfk
            by_cases hkt : (k : Int) = torn
            · subst hkt
              go_wp2
              go_quiet (fail)
              go_wp2
              obtain ⟨W, HW⟩ : ∃ W, Hid (W = (wr.alloc (.cells #[.int .i64 (at_ : Int), .string dat] 69)).drewN nq) := ⟨_, Lib.hid rfl⟩
              rw [← HW.out]
              have n1 : W.cell? ⟨wr.heap.size, 1, none⟩ = some (.string dat) := by rw [HW.out]; exact cell_new wr _ rfl _ _ 1
              have bw : Below wr.heap.size wr W := by rw [HW.out]; exact below_drewN ((Below.refl _ _).alloc (Nat.le_refl _) _) _
              have n2 : W.cell? ⟨sb, at_ * 2, none⟩ = some (.string old) := (bw.cell (p := ⟨sb, at_ * 2, none⟩) s0).trans g1
              have n3 : W.frozen? ⟨sb, at_ * 2, none⟩ = false := (bw.frozen (p := ⟨sb, at_ * 2, none⟩) s0).trans fr
              have HBW := Lib.hid bw
              obtain ⟨X1, HX1⟩ : ∃ X, Hid (X = dat.extract 0 256) := ⟨_, Lib.hid rfl⟩
              obtain ⟨X2, HX2⟩ : ∃ X, Hid (X = old.extract 256 old.size) := ⟨_, Lib.hid rfl⟩
              have y1 : X1.size ≤ 512 := by rw [HX1.out, ByteArray.size_extract]; omega
              have y2 : X2.size ≤ 512 := by rw [HX2.out, ByteArray.size_extract]; have := HFS.out; omega
              have HXX : Hid (X1 ++ X2 = tear dat old) := Lib.hid (by rw [HX1.out, HX2.out]; exact tear_eq dat old)
              have k1 : ∀ W, (Instr.slice 9 (.string dat) none (some (.int .i64 256)) none).run Tryd.prog W = .ok (.string X1) W := fun W => by
                rw [HX1.out]; exact run_slice_string_h (P := Tryd.prog) W 9 dat Tryd.underlying9 .i64 256 (by decide) (by omega)
              have k2 : ∀ W, (Instr.slice 9 (.string old) (some (.int .i64 256)) none none).run Tryd.prog W = .ok (.string X2) W := fun W => by
                rw [HX2.out]; exact run_slice_string_l (P := Tryd.prog) W 9 old Tryd.underlying9 .i64 256 (by decide) (by omega)
              obtain ⟨X3, HX3⟩ : ∃ X, Hid (X = X1 ++ X2) := ⟨_, Lib.hid rfl⟩
              have k3 : ∀ W, (Op.stringOp .add X1 X2).run Tryd.prog W = .ok (.string X3) W := fun W => by
                rw [HX3.out]; exact run_string_add (P := Tryd.prog) W X1 X2 (by omega) (by omega)
              have HX4 : Hid (X3 = tear dat old) := Lib.hid (by rw [HX3.out]; exact HXX.out)
              clear bw f1 f2 g1 fr m1 c0 HX1 HX2 HX3 HXX
              go_still_tail 12, (by kernel_rfl)
              go_wp2
              go_roundw
              case rel =>
                have hDW : DevC W d sb cap (fallTo keep (k : Int) dur cache k) (putAll dur cache) (.slice (some ⟨cb, 0, none⟩) cache.length cc) cache false calls vk tn := HD.out.below HBW.out
                refine ⟨k + 1, by omega, by go_num, ?_, ?_, ?_⟩
                · rw [HG.out, fallStep, if_neg HOUT.out, if_pos rfl, HT.out, ← HX4.out]
                  exact (hDW.putFst at_ X3).below (Below.refl _ _).drew
                · exact ((HM.out.only (S := []) (Only.of_below HBW.out) (by simp)).only (only_setCell _ _ _) (by simpa using HKBs.out)).only (S := []) (Only.of_below (Below.refl _ _).drew) (by simp)
                · exact ((HO.out.trans (Only.of_below HBW.out)).setCell (.inl (by simp)) _).trans (Only.of_below (Below.refl _ _).drew)
              case measure => simp [intOf]; omega
            · have hkd : ((k : Int) == torn) = false := by simpa using hkt
              have HKT := Lib.hid hkt
              clear hkt
              go_wp2
              go_quiet (fail)
              go_wp2
              go_roundw
              case rel =>
                refine ⟨k + 1, by omega, by go_num, ?_, ?_, ?_⟩
                · rw [HG.out, fallStep, if_neg HOUT.out, if_neg HKT.out]
                  exact HD.out.step _ _
                · exact HM.out.only (S := []) (Only.of_below (below_drewN ((Below.refl _ _).alloc (Nat.le_refl _) _) _)) (by simp)
                · exact (HO.out.alloc _).drewN _
              case measure => simp [intOf]; omega
        · have hkn : k = cache.length := by omega
          subst hkn
          have hfl : (fallTo keep torn dur cache cache.length).length = dur.length := fallTo_length _ _ _ _ _
          have hlo := lose_any hd (fun w hw => by rw [hfl]; exact (HC.out w hw).1)
          obtain ⟨D, HDD⟩ : ∃ D, Hid (D = fallTo keep torn dur cache cache.length) := ⟨_, Lib.hid rfl⟩
          have hcl : copyTo (putAll dur cache) (fallTo keep torn dur cache cache.length) cache cache.length = fallTo keep torn dur cache cache.length := copyTo_lose _ _ _ _ _
          have HO := Lib.hid ho
          have HLO : Hid (Calls Tryd.prog 30 #[.pointer (some ⟨d, 0, none⟩)] wr fun e w' => e = .returned (.tuple #[]) ∧ DevC w' d sb cap D D (.slice none 0 0) [] false calls vk tn ∧ Only [d, sb] wr w') := Lib.hid (hlo.mono (fun e w' h => by
            obtain ⟨h1, h2, h3⟩ := h
            rw [hcl] at h2
            rw [HDD.out]
            exact ⟨h1, h2, h3⟩))
          rw [← HDD.out]
          clear hd hm ho hlt2 hfl hcl hlo
          go_wp2_with fail
          refine HLO.out.mono ?_
          rintro e w4 ⟨rfl, h4, o4⟩
          obtain ⟨_, _, q2, q3, q4, q5⟩ := h4.cells
          have p2 := h4.free 2
          have p3 := h4.free 3
          have p4 := h4.free 4
          have p5 := h4.free 5
          obtain ⟨Ak, nk, ck, rfl⟩ := HV.out
          have H4 := Lib.hid h4
          have O4 := Lib.hid o4
          clear h4 o4
          have key : CrashEnd w d sb cap D (.returned (.tuple #[])) ((((w4.setCell ⟨d, 3, none⟩ (.int .i64 0)).setCell ⟨d, 4, none⟩ (.slice none 0 0)).setCell ⟨d, 5, none⟩ (.int .i64 0)).setCell ⟨d, 2, none⟩ (.bool true)) :=
            ⟨rfl, (((H4.out.put3 0).put4 (.slice none 0 0)).put5 0).put2 true,
              (((((HO.out.more (fun b hb => by rw [List.mem_singleton] at hb; simp [hb])).trans O4.out).setCell (.inl (by simp)) _).setCell (.inl (by simp)) _).setCell (.inl (by simp)) _).setCell (.inl (by simp)) _⟩
          have HKY := Lib.hid key
          clear key
          go_wp2
          go_end0
          rw [← HDD.out]
          exact HKY.out
end Go.Proofs.YtambddncncaehaaDoor
