/- Match. -/
import Derived.Test.YtpjgacmcpbpklaaDoorUtfGood
import Derived.Test.YtpjgacmcpbpklaaDoorUtfPlc
import Derived.Deep.LoopGhost
import Derived.WalkMore
namespace Go.Proofs.YtpjgacmcpbpklaaDoor
open Go.RowKit
set_option linter.unusedVariables false

def iv (ps : List Nat) : List Value := ps.map fun (k : Nat) => Value.int .i64 (k : Int)
theorem iv_length (ps : List Nat) : (iv ps).length = ps.length := by simp [iv]
theorem iv_append (a b : List Nat) : iv (a ++ b) = iv a ++ iv b := by simp [iv]
theorem iv_one (a : List Nat) : ∀ u ∈ iv a, u.oneCell' = true := by
  intro u hu
  unfold iv at hu
  obtain ⟨x, _, rfl⟩ := List.mem_map.1 hu
  rfl
theorem Tryd.infoInt : (Tryd.prog.info? 3).map (fun i => (i.zero, i.size, i.bytes)) = some (some (.int .i64 0), 1, 8) := by kernel_rfl
theorem Tryd.szInt : ∀ w, (Go.sizeOf 3).run Tryd.prog w = .ok 1 w := fun w => by kernel_rfl
/-- A row of places of one's own. -/
def IRow (w : World) (v : Value) (ps : List Nat) : Prop := VRow w 3 v (iv ps)
theorem IRow.shape {w : World} {v : Value} {ps : List Nat} (h : IRow w v ps) : ∃ A c, v = .slice A ps.length c ∧ ps.length ≤ c ∧ c ≤ maxLen := by
  obtain ⟨A, c, e, h1, h2⟩ := VRow.shape h
  rw [iv_length] at e h1
  exact ⟨A, c, e, h1, h2⟩
theorem IRow.form {w : World} {A : Option Addr} {c : Nat} {ps : List Nat} (h : IRow w (.slice A ps.length c) ps) (hn : 0 < ps.length) : ∃ g, A = some ⟨g, 0, none⟩ ∧ g < w.heap.size ∧ ps.length ≤ c ∧ g ∈ blk (.slice A ps.length c) ∧ ∀ j (hj : j < ps.length), w.cell? ⟨g, j, none⟩ = some (.int .i64 (ps[j] : Int)) := by
  obtain ⟨g, cap, e, h1, h2, h3, h4, h5⟩ := VRow.form h (by rw [iv_length]; exact hn)
  injection e with e1 e2 e3
  subst e1 e3
  rw [iv_length] at h2
  refine ⟨g, rfl, h1, h2, h4, fun j hj => ?_⟩
  rw [h5 j (by rw [iv_length]; exact hj)]
  simp [iv]

/-- Two rows of places, all of it new since w. -/
structure Two (w : World) (v5 : Value) (ps : List Nat) (v6 : Value) (nx : List Nat) (wr : World) : Prop where
  r5 : IRow wr v5 ps
  r6 : IRow wr v6 nx
  apart : Apart (blk v5) (blk v6)
  below : Below w.heap.size w wr
  f5 : ∀ k, k ∈ blk v5 → w.heap.size ≤ k
  f6 : ∀ k, k ∈ blk v6 → w.heap.size ≤ k
section
variable {w wr : World} {v5 v6 : Value} {ps nx : List Nat}
theorem Two.swap (h : Two w v5 ps v6 nx wr) : Two w v6 nx v5 ps wr := ⟨h.r6, h.r5, h.apart.symm, h.below, h.f6, h.f5⟩
theorem Two.head {A : Option Addr} {n c : Nat} (h : Two w v5 ps (.slice A n c) nx wr) : Two w v5 ps (.slice A 0 c) [] wr := by
  obtain ⟨h1, h2⟩ := vrow_head0 h.r6
  exact ⟨h.r5, h1, by rw [h2]; exact h.apart, h.below, h.f5, by rw [h2]; exact h.f6⟩
theorem Two.snoc (h : Two w v5 ps v6 nx wr) (x : Nat) (z : Int) (hz : z = (x : Int)) (hl : nx.length ≤ 10000000000000) :
    ∃ A' c' N w', Hid (N = nx ++ [x]) ∧ (Builtin.append_ #[40, 40] 40 #[v6, .slice (some ⟨wr.heap.size, 0, none⟩) 1 1]).run Tryd.prog (wr.alloc (.cells #[.int .i64 z] 3)) = .ok (.slice A' N.length c') w' ∧ Hid (Two w v5 ps (.slice A' N.length c') N w') := by
  subst hz
  obtain ⟨v', w', hr, h2, h3, h4⟩ := vrow_lit (P := Tryd.prog) wr 40 40 3 (.int .i64 0) 8 Tryd.infoInt Tryd.underlying40 rfl v6 (iv nx) h.r6 (iv [x]) (iv_one [x]) (by simp [iv]) (by rw [iv_length, iv_length]; simp; omega) (by decide) 1 1 rfl
  rw [← iv_append] at h2
  obtain ⟨A', c', rfl, _, _⟩ := IRow.shape h2
  refine ⟨A', c', _, w', Lib.hid rfl, hr, Lib.hid ⟨h.r5.only h3 h.apart, h2, ?_, h.below.trans (h3.below h.below.size h.f6), h.f5, Ranging.grow h.f6 h.below.size h4⟩⟩
  exact (h.apart.symm.grows h4 (fun b hb => h.r5.lt b hb)).symm
end

theorem asc_before {ps : List Nat} (h : U7.Asc ps) (j : Nat) (hj : j < ps.length) : (∀ a ∈ ps.take j, a < ps[j]) ∧ ∀ a ∈ ps.drop (j + 1), ps[j] < a := by
  have hp := List.pairwise_iff_getElem.1 h
  refine ⟨fun a ha => ?_, fun a ha => ?_⟩
  · obtain ⟨i, hi, rfl⟩ := List.getElem_of_mem ha
    rw [List.length_take] at hi
    rw [List.getElem_take]
    exact hp i j (by omega) hj (by omega)
  · obtain ⟨i, hi, rfl⟩ := List.getElem_of_mem ha
    rw [List.length_drop] at hi
    rw [List.getElem_drop]
    exact hp j (j + 1 + i) hj (by omega) (by omega)
theorem asc_len {l : List Nat} (h : U7.Asc l) (n : Nat) (hn : ∀ k ∈ l, k ≤ n) : l.length ≤ n + 1 := by
  have hp := List.pairwise_iff_getElem.1 h
  have key : ∀ i (hi : i < l.length), i ≤ l[i] := by
    intro i
    induction i with
    | zero => intro _; exact Nat.zero_le _
    | succ i ih =>
      intro hi
      have h1 := ih (by omega)
      have h2 := hp i (i + 1) (by omega) hi (by omega)
      omega
  by_cases h0 : l.length = 0
  · omega
  · have h1 := key (l.length - 1) (by omega)
    have h2 := hn _ (List.getElem_mem (by omega : l.length - 1 < l.length))
    omega
theorem nx_len {c : UInt8} {s : ByteArray} {bs nx : List Nat} (h : U7.Nx c s.data.toList bs nx) : nx.length ≤ s.size + 1 := by
  have hl : s.data.toList.length = s.size := rfl
  rw [← hl]
  refine asc_len h.1 _ fun k hk => ?_
  obtain ⟨a, _, hh⟩ := (h.2 k).1 hk
  exact U7.hit_le hh
theorem take_next {ps : List Nat} (j : Nat) (hj : j < ps.length) : ps.take (j + 1) = ps.take j ++ [ps[j]] := List.take_succ_eq_append_getElem hj
theorem take_rest {ps : List Nat} (j : Nat) (hj : j < ps.length) : ps = ps.take j ++ ps[j] :: ps.drop (j + 1) := by
  rw [← List.drop_eq_getElem_cons hj, List.take_append_drop]
theorem star_iff (c : UInt8) : U7.star c = true ↔ c.toNat = 42 ∨ c.toNat = 37 := by
  unfold U7.star
  rw [Bool.or_eq_true, beq_iff_eq, beq_iff_eq]
  constructor
  · rintro (rfl | rfl)
    · exact .inl rfl
    · exact .inr rfl
  · rintro (h | h)
    · exact .inl (UInt8.toNat_inj.1 h)
    · exact .inr (UInt8.toNat_inj.1 h)
def matchEnd (p s : ByteArray) (w : World) (e : Ending) (w' : World) : Prop := e = .returned (.bool (U7.matchL p.data.toList s.data.toList)) ∧ Below w.heap.size w w'

set_option maxHeartbeats 6400000 in
set_option maxRecDepth 100000 in
theorem match_any (p s : ByteArray) (w : World) (hp : p.size ≤ 1000000000) (hs : s.size ≤ 1000000000) (hT : AFold w) :
    Calls Tryd.prog 13 #[.string p, .string s] w (matchEnd p s w) := by
  obtain ⟨p1, HP1, hp1, hc1⟩ := inbox_any p w (by omega) hT
  have HC1 := Lib.hid hc1
  have HT := Lib.hid hT
  clear hc1 hT
  go_enter Tryd.func13, Tryd.ntmps13
  go_wp2_with fail
  refine HC1.out.mono ?_
  rintro e w1 ⟨rfl, hb1⟩
  obtain ⟨s1, HS1, hs1, hc2⟩ := inbox_any s w1 (by omega) (HT.out.below hb1)
  have HC2 := Lib.hid hc2
  clear hc2 HC1
  go_wp2_with fail
  refine HC2.out.mono ?_
  rintro e w2 ⟨rfl, hb2⟩
  have hb : Below w.heap.size w w2 := hb1.trans (hb2.mono hb1.size)
  have hn1 : p1.data.toList.length = p1.size := rfl
  have hn2 : s1.data.toList.length = s1.size := rfl
  obtain ⟨ans, HANS⟩ : ∃ ans, Hid (ans = U7.matchL p.data.toList s.data.toList) := ⟨_, Lib.hid rfl⟩
  have hfin : ans = U7.fits p1.data.toList s1.data.toList s1.data.toList.length := by
    rw [HANS.out, HP1.out, HS1.out]; rfl
  have HFIN := Lib.hid hfin
  clear hfin HC2
  go_wp2
  go_loopw [5, 6, 19] (fun s5 s6 i wr => ∃ (k : Nat) (A5 : Option Addr) (c5 : Nat) (ps : List Nat) (A6 : Option Addr) (c6 : Nat) (nx : List Nat), k ≤ p1.size ∧ i = .int .i64 k ∧ s5 = .slice A5 ps.length c5 ∧ s6 = .slice A6 nx.length c6 ∧ ps ≠ [] ∧
      Hid (Two w (.slice A5 ps.length c5) ps (.slice A6 nx.length c6) nx wr) ∧ Hid (U7.Pl s1.data.toList (U7.fits (p1.data.toList.take k) s1.data.toList) ps)) (fun _ _ i _ => p1.size - (intOf i).toNat)
  case atStart =>
    refine ⟨0, some ⟨w2.heap.size, 0, none⟩, 1, [0], none, 0, [], Nat.zero_le _, rfl, rfl, rfl, by simp, Lib.hid ⟨?_, VRow.nil _ _, fun k _ hk => (by cases hk), ?_, ?_, fun k hk => (by cases hk)⟩, Lib.hid (by rw [List.take_zero]; exact U7.Pl.start _)⟩
    · exact World.ownsRow_lit w2 #[.int .i64 0] 1 (Nat.zero_le _) (by decide) rfl
    · exact hb.trans (((Below.refl w2.heap.size w2).alloc (Nat.le_refl _) _).mono hb.size)
    · intro k hk
      have := mem_blk.1 hk
      simp [Value.ownBlock] at this
      subst this
      exact hb.size
  case round =>
    obtain ⟨k, A5, c5, ps, A6, c6, nx, hk, rfl, rfl, rfl, hps, HTw, HPl⟩ := hrel
    have hpos : 0 < ps.length := List.length_pos_iff.2 hps
    obtain ⟨g, hg, hgw, hgc, hgb, hcell⟩ := IRow.form HTw.out.r5 hpos
    subst hg
    by_cases hlt : k < p1.size
    · obtain ⟨c, hc⟩ : ∃ c : UInt8, p1[k] = c := ⟨_, rfl⟩
      have hck : p1.data.toList[k]'(by omega) = c := hc
      have HCK := Lib.hid hck
      have HT0 := Lib.hid HTw.out.head
      clear hck
      have hasc := fun j hj => asc_before HPl.out.1 j hj
      have hplen : ps.length ≤ s1.size + 1 := by rw [← hn2]; exact asc_len HPl.out.1 _ fun a ha => ((HPl.out.2 a).1 ha).1
      have hple : ∀ a ∈ ps, a ≤ s1.size := fun a ha => ((HPl.out.2 a).1 ha).1
      have htk : p1.data.toList.take (k + 1) = p1.data.toList.take k ++ [c] := by rw [List.take_succ_eq_append_getElem (by omega), HCK.out]
      have hdone : ∀ nx', U7.Nx c s1.data.toList ps nx' → U7.Pl s1.data.toList (U7.fits (p1.data.toList.take (k + 1)) s1.data.toList) nx' := fun nx' h => by
        rw [htk]; exact h.done HPl.out
      have hnone : ∀ nx', U7.Nx c s1.data.toList ps nx' → nx' = [] → ans = false := fun nx' h h0 => by
        subst h0
        have h1 := (hdone [] h).none (q := p1.data.toList.drop (k + 1))
        rw [List.take_append_drop] at h1
        rw [HFIN.out, h1]
      have HASC := Lib.hid hasc
      have HPLE := Lib.hid hple
      have HDONE := Lib.hid hdone
      have HNONE := Lib.hid hnone
      have HCELL := Lib.hid hcell
      clear hasc hple htk hdone hnone hcell
      go_wp2
      go_step3
      go_wp2
      go_step3
      go_wp2
      go_loopw [6, 29] (fun s6 i wr2 => ∃ (j : Nat) (A6 : Option Addr) (c6 : Nat) (nx : List Nat), j ≤ ps.length ∧ i = .int .i64 j ∧ s6 = .slice A6 nx.length c6 ∧
          Hid (Two w (.slice (some ⟨g, 0, none⟩) ps.length c5) ps (.slice A6 nx.length c6) nx wr2) ∧ Hid (U7.Nx c s1.data.toList (ps.take j) nx)) (fun _ i _ => ps.length - (intOf i).toNat)
      case atStart => exact ⟨0, A6, c6, [], Nat.zero_le _, rfl, rfl, HT0, Lib.hid (by rw [List.take_zero]; exact U7.Nx.nil _ _)⟩
      case round =>
        obtain ⟨j, A6, c6, nx, hj, rfl, rfl, HTw2, HNx⟩ := hrel
        by_cases hjl : j < ps.length
        · obtain ⟨g', hg', _, _, _, hcell'⟩ := IRow.form HTw2.out.r5 hpos
          injection hg' with hg'
          injection hg' with hg'
          subst hg'
          obtain ⟨a, ha⟩ : ∃ a, ps[j] = a := ⟨_, rfl⟩
          have hcj := hcell' j hjl
          rw [ha] at hcj
          obtain ⟨hbef, haft⟩ := HASC.out j hjl
          rw [ha] at hbef haft
          have hle := HPLE.out a (by rw [← ha]; exact List.getElem_mem hjl)
          have htn := take_next j hjl
          have htr := take_rest j hjl
          rw [ha] at htn htr
          have HBEF := Lib.hid hbef
          have HAFT := Lib.hid haft
          have HTN := Lib.hid htn
          have HTR := Lib.hid htr
          clear hbef haft htn htr hcell' ha
          cases hst : U7.star c with
          | false =>
            have hns := hst
            rw [← Bool.not_eq_true, star_iff] at hns
            have k42 : ((c.toNat : Int) != 42) = true := by rw [bne_iff_ne]; omega
            have k37 : ((c.toNat : Int) != 37) = true := by rw [bne_iff_ne]; omega
            have HST := Lib.hid hst
            clear hns hst
            by_cases hal : a < s1.size
            · have hlz : (a : Int) < (s1.size : Int) := by omega
              obtain ⟨y, hy⟩ : ∃ y : UInt8, s1[a] = y := ⟨_, rfl⟩
              have hyd : s1.data.toList.getD a 0 = y := by rw [List.getD_eq_getElem?_getD, List.getElem?_eq_getElem (by omega)]; exact hy
              have HYD := Lib.hid hyd
              clear hyd
              by_cases hyc : y = c
              · have kyc : ((y.toNat : Int) == (c.toNat : Int)) = true := by rw [hyc]; simp
                obtain ⟨A7, c7, N, w7, HN, hr7, HTw7⟩ := HTw2.out.snoc (a + 1) ((a : Int) + 1) (by omega) (by have := nx_len HNx.out; omega)
                have HR7 := Lib.hid hr7
                have HNx7 : Hid (U7.Nx c s1.data.toList (ps.take (j + 1)) N) := Lib.hid (by
                  rw [HTN.out, HN.out]
                  exact HNx.out.plain_yes HST.out HBEF.out (by omega) (by rw [HYD.out, hyc]))
                clear hr7 hyc
                go_wp2_with (at_builtin; refine wpList_append_run rfl _ _ 40 rfl _ (.slice A6 nx.length c6) (.slice (some ⟨wr.heap.size, 0, none⟩) 1 1) rfl rfl (.slice A7 N.length c7) w7 (by exact HR7.out) ?_)
                go_wp2
                go_roundw
                case rel => exact ⟨j + 1, A7, c7, N, by omega, by go_num, rfl, HTw7, HNx7⟩
                case measure => simp [intOf]; omega
              · have kyc : ((y.toNat : Int) == (c.toNat : Int)) = false := by
                  rw [beq_eq_false_iff_ne]; intro h; apply hyc; apply UInt8.toNat_inj.1; omega
                have HNx7 : Hid (U7.Nx c s1.data.toList (ps.take (j + 1)) nx) := Lib.hid (by
                  rw [HTN.out]
                  exact HNx.out.plain_no HST.out (fun h => hyc (by rw [← h.2, HYD.out])))
                skip
                go_wp2
                go_roundw
                case rel => exact ⟨j + 1, A6, c6, nx, by omega, by go_num, rfl, HTw2, HNx7⟩
                case measure => simp [intOf]; omega
            · have hlz : ¬ (a : Int) < (s1.size : Int) := by omega
              have HNx7 : Hid (U7.Nx c s1.data.toList (ps.take (j + 1)) nx) := Lib.hid (by
                rw [HTN.out]
                exact HNx.out.plain_no HST.out (fun h => hal (by omega)))
              skip
              go_wp2
              go_roundw
              case rel => exact ⟨j + 1, A6, c6, nx, by omega, by go_num, rfl, HTw2, HNx7⟩
              case measure => simp [intOf]; omega
          | true =>
            have hns := hst
            rw [star_iff] at hns
            have HST := Lib.hid hst
            have HNS := Lib.hid hns
            have hnl := nx_len HNx.out
            have hnle : ∀ b (hb : b ∈ nx), b ≤ s1.size := fun b hb => by
              obtain ⟨x, _, hh⟩ := (HNx.out.2 b).1 hb
              exact U7.hit_le hh
            have HNLE := Lib.hid hnle
            clear hns hst hnle
            -- the test
            by_cases hsk : ∃ b ∈ nx, a ≤ b
            · have hne : nx ≠ [] := by rintro rfl; obtain ⟨b, hb, _⟩ := hsk; cases hb
              have hp6 : 0 < nx.length := List.length_pos_iff.2 hne
              obtain ⟨g6, hg6, hgw6, hgc6, hgb6, hcell6⟩ := IRow.form HTw2.out.r6 hp6
              subst hg6
              have hcl := hcell6 (nx.length - 1) (by omega)
              rw [← List.getLast_eq_getElem hne] at hcl
              obtain ⟨z, hz⟩ : ∃ z, nx.getLast hne = z := ⟨_, rfl⟩
              have hza : a ≤ z := by
                obtain ⟨b, hb, hab⟩ := hsk
                have := U7.asc_last HNx.out.1 hne b hb
                omega
              have hzm : z ∈ nx := by rw [← hz]; exact List.getLast_mem hne
              rw [hz] at hcl
              have hzz : (a : Int) ≤ (z : Int) := by omega
              have hn0 : (0 : Int) < (nx.length : Int) := by omega
              have c1 : (nx.length : Int) - 1 = ((nx.length - 1 : Nat) : Int) := by omega
              have HNx7 : Hid (U7.Nx c s1.data.toList (ps.take (j + 1)) nx) := Lib.hid (by
                rw [HTN.out]
                exact HNx.out.skip HST.out HBEF.out hzm hza)
              clear hsk hcell6 hz hzm hne
              rcases HNS.out with h42 | h37
              · have k42 : ((c.toNat : Int) != 42) = false := by rw [h42]; rfl
                clear h42
                go_wp2
                go_roundw
                case rel => exact ⟨j + 1, _, c6, nx, by omega, by go_num, rfl, HTw2, HNx7⟩
                case measure => simp [intOf]; omega
              · have k42 : ((c.toNat : Int) != 42) = true := by rw [h37]; rfl
                have k37 : ((c.toNat : Int) != 37) = false := by rw [h37]; rfl
                clear h37
                go_wp2
                go_roundw
                case rel => exact ⟨j + 1, _, c6, nx, by omega, by go_num, rfl, HTw2, HNx7⟩
                case measure => simp [intOf]; omega
            · have hlow : ∀ y ∈ nx, y < a := fun y hy => Classical.byContradiction fun h => hsk ⟨y, hy, by omega⟩
              have HLOW := Lib.hid hlow
              have htest : ∀ (hn0 : 0 < nx.length), ∃ (g6 z : Nat), A6 = some ⟨g6, 0, none⟩ ∧ nx.length ≤ c6 ∧ wr.cell? ⟨g6, nx.length - 1, none⟩ = some (.int .i64 (z : Int)) ∧ z < a := fun hn0 => by
                obtain ⟨g6, hg6, _, hgc6, _, hcell6⟩ := IRow.form HTw2.out.r6 hn0
                exact ⟨g6, nx[nx.length - 1], hg6, hgc6, hcell6 (nx.length - 1) (by omega), hlow _ (List.getElem_mem (by omega : nx.length - 1 < nx.length))⟩
              have HTEST := Lib.hid htest
              clear hsk hlow htest
              rcases HNS.out with h42 | h37
              · have k42 : ((c.toNat : Int) != 42) = false := by rw [h42]; rfl
                have e37 : ((c.toNat : Int) == 37) = false := by rw [h42]; rfl
                have HC42 : Hid (c.toNat = 42) := Lib.hid h42
                clear h42
                by_cases hn0 : 0 < nx.length
                · obtain ⟨g6, z, hg6, hgc6, hcl, hza⟩ := HTEST.out hn0
                  subst hg6
                  have hzz : ¬ (a : Int) ≤ (z : Int) := by omega
                  have hn0z : (0 : Int) < (nx.length : Int) := by omega
                  have c1 : (nx.length : Int) - 1 = ((nx.length - 1 : Nat) : Int) := by omega
                  go_wp2
                  go_loopw [6, 10] (fun s6 s10 wr3 => ∃ (x : Nat) (A7 : Option Addr) (c7 : Nat) (l : List Nat), s6 = .slice A7 l.length c7 ∧ s10 = .int .i64 (x : Int) ∧ x ≤ s1.size ∧ Hid (Two w (.slice (some ⟨g, 0, none⟩) ps.length c5) ps (.slice A7 l.length c7) l wr3) ∧ Hid (U7.Mid c s1.data.toList nx a x l)) (fun _ s10 _ => s1.size + 1 - (intOf s10).toNat)
                  case atStart => exact ⟨a, _, c6, nx, rfl, rfl, hle, HTw2, Lib.hid (U7.Mid.start HNx.out (by omega))⟩
                  case round =>
                    obtain ⟨x, A7, c7, l, rfl, rfl, hx, HTw3, HMid⟩ := hrel
                    have hll : l.length ≤ s1.size + 1 := asc_len HMid.out.1 _ fun q hq => by
                      rcases (HMid.out.2.1 q).1 hq with h1 | h1
                      · exact HNLE.out q h1
                      · omega
                    obtain ⟨A8, c8, N, w8, HN, hr8, HTw8⟩ := HTw3.out.snoc x (x : Int) rfl (by omega)
                    have HR8 := Lib.hid hr8
                    clear hr8
                    by_cases hxe : x = s1.size
                    · have kx : ((x : Int) == (s1.size : Int)) = true := by rw [beq_iff_eq]; omega
                      have HNX2 : Hid (U7.Nx c s1.data.toList ps N) := Lib.hid (by
                        have h1 := HMid.out
                        rw [hxe, ← hn2] at h1
                        have h2 := h1.last HNx.out HST.out HLOW.out HAFT.out
                        rw [HN.out, hxe, ← hn2, HTR.out]
                        exact h2)
                      clear hxe
                      by_cases hz : N = []
                      · have hans := HNONE.out N HNX2.out hz
                        have HA : Hid (ans = false) := Lib.hid hans
                        have k0 : ((N.length : Int) == 0) = true := by rw [hz]; rfl
                        clear hans hz
                        go_wp2_with (at_builtin; refine wpList_append_run rfl _ _ 40 rfl _ (.slice A7 l.length c7) (.slice (some ⟨wr.heap.size, 0, none⟩) 1 1) rfl rfl (.slice A8 N.length c8) w8 (by exact HR8.out) ?_)
                        go_wp2
                        rw [Exit.noGoto_ret]
                        go_ret
                        exact ⟨by rw [← HANS.out, HA.out]; rfl, HTw8.out.below⟩
                      · have k0 : ((N.length : Int) == 0) = false := by
                          rw [beq_eq_false_iff_ne]
                          have : 0 < N.length := List.length_pos_iff.2 hz
                          omega
                        have HPD := Lib.hid (HDONE.out N HNX2.out)
                        have HSW := Lib.hid HTw8.out.swap
                        go_wp2_with (at_builtin; refine wpList_append_run rfl _ _ 40 rfl _ (.slice A7 l.length c7) (.slice (some ⟨wr.heap.size, 0, none⟩) 1 1) rfl rfl (.slice A8 N.length c8) w8 (by exact HR8.out) ?_)
                        go_wp2
                        rw [Exit.noGoto_normal]
                        go_wp2
                        go_roundw
                        case rel => exact ⟨k + 1, _, _, N, _, _, ps, by omega, by go_num, rfl, rfl, hz, HSW, HPD⟩
                        case measure => simp [intOf]; omega
                    · have kx : ((x : Int) == (s1.size : Int)) = false := by rw [beq_eq_false_iff_ne]; omega
                      have hxl : x < s1.size := by omega
                      have HMid8 : Hid (U7.Mid c s1.data.toList nx a (x + 1) N) := Lib.hid (by
                        rw [HN.out]
                        exact HMid.out.on HLOW.out (by omega) (.inl (UInt8.toNat_inj.1 HC42.out)))
                      go_wp2_with (at_builtin; refine wpList_append_run rfl _ _ 40 rfl _ (.slice A7 l.length c7) (.slice (some ⟨wr.heap.size, 0, none⟩) 1 1) rfl rfl (.slice A8 N.length c8) w8 (by exact HR8.out) ?_)
                      go_wp2
                      go_roundw
                      case rel => exact ⟨x + 1, A8, c8, N, rfl, by go_num, by omega, HTw8, HMid8⟩
                      case measure => simp [intOf]; omega
                · have hn0z : ¬ (0 : Int) < (nx.length : Int) := by omega
                  go_wp2
                  go_loopw [6, 10] (fun s6 s10 wr3 => ∃ (x : Nat) (A7 : Option Addr) (c7 : Nat) (l : List Nat), s6 = .slice A7 l.length c7 ∧ s10 = .int .i64 (x : Int) ∧ x ≤ s1.size ∧ Hid (Two w (.slice (some ⟨g, 0, none⟩) ps.length c5) ps (.slice A7 l.length c7) l wr3) ∧ Hid (U7.Mid c s1.data.toList nx a x l)) (fun _ s10 _ => s1.size + 1 - (intOf s10).toNat)
                  case atStart => exact ⟨a, _, c6, nx, rfl, rfl, hle, HTw2, Lib.hid (U7.Mid.start HNx.out (by omega))⟩
                  case round =>
                    obtain ⟨x, A7, c7, l, rfl, rfl, hx, HTw3, HMid⟩ := hrel
                    have hll : l.length ≤ s1.size + 1 := asc_len HMid.out.1 _ fun q hq => by
                      rcases (HMid.out.2.1 q).1 hq with h1 | h1
                      · exact HNLE.out q h1
                      · omega
                    obtain ⟨A8, c8, N, w8, HN, hr8, HTw8⟩ := HTw3.out.snoc x (x : Int) rfl (by omega)
                    have HR8 := Lib.hid hr8
                    clear hr8
                    by_cases hxe : x = s1.size
                    · have kx : ((x : Int) == (s1.size : Int)) = true := by rw [beq_iff_eq]; omega
                      have HNX2 : Hid (U7.Nx c s1.data.toList ps N) := Lib.hid (by
                        have h1 := HMid.out
                        rw [hxe, ← hn2] at h1
                        have h2 := h1.last HNx.out HST.out HLOW.out HAFT.out
                        rw [HN.out, hxe, ← hn2, HTR.out]
                        exact h2)
                      clear hxe
                      by_cases hz : N = []
                      · have hans := HNONE.out N HNX2.out hz
                        have HA : Hid (ans = false) := Lib.hid hans
                        have k0 : ((N.length : Int) == 0) = true := by rw [hz]; rfl
                        clear hans hz
                        go_wp2_with (at_builtin; refine wpList_append_run rfl _ _ 40 rfl _ (.slice A7 l.length c7) (.slice (some ⟨wr.heap.size, 0, none⟩) 1 1) rfl rfl (.slice A8 N.length c8) w8 (by exact HR8.out) ?_)
                        go_wp2
                        rw [Exit.noGoto_ret]
                        go_ret
                        exact ⟨by rw [← HANS.out, HA.out]; rfl, HTw8.out.below⟩
                      · have k0 : ((N.length : Int) == 0) = false := by
                          rw [beq_eq_false_iff_ne]
                          have : 0 < N.length := List.length_pos_iff.2 hz
                          omega
                        have HPD := Lib.hid (HDONE.out N HNX2.out)
                        have HSW := Lib.hid HTw8.out.swap
                        go_wp2_with (at_builtin; refine wpList_append_run rfl _ _ 40 rfl _ (.slice A7 l.length c7) (.slice (some ⟨wr.heap.size, 0, none⟩) 1 1) rfl rfl (.slice A8 N.length c8) w8 (by exact HR8.out) ?_)
                        go_wp2
                        rw [Exit.noGoto_normal]
                        go_wp2
                        go_roundw
                        case rel => exact ⟨k + 1, _, _, N, _, _, ps, by omega, by go_num, rfl, rfl, hz, HSW, HPD⟩
                        case measure => simp [intOf]; omega
                    · have kx : ((x : Int) == (s1.size : Int)) = false := by rw [beq_eq_false_iff_ne]; omega
                      have hxl : x < s1.size := by omega
                      have HMid8 : Hid (U7.Mid c s1.data.toList nx a (x + 1) N) := Lib.hid (by
                        rw [HN.out]
                        exact HMid.out.on HLOW.out (by omega) (.inl (UInt8.toNat_inj.1 HC42.out)))
                      go_wp2_with (at_builtin; refine wpList_append_run rfl _ _ 40 rfl _ (.slice A7 l.length c7) (.slice (some ⟨wr.heap.size, 0, none⟩) 1 1) rfl rfl (.slice A8 N.length c8) w8 (by exact HR8.out) ?_)
                      go_wp2
                      go_roundw
                      case rel => exact ⟨x + 1, A8, c8, N, rfl, by go_num, by omega, HTw8, HMid8⟩
                      case measure => simp [intOf]; omega
              · have k42 : ((c.toNat : Int) != 42) = true := by rw [h37]; rfl
                have k37 : ((c.toNat : Int) != 37) = false := by rw [h37]; rfl
                have e37 : ((c.toNat : Int) == 37) = true := by rw [h37]; rfl
                have HC37 : Hid (c.toNat = 37) := Lib.hid h37
                clear h37
                by_cases hn0 : 0 < nx.length
                · obtain ⟨g6, z, hg6, hgc6, hcl, hza⟩ := HTEST.out hn0
                  subst hg6
                  have hzz : ¬ (a : Int) ≤ (z : Int) := by omega
                  have hn0z : (0 : Int) < (nx.length : Int) := by omega
                  have c1 : (nx.length : Int) - 1 = ((nx.length - 1 : Nat) : Int) := by omega
                  go_wp2
                  go_loopw [6, 10] (fun s6 s10 wr3 => ∃ (x : Nat) (A7 : Option Addr) (c7 : Nat) (l : List Nat), s6 = .slice A7 l.length c7 ∧ s10 = .int .i64 (x : Int) ∧ x ≤ s1.size ∧ Hid (Two w (.slice (some ⟨g, 0, none⟩) ps.length c5) ps (.slice A7 l.length c7) l wr3) ∧ Hid (U7.Mid c s1.data.toList nx a x l)) (fun _ s10 _ => s1.size + 1 - (intOf s10).toNat)
                  case atStart => exact ⟨a, _, c6, nx, rfl, rfl, hle, HTw2, Lib.hid (U7.Mid.start HNx.out (by omega))⟩
                  case round =>
                    obtain ⟨x, A7, c7, l, rfl, rfl, hx, HTw3, HMid⟩ := hrel
                    have hll : l.length ≤ s1.size + 1 := asc_len HMid.out.1 _ fun q hq => by
                      rcases (HMid.out.2.1 q).1 hq with h1 | h1
                      · exact HNLE.out q h1
                      · omega
                    obtain ⟨A8, c8, N, w8, HN, hr8, HTw8⟩ := HTw3.out.snoc x (x : Int) rfl (by omega)
                    have HR8 := Lib.hid hr8
                    clear hr8
                    by_cases hxe : x = s1.size
                    · have kx : ((x : Int) == (s1.size : Int)) = true := by rw [beq_iff_eq]; omega
                      have HNX2 : Hid (U7.Nx c s1.data.toList ps N) := Lib.hid (by
                        have h1 := HMid.out
                        rw [hxe, ← hn2] at h1
                        have h2 := h1.last HNx.out HST.out HLOW.out HAFT.out
                        rw [HN.out, hxe, ← hn2, HTR.out]
                        exact h2)
                      clear hxe
                      by_cases hz : N = []
                      · have hans := HNONE.out N HNX2.out hz
                        have HA : Hid (ans = false) := Lib.hid hans
                        have k0 : ((N.length : Int) == 0) = true := by rw [hz]; rfl
                        clear hans hz
                        go_wp2_with (at_builtin; refine wpList_append_run rfl _ _ 40 rfl _ (.slice A7 l.length c7) (.slice (some ⟨wr.heap.size, 0, none⟩) 1 1) rfl rfl (.slice A8 N.length c8) w8 (by exact HR8.out) ?_)
                        go_wp2
                        rw [Exit.noGoto_ret]
                        go_ret
                        exact ⟨by rw [← HANS.out, HA.out]; rfl, HTw8.out.below⟩
                      · have k0 : ((N.length : Int) == 0) = false := by
                          rw [beq_eq_false_iff_ne]
                          have : 0 < N.length := List.length_pos_iff.2 hz
                          omega
                        have HPD := Lib.hid (HDONE.out N HNX2.out)
                        have HSW := Lib.hid HTw8.out.swap
                        go_wp2_with (at_builtin; refine wpList_append_run rfl _ _ 40 rfl _ (.slice A7 l.length c7) (.slice (some ⟨wr.heap.size, 0, none⟩) 1 1) rfl rfl (.slice A8 N.length c8) w8 (by exact HR8.out) ?_)
                        go_wp2
                        rw [Exit.noGoto_normal]
                        go_wp2
                        go_roundw
                        case rel => exact ⟨k + 1, _, _, N, _, _, ps, by omega, by go_num, rfl, rfl, hz, HSW, HPD⟩
                        case measure => simp [intOf]; omega
                    · have kx : ((x : Int) == (s1.size : Int)) = false := by rw [beq_eq_false_iff_ne]; omega
                      have hxl : x < s1.size := by omega
                      obtain ⟨y, hy⟩ : ∃ y : UInt8, s1[x] = y := ⟨_, rfl⟩
                      have hyd : s1.data.toList.getD x 0 = y := by rw [List.getD_eq_getElem?_getD, List.getElem?_eq_getElem (by omega)]; exact hy
                      have HYD := Lib.hid hyd
                      clear hyd
                      by_cases hy47 : y = 47
                      · have k47 : ((y.toNat : Int) == 47) = true := by rw [hy47]; rfl
                        have HNx8 : Hid (U7.Nx c s1.data.toList (ps.take (j + 1)) N) := Lib.hid (by
                          rw [HN.out, HTN.out]
                          exact HMid.out.slash HNx.out HST.out HLOW.out (fun h => by have := HC37.out; rw [h] at this; exact absurd this (by decide)) (by omega) (by rw [HYD.out, hy47]))
                        go_wp2_with (at_builtin; refine wpList_append_run rfl _ _ 40 rfl _ (.slice A7 l.length c7) (.slice (some ⟨wr.heap.size, 0, none⟩) 1 1) rfl rfl (.slice A8 N.length c8) w8 (by exact HR8.out) ?_)
                        go_wp2
                        go_roundw
                        case rel => exact ⟨j + 1, A8, c8, N, by omega, by go_num, rfl, HTw8, HNx8⟩
                        case measure => simp [intOf]; omega
                      · have k47 : ((y.toNat : Int) == 47) = false := by
                          rw [beq_eq_false_iff_ne]; intro h; apply hy47; apply UInt8.toNat_inj.1; have : (47 : UInt8).toNat = 47 := rfl; omega
                        have HMid8 : Hid (U7.Mid c s1.data.toList nx a (x + 1) N) := Lib.hid (by
                          rw [HN.out]
                          exact HMid.out.on HLOW.out (by omega) (.inr (by rw [HYD.out]; exact hy47)))
                        go_wp2_with (at_builtin; refine wpList_append_run rfl _ _ 40 rfl _ (.slice A7 l.length c7) (.slice (some ⟨wr.heap.size, 0, none⟩) 1 1) rfl rfl (.slice A8 N.length c8) w8 (by exact HR8.out) ?_)
                        go_wp2
                        go_roundw
                        case rel => exact ⟨x + 1, A8, c8, N, rfl, by go_num, by omega, HTw8, HMid8⟩
                        case measure => simp [intOf]; omega
                · have hn0z : ¬ (0 : Int) < (nx.length : Int) := by omega
                  go_wp2
                  go_loopw [6, 10] (fun s6 s10 wr3 => ∃ (x : Nat) (A7 : Option Addr) (c7 : Nat) (l : List Nat), s6 = .slice A7 l.length c7 ∧ s10 = .int .i64 (x : Int) ∧ x ≤ s1.size ∧ Hid (Two w (.slice (some ⟨g, 0, none⟩) ps.length c5) ps (.slice A7 l.length c7) l wr3) ∧ Hid (U7.Mid c s1.data.toList nx a x l)) (fun _ s10 _ => s1.size + 1 - (intOf s10).toNat)
                  case atStart => exact ⟨a, _, c6, nx, rfl, rfl, hle, HTw2, Lib.hid (U7.Mid.start HNx.out (by omega))⟩
                  case round =>
                    obtain ⟨x, A7, c7, l, rfl, rfl, hx, HTw3, HMid⟩ := hrel
                    have hll : l.length ≤ s1.size + 1 := asc_len HMid.out.1 _ fun q hq => by
                      rcases (HMid.out.2.1 q).1 hq with h1 | h1
                      · exact HNLE.out q h1
                      · omega
                    obtain ⟨A8, c8, N, w8, HN, hr8, HTw8⟩ := HTw3.out.snoc x (x : Int) rfl (by omega)
                    have HR8 := Lib.hid hr8
                    clear hr8
                    by_cases hxe : x = s1.size
                    · have kx : ((x : Int) == (s1.size : Int)) = true := by rw [beq_iff_eq]; omega
                      have HNX2 : Hid (U7.Nx c s1.data.toList ps N) := Lib.hid (by
                        have h1 := HMid.out
                        rw [hxe, ← hn2] at h1
                        have h2 := h1.last HNx.out HST.out HLOW.out HAFT.out
                        rw [HN.out, hxe, ← hn2, HTR.out]
                        exact h2)
                      clear hxe
                      by_cases hz : N = []
                      · have hans := HNONE.out N HNX2.out hz
                        have HA : Hid (ans = false) := Lib.hid hans
                        have k0 : ((N.length : Int) == 0) = true := by rw [hz]; rfl
                        clear hans hz
                        go_wp2_with (at_builtin; refine wpList_append_run rfl _ _ 40 rfl _ (.slice A7 l.length c7) (.slice (some ⟨wr.heap.size, 0, none⟩) 1 1) rfl rfl (.slice A8 N.length c8) w8 (by exact HR8.out) ?_)
                        go_wp2
                        rw [Exit.noGoto_ret]
                        go_ret
                        exact ⟨by rw [← HANS.out, HA.out]; rfl, HTw8.out.below⟩
                      · have k0 : ((N.length : Int) == 0) = false := by
                          rw [beq_eq_false_iff_ne]
                          have : 0 < N.length := List.length_pos_iff.2 hz
                          omega
                        have HPD := Lib.hid (HDONE.out N HNX2.out)
                        have HSW := Lib.hid HTw8.out.swap
                        go_wp2_with (at_builtin; refine wpList_append_run rfl _ _ 40 rfl _ (.slice A7 l.length c7) (.slice (some ⟨wr.heap.size, 0, none⟩) 1 1) rfl rfl (.slice A8 N.length c8) w8 (by exact HR8.out) ?_)
                        go_wp2
                        rw [Exit.noGoto_normal]
                        go_wp2
                        go_roundw
                        case rel => exact ⟨k + 1, _, _, N, _, _, ps, by omega, by go_num, rfl, rfl, hz, HSW, HPD⟩
                        case measure => simp [intOf]; omega
                    · have kx : ((x : Int) == (s1.size : Int)) = false := by rw [beq_eq_false_iff_ne]; omega
                      have hxl : x < s1.size := by omega
                      obtain ⟨y, hy⟩ : ∃ y : UInt8, s1[x] = y := ⟨_, rfl⟩
                      have hyd : s1.data.toList.getD x 0 = y := by rw [List.getD_eq_getElem?_getD, List.getElem?_eq_getElem (by omega)]; exact hy
                      have HYD := Lib.hid hyd
                      clear hyd
                      by_cases hy47 : y = 47
                      · have k47 : ((y.toNat : Int) == 47) = true := by rw [hy47]; rfl
                        have HNx8 : Hid (U7.Nx c s1.data.toList (ps.take (j + 1)) N) := Lib.hid (by
                          rw [HN.out, HTN.out]
                          exact HMid.out.slash HNx.out HST.out HLOW.out (fun h => by have := HC37.out; rw [h] at this; exact absurd this (by decide)) (by omega) (by rw [HYD.out, hy47]))
                        go_wp2_with (at_builtin; refine wpList_append_run rfl _ _ 40 rfl _ (.slice A7 l.length c7) (.slice (some ⟨wr.heap.size, 0, none⟩) 1 1) rfl rfl (.slice A8 N.length c8) w8 (by exact HR8.out) ?_)
                        go_wp2
                        go_roundw
                        case rel => exact ⟨j + 1, A8, c8, N, by omega, by go_num, rfl, HTw8, HNx8⟩
                        case measure => simp [intOf]; omega
                      · have k47 : ((y.toNat : Int) == 47) = false := by
                          rw [beq_eq_false_iff_ne]; intro h; apply hy47; apply UInt8.toNat_inj.1; have : (47 : UInt8).toNat = 47 := rfl; omega
                        have HMid8 : Hid (U7.Mid c s1.data.toList nx a (x + 1) N) := Lib.hid (by
                          rw [HN.out]
                          exact HMid.out.on HLOW.out (by omega) (.inr (by rw [HYD.out]; exact hy47)))
                        go_wp2_with (at_builtin; refine wpList_append_run rfl _ _ 40 rfl _ (.slice A7 l.length c7) (.slice (some ⟨wr.heap.size, 0, none⟩) 1 1) rfl rfl (.slice A8 N.length c8) w8 (by exact HR8.out) ?_)
                        go_wp2
                        go_roundw
                        case rel => exact ⟨x + 1, A8, c8, N, rfl, by go_num, by omega, HTw8, HMid8⟩
                        case measure => simp [intOf]; omega
        · obtain rfl : j = ps.length := by omega
          have HNX2 : Hid (U7.Nx c s1.data.toList ps nx) := Lib.hid (by have := HNx.out; rwa [List.take_length] at this)
          clear HNx
          by_cases hz : nx = []
          · have hans := HNONE.out nx HNX2.out hz
            have HA : Hid (ans = false) := Lib.hid hans
            have k0 : ((nx.length : Int) == 0) = true := by rw [hz]; rfl
            clear hans hz
            go_wp2
            rw [Exit.noGoto_ret]
            go_ret
            exact ⟨by rw [← HANS.out, HA.out]; rfl, HTw2.out.below⟩
          · have k0 : ((nx.length : Int) == 0) = false := by
              rw [beq_eq_false_iff_ne]
              have : 0 < nx.length := List.length_pos_iff.2 hz
              omega
            have HPD := Lib.hid (HDONE.out nx HNX2.out)
            have HSW := Lib.hid HTw2.out.swap
            go_wp2
            rw [Exit.noGoto_normal]
            go_wp2
            go_roundw
            case rel => exact ⟨k + 1, _, _, nx, _, _, ps, by omega, by go_num, rfl, rfl, hz, HSW, HPD⟩
            case measure => simp [intOf]; omega
    · obtain rfl : k = p1.size := by omega
      have hlast := HPl.out
      rw [List.take_of_length_le (by omega)] at hlast
      have hfin := hlast.final hps
      rw [← HFIN.out] at hfin
      have hgl : ps.getLast hps = ps[ps.length - 1]'(by omega) := List.getLast_eq_getElem hps
      have hcl := hcell (ps.length - 1) (by omega)
      rw [← hgl] at hcl
      obtain ⟨z, hz⟩ : ∃ z, ps.getLast hps = z := ⟨_, rfl⟩
      rw [hz] at hcl hfin
      have hplen : ps.length ≤ s1.size + 1 := by rw [← hn2]; exact asc_len HPl.out.1 _ fun a ha => ((HPl.out.2 a).1 ha).1
      have HF := Lib.hid hfin
      have c1 : (ps.length : Int) - 1 = ((ps.length - 1 : Nat) : Int) := by omega
      clear hlast hfin hgl hcell hz
      go_wp2
      go_ret
      refine ⟨?_, HTw.out.below⟩
      rw [← HANS.out, ← HF.out]
      have e : ((z : Int) == (s1.size : Int)) = (z == s1.data.toList.length) := by rw [Bool.eq_iff_iff, beq_iff_eq, beq_iff_eq]; omega
      rw [← e]
      rfl
end Go.Proofs.YtpjgacmcpbpklaaDoor
