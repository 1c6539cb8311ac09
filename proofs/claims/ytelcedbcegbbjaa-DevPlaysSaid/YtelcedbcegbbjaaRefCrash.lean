/- The reference's device: Crash. -/
import Derived.Test.YtelcedbcegbbjaaRefRead
namespace Go.Proofs.Ytelcedbcegbbjaa
open Go.RowKit Dk
set_option linter.unusedVariables false

def RefCrashEnd (w : World) (r n sb c : Nat) (dur : List ByteArray) (vk : Value) (tn : Int) (e : Ending) (w' : World) : Prop :=
  e = .returned (.tuple #[]) ∧ RefC w' r n (.slice (some ⟨sb, 0, none⟩) dur.length c) dur (.slice none 0 0) [] true 0 vk tn ∧ Only [r, sb] w w'

set_option maxHeartbeats 4000000 in
set_option maxRecDepth 100000 in
theorem ref_crash_on {w : World} {r n sb c : Nat} {dur : List ByteArray} {vl : Value} {cache : List Wr} {fz : Int} {vk : Value} {tn : Int} (h : RefC w r n (.slice (some ⟨sb, 0, none⟩) dur.length c) dur vl cache false fz vk tn)
    (hc : ∀ w ∈ cache, w.1 < dur.length ∧ w.2.size = 512) (hs : ∀ x ∈ dur, x.size = 512)
    (A : Option Addr) (m cp : Nat) (keep : List Int) (hm : m = keep.length) (hmc : m ≤ cp) (hcm : cp ≤ maxLen) (hk : SeesI w w.heap.size A keep) (hA : ∀ a, A = some a → keep ≠ [] → a.block ≠ sb) (torn : Int) :
    Calls Try.prog 24 #[.pointer (some ⟨r, 0, none⟩), .slice A m cp, .int .i64 torn] w (RefCrashEnd w r n sb c (fallTo keep torn dur cache cache.length) vk tn) := by
  subst hm
  obtain ⟨Al, cl, rfl, l1, l2⟩ := h.vlShape
  obtain ⟨_, c1, _⟩ := h.cells
  have HC := Lib.hid hc
  have HS := Lib.hid hs
  have HD := Lib.hid h
  have HK := Lib.hid hk
  have HA := Lib.hid hA
  unfold maxLen at l2 hcm
  clear hc hs hk h hA
  go_enter Try.func24, Try.ntmps24
  go_wp2
  clear c1
  go_loopw [6] (fun i wr => ∃ k : Nat, k ≤ cache.length ∧ i = .int .i64 k ∧ RefC wr r n (.slice (some ⟨sb, 0, none⟩) (fallTo keep torn dur cache k).length c) (fallTo keep torn dur cache k) (.slice Al cache.length cl) cache false fz vk tn ∧ Only [sb] w wr) (fun i _ => cache.length - (intOf i).toNat)
  case atStart => exact ⟨0, Nat.zero_le _, rfl, HD.out, Only.refl _ _⟩
  case round =>
    clear HD
    obtain ⟨k, hk, rfl, hd, ho⟩ := hrel
    obtain ⟨_, _, c2, c3, _⟩ := hd.cells
    have hfl : (fallTo keep torn dur cache k).length = dur.length := fallTo_length _ _ _ _ _
    have hcap := (own_shape hd.sec)
    by_cases hlt : k < cache.length
    · obtain ⟨cb, c', e, _, _⟩ := hd.vlForm (by omega)
      injection e with e1 e2 e3
      subst e1; subst e3
      clear e2
      obtain ⟨hat', hsz⟩ := HC.out cache[k] (List.getElem_mem hlt)
      have hat : cache[k].1 < (fallTo keep torn dur cache k).length := by rw [hfl]; exact hat'
      have hfs := fallTo_size (keep := keep) (torn := torn) HS.out HC.out k _ (List.getElem_mem hat)
      obtain ⟨f1, f2⟩ := hd.wrAt k hlt
      obtain ⟨g1, fr, s0⟩ := hd.secAt cache[k].1 hat
      have HG := Lib.hid (fallTo_succ keep torn dur cache k hlt)
      obtain ⟨old, HOLD⟩ : ∃ x, Hid (x = (fallTo keep torn dur cache k)[cache[k].1]) := ⟨_, Lib.hid rfl⟩
      have HT : Hid ((fallTo keep torn dur cache k).getD cache[k].1 ByteArray.empty = old) := Lib.hid (by rw [HOLD.out]; simp [List.getD, List.getElem?_eq_getElem hat])
      rw [← HOLD.out] at g1 hfs
      clear HOLD
      obtain ⟨wc, HWC⟩ : ∃ x, Hid (x = cache[k]) := ⟨_, Lib.hid rfl⟩
      rw [← HWC.out] at f1 f2 g1 fr hsz hat hat' HG HT
      obtain ⟨at_, dat⟩ := wc
      have hsz' : dat.size = 512 := hsz
      have h5 : 256 ≤ dat.size := by rw [hsz']; decide
      have h6 : 256 ≤ old.size := by rw [hfs]; decide
      have HFS := Lib.hid hfs
      have i1 : (k : Int) < (cache.length : Int) := by omega
      have i2 : (0 : Int) ≤ (k : Int) := by omega
      have i3 : (at_ : Int) < ((fallTo keep torn dur cache k).length : Int) := by have : at_ < (fallTo keep torn dur cache k).length := hat; omega
      have i4 : (0 : Int) ≤ (at_ : Int) := by omega
      obtain ⟨A0, cc0, e0, q1, q2⟩ := hcap
      injection e0 with e01 e02 e0
      clear e01 e02
      subst e0
      have HKS := Lib.hid (fun j (hj : j < keep.length) => show ∃ g o, A = some ⟨g, o, none⟩ ∧ wr.cell? ⟨g, o + j, none⟩ = some (.int .i64 keep[j]) by
        obtain ⟨g, o, rfl, hg, hcells⟩ := HK.out (List.length_pos_iff.1 (by omega))
        have hne : g ≠ sb := HA.out _ rfl (List.length_pos_iff.1 (by omega))
        exact ⟨g, o, rfl, (ho.cell (a := ⟨g, o + j, none⟩) hg (by simpa using hne)).trans (hcells j hj)⟩)
      have HD := Lib.hid hd
      have HO := Lib.hid ho
      simp only at f1 f2 g1 fr hat'
      obtain ⟨nl, HNL⟩ : ∃ x, Hid (x = (fallTo keep torn dur cache k).length) := ⟨_, Lib.hid rfl⟩
      rw [← HNL.out] at c2 i3 q1
      unfold maxLen at q2
      have i5 : at_ < nl := by omega
      clear hd ho hfl hat hsz hfs hsz' hat'
      go_wp2
      go_loop [7, 8] (fun b t => ∃ j : Nat, j ≤ keep.length ∧ t = .int .i64 j ∧ b = .bool (kept keep j k)) (fun _ t => keep.length - (intOf t).toNat)
      case atStart => exact ⟨0, Nat.zero_le _, rfl, by simp [kept]⟩
      case round =>
        obtain ⟨j, hj, rfl, rfl⟩ := hrel
        by_cases hjl : j < keep.length
        · obtain ⟨g, o, rfl, hcell⟩ := HKS.out j hjl
          have hks := kept_succ keep j hjl k
          obtain ⟨x, HX⟩ : ∃ x, Hid (x = keep[j]) := ⟨_, Lib.hid rfl⟩
          rw [← HX.out] at hcell hks
          have HKK := Lib.hid hks
          clear hks
          have j1 : (j : Int) < (keep.length : Int) := by omega
          have j2 : (0 : Int) ≤ (j : Int) := by omega
          cases hb : kept keep j k
          case true =>
            have HBB := Lib.hid hb
            clear hb
            go_wp2
            go_round
            case rel => exact ⟨j + 1, by omega, by go_num, by rw [HKK.out, HBB.out]; rfl⟩
            case measure => simp [intOf]; omega
          case false =>
            have HBB := Lib.hid hb
            clear hb
            by_cases hxk : x = (k : Int)
            · have hxb : (x == (k : Int)) = true := by simpa using hxk
              have HE : Hid (kept keep (j + 1) k = true) := Lib.hid (by rw [HKK.out, HBB.out]; simp [hxk])
              clear hxk
              go_wp2
              go_round
              case rel => exact ⟨j + 1, by omega, by go_num, by rw [HE.out]⟩
              case measure => simp [intOf]; omega
            · have hxb : (x == (k : Int)) = false := by simpa using hxk
              have hxk' : ¬ (k : Int) = x := fun h => hxk h.symm
              have HE : Hid (kept keep (j + 1) k = false) := Lib.hid (by rw [HKK.out, HBB.out]; simp [hxk'])
              clear hxk'
              clear hxk
              go_wp2
              go_round
              case rel => exact ⟨j + 1, by omega, by go_num, by rw [HE.out]⟩
              case measure => simp [intOf]; omega
        · have hjn : j = keep.length := by omega
          subst hjn
          rw [kept_all]
          clear hjl
          have hl : (fallTo keep torn dur cache (k + 1)).length = (fallTo keep torn dur cache k).length := by rw [fallTo_length, fallTo_length]
          have HL := Lib.hid hl
          clear hl
          cases hin : decide ((k : Int) ∈ keep)
          case true =>
            have hfin : RefC (wr.setCell ⟨sb, at_, none⟩ (.string dat)).drew r n (.slice (some ⟨sb, 0, none⟩) (fallTo keep torn dur cache (k + 1)).length c) (fallTo keep torn dur cache (k + 1)) (.slice (some ⟨cb, 0, none⟩) cache.length cl) cache false fz vk tn ∧ Only [sb] w (wr.setCell ⟨sb, at_, none⟩ (.string dat)).drew := by
              rw [HL.out, HG.out, fallStep, if_pos (of_decide_eq_true hin)]
              exact ⟨(HD.out.put at_ dat).below (Below.refl _ _).drew, (HO.out.setCell (.inl (by simp)) _).trans (Only.of_below (Below.refl _ _).drew)⟩
            have HF := Lib.hid hfin
            clear hfin hin
            go_wp2
            go_still_tail 14, (by kernel_rfl)
            go_wp2
            go_roundw
            case rel => exact ⟨k + 1, by omega, by go_num, HF.out.1, HF.out.2⟩
            case measure => simp [intOf]; omega
          case false =>
            have HIN := Lib.hid (of_decide_eq_false hin)
            clear hin
            by_cases hkt : (k : Int) = torn
            · subst hkt
              obtain ⟨X1, HX1⟩ : ∃ X, Hid (X = dat.extract 0 256) := ⟨_, Lib.hid rfl⟩
              obtain ⟨X2, HX2⟩ : ∃ X, Hid (X = old.extract 256 old.size) := ⟨_, Lib.hid rfl⟩
              have y1 : X1.size ≤ 512 := by rw [HX1.out, ByteArray.size_extract]; omega
              have y2 : X2.size ≤ 512 := by rw [HX2.out, ByteArray.size_extract]; have := HFS.out; omega
              have HXX : Hid (X1 ++ X2 = tear dat old) := Lib.hid (by rw [HX1.out, HX2.out]; exact tear_eq dat old)
              have k1 : ∀ W, (Instr.slice 9 (.string dat) none (some (.int .i64 256)) none).run Try.prog W = .ok (.string X1) W := fun W => by
                rw [HX1.out]; exact run_slice_string_h (P := Try.prog) W 9 dat Try.underlying9 .i64 256 (by decide) (by omega)
              have k2 : ∀ W, (Instr.slice 9 (.string old) (some (.int .i64 256)) none none).run Try.prog W = .ok (.string X2) W := fun W => by
                rw [HX2.out]; exact run_slice_string_l (P := Try.prog) W 9 old Try.underlying9 .i64 256 (by decide) (by omega)
              obtain ⟨X3, HX3⟩ : ∃ X, Hid (X = X1 ++ X2) := ⟨_, Lib.hid rfl⟩
              have k3 : ∀ W, (Op.stringOp .add X1 X2).run Try.prog W = .ok (.string X3) W := fun W => by
                rw [HX3.out]; exact run_string_add (P := Try.prog) W X1 X2 (by omega) (by omega)
              have HX4 : Hid (X3 = tear dat old) := Lib.hid (by rw [HX3.out]; exact HXX.out)
              have hfin : RefC (wr.setCell ⟨sb, at_, none⟩ (.string X3)).drew r n (.slice (some ⟨sb, 0, none⟩) (fallTo keep (k : Int) dur cache (k + 1)).length c) (fallTo keep (k : Int) dur cache (k + 1)) (.slice (some ⟨cb, 0, none⟩) cache.length cl) cache false fz vk tn ∧ Only [sb] w (wr.setCell ⟨sb, at_, none⟩ (.string X3)).drew := by
                rw [HL.out, HG.out, fallStep, if_neg HIN.out, if_pos rfl, HT.out, ← HX4.out]
                exact ⟨(HD.out.put at_ X3).below (Below.refl _ _).drew, (HO.out.setCell (.inl (by simp)) _).trans (Only.of_below (Below.refl _ _).drew)⟩
              have HF := Lib.hid hfin
              clear hfin HX1 HX2 HX3 HXX
              go_wp2
              go_still_tail 24, (by kernel_rfl)
              go_wp2
              go_roundw
              case rel => exact ⟨k + 1, by omega, by go_num, HF.out.1, HF.out.2⟩
              case measure => simp [intOf]; omega
            · have hkd : ((k : Int) == torn) = false := by simpa using hkt
              have hfin : RefC wr r n (.slice (some ⟨sb, 0, none⟩) (fallTo keep torn dur cache (k + 1)).length c) (fallTo keep torn dur cache (k + 1)) (.slice (some ⟨cb, 0, none⟩) cache.length cl) cache false fz vk tn ∧ Only [sb] w wr := by
                rw [HL.out, HG.out, fallStep, if_neg HIN.out, if_neg hkt]
                exact ⟨HD.out, HO.out⟩
              have HF := Lib.hid hfin
              clear hfin hkt
              go_wp2
              go_roundw
              case rel => exact ⟨k + 1, by omega, by go_num, HF.out.1, HF.out.2⟩
              case measure => simp [intOf]; omega
    · have hkn : k = cache.length := by omega
      subst hkn
      obtain ⟨_, d1, d2, d3, d4, d5, d6⟩ := hd.cells
      have p1 := hd.free 1
      have p3 := hd.free 3
      have p4 := hd.free 4
      have key : RefCrashEnd w r n sb c (fallTo keep torn dur cache cache.length) vk tn (.returned (.tuple #[])) (((wr.setCell ⟨r, 3, none⟩ (.slice none 0 0)).setCell ⟨r, 1, none⟩ (.bool true)).setCell ⟨r, 4, none⟩ (.int .i64 0)) :=
        ⟨rfl, ((hd.putWr (.slice none 0 0) [] (World.ownsRow_nil _ _ _ _)).putOff true).putFz 0,
          ((((ho.more (fun b hb => by rw [List.mem_singleton] at hb; simp [hb])).setCell (.inl (by simp)) _).setCell (.inl (by simp)) _).setCell (.inl (by simp)) _)⟩
      have HKY := Lib.hid key
      clear key hd ho hlt hfl hcap
      go_wp2
      go_end0
      exact HKY.out
end Go.Proofs.Ytelcedbcegbbjaa
