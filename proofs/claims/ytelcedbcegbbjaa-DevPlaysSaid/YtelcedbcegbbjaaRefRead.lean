/- The reference's device: On, Unsafe, Read, Flush. -/
import Derived.Test.YtelcedbcegbbjaaRef
import Derived.StillTailTactics
namespace Go.Proofs.Ytelcedbcegbbjaa
open Go.RowKit Dk
set_option linter.unusedVariables false

theorem ref_on {G : List Nat} {r : Nat} {S : Disk} (w : World) (h : RefM w G r S) : Calls Try.prog 25 #[.pointer (some ⟨r, 0, none⟩)] w (RefEnd G r S.on (.tuple #[]) w) := by
  obtain ⟨vs, vl, vk, fz, tn, h1, h2, h3, h4, h5, h6, h7, h8, h9, h10, h11, h12, h13⟩ := h
  obtain ⟨_, hc, _⟩ := h1.cells
  have hf := h1.free 1
  have hO : Only G w (w.setCell ⟨r, 1, none⟩ (.bool false)) := (Only.refl _ _).setCell (.inl h7) _
  have key : RefEnd G r S.on (.tuple #[]) w (.returned (.tuple #[])) (w.setCell ⟨r, 1, none⟩ (.bool false)) :=
    ⟨rfl, G, ⟨vs, vl, vk, fz, tn, h1.putOff false, h2, h3, h4, h5, fun h => ⟨(h6 h).1, own_only (h6 h).2.1 (only_setCell w _ _) (fun k hk => by simpa using own_ne (h6 h).2.1 h1.blk (by decide) k hk), (h6 h).2.2⟩, h7, h8, h9, fun b hb => Nat.lt_of_lt_of_le (h10 b hb) hO.size, h11.on, h12, h13⟩, hO, Grows.refl _ _⟩
  have HK := Lib.hid key
  clear key h1 h2 h3 h4 h5 h6 h7 h8 h9 h10 h11 h12 h13 hO
  go_enter Try.func25, Try.ntmps25
  go_wp2
  go_end0
  exact HK.out
theorem ref_unsafe {G : List Nat} {r : Nat} {S : Disk} (w : World) (h : RefM w G r S) : Calls Try.prog 27 #[.pointer (some ⟨r, 0, none⟩)] w fun e w' => e = .returned (.int .i64 (S.cache.length : Int)) ∧ w = w' := by
  obtain ⟨vs, vl, vk, fz, tn, h1, _⟩ := h
  obtain ⟨A, c, rfl, h2, h3⟩ := h1.vlShape
  obtain ⟨_, _, _, hc, _⟩ := h1.cells
  clear h1
  unfold maxLen at h3
  go_enter Try.func27, Try.ntmps27
  go_wp2
  go_ret
  exact ⟨rfl, rfl⟩

/-- What was written last to a sector, the first k writes seen to. -/
def lastTo (D : List ByteArray) (c : List Wr) (i : Nat) : Nat → ByteArray
  | 0 => D.getD i ByteArray.empty
  | k + 1 => match c[k]? with
    | none => lastTo D c i k
    | some w => if w.1 = i then w.2 else lastTo D c i k
theorem lastTo_eq (D : List ByteArray) (c : List Wr) (i : Nat) (hi : i < D.length) (k : Nat) (hk : k ≤ c.length) : (putAll D (c.take k))[i]? = some (lastTo D c i k) := by
  induction k with
  | zero => simp [lastTo, putAll, List.getD, List.getElem?_eq_getElem hi]
  | succ k ih =>
    have hk' : k < c.length := by omega
    rw [List.take_succ_eq_append_getElem hk', putAll_snoc, lastTo, List.getElem?_eq_getElem hk']
    by_cases e : c[k].1 = i
    · simp only [e, if_true]
      rw [List.getElem?_set_self (by rw [putAll_length]; exact hi)]
    · simp only [e, if_false]
      rw [List.getElem?_set_ne e]
      exact ih (by omega)
theorem lastTo_succ (D : List ByteArray) (c : List Wr) (i k : Nat) (hk : k < c.length) : lastTo D c i (k + 1) = if c[k].1 = i then c[k].2 else lastTo D c i k := by
  rw [lastTo, List.getElem?_eq_getElem hk]

set_option maxHeartbeats 1000000 in
theorem ref_read {G : List Nat} {r : Nat} {S : Disk} (at_ : Int) (w : World) (h : RefM w G r S) : Calls Try.prog 22 #[.pointer (some ⟨r, 0, none⟩), .int .i64 at_] w (ReadEnd S at_ w) := by
  have hok := h.ok
  obtain ⟨vs, vl, vk, fz, tn, h1, h2, h3, h4, h5, h6, h7, h8, h9, h10, h11, h12, h13⟩ := h
  obtain ⟨c0, hc, c2, c3, _⟩ := h1.cells
  cases ho : S.off
  case true =>
    rw [ho] at hc
    have key : ReadEnd S at_ w (.returned (.tuple #[.slice none 0 0, .int .i64 7])) w := ⟨none, 0, 0, by simp [Disk.readE, ho], by simp [Disk.readV, ho], Nat.le_refl _, Nat.zero_le _, by simp [Disk.readV, ho, Sees.nil], Below.refl _ _, fun h => absurd h (by simp [Disk.readE, ho])⟩
    have HK := Lib.hid key
    clear key ho h1 h2 h3 h4 h5 h6 h7 h8 h9 h10 h11 h12 h13 c0 c2 c3 hok
    go_enter Try.func22, Try.ntmps22
    go_wp2
    go_ret2
    exact HK.out
  case false =>
    rw [ho] at hc
    by_cases b1 : 0 ≤ at_
    · by_cases b2 : at_ < (S.dur.length : Int)
      · obtain ⟨i, rfl⟩ : ∃ i : Nat, at_ = (i : Int) := ⟨at_.toNat, by omega⟩
        have hi : i < S.dur.length := by omega
        have hb : S.has (i : Int) = true := by unfold Disk.has; simp; omega
        obtain ⟨sb, c, rfl, k1, k2⟩ := h1.vsForm (by omega)
        obtain ⟨g1, _, _⟩ := h1.secAt i hi
        obtain ⟨Al, cl, rfl, l1, l2⟩ := h1.vlShape
        have HC := Lib.hid (fun k (hk : k < S.cache.length) => show ∃ cb, Al = some ⟨cb, 0, none⟩ ∧ w.cell? ⟨cb, k * 2, none⟩ = some (.int .i64 (S.cache[k].1 : Int)) ∧ w.cell? ⟨cb, k * 2 + 1, none⟩ = some (.string S.cache[k].2) by
          obtain ⟨cb, c', e, _, _⟩ := h1.vlForm (by omega)
          injection e with e1 e2 e3
          subst e1; subst e3
          exact ⟨cb, rfl, h1.wrAt k hk⟩)
        have hs0 : S.dur[i] = lastTo S.dur S.cache i 0 := by simp [lastTo, List.getD, List.getElem?_eq_getElem hi]
        rw [hs0] at g1
        have hlast := lastTo_eq S.dur S.cache i hi S.cache.length (Nat.le_refl _)
        rw [List.take_length] at hlast
        have hsz : (lastTo S.dur S.cache i S.cache.length).size = 512 := putAll_size hok.sec (fun w hw => (hok.wr w hw).2) _ (List.mem_of_getElem? hlast)
        have hv : S.readV (i : Int) = (lastTo S.dur S.cache i S.cache.length).data.toList := by
          unfold Disk.readV
          rw [ho, hb]
          simp only [cond_false, cond_true, Disk.last, Int.toNat_natCast, List.getD, hlast, Option.getD_some]
        have he : S.readE (i : Int) = 0 := by simp [Disk.readE, ho, hb]
        have HV := Lib.hid (⟨hv, he, hsz⟩ : _ ∧ _ ∧ _)
        have HLT := Lib.hid (lastTo_succ S.dur S.cache i)
        have hbb : (i : Int) < (S.dur.length : Int) := b2
        unfold maxLen at k2 l2
        clear h1 h2 h3 h4 h5 h6 h7 h8 h9 h10 h11 h12 hok hs0 hlast hsz hv he hb ho
        go_enter Try.func22, Try.ntmps22
        go_wp2
        go_loop [6, 7] (fun s t => ∃ k : Nat, k ≤ S.cache.length ∧ t = .int .i64 k ∧ s = .string (lastTo S.dur S.cache i k)) (fun _ t => S.cache.length - (intOf t).toNat)
        case atStart => exact ⟨0, Nat.zero_le _, rfl, rfl⟩
        case round =>
          obtain ⟨k, hk, rfl, rfl⟩ := hrel
          clear g1
          by_cases hlt : k < S.cache.length
          · obtain ⟨cb, rfl, f1, f2⟩ := HC.out k hlt
            have HS := Lib.hid (HLT.out k hlt)
            obtain ⟨wc, HWC⟩ : ∃ x, Hid (x = S.cache[k]) := ⟨_, Lib.hid rfl⟩
            rw [← HWC.out] at f1 f2 HS
            obtain ⟨a1, dat⟩ := wc
            simp only at f1 f2
            have i1 : (k : Int) < (S.cache.length : Int) := by omega
            have i2 : (0 : Int) ≤ (k : Int) := by omega
            by_cases hai : a1 = i
            · have haib : (((a1 : Int)) == (i : Int)) = true := by simp; omega
              have hn : lastTo S.dur S.cache i (k + 1) = dat := HS.out.trans (if_pos hai)
              have HN := Lib.hid hn
              clear hn hai
              go_wp2
              go_round
              case rel => exact ⟨k + 1, by omega, by go_num, by rw [HN.out]⟩
              case measure => simp [intOf]; omega
            · have haib : (((a1 : Int)) == (i : Int)) = false := by simp; omega
              have hn : lastTo S.dur S.cache i (k + 1) = lastTo S.dur S.cache i k := HS.out.trans (if_neg hai)
              have HN := Lib.hid hn
              clear hn hai
              go_wp2
              go_round
              case rel => exact ⟨k + 1, by omega, by go_num, by rw [HN.out]⟩
              case measure => simp [intOf]; omega
          · have hkn : k = S.cache.length := by omega
            subst hkn
            obtain ⟨s, HSS⟩ : ∃ s, Hid (s = lastTo S.dur S.cache i S.cache.length) := ⟨_, Lib.hid rfl⟩
            obtain ⟨cp, w2, hrun, hrow, hbel, hz, hcap, hcm⟩ := run_bytes_row (P := Try.prog) w 9 28 5 s Try.underlying9 Try.underlying28 Try.underlying5
            have key : ReadEnd S (i : Int) w (.returned (.tuple #[.slice (some ⟨w.heap.size, 0, none⟩) s.size cp, .int .i64 0])) w2 := by
              obtain ⟨hv, he, hsz⟩ := HV.out
              rw [← HSS.out] at hv hsz
              exact ⟨_, _, _, by rw [he], by rw [hv]; rfl, hcap, hcm (by rw [hsz]; decide), by rw [hv]; exact hrow.sees.mono (by omega), hbel, fun _ => ⟨_, rfl, Nat.le_refl _, by omega⟩⟩
            have HK := Lib.hid key
            rw [← HSS.out]
            clear key hrow hbel hz hcap hcm hlt
            go_wp2
            go_ret2
            exact HK.out
      · have hb : S.has at_ = false := by unfold Disk.has; simp [b2]
        have key : ReadEnd S at_ w (.returned (.tuple #[.slice none 0 0, .int .i64 1])) w := ⟨none, 0, 0, by simp [Disk.readE, ho, hb], by simp [Disk.readV, ho, hb], Nat.le_refl _, Nat.zero_le _, by simp [Disk.readV, ho, hb, Sees.nil], Below.refl _ _, fun h => absurd h (by simp [Disk.readE, ho, hb])⟩
        have HK := Lib.hid key
        clear key ho hb h1 h2 h3 h4 h5 h6 h7 h8 h9 h10 h11 h12 c2 c3 hok
        go_enter Try.func22, Try.ntmps22
        go_wp2
        go_ret2
        exact HK.out
    · have hb : S.has at_ = false := by unfold Disk.has; simp [b1]
      have key : ReadEnd S at_ w (.returned (.tuple #[.slice none 0 0, .int .i64 1])) w := ⟨none, 0, 0, by simp [Disk.readE, ho, hb], by simp [Disk.readV, ho, hb], Nat.le_refl _, Nat.zero_le _, by simp [Disk.readV, ho, hb, Sees.nil], Below.refl _ _, fun h => absurd h (by simp [Disk.readE, ho, hb])⟩
      have HK := Lib.hid key
      clear key ho hb h1 h2 h3 h4 h5 h6 h7 h8 h9 h10 h11 h12 c2 c3 hok
      have b3 : at_ < 0 := by omega
      go_enter Try.func22, Try.ntmps22
      go_wp2
      go_ret2
      exact HK.out
end Go.Proofs.Ytelcedbcegbbjaa
