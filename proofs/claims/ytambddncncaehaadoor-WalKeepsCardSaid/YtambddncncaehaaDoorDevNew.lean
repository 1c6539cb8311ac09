/- The walks of package dev's New, slices.Repeat at it. -/
import Derived.Test.YtambddncncaehaaDoorDevRead
import Derived.Test.YtambddncncaehaaDoorDevCopy
import Derived.StillTailTactics
import Derived.Outline
import Derived.IntWalk
import Derived.Deep.RegionHeld3
import Derived.Deep.DrawnRows
namespace Go.Proofs.YtambddncncaehaaDoor
open Go.RowKit Dk
set_option linter.unusedVariables false

theorem Tryd.infoSec : (Tryd.prog.info? 49).map (fun i => (i.zero, i.size, i.bytes)) = some (some (.agg #[.string ByteArray.empty, .string ByteArray.empty]), 2, 32) := by kernel_rfl
theorem Tryd.infoByte : (Tryd.prog.info? 5).map (fun i => (i.zero, i.size, i.bytes)) = some (some (.int .u8 0), 1, 1) := by kernel_rfl

theorem sec_tail (g n k : Nat) (hk : k < n) (W : World) : (Instr.slice 50 (.slice (some ⟨g, 0, none⟩) n n) (some (.int .i64 (k : Int))) none none).run Tryd.prog W = .ok (.slice (some ⟨g, k * 2, none⟩) (n - k) (n - k)) W := by
  have ht : Tryd.prog.underlying 50 = some (.slice (Tryd.prog.elem 50)) := by simp [Program.elem, Tryd.underlying50]
  have he : Tryd.prog.elem 50 = 49 := by simp [Program.elem, Tryd.underlying50]
  have hz : (Go.sizeOf 49).run Tryd.prog W = .ok 2 W := by kernel_rfl
  rw [run_slice_l W _ _ _ _ ht .i64 _ (by omega) (by omega), he, hz]
  simp [Result.andThen, sliced, add_to]
  intro h; omega
theorem sec_head (g n k : Nat) (hk : k ≤ n) (hn : 0 < n) (W : World) : (Instr.slice 50 (.slice (some ⟨g, 0, none⟩) n n) none (some (.int .i64 (k : Int))) none).run Tryd.prog W = .ok (.slice (some ⟨g, 0, none⟩) k n) W := by
  have ht : Tryd.prog.underlying 50 = some (.slice (Tryd.prog.elem 50)) := by simp [Program.elem, Tryd.underlying50]
  have he : Tryd.prog.elem 50 = 49 := by simp [Program.elem, Tryd.underlying50]
  have hz : (Go.sizeOf 49).run Tryd.prog W = .ok 2 W := by kernel_rfl
  rw [run_slice_h W _ _ _ _ ht .i64 _ (by omega) (by omega), he, hz]
  simp [Result.andThen, sliced, add_to]

set_option maxRecDepth 100000 in
/-- Repeat of one element whose two cells are one value. -/
theorem repeat_any (s : ByteArray) (b : Nat) (n : Nat) (h1 : 1 ≤ n) (h2 : n ≤ 8192) (w : World) (hc0 : w.cell? ⟨b, 0, none⟩ = some (.string s)) (hc1 : w.cell? ⟨b, 1, none⟩ = some (.string s)) :
    Calls Tryd.prog 22 #[.slice (some ⟨b, 0, none⟩) 1 1, .int .i64 (n : Int)] w fun e w' => e = .returned (.slice (some ⟨w.heap.size, 0, none⟩) n n) ∧ Filled w' w.heap.size 49 n n (.string s) ∧ Below w.heap.size w w' := by
  obtain ⟨i0, hi, hz0, hz1, hz2⟩ := info_parts Tryd.infoSec
  have hsz : (Tryd.prog.info? 49).map (·.size) = some 2 := by rw [hi]; simp [hz1]
  obtain ⟨w2, hmk, hown2, hg2⟩ := run_make_full (P := Tryd.prog) (w := w) 0 50 49 i0 _ 2 Tryd.underlying50 hi hz0 hz1 .i64 .i64 n (by rw [hz2]; omega) (by unfold maxLen; omega) (Nat.zero_le _)
  have hb2 : Below w.heap.size w w2 := (Below.refl _ _).grown hg2 (Nat.le_refl _) (fun k hk => by cases hk)
  have hsrc2 : w2.cell? ⟨b, 0, none⟩ = some (.string s) ∧ w2.cell? ⟨b, 1, none⟩ = some (.string s) := by
    have hlt : b < w.heap.size := World.block_lt_of_cell? w _ hc0
    exact ⟨(hb2.cell (p := ⟨b, 0, none⟩) hlt).trans hc0, (hb2.cell (p := ⟨b, 1, none⟩) hlt).trans hc1⟩
  obtain ⟨cur, hcur, hcs⟩ : ∃ cur : Array Value, w2.heap[w.heap.size]? = some (.cells cur 49 (0, 0)) ∧ cur.size = n * 2 := by
    rcases hown2.2 with ⟨hv, _⟩ | ⟨g, cp, cur, hv, _, hg, _, _, hs, _⟩
    · cases hv
    · injection hv with h1 h2 h3
      injection h1 with h1
      injection h1 with h1 _ _
      subst h1; subst h3
      exact ⟨cur, hg, hs⟩
  have hcp := run_copy_row2 (P := Tryd.prog) w2 50 50 3 49 w.heap.size 0 n n ⟨b, 0, none⟩ 1 1 1 cur 49 (List.replicate (1 * 2) (Value.string s)) Tryd.underlying50 hsz hcur (by show 1 = min 1 n; omega) (by simp)
    (fun j v hj => by
      rw [add_to, Nat.zero_add]
      match j, hj with
      | 0, hj => simp at hj; subst hj; exact hsrc2.1
      | 1, hj => simp at hj; subst hj; exact hsrc2.2
      | j + 2, hj => simp at hj) (by simp; omega) (by intro v hv; rw [(List.mem_replicate.1 hv).2]; rfl)
  have hf1 := Filled.copy (k := 0) (z := .string s) hcur hcs (fun j hj => by omega) 1 (by omega)
  rw [Nat.zero_mul] at hf1
  obtain ⟨w3, hw3⟩ : ∃ w3, w3 = w2.setRow w.heap.size (cur.toList.take 0 ++ List.replicate (1 * 2) (Value.string s) ++ cur.toList.drop (0 + (List.replicate (1 * 2) (Value.string s)).length)).toArray := ⟨_, rfl⟩
  have hb3 : Below w.heap.size w w3 := by rw [hw3]; exact below_setRow hb2 (Nat.le_refl _) _
  rw [← hw3] at hf1 hcp
  unfold goInt at hcp
  have HF1 := Lib.hid hf1
  have HB3 := Lib.hid hb3
  have HSZ := Lib.hid hsz
  have hmul := fun w => Tryd.bits_Mul 1 n (by omega) (by omega) w
  have e1 : (1 * n / 18446744073709551616 : Nat) = 0 := by omega
  have e2 : (1 * n % 18446744073709551616 : Nat) = n := by omega
  rw [e1, e2] at hmul
  obtain ⟨N, HN⟩ : ∃ N, Hid (N = w.heap.size) := ⟨_, Lib.hid rfl⟩
  rw [← HN.out] at hmk hcp HF1 HB3 ⊢
  have htl := fun k (hk : k < n) => sec_tail N n k hk
  have hhd := fun k (hk : k ≤ n) => sec_head N n k hk (by omega)
  have HTL := Lib.hid htl
  have HHD := Lib.hid hhd
  obtain ⟨w0, hw0⟩ : ∃ w0, w0 = w := ⟨_, rfl⟩
  rw [← hw0] at HB3 ⊢
  have hd1 : decide (9223372036854775807 < (n : Int)) = false := by simp; omega
  have hd2 : decide ((n : Int) < 0) = false := by simp
  clear hw3 hcur hf1 hb3 hsrc2 e1 e2 hown2 hg2 hb2 hc0 hc1 hsz hcs htl hhd hi hz0 hz1 hz2
  go_enter Tryd.func22, Tryd.ntmps22
  go_wp2_with (go_at_call 32; refine (hmul _).mono ?_; rintro e w' ⟨rfl, rfl⟩)
  go_loopw [8] (fun m wr => ∃ k : Nat, 1 ≤ k ∧ k ≤ n ∧ m = .int .i64 k ∧ Filled wr N 49 n k (.string s) ∧ Below N w0 wr) (fun m _ => n - (intOf m).toNat)
  case atStart => exact ⟨1, Nat.le_refl _, h1, rfl, HF1.out, HB3.out⟩
  case round =>
    obtain ⟨k, hk1, hk2, rfl, hf, hb⟩ := hrel
    clear hcp hmk
    by_cases hlt : k < n
    · obtain ⟨cur, hcur, hcs, hck⟩ := hf
      obtain ⟨m, hm⟩ : ∃ m, m = Nat.min k (n - k) := ⟨_, rfl⟩
      have hm1 : 1 ≤ m := by rw [hm, Nat.le_min]; omega
      have hm2 : k + m ≤ n := by have : m ≤ n - k := by rw [hm]; exact Nat.min_le_right _ _
                                 omega
      have hm3 : m ≤ k := by rw [hm]; exact Nat.min_le_left _ _
      have hcp := run_copy_row2 (P := Tryd.prog) wr.drew 50 50 3 49 N (k * 2) (n - k) (n - k) ⟨N, 0, none⟩ k n m cur 49 (List.replicate (m * 2) (Value.string s)) Tryd.underlying50 HSZ.out hcur hm (by simp)
        (fun j v hj => by
          rw [add_to, Nat.zero_add]
          rw [List.getElem?_replicate] at hj
          split at hj
          · rename_i hjm
            have := hck j (by omega)
            injection hj with hj
            subst hj
            have hcur' : wr.drew.heap[N]? = _ := hcur
            simp only [World.cell?, hcur']
            exact this
          · cases hj) (by simp; omega) (by intro v hv; rw [(List.mem_replicate.1 hv).2]; rfl)
      have hfk := Filled.copy (w := wr.drew) hcur hcs hck m hm2
      obtain ⟨w4, hw4⟩ : ∃ w4, w4 = wr.drew.setRow N (cur.toList.take (k * 2) ++ List.replicate (m * 2) (Value.string s) ++ cur.toList.drop (k * 2 + (List.replicate (m * 2) (Value.string s)).length)).toArray := ⟨_, rfl⟩
      have hb4 : Below N w0 w4 := by rw [hw4]; exact below_setRow hb.drew (Nat.le_refl _) _
      rw [← hw4] at hfk hcp
      unfold goInt at hcp
      have HF := Lib.hid hfk
      have HB := Lib.hid hb4
      have htl := HTL.out k hlt
      have hhd := HHD.out k hk2
      clear hw4 hfk hb4 hcur hcs hck hm hb
      go_wp2
      have hwr : IntKind.i64.wrap ((k : Int) + (m : Int)) = ((k + m : Nat) : Int) := by rw [IntWalk.i64_in _ (by omega)]; simp
      go_region_held3 (fun _ => True) (trivial) (fail)
      all_goals
        go_roundw
        case rel => first | exact ⟨k + m, by omega, hm2, rfl, HF.out, HB.out⟩ | ((repeat apply Exists.intro); exact ⟨⟨k + m, by omega, hm2, by go_num, HF.out, HB.out⟩, rfl⟩)
        case measure => simp [intOf]; omega
    · have hkn : k = n := by omega
      subst hkn
      clear hlt
      go_wp2
      go_ret
      exact ⟨rfl, hf, hb⟩

theorem new_bad (n : Int) (w : World) (h : n < 1 ∨ 8192 < n) : Calls Tryd.prog 9 #[.int .i64 n] w fun e w' => e = .returned (.tuple #[.pointer none, .int .i64 1]) ∧ w = w' := by
  rcases h with h | h
  · go_enter Tryd.func9, Tryd.ntmps9
    go_wp2
    go_ret2
    exact ⟨rfl, rfl⟩
  · have h' : ¬ n < 1 := by omega
    go_enter Tryd.func9, Tryd.ntmps9
    go_wp2
    go_ret2
    exact ⟨rfl, rfl⟩

theorem cell_new (W : World) (N : Nat) (hN : N = W.heap.size) (cs : Array Value) (e : TypeId) (j : Nat) : (W.alloc (.cells cs e)).cell? ⟨N, j, none⟩ = cs[j]? := by
  subst hN
  exact World.cell?_alloc_at _ _ _ _ rfl

theorem bv_secOf (c : UInt8) : bv (secOf c) = List.replicate 512 (.int .u8 (c.toNat : Int)) := List.map_replicate ..
theorem secVals_same (n : Nat) (b : ByteArray) : secVals (List.replicate n b) (List.replicate n b) = List.replicate (n * 2) (.string b) := by
  refine (secVals_ext rfl (by simp) (fun i hi => ?_) (fun i hi => ?_)).symm
  · rw [List.getElem?_replicate, if_pos (by simp at hi; omega), List.getElem_replicate]
  · rw [List.getElem?_replicate, if_pos (by simp at hi; omega), List.getElem_replicate]

def NewEnd (n : Nat) (w : World) (e : Ending) (w' : World) : Prop :=
  ∃ d F, e = .returned (.tuple #[.pointer (some ⟨d, 0, none⟩), .int .i64 0]) ∧ DevM w' F d (fresh n) ∧ Below w.heap.size w w' ∧ ∀ b, b ∈ F → w.heap.size ≤ b
set_option maxRecDepth 100000 in
theorem new_any (n : Nat) (h1 : 1 ≤ n) (h2 : n ≤ 8192) (w : World) : Calls Tryd.prog 9 #[.int .i64 (n : Int)] w (NewEnd n w) := by
  obtain ⟨i0, hi, hz0, hz1, hz2⟩ := info_parts Tryd.infoByte
  obtain ⟨w2, hmk, hown2, hg2⟩ := run_make_full (P := Tryd.prog) (w := w) 0 31 5 i0 _ 1 Tryd.underlying31 hi hz0 hz1 .i64 .i64 512 (by rw [hz2]; decide) (by decide) (Nat.zero_le _)
  rw [show (Value.int .u8 0).cells = #[Value.int .u8 0] from rfl] at hown2
  have hb2 : Below w.heap.size w w2 := (Below.refl _ _).grown hg2 (Nat.le_refl _) (fun k hk => by cases hk)
  rw [toList_madeCells_one, Nat.mul_one] at hown2
  rw [show ((512 : Nat) : Int) = 512 from rfl] at hmk
  have hl : (secOf 0).length = 512 := secOf_length 0
  have hconv : ∀ w', Below w2.heap.size w2 w' → (convert 31 9 (.slice (some ⟨w.heap.size, 0, none⟩) 512 512)).run Tryd.prog w' = .ok (.string (secB 0)) w' := fun w' hb => by
    have h := own_below hown2 hb (Nat.le_refl _)
    have h' : w'.ownsRow 0 5 1 (.slice (some ⟨w.heap.size, 0, none⟩) 512 512) (secOf 0).length (bv (secOf 0)) := by
      rw [bv_secOf, hl]; exact h
    have := run_own_string (P := Tryd.prog) w' 31 9 5 Tryd.underlying31 Tryd.underlying5 Tryd.underlying9 0 _ (secOf 0) h'
    exact this
  have hc2 := hconv w2 (Below.refl _ _)
  obtain ⟨z, HZ⟩ : ∃ z, Hid (z = secB 0) := ⟨_, Lib.hid rfl⟩
  rw [← HZ.out] at hc2
  have HB := Lib.hid hb2
  clear hconv hown2 hg2 hb2 hl hi hz0 hz1 hz2
  go_enter Tryd.func9, Tryd.ntmps9
  go_wp2_with fail
  refine (repeat_any z _ n h1 h2 _ ?c0 ?c1).mono ?_
  case c0 => rw [cell_new _ _ (by simp) _ _ 0]; rfl
  case c1 => rw [cell_new _ _ (by simp) _ _ 1]; rfl
  obtain ⟨w3, HW3⟩ : ∃ w3, Hid (w3 = (w2.alloc (.cells #[.string z, .string z] 49)).alloc (.cells #[.string z, .string z] 49)) := ⟨_, Lib.hid rfl⟩
  rw [← HW3.out]
  obtain ⟨N, HN⟩ : ∃ N, Hid (N = w3.heap.size) := ⟨_, Lib.hid rfl⟩
  rw [← HN.out]
  rintro e w4 ⟨rfl, hf, hb4⟩
  have hbw : Below w.heap.size w w3 := by
    rw [HW3.out]
    exact (HB.out.alloc HB.out.size _).alloc (by have := HB.out.size; simp; omega) _
  have hz3 := hbw.size
  have hb04 : Below w.heap.size w w4 := hbw.trans (hb4.mono (by rw [HN.out]; exact hz3))
  have hz4 := hb04.size
  have hN : w.heap.size ≤ N := by rw [HN.out]; exact hz3
  have hown := hf.own (by unfold maxLen; omega)
  have hNlt := hf.lt
  have key : NewEnd n w (.returned (.tuple #[.pointer (some ⟨w4.heap.size, 0, none⟩), .int .i64 0])) (w4.alloc (.cells #[.slice (some ⟨N, 0, none⟩) n n, .slice none 0 0, .bool false, .int .i64 0, .slice none 0 0, .int .i64 0] 56)) := by
    refine ⟨w4.heap.size, [w4.heap.size, N], rfl, ⟨N, n, .slice none 0 0, .slice none 0 0, 0, ⟨?_, ?_, ?_, ?_⟩, ⟨none, 0, 0, rfl⟩, fun h => absurd rfl h, by simp, by simp, fun k hk => by simp [Value.ownBlock] at hk, fun b hb => ?_, fresh_ok n, by show (0 : Int) ≤ _; omega, ?_⟩, hb04.alloc hz4 _, fun b hb => ?_⟩
    · have h := heap_alloc_new w4 (.cells #[.slice (some ⟨N, 0, none⟩) n n, .slice none 0 0, .bool false, .int .i64 0, .slice none 0 0, .int .i64 0] 56)
      have hl : (fresh n).dur.length = n := List.length_replicate
      rw [hl]
      exact h
    · have hl : (fresh n).dur.length = n := List.length_replicate
      have e : secVals (fresh n).dur (fresh n).last = List.replicate (n * 2) (.string z) := by
        rw [HZ.out]; exact secVals_same n (secB 0)
      rw [hl, e]
      exact hown.alloc _
    · rfl
    · exact World.ownsRow_nil _ _ _ _
    · simp at hb
      rcases hb with rfl | rfl
      · simp
      · simp; omega
    · show (List.replicate n (secB 0)).length ≤ 8192
      rw [List.length_replicate]; exact h2
    · simp at hb
      rcases hb with rfl | rfl
      · exact hz4
      · exact hN
  have HK := Lib.hid key
  clear key hf hb4 hbw hb04 hown
  go_wp2
  go_ret2
  exact HK.out
end Go.Proofs.YtambddncncaehaaDoor
