/- The reference's device: Fuse. -/
import Derived.Test.YtelcedbcegbbjaaRefFlush
import Derived.Test.YtelcedbcegbbjaaDevArm
import Derived.Test.YtelcedbcegbbjaaDevWrite
namespace Go.Proofs.Ytelcedbcegbbjaa
open Go.RowKit Dk
set_option linter.unusedVariables false

theorem Try.infoInt : (Try.prog.info? 3).map (fun i => (i.zero, i.size, i.bytes)) = some (some (.int .i64 0), 1, 8) := by kernel_rfl

/-- append of what numbers came in to an empty literal. -/
theorem run_append_ints (w : World) (A : Option Addr) (keep : List Int) (m c : Nat) (hm : m = keep.length) (hk : keep.length ≤ 100000) (hs : SeesI w w.heap.size A keep) (ty : TypeId) :
    ∃ A' n' c' w', (Builtin.append_ #[34, 34] ty #[.slice (some ⟨w.heap.size, 0, none⟩) 0 0, .slice A m c]).run Try.prog (w.alloc (.cells #[] 3)) = .ok (.slice A' n' c') w' ∧ w'.ownsRow w.heap.size 3 1 (.slice A' n' c') keep.length (keep.map (Value.int .i64)) ∧ Below w.heap.size w w' := by
  subst hm
  obtain ⟨i0, hi, hz0, hz1, hz2⟩ := info_parts Try.infoInt
  have hal : Below w.heap.size w (w.alloc (.cells #[] 3)) := (Below.refl _ _).alloc (Nat.le_refl _) _
  have hown : (w.alloc (.cells #[] 3)).ownsRow w.heap.size 3 1 (.slice (some ⟨w.heap.size, 0, none⟩) 0 0) 0 [] := World.ownsRow_lit w #[] 0 (Nat.le_refl _) (Nat.zero_le _) rfl
  cases A with
  | none =>
    have h0 : keep = [] := Classical.byContradiction fun hn => by
      obtain ⟨g, o, e, _⟩ := hs hn
      cases e
    subst h0
    refine ⟨_, _, _, _, ?_, hown, hal⟩
    simp [Builtin.append_, run_underlying Try.underlying34, sizeOf, typeInfo, hi, Builtin.lenOf, Builtin.firstCells, storeCells]
  | some ad =>
    have hcells : ∀ (j : Nat) (u : Value), (keep.map (Value.int .i64))[j]? = some u → (w.alloc (.cells #[] 3)).cell? (ad.add j) = some u := fun j u hu => by
      have hj : j < keep.length := by simpa using (List.getElem?_eq_some_iff.1 hu).1
      have hn : keep ≠ [] := fun h => by rw [h] at hj; simp at hj
      obtain ⟨g, o, he, hg, hc⟩ := hs hn
      injection he with he
      subst he
      rw [add_to, hal.cell (p := ⟨g, o + j, none⟩) hg, hc j hj, ← hu, List.getElem?_map, List.getElem?_eq_getElem hj]; rfl
    obtain ⟨v', w', hrun, h2, h3, _, _⟩ := run_append_own_at (P := Try.prog) (w.alloc (.cells #[] 3)) w.heap.size 34 ty 3 i0 _ 1 8 Try.underlying34 hi hz0 hz1 hz2 rfl (by decide) _ 0 [] hown ad keep.length c (keep.map (Value.int .i64)) (by simp) hcells
      (by intro u hu; simp at hu; obtain ⟨b, _, rfl⟩ := hu; rfl) (by unfold maxLen; omega) (by omega) (by simp)
    rw [Nat.zero_add, List.nil_append] at h2
    obtain ⟨A', c', rfl, _⟩ := own_shape h2
    exact ⟨A', _, c', w', hrun, h2, hal.grown h3 hal.size (fun k hk => (hown.lt k hk).1)⟩

set_option maxHeartbeats 1000000 in
theorem ref_fuse {G : List Nat} {r : Nat} {S : Disk} (w : World) (h : RefM w G r S) (calls : Int) (hc0 : -9223372036854775808 ≤ calls) (hcw : calls ≤ 9223372036854775807) (A : Option Addr) (n c : Nat) (keep : List Int) (hn : n = keep.length) (hk : keep.length ≤ 100000) (hs : SeesI w w.heap.size A keep) (torn : Int) :
    Calls Try.prog 26 #[.pointer (some ⟨r, 0, none⟩), .int .i64 calls, .slice A n c, .int .i64 torn] w (RefEnd G r (S.arm calls keep torn) (.tuple #[]) w) := by
  have h0 := h
  obtain ⟨vs, vl, vk, fz, tn, h1, h2, h3, h4, h5, h6, h7, h8, h9, h10, h11, h12, h13⟩ := h
  obtain ⟨_, hc, _⟩ := h1.cells
  cases ho : S.off
  case true =>
    rw [ho] at hc
    have key : RefEnd G r (S.arm calls keep torn) (.tuple #[]) w (.returned (.tuple #[])) w := ⟨rfl, G, by unfold Disk.arm; rw [ho]; exact h0, Only.refl _ _, Grows.refl _ _⟩
    have HK := Lib.hid key
    clear key h0 h1 h2 h3 h4 h5 h6 h7 h8 h9 h10 h11 h12 h13 ho hs hcw hc0
    go_enter Try.func26, Try.ntmps26
    go_wp2
    go_end0
    exact HK.out
  case false =>
    rw [ho] at hc
    have hok := h11.arm calls keep torn
    obtain ⟨A2, n2, c2, w2, happ, hown, hb2⟩ := run_append_ints w A keep n c hn hk hs 34
    have hd2 := h1.below hb2
    obtain ⟨p0, p1, p2, p3, p4, p5, p6⟩ := hd2.cells
    have q3 := hd2.free 4
    have q4 := hd2.free 5
    have q5 := hd2.free 6
    have hO2 : Only G w (((w2.setCell ⟨r, 4, none⟩ (.int .i64 calls)).setCell ⟨r, 5, none⟩ (.slice A2 n2 c2)).setCell ⟨r, 6, none⟩ (.int .i64 torn)) :=
      ((((Only.refl G w).trans (Only.of_below hb2)).setCell (.inl h7) _).setCell (.inl h7) _).setCell (.inl h7) _
    have key : RefEnd G r (S.arm calls keep torn) (.tuple #[]) w (.returned (.tuple #[])) (((w2.setCell ⟨r, 4, none⟩ (.int .i64 calls)).setCell ⟨r, 5, none⟩ (.slice A2 n2 c2)).setCell ⟨r, 6, none⟩ (.int .i64 torn)) := by
      have hne := own_ne hown hd2.blk (by decide)
      have hd3 := ((hd2.putFz calls).putKeep (.slice A2 n2 c2)).putTorn torn
      have hown3 := own_base (own_only (own_only (own_only hown (only_setCell w2 ⟨r, 4, none⟩ (.int .i64 calls)) (fun k hk => by simpa using hne k hk)) (only_setCell _ ⟨r, 5, none⟩ (.slice A2 n2 c2)) (fun k hk => by simpa using hne k hk)) (only_setCell _ ⟨r, 6, none⟩ (.int .i64 torn)) (fun k hk => by simpa using hne k hk)) (Nat.zero_le _)
      have hgr : ∀ b, b ∈ (Value.slice A2 n2 c2).ownBlock.toList → (Value.slice A2 n2 c2).ownBlock = some b := fun b hb => by
        cases hv : (Value.slice A2 n2 c2).ownBlock with
        | none => rw [hv] at hb; simp at hb
        | some k => rw [hv] at hb; simp at hb; rw [hb]
      refine ⟨rfl, (Value.slice A2 n2 c2).ownBlock.toList ++ G, ?_, hO2, fun b hb => ?_⟩
      · have hlt : ∀ b, b ∈ (Value.slice A2 n2 c2).ownBlock.toList ++ G → b < (((w2.setCell ⟨r, 4, none⟩ (.int .i64 calls)).setCell ⟨r, 5, none⟩ (.slice A2 n2 c2)).setCell ⟨r, 6, none⟩ (.int .i64 torn)).heap.size := fun b hb => by
          rcases List.mem_append.1 hb with hb | hb
          · have := (hown.lt b (hgr b hb)).2
            simpa [World.setCell] using this
          · exact Nat.lt_of_lt_of_le (h10 b hb) hO2.size
        by_cases hc1 : calls < 1
        · have har : S.arm calls keep torn = { S with calls := 0, keep := [], torn := 0 } := by unfold Disk.arm; rw [ho]; simp [hc1]
          rw [har] at hok ⊢
          exact ⟨vs, vl, _, calls, torn, hd3, ⟨_, _, _, rfl⟩, fun _ => hc1, fun h => absurd rfl h, hc0, fun h => absurd rfl h, List.mem_append_right _ h7, fun k hk => List.mem_append_right _ (h8 k hk), fun k hk => List.mem_append_right _ (h9 k hk), hlt, hok, by show (0 : Int) ≤ _; omega, h13⟩
        · have har : S.arm calls keep torn = { S with calls := calls.toNat, keep := keep, torn := torn } := by unfold Disk.arm; rw [ho]; simp [hc1]
          rw [har] at hok ⊢
          exact ⟨vs, vl, _, calls, torn, hd3, ⟨_, _, _, rfl⟩, fun h => absurd h (by show calls.toNat ≠ 0; omega), fun _ => by show calls = (calls.toNat : Int); omega, hc0, fun _ => ⟨rfl, hown3, fun k hk => List.mem_append_left _ (by rw [hk]; simp)⟩, List.mem_append_right _ h7, fun k hk => List.mem_append_right _ (h8 k hk), fun k hk => List.mem_append_right _ (h9 k hk), hlt, hok, by show (calls.toNat : Int) ≤ _; omega, h13⟩
      · rcases List.mem_append.1 hb with hb | hb
        · exact .inr (hown.lt b (hgr b hb)).1
        · exact .inl hb
    have HK := Lib.hid key
    have HAP := Lib.hid happ
    clear key happ h0 h1 h2 h3 h4 h5 h6 h7 h8 h9 h10 h11 h12 h13 ho hs hcw hc0 hown hb2 hd2 hO2 hok p0 p1 p2
    go_enter Try.func26, Try.ntmps26
    go_wp2_with (at_builtin; refine wpList_append_run rfl _ _ 34 rfl _ _ _ rfl rfl _ _ (by exact HAP.out) ?_)
    go_end0
    exact HK.out
end Go.Proofs.Ytelcedbcegbbjaa
