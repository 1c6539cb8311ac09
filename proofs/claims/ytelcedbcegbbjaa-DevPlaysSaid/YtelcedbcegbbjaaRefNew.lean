/- The reference's device: zeros, NewDev. -/
import Derived.Test.YtelcedbcegbbjaaRefNd5
namespace Go.Proofs.Ytelcedbcegbbjaa
open Go.RowKit Dk
set_option linter.unusedVariables false

theorem Try.infoStr : (Try.prog.info? 9).map (fun i => (i.zero, i.size, i.bytes)) = some (some (.string ByteArray.empty), 1, 16) := by kernel_rfl
theorem ref_zeros (w : World) : Calls Try.prog 33 #[] w fun e w' => e = .returned (.string (secB 0)) ∧ Below w.heap.size w w' := by
  obtain ⟨i0, hi, hz0, hz1, hz2⟩ := info_parts Try.infoByte
  obtain ⟨w2, hmk, hown2, hg2⟩ := run_make_full (P := Try.prog) (w := w) 0 28 5 i0 _ 1 Try.underlying28 hi hz0 hz1 .i64 .i64 512 (by rw [hz2]; decide) (by decide) (Nat.zero_le _)
  rw [show (Value.int .u8 0).cells = #[Value.int .u8 0] from rfl] at hown2
  have hb2 : Below w.heap.size w w2 := (Below.refl _ _).grown hg2 (Nat.le_refl _) (fun k hk => by cases hk)
  rw [toList_madeCells_one, Nat.mul_one] at hown2
  rw [show ((512 : Nat) : Int) = 512 from rfl] at hmk
  have hl : (secOf 0).length = 512 := secOf_length 0
  have hc2 : (convert 28 9 (.slice (some ⟨w.heap.size, 0, none⟩) 512 512)).run Try.prog w2 = .ok (.string (secB 0)) w2 := by
    have h' : w2.ownsRow 0 5 1 (.slice (some ⟨w.heap.size, 0, none⟩) 512 512) (secOf 0).length (bv (secOf 0)) := by
      rw [bv_secOf, hl]; exact hown2
    exact run_own_string (P := Try.prog) w2 28 9 5 Try.underlying28 Try.underlying5 Try.underlying9 0 _ (secOf 0) h'
  obtain ⟨z, HZ⟩ : ∃ z, Hid (z = secB 0) := ⟨_, Lib.hid rfl⟩
  rw [← HZ.out] at hc2 ⊢
  have HB := Lib.hid hb2
  clear hown2 hg2 hb2 hl hi hz0 hz1 hz2
  go_enter Try.func33, Try.ntmps33
  go_wp2
  go_ret
  exact ⟨rfl, HB.out⟩

theorem RefC.grow {wr wb : World} {r n : Nat} {vs : Value} {safe safe' : List ByteArray} {off : Bool} {fz : Int} {vk : Value} {tn : Int} (h : RefC wr r n vs safe (.slice none 0 0) [] off fz vk tn) (hO : Only vs.ownBlock.toList wr wb) {v' : Value}
    (hs : wb.ownsRow 0 9 1 v' safe'.length (sval safe')) : RefC (wb.setCell ⟨r, 2, none⟩ v') r n v' safe' (.slice none 0 0) [] off fz vk tn := by
  have hr : r ∉ vs.ownBlock.toList := fun hm => by
    cases hv : vs.ownBlock with
    | none => rw [hv] at hm; simp at hm
    | some k => rw [hv] at hm; simp at hm; exact h.sec_ne k hv hm.symm
  have hblk := (hO.block r h.dlt hr).trans h.blk
  exact ⟨heap_setCell_same wb r 2 _ _ v' hblk, own_only hs (only_setCell wb _ _) (fun k hk => by simpa using own_ne hs hblk (by decide) k hk), World.ownsRow_nil _ _ _ _⟩

/-- One sector more stands in the row. -/
def NdA (wr : World) (vs : Value) (m : Nat) (xs : List Value) (z : ByteArray) (v : Value) (w : World) : Prop :=
  ∃ A n c, v = .slice A n c ∧ n = m + 1 ∧ w.ownsRow 0 9 1 v (m + 1) (xs ++ [.string z]) ∧ Only vs.ownBlock.toList wr w ∧ (∀ b, v.ownBlock = some b → vs.ownBlock = some b ∨ wr.heap.size ≤ b)
def NdS (rb : Nat) (wr : World) (vs : Value) (m : Nat) (xs : List Value) (z : ByteArray) (f : Nat → Bool) (R : Nat → Value) (w : World) : Prop :=
  (f 2 = false → f 3 = false → Below wr.heap.size wr w) ∧ (f 0 = true → R 0 = .string z) ∧ (f 1 = true → f 2 = false → ∃ b, R 1 = .slice (some ⟨b, 0, none⟩) 1 1 ∧ w.heap[b]? = some (.cells #[.string z] 9 (0, 0))) ∧
    (f 2 = true → f 3 = false → NdA wr vs m xs z (R 2) w) ∧ (f 3 = true → ∃ wb, NdA wr vs m xs z (R 2) wb ∧ w = wb.setCell ⟨rb, 2, none⟩ (R 2))
section
variable {rb m : Nat} {wr w : World} {vs : Value} {xs : List Value} {z : ByteArray} {f : Nat → Bool} {R : Nat → Value}
theorem NdS.s0 (h : NdS rb wr vs m xs z f R w) (f1 : f 1 = false) (f2 : f 2 = false) (f3 : f 3 = false) {w' : World} (hb : Below w.heap.size w w') : NdS rb wr vs m xs z (setF f 0) (setR R 0 (.string z)) w' := by
  obtain ⟨a1, _⟩ := h
  refine ⟨fun _ _ => (a1 f2 f3).trans (hb.mono (a1 f2 f3).size), fun _ => setR_self .., fun c _ => ?_, fun c _ => ?_, fun c => ?_⟩
  · rw [setF_ne _ (by decide), f1] at c; cases c
  · rw [setF_ne _ (by decide), f2] at c; cases c
  · rw [setF_ne _ (by decide), f3] at c; cases c
theorem NdS.s1 (h : NdS rb wr vs m xs z f R w) (f2 : f 2 = false) (f3 : f 3 = false) : NdS rb wr vs m xs z (setF f 1) (setR R 1 (.slice (some ⟨w.heap.size, 0, none⟩) 1 1)) (w.alloc (.cells #[.string z] 9)) := by
  obtain ⟨a1, a2, _⟩ := h
  refine ⟨fun _ _ => (a1 f2 f3).alloc (a1 f2 f3).size _, fun c => ?_, fun _ _ => ⟨w.heap.size, setR_self .., heap_alloc_new w _⟩, fun c _ => ?_, fun c => ?_⟩
  · rw [setF_ne _ (by decide)] at c
    rw [setR_ne _ _ (by decide)]; exact a2 c
  · rw [setF_ne _ (by decide), f2] at c; cases c
  · rw [setF_ne _ (by decide), f3] at c; cases c
theorem NdS.s2 (h : NdS rb wr vs m xs z f R w) (hown : wr.ownsRow 0 9 1 vs m xs) (hm : m ≤ 8192) (f1 : f 1 = true) (f2 : f 2 = false) (f3 : f 3 = false) : ∃ v' w', (Builtin.append_ #[42, 42] 42 #[vs, R 1]).run Try.prog w = .ok v' w' ∧ NdS rb wr vs m xs z (setF f 2) (setR R 2 v') w' := by
  obtain ⟨a1, a2, a3, _⟩ := h
  obtain ⟨i0, hi, hz0, hz1, hz2⟩ := info_parts Try.infoStr
  obtain ⟨b, e1, e2⟩ := a3 f1 f2
  have hb := a1 f2 f3
  rw [e1]
  obtain ⟨v', w', hrun, h2, h3, h4⟩ := run_append_here (P := Try.prog) w 42 42 9 i0 _ 1 16 Try.underlying42 hi hz0 hz1 hz2 rfl (by decide) vs m xs (own_below hown hb (Nat.le_refl _)) ⟨b, 0, none⟩ 1 1 [.string z] rfl (fun j u hu => by
    rw [add_to, Nat.zero_add]; simp only [World.cell?, e2]; simpa using hu) (by intro u hu; simp at hu; subst hu; rfl) (by unfold maxLen; omega) (by omega)
  refine ⟨v', w', hrun, fun c _ => ?_, fun c => ?_, fun _ c => ?_, fun _ _ => ?_, fun c => ?_⟩
  · rw [setF_self] at c; cases c
  · rw [setF_ne _ (by decide)] at c
    rw [setR_ne _ _ (by decide)]; exact a2 c
  · rw [setF_self] at c; cases c
  · rw [setR_self]
    obtain ⟨A', c', rfl, _⟩ := own_shape h2
    exact ⟨A', _, c', rfl, rfl, h2, (Only.of_below hb).trans (Only.of_grown h3 (fun k hk => by rw [hk]; simp)), fun k hk => by
      rcases h4 k hk with h5 | h5
      · exact .inl h5
      · exact .inr (Nat.le_trans hb.size h5)⟩
  · rw [setF_ne _ (by decide), f3] at c; cases c
theorem NdS.s3 (h : NdS rb wr vs m xs z f R w) (hc : wr.cell? ⟨rb, 2, none⟩ = some vs) (hf : wr.frozen? ⟨rb, 2, none⟩ = false) (hrb : rb < wr.heap.size) (hne : rb ∉ vs.ownBlock.toList) (f2 : f 2 = true) (f3 : f 3 = false) :
    ∃ A n c, R 2 = .slice A n c ∧ w.cell? ⟨rb, 2, none⟩ = some vs ∧ w.frozen? ⟨rb, 2, none⟩ = false ∧ NdS rb wr vs m xs z (setF f 3) R (w.setCell ⟨rb, 2, none⟩ (.slice A n c)) := by
  obtain ⟨a1, a2, a3, a4, a5⟩ := h
  have ha := a4 f2 f3
  have ha2 := ha
  obtain ⟨A, n, c, e, _, h1, h2, h3⟩ := ha2
  refine ⟨A, n, c, e, (h2.cell (a := ⟨rb, 2, none⟩) hrb hne).trans hc, ?_, fun c => ?_, fun c => ?_, fun _ c => ?_, fun _ c => ?_, fun _ => ⟨w, ha, by rw [e]⟩⟩
  · have hbk := h2.block rb hrb hne
    simpa [World.frozen?, hbk] using hf
  · rw [setF_ne _ (by decide), f2] at c; cases c
  · rw [setF_ne _ (by decide)] at c; exact a2 c
  · rw [setF_ne _ (by decide), f2] at c; cases c
  · rw [setF_self] at c; cases c
end

def RefNewEnd (n : Nat) (w : World) (e : Ending) (w' : World) : Prop :=
  ∃ r G, e = .returned (.pointer (some ⟨r, 0, none⟩)) ∧ RefM w' G r (fresh n) ∧ Below w.heap.size w w' ∧ ∀ b, b ∈ G → w.heap.size ≤ b
set_option maxHeartbeats 1000000 in
theorem ref_new (n : Nat) (h2 : n ≤ 8192) (w : World) : Calls Try.prog 20 #[.int .i64 (n : Int)] w (RefNewEnd n w) := by
  obtain ⟨w0, hw0⟩ : ∃ w0, w0 = w := ⟨_, rfl⟩
  obtain ⟨N, HN⟩ : ∃ N, Hid (N = w.heap.size) := ⟨_, Lib.hid rfl⟩
  obtain ⟨z, HZ⟩ : ∃ z, Hid (z = secB 0) := ⟨_, Lib.hid rfl⟩
  go_enter Try.func20, Try.ntmps20
  go_wp2
  rw [← HN.out]
  go_loopw [4] (fun i wr => ∃ k : Nat, k ≤ n ∧ i = .int .i64 k ∧ ∃ A c, RefC wr N n (.slice A k c) (List.replicate k z) (.slice none 0 0) [] false 0 (.slice none 0 0) 0 ∧ Below N w wr ∧ (∀ b, (Value.slice A k c).ownBlock = some b → N ≤ b)) (fun i _ => n - (intOf i).toNat)
  case atStart =>
    refine ⟨0, Nat.zero_le _, rfl, none, 0, ⟨?_, World.ownsRow_nil _ _ _ _, World.ownsRow_nil _ _ _ _⟩, (Below.refl _ _).alloc (by rw [HN.out]; exact Nat.le_refl _) _, fun b hb => by simp [Value.ownBlock] at hb⟩
    rw [HN.out]; exact heap_alloc_new w _
  case round =>
    obtain ⟨k, hk, rfl, A, c, hc, hb, hbl⟩ := hrel
    by_cases hlt : k < n
    · have hc2 := hc.cells.2.2.1
      have hf2 := hc.free 2
      have hdl := hc.dlt
      have hrow := hc.sec
      rw [List.length_replicate] at hrow
      have hne : N ∉ (Value.slice A k c).ownBlock.toList := fun hm => by
        cases hv : (Value.slice A k c).ownBlock with
        | none => rw [hv] at hm; simp at hm
        | some q => rw [hv] at hm; simp at hm; exact hc.sec_ne q hv hm.symm
      have HC := Lib.hid hc
      have HB := Lib.hid hb
      have HBL := Lib.hid hbl
      have HX := Lib.hid (⟨hc2, hf2, hdl, hrow, hne⟩ : _ ∧ _ ∧ _ ∧ _ ∧ _)
      clear hc hb hbl hc2 hf2 hdl hrow hne
      go_wp2_with fail
      refine nd5 N k c A z (NdS N wr (.slice A k c) k (sval (List.replicate k z)) z) (by show 22 < 24; omega) rfl
        (fun f R w h f2 f3 => ((h.1 f2 f3).cell (p := ⟨N, 2, none⟩) HX.out.2.2.1).trans HX.out.1)
        (fun f R w h f0 f1 f2 f3 => (ref_zeros w).mono fun e w' he => ⟨.string z, by rw [HZ.out]; exact he.1, h.s0 f1 f2 f3 he.2⟩)
        (fun f R w h f0 f1 f2 f3 => ⟨h.2.1 f0, h.s1 f2 f3⟩)
        (fun f R w h f1 f2 f3 => h.s2 HX.out.2.2.2.1 (by omega) f1 f2 f3)
        (fun f R w h f2 f3 => h.s3 HX.out.1 HX.out.2.1 HX.out.2.2.1 HX.out.2.2.2.2 f2 f3)
        ⟨fun _ _ => (Below.refl _ _).drew, fun h => absurd h (by simp), fun h => absurd h (by simp), fun h => absurd h (by simp), fun h => absurd h (by simp)⟩ ?_
      intro af wN f hfr hall hS
      obtain ⟨wb, ⟨A2, n2, c2, e2, rfl, ho2, hO2, hg2⟩, rfl⟩ := hS.2.2.2.2 (hall 3 (by decide))
      rw [e2] at ho2 hg2 ⊢
      have hfin : RefC (wb.setCell ⟨N, 2, none⟩ (.slice A2 (k + 1) c2)) N n (.slice A2 (k + 1) c2) (List.replicate (k + 1) z) (.slice none 0 0) [] false 0 (.slice none 0 0) 0 := by
        refine HC.out.grow hO2 ?_
        rw [List.length_replicate]
        have : sval (List.replicate (k + 1) z) = sval (List.replicate k z) ++ [.string z] := by rw [List.replicate_succ']; simp [sval]
        rw [this]; exact ho2
      have hbfin : Below N w (wb.setCell ⟨N, 2, none⟩ (.slice A2 (k + 1) c2)) := (HB.out.trans (hO2.below (by rw [HN.out]; exact HB.out.size) (fun b hb => HBL.out b (by
        cases hv : (Value.slice A k c).ownBlock with
        | none => rw [hv] at hb; simp at hb
        | some q => rw [hv] at hb; simp at hb; rw [hb])))).setCell (Nat.le_refl _) _
      have hlfin : ∀ b, (Value.slice A2 (k + 1) c2).ownBlock = some b → N ≤ b := fun b hb => by
        rcases hg2 b hb with h | h
        · exact HBL.out b h
        · have h9 := HB.out.size; have h10 := HN.out; omega
      have HF := Lib.hid (⟨hfin, hbfin, hlfin⟩ : _ ∧ _ ∧ _)
      clear hfin hbfin hlfin hS hall e2 ho2 hO2 hg2
      have ha := hfr.eq (by intro t ht; simp at ht; show t < 24; omega)
      simp only [List.foldl_cons, List.foldl_nil] at ha
      clear hfr
      generalize af.eval (.tmp 13) = u13 at ha
      generalize af.eval (.tmp 14) = u14 at ha
      generalize af.eval (.tmp 15) = u15 at ha
      generalize af.eval (.tmp 16) = u16 at ha
      generalize af.eval (.tmp 17) = u17 at ha
      generalize af.eval (.tmp 18) = u18 at ha
      generalize af.eval (.tmp 19) = u19 at ha
      generalize af.eval (.tmp 20) = u20 at ha
      generalize af.eval (.tmp 21) = u21 at ha
      generalize af.eval (.tmp 22) = u22 at ha
      subst ha
      simp only [Act.put, List.setIfInBounds_toArray, List.set_cons_zero, List.set_cons_succ]
      go_wp2
      go_roundw
      case rel => exact ⟨k + 1, by omega, by go_num, A2, c2, HF.out.1, HF.out.2.1, HF.out.2.2⟩
      case measure => simp [intOf]; omega
    · have hkn : k = n := by omega
      subst hkn
      have key : RefNewEnd k w0 (.returned (.pointer (some ⟨N, 0, none⟩))) wr := by
        refine ⟨N, N :: (Value.slice A k c).ownBlock.toList, rfl, ⟨.slice A k c, .slice none 0 0, .slice none 0 0, 0, 0, ?_, ⟨none, 0, 0, rfl⟩, fun _ => by omega, fun h => absurd rfl h, by omega, fun h => absurd rfl h, by simp, fun q hq => by rw [hq]; simp, fun q hq => by simp [Value.ownBlock] at hq, fun b hb' => ?_, fresh_ok k, by show (0 : Int) ≤ _; omega, ?_⟩, ?_, fun b hb' => ?_⟩
        · show RefC wr N (List.replicate k (secB 0)).length _ (List.replicate k (secB 0)) _ [] false 0 _ 0
          rw [List.length_replicate, ← HZ.out]; exact hc
        · rcases List.mem_cons.1 hb' with rfl | hb'
          · exact hc.dlt
          · cases hv : (Value.slice A k c).ownBlock with
            | none => rw [hv] at hb'; simp at hb'
            | some q => rw [hv] at hb'; simp at hb'; subst hb'; exact (hc.sec.lt _ hv).2
        · show (List.replicate k (secB 0)).length ≤ 8192
          rw [List.length_replicate]; exact h2
        · rw [hw0, ← HN.out]; exact hb
        · rw [hw0, ← HN.out]
          rcases List.mem_cons.1 hb' with rfl | hb'
          · exact Nat.le_refl _
          · cases hv : (Value.slice A k c).ownBlock with
            | none => rw [hv] at hb'; simp at hb'
            | some q => rw [hv] at hb'; simp at hb'; subst hb'; exact hbl _ hv
      have HK := Lib.hid key
      clear key hc hb hbl hlt
      go_wp2
      go_ret
      rw [← hw0]
      exact HK.out
end Go.Proofs.Ytelcedbcegbbjaa
