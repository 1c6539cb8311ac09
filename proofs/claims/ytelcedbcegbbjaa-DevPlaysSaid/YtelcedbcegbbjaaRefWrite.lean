/- The reference's device: Write. -/
import Derived.Test.YtelcedbcegbbjaaRefWr7
import Derived.Test.YtelcedbcegbbjaaDevAwake
namespace Go.Proofs.Ytelcedbcegbbjaa
open Go.RowKit Dk
set_option linter.unusedVariables false

def RwFin (rb m : Nat) (olds ys : List Value) (w1 : World) (f : Nat → Bool) (R : Nat → Value) (w : World) : Prop :=
  (f 4 = false → RowS 70 2 m olds ys w1 f R w) ∧
    (f 4 = true → ∃ wb A n c, Below w1.heap.size w1 wb ∧ wb.ownsRow w1.heap.size 70 2 (.slice A n c) (m + 1) (olds ++ ys) ∧ w = wb.setCell ⟨rb, 3, none⟩ (.slice A n c))

theorem RwFin.c {rb m : Nat} {olds ys : List Value} {w1 w : World} {f : Nat → Bool} {R : Nat → Value} (hf : f 4 = false) (h : RowS 70 2 m olds ys w1 f R w) : RwFin rb m olds ys w1 f R w :=
  ⟨fun _ => h, fun h' => by rw [hf] at h'; cases h'⟩
theorem RwFin.f {rb m : Nat} {olds ys : List Value} {w1 w : World} {f : Nat → Bool} {R : Nat → Value} {A : Option Addr} {n c : Nat} (hf3 : f 3 = true) (hr : RowS 70 2 m olds ys w1 f R w) (e3 : R 3 = .slice A n c) : RwFin rb m olds ys w1 (setF f 4) R (w.setCell ⟨rb, 3, none⟩ (.slice A n c)) :=
  ⟨fun h => (by rw [setF_self] at h; cases h), fun _ => ⟨w, A, n, c, hr.1, by rw [← e3]; exact hr.2.2.2.2 hf3, rfl⟩⟩
/-- One write more. -/
theorem RefM.more {w1 : World} {r : Nat} {S : Disk} {vs vl vk : Value} {fz tn : Int} {off : Bool} (h : RefC w1 r S.dur.length vs S.dur vl S.cache off fz vk tn) {wb : World} (hb : Below w1.heap.size w1 wb) {v' : Value} {i : Nat} {dat : ByteArray}
    (ho : wb.ownsRow w1.heap.size 70 2 v' (S.cache.length + 1) (wrVals S.cache ++ [.int .i64 (i : Int), .string dat])) : RefC (wb.setCell ⟨r, 3, none⟩ v') r S.dur.length vs S.dur v' (S.cache ++ [(i, dat)]) off fz vk tn := by
  refine (h.below hb).putWr v' _ ?_
  have e1 : (S.cache ++ [(i, dat)]).length = S.cache.length + 1 := by simp
  have e2 : wrVals (S.cache ++ [(i, dat)]) = wrVals S.cache ++ [.int .i64 (i : Int), .string dat] := by unfold wrVals; rw [flat2_append]; rfl
  rw [e1, e2]; exact own_base ho (Nat.zero_le _)
theorem wrVals_one (c : List Wr) : ∀ u ∈ wrVals c, u.oneCell' = true := by
  intro u hu
  induction c with
  | nil => simp [wrVals, flat2] at hu
  | cons x r ih =>
    have e : wrVals (x :: r) = [.int .i64 (x.1 : Int), .string x.2] ++ wrVals r := rfl
    rw [e] at hu
    rcases List.mem_append.1 hu with h | h
    · simp at h; rcases h with rfl | rfl <;> rfl
    · exact ih h

set_option maxHeartbeats 1000000 in
theorem ref_write {G : List Nat} {r : Nat} {S : Disk} (w : World) (h : RefM w G r S) (hd : 0 < S.dur.length) (hcl : S.cache.length ≤ 1000) (at_ : Int) (A : Option Addr) (n c : Nat) (l : List UInt8) (hn : n = l.length) (hnc : n ≤ c) (hcm : c ≤ maxLen) (hs : Sees w w.heap.size A l) (hA : ∀ a, A = some a → a.block ∉ G) :
    Calls Try.prog 21 #[.pointer (some ⟨r, 0, none⟩), .int .i64 at_, .slice A n c] w (RefEnd G r (S.write at_ ⟨l.toArray⟩) (.int .i64 (S.writeE at_ l.length)) w) := by
  have h0 := h
  have hblow := ref_blown w h hd
  have hlz : (⟨l.toArray⟩ : ByteArray).size = l.length := by simp [ByteArray.size]
  obtain ⟨vs, vl, vk, fz, tn, h1, h2, h3, h4, h5, h6, h7, h8, h9, h10, h11, h12, h13⟩ := h
  obtain ⟨c0, hc, _⟩ := h1.cells
  unfold maxLen at hcm
  cases ho : S.off
  case true =>
    rw [ho] at hc
    have key : RefEnd G r (S.write at_ ⟨l.toArray⟩) (.int .i64 (S.writeE at_ l.length)) w (.returned (.int .i64 7)) w := ⟨by simp [Disk.writeE, ho], G, by unfold Disk.write; rw [ho]; exact h0, Only.refl _ _, Grows.refl _ _⟩
    have HK := Lib.hid key
    clear key h0 h1 h2 h3 h4 h5 h6 h7 h8 h9 h10 h11 h12 h13 ho hblow hd hlz hs hA
    go_enter Try.func21, Try.ntmps21
    go_wp2
    go_ret
    exact HK.out
  case false =>
    rw [ho] at hc
    by_cases ht : S.takes at_ l.length = true
    · have ht' := ht
      simp only [Disk.takes, Bool.and_eq_true, decide_eq_true_eq] at ht'
      obtain ⟨⟨b1, b2⟩, hl5⟩ := ht'
      obtain ⟨i, rfl⟩ : ∃ i : Nat, at_ = (i : Int) := ⟨at_.toNat, by omega⟩
      rw [hl5] at hn
      subst hn
      have b3 : ¬ (i : Int) < 0 := by omega
      have b4 : ¬ (S.dur.length : Int) ≤ (i : Int) := by omega
      cases hb : S.blows
      case true =>
        rw [hb] at hblow
        have hfl : S.write (i : Int) ⟨l.toArray⟩ = S.blow := by unfold Disk.write; rw [ho, hlz, ht, hb]; rfl
        have hfe : S.writeE (i : Int) l.length = 7 := by unfold Disk.writeE; rw [ho, ht, hb]; rfl
        rw [hfl, hfe]
        have HB := Lib.hid hblow
        clear h0 h1 h2 h3 h4 h5 h6 h7 h8 h9 h10 h11 h12 h13 ho hblow hd hb hfl hfe hlz hs hA ht hl5
        go_enter Try.func21, Try.ntmps21
        go_wp2_with fail
        refine HB.out.mono ?_
        rintro e w1 ⟨rfl, hR⟩
        have HRR := Lib.hid hR
        clear hR
        go_wp2
        go_ret
        exact ⟨rfl, HRR.out⟩
      case false =>
        rw [hb] at hblow
        obtain ⟨d1, d2, d3, d4, d5⟩ := Disk.blow_same hb
        have hfl : S.write (i : Int) ⟨l.toArray⟩ = { S.blow with cache := S.cache ++ [(i, ⟨l.toArray⟩)] } := by unfold Disk.write; rw [ho, hlz, ht, hb]; rfl
        have hfe : S.writeE (i : Int) l.length = 0 := by unfold Disk.writeE; rw [ho, ht, hb]; rfl
        have hok := h11.write (i : Int) ⟨l.toArray⟩
        rw [hfe]
        have HB := Lib.hid hblow
        have HS := Lib.hid hfl
        have HE := Lib.hid (⟨d1, d2, d3⟩ : S.blow.dur = S.dur ∧ S.blow.cache = S.cache ∧ S.blow.off = S.off)
        have HOK := Lib.hid hok
        have HSE := Lib.hid hs
        have HA := Lib.hid hA
        have HL5 := Lib.hid hl5
        clear h0 h1 h2 h3 h4 h5 h6 h7 h8 h9 h10 h11 h12 h13 ho hblow hd hb hfl hfe hlz hs hA ht hl5 hok d1 d2 d3 d4 d5
        go_enter Try.func21, Try.ntmps21
        go_wp2_with fail
        refine HB.out.mono ?_
        rintro e w1 ⟨rfl, F1, hM, hO1, hG1⟩
        obtain ⟨vs, vl, vk, fz, tn, h1, h2, h3, h4, h5, h6, h7, h8, h9, h10, h11, h12, h13⟩ := hM
        rw [HE.out.1, HE.out.2.1] at h1
        obtain ⟨Al, cl, rfl, hc1, hc2⟩ := h1.vlShape
        obtain ⟨_, _, _, c3, _⟩ := h1.cells
        have f3 := h1.free 3
        have hsee : Sees w1 w1.heap.size A l := fun hne => by
          obtain ⟨g, o, e, hg, hcell⟩ := HSE.out hne
          exact ⟨g, o, e, Nat.lt_of_lt_of_le hg hO1.size, fun j hj => (hO1.cell (a := ⟨g, o + j, none⟩) hg (show g ∉ G from HA.out _ e)).trans (hcell j hj)⟩
        obtain ⟨dat, HD⟩ : ∃ x : ByteArray, Hid (x = ⟨l.toArray⟩) := ⟨_, Lib.hid rfl⟩
        have hconv : ∀ W, Below w1.heap.size w1 W → (convert 28 9 (.slice A 512 c)).run Try.prog W = .ok (.string dat) W := fun W hW => by
          have := conv_in hsee dat HD.out c W hW
          rw [HL5.out] at this; exact this
        have HM := Lib.hid (⟨h1, h2, h3, h4, h5, h6, h7, h8, h9, h10, h12, h13⟩ : _ ∧ _ ∧ _ ∧ _ ∧ _ ∧ _ ∧ _ ∧ _ ∧ _ ∧ _ ∧ _ ∧ _)
        have HO1 := Lib.hid hO1
        have HG1 := Lib.hid hG1
        have HC := Lib.hid hconv
        have HOWN := Lib.hid h1.wr
        have HDL := Lib.hid h1.dlt
        have HC3 := Lib.hid c3
        have HF3 := Lib.hid f3
        clear h1 h2 h3 h4 h5 h6 h7 h8 h9 h10 h11 h12 h13 hO1 hG1 hsee hconv c3 f3
        go_wp2_with fail
        refine rw7 r i S.cache.length cl c Al A dat w1 (wrVals S.cache) (RwFin r S.cache.length (wrVals S.cache) [.int .i64 (i : Int), .string dat] w1) (by show 42 < 43; omega) rfl rfl rfl HC3.out HF3.out HDL.out HOWN.out (wrVals_one _) (by omega) HC.out
          (fun f R w h hf => h.1 hf) (fun f R w hf h => RwFin.c hf h) (fun f R w A n c hf4 hf3 hr e3 => RwFin.f hf3 hr e3)
          (RwFin.c rfl (RowS.start _ _)) ?_
        intro af wN f hfr hall hS
        obtain ⟨wb, A', n', c', hbb, hown', rfl⟩ := hS.2 (hall 4 (by decide))
        have key : RefEnd G r (S.write (i : Int) ⟨l.toArray⟩) (.int .i64 0) w (.returned (.int .i64 0)) (wb.setCell ⟨r, 3, none⟩ (.slice A' n' c')) := by
          obtain ⟨h1, h2, h3, h4, h5, h6, h7, h8, h9, h10, h12, h13⟩ := HM.out
          have hok := HOK.out
          rw [HS.out] at hok ⊢
          rw [← HD.out] at hok ⊢
          have hgr : ∀ b, b ∈ (Value.slice A' n' c').ownBlock.toList → (Value.slice A' n' c').ownBlock = some b := fun b hb => by
            cases hv : (Value.slice A' n' c').ownBlock with
            | none => rw [hv] at hb; simp at hb
            | some k => rw [hv] at hb; simp at hb; rw [hb]
          have hO3 : Only F1 w1 (wb.setCell ⟨r, 3, none⟩ (.slice A' n' c')) := ((Only.refl F1 w1).trans (Only.of_below hbb)).setCell (.inl h7) _
          have hG2 : Grows F1 ((Value.slice A' n' c').ownBlock.toList ++ F1) w1 := fun b hb => by
            rcases List.mem_append.1 hb with hb | hb
            · exact .inr (hown'.lt b (hgr b hb)).1
            · exact .inl hb
          have hc' := RefM.more h1 hbb hown'
          refine ⟨rfl, (Value.slice A' n' c').ownBlock.toList ++ F1, ⟨vs, _, vk, fz, tn, ?_, h2, h3, h4, h5, fun hc0 => ⟨(h6 hc0).1, own_only (own_below (h6 hc0).2.1 hbb (Nat.le_refl _)) (only_setCell wb _ _) (fun k hk => by simpa using own_ne (h6 hc0).2.1 h1.blk (by decide) k hk), fun k hk => List.mem_append_right _ ((h6 hc0).2.2 k hk)⟩, List.mem_append_right _ h7, fun k hk => List.mem_append_right _ (h8 k hk), fun k hk => List.mem_append_left _ (by rw [hk]; simp), fun b hb => ?_, hok, h12, ?_⟩, HO1.out.step hO3 HG1.out, HG1.out.trans hG2 HO1.out.size⟩
          · show RefC _ r S.blow.dur.length vs S.blow.dur _ (S.cache ++ [(i, dat)]) S.blow.off fz vk tn
            rw [HE.out.1]
            exact hc'
          · rcases List.mem_append.1 hb with hb | hb
            · exact Nat.lt_of_lt_of_le (hown'.lt b (hgr b hb)).2 (by simp [World.setCell])
            · exact Nat.lt_of_lt_of_le (h10 b hb) hO3.size
          · exact h13
        have HK := Lib.hid key
        clear key hS hbb hown' hall
        have ha := hfr.eq (by intro t ht; simp at ht; show t < 43; omega)
        simp only [List.foldl_cons, List.foldl_nil] at ha
        clear hfr
        generalize af.eval (.tmp 28) = u28 at ha
        generalize af.eval (.tmp 29) = u29 at ha
        generalize af.eval (.tmp 30) = u30 at ha
        generalize af.eval (.tmp 31) = u31 at ha
        generalize af.eval (.tmp 32) = u32 at ha
        generalize af.eval (.tmp 33) = u33 at ha
        generalize af.eval (.tmp 34) = u34 at ha
        generalize af.eval (.tmp 35) = u35 at ha
        generalize af.eval (.tmp 36) = u36 at ha
        generalize af.eval (.tmp 37) = u37 at ha
        generalize af.eval (.tmp 38) = u38 at ha
        generalize af.eval (.tmp 39) = u39 at ha
        generalize af.eval (.tmp 40) = u40 at ha
        generalize af.eval (.tmp 41) = u41 at ha
        generalize af.eval (.tmp 42) = u42 at ha
        subst ha
        simp only [Act.put, List.setIfInBounds_toArray, List.set_cons_zero, List.set_cons_succ]
        go_wp2
        go_ret
        exact HK.out
    · have htk : S.takes at_ l.length = false := by simpa using ht
      have hfl : S.write at_ ⟨l.toArray⟩ = S := by unfold Disk.write; rw [ho, hlz, htk]; rfl
      have hfe : S.writeE at_ l.length = 1 := by unfold Disk.writeE; rw [ho, htk]; rfl
      have key : RefEnd G r (S.write at_ ⟨l.toArray⟩) (.int .i64 (S.writeE at_ l.length)) w (.returned (.int .i64 1)) w := ⟨by rw [hfe], G, by rw [hfl]; exact h0, Only.refl _ _, Grows.refl _ _⟩
      have HK := Lib.hid key
      subst hn
      by_cases b1 : at_ < 0
      · clear key h0 h1 h2 h3 h4 h5 h6 h7 h8 h9 h10 h11 h12 h13 ho hblow hd hlz hs hA ht htk hfl hfe
        go_enter Try.func21, Try.ntmps21
        go_wp2
        go_ret
        exact HK.out
      · by_cases b2 : (S.dur.length : Int) ≤ at_
        · clear key h0 h1 h2 h3 h4 h5 h6 h7 h8 h9 h10 h11 h12 h13 ho hblow hd hlz hs hA ht htk hfl hfe
          go_enter Try.func21, Try.ntmps21
          go_wp2
          go_ret
          exact HK.out
        · have b3 : ¬ l.length = 512 := fun he => ht (by simp [Disk.takes, he]; omega)
          have b4 : ((l.length : Int) != 512) = true := by simp; omega
          clear key h0 h1 h2 h3 h4 h5 h6 h7 h8 h9 h10 h11 h12 h13 ho hblow hd hlz hs hA ht htk hfl hfe b3
          go_enter Try.func21, Try.ntmps21
          go_wp2
          go_ret
          exact HK.out
end Go.Proofs.Ytelcedbcegbbjaa
