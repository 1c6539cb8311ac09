/- The walks of the log's space, sector, tailOf, writeHead, store. -/
import Derived.Test.YtambddncncaehaaDoorWalWrite
namespace Go.Proofs.YtambddncncaehaaDoor
open Go.RowKit Dk Wl
set_option linter.unusedVariables false
set_option maxRecDepth 100000

theorem space_any {l sz : Nat} (w : World) (h1 : w.cell? ⟨l, 1, none⟩ = some (.int .i64 (sz : Int))) (hz : sz ≤ 8192) : Calls Tryd.prog 27 #[.pointer (some ⟨l, 0, none⟩)] w fun e w' => e = .returned (.int .i64 ((sz : Int) * 512)) ∧ w = w' := by
  go_enter Tryd.func27, Tryd.ntmps27
  go_wp2
  go_ret
  exact ⟨rfl, rfl⟩
theorem sector_any {l sz : Nat} (w : World) (h1 : w.cell? ⟨l, 1, none⟩ = some (.int .i64 (sz : Int))) (hz : sz ≤ 8192) (half at_ : Nat) (hh : half ≤ 1) (ha : at_ ≤ 100000) (r : Nat) (hr : r = 1 + half * sz + at_) :
    Calls Tryd.prog 41 #[.pointer (some ⟨l, 0, none⟩), .int .i64 (half : Int), .int .i64 (at_ : Int)] w fun e w' => e = .returned (.int .i64 (r : Int)) ∧ w = w' := by
  have hm : ((half : Int) * (sz : Int)) = ((half * sz : Nat) : Int) := by simp
  have hle : half * sz ≤ 8192 := Nat.le_trans (Nat.mul_le_mul_right sz hh) (by omega)
  subst hr
  obtain ⟨m, Hm⟩ : ∃ m : Nat, Hid (m = half * sz) := ⟨_, Lib.hid rfl⟩
  rw [← Hm.out] at hm hle ⊢
  go_enter Tryd.func41, Tryd.ntmps41
  go_wp2
  go_ret
  exact ⟨by simp, rfl⟩
theorem tailOf_any (A : Option Addr) (n c : Nat) (b : List UInt8) (w : World) (hn : n = b.length) (hnc : n ≤ c) (hcm : c ≤ maxLen) (hbig : n ≤ 140737488355328) (hs : Sees w w.heap.size A b) :
    Calls Tryd.prog 37 #[.slice A n c] w fun e w' => ∃ A' c', e = .returned (.slice A' (tailOf b).length c') ∧ BRow w' (.slice A' (tailOf b).length c') (tailOf b) ∧ Below w.heap.size w w' ∧ ∀ k, k ∈ blk (.slice A' (tailOf b).length c') → w.heap.size ≤ k := by
  subst hn
  obtain ⟨q, Hq⟩ : ∃ q : Nat, Hid (q = b.length / 512) := ⟨_, Lib.hid rfl⟩
  have hq : q * 512 ≤ b.length := by have := Hq.out; omega
  have hq2 : ((b.length : Int) / 512) = (q : Int) := by have := Hq.out; omega
  obtain ⟨A', hsl, hsee⟩ := run_tail (P := Tryd.prog) Tryd.underlying31 (fun w => by exact Tryd.sizeOf5 w) hs b.length c (q * 512) rfl (by omega) hnc
  have ht : b.drop (q * 512) = tailOf b := by unfold tailOf; rw [← Hq.out]
  rw [ht] at hsee
  rw [show ((q * 512 : Nat) : Int) = (q : Int) * 512 by simp] at hsl
  have hlen : b.length - q * 512 = (tailOf b).length := by rw [← ht, List.length_drop]
  rw [hlen] at hsl
  have hcl := clone_opt A' (tailOf b).length (c - q * 512) (tailOf b) w.heap.size w rfl (by rw [← hlen]; omega) hsee
  have HCL := Lib.hid hcl
  unfold maxLen at hcm
  clear hcl hs hsee ht hlen
  go_enter Tryd.func37, Tryd.ntmps37
  go_wp2_with fail
  refine HCL.out.mono ?_
  rintro e w' ⟨A2, c2, rfl, k1, k2, k3, k4, k5⟩
  have HK := Lib.hid (⟨A2, c2, rfl, k1, k4, k5⟩ : ∃ A' c', (Ending.returned (.slice A2 (tailOf b).length c2)) = .returned (.slice A' (tailOf b).length c') ∧ BRow w' (.slice A' (tailOf b).length c') (tailOf b) ∧ Below w.heap.size w w' ∧ ∀ k, k ∈ blk (.slice A' (tailOf b).length c') → w.heap.size ≤ k)
  clear k1 k2 k3 k4 k5
  go_wp2
  go_ret
  exact HK.out

set_option maxHeartbeats 1600000 in
set_option maxRecDepth 100000 in
theorem writeHead_any {Q : List ByteArray → Prop} {F : List Nat} {d l : Nat} {S : Disk} (w : World) (h : DevM w F d S) (hl : w.cell? ⟨l, 0, none⟩ = some (.pointer (some ⟨d, 0, none⟩))) (hlF : l ∉ F) (ht : TabAt w tabG) (half used : Nat) (hh : half ≤ 1) (hu1 : 1 ≤ used) (hu2 : used ≤ 100000000)
    (ho : S.off = false) (hc0 : S.cache = []) (hD : 1 ≤ S.dur.length) (hQ : Q S.dur) (hst : Step Q S.dur.length 0 (Rc.enc used [UInt8.ofNat half]) 1) :
    Calls Tryd.prog 42 #[.pointer (some ⟨l, 0, none⟩), .int .i64 (half : Int), .int .i64 (used : Int)] w (WfEnd Q F d S 0 (Rc.enc used [UInt8.ofNat half]) 1 w) := by
  have hcv : IntKind.u8.wrap (half : Int) = (half : Int) := by
    have : half = 0 ∨ half = 1 := by omega
    rcases this with rfl | rfl <;> rfl
  have hbn : ((UInt8.ofNat half).toNat : Int) = (half : Int) := by
    have : half = 0 ∨ half = 1 := by omega
    rcases this with rfl | rfl <;> rfl
  obtain ⟨w1, Hw1⟩ : ∃ w1, Hid (w1 = w.alloc (.cells #[.int .u8 (half : Int)] 5)) := ⟨_, Lib.hid rfl⟩
  have hb1 : Below w.heap.size w w1 := by rw [Hw1.out]; exact (Below.refl _ _).alloc (Nat.le_refl _) _
  have hz1 : w1.heap.size = w.heap.size + 1 := by rw [Hw1.out]; simp
  have hs2 : Sees w1 w1.heap.size (some ⟨w.heap.size, 0, none⟩) [UInt8.ofNat half] := by
    rw [Hw1.out]
    refine (Sees.new w 5 #[.int .u8 (half : Int)] [UInt8.ofNat half] ?_).mono (by simp)
    show [Value.int .u8 (half : Int)] = [Value.int .u8 ((UInt8.ofNat half).toNat : Int)]
    rw [hbn]
  have hput := put_ok none 0 0 [] used (some ⟨w.heap.size, 0, none⟩) 1 1 [UInt8.ofNat half] w1 rfl (Sees.nil _ _ _) rfl hs2 hu1 (by omega) (by simp) (by simp) (ht.below hb1 (Nat.le_refl _))
  rw [List.nil_append] at hput
  have hel : (Rc.enc used [UInt8.ofNat half]).length = 17 := by rw [Rc.enc_length]; rfl
  have hwf := fun (w2 : World) (A : Option Addr) (c : Nat) (hb : Below w.heap.size w w2) (hc : 17 ≤ c) (hcm : c ≤ maxLen) (hs : Sees w2 w2.heap.size A (Rc.enc used [UInt8.ofNat half])) (hA : ∀ a, A = some a → w.heap.size ≤ a.block) =>
    writeFrom_any (Q := Q) (F := F) (d := d) (l := l) (S := S) w2 (h.below hb) ((hb.cell (p := ⟨l, 0, none⟩) (World.block_lt_of_cell? w _ hl)).trans hl) hlF 0 A 17 c _ hel.symm hc hcm hs (fun a ha hm => by have := hA a ha; have := h.lt _ hm; omega) 1 (by rw [hel]) (by rw [hel]; omega) ho hc0 (by omega) hQ hst
  rw [show ((0 : Nat) : Int) = 0 from rfl] at hwf
  have HWF := Lib.hid hwf
  have HP := Lib.hid hput
  have HB1 := Lib.hid hb1
  clear hwf hput hb1 hs2 h hl ht hst hQ hbn
  go_enter Tryd.func42, Tryd.ntmps42
  go_wp2_with fail
  rw [← Hw1.out]
  refine HP.out.mono ?_
  rintro e w2 ⟨A2, c2, L, HL, rfl, hrow, hb2, hc2, hcm2⟩
  obtain rfl := HL.out
  have hb02 : Below w.heap.size w w2 := HB1.out.trans (hb2.mono (by omega))
  have hA2 : ∀ a, A2 = some a → w.heap.size ≤ a.block := fun a ha => by
    obtain ⟨g, cp, hv, hg, _⟩ := own_form hrow (by rw [hel]; omega)
    injection hv with e1 _ _
    rw [ha] at e1
    injection e1 with e1
    subst e1
    show w.heap.size ≤ g
    omega
  have hsee := Sees.of_own hrow
  have hcall := HWF.out w2 A2 c2 hb02 (by rw [← hel]; exact hc2) hcm2 hsee hA2
  rw [hel]
  have HC := Lib.hid hcall
  have HB := Lib.hid hb02
  clear hb2 hb02 hA2 hsee hcall hrow HP HWF
  go_wp2_with fail
  refine HC.out.mono ?_
  rintro e w3 ⟨er, F', S', rfl, k1, k2, k3, k4, k5⟩
  have HK := Lib.hid (show WfEnd Q F d S 0 (Rc.enc used [UInt8.ofNat half]) 1 w (.returned (.int .i64 er)) w3 from ⟨er, F', S', rfl, k1, (Only.of_below HB.out).trans k2, fun x hx => (k3 x hx).imp id (fun h => by have := HB.out.size; omega), k4, k5⟩)
  clear k1 k2 k3 k4 k5
  go_wp2
  go_ret
  exact HK.out

/-- What store ends in. -/
def StoreEnd (F G : List Nat) (d l : Nat) (S : Disk) (sz half used : Nat) (tl base : List UInt8) (recs : List (List UInt8)) (L L' : Lg) (w : World) (e : Ending) (w' : World) : Prop :=
  ∃ er F' G' S', e = .returned (.int .i64 er) ∧ Turns F G F' G' w w' ∧ S'.dur.length = S.dur.length ∧
    ((er = 0 ∧ S'.off = false ∧ S'.cache = [] ∧ Holds S'.dur sz L' ∧ Duo w' F' G' d l S' sz L'.half L'.used (tailOf L'.stream) base recs false ∧ (S.calls = 0 → S'.calls = 0) ∧ S.off = false) ∨
     (er = 7 ∧ S'.off = true ∧ (Holds S'.dur sz L ∨ Holds S'.dur sz L') ∧ Duo w' F' G' d l S' sz half used tl base recs true ∧ (S.calls ≠ 0 ∨ S.off = true) ∧ (S.off = true → Holds S'.dur sz L)))
theorem tailOf_pre (pre b : List UInt8) (a : Nat) (h : pre.length = a * 512) : tailOf (pre ++ b) = tailOf b := by
  unfold tailOf
  have e : (pre ++ b).length / 512 * 512 = pre.length + b.length / 512 * 512 := by rw [List.length_append]; omega
  rw [e, List.drop_append, Nat.add_sub_cancel_left, List.drop_of_length_le (by omega), List.nil_append]
section
variable {w w' : World} {F G : List Nat} {d l sz half used : Nat} {S : Disk} {tl base : List UInt8} {recs : List (List UInt8)} {dn : Bool}
/-- Stores into the log's own fields. -/
theorem Duo.done (h : Duo w F G d l S sz half used tl base recs dn) (b : Bool) : Duo (w.setCell ⟨l, 7, none⟩ (.bool b)) F G d l S sz half used tl base recs b ∧ Turns F G F G w (w.setCell ⟨l, 7, none⟩ (.bool b)) := by
  have ho := only_setCell w ⟨l, 7, none⟩ (.bool b)
  have hm := h.log.mem
  refine ⟨⟨h.dev.only ho (fun x hx hn => by rw [List.mem_singleton] at hn; subst hn; exact h.ap _ hx hm), ?_, h.ap, h.tab.only ho (fun hn => by rw [List.mem_singleton] at hn; exact h.tG (by rw [hn]; exact hm)), h.tF, h.tG⟩, Turns.log (ho.more (fun x hx => by rw [List.mem_singleton] at hx; subst hx; exact hm)) (Grows.refl _ _)⟩
  obtain ⟨vt, vb, vr, vs, h1, h2, h3, h4, h5, h6, h7⟩ := h.log
  exact ⟨vt, vb, vr, vs, h1.put7 b, h2, h3, h4, h5, h6, fun x hx => by simpa [World.setCell] using h7 x hx⟩
theorem Duo.place (h : Duo w F G d l S sz half used tl base recs dn) (half' used' : Nat) (v : Value) (t : List UInt8) (hv : BRow w v t) (w0 : World) (hz : w0.heap.size ≤ w.heap.size) (hn : ∀ k, k ∈ blk v → w0.heap.size ≤ k ∧ k ∉ F ∧ k ≠ tabG) :
    Duo (((w.setCell ⟨l, 2, none⟩ (.int .i64 (half' : Int))).setCell ⟨l, 3, none⟩ (.int .i64 (used' : Int))).setCell ⟨l, 4, none⟩ v) F (blk v ++ G) d l S sz half' used' t base recs dn ∧
      Only G w (((w.setCell ⟨l, 2, none⟩ (.int .i64 (half' : Int))).setCell ⟨l, 3, none⟩ (.int .i64 (used' : Int))).setCell ⟨l, 4, none⟩ v) ∧ Grows G (blk v ++ G) w0 := by
  have hm := h.log.mem
  have ho : Only [l] w (((w.setCell ⟨l, 2, none⟩ (.int .i64 (half' : Int))).setCell ⟨l, 3, none⟩ (.int .i64 (used' : Int))).setCell ⟨l, 4, none⟩ v) :=
    (((Only.refl [l] w).setCell (p := ⟨l, 2, none⟩) (.inl (by simp)) _).setCell (p := ⟨l, 3, none⟩) (.inl (by simp)) _).setCell (p := ⟨l, 4, none⟩) (.inl (by simp)) _
  refine ⟨⟨h.dev.only ho (fun x hx hn => by rw [List.mem_singleton] at hn; subst hn; exact h.ap _ hx hm), ?_, fun x hx hn' => ?_, h.tab.only ho (fun hn => by rw [List.mem_singleton] at hn; exact h.tG (by rw [hn]; exact hm)), h.tF, fun hn' => ?_⟩, ho.more (fun x hx => by rw [List.mem_singleton] at hx; subst hx; exact hm), fun x hx => ?_⟩
  · obtain ⟨vt, vb, vr, vs, h1, h2, h3, h4, h5, h6, h7⟩ := h.log
    have hne := own_ne hv h1.own (by decide)
    have hv2 : BRow ((w.setCell ⟨l, 2, none⟩ (.int .i64 (half' : Int))).setCell ⟨l, 3, none⟩ (.int .i64 (used' : Int))) v t :=
      (hv.only (only_setCell w ⟨l, 2, none⟩ _) (fun k hk => by simpa using hne k (mem_blk.1 hk))).only (only_setCell _ ⟨l, 3, none⟩ _) (fun k hk => by simpa using hne k (mem_blk.1 hk))
    refine ⟨v, vb, vr, vs, ((h1.put2 half').put3 used').put4 v t hv2, List.mem_append_right _ h2, fun k hk => List.mem_append_left _ hk, fun k hk => List.mem_append_right _ (h4 k hk), fun k hk => List.mem_append_right _ (h5 k hk), fun u hu k hk => List.mem_append_right _ (h6 u hu k hk), fun b hb => ?_⟩
    have : b < w.heap.size := by
      rcases List.mem_append.1 hb with hb | hb
      · exact hv.lt b hb
      · exact h7 b hb
    simpa [World.setCell] using this
  · rcases List.mem_append.1 hn' with h1 | h1
    · exact (hn x h1).2.1 hx
    · exact h.ap x hx h1
  · rcases List.mem_append.1 hn' with h1 | h1
    · exact (hn _ h1).2.2 rfl
    · exact h.tG h1
  · rcases List.mem_append.1 hx with h1 | h1
    · exact .inr (hn x h1).1
    · exact .inl h1
end
theorem holds_two {sz : Nat} {L L' : Lg} {D : List ByteArray} (h : Two sz L L' D) : Holds D sz L ∨ Holds D sz L' := h.1

set_option maxHeartbeats 3200000 in
set_option maxRecDepth 100000 in
theorem store_any {F G : List Nat} {d l sz half used at_ : Nat} {S : Disk} {tl base : List UInt8} {recs : List (List UInt8)} (L L' : Lg) (w : World) (h : Duo w F G d l S sz half used tl base recs false) (hz : sz ≤ 8192) (hL' : L'.Ok sz)
    (A : Option Addr) (n c : Nat) (b pre : List UInt8) (hn : n = b.length) (hnc : n ≤ c) (hcm : c ≤ maxLen) (hs : Sees w w.heap.size A b) (hA : ∀ a, A = some a → a.block ∉ F ∧ a.block ∉ G) (hsm : b.length ≤ 400000)
    (hpre : pre.length = at_ * 512) (hstr : L'.stream = pre ++ b) (nn : Nat) (hnn : nn = (b.length + 511) / 512) (hbne : b ≠ []) (hc0 : S.cache = []) (hD : 1 + L'.half * sz + at_ + nn ≤ S.dur.length)
    (hH : Holds S.dur sz L) (hst : Step (fun D => Holds D sz L) S.dur.length (1 + L'.half * sz + at_) b nn) (hpl : Placed (putAll S.dur (wrs (1 + L'.half * sz + at_) b nn)) (1 + L'.half * sz) L'.stream) :
    Calls Tryd.prog 28 #[.pointer (some ⟨l, 0, none⟩), .int .i64 (L'.half : Int), .int .i64 (at_ : Int), .slice A n c] w (StoreEnd F G d l S sz half used tl base recs L L' w) := by
  subst hn
  have hu : L'.used = at_ * 512 + b.length := by
    show L'.stream.length = _
    rw [hstr, List.length_append, hpre]
  have hup := L'.used_pos
  have hul := hL'.used
  have hhf := hL'.half
  obtain ⟨q0, q1, q2, q3, q7⟩ := h.log.cells
  have hatl : at_ ≤ 100000 := by omega
  obtain ⟨fs, Hfs⟩ : ∃ fs : Nat, Hid (fs = 1 + L'.half * sz + at_) := ⟨_, Lib.hid rfl⟩
  have hsec := sector_any w q1 hz L'.half at_ hhf hatl fs Hfs.out
  have hwf : Calls Tryd.prog 40 #[.pointer (some ⟨l, 0, none⟩), .int .i64 (fs : Int), .slice A b.length c] w (WfEnd (fun D => Holds D sz L) F d S fs b nn w) := by
    cases ho : S.off
    · exact writeFrom_any (Q := fun D => Holds D sz L) w h.dev q0 (fun hm => h.ap _ hm h.log.mem) fs A b.length c b rfl hnc hcm hs (fun a ha => (hA a ha).1) nn hnn hsm ho hc0 (by rw [Hfs.out]; exact hD) hH (by rw [Hfs.out]; exact hst)
    · have hdl : S.dur.length ≤ 8192 := by
        obtain ⟨_, _, _, _, _, _, _, _, _, _, _, _, _, _, hdl⟩ := h.dev
        exact hdl
      exact writeFrom_off (Q := fun D => Holds D sz L) w h.dev q0 fs (by rw [Hfs.out]; omega) A b.length c b rfl hnc hcm hs hbne nn ho hH
  have htl : tailOf L'.stream = tailOf b := by rw [hstr]; exact tailOf_pre pre b at_ hpre
  obtain ⟨u', Hu⟩ : ∃ u' : Nat, Hid (u' = L'.used) := ⟨_, Lib.hid rfl⟩
  obtain ⟨hf', Hh⟩ : ∃ x : Nat, Hid (x = L'.half) := ⟨_, Lib.hid rfl⟩
  have huI : ((at_ : Int) * 512 + (b.length : Int)) = (u' : Int) := by rw [Hu.out, hu]; simp
  have hhead : ∀ (F1 : List Nat) (S1 : Disk) (w1 : World), Duo w1 F1 G d l S1 sz half used tl base recs false → S1.off = false → S1.cache = [] → S1.dur = putAll S.dur (wrs fs b nn) → Calls Tryd.prog 42 #[.pointer (some ⟨l, 0, none⟩), .int .i64 (hf' : Int), .int .i64 (u' : Int)] w1 (WfEnd (Two sz L L') F1 d S1 0 (headOf L') 1 w1) := fun F1 S1 w1 hd1 ho1 hc1 hd => by
    have hq : Two sz L L' S1.dur := by
      rw [hd, Hfs.out]
      exact ⟨.inl (put_keeps hH hst), hpl⟩
    have hl1 : 1 ≤ S1.dur.length := by rw [hd, putAll_length]; omega
    have := writeHead_any (Q := Two sz L L') w1 hd1.dev hd1.log.cells.1 (fun hm => hd1.ap _ hm hd1.log.mem) hd1.tab L'.half L'.used hhf (by omega) (by omega) ho1 hc1 hl1 hq (head_step L L' (by omega))
    rw [Hh.out, Hu.out]
    exact this
  have hhput : ∀ (S1 : Disk), S1.dur = putAll S.dur (wrs fs b nn) → Holds (putAll S1.dur (wrs 0 (headOf L') 1)) sz L' := fun S1 hd => by
    rw [hd, Hfs.out]
    exact head_put hpl (by rw [putAll_length]; omega)
  have HSEC := Lib.hid hsec
  have HWF := Lib.hid hwf
  have HHEAD := Lib.hid hhead
  have HHPUT := Lib.hid hhput
  have HDUO := Lib.hid h
  have HS := Lib.hid hs
  have HA := Lib.hid hA
  have HT := Lib.hid htl
  have HL := Lib.hid (⟨hu, hup, hul⟩ : _ ∧ _ ∧ _)
  have hcm' := hcm
  unfold maxLen at hcm'
  rw [← Hh.out] at HSEC ⊢
  have hat : (at_ : Int) ≤ 100000 := by omega
  clear hsec hwf hhead hhput h hs hA htl hu hup hul q0 q2 q3 q7 hst hpl hH hstr hD hhf hpre hc0 hbne
  go_enter Tryd.func28, Tryd.ntmps28
  go_wp2_with fail
  refine HSEC.out.mono ?_
  rintro e w1 ⟨rfl, rfl⟩
  go_wp2_with fail
  refine HWF.out.mono ?_
  rintro e w2 ⟨er, F2, S2, rfl, m1, m2, m3, m4, m5⟩
  have hduo2 := HDUO.out.turn m1 m2 m3
  have ht2 : Turns F G F2 G w w2 := Turns.dev m2 m3
  rcases m5 with ⟨rfl, o1, o2, o3, o4⟩ | ⟨rfl, o1, o2, o4⟩
  · have HCA := Lib.hid o4
    have HON2 := Lib.hid o1
    clear o4
    have hh := HHEAD.out F2 S2 w2 hduo2 o1 o2 o3
    have HHD := Lib.hid hh
    have HP := Lib.hid (HHPUT.out S2 o3)
    have HD2 := Lib.hid hduo2
    have HT2 := Lib.hid ht2
    have HM4 := Lib.hid m4
    have HM2 := Lib.hid m2
    clear hh hduo2 ht2 m1 m2 m3 m4 o1 o2 o3 HHEAD HHPUT HWF HSEC
    go_wp2_with fail
    refine HHD.out.mono ?_
    rintro e w3 ⟨er, F3, S3, rfl, m1, m2, m3, m4, m5⟩
    have hduo3 := HD2.out.turn m1 m2 m3
    have ht3 : Turns F G F3 G w w3 := HT2.out.trans (Turns.dev m2 m3)
    rcases m5 with ⟨rfl, o1, o2, o3, o4⟩ | ⟨rfl, o1, o2, o4⟩
    · have HCB := Lib.hid (⟨fun h0 => o4.1 (HCA.out.1 h0), HCA.out.2⟩ : (S.calls = 0 → S3.calls = 0) ∧ S.off = false)
      clear o4
      have hsee3 : Sees w3 w3.heap.size A b := HS.out.only ((HM2.out.step m2 (fun x hx => HT2.out.gF x hx))) (fun _ a ha => (HA.out a ha).1)
      have htl := tailOf_any A b.length c b w3 rfl hnc hcm (by omega) hsee3
      have HTL := Lib.hid htl
      have HD3 := Lib.hid hduo3
      have HT3 := Lib.hid ht3
      have HO := Lib.hid (⟨o1, o2, o3⟩ : _ ∧ _ ∧ _)
      have HM := Lib.hid (m4.trans HM4.out)
      clear m1 m2 m3 m4 o1 o2 o3 hduo3 ht3 htl hsee3 HHD HD2 HT2 HM4 HM2
      go_wp2_with fail
      refine HTL.out.mono ?_
      rintro e w4 ⟨A4, c4, rfl, k1, k2, k3⟩
      have hduo4 := HD3.out.below k2
      obtain ⟨p1, p2, p3⟩ := hduo4.place hf' u' (.slice A4 (tailOf b).length c4) (tailOf b) k1 w3 k2.size (fun k hk => ⟨k3 k hk, fun hm => by have := HD3.out.dev.lt _ hm; have := k3 k hk; omega, fun e => by have := HD3.out.tab.lt; have := k3 k hk; omega⟩)
      have key : StoreEnd F G d l S sz half used tl base recs L L' w (.returned (.int .i64 0)) (((w4.setCell ⟨l, 2, none⟩ (.int .i64 (hf' : Int))).setCell ⟨l, 3, none⟩ (.int .i64 (u' : Int))).setCell ⟨l, 4, none⟩ (.slice A4 (tailOf b).length c4)) :=
        ⟨0, F3, _, S3, rfl, HT3.out.trans (Turns.log ((Only.of_below k2).trans p2) p3), HM.out, .inl ⟨rfl, HO.out.1, HO.out.2.1, by rw [HO.out.2.2]; exact HP.out, by rw [HT.out, ← Hh.out, ← Hu.out]; exact p1, HCB.out⟩⟩
      obtain ⟨g0, g1, g2, g3, g7⟩ := hduo4.log.cells
      obtain ⟨At, ct, g4, _⟩ := hduo4.log.tailAt
      have f2 := hduo4.log.free 2
      have f3 := hduo4.log.free 3
      have f4 := hduo4.log.free 4
      have HK := Lib.hid key
      clear key p1 p2 p3 hduo4 k1 k2 k3 g0 g1 g7
      go_wp2
      go_ret
      exact HK.out
    · obtain ⟨p1, p2⟩ := hduo3.done true
      have key : StoreEnd F G d l S sz half used tl base recs L L' w (.returned (.int .i64 7)) (w3.setCell ⟨l, 7, none⟩ (.bool true)) :=
        ⟨7, F3, G, S3, rfl, ht3.trans p2, m4.trans HM4.out, .inr ⟨rfl, o1, holds_two o2, p1, o4.elim (fun h => .inl (fun h0 => h (HCA.out.1 h0))) (fun h => absurd h (by rw [HON2.out]; decide)), fun h => absurd h (by rw [HCA.out.2]; decide)⟩⟩
      obtain ⟨g0, g1, g2, g3, g7⟩ := hduo3.log.cells
      have f7 := hduo3.log.free 7
      have HK := Lib.hid key
      clear key p1 p2 hduo3 ht3 m1 m2 m3 m4 o1 o2 g0 g1 g2 g3 HHD HD2 HT2 HM4 HM2
      go_wp2
      go_ret
      exact HK.out
  · obtain ⟨p1, p2⟩ := hduo2.done true
    have key : StoreEnd F G d l S sz half used tl base recs L L' w (.returned (.int .i64 7)) (w2.setCell ⟨l, 7, none⟩ (.bool true)) :=
      ⟨7, F2, G, S2, rfl, ht2.trans p2, m4, .inr ⟨rfl, o1, .inl o2, p1, o4, fun _ => o2⟩⟩
    obtain ⟨g0, g1, g2, g3, g7⟩ := hduo2.log.cells
    have f7 := hduo2.log.free 7
    have HK := Lib.hid key
    clear key p1 p2 hduo2 ht2 m1 m2 m3 m4 o1 o2 g0 g1 g2 g3 HHEAD HHPUT HWF HSEC
    go_wp2
    go_ret
    exact HK.out
end Go.Proofs.YtambddncncaehaaDoor
