/- The walks of the log's load of a new device, and of Open. -/
import Derived.Test.YtambddncncaehaaDoorWalLoad
namespace Go.Proofs.YtambddncncaehaaDoor
open Go.RowKit Dk Wl
set_option linter.unusedVariables false
set_option maxRecDepth 100000

set_option maxHeartbeats 6400000 in
set_option maxRecDepth 100000 in
theorem load_blank {F : List Nat} {d l sz : Nat} {S : Disk} (w : World) (h : DevM w F d S) (ho : S.off = false) (hl : LogC w l d sz 0 0 (.slice none 0 0) [] (.slice none 0 0) [] (.slice none 0 0) [] [] false) (hlen : 1 + 2 * sz ≤ S.dur.length) (hsz1 : 1 ≤ sz) (ht : TabAt w tabG) (hbl : Rc.getE (sec S.last 0) ≠ 0) :
    Calls Tryd.prog 24 #[.pointer (some ⟨l, 0, none⟩)] w (LoadEnd l d sz Lg.zero w) := by
  have hok := h.ok
  have hss : ∀ x ∈ S.last, x.size = 512 := putAll_size hok.sec (fun w hw => (hok.wr w hw).2)
  have hll2 : S.last.length = S.dur.length := putAll_length _ _
  have hsz : sz ≤ 8192 := by
    obtain ⟨_, _, _, _, _, _, _, _, _, _, _, _, _, _, hdl⟩ := h
    omega
  obtain ⟨c0, c1, c2, c3, c4, c5, c6, c7⟩ := hl.cells
  have hlw := hl.llt
  have h0l : 0 < S.dur.length := by omega
  obtain ⟨er0, rv0⟩ := readE_on ho 0 h0l
  replace er0 : S.readE 0 = 0 := er0
  replace rv0 : S.readV 0 = sec S.last 0 := rv0
  have hs0 : (sec S.last 0).length = 512 := sec_length hss (by omega)
  have hrd : Calls Tryd.prog 33 #[.pointer (some ⟨d, 0, none⟩), .int .i64 0] w fun e w' => ∃ A c, e = .returned (.tuple #[.slice A 512 c, .int .i64 0]) ∧ 512 ≤ c ∧ c ≤ maxLen ∧ Sees w' w'.heap.size A (sec S.last 0) ∧ Below w.heap.size w w' := by
    refine (read_any 0 w h).mono ?_
    rintro e w' ⟨A, n, c, rfl, hn, hnc, hcm, hs, hb, _⟩
    rw [rv0] at hn hs
    rw [er0]
    rw [hs0] at hn
    subst hn
    exact ⟨A, c, rfl, hnc, hcm, hs, hb⟩
  have HPL : Hid (∀ w1 A c, Below w.heap.size w w1 → 512 ≤ c → c ≤ maxLen → Sees w1 w1.heap.size A (sec S.last 0) → Calls Tryd.prog 34 #[.pointer (some ⟨l, 0, none⟩), .slice A 512 c] w1 fun e w' => e = .returned (.tuple #[.int .i64 0, .int .i64 0]) ∧ Below w1.heap.size w1 w') := Lib.hid fun w1 A c hb h1 h2 hs =>
    place_no w1 A 512 c _ hs0.symm h1 h2 hs (ht.below hb (Nat.le_refl _)) hbl
  have HRD2 : Hid (∀ w1, Below w.heap.size w w1 → Calls Tryd.prog 35 #[.pointer (some ⟨l, 0, none⟩), .int .i64 0, .int .i64 0] w1 fun e w' => ∃ A c, e = .returned (.tuple #[.slice A 0 c, .int .i64 0]) ∧ c ≤ maxLen ∧ Below w1.heap.size w1 w') := Lib.hid fun w1 hb => by
    refine (read_log w1 (h.below hb) ho ((hb.cell (p := ⟨l, 0, none⟩) hlw).trans c0) ((hb.cell (p := ⟨l, 1, none⟩) hlw).trans c1) 0 0 (by omega) (by omega) hlen _ _ rfl rfl).mono ?_
    rintro e w' ⟨A, c, rfl, k1, k2, k3, k4⟩
    exact ⟨A, c, rfl, k2, k4⟩
  have HSC : Hid (∀ w1 A c, Below w.heap.size w w1 → c ≤ maxLen → Calls Tryd.prog 36 #[.slice A 0 c, .int .i64 1] w1 fun e w' => ∃ A' c', e = .returned (.tuple #[.slice A' 0 c', .int .i64 0]) ∧ Below w1.heap.size w1 w') := Lib.hid fun w1 A c hb h2 => by
    refine (scan_any A 0 c [] 1 w1 rfl (Nat.zero_le _) h2 (by simp) (by omega) (Sees.nil _ _ _) (ht.below hb (Nat.le_refl _))).mono ?_
    rintro e w' ⟨A', c', he, k1, k2, k3, k4⟩
    have hscan : Rc.scan [] 1 = ([], 0) := Rc.scan_no _ _ (by simp [Rc.getE])
    rw [hscan] at he
    exact ⟨A', c', he, k4⟩
  have HPUT : Hid (∀ w1, Below w.heap.size w w1 → Calls Tryd.prog 25 #[.slice none 0 0, .agg #[.int .i64 1, .slice none 0 0]] w1 fun e w' => ∃ A' c', e = .returned (.tuple #[.slice A' 16 c', .int .i64 0]) ∧ Sees w' w'.heap.size A' (Rc.enc 1 []) ∧ (∀ a, A' = some a → w1.heap.size ≤ a.block) ∧ Below w1.heap.size w1 w' ∧ 16 ≤ c' ∧ c' ≤ maxLen) := Lib.hid fun w1 hb => by
    have hput := put_ok none 0 0 [] 1 none 0 0 [] w1 rfl (Sees.nil _ _ _) rfl (Sees.nil _ _ _) (by omega) (by omega) (by simp) (by simp) (ht.below hb (Nat.le_refl _))
    rw [List.nil_append, show ((1 : Nat) : Int) = 1 from rfl] at hput
    refine hput.mono ?_
    rintro e w' ⟨A', c', L, HL, rfl, k1, k2, k3, k4⟩
    obtain rfl := HL.out
    have hl16 : (Rc.enc 1 []).length = 16 := by rw [Rc.enc_length]; rfl
    refine ⟨A', c', by rw [hl16], Sees.of_own k1, fun a ha => ?_, k2, by omega, k4⟩
    subst ha
    rcases k1.2 with ⟨hv, _⟩ | ⟨g, cap, cur, hv, hg, _⟩
    · cases hv
    · injection hv with e1 _ _
      injection e1 with e1
      subst e1
      exact hg
  have HRD := Lib.hid hrd
  have HLC := Lib.hid hl
  clear h ho hl hlen ht hbl hok hss hll2 c1 c2 c3 c4 c6 c7 h0l er0 rv0 hs0 hrd hsz
  go_enter Tryd.func24, Tryd.ntmps24
  go_wp2_with fail
  refine HRD.out.mono ?_
  rintro e w1 ⟨A1, ca, rfl, k1, k2, k3, hb1⟩
  have hp1 := HPL.out w1 A1 ca hb1 k1 k2 k3
  have HP1 := Lib.hid hp1
  have HB1 := Lib.hid hb1
  clear k1 k2 k3 hb1 hp1 HPL HRD
  go_wp2_with fail
  refine HP1.out.mono ?_
  rintro e w2 ⟨rfl, hb2⟩
  have hb02 := HB1.out.trans (hb2.mono HB1.out.size)
  have HR2 := Lib.hid (HRD2.out w2 hb02)
  have HB2 := Lib.hid hb02
  clear hb2 hb02 HP1 HRD2
  go_wp2_with fail
  refine HR2.out.mono ?_
  rintro e w3 ⟨A3, cb, rfl, k2, hb3⟩
  have hb03 := HB2.out.trans (hb3.mono HB2.out.size)
  have HSC3 := Lib.hid (HSC.out w3 A3 cb hb03 k2)
  have HB3 := Lib.hid hb03
  obtain ⟨A4, hsl4, _⟩ := run_head (P := Tryd.prog) Tryd.underlying31 (fun w => by exact Tryd.sizeOf5 w) A3 0 cb 0 (Nat.zero_le _)
  rw [show ((0 : Nat) : Int) = 0 from rfl] at hsl4
  clear k2 hb3 hb03 HSC HR2
  go_wp2_with fail
  refine HSC3.out.mono ?_
  rintro e w4 ⟨Af, cf, rfl, hb4⟩
  have hb04 := HB3.out.trans (hb4.mono HB3.out.size)
  obtain ⟨w6, HW6⟩ : ∃ W, Hid (W = (w4.alloc (.cells #[.int .i64 1, .slice none 0 0] 61)).alloc (.cells #[.int .i64 1, .slice none 0 0] 61)) := ⟨_, Lib.hid rfl⟩
  have hb46 : Below w4.heap.size w4 w6 := by rw [HW6.out]; exact ((Below.refl _ _).alloc (Nat.le_refl _) _).alloc (by simp) _
  have hz6 : w6.heap.size = w4.heap.size + 2 := by rw [HW6.out]; simp
  have n0 : w6.cell? ⟨w4.heap.size, 0, none⟩ = some (.int .i64 1) := by
    rw [HW6.out, (((Below.refl _ _).alloc (Nat.le_refl _) _).cell (w' := _) (p := ⟨w4.heap.size, 0, none⟩) (by simp)), World.cell?_alloc_at _ _ _ _ rfl]; rfl
  have n1 : w6.cell? ⟨w4.heap.size, 1, none⟩ = some (.slice none 0 0) := by
    rw [HW6.out, (((Below.refl _ _).alloc (Nat.le_refl _) _).cell (w' := _) (p := ⟨w4.heap.size, 1, none⟩) (by simp)), World.cell?_alloc_at _ _ _ _ rfl]; rfl
  have hb06 := hb04.trans (hb46.mono hb04.size)
  have HPUT6 := Lib.hid (HPUT.out w6 hb06)
  have HB06 := Lib.hid hb06
  have hm0 : w6.cell? ⟨w4.heap.size + 1, 0, none⟩ = some (.int .i64 1) ∧ w6.cell? ⟨w4.heap.size + 1, 1, none⟩ = some (.slice none 0 0) := by
    rw [HW6.out]
    constructor
    · rw [show w4.heap.size + 1 = (w4.alloc (.cells #[.int .i64 1, .slice none 0 0] 61)).heap.size by simp, World.cell?_alloc_at _ _ _ _ rfl]; rfl
    · rw [show w4.heap.size + 1 = (w4.alloc (.cells #[.int .i64 1, .slice none 0 0] 61)).heap.size by simp, World.cell?_alloc_at _ _ _ _ rfl]; rfl
  have HM0 := Lib.hid hm0
  clear hb4 hb04 hb46 hb06 HSC3 HPUT hm0
  go_wp2_with fail
  rw [← HW6.out]
  refine HPUT6.out.mono ?_
  rintro e w7 ⟨A7, c7, rfl, hs7, hA7, hb7, hc7, hcm7⟩
  have hz6l : w.heap.size ≤ w6.heap.size := HB06.out.size
  have hb07 := HB06.out.trans (hb7.mono hz6l)
  have m1 : w7.cell? ⟨w4.heap.size + 1, 1, none⟩ = some (.slice none 0 0) := (hb7.cell (p := ⟨w4.heap.size + 1, 1, none⟩) (by show w4.heap.size + 1 < _; omega)).trans HM0.out.2
  have hlc7 : LogC w7 l d sz 0 0 (.slice none 0 0) [] (.slice none 0 0) [] (.slice none 0 0) [] [] false := HLC.out.only (Only.of_below hb07 (S := [])) (by simp) (by simp) (by simp) (by simp) (by simp)
  have hlc8 := hlc7.put5 (.slice none 0 0) [] (BRow.nil _)
  obtain ⟨q0, q1, q2, q3, q4, q5, q6, q7⟩ := hlc7.cells
  have f5 := hlc7.free 5
  obtain ⟨At, htl, _⟩ := run_tail_rec (w4.heap.size + 1) 1 1 (Nat.le_refl _) (Nat.le_refl _)
  rw [show (1 : Nat) - 1 = 0 from rfl] at htl
  obtain ⟨w8, HW8⟩ : ∃ W, Hid (W = w7.setCell ⟨l, 5, none⟩ (.slice none 0 0)) := ⟨_, Lib.hid rfl⟩
  have ho8 : Only [l] w7 w8 := by rw [HW8.out]; exact only_setCell w7 ⟨l, 5, none⟩ _
  rw [← HW8.out] at hlc8
  have hs8 : Sees w8 w8.heap.size A7 (Rc.enc 1 []) := hs7.only ho8 (fun _ a ha hm => by
    have := hA7 a ha
    rw [List.mem_singleton] at hm
    omega)
  have hl16 : (Rc.enc 1 []).length = 16 := by rw [Rc.enc_length]; rfl
  have HTL := Lib.hid (tailOf_any A7 16 c7 (Rc.enc 1 []) w8 hl16.symm hc7 hcm7 (by omega) hs8)
  have HLC8 := Lib.hid hlc8
  have HO8 := Lib.hid ho8
  have HB07 := Lib.hid hb07
  unfold maxLen at hcm7
  clear hs7 hA7 hb7 hlc7 hlc8 ho8 hs8 q0 q1 q2 q3 q4 q6 q7 HPUT6 hb07
  go_wp2
  rw [← HW8.out]
  go_loopw [72] (fun i wr => i = .int .i64 0 ∧ w8 = wr) (fun _ _ => 0)
  case atStart => exact ⟨rfl, rfl⟩
  case round =>
    obtain ⟨rfl, rfl⟩ := hrel
    go_wp2_with fail
    refine HTL.out.mono ?_
    rintro e w9 ⟨A9, c9, rfl, m1, m2, m3⟩
    have hlc9 := HLC8.out.only (Only.of_below m2 (S := [])) (by simp) (by simp) (by simp) (by simp) (by simp)
    have hne9 := own_ne m1 hlc9.own (by decide)
    have hv2 : BRow ((w9.setCell ⟨l, 2, none⟩ (.int .i64 ((0 : Nat) : Int))).setCell ⟨l, 3, none⟩ (.int .i64 ((16 : Nat) : Int))) (.slice A9 (tailOf (Rc.enc 1 [])).length c9) (tailOf (Rc.enc 1 [])) :=
      (m1.only (only_setCell w9 ⟨l, 2, none⟩ _) (fun x hx => by simpa using hne9 x (mem_blk.1 hx))).only (only_setCell _ ⟨l, 3, none⟩ _) (fun x hx => by simpa using hne9 x (mem_blk.1 hx))
    have hlcA := ((hlc9.put2 0).put3 16).put4 _ _ hv2
    have hz0 := HB07.out.size
    have hz8 := HO8.out.size
    obtain ⟨G, hG, hGn⟩ := hlcA.inner w (fun x hx => by have := m3 x hx; omega) (fun x hx => by simp [blk, Value.ownBlock] at hx) (fun x hx => by simp [blk, Value.ownBlock] at hx) (fun v hv => by simp at hv)
    have hO9 : Only [l] w (((w9.setCell ⟨l, 2, none⟩ (.int .i64 ((0 : Nat) : Int))).setCell ⟨l, 3, none⟩ (.int .i64 ((16 : Nat) : Int))).setCell ⟨l, 4, none⟩ (.slice A9 (tailOf (Rc.enc 1 [])).length c9)) :=
      (((((Only.of_below HB07.out).trans HO8.out).trans (Only.of_below m2)).setCell (p := ⟨l, 2, none⟩) (.inl (by simp)) _).setCell (p := ⟨l, 3, none⟩) (.inl (by simp)) _).setCell (p := ⟨l, 4, none⟩) (.inl (by simp)) _
    have key : LoadEnd l d sz Lg.zero w (.returned (.int .i64 0)) (((w9.setCell ⟨l, 2, none⟩ (.int .i64 0)).setCell ⟨l, 3, none⟩ (.int .i64 16)).setCell ⟨l, 4, none⟩ (.slice A9 (tailOf (Rc.enc 1 [])).length c9)) :=
      ⟨rfl, G, by rw [Lg.zero_used, Lg.zero_stream]; exact hG, hO9, hGn⟩
    obtain ⟨p0, p1, p2, p3, p4, p5, p6, p7⟩ := hlc9.cells
    have f2 := hlc9.free 2
    have f3 := hlc9.free 3
    have f4 := hlc9.free 4
    have HK := Lib.hid key
    clear key hO9 hG hGn hlcA hv2 hne9 hlc9 m1 m2 m3 p0 p1 p5 p6 p7
    go_wp2
    go_ret
    exact HK.out

/-- What Open ends in. -/
def OpenEnd (d sz : Nat) (L : Lg) (w : World) (e : Ending) (w' : World) : Prop :=
  ∃ l G, e = .returned (.tuple #[.pointer (some ⟨l, 0, none⟩), .int .i64 0]) ∧ LogI w' G l d sz L.half L.used (tailOf L.stream) L.base L.recs false ∧ Below w.heap.size w w' ∧ ∀ b, b ∈ G → w.heap.size ≤ b
theorem open_off {F : List Nat} {d : Nat} {S : Disk} (w : World) (h : DevM w F d S) (ho : S.off = true) : Calls Tryd.prog 10 #[.pointer (some ⟨d, 0, none⟩)] w fun e w' => e = .returned (.tuple #[.pointer none, .int .i64 7]) ∧ w = w' := by
  have hof := off_any w h
  rw [ho] at hof
  have HO := Lib.hid hof
  clear h hof
  go_enter Tryd.func10, Tryd.ntmps10
  go_wp2_with fail
  refine HO.out.mono ?_
  rintro e w1 ⟨rfl, rfl⟩
  go_wp2
  go_ret2
  exact ⟨rfl, rfl⟩
theorem open_small {F : List Nat} {d : Nat} {S : Disk} (w : World) (h : DevM w F d S) (ho : S.off = false) (hn : S.dur.length < 8) : Calls Tryd.prog 10 #[.pointer (some ⟨d, 0, none⟩)] w fun e w' => e = .returned (.tuple #[.pointer none, .int .i64 1]) ∧ w = w' := by
  have hof := off_any w h
  have hse := sectors_any w h
  rw [ho] at hof
  have HO := Lib.hid hof
  have HS := Lib.hid hse
  have hlt : (S.dur.length : Int) < 8 := by omega
  clear h hof hse
  go_enter Tryd.func10, Tryd.ntmps10
  go_wp2_with fail
  refine HO.out.mono ?_
  rintro e w1 ⟨rfl, rfl⟩
  go_wp2_with fail
  refine HS.out.mono ?_
  rintro e w1 ⟨rfl, rfl⟩
  go_wp2
  go_ret2
  exact ⟨rfl, rfl⟩
set_option maxHeartbeats 1600000 in
set_option maxRecDepth 100000 in
theorem open_ok {F : List Nat} {d sz : Nat} {S : Disk} {L : Lg} (w : World) (h : DevM w F d S) (ho : S.off = false) (hn : 8 ≤ S.dur.length) (hsz : sz = (S.dur.length - 1) / 2) (hL : L.Ok sz) (hH : Holds S.last sz L) (ht : TabAt w tabG) :
    Calls Tryd.prog 10 #[.pointer (some ⟨d, 0, none⟩)] w (OpenEnd d sz L w) := by
  have hof := off_any w h
  have hse := sectors_any w h
  rw [ho] at hof
  have hdl : S.dur.length ≤ 8192 := by
    obtain ⟨_, _, _, _, _, _, _, _, _, _, _, _, _, _, hdl⟩ := h
    exact hdl
  obtain ⟨n, Hn⟩ : ∃ n : Nat, Hid (n = S.dur.length) := ⟨_, Lib.hid rfl⟩
  rw [← Hn.out] at hse
  have hn8 : ¬ (n : Int) < 8 := by have := Hn.out; omega
  have hn9 : (8 : Int) ≤ (n : Int) := by omega
  have hnm : (n : Int) ≤ 8192 := by have := Hn.out; omega
  have hq : ((n : Int) - 1) / 2 = (sz : Int) := by have := Hn.out; omega
  obtain ⟨w1, Hw1⟩ : ∃ w1, Hid (w1 = w.alloc (.cells #[.pointer (some ⟨d, 0, none⟩), .int .i64 (sz : Int), .int .i64 0, .int .i64 0, .slice none 0 0, .slice none 0 0, .slice none 0 0, .bool false] 58)) := ⟨_, Lib.hid rfl⟩
  have hb1 : Below w.heap.size w w1 := by rw [Hw1.out]; exact (Below.refl _ _).alloc (Nat.le_refl _) _
  have hlc : LogC w1 w.heap.size d sz 0 0 (.slice none 0 0) [] (.slice none 0 0) [] (.slice none 0 0) [] [] false :=
    ⟨by rw [Hw1.out]; exact new_block w _, BRow.nil _, BRow.nil _, World.ownsRow_nil _ _ _ _, Parts.nil _ _ _⟩
  have hlen : 1 + 2 * sz ≤ S.dur.length := by omega
  have hld : Calls Tryd.prog 24 #[.pointer (some ⟨w.heap.size, 0, none⟩)] w1 (LoadEnd w.heap.size d sz L w1) := by
    rcases hH with ⟨h1, h2⟩ | ⟨h1, rfl⟩
    · exact load_stored w1 (h.below hb1) ho hlc hL hlen (ht.below hb1 (Nat.le_refl _)) h1 h2
    · exact load_blank w1 (h.below hb1) ho hlc hlen (by omega) (ht.below hb1 (Nat.le_refl _)) h1
  have HLD := Lib.hid hld
  have HO := Lib.hid hof
  have HS := Lib.hid hse
  have HB1 := Lib.hid hb1
  clear h hof hse ho hn hsz hL hH ht hdl hb1 hlc hlen hld
  go_enter Tryd.func10, Tryd.ntmps10
  go_wp2_with fail
  refine HO.out.mono ?_
  rintro e w2 ⟨rfl, rfl⟩
  go_wp2_with fail
  refine HS.out.mono ?_
  rintro e w2 ⟨rfl, rfl⟩
  go_wp2_with fail
  refine HS.out.mono ?_
  rintro e w2 ⟨rfl, rfl⟩
  go_wp2_with fail
  rw [← Hw1.out]
  refine HLD.out.mono ?_
  rintro e w3 ⟨rfl, G, hG, hO, hGn⟩
  have key : OpenEnd d sz L w (.returned (.tuple #[.pointer (some ⟨w.heap.size, 0, none⟩), .int .i64 0])) w3 :=
    ⟨w.heap.size, G, rfl, hG, HB1.out.trans (hO.below HB1.out.size (fun b hb => by rw [List.mem_singleton] at hb; omega)), fun b hb => by
      rcases hGn b hb with h' | h'
      · omega
      · have := HB1.out.size; omega⟩
  have HK := Lib.hid key
  clear key hG hO hGn HLD
  go_wp2
  go_ret2
  exact HK.out
end Go.Proofs.YtambddncncaehaaDoor
