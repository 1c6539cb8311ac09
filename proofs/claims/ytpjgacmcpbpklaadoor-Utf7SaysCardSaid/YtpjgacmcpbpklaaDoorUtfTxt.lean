/- appendText. -/
import Derived.Test.YtpjgacmcpbpklaaDoorUtfUn
import Derived.Deep.QuietTactic
import Derived.BigQuiet
namespace Go.Proofs.YtpjgacmcpbpklaaDoor
open Go.RowKit
set_option linter.unusedVariables false

theorem brow_base {w : World} {v : Value} {l : List UInt8} {B : Nat} (h : BRow w v l) (hf : ∀ k, k ∈ blk v → B ≤ k) : w.ownsRow B 5 1 v l.length (bv l) := by
  refine ⟨h.1, ?_⟩
  rcases h.2 with h0 | ⟨g, cap, cur, rfl, hbg, rest⟩
  · exact .inl h0
  · exact .inr ⟨g, cap, cur, rfl, hf g (mem_blk.2 rfl), rest⟩
theorem base_brow {w : World} {v : Value} {l : List UInt8} {B : Nat} (h : w.ownsRow B 5 1 v l.length (bv l)) : BRow w v l ∧ ∀ k, k ∈ blk v → B ≤ k :=
  ⟨own_base h (Nat.zero_le _), fun k hk => (h.lt k (mem_blk.1 hk)).1⟩

/-- A row of bytes handed back, all of it new since block B. -/
def BFar (B : Nat) (l : List UInt8) (w : World) (e : Ending) (w' : World) : Prop := ∃ A c L, Hid (L = l) ∧ e = .returned (.slice A L.length c) ∧ BRow w' (.slice A L.length c) L ∧ (∀ k, k ∈ blk (.slice A L.length c) → B ≤ k) ∧ Below B w w'

/-- utf8.AppendRune, with what it leaves of a row of another type. -/
theorem appendRune_any (B : Nat) (w : World) (v : Value) (l : List UInt8) (h : BRow w v l) (hf : ∀ k, k ∈ blk v → B ≤ k) (hB : B ≤ w.heap.size) (r : Nat) (hr : r ≤ 1114111) (hl : l.length + 4 ≤ 140737488355328) (e : TypeId) (hne : e ≠ 5) (u : Value) (xs : List Value) (hu : VRow w e u xs) :
    Calls Tryd.prog 45 #[v, .int .i32 (r : Int)] w fun e' w' => BFar B (l ++ U7.eR r) w e' w' ∧ VRow w' e u xs := by
  refine (Tryd.utf8_AppendRune_plain B v l.length (bv l) (r : Int) (by omega) (by omega) w (brow_base h hf) hl hB).mono ?_
  rintro e' w' ⟨v', rfl, h1, o, h2⟩
  have hc : Lib.runeCells (r : Int) = bv (U7.eR r) := by rw [← Lib.byteCells_encodeRune]; rfl
  rw [hc, bv_length, ← bv_append, ← List.length_append] at h1
  obtain ⟨h3, h4⟩ := base_brow h1
  obtain ⟨A, c, rfl, _, _⟩ := h3.shape
  refine ⟨⟨A, c, _, Lib.hid rfl, rfl, h3, h4, ?_⟩, ?_⟩
  · exact ((Below.refl B w).alloc hB o).grown h2 (by simp; omega) (fun k hk => hf k (mem_blk.2 hk))
  · have hu1 : (w.alloc o).ownsRow 0 e 1 u xs.length xs := World.ownsRow.alloc hu o
    have hv1 : (w.alloc o).ownsRow 0 5 1 v l.length (bv l) := World.ownsRow.alloc h o
    exact hu1.kept h2 (own_own_ne hu1 hv1 hne)

/-- s[k:] of a slice at ⟨g, j⟩. -/
theorem run_from {P : Program} {t e : TypeId} (ht : P.underlying t = some (.slice e)) (hz : ∀ w, (Go.sizeOf e).run P w = .ok 1 w) (g j n c k : Nat) (hk : k ≤ n) (hc : n ≤ c) (K : Int) (hK : K = (k : Int)) :
    ∃ A', (∀ W, (Instr.slice t (.slice (some ⟨g, j, none⟩) n c) (some (.int .i64 K)) none none).run P W = .ok (.slice A' (n - k) (c - k)) W) ∧ (k < c → A' = some ⟨g, j + k, none⟩) := by
  subst hK
  refine ⟨if c = k then some ⟨g, j, none⟩ else some ⟨g, j + k, none⟩, fun W => ?_, fun h => by rw [if_neg (by omega)]⟩
  have ht' : P.underlying t = some (.slice (P.elem t)) := by simp [Program.elem, ht]
  have he : P.elem t = e := by simp [Program.elem, ht]
  rw [run_slice_l W t (some ⟨g, j, none⟩) _ _ ht' .i64 _ (by omega) (by omega), he, hz]
  by_cases h : c = k
  · simp [Result.andThen, sliced, h]
  · simp [Result.andThen, sliced, h, add_to]

theorem isHigh_of (u : Nat) (b : Bool) (h : decide (U7.isHi u) = b) (w : World) : Calls Tryd.prog 43 #[.int .u16 (u : Int)] w fun e w' => e = .returned (.bool b) ∧ w = w' := by rw [← h]; exact isHigh_any u w
theorem isLow_of (u : Nat) (b : Bool) (h : decide (U7.isLo u) = b) (w : World) : Calls Tryd.prog 44 #[.int .u16 (u : Int)] w fun e w' => e = .returned (.bool b) ∧ w = w' := by rw [← h]; exact isLow_any u w

set_option maxHeartbeats 3200000 in
set_option maxRecDepth 100000 in
theorem appendText_any (B : Nat) (w : World) (v : Value) (l : List UInt8) (h : BRow w v l) (hf : ∀ k, k ∈ blk v → B ≤ k) (hB : B ≤ w.heap.size) (vu : Value) (us : List Nat) (hu : URow w vu us) (hul : ∀ u ∈ us, u < 65536) (hl : l.length ≤ 10000000000000) (hun : us.length ≤ 1000000000000) :
    Calls Tryd.prog 35 #[v, vu] w (BFar B (l ++ U7.text us) w) := by
  obtain ⟨A0, c0, rfl, hc0, hm0⟩ := h.shape
  obtain ⟨Au, cu, rfl, hcu, hmu⟩ := hu.shape
  have key : ∃ g, us ≠ [] → Au = some ⟨g, 0, none⟩ := by
    by_cases h0 : us = []
    · exact ⟨0, fun h => absurd h0 h⟩
    · obtain ⟨g, cap, e, _⟩ := VRow.form hu (by rw [uv_length]; exact List.length_pos_iff.2 h0)
      injection e with e1 e2 e3
      exact ⟨g, fun _ => e1⟩
  obtain ⟨g, hg⟩ := key
  have HB := Lib.hid h
  have HF := Lib.hid hf
  have HU := Lib.hid hu
  have HG := Lib.hid hg
  clear h hf hu hg
  go_enter Tryd.func35, Tryd.ntmps35
  go_wp2
  go_loopw [0, 1] (fun s0 s1 wr => ∃ (j : Nat) (A A' : Option Addr) (c : Nat) (L : List UInt8), j ≤ us.length ∧ s0 = .slice A L.length c ∧ s1 = .slice A' (us.length - j) (cu - j) ∧ Hid (j < us.length → A' = some ⟨g, j, none⟩) ∧
      Hid (BRow wr (.slice A L.length c) L) ∧ Hid (∀ b, b ∈ blk (.slice A L.length c) → B ≤ b) ∧ Hid (Below B w wr) ∧ Hid (URow wr (.slice Au us.length cu) us) ∧ Hid (L.length ≤ l.length + 4 * j) ∧ Hid (L ++ U7.text (us.drop j) = l ++ U7.text us))
    (fun _ s1 _ => match s1 with | .slice _ n _ => n | _ => 0)
  case atStart =>
    exact ⟨0, A0, Au, c0, l, Nat.zero_le _, rfl, rfl, Lib.hid (fun h => HG.out (fun e => by subst e; simp at h)), HB, HF, Lib.hid (Below.refl _ _), HU, Lib.hid (by omega), Lib.hid rfl⟩
  case round =>
    obtain ⟨j, A, A', c, L, hj, rfl, rfl, HA, HRow, HFar, HBel, HURow, HLen, HInv⟩ := hrel
    by_cases hlt : j < us.length
    · have hA := HA.out hlt
      subst hA
      have hAu := HG.out (fun e => by subst e; simp at hlt)
      obtain ⟨g', cap, e1, _, _, _, _, hcell⟩ := VRow.form HURow.out (by rw [uv_length]; omega)
      injection e1 with e1 e2 e3
      rw [hAu] at e1
      injection e1 with e1
      injection e1 with e1
      subst e1
      clear e2 e3
      have huv : ∀ i (hi : i < us.length), (uv us)[i]'(by rw [uv_length]; exact hi) = .int .u16 (us[i] : Int) := fun i hi => by simp [uv]
      obtain ⟨u0, Hu0⟩ : ∃ u0, Hid (u0 = us[j]) := ⟨_, Lib.hid rfl⟩
      have hc0' := hcell j (by rw [uv_length]; exact hlt)
      rw [huv j hlt, ← Hu0.out] at hc0'
      have hu0 : u0 < 65536 := by rw [Hu0.out]; exact hul _ (List.getElem_mem hlt)
      obtain ⟨n, hn⟩ : ∃ n, us.length - j = n := ⟨_, rfl⟩
      obtain ⟨C, hC⟩ : ∃ C, cu - j = C := ⟨_, rfl⟩
      have hnC : n ≤ C := by omega
      have hn0 : 0 < n := by omega
      have hn0z : (0 : Int) < (n : Int) := by omega
      have hB1 : B ≤ wr.heap.size := Nat.le_trans hB HBel.out.size
      have hL1 : L.length + 4 ≤ 140737488355328 := by have := HLen.out; omega
      rw [hn, hC]
      have HN := Lib.hid hn
      have HCc := Lib.hid hC
      have HCELL := Lib.hid hcell
      have HUV := Lib.hid huv
      have hdrop : us.drop j = u0 :: us.drop (j + 1) := by rw [Hu0.out]; exact List.drop_eq_getElem_cons hlt
      have HDROP := Lib.hid hdrop
      have hnext : ∀ (k r : Nat), 1 ≤ k → k ≤ n → U7.text (us.drop j) = U7.eR r ++ U7.text (us.drop (j + k)) → ∀ (A2 : Option Addr) (w3 : World) (A3 : Option Addr) (c3 : Nat) (L3 : List UInt8), (k < C → A2 = some ⟨g, j + k, none⟩) → L3 = L ++ U7.eR r → BRow w3 (.slice A3 L3.length c3) L3 → (∀ b, b ∈ blk (.slice A3 L3.length c3) → B ≤ b) → Below B wr w3 → URow w3 (.slice Au us.length cu) us →
          ∃ (j' : Nat) (A A' : Option Addr) (c : Nat) (L' : List UInt8), j' ≤ us.length ∧ (.slice A3 L3.length c3 : Value) = .slice A L'.length c ∧ (.slice A2 (n - k) (C - k) : Value) = .slice A' (us.length - j') (cu - j') ∧ Hid (j' < us.length → A' = some ⟨g, j', none⟩) ∧
            Hid (BRow w3 (.slice A L'.length c) L') ∧ Hid (∀ b, b ∈ blk (.slice A L'.length c) → B ≤ b) ∧ Hid (Below B w w3) ∧ Hid (URow w3 (.slice Au us.length cu) us) ∧ Hid (L'.length ≤ l.length + 4 * j') ∧ Hid (L' ++ U7.text (us.drop j') = l ++ U7.text us) := by
        intro k r hk1 hkn ht A2 w3 A3 c3 L3 hA2 hL3 h3 h3f h3b h3u
        have z1 := HN.out
        have z2 := HCc.out
        refine ⟨j + k, A3, A2, c3, L3, by omega, rfl, ?_, Lib.hid fun hjk => hA2 (by omega), Lib.hid h3, Lib.hid h3f, Lib.hid (HBel.out.trans h3b), Lib.hid h3u, Lib.hid ?_, Lib.hid ?_⟩
        · rw [show us.length - (j + k) = n - k from by omega, show cu - (j + k) = C - k from by omega]
        · have := HLen.out
          have := U7.encodeRune_len (r : Int)
          rw [hL3, List.length_append]
          unfold U7.eR
          omega
        · rw [← HInv.out, ht, hL3, List.append_assoc]
      have HNX := Lib.hid hnext
      have hrune : ∀ r : Nat, r ≤ 1114111 → Calls Tryd.prog 45 #[.slice A L.length c, .int .i32 (r : Int)] wr fun e' w' => BFar B (L ++ U7.eR r) wr e' w' ∧ URow w' (.slice Au us.length cu) us := fun r hr =>
        appendRune_any B wr (.slice A L.length c) L HRow.out HFar.out hB1 r hr hL1 52 (by decide) (.slice Au us.length cu) (uv us) HURow.out
      have HRUNE := Lib.hid hrune
      clear hcell huv hn hC hdrop hnext hrune hAu
      by_cases hn1 : 1 < n
      · have hlt1 : j + 1 < us.length := by have := HN.out; omega
        obtain ⟨u1, Hu1⟩ : ∃ u1, Hid (u1 = us[j + 1]) := ⟨_, Lib.hid rfl⟩
        have hc1' := HCELL.out (j + 1) (by rw [uv_length]; exact hlt1)
        rw [HUV.out (j + 1) hlt1, ← Hu1.out] at hc1'
        have hu1 : u1 < 65536 := by rw [Hu1.out]; exact hul _ (List.getElem_mem hlt1)
        have hdrop1 : us.drop (j + 1) = u1 :: us.drop (j + 1 + 1) := by rw [Hu1.out]; exact List.drop_eq_getElem_cons hlt1
        have HDROP1 := Lib.hid hdrop1
        have hn1z : (1 : Int) < (n : Int) := by omega
        clear hdrop1
        cases hH : decide (U7.isHi u0) with
        | false =>
          have HH := Lib.hid hH
          clear hH
          obtain ⟨A2, hsl, hA2⟩ := run_from (P := Tryd.prog) Tryd.underlying31 Tryd.szU16 g j n C 1 hn0 hnC 1 rfl
          have HSL := Lib.hid hsl
          have HA2 := Lib.hid hA2
          have ht : U7.text (us.drop j) = U7.eR u0 ++ U7.text (us.drop (j + 1)) := by
            rw [HDROP.out, HDROP1.out, U7.text, if_neg (by rintro ⟨a, b⟩; exact (of_decide_eq_false HH.out) a)]; rfl
          have HT := Lib.hid ht
          have HCALL := Lib.hid (HRUNE.out u0 (by omega))
          clear hsl hA2 ht
          go_wp2_with fail
          refine (isHigh_of u0 _ HH.out _).mono ?_
          rintro e w4 ⟨rfl, rfl⟩
          go_wp2_with fail
          refine HCALL.out.mono ?_
          rintro e w3 ⟨⟨A3, c3, L3, HL3, rfl, h3, h3f, h3b⟩, h3u⟩
          have hsl := HSL.out
          go_wp2
          exact ⟨HNX.out 1 u0 (Nat.le_refl _) hn0 HT.out A2 w3 A3 c3 L3 HA2.out HL3.out h3 h3f h3b h3u, by show n - 1 < n; omega⟩
        | true =>
          have HH := Lib.hid hH
          clear hH
          cases hLo : decide (U7.isLo u1) with
          | false =>
            have HLo := Lib.hid hLo
            clear hLo
            obtain ⟨A2, hsl, hA2⟩ := run_from (P := Tryd.prog) Tryd.underlying31 Tryd.szU16 g j n C 1 hn0 hnC 1 rfl
            have HSL := Lib.hid hsl
            have HA2 := Lib.hid hA2
            have ht : U7.text (us.drop j) = U7.eR u0 ++ U7.text (us.drop (j + 1)) := by
              rw [HDROP.out, HDROP1.out, U7.text, if_neg (by rintro ⟨a, b⟩; exact (of_decide_eq_false HLo.out) b)]; rfl
            have HT := Lib.hid ht
            have HCALL := Lib.hid (HRUNE.out u0 (by omega))
            clear hsl hA2 ht
            go_wp2_with fail
            refine (isHigh_of u0 _ HH.out _).mono ?_
            rintro e w4 ⟨rfl, rfl⟩
            go_wp2_with fail
            refine (isLow_of u1 _ HLo.out _).mono ?_
            rintro e w4 ⟨rfl, rfl⟩
            go_wp2_with fail
            refine HCALL.out.mono ?_
            rintro e w3 ⟨⟨A3, c3, L3, HL3, rfl, h3, h3f, h3b⟩, h3u⟩
            have hsl := HSL.out
            go_wp2
            exact ⟨HNX.out 1 u0 (Nat.le_refl _) hn0 HT.out A2 w3 A3 c3 L3 HA2.out HL3.out h3 h3f h3b h3u, by show n - 1 < n; omega⟩
          | true =>
            have HLo := Lib.hid hLo
            clear hLo
            obtain ⟨A2, hsl, hA2⟩ := run_from (P := Tryd.prog) Tryd.underlying31 Tryd.szU16 g j n C 2 hn1 hnC 2 rfl
            have HSL := Lib.hid hsl
            have HA2 := Lib.hid hA2
            have ht : U7.text (us.drop j) = U7.eR (65536 + (u0 - 55296) * 1024 + (u1 - 56320)) ++ U7.text (us.drop (j + 2)) := by
              rw [HDROP.out, HDROP1.out, U7.text, if_pos ⟨of_decide_eq_true HH.out, of_decide_eq_true HLo.out⟩]; rfl
            have HT := Lib.hid ht
            have i0 := of_decide_eq_true HH.out
            have i1 := of_decide_eq_true HLo.out
            unfold U7.isHi at i0
            unfold U7.isLo at i1
            obtain ⟨p, Hp⟩ : ∃ p, Hid (p = 65536 + (u0 - 55296) * 1024 + (u1 - 56320)) := ⟨_, Lib.hid rfl⟩
            obtain ⟨d, Hd⟩ : ∃ d, Hid (d = u0 - 55296) := ⟨_, Lib.hid rfl⟩
            obtain ⟨q, Hq⟩ : ∃ q, Hid (q = 65536 + d * 1024 + u1) := ⟨_, Lib.hid rfl⟩
            have k1 : (u0 : Int) - 55296 = (d : Int) := by rw [Hd.out]; omega
            have k2 : 65536 + (d : Int) * 1024 + (u1 : Int) = (q : Int) := by rw [Hq.out]; omega
            have k3 : (q : Int) - 56320 = (p : Int) := by rw [Hq.out, Hp.out, Hd.out]; omega
            have k4 : d < 1024 := by rw [Hd.out]; omega
            have k5 : q < 1200000 := by rw [Hq.out]; omega
            have k6 : q ≥ 121856 := by rw [Hq.out]; omega
            have HCALL := Lib.hid (HRUNE.out (65536 + (u0 - 55296) * 1024 + (u1 - 56320)) (by omega))
            rw [← Hp.out] at HCALL HT
            clear i0 i1 hsl hA2 ht
            go_wp2_with fail
            refine (isHigh_of u0 _ HH.out _).mono ?_
            rintro e w4 ⟨rfl, rfl⟩
            go_wp2_with fail
            refine (isLow_of u1 _ HLo.out _).mono ?_
            rintro e w4 ⟨rfl, rfl⟩
            go_wp2_with fail
            refine HCALL.out.mono ?_
            rintro e w3 ⟨⟨A3, c3, L3, HL3, rfl, h3, h3f, h3b⟩, h3u⟩
            have hsl := HSL.out
            go_wp2
            exact ⟨HNX.out 2 _ (by decide) hn1 HT.out A2 w3 A3 c3 L3 HA2.out HL3.out h3 h3f h3b h3u, by show n - 2 < n; omega⟩
      · have hn1z : ¬ (1 : Int) < (n : Int) := by omega
        obtain ⟨A2, hsl, hA2⟩ := run_from (P := Tryd.prog) Tryd.underlying31 Tryd.szU16 g j n C 1 hn0 hnC 1 rfl
        have HSL := Lib.hid hsl
        have HA2 := Lib.hid hA2
        have ht : U7.text (us.drop j) = U7.eR u0 ++ U7.text (us.drop (j + 1)) := by
          have : us.drop (j + 1) = [] := List.drop_of_length_le (by have := HN.out; omega)
          rw [HDROP.out, this]; simp [U7.text, U7.eR]
        have HT := Lib.hid ht
        have HCALL := Lib.hid (HRUNE.out u0 (by omega))
        clear hsl hA2 ht
        go_wp2_with fail
        refine HCALL.out.mono ?_
        rintro e w3 ⟨⟨A3, c3, L3, HL3, rfl, h3, h3f, h3b⟩, h3u⟩
        have hsl := HSL.out
        go_wp2
        exact ⟨HNX.out 1 u0 (Nat.le_refl _) hn0 HT.out A2 w3 A3 c3 L3 HA2.out HL3.out h3 h3f h3b h3u, by show n - 1 < n; omega⟩
    · obtain rfl : j = us.length := by omega
      have hz : ¬ (0 : Int) < ((us.length - us.length : Nat) : Int) := by omega
      have hinv := HInv.out
      rw [List.drop_length, U7.text, List.append_nil] at hinv
      have HINV := Lib.hid hinv
      clear hinv
      rw [Nat.sub_self]
      go_wp2
      go_ret
      exact ⟨A, c, L, HINV, rfl, HRow.out, HFar.out, HBel.out⟩
end Go.Proofs.YtpjgacmcpbpklaaDoor
