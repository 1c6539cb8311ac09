/- The iterator's closure, walked. -/
import Derived.Test.YtgpkdnnlgafenaaKvIter
namespace Go.Proofs.Ytgpkdnnlgafenaa
open Go.RowKit Kv
set_option linter.unusedVariables false
attribute [local go_sem] Oper.semAt_some

set_option maxRecDepth 100000 in
set_option maxHeartbeats 2000000 in
theorem pairs1_none (n : Nat) (hn : 1 ≤ n) (l bt bk t : Nat) (A : Option Addr) (c : Nat) (x : Value) (key : ByteArray) (α : Type) (J : List α → World → Prop) (W : World) (hJ : AbidesFrom W.heap.size J)
    (h1 : W.cell? ⟨bt, 0, none⟩ = some (.pointer (some ⟨t, 0, none⟩))) (h2 : W.cell? ⟨bk, 0, none⟩ = some (.string key)) (hh : W.heap[t]? = some (.cells #[.slice A 0 c, x] 67 (0, 0))) (h0 : J [] W) :
    CallsIn Fence.wide n Try.prog 46 #[.func (.yield l) #[] #[], .pointer (some ⟨bt, 0, none⟩), .pointer (some ⟨bk, 0, none⟩)] W fun e W' => (∃ v, e = .returned v) ∧ J [] W' := by
  have HF := Lib.hid (callsIn_wide (n := n - 1).2 (find_none W t key A c x _ hh))
  have fin : ∀ W', Below W.heap.size W W' → (W'.cell? ⟨bt, 0, none⟩ = some (.pointer (some ⟨t, 0, none⟩)) ∧ W'.cell? ⟨t, 0, none⟩ = some (.slice A 0 c)) ∧ J [] W' := fun W' hb => by
    refine ⟨⟨(hb.cell (p := ⟨bt, 0, none⟩) (World.block_lt_of_cell? W _ h1)).trans h1, ?_⟩, hJ _ W _ none h0 (Below.grownNone hb) (fun r e => by cases e)⟩
    simp [World.cell?, hb.block t (Array.getElem?_eq_some_iff.1 hh).1, hh]
  have FIN := Lib.hid fin
  clear fin hh h0 hJ
  refine callsIn_of_wp Try.func46 rfl trivial ?_ rfl
  simp only [Try.ntmps46, List.size_toArray, List.length_cons, List.length_nil, Nat.reduceAdd, Nat.reduceSub, Array.replicate_succ, Array.replicate_zero, List.push_toArray, List.append_toArray, List.nil_append, List.cons_append]
  gi_wp2
  refine ⟨trivial, HF.out.mono ?_⟩
  rintro e w2 ⟨rfl, hb2⟩
  obtain ⟨⟨q1, q2⟩, q3⟩ := FIN.out w2 hb2
  have HQ := Lib.hid q3
  clear q3 hb2
  gi_wp2
  gi_loopw [4, 5] (fun a b wr => a = .int .i64 0 ∧ wr = w2) (fun _ _ _ => 0)
  case atStart => exact ⟨rfl, rfl⟩
  case round =>
    obtain ⟨rfl, rfl⟩ := hrel
    gi_wp2
    go_end0
    exact ⟨⟨_, rfl⟩, HQ.out⟩
set_option maxRecDepth 100000 in
set_option maxHeartbeats 4000000 in
theorem pairs1_some (n : Nat) (hn : 2 ≤ n) (l bt bk t r c1 g c2 N : Nat) (X F : List Nat) (L : List Ent) (key : ByteArray) (J Jx : List {x : Ent // x ∈ L} → World → Prop) (W : World) (hJ : AbidesFrom W.heap.size J)
    (hbt : bt < N ∧ bt ∉ X) (hN : N ≤ W.heap.size) (h1 : W.cell? ⟨bt, 0, none⟩ = some (.pointer (some ⟨t, 0, none⟩))) (h2 : W.cell? ⟨bk, 0, none⟩ = some (.string key)) (ht : TabN W t F r c1 g c2 L) (hasc : Asc (L.map Ent.pr)) (hlen : L.length ≤ 1000000)
    (hF : ∀ i, i ∈ F → i < N ∧ i ∉ X) (hV : ∀ e, e ∈ L → ∀ i, i ∈ blk e.v → i < N ∧ i ∉ X)
    (hY : ∀ pre x W1, J pre W1 → pre.length < L.length → YieldAt Fence.wide (n - 1) Try.prog l (encE x) W1 fun e W' => (e = .returned (.bool true) ∧ J (pre ++ [x]) W' ∧ KeepX N X W1 W') ∨ (e = .returned (.bool false) ∧ Jx (pre ++ [x]) W'))
    (h0 : J [] W) :
    CallsIn Fence.wide n Try.prog 46 #[.func (.yield l) #[] #[], .pointer (some ⟨bt, 0, none⟩), .pointer (some ⟨bk, 0, none⟩)] W fun e W' => (∃ v, e = .returned v) ∧ ((∃ xs, xs = elems L (pos (L.map Ent.pr) key) ∧ J xs W') ∨ (∃ pre, pre <+: elems L (pos (L.map Ent.pr) key) ∧ Jx pre W')) := by
  have h1n : 1 ≤ n := by omega
  have h1n2 : 1 ≤ n - 1 := by omega
  obtain ⟨p, Hp⟩ : ∃ p, Hid (p = pos (L.map Ent.pr) key) := ⟨_, Lib.hid rfl⟩
  have hpL : p ≤ L.length := by
    have := pos_le (L.map Ent.pr) key
    rw [List.length_map] at this
    rw [Hp.out]; exact this
  have hf := find_any W t r c1 g c2 F L key ht hasc hlen
  rw [← Hp.out] at hf ⊢
  obtain ⟨hh, Hhh⟩ : ∃ b, Hid (b = hit (L.map Ent.pr) key) := ⟨_, Lib.hid rfl⟩
  rw [← Hhh.out] at hf
  have HF := Lib.hid (callsIn_wide (n := n - 1).2 hf)
  have HT := Lib.hid ht
  obtain ⟨_, _, _, _, _, hgc, hcm⟩ := ht.cells
  have hab : ∀ pre A B, J pre A → Below A.heap.size A B → J pre B := fun pre A B hj hb => hJ _ A B none hj (Below.grownNone hb) (fun r e => by cases e)
  have HAB := Lib.hid hab
  have cells : ∀ V, KeepX N X W V → V.cell? ⟨bt, 0, none⟩ = some (.pointer (some ⟨t, 0, none⟩)) ∧ TabN V t F r c1 g c2 L := fun V hV' =>
    ⟨(hV'.cell (p := ⟨bt, 0, none⟩) hbt.1 hbt.2).trans h1, ht.keepX hV' hF hV⟩
  have HCELLS := Lib.hid cells
  have HY := Lib.hid hY
  have H0 := Lib.hid h0
  have hN0 := Lib.hid hN
  obtain ⟨A3, hsl, hA3⟩ := run_slice_lo (P := Try.prog) Try.underlying37 Try.sizeOf63 (some ⟨g, 0, none⟩) L.length c2 p hpL
  have HSL := Lib.hid hsl
  have HA3 := Lib.hid hA3
  have hgc' : (L.length : Int) ≤ c2 := by omega
  clear hf ht hab cells hY h0 hJ hF hV hbt hasc hsl hA3 hN
  refine callsIn_of_wp Try.func46 rfl trivial ?_ rfl
  simp only [Try.ntmps46, List.size_toArray, List.length_cons, List.length_nil, Nat.reduceAdd, Nat.reduceSub, Array.replicate_succ, Array.replicate_zero, List.push_toArray, List.append_toArray, List.nil_append, List.cons_append]
  gi_wp2
  refine ⟨trivial, HF.out.mono ?_⟩
  rintro e w2 ⟨rfl, hb2⟩
  have HB2 := Lib.hid (KeepX.of_below (X := X) hb2 hN0.out)
  have HJ2 := Lib.hid (HAB.out _ _ _ H0.out hb2)
  clear hb2 h1 h2
  gi_wp2
  gi_loopw [4, 5] (fun a b wr => ∃ i : Nat, i ≤ 1 ∧ a = .int .i64 i ∧ b = .int .i64 (if i = 0 then (p : Int) else 0) ∧ Hid (KeepX N X W wr ∧ J (if i = 0 then [] else elems L p) wr)) (fun a _ _ => 1 - (intOf a).toNat)
  case atStart => exact ⟨0, by omega, rfl, rfl, Lib.hid ⟨HB2.out, HJ2.out⟩⟩
  case round =>
    obtain ⟨i, hi, rfl, rfl, HI⟩ := hrel
    obtain ⟨q1, q2⟩ := HCELLS.out wr HI.out.1
    obtain ⟨q3, _, q5, _⟩ := q2.cells
    clear q2
    have hi' : i = 0 ∨ i = 1 := by omega
    rcases hi' with rfl | rfl
    · have hsl := HSL.out
      obtain ⟨q, Hq⟩ : ∃ q, Hid (q = L.length - p) := ⟨_, Lib.hid rfl⟩
      rw [← Hq.out] at hsl
      have hq1 : p + q ≤ L.length := by rw [Hq.out]; omega
      have hq2 : q ≤ 1000000 := by omega
      have HI0 : Hid (KeepX N X W wr ∧ J [] wr) := Lib.hid HI.out
      clear HI
      simp only [if_true]
      rw [show ((0 : Nat) : Int) = 0 from rfl]
      obtain ⟨wo, rfl⟩ : ∃ wo : World, wo = wr := ⟨_, rfl⟩
      gi_wp2
      clear hsl
      gi_loopw [8, 35] (fun _ a wr => ∃ j : Nat, j ≤ q ∧ a = .int .i64 j ∧ Hid (KeepX N X W wr ∧ J ((elems L p).take j) wr)) (fun _ a _ => q - (intOf a).toNat)
      case atStart => exact ⟨0, Nat.zero_le _, rfl, Lib.hid ⟨HI0.out.1, by simpa using HI0.out.2⟩⟩
      case round =>
        obtain ⟨j, hj, rfl, HI⟩ := hrel
        by_cases hlt : j < q
        · have hpj : p + j < L.length := by omega
          obtain ⟨_, q2⟩ := HCELLS.out wr HI.out.1
          obtain ⟨k1, k2, A, m, c', ev, hm, hm1, hm2, _⟩ := prow_cells q2.row (p + j) hpj
          rw [show (p + j) * 2 = p * 2 + j * 2 by omega] at k1 k2
          have hA : A3 = some ⟨g, p * 2, none⟩ := by
            rw [HA3.out (by omega)]; simp only [Option.map_some, add_to, Nat.zero_add]
          subst hA
          have hel : j < (elems L p).length := by rw [elems_length]; omega
          have hxe : (elems L p)[j].1 = L[p + j] := elems_at L p j hel
          have hb3 : ∀ o, Below wr.heap.size wr (wr.alloc o) := fun o => (Below.refl _ _).alloc (Nat.le_refl _) o
          have hy0 := HY.out ((elems L p).take j) (elems L p)[j] (wr.alloc (.cells #[.string L[p + j].k, L[p + j].v] 63)) (HAB.out _ _ _ HI.out.2 (hb3 _)) (by rw [List.length_take]; omega)
          rw [← List.take_succ_eq_append_getElem hel] at hy0
          have eE : encE (elems L p)[j] = #[.agg #[.string L[p + j].k, L[p + j].v]] := by unfold encE; rw [hxe]
          rw [eE, ev] at hy0
          rw [ev] at k2
          obtain ⟨kk, Hkk⟩ : ∃ kk, Hid (kk = L[p + j].k) := ⟨_, Lib.hid rfl⟩
          rw [← Hkk.out] at hy0 k1
          obtain ⟨fn, tmps, assign, body, hy, hR⟩ := hy0
          have HK3 := Lib.hid (HI.out.1.trans (KeepX.of_below (X := X) (hb3 (.cells #[.string kk, .slice A m c'] 63)) (Nat.le_trans hN0.out HI.out.1.size)))
          have HR := Lib.hid hR
          clear hb3 hxe q2 hm ev hR hel eE
          gi_wp2
          refine HR.out.mono ?_
          rintro e W3 (⟨rfl, hJ3, hk3⟩ | ⟨rfl, hJx3⟩)
          · have HN : Hid (KeepX N X W W3 ∧ J ((elems L p).take (j + 1)) W3) := Lib.hid ⟨HK3.out.trans hk3, hJ3⟩
            clear hJ3 hk3 k1 k2 hy
            gi_wp2
            go_roundw
            case rel => exact ⟨j + 1, by omega, by simp, HN⟩
            case measure => simp [intOf]; omega
          · have HN : Hid (Jx ((elems L p).take (j + 1)) W3) := Lib.hid hJx3
            clear hJx3 k1 k2 hy
            gi_wp2
            refine bodyPost_ret (results_none rfl _ _ _) rfl ?_
            exact ⟨⟨_, rfl⟩, .inr ⟨_, List.take_prefix _ _, HN.out⟩⟩
        · obtain rfl : j = q := by omega
          have HN : Hid (KeepX N X W wr ∧ J (elems L p) wr) := Lib.hid ⟨HI.out.1, by have := HI.out.2; rwa [List.take_of_length_le (by rw [elems_length]; have := Hq.out; omega)] at this⟩
          clear HI
          gi_wp2
          go_roundw
          case rel => exact ⟨1, by omega, rfl, rfl, HN⟩
          case measure => simp [intOf]
    · gi_wp2
      go_end0
      exact ⟨⟨_, rfl⟩, .inl ⟨_, rfl, HI.out.2⟩⟩
end Go.Proofs.Ytgpkdnnlgafenaa
