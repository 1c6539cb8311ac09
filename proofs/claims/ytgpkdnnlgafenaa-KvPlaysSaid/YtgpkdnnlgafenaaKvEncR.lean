/- KvEnc, KvDRow: these texts in one. -/
import Derived.Test.YtgpkdnnlgafenaaKvAll
import Derived.Test.YtgpkdnnlgafenaaKvPut
import Derived.Test.YtgpkdnnlgafenaaKvArg
import Derived.Test.YtgpkdnnlgafenaaAppend
namespace Go.Proofs.Ytgpkdnnlgafenaa
open Go.RowKit Kv
set_option linter.unusedVariables false

def EncEnd (l : List Pt) (w : World) (e : Ending) (w' : World) : Prop :=
  ∃ A n c, e = .returned (.slice A n c) ∧ n = (encode l).length ∧ n ≤ c ∧ c ≤ maxLen ∧ BRow w' (.slice A n c) (encode l) ∧ Below w.heap.size w w'
theorem take_le_encs (l : List Pt) (hm : may l = true) (hl : l.length ≤ 400) (k : Nat) : (encs (l.take k)).length ≤ 100000000 := by
  have h1 : may (l.take k) = true := List.all_eq_true.2 fun x hx => List.all_eq_true.1 hm x (List.mem_of_mem_take hx)
  have h2 := encs_le (l.take k) h1
  rw [List.length_take] at h2
  have : min k l.length * 200207 ≤ 400 * 200207 := Nat.mul_le_mul_right _ (by omega)
  omega

set_option maxHeartbeats 1600000 in
set_option maxRecDepth 100000 in
theorem encode_any (w : World) (A : Option Addr) (n c : Nat) (l : List Pt) (X : List Nat) (hn : n = l.length) (hm : n ≤ 400) (hp : Puts w w.heap.size X A l) (hk : ∀ x ∈ l, x.k.size ≤ maxLen) :
    Calls Try.prog 16 #[.slice A n c] w (EncEnd l w) := by
  subst hn
  obtain ⟨B, HB⟩ : ∃ B, Hid (B = may l) := ⟨_, Lib.hid rfl⟩
  have HA := Lib.hid (all_may A l.length c l X w rfl (by unfold maxLen; omega) hp hk B HB.out)
  have HP := Lib.hid hp
  have HK := Lib.hid hk
  obtain ⟨w0, rfl⟩ : ∃ w0, w0 = w := ⟨_, rfl⟩
  clear hp hk
  cases B with
  | false =>
    go_enter Try.func16, Try.ntmps16
    go_wp2_with fail
    refine HA.out.mono ?_
    rintro e w1 ⟨rfl, hb1⟩
    have key : EncEnd l w0 (.returned (.slice none 0 0)) w1 := ⟨none, 0, 0, rfl, by simp [encode, ← HB.out], Nat.le_refl _, Nat.zero_le _, by simp only [encode, ← HB.out]; exact BRow.nil _, hb1⟩
    have KEY := Lib.hid key
    clear key hb1
    go_wp2
    go_ret
    exact KEY.out
  | true =>
    have HM : Hid (may l = true) := Lib.hid HB.out.symm
    go_enter Try.func16, Try.ntmps16
    go_wp2_with fail
    refine HA.out.mono ?_
    rintro e w1 ⟨rfl, hb1⟩
    have HB1 := Lib.hid hb1
    clear hb1
    go_wp2_with fail
    go_loopw [3, 11] (fun b i wr => ∃ (k : Nat) (A : Option Addr) (c : Nat) (L : List UInt8), k ≤ l.length ∧ b = .slice A L.length c ∧ i = .int .i64 k ∧ Hid (L = encs (l.take k) ∧ BRow wr (.slice A L.length c) L ∧ Below w0.heap.size w0 wr ∧ ∀ b, b ∈ blk (.slice A L.length c) → w0.heap.size ≤ b)) (fun _ i _ => l.length - (intOf i).toNat)
    case atStart => exact ⟨0, none, 0, [], Nat.zero_le _, rfl, rfl, Lib.hid ⟨rfl, BRow.nil _, HB1.out, fun b hb => by simp [blk, Value.ownBlock] at hb⟩⟩
    case round =>
      obtain ⟨k, Ab, cb, L, hk, rfl, rfl, HI⟩ := hrel
      by_cases hlt : k < l.length
      · obtain ⟨h1, h2, h3, h4⟩ := HI.out
        have hll : L.length ≤ 100000000 := by rw [h1]; exact take_le_encs l HM.out hm k
        have hpw : Puts wr w0.heap.size X A l := HP.out.below h3 (Nat.le_refl _)
        obtain ⟨g, o, A', c', rfl, hg, k1, k2, k3, k4, k5, k6⟩ := hpw.at k hlt
        have hgw : g < wr.heap.size := by have := h3.size; omega
        have hxo := List.all_eq_true.1 HM.out l[k] (List.getElem_mem hlt)
        have hen : encs (l.take (k + 1)) = L ++ enc1 l[k] := by rw [List.take_succ_eq_append_getElem hlt, encs_snoc, h1]
        obtain ⟨x, Hx⟩ : ∃ x, Hid (x = l[k]) := ⟨_, Lib.hid rfl⟩
        rw [← Hx.out] at k1 k2 k3 k4 k6 hxo hen
        obtain ⟨kk, v, gg⟩ := x
        simp only at k1 k2 k3 k4 k6
        obtain ⟨w2, Hw2⟩ : ∃ w2, Hid (w2 = wr.alloc (.cells #[.string kk, .slice A' v.length c', .bool gg] 29)) := ⟨_, Lib.hid rfl⟩
        have hb2 : Below wr.heap.size wr w2 := by rw [Hw2.out]; exact (Below.refl _ _).alloc (Nat.le_refl _) _
        have hrow2 : BRow w2 (.slice Ab L.length cb) L := h2.only (S := []) (Only.of_below hb2) (fun k _ hk => by cases hk)
        have hsee : SeesX w2 w2.heap.size (blk (.slice Ab L.length cb)) A' v := fun hn => by
          obtain ⟨g2, o2, e, q1, _, q2⟩ := k6 hn
          exact ⟨g2, o2, e, by have := h3.size; have := hb2.size; omega, fun hm => by have := h4 g2 hm; omega, fun j hj => (hb2.cell (p := ⟨g2, o2 + j, none⟩) (by show g2 < _; have := h3.size; omega)).trans (q2 j hj)⟩
        have hok := ok1_iff.1 hxo
        have hcall := appendPut_any w2 _ L hrow2 hll kk A' v.length c' gg v rfl hsee hok.2.1 hok.2.2.1
        have next : ∀ e W, RowEnd (.slice Ab L.length cb) (L ++ enc1 ⟨kk, v, gg⟩) w2 e W → ∃ A c L', e = .returned (.slice A L'.length c) ∧ Hid (L' = encs (l.take (k + 1)) ∧ BRow W (.slice A L'.length c) L' ∧ Below w0.heap.size w0 W ∧ ∀ b, b ∈ blk (.slice A L'.length c) → w0.heap.size ≤ b) := fun e W hW => by
          obtain ⟨v', rfl, q1, q2, q3⟩ := hW
          obtain ⟨A, c, rfl, _, _⟩ := q1.shape
          refine ⟨A, c, _, rfl, Lib.hid ⟨hen.symm, q1, h3.trans ((hb2.mono h3.size).trans (q2.below (by have := h3.size; have := hb2.size; omega) h4)), fun b hb => ?_⟩⟩
          exact (q3 b hb).elim (h4 b) (fun h' => by have := h3.size; have := hb2.size; omega)
        have NEXT := Lib.hid next
        have HCALL := Lib.hid hcall
        have HB2 := Lib.hid hb2
        clear h1 h2 h3 h4 hll hpw k4 k5 k6 hxo hen hb2 hrow2 hsee hok hcall next HI
        go_wp2_with fail
        rw [← Hw2.out]
        refine HCALL.out.mono ?_
        intro e w3 hq
        obtain ⟨A3, c3, L3, rfl, HN⟩ := NEXT.out e w3 hq
        clear hq k1 k2 k3
        go_wp2
        go_roundw
        case rel => exact ⟨k + 1, A3, c3, L3, by omega, rfl, by go_num, HN⟩
        case measure => simp [intOf]; omega
      · obtain rfl : k = l.length := by omega
        obtain ⟨h1, h2, h3, h4⟩ := HI.out
        rw [List.take_length] at h1
        obtain ⟨_, _, e, hc1, hc2⟩ := h2.shape
        injection e with e1 e2 e3
        subst e1 e3
        have he : encode l = L := by unfold encode; rw [if_pos HM.out, h1]
        have key : EncEnd l w0 (.returned (.slice Ab L.length cb)) wr := ⟨Ab, _, cb, rfl, by rw [he], hc1, hc2, by rw [he]; exact h2, h3⟩
        have KEY := Lib.hid key
        clear h1 h2 h3 h4 key HI hc1 hc2 he
        go_wp2
        go_ret
        exact KEY.out
end Go.Proofs.Ytgpkdnnlgafenaa

namespace Go.Proofs.Ytgpkdnnlgafenaa
open Go.RowKit Kv
set_option linter.unusedVariables false
set_option maxRecDepth 20000

theorem Try.infoPt : (Try.prog.info? 29).map (fun i => (i.zero, i.size, i.bytes)) = some (some (.agg #[.string ByteArray.empty, .slice none 0 0, .bool false]), 3, 48) := by kernel_rfl
structure DEnt where
  k : ByteArray
  v : Value
  l : List UInt8
  g : Bool
def DEnt.pt (e : DEnt) : Pt := ⟨e.k, e.l, e.g⟩
def dcells : List DEnt → List Value
  | [] => []
  | e :: L => .string e.k :: e.v :: .bool e.g :: dcells L
theorem dcells_length (L : List DEnt) : (dcells L).length = L.length * 3 := by
  induction L with
  | nil => rfl
  | cons e L ih => simp only [dcells, List.length_cons, ih]; omega
theorem dcells_append (a b : List DEnt) : dcells (a ++ b) = dcells a ++ dcells b := by
  induction a with
  | nil => rfl
  | cons e a ih => simp only [List.cons_append, dcells, ih]
theorem dcells_at (L : List DEnt) (i : Nat) (h : i < L.length) : (dcells L)[i * 3]? = some (.string L[i].k) ∧ (dcells L)[i * 3 + 1]? = some L[i].v ∧ (dcells L)[i * 3 + 2]? = some (.bool L[i].g) := by
  induction L generalizing i with
  | nil => simp at h
  | cons e L ih =>
    cases i with
    | zero => exact ⟨rfl, rfl, rfl⟩
    | succ i =>
      obtain ⟨h1, h2, h3⟩ := ih i (by simpa using h)
      have e1 : (i + 1) * 3 = i * 3 + 1 + 1 + 1 := by omega
      rw [e1]
      refine ⟨h1, ?_, ?_⟩
      · have e2 : i * 3 + 1 + 1 + 1 + 1 = (i * 3 + 1) + 1 + 1 + 1 := by omega
        rw [e2]; exact h2
      · have e3 : i * 3 + 1 + 1 + 1 + 2 = (i * 3 + 2) + 1 + 1 + 1 := by omega
        rw [e3]; exact h3
structure DRow (w : World) (v : Value) (L : List DEnt) : Prop where
  row : w.ownsRow 0 29 3 v L.length (dcells L)
  vals : ∀ e ∈ L, BRow w e.v e.l
theorem DRow.nil (w : World) : DRow w (.slice none 0 0) [] := ⟨World.ownsRow_nil _ 0 _ _, fun e he => by cases he⟩
theorem DRow.noB {w : World} {v : Value} {L : List DEnt} (h : DRow w v L) : ∀ b, b ∈ blk v → NoB w b := fun b hb => by
  rcases h.row.2 with ⟨rfl, _⟩ | ⟨g, cap, cur, rfl, _, hg, _⟩
  · simp [blk, Value.ownBlock] at hb
  · simp [blk, Value.ownBlock] at hb
    subst hb
    exact .of_cells hg (by decide)
theorem DRow.far {w w' : World} {v : Value} {L : List DEnt} {S : List Nat} (h : DRow w v L) (ho : Only S w w') (hf : Far w (blk v) S) : DRow w' v L :=
  ⟨own_only h.row ho (fun k hk hS => (hf k hS).1 (mem_blk.2 hk)), fun e he => (h.vals e he).far ho hf⟩
theorem DRow.below {w w' : World} {v : Value} {L : List DEnt} (h : DRow w v L) (hb : Below w.heap.size w w') : DRow w' v L := h.far (S := []) (Only.of_below hb) (Far.nil _ _)
theorem DRow.shape {w : World} {v : Value} {L : List DEnt} (h : DRow w v L) : ∃ A c, v = .slice A L.length c ∧ L.length ≤ c ∧ c ≤ maxLen := own_shape h.row
/-- Such a row is Puts for a call. -/
theorem DRow.puts {w : World} {A : Option Addr} {n c : Nat} {L : List DEnt} (h : DRow w (.slice A n c) L) (X : List Nat) (hX : ∀ b, b ∈ X → NoB w b) (hb : ∀ b, b ∈ blk (.slice A n c) → b ∉ X) : Puts w w.heap.size X A (L.map DEnt.pt) := fun hne => by
  rcases h.row.2 with ⟨_, hl⟩ | ⟨g, cap, cur, hv, _, hg, _⟩
  · exfalso
    have := dcells_length L
    rw [hl] at this
    have h0 : L = [] := List.eq_nil_of_length_eq_zero (by simp at this; omega)
    subst h0
    exact hne rfl
  · injection hv with hA hn hc
    subst hA hn hc
    refine ⟨g, 0, rfl, (Array.getElem?_eq_some_iff.1 hg).1, hb g (by simp [blk, Value.ownBlock]), fun j hj => ?_⟩
    have hj' : j < L.length := by simpa using hj
    obtain ⟨d1, d2, d3⟩ := dcells_at L j hj'
    have k1 := h.row.cells (g := g) rfl _ _ d1
    have k2 := h.row.cells (g := g) rfl _ _ d2
    have k3 := h.row.cells (g := g) rfl _ _ d3
    rw [add_at] at k1 k2 k3
    have hv := h.vals _ (List.getElem_mem hj')
    obtain ⟨A', c', e, q1, q2⟩ := hv.shape
    simp only [List.getElem_map, Nat.zero_add]
    refine ⟨k1, ⟨A', c', by rw [k2, e]; rfl, q1, q2, ?_⟩, k3⟩
    rw [e] at hv
    intro hn
    obtain ⟨g2, o2, ee, hg2, hc2⟩ := hv.sees hn
    refine ⟨g2, o2, ee, hg2, fun hm => ?_, hc2⟩
    have := hv.noB (hX g2 hm)
    rw [ee] at this
    apply this
    rcases hv.2 with ⟨hvv, _⟩ | ⟨g3, cap3, cur3, hvv, _⟩
    · injection hvv with hvv; rw [ee] at hvv; cases hvv
    · simp [blk, Value.ownBlock]
theorem drow_one (w : World) (v : Value) (L : List DEnt) (h : DRow w v L) (k : ByteArray) (A : Option Addr) (n c : Nat) (g : Bool) (val : List UInt8) (hb : BRow w (.slice A n c) val) (hl : L.length + 1 ≤ 1000000000) :
    ∃ A' c' L' w', Hid (L' = L ++ [⟨k, .slice A n c, val, g⟩]) ∧ (Builtin.append_ #[31, 31] 31 #[v, .slice (some ⟨w.heap.size, 0, none⟩) 1 1]).run Try.prog (w.alloc (.cells #[.string k, .slice A n c, .bool g] 29)) = .ok (.slice A' L'.length c') w' ∧
      DRow w' (.slice A' L'.length c') L' ∧ Only (blk v) w w' ∧ Grows (blk v) (blk (.slice A' L'.length c')) w := by
  obtain ⟨i0, hi, hz0, hz1, hz2⟩ := info_parts Try.infoPt
  have hw1 : Below w.heap.size w (w.alloc (.cells #[.string k, .slice A n c, .bool g] 29)) := (Below.refl _ _).alloc (Nat.le_refl _) _
  have h1 := h.below hw1
  have hcell : ∀ j, (w.alloc (.cells #[.string k, .slice A n c, .bool g] 29)).cell? ⟨w.heap.size, j, none⟩ = (#[Value.string k, .slice A n c, .bool g])[j]? := fun j => by simp only [World.cell?, heap_alloc_new]; rfl
  obtain ⟨v', w', hrun, k2, k3, k4⟩ := run_append_here (P := Try.prog) (w.alloc (.cells #[.string k, .slice A n c, .bool g] 29)) 31 31 29 i0 _ 3 48 Try.underlying31 hi hz0 hz1 hz2 rfl (by decide) v L.length (dcells L) h1.row ⟨w.heap.size, 0, none⟩ 1 1 [.string k, .slice A n c, .bool g] rfl
    (fun j u hu => by rw [add_at, hcell j]; simpa using hu)
    (by intro u hu; simp at hu; rcases hu with rfl | rfl | rfl <;> rfl) (by unfold maxLen; omega) (by omega)
  have ho : Only (blk v) (w.alloc (.cells #[.string k, .slice A n c, .bool g] 29)) w' := Only.of_grown k3 (fun k hk => mem_blk.2 hk)
  have hfar : Far (w.alloc (.cells #[.string k, .slice A n c, .bool g] 29)) [] (blk v) := fun b hb => ⟨by simp, h1.noB b hb⟩
  have hd : DRow w' v' (L ++ [⟨k, .slice A n c, val, g⟩]) := ⟨by rw [List.length_append, dcells_append]; exact k2, fun e he => by
    rcases List.mem_append.1 he with he | he
    · exact (h1.vals e he).far ho hfar
    · rw [List.mem_singleton] at he; subst he
      exact (hb.only (S := []) (Only.of_below hw1) (fun k _ hk => by cases hk)).far ho hfar⟩
  obtain ⟨A', c', rfl, _, _⟩ := hd.shape
  refine ⟨A', c', _, w', Lib.hid rfl, hrun, hd, (Only.of_below hw1).trans ho, fun b hb => ?_⟩
  rcases k4 b (mem_blk.1 hb) with h5 | h5
  · exact .inl (mem_blk.2 h5)
  · exact .inr (by simp at h5; omega)
end Go.Proofs.Ytgpkdnnlgafenaa
