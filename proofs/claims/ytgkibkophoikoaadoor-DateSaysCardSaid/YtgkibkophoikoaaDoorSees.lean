/- A slice that reads as bytes, nil let in; its cuts; the row of a list of such slices. -/
import Derived.Test.YtgkibkophoikoaaDoorLib
import Derived.Lib.Bytes
import Derived.Maps.AppendAt
namespace Go.Proofs.YtgkibkophoikoaaDoor
open Go.RowKit

/-- The slice at A reads the bytes l, and lies below block B. -/
def Sees (w : World) (B : Nat) (A : Option Addr) (l : List UInt8) : Prop :=
  l ≠ [] → ∃ g o, A = some ⟨g, o, none⟩ ∧ g < B ∧ ∀ j (h : j < l.length), w.cell? ⟨g, o + j, none⟩ = some (.int .u8 (l[j].toNat : Int))

theorem add_to (g o j : Nat) : (⟨g, o, none⟩ : Addr).add j = ⟨g, o + j, none⟩ := by
  unfold Addr.add; by_cases h : j = 0 <;> simp [h]

theorem Sees.below {w w' : World} {B B' : Nat} {A : Option Addr} {l : List UInt8} (h : Sees w B A l) (hb : Below B' w w') (hB : B ≤ B') : Sees w' B A l := fun hn => by
  obtain ⟨g, o, e, hg, hc⟩ := h hn
  exact ⟨g, o, e, hg, fun j hj => (hb.cell (p := ⟨g, o + j, none⟩) (by show g < B'; omega)).trans (hc j hj)⟩
theorem Sees.mono {w : World} {B B' : Nat} {A : Option Addr} {l : List UInt8} (h : Sees w B A l) (hB : B ≤ B') : Sees w B' A l := fun hn => by
  obtain ⟨g, o, e, hg, hc⟩ := h hn
  exact ⟨g, o, e, by omega, hc⟩
theorem Sees.drewN {w : World} {B : Nat} {A : Option Addr} {l : List UInt8} (h : Sees w B A l) (q : Nat) : Sees (w.drewN q) B A l := h
theorem Sees.nil (w : World) (B : Nat) (A : Option Addr) : Sees w B A [] := fun h => absurd rfl h

theorem Sees.take {w : World} {B : Nat} {A : Option Addr} {l : List UInt8} (h : Sees w B A l) (k : Nat) : Sees w B A (l.take k) := fun hn => by
  have h0 : l ≠ [] := fun e => hn (by simp [e])
  obtain ⟨g, o, e, hg, hc⟩ := h h0
  refine ⟨g, o, e, hg, fun j hj => ?_⟩
  have hj' : j < l.length := by simp at hj; omega
  rw [hc j hj', List.getElem_take]

theorem Sees.of_own {w : World} {base e c : Nat} {A : Option Addr} {l : List UInt8} (h : w.ownsRow base e 1 (.slice A l.length c) l.length (bv l)) : Sees w w.heap.size A l := fun hn => by
  have hpos : 0 < l.length := List.length_pos_iff.2 hn
  rcases h.2 with ⟨hv, h0⟩ | ⟨g, cap, cur, hv, hb, hg, rest⟩
  · omega
  · injection hv with h1 h2 h3
    subst h1
    refine ⟨g, 0, rfl, (Array.getElem?_eq_some_iff.1 hg).1, fun j hj => ?_⟩
    have := h.cells (g := g) rfl j (.int .u8 (l[j].toNat : Int)) (bv_at l j hj)
    rw [add_to] at this
    exact this

/-- A literal's row. -/
theorem Sees.new (w : World) (e : TypeId) (cs : Array Value) (l : List UInt8) (h : cs.toList = bv l) : Sees (w.alloc (.cells cs e)) (w.heap.size + 1) (some ⟨w.heap.size, 0, none⟩) l := fun _ =>
  ⟨w.heap.size, 0, rfl, by omega, fun j hj => by
    rw [Nat.zero_add, World.cell?_alloc_at _ _ _ _ rfl, ← Array.getElem?_toList, h, bv_at l j hj]⟩

theorem Sees.newMark (w : World) (e : TypeId) (cs : Array Value) (fr : Nat × Nat) (l : List UInt8) (h : cs.toList = bv l) : Sees (w.alloc (.cells cs e fr)) (w.heap.size + 1) (some ⟨w.heap.size, 0, none⟩) l := fun _ =>
  ⟨w.heap.size, 0, rfl, by omega, fun j hj => by
    rw [Nat.zero_add, World.cell?_alloc_mark, ← Array.getElem?_toList, h, bv_at l j hj]⟩
theorem own_shape {w : World} {base e n size : Nat} {v : Value} {xs : List Value} (h : w.ownsRow base e size v n xs) : ∃ A cap, v = .slice A n cap ∧ n ≤ cap ∧ cap ≤ maxLen := by
  rcases h.2 with ⟨rfl, rfl⟩ | ⟨g, cap, cur, rfl, hb, hg, hc, hm, _⟩
  · exact ⟨none, 0, rfl, Nat.le_refl _, Nat.zero_le _⟩
  · exact ⟨_, cap, rfl, hc, hm⟩
theorem own_form {w : World} {base e n size : Nat} {v : Value} {xs : List Value} (h : w.ownsRow base e size v n xs) (hn : 0 < n) : ∃ g cap, v = .slice (some ⟨g, 0, none⟩) n cap ∧ base ≤ g ∧ g < w.heap.size ∧ n ≤ cap ∧ cap ≤ maxLen := by
  rcases h.2 with ⟨_, h0⟩ | ⟨g, cap, cur, rfl, hb, hg, hc, hm, _⟩
  · omega
  · exact ⟨g, cap, rfl, hb, (Array.getElem?_eq_some_iff.1 hg).1, hc, hm⟩

/-- s[k:]. -/
theorem run_tail {P : Program} {t e : TypeId} (ht : P.underlying t = some (.slice e)) (hz : ∀ w, (Go.sizeOf e).run P w = .ok 1 w) {w : World} {B : Nat} {A : Option Addr} {l : List UInt8} (h : Sees w B A l) (n c k : Nat) (hn : n = l.length) (hk : k ≤ n) (hc : n ≤ c) :
    ∃ A', (∀ W, (Instr.slice t (.slice A n c) (some (.int .i64 (k : Int))) none none).run P W = .ok (.slice A' (n - k) (c - k)) W) ∧ Sees w B A' (l.drop k) := by
  subst hn
  refine ⟨if c = k then A else A.map (·.add (k * 1)), fun W => ?_, fun hd => ?_⟩
  · have ht' : P.underlying t = some (.slice (P.elem t)) := by simp [Program.elem, ht]
    have he : P.elem t = e := by simp [Program.elem, ht]
    rw [run_slice_l W t A _ _ ht' .i64 _ (by omega) (by omega), he, hz]
    simp [Result.andThen, sliced]
  · have hkl : k < l.length := by
      have : 0 < (l.drop k).length := List.length_pos_iff.2 hd
      rw [List.length_drop] at this; omega
    obtain ⟨g, o, rfl, hg, hcell⟩ := h (by intro e0; simp [e0] at hkl)
    rw [if_neg (by omega)]
    refine ⟨g, o + k, by rw [Option.map_some, Nat.mul_one, add_to], hg, fun j hj => ?_⟩
    have hj' : k + j < l.length := by simp at hj; omega
    rw [Nat.add_assoc, hcell (k + j) hj', List.getElem_drop]

/-- s[:k]. -/
theorem run_head {P : Program} {t e : TypeId} (ht : P.underlying t = some (.slice e)) (hz : ∀ w, (Go.sizeOf e).run P w = .ok 1 w) (A : Option Addr) (n c k : Nat) (hk : k ≤ c) :
    ∃ A', (∀ W, (Instr.slice t (.slice A n c) none (some (.int .i64 (k : Int))) none).run P W = .ok (.slice A' k c) W) ∧ ∀ w B l, Sees w B A l → Sees w B A' l := by
  refine ⟨if c = 0 then A else A.map (·.add (0 * 1)), fun W => ?_, fun w B l h hn => ?_⟩
  · have ht' : P.underlying t = some (.slice (P.elem t)) := by simp [Program.elem, ht]
    have he : P.elem t = e := by simp [Program.elem, ht]
    rw [run_slice_h W t A _ _ ht' .i64 _ (by omega) (by omega), he, hz]
    simp [Result.andThen, sliced]
  · obtain ⟨g, o, rfl, hg, hcell⟩ := h hn
    refine ⟨g, o, ?_, hg, hcell⟩
    by_cases hc : c = 0
    · rw [if_pos hc]
    · rw [if_neg hc, Option.map_some, Nat.zero_mul, add_to]; rfl

theorem byte_of_wf' {z : Int} (h : (Lit.int .u8 z).wf = true) : 0 ≤ z ∧ z < 256 := by
  have h0 : IntKind.u8.min = 0 := rfl
  have h1 : IntKind.u8.max = 255 := rfl
  simp [Lit.wf, h0, h1] at h
  omega

/-- The bytes of a slice that came in, out of what its opening gives. -/
theorem sees_of_ints {w : World} {x : Addr} {n c : Nat} {zs : List Int} (hl : n ≤ c) (hz : zs.length = c) (hcell : ∀ i, i < zs.length → w.cell? (x.add i) = some (.int .u8 (zs.getD i 0))) (hwz : ∀ z ∈ zs, (Lit.int .u8 z).wf = true) :
    ∃ l : List UInt8, n = l.length ∧ Sees w w.heap.size (some x) l := by
  refine ⟨(zs.take n).map fun z => UInt8.ofNat z.toNat, by simp; omega, fun hn => ?_⟩
  have hpos : 0 < n := by
    have := List.length_pos_iff.2 hn
    simp at this; omega
  have h0 := hcell 0 (by omega)
  obtain ⟨g, o, spot⟩ := x
  have hspot : spot = none := by simpa [Addr.add] using World.cell?_spot h0
  subst hspot
  refine ⟨g, o, rfl, ?_, fun j hj => ?_⟩
  · have := World.block_lt_of_cell? w _ h0
    simpa [Addr.add] using this
  · have hj' : j < zs.length := by simp at hj; omega
    have hc := hcell j hj'
    rw [add_to] at hc
    rw [hc]
    have hw := hwz zs[j] (List.getElem_mem hj')
    have hb : 0 ≤ zs[j] ∧ zs[j] < 256 := byte_of_wf' hw
    simp only [List.getElem_map, List.getElem_take, List.getD, List.getElem?_eq_getElem hj', Option.getD_some]
    have e1 : (UInt8.ofNat zs[j].toNat).toNat = zs[j].toNat := by
      rw [UInt8.toNat_ofNat']
      exact Nat.mod_eq_of_lt (by omega)
    rw [e1]
    congr 2
    omega

/-- s[lo:hi]. -/
theorem run_mid {P : Program} {t e : TypeId} (ht : P.underlying t = some (.slice e)) (hz : ∀ w, (Go.sizeOf e).run P w = .ok 1 w) {A : Option Addr} (n c lo hi : Nat) (hlo : lo ≤ hi) (hn : hi ≤ n) (hc : n ≤ c) (J : Int) (hJ : J = (hi : Int)) :
    ∃ A', (∀ W, (Instr.slice t (.slice A n c) (some (.int .i64 (lo : Int))) (some (.int .i64 J)) none).run P W = .ok (.slice A' (hi - lo) (c - lo)) W) ∧ ∀ (w : World) (B : Nat) (l : List UInt8), l.length = n → Sees w B A l → Sees w B A' ((l.drop lo).take (hi - lo)) := by
  subst hJ
  refine ⟨if c = lo then A else A.map (·.add (lo * 1)), fun W => ?_, fun w B l hl h hd => ?_⟩
  · have ht' : P.underlying t = some (.slice (P.elem t)) := by simp [Program.elem, ht]
    have he : P.elem t = e := by simp [Program.elem, ht]
    rw [run_slice_lh W t A _ _ ht' .i64 .i64 _ _ (by omega) (by omega) (by omega), he, hz]
    simp [Result.andThen, sliced]
  · have hkl : lo < l.length := by
      have : 0 < ((l.drop lo).take (hi - lo)).length := List.length_pos_iff.2 hd
      rw [List.length_take, List.length_drop] at this; omega
    obtain ⟨g, o, rfl, hg, hcell⟩ := h (by intro e0; simp [e0] at hkl)
    rw [if_neg (by omega)]
    refine ⟨g, o + lo, by rw [Option.map_some, Nat.mul_one, add_to], hg, fun j hj => ?_⟩
    have hj' : lo + j < l.length := by rw [List.length_take, List.length_drop] at hj; omega
    rw [Nat.add_assoc, hcell (lo + j) hj', List.getElem_take, List.getElem_drop]

/-- string(b) of a slice that reads as bytes. -/
theorem run_sees_string {P : Program} (w : World) (src dst e : TypeId) (hs : P.underlying src = some (.slice e)) (he : P.underlying e = some (.int .u8)) (hd : P.underlying dst = some .string)
    {B : Nat} {A : Option Addr} {l : List UInt8} (h : Sees w B A l) (n c : Nat) (hn : n = l.length) :
    (convert src dst (.slice A n c)).run P w = .ok (.string ⟨l.toArray⟩) w := by
  subst hn
  by_cases h0 : l = []
  · subst h0
    cases A with
    | none => exact run_convert_bytes_nil w src e hs he 0 c dst hd
    | some a => exact run_convert_bytes_back w src dst e a c [] hs he hd (fun j hj => by simp at hj)
  · obtain ⟨g, o, rfl, _, hc⟩ := h h0
    refine run_convert_bytes_back w src dst e ⟨g, o, none⟩ c l hs he hd fun j hj => ?_
    rw [add_to]; exact hc j hj

/-- A list of slice values, each a row of the call's own with its bytes. -/
def Parts (w : World) (base e : Nat) (vs : List Value) (ls : List (List UInt8)) : Prop :=
  vs.length = ls.length ∧ ∀ (i : Nat) (v : Value) (l : List UInt8), vs[i]? = some v → ls[i]? = some l → w.ownsRow base e 1 v l.length (bv l)

theorem Parts.nil (w : World) (base e : Nat) : Parts w base e [] [] := ⟨rfl, fun i v l h => by simp at h⟩
theorem Parts.snoc {w : World} {base e : Nat} {vs : List Value} {ls : List (List UInt8)} (h : Parts w base e vs ls) {v : Value} {l : List UInt8} (hv : w.ownsRow base e 1 v l.length (bv l)) : Parts w base e (vs ++ [v]) (ls ++ [l]) := by
  refine ⟨by simp [h.1], fun i x m hx hm => ?_⟩
  rw [List.getElem?_append] at hx hm
  by_cases hi : i < vs.length
  · rw [if_pos hi] at hx
    rw [if_pos (by rw [← h.1]; exact hi)] at hm
    exact h.2 i x m hx hm
  · rw [if_neg hi] at hx
    rw [if_neg (by rw [← h.1]; exact hi), ← h.1] at hm
    have h0 : i - vs.length = 0 := by
      have := (List.getElem?_eq_some_iff.1 hx).1
      simpa using this
    rw [h0] at hx hm
    simp at hx hm
    subst hx; subst hm
    exact hv
theorem Parts.below {w w' : World} {base e : Nat} {vs : List Value} {ls : List (List UInt8)} (h : Parts w base e vs ls) (hb : Below w.heap.size w w') : Parts w' base e vs ls :=
  ⟨h.1, fun i v l hv hl => own_below (h.2 i v l hv hl) hb (Nat.le_refl _)⟩

/-- A list of slice values, each reading its bytes below block B. -/
def Views (w : World) (B : Nat) (vs : List Value) (ls : List (List UInt8)) : Prop :=
  vs.length = ls.length ∧ ∀ (i : Nat) (v : Value) (l : List UInt8), vs[i]? = some v → ls[i]? = some l → ∃ A c, v = .slice A l.length c ∧ l.length ≤ c ∧ c ≤ maxLen ∧ Sees w B A l

theorem Views.nil (w : World) (B : Nat) : Views w B [] [] := ⟨rfl, fun i v l h => by simp at h⟩
theorem Views.snoc {w : World} {B : Nat} {vs : List Value} {ls : List (List UInt8)} (h : Views w B vs ls) {A : Option Addr} {n c : Nat} {l : List UInt8} (hn : n = l.length) (h1 : n ≤ c) (h2 : c ≤ maxLen) (h3 : Sees w B A l) : Views w B (vs ++ [.slice A n c]) (ls ++ [l]) := by
  subst hn
  refine ⟨by simp [h.1], fun i x m hx hm => ?_⟩
  rw [List.getElem?_append] at hx hm
  by_cases hi : i < vs.length
  · rw [if_pos hi] at hx
    rw [if_pos (by rw [← h.1]; exact hi)] at hm
    exact h.2 i x m hx hm
  · rw [if_neg hi] at hx
    rw [if_neg (by rw [← h.1]; exact hi), ← h.1] at hm
    have h0 : i - vs.length = 0 := by
      have := (List.getElem?_eq_some_iff.1 hx).1
      simpa using this
    rw [h0] at hx hm
    simp at hx hm
    subst hx; subst hm
    exact ⟨A, c, rfl, h1, h2, h3⟩
theorem Views.below {w w' : World} {B B' : Nat} {vs : List Value} {ls : List (List UInt8)} (h : Views w B vs ls) (hb : Below B' w w') (hB : B ≤ B') : Views w' B vs ls :=
  ⟨h.1, fun i v l hv hl => by
    obtain ⟨A, c, e, h1, h2, h3⟩ := h.2 i v l hv hl
    exact ⟨A, c, e, h1, h2, h3.below hb hB⟩⟩
theorem Views.mono {w : World} {B B' : Nat} {vs : List Value} {ls : List (List UInt8)} (h : Views w B vs ls) (hB : B ≤ B') : Views w B' vs ls :=
  ⟨h.1, fun i v l hv hl => by
    obtain ⟨A, c, e, h1, h2, h3⟩ := h.2 i v l hv hl
    exact ⟨A, c, e, h1, h2, h3.mono hB⟩⟩
theorem Parts.views {w : World} {base e : Nat} {vs : List Value} {ls : List (List UInt8)} (h : Parts w base e vs ls) : Views w w.heap.size vs ls :=
  ⟨h.1, fun i v l hv hl => by
    have ho := h.2 i v l hv hl
    obtain ⟨A, c, rfl, h1, h2⟩ := own_shape ho
    exact ⟨A, c, rfl, h1, h2, Sees.of_own ho⟩⟩

/-- Rows of different element types share no block. -/
theorem own_own_ne {w : World} {b1 b2 e1 e2 : Nat} {s1 s2 n1 n2 : Nat} {v1 v2 : Value} {x1 x2 : List Value} (h1 : w.ownsRow b1 e1 s1 v1 n1 x1) (h2 : w.ownsRow b2 e2 s2 v2 n2 x2) (hne : e1 ≠ e2) : v1.ownBlock = none ∨ v1.ownBlock ≠ v2.ownBlock := by
  rcases h1.2 with ⟨rfl, _⟩ | ⟨g, cap, cur, rfl, _, hg, _⟩
  · exact .inl rfl
  · refine .inr fun he => ?_
    rcases h2.2 with ⟨rfl, _⟩ | ⟨g', cap', cur', rfl, _, hg', _⟩
    · simp [Value.ownBlock] at he
    · simp [Value.ownBlock] at he
      subst he
      rw [hg] at hg'
      injection hg' with hg'
      injection hg' with _ ht
      exact hne ht
theorem Parts.grown {w w' : World} {base base2 e e2 : Nat} {s2 n2 : Nat} {v2 : Value} {x2 : List Value} {vs : List Value} {ls : List (List UInt8)} (h : Parts w base e vs ls) (h2 : w.ownsRow base2 e2 s2 v2 n2 x2) (hg : w.grownBy w' v2.ownBlock) (hne : e ≠ e2) : Parts w' base e vs ls :=
  ⟨h.1, fun i v l hv hl => (h.2 i v l hv hl).kept hg (own_own_ne (h.2 i v l hv hl) h2 hne)⟩

/-- append of one element of one cell, which the walk has just laid into a block of its own: with what it leaves alone. -/
theorem wpList_append_one_g {P : Program} {ops : Array Oper} {rest : List Oper} {o : Oper} {a : Act} {Q : Exit → Act → World → Prop} (hgd : o.guard = none) (s x : Operand) (t : TypeId)
    (ho : o.op = .call { callee := .builtin .append, args := #[s, x], argTypes := #[t, t] })
    (base : Nat) (e : TypeId) (i : TypeInfo) (z : Value) (bytes : Nat) (ht : P.underlying t = some (.slice e)) (hi : P.info? e = some i) (hz : i.zero = some z)
    (hsize : i.size = 1) (hby : i.bytes = bytes) (hzs : z.cells.size = 1)
    (W : World) (u : Value) (hu : u.oneCell' = true) (c : Nat)
    (v : Value) (n : Nat) (xs : List Value) (hs : a.eval s = v) (hown : W.ownsRow base e 1 v n xs)
    (hx : a.eval x = .slice (some ⟨W.heap.size, 0, none⟩) 1 c)
    (hbytes : (n + 1) * bytes ≤ 140737488355328) (h63 : n + 1 ≤ maxLen) (hbase : base ≤ W.heap.size)
    (h : ∀ v' w', w'.ownsRow base e 1 v' (n + 1) (xs ++ [u]) → (W.alloc (.cells #[u] e)).grownBy w' v.ownBlock → Below base W w' → wpList P ops Q rest (a.put o.dst v') w') :
    wpList P ops Q (o :: rest) a (W.alloc (.cells #[u] e)) := by
  refine wpList_append_own (W.alloc (.cells #[u] e)) hgd s x t ho base e i z 1 bytes ht hi hz hsize hby hzs (by decide) v n xs hs (hown.alloc _) ⟨W.heap.size, 0, none⟩ 1 c [u] hx rfl ?_ ?_ h63 hbytes ?_ ?_
  · intro j y hj
    match j, hj with
    | 0, hj => simp at hj; subst hj; simp [Addr.add]
  · intro y hy; simp at hy; subst hy; exact hu
  · simp; omega
  · intro v' w' h2 h3 _
    exact h v' w' h2 h3 (((Below.refl base W).alloc hbase _).grown h3 (by simp; omega) (fun k hk => (hown.lt k hk).1))


theorem run_append_sees {P : Program} (w : World) (base : Nat) (t ty e : TypeId) (i : TypeInfo) (z : Value) (bytes : Nat) (ht : P.underlying t = some (.slice e)) (hi : P.info? e = some i) (hz : i.zero = some z)
    (hsize : i.size = 1) (hby : i.bytes = bytes) (hzs : z.cells.size = 1)
    (v : Value) (acc : List UInt8) (hown : w.ownsRow base e 1 v acc.length (bv acc)) (B : Nat) (A : Option Addr) (l : List UInt8) (m c : Nat) (hm : m = l.length) (hr : Sees w B A l)
    (h63 : acc.length + l.length ≤ maxLen) (hbytes : (acc.length + l.length) * bytes ≤ 140737488355328) (hbase : base ≤ w.heap.size) :
    ∃ v' w', (Builtin.append_ #[t, t] ty #[v, .slice A m c]).run P w = .ok v' w' ∧ w'.ownsRow base e 1 v' (acc ++ l).length (bv (acc ++ l)) ∧ w.grownBy w' v.ownBlock := by
  subst hm
  have same : (A = none ∨ l = []) → l = [] := fun h => by
    rcases h with h | h
    · refine Classical.byContradiction fun hn => ?_
      obtain ⟨g, o, e, _⟩ := hr hn
      rw [h] at e; cases e
    · exact h
  have kept : w.grownBy w v.ownBlock := ⟨rfl, rfl, rfl, Nat.le_refl _, fun _ _ _ => rfl⟩
  cases A with
  | none =>
    obtain rfl := same (.inl rfl)
    refine ⟨v, w, ?_, by simpa using hown, kept⟩
    rcases hown.2 with ⟨rfl, _⟩ | ⟨g, cap, cur, rfl, _, _, hnc, _⟩
    · simp [Builtin.append_, run_underlying ht, sizeOf, typeInfo, hi, Builtin.lenOf, Builtin.firstCells]
    · simp [Builtin.append_, run_underlying ht, sizeOf, typeInfo, hi, Builtin.lenOf, Builtin.firstCells, hnc, storeCells]
  | some ad =>
    have hcells : ∀ (j : Nat) (u : Value), (bv l)[j]? = some u → w.cell? (ad.add j) = some u := fun j u hu => by
      have hj : j < l.length := by
        have := (List.getElem?_eq_some_iff.1 hu).1
        rwa [bv_length] at this
      have hn : l ≠ [] := fun h => by rw [h] at hj; simp at hj
      obtain ⟨g, o, he, _, hc⟩ := hr hn
      injection he with he
      subst he
      rw [add_to, hc j hj, ← hu, bv_at l j hj]
    obtain ⟨v', w', hrun, h2, h3, _, _⟩ := run_append_own_at (P := P) w base t ty e i z 1 bytes ht hi hz hsize hby hzs (by decide) v acc.length (bv acc) hown ad l.length c (bv l) (by rw [bv_length, Nat.mul_one]) hcells
      (by intro u hu; unfold bv at hu; simp at hu; obtain ⟨b, _, rfl⟩ := hu; rfl) h63 hbytes hbase
    refine ⟨v', w', hrun, ?_, h3⟩
    rw [List.length_append, bv_append]; exact h2

/-- append of the bytes of whatever slice to a row of bytes of one's own. -/
theorem wpList_append_sees {P : Program} {ops : Array Oper} {rest : List Oper} {o : Oper} {a : Act} {Q : Exit → Act → World → Prop} (hgd : o.guard = none) (s x : Operand) (t : TypeId)
    (ho : o.op = .call { callee := .builtin .append, args := #[s, x], argTypes := #[t, t] })
    (w : World) (base : Nat) (e : TypeId) (i : TypeInfo) (z : Value) (bytes : Nat) (ht : P.underlying t = some (.slice e)) (hi : P.info? e = some i) (hz : i.zero = some z)
    (hsize : i.size = 1) (hby : i.bytes = bytes) (hzs : z.cells.size = 1)
    (v : Value) (acc : List UInt8) (hs : a.eval s = v) (hown : w.ownsRow base e 1 v acc.length (bv acc)) (B : Nat) (A : Option Addr) (l : List UInt8) (m c : Nat) (hx : a.eval x = .slice A m c) (hm : m = l.length) (hr : Sees w B A l)
    (h63 : acc.length + l.length ≤ maxLen) (hbytes : (acc.length + l.length) * bytes ≤ 140737488355328) (hbase : base ≤ w.heap.size)
    (h : ∀ v' w', w'.ownsRow base e 1 v' (acc ++ l).length (bv (acc ++ l)) → w.grownBy w' v.ownBlock → Below base w w' → wpList P ops Q rest (a.put o.dst v') w') : wpList P ops Q (o :: rest) a w := by
  obtain ⟨v', w', hrun, h2, h3⟩ := run_append_sees (P := P) w base t o.type e i z bytes ht hi hz hsize hby hzs v acc hown B A l m c hm hr h63 hbytes hbase
  have hbl : Below base w w' := (Below.refl base w).grown h3 hbase (fun k hk => (hown.lt k hk).1)
  refine wpList_plain hgd fun K hK => ?_
  unfold Oper.wp
  simp [execOp, ho, resolve, invoke, builtin, hs, hx, hrun, Result.andThen]
  exact hK _ _ (h v' w' h2 h3 hbl)

end Go.Proofs.YtgkibkophoikoaaDoor
