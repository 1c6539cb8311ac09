/- What stands while one act of QueuePlays is carried out: the three queues, their mirror, the act's own block. -/
import Derived.Test.YtgmimhhehmahiaaQueActs
namespace Go.Proofs.Ytgmimhhehmahiaa
open Go.Conc Go.RowKit
set_option linter.unusedVariables false

theorem Step.trans {N : Nat} {a b c : World} (h : Step N a b) (k : Step N b c) : Step N a c := by
  obtain ⟨S, hS, ho⟩ := h
  obtain ⟨T, hT, hk⟩ := k
  refine ⟨S ++ T, fun s hs => ?_, (ho.more (by simp; intro b hb; exact .inl hb)).trans (hk.more (by simp; intro b hb; exact .inr hb))⟩
  rcases List.mem_append.1 hs with hs | hs
  · exact hS s hs
  · exact hT s hs

/-- The act's block at xb. -/
def ActAt (w : World) (xb : Nat) (op : Int) (kq kt : Nat) (s : ByteArray) : Prop := w.heap[xb]? = some (.cells #[.int .i64 op, .int .i64 kq, .int .i64 kt, .string s] 41 (0, 0))
structure Live (B : Nat) (w0 : World) (N rm xb : Nat) (op : Int) (kq kt : Nat) (s : ByteArray) (Fq Fw : Nat → List ByteArray) (Cq Ck : Nat → Bool) (w : World) : Prop where
  inv : Inv w N rm Fq Fw Cq Ck
  act : ActAt w xb op kq kt s
  hx : N + 9 ≤ xb
  bel : Below B w0 w
  hB : B ≤ w0.heap.size
  hN : B ≤ N

section
variable {B : Nat} {w0 w : World} {N rm xb : Nat} {op : Int} {kq kt : Nat} {s : ByteArray} {Fq Fw : Nat → List ByteArray} {Cq Ck : Nat → Bool}
theorem ActAt.lt (h : ActAt w xb op kq kt s) : xb < w.heap.size := (Array.getElem?_eq_some_iff.1 h).1
theorem ActAt.x0 (h : ActAt w xb op kq kt s) : w.cell? ⟨xb, 0, none⟩ = some (.int .i64 op) := by simp [World.cell?, show w.heap[xb]? = _ from h]
theorem ActAt.x1 (h : ActAt w xb op kq kt s) : w.cell? ⟨xb, 1, none⟩ = some (.int .i64 kq) := by simp [World.cell?, show w.heap[xb]? = _ from h]
theorem ActAt.x2 (h : ActAt w xb op kq kt s) : w.cell? ⟨xb, 2, none⟩ = some (.int .i64 kt) := by simp [World.cell?, show w.heap[xb]? = _ from h]
theorem ActAt.x3 (h : ActAt w xb op kq kt s) : w.cell? ⟨xb, 3, none⟩ = some (.string s) := by simp [World.cell?, show w.heap[xb]? = _ from h]

theorem Live.step (h : Live B w0 N rm xb op kq kt s Fq Fw Cq Ck w) {w' : World} {Fq' : Nat → List ByteArray} {Cq' : Nat → Bool} (hi : Inv w' N rm Fq' Fw Cq' Ck) (hs : Step N w w') : Live B w0 N rm xb op kq kt s Fq' Fw Cq' Ck w' :=
  ⟨hi, (hs.block (by have := h.hx; omega) h.act.lt).trans h.act, h.hx, h.bel.trans (hs.below (Nat.le_trans h.hB h.bel.size) h.hN), h.hB, h.hN⟩
theorem Live.below (h : Live B w0 N rm xb op kq kt s Fq Fw Cq Ck w) {w' : World} (hb : Below w.heap.size w w') : Live B w0 N rm xb op kq kt s Fq Fw Cq Ck w' := h.step (h.inv.below hb) (.of_below hb)
theorem Live.drewN (h : Live B w0 N rm xb op kq kt s Fq Fw Cq Ck w) (n : Nat) : Live B w0 N rm xb op kq kt s Fq Fw Cq Ck (w.drewN n) := h.below (below_drewN (Below.refl _ _) n)
theorem Live.drew (h : Live B w0 N rm xb op kq kt s Fq Fw Cq Ck w) : Live B w0 N rm xb op kq kt s Fq Fw Cq Ck w.drew := h.below (Below.refl _ _).drew
theorem Live.alloc (h : Live B w0 N rm xb op kq kt s Fq Fw Cq Ck w) (o : Obj) : Live B w0 N rm xb op kq kt s Fq Fw Cq Ck (w.alloc o) := h.below (below_alloc w o)
theorem Live.putRow (h : Live B w0 N rm xb op kq kt s Fq Fw Cq Ck w) {k : Nat} (hk : k < 3) {A : Option Addr} {n cap : Nat} {l : List ByteArray} (hn : n = l.length) (h1 : n ≤ cap) (h2 : cap ≤ maxLen) (h3 : Strs w w.heap.size A l) :
    Live B w0 N rm xb op kq kt s Fq (upd Fw k l) Cq Ck (w.setCell ⟨N + 7, k, none⟩ (.slice A n cap)) :=
  ⟨h.inv.putRow hk hn h1 h2 h3, (Below.heap_setCell _ _ _ _ (by show xb ≠ N + 7; have := h.hx; omega)).trans h.act, h.hx, h.bel.setCell (by show B ≤ N + 7; have := h.hN; omega) _, h.hB, h.hN⟩
theorem Live.putClo (h : Live B w0 N rm xb op kq kt s Fq Fw Cq Ck w) {k : Nat} (hk : k < 3) (b : Bool) :
    Live B w0 N rm xb op kq kt s Fq Fw Cq (upd Ck k b) (w.setCell ⟨N + 8, k, none⟩ (.bool b)) :=
  ⟨h.inv.putClo hk b, (Below.heap_setCell _ _ _ _ (by show xb ≠ N + 8; have := h.hx; omega)).trans h.act, h.hx, h.bel.setCell (by show B ≤ N + 8; have := h.hN; omega) _, h.hB, h.hN⟩

/-- The bytes that []byte(s) has just made. -/
theorem sees_conv {W : World} {bk cp : Nat} (h : W.heap[bk]? = some (.cells (bytesRow s cp) 5 ((bytesRow s cp).size, (bytesRow s cp).size + 1))) : Sees W W.heap.size (some ⟨bk, 0, none⟩) s.data.toList := fun hne =>
  ⟨bk, 0, rfl, (Array.getElem?_eq_some_iff.1 h).1, fun j hj => by
    rw [Nat.zero_add]
    simp only [World.cell?, h]
    exact bytesRow_at s _ j (by simpa using hj)⟩

def PutLive (B : Nat) (w0 : World) (N rm xb : Nat) (op : Int) (kq kt : Nat) (s : ByteArray) (Fq Fw : Nat → List ByteArray) (Cq Ck : Nat → Bool) (b : Bool) (w : World) (e : Ending) (w' : World) : Prop :=
  e = .returned (.bool b) ∧ Live B w0 N rm xb op kq kt s (if b then upd Fq kq (Fq kq ++ [s]) else Fq) Fw Cq Ck w'
theorem put_live (h : Live B w0 N rm xb op kq kt s Fq Fw Cq Ck w) (hk : kq < 3) (hs : s.size ≤ 100) (bk cp cp2 : Nat) (hr : w.heap[bk]? = some (.cells (bytesRow s cp) 5 ((bytesRow s cp).size, (bytesRow s cp).size + 1))) (b : Bool) (hb : b = (decide ((Fq kq).length < rm) && !Cq kq)) :
    Calls Try.prog 11 #[.pointer (some ⟨N + 2 * kq + 1, 0, none⟩), .slice (some ⟨bk, 0, none⟩) s.size cp2] w (PutLive B w0 N rm xb op kq kt s Fq Fw Cq Ck b w) := by
  refine (put_inv h.inv hk s hs _ cp2 (sees_conv hr) b hb).mono ?_
  rintro e w' ⟨rfl, h1, h2⟩
  exact ⟨rfl, h.step h1 h2⟩
def MoveLive (B : Nat) (w0 : World) (N rm xb : Nat) (op : Int) (kq kt : Nat) (s : ByteArray) (Fq Fw : Nat → List ByteArray) (Cq Ck : Nat → Bool) (b : Bool) (w : World) (e : Ending) (w' : World) : Prop :=
  e = .returned (.bool b) ∧ Live B w0 N rm xb op kq kt s (if b then moved Fq kq kt else Fq) Fw Cq Ck w'
theorem move_live (h : Live B w0 N rm xb op kq kt s Fq Fw Cq Ck w) (hk : kq < 3) (ht : kt < 3) (b : Bool) (hb : b = mayMove rm Fq Cq kq kt) :
    Calls Try.prog 13 #[.pointer (some ⟨N + 2 * kq + 1, 0, none⟩), .pointer (some ⟨N + 2 * kt + 1, 0, none⟩)] w (MoveLive B w0 N rm xb op kq kt s Fq Fw Cq Ck b w) := by
  refine (move_inv h.inv hk ht b hb).mono ?_
  rintro e w' ⟨rfl, h1, h2⟩
  exact ⟨rfl, h.step h1 h2⟩
end
end Go.Proofs.Ytgmimhhehmahiaa
