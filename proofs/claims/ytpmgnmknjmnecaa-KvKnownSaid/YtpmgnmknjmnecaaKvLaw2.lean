/- More of tables in a law: their bytes, what is loaded. -/
import Derived.Test.YtpmgnmknjmnecaaKvAwake
import Derived.Test.YtpmgnmknjmnecaaKvByt
import Derived.Test.YtpmgnmknjmnecaaKvEncR
import Derived.Test.YtpmgnmknjmnecaaKvLoad
namespace Go.Proofs.Ytpmgnmknjmnecaa
open Go.RowKit Kv
set_option linter.unusedVariables false

/-- One Put that has just been written. -/
theorem puts_lit1 (w : World) (ka : ByteArray) (va : List UInt8) (Aa : Option Addr) (na : Nat) (ga : Bool) (X : List Nat) (b : Nat) (hb : b = w.heap.size) (hX : ∀ x, x ∈ X → x < w.heap.size) (ha : SeesX w w.heap.size X Aa va) (hla : na = va.length) (ca : Nat) (hca : na ≤ ca ∧ ca ≤ maxLen) (fr : Nat × Nat) :
    Puts (w.alloc (.cells #[.string ka, .slice Aa na ca, .bool ga] 29 fr)) (w.heap.size + 1) X (some ⟨b, 0, none⟩) [⟨ka, va, ga⟩] := fun _ => by
  subst hb hla
  have ho : Only X w (w.alloc (.cells #[.string ka, .slice Aa va.length ca, .bool ga] 29 fr)) := (Only.refl X w).alloc _
  have cell : ∀ j, (w.alloc (.cells #[.string ka, .slice Aa va.length ca, .bool ga] 29 fr)).cell? ⟨w.heap.size, j, none⟩ = (#[Value.string ka, .slice Aa va.length ca, .bool ga])[j]? := fun j => by simp only [World.cell?, heap_alloc_new]; rfl
  refine ⟨w.heap.size, 0, rfl, by omega, fun hm => by have := hX _ hm; omega, fun j hj => ?_⟩
  match j, hj with
  | 0, _ => exact ⟨(cell _).trans rfl, ⟨Aa, ca, (cell _).trans rfl, hca.1, hca.2, (ha.only ho (Nat.le_refl _)).wide (by omega)⟩, (cell _).trans rfl⟩
  | j + 1, hj => exact absurd hj (by simp)
theorem law_bytes {B : Nat} {w0 w : World} {t : Nat} {m : List Pr} {F : List Nat} (h : LTab B w0 w t m F) (hl : m.length ≤ 400) : Calls Try.prog 14 #[.pointer (some ⟨t, 0, none⟩)] w (BytesEnd m w) := bytes_any w t m F h.tab h.asc hl h.good


theorem load_bytes {m : List Pr} (ha : Asc m) (hg : Kv.Good m) : loadM (Kv.bytes m) = some m := by
  unfold loadM
  rw [decP_bytes hg]
  simp only
  rw [if_pos ha.rises, map_put1_kvOf]
theorem law_load {B : Nat} {w0 w : World} {m : List Pr} (hbw : Below B w0 w) (hsz : B ≤ w.heap.size) (ha : Asc m) (hg : Kv.Good m) (hl : m.length ≤ 255) (A : Option Addr) (n c : Nat) (hn : n = (Kv.bytes m).length) (hnc : n ≤ c) (hcm : c ≤ maxLen) (hs : Sees w w.heap.size A (Kv.bytes m)) :
    Calls Try.prog 13 #[.slice A n c] w fun e w' => ∃ t F, e = .returned (.tuple #[.pointer (some ⟨t, 0, none⟩), .int .i64 0]) ∧ LTab B w0 w' t m F ∧ Below w.heap.size w w' ∧ ∀ b, b ∈ F → w.heap.size ≤ b := by
  have hbl := bytes_le hg
  have hbl2 : m.length * 200207 ≤ 255 * 200207 := Nat.mul_le_mul_right _ hl
  refine (load_any w A n c (Kv.bytes m) hn hnc hcm (by omega) hs (fun L hL => by
    rw [decP_bytes hg] at hL
    injection hL with hL
    rw [← hL, List.length_map]; exact hl)).mono ?_
  intro e w' h
  unfold LoadEnd at h
  rw [load_bytes ha hg] at h
  obtain ⟨t, F, rfl, h1, h2, h3⟩ := h
  exact ⟨t, F, rfl, ⟨h1, fun b hb => Nat.le_trans hsz (h3 b hb), hbw.trans (h2.mono hsz), Nat.le_trans hsz h2.size, ha, hg⟩, h2, h3⟩
end Go.Proofs.Ytpmgnmknjmnecaa
