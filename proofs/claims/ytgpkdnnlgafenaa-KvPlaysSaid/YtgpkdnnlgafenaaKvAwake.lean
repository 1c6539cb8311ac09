/- The laws' awake. -/
import Derived.Test.YtgpkdnnlgafenaaKvLaw
import Derived.Lib.SlBytesConst
import Derived.Deep.QuietTactic
import Derived.BigQuiet
namespace Go.Proofs.Ytgpkdnnlgafenaa
open Go.RowKit Kv
set_option linter.unusedVariables false

theorem conv_const (w : World) (b : Nat) (C : Array Value) (n c : Nat) (hb : b = w.heap.size) :
    (convert 27 27 (.slice (some ⟨b, 0, none⟩) n c)).run Try.prog (w.alloc (.cells C 5)) = .ok (.slice (some ⟨b, 0, none⟩) n c) (w.alloc (.cells C 5 (C.size, C.size + 1))) := by
  subst hb
  exact Lib.run_convert_bytes_const (P := Try.prog) w 27 5 C n c Try.underlying27 Try.underlying5
theorem cellAlloc (w : World) (o : Obj) (p : Addr) (hp : p.block < w.heap.size) : (w.alloc o).cell? p = w.cell? p := ((Below.refl w.heap.size w).alloc (Nat.le_refl _) o).cell hp
/-- Two Puts that have just been written. -/
theorem puts_lit2 (w : World) (ka kb : ByteArray) (va vb : List UInt8) (Aa Ab : Option Addr) (na nb : Nat) (ga gb : Bool) (X : List Nat) (b : Nat) (hb : b = w.heap.size) (hX : ∀ x, x ∈ X → x < w.heap.size) (ha : SeesX w w.heap.size X Aa va) (hbb : SeesX w w.heap.size X Ab vb) (hla : na = va.length) (hlb : nb = vb.length) (ca cb : Nat) (hca : na ≤ ca ∧ ca ≤ maxLen) (hcb : nb ≤ cb ∧ cb ≤ maxLen) (fr : Nat × Nat) :
    Puts (w.alloc (.cells #[.string ka, .slice Aa na ca, .bool ga, .string kb, .slice Ab nb cb, .bool gb] 29 fr)) (w.heap.size + 1) X (some ⟨b, 0, none⟩) [⟨ka, va, ga⟩, ⟨kb, vb, gb⟩] := fun _ => by
  subst hb hla hlb
  have ho : Only X w (w.alloc (.cells #[.string ka, .slice Aa va.length ca, .bool ga, .string kb, .slice Ab vb.length cb, .bool gb] 29 fr)) := (Only.refl X w).alloc _
  have cell : ∀ j, (w.alloc (.cells #[.string ka, .slice Aa va.length ca, .bool ga, .string kb, .slice Ab vb.length cb, .bool gb] 29 fr)).cell? ⟨w.heap.size, j, none⟩ = (#[Value.string ka, .slice Aa va.length ca, .bool ga, .string kb, .slice Ab vb.length cb, .bool gb])[j]? := fun j => by simp only [World.cell?, heap_alloc_new]; rfl
  refine ⟨w.heap.size, 0, rfl, by omega, fun hm => by have := hX _ hm; omega, fun j hj => ?_⟩
  match j, hj with
  | 0, _ => exact ⟨(cell _).trans rfl, ⟨Aa, ca, (cell _).trans rfl, hca.1, hca.2, (ha.only ho (Nat.le_refl _)).wide (by omega)⟩, (cell _).trans rfl⟩
  | 1, _ => exact ⟨(cell _).trans rfl, ⟨Ab, cb, (cell _).trans rfl, hcb.1, hcb.2, (hbb.only ho (Nat.le_refl _)).wide (by omega)⟩, (cell _).trans rfl⟩
  | j + 2, hj => exact absurd hj (by simp)
theorem seesX_new (w : World) (C : Array Value) (T : TypeId) (fr : Nat × Nat) (l : List UInt8) (hC : C.toList = bv l) (X : List Nat) (b : Nat) (hb : b = w.heap.size) (hX : ∀ x, x ∈ X → x < w.heap.size) : SeesX (w.alloc (.cells C T fr)) (w.heap.size + 1) X (some ⟨b, 0, none⟩) l := fun hn => by
  subst hb
  refine ⟨w.heap.size, 0, rfl, by omega, fun hm => by have := hX _ hm; omega, fun j hj => ?_⟩
  have h1 : (w.alloc (.cells C T fr)).cell? ⟨w.heap.size, 0 + j, none⟩ = C[0 + j]? := by simp only [World.cell?, heap_alloc_new]; rfl
  rw [h1, Nat.zero_add, ← Array.getElem?_toList, hC]
  simp [bv, hj]
theorem PRow.below {w w' : World} {v : Value} {L : List Ent} (h : PRow w v L) (hb : Below w.heap.size w w') : PRow w' v L := h.far (F := blk v) (S := []) (Only.of_below hb) (Far.nil _ _) (fun b hb => hb)
/-- What a row of pairs holds at i. -/
theorem PRow.get {w : World} {A : Option Addr} {n c : Nat} {L : List Ent} (h : PRow w (.slice A n c) L) (i : Nat) (hi : i < L.length) :
    ∃ g A' c', A = some ⟨g, 0, none⟩ ∧ g < w.heap.size ∧ w.cell? ⟨g, i * 2, none⟩ = some (.string L[i].k) ∧ w.cell? ⟨g, i * 2 + 1, none⟩ = some (.slice A' L[i].l.length c') ∧ L[i].l.length ≤ c' ∧ c' ≤ maxLen ∧ Sees w w.heap.size A' L[i].l := by
  rcases h.row.2 with ⟨_, hl⟩ | ⟨g, cap, cur, hv, _, hg, _⟩
  · exfalso
    have := pcells_length L
    rw [hl] at this
    simp at this; omega
  · injection hv with hA hn hc
    subst hA hn hc
    obtain ⟨h1, h2, A', n', c', h3, h4, h5, h6, h7⟩ := prow_cells h i hi
    rw [h3, h4] at h2
    exact ⟨g, A', c', rfl, (Array.getElem?_eq_some_iff.1 hg).1, h1, h2, h4 ▸ h5, h6, h7⟩
def kA : ByteArray := ⟨#[97]⟩
def kB : ByteArray := ⟨#[98]⟩
set_option maxHeartbeats 3200000 in
set_option maxRecDepth 100000 in
theorem kvAwake_any (w : World) : Calls Try.prog 8 #[] w fun e w' => e = .returned (.bool true) ∧ Below w.heap.size w w' := by
  have HNEW := Lib.hid (law_kvnew (B := w.heap.size) (w0 := w) (Below.refl _ _) (Nat.le_refl _))
  have kc := conv_const
  go_enter Try.func8, Try.ntmps8
  go_wp2_with fail
  refine HNEW.out.mono ?_
  rintro e w1 ⟨t, rfl, h1, _, _⟩
  obtain ⟨w2, Hw2⟩ : ∃ w2, Hid (w2 = (w1.alloc (.cells #[.int .u8 50] 5 (1, 2))).alloc (.cells #[.int .u8 49] 5 (1, 2))) := ⟨_, Lib.hid rfl⟩
  have hb2 : Below w1.heap.size w1 w2 := by rw [Hw2.out]; exact ((Below.refl _ _).alloc (Nat.le_refl _) _).alloc (by simp) _
  have hs2 : w2.heap.size = w1.heap.size + 1 + 1 := by rw [Hw2.out]; simp
  have hlt1 := h1.lt
  have hs50 : SeesX w2 w2.heap.size [t] (some ⟨w1.heap.size, 0, none⟩) [50] := by
    rw [Hw2.out]
    refine SeesX.wide (SeesX.only (X := [t]) (seesX_new w1 #[.int .u8 50] 5 (1, 2) [50] rfl [t] _ rfl hlt1) ((Only.refl _ _).alloc _) (by simp)) (by simp)
  have hs49 : SeesX w2 w2.heap.size [t] (some ⟨w1.heap.size + 1, 0, none⟩) [49] := by
    rw [Hw2.out]
    exact SeesX.wide (seesX_new (w1.alloc (.cells #[.int .u8 50] 5 (1, 2))) #[.int .u8 49] 5 (1, 2) [49] rfl [t] _ (by simp) (fun x hx => by have := hlt1 x hx; simp; omega)) (by simp)
  have hp := puts_lit2 w2 kB kA [50] [49] (some ⟨w1.heap.size, 0, none⟩) (some ⟨w1.heap.size + 1, 0, none⟩) 1 1 false false [t] (w1.heap.size + 1 + 1) hs2.symm (fun x hx => Nat.lt_of_lt_of_le (hlt1 x hx) hb2.size) hs50 hs49 rfl rfl 1 1 (by unfold maxLen; omega) (by unfold maxLen; omega) (0, 0)
  obtain ⟨w3, Hw3⟩ : ∃ w3, Hid (w3 = w2.alloc (.cells #[.string kB, .slice (some ⟨w1.heap.size, 0, none⟩) 1 1, .bool false, .string kA, .slice (some ⟨w1.heap.size + 1, 0, none⟩) 1 1, .bool false] 29 (0, 0))) := ⟨_, Lib.hid rfl⟩
  have hb3 : Below w1.heap.size w1 w3 := by rw [Hw3.out]; exact hb2.alloc hb2.size _
  rw [← Hw3.out] at hp
  have h3 := h1.below hb3
  have hcom := law_commit h3 (some ⟨w1.heap.size + 1 + 1, 0, none⟩) 2 2 [⟨kB, [50], false⟩, ⟨kA, [49], false⟩] (by decide) rfl (hp.wide (by rw [Hw3.out]; simp)) (by unfold maxLen; decide)
  have hst : (if may [⟨kB, [50], false⟩, ⟨kA, [49], false⟩] then steps [] [⟨kB, [50], false⟩, ⟨kA, [49], false⟩] else []) = [(kA, [49]), (kB, [50])] := by decide
  unfold LComEnd at hcom
  rw [hst] at hcom
  rw [show (if may [⟨kB, [50], false⟩, ⟨kA, [49], false⟩] then (0 : Int) else 1) = 0 from by decide] at hcom
  have HCOM := Lib.hid hcom
  clear HNEW h1 hb2 hs2 hlt1 hs50 hs49 hp hb3 h3 hcom hst
  go_wp2_with fail
  rw [← Hw2.out]
  have HW3 : Hid (w2.alloc (.cells #[.string ⟨#[98]⟩, .slice (some ⟨w1.heap.size, 0, none⟩) 1 1, .bool false, .string ⟨#[97]⟩, .slice (some ⟨w1.heap.size + 1, 0, none⟩) 1 1, .bool false] 29) = w3) := Lib.hid Hw3.out.symm
  rw [HW3.out]
  refine HCOM.out.mono ?_
  rintro e w4 ⟨rfl, F4, h4, _, _⟩
  have hr := range_any w4 t _ F4 kA kB 9 h4.tab h4.asc (by decide) h4.good (by decide)
  have HR := Lib.hid hr
  have H4 := Lib.hid h4
  clear HCOM h4 hr kc
  go_wp2_with fail
  refine HR.out.mono ?_
  rintro e w5 ⟨A, n, c, L', rfl, hn, hrow, hL, hb5, _⟩
  rw [show rng [(kA, [49]), (kB, [50])] kA kB 9 = [(kA, [49])] from by decide] at hL
  have hl1 : L'.length = 1 := by have := congrArg List.length hL; simpa using this
  obtain ⟨x, rfl⟩ := List.length_eq_one_iff.1 hl1
  simp only [List.map_cons, List.map_nil, List.cons.injEq, and_true] at hL
  obtain ⟨xk, xv, xl⟩ := x
  unfold Ent.pr at hL
  simp only [Prod.mk.injEq] at hL
  obtain ⟨rfl, rfl⟩ := hL
  subst hn
  have h5 := H4.out.below hb5
  have hg := get_any w5 t _ F4 kB h5.tab h5.asc (by decide) h5.good
  have HG := Lib.hid hg
  have H5 := Lib.hid h5
  have HROW := Lib.hid hrow
  clear HR H4 hb5 h5 hg hrow
  go_wp2_with fail
  refine HG.out.mono ?_
  rintro e w6 ⟨A6, n6, c6, rfl, hn6, _, _, hb6, hbel6⟩
  rw [show hit [(kA, [49]), (kB, [50])] kB = true from by decide]
  rw [show got [(kA, [49]), (kB, [50])] kB = [50] from by decide] at hn6 hb6
  subst hn6
  have h6 := H5.out.below hbel6
  have hlen := len_any w6 t _ F4 h6.tab
  have hrow6 := HROW.out.below hbel6
  obtain ⟨g, A7, c7, rfl, hg7, k1, k2, _, _, k5⟩ := hrow6.get 0 (by show 0 < 1; omega)
  have k1' : w6.cell? ⟨g, 0, none⟩ = some (.string kA) := k1
  have k2' : w6.cell? ⟨g, 1, none⟩ = some (.slice A7 1 c7) := k2
  have cv1 : ∀ m, (convert 27 9 (.slice A7 1 c7)).run Try.prog (w6.drewN m) = .ok (.string ⟨#[49]⟩) (w6.drewN m) := fun m =>
    run_sees_string (P := Try.prog) (w6.drewN m) 27 9 5 Try.underlying27 Try.underlying5 Try.underlying9 (k5.drewN m) 1 c7 rfl
  have cv2 : ∀ m, (convert 27 9 (.slice A6 1 c6)).run Try.prog (w6.drewN m) = .ok (.string ⟨#[50]⟩) (w6.drewN m) := fun m =>
    run_sees_string (P := Try.prog) (w6.drewN m) 27 9 5 Try.underlying27 Try.underlying5 Try.underlying9 (hb6.sees.drewN m) 1 c6 rfl
  have cv1' := cv1 0
  have cv2' := cv2 0
  rw [World.drewN_zero] at cv1' cv2'
  have eA : kA.toList = [97] := by rw [Lib.toList_data]; rfl
  have HLEN := Lib.hid hlen
  have HB6 := Lib.hid h6.bel
  clear HG H5 HROW hb6 hbel6 h6 hlen hrow6 k1 k2 k5 hl1
  go_wp2_with fail
  refine HLEN.out.mono ?_
  rintro e w7 ⟨rfl, rfl⟩
  go_wp2
  go_ret
  exact ⟨rfl, HB6.out⟩
end Go.Proofs.Ytgpkdnnlgafenaa
