/- KvKnown's walk. -/
import Derived.Test.YtpmgnmknjmnecaaKvLaw2
namespace Go.Proofs.Ytpmgnmknjmnecaa
open Go.RowKit Kv
set_option linter.unusedVariables false

/-- A literal's call on a table: one row of one byte, a row of Puts. -/
theorem law_lit {B : Nat} {w0 w : World} {t : Nat} {m : List Pr} {F : List Nat} (h : LTab B w0 w t m F) (zb : UInt8) (z : Int) (hz : z = (zb.toNat : Int)) (cs : Array Value) (l : List Pt) (n : Nat) (hn : n = l.length) (hlen : m.length + l.length ≤ 255)
    (hp : ∀ wA : World, wA.heap.size = w.heap.size + 1 → SeesX wA wA.heap.size F (some ⟨w.heap.size, 0, none⟩) [zb] → (∀ x, x ∈ F → x < wA.heap.size) → Puts (wA.alloc (.cells cs 29)) (wA.heap.size + 1) F (some ⟨w.heap.size + 1, 0, none⟩) l) (hk : ∀ x ∈ l, x.k.size ≤ maxLen) :
    Calls Try.prog 10 #[.pointer (some ⟨t, 0, none⟩), .slice (some ⟨w.heap.size + 1, 0, none⟩) n n] ((w.alloc (.cells #[.int .u8 z] 5 (1, 2))).alloc (.cells cs 29)) fun e w' =>
      e = .returned (.int .i64 (if may l then 0 else 1)) ∧ ∃ F', LTab B w0 w' t (if may l then steps m l else m) F' := by
  subst hz
  have hbA : Below w.heap.size w (w.alloc (.cells #[.int .u8 (zb.toNat : Int)] 5 (1, 2))) := (Below.refl _ _).alloc (Nat.le_refl _) _
  have hp' := hp (w.alloc (.cells #[.int .u8 (zb.toNat : Int)] 5 (1, 2))) (by simp) ((seesX_new w #[.int .u8 (zb.toNat : Int)] 5 (1, 2) [zb] rfl F _ rfl h.lt).wide (by simp)) (fun x hx => by have := h.lt x hx; simp; omega)
  have hb := hbA.alloc (o := .cells cs 29) (by simp)
  refine (law_commit (h.below hb) _ n n l hlen hn (hp'.wide (by simp)) hk).mono ?_
  rintro e w' ⟨rfl, F', h1, _, _⟩
  exact ⟨rfl, F', h1⟩
theorem puts_lit3 (w : World) (ka kb kc : ByteArray) (va : List UInt8) (Aa : Option Addr) (na : Nat) (ga gb gc : Bool) (X : List Nat) (b : Nat) (hb : b = w.heap.size) (hX : ∀ x, x ∈ X → x < w.heap.size) (ha : SeesX w w.heap.size X Aa va) (hla : na = va.length) (ca : Nat) (hca : na ≤ ca ∧ ca ≤ maxLen) (fr : Nat × Nat) :
    Puts (w.alloc (.cells #[.string ka, .slice Aa na ca, .bool ga, .string kb, .slice none 0 0, .bool gb, .string kc, .slice none 0 0, .bool gc] 29 fr)) (w.heap.size + 1) X (some ⟨b, 0, none⟩) [⟨ka, va, ga⟩, ⟨kb, [], gb⟩, ⟨kc, [], gc⟩] := fun _ => by
  subst hb hla
  have ho : Only X w (w.alloc (.cells #[.string ka, .slice Aa va.length ca, .bool ga, .string kb, .slice none 0 0, .bool gb, .string kc, .slice none 0 0, .bool gc] 29 fr)) := (Only.refl X w).alloc _
  have cell : ∀ j, (w.alloc (.cells #[.string ka, .slice Aa va.length ca, .bool ga, .string kb, .slice none 0 0, .bool gb, .string kc, .slice none 0 0, .bool gc] 29 fr)).cell? ⟨w.heap.size, j, none⟩ = (#[Value.string ka, .slice Aa va.length ca, .bool ga, .string kb, .slice none 0 0, .bool gb, .string kc, .slice none 0 0, .bool gc])[j]? := fun j => by simp only [World.cell?, heap_alloc_new]; rfl
  refine ⟨w.heap.size, 0, rfl, by omega, fun hm => by have := hX _ hm; omega, fun j hj => ?_⟩
  match j, hj with
  | 0, _ => exact ⟨(cell _).trans rfl, ⟨Aa, ca, (cell _).trans rfl, hca.1, hca.2, (ha.only ho (Nat.le_refl _)).wide (by omega)⟩, (cell _).trans rfl⟩
  | 1, _ => exact ⟨(cell _).trans rfl, ⟨none, 0, (cell _).trans rfl, Nat.le_refl _, Nat.zero_le _, SeesX.nil _ _ _ _⟩, (cell _).trans rfl⟩
  | 2, _ => exact ⟨(cell _).trans rfl, ⟨none, 0, (cell _).trans rfl, Nat.le_refl _, Nat.zero_le _, SeesX.nil _ _ _ _⟩, (cell _).trans rfl⟩
  | j + 3, hj => exact absurd hj (by simp)
def kC : ByteArray := ⟨#[99]⟩
def kZ : ByteArray := ⟨#[122]⟩
def kE : ByteArray := ⟨#[]⟩
def mK : List Pr := [(kB, []), (kC, [51])]
theorem dec_two : decP [2] = none := by
  unfold decP
  rw [dec_step eatsP (by simp)]
  rfl
theorem dec_13 : decP [0, 0, 1, 97, 1, 0, 1, 98, 0, 0, 0, 1, 120] = some [⟨kA, [], true⟩, ⟨kB, [120], false⟩] := by
  have h : encs [⟨kA, [], true⟩, ⟨kB, [120], false⟩] = [0, 0, 1, 97, 1, 0, 1, 98, 0, 0, 0, 1, 120] := by decide
  rw [← h]; exact decP_encs _ (by decide)
theorem load_4 : loadM [0, 0, 1, 97] = none := by
  have h : encs [⟨kA, [], true⟩] = [0, 0, 1, 97] := by decide
  unfold loadM
  rw [← h, decP_encs _ (by decide)]
  simp only
  rw [if_neg (fun h => by have := (h 0 (by simp)).1; cases this)]

theorem rng_len {fr to : ByteArray} {most : Int} {w w' : World} {e : Ending} (k : Nat) (h : RangeEnd mK fr to most w e w') (hk : (rng mK fr to most).length = k) : ∃ v, e = .returned v ∧ (∃ A c, v = .slice A k c) ∧ Below w.heap.size w w' := by
  obtain ⟨A, n, c, L', rfl, hn, _, hL, hb, _⟩ := h
  refine ⟨_, rfl, ⟨A, c, ?_⟩, hb⟩
  rw [hn, ← hk, ← hL, List.length_map]

set_option maxHeartbeats 8000000 in
set_option maxRecDepth 100000 in
theorem kvKnown_walk (w : World) : Calls Try.prog 3 #[] w fun e w' => e = .returned (.bool true) ∧ Below w.heap.size w w' := by
  have HAW := Lib.hid (kvAwake_any w)
  have kc := conv_const
  go_enter Try.func3, Try.ntmps3
  go_wp2_with fail
  refine HAW.out.mono ?_
  rintro e w1 ⟨rfl, hb1⟩
  have HNEW := Lib.hid (law_kvnew (B := w.heap.size) (w0 := w) hb1 hb1.size)
  clear HAW hb1
  go_wp2_with fail
  refine HNEW.out.mono ?_
  rintro e w2 ⟨t, rfl, h2, _, _⟩
  have hml : ∀ {x : Nat}, x ≤ 200 → x ≤ maxLen := fun h => by unfold maxLen; omega
  have HA := Lib.hid (law_lit h2 49 49 rfl #[.string kA, .slice (some ⟨w2.heap.size, 0, none⟩) 1 1, .bool false, .string kE, .slice none 0 0, .bool false] [⟨kA, [49], false⟩, ⟨kE, [], false⟩] 2 rfl (by decide)
    (fun wA hsz hs hX => puts_lit2 wA kA kE [49] [] _ none 1 0 false false _ _ hsz.symm hX hs (SeesX.nil _ _ _ _) rfl rfl 1 0 ⟨Nat.le_refl _, hml (by omega)⟩ ⟨Nat.le_refl _, Nat.zero_le _⟩ (0, 0)) (fun x hx => by simp at hx; rcases hx with rfl | rfl <;> exact hml (by decide)))
  rw [show may [⟨kA, [49], false⟩, ⟨kE, [], false⟩] = false from by decide] at HA
  clear HNEW h2
  go_wp2_with fail
  refine HA.out.mono ?_
  rintro e w3 ⟨rfl, F3, h3⟩
  have h3' : LTab w.heap.size w w3 t [] F3 := h3
  have HA2 := Lib.hid (law_lit h3' 49 49 rfl #[.string kA, .slice (some ⟨w3.heap.size, 0, none⟩) 1 1, .bool true] [⟨kA, [49], true⟩] 1 rfl (by decide)
    (fun wA hsz hs hX => puts_lit1 wA kA [49] _ 1 true _ _ hsz.symm hX hs rfl 1 ⟨Nat.le_refl _, hml (by omega)⟩ (0, 0)) (fun x hx => by simp at hx; subst hx; exact hml (by decide)))
  rw [show may [⟨kA, [49], true⟩] = false from by decide] at HA2
  clear HA h3 h3'
  go_wp2_with fail
  refine HA2.out.mono ?_
  rintro e w4 ⟨rfl, F4, h4⟩
  have h4' : LTab w.heap.size w w4 t [] F4 := h4
  have HA3 := Lib.hid (law_lit h4' 49 49 rfl #[.string kA, .slice (some ⟨w4.heap.size, 0, none⟩) 1 1, .bool false, .string kA, .slice none 0 0, .bool true, .string kZ, .slice none 0 0, .bool true] [⟨kA, [49], false⟩, ⟨kA, [], true⟩, ⟨kZ, [], true⟩] 3 rfl (by decide)
    (fun wA hsz hs hX => puts_lit3 wA kA kA kZ [49] _ 1 false true true _ _ hsz.symm hX hs rfl 1 ⟨Nat.le_refl _, hml (by omega)⟩ (0, 0)) (fun x hx => by simp at hx; rcases hx with rfl | rfl | rfl <;> exact hml (by decide)))
  rw [show may [⟨kA, [49], false⟩, ⟨kA, [], true⟩, ⟨kZ, [], true⟩] = true from by decide] at HA3
  clear HA2 h4 h4'
  go_wp2_with fail
  refine HA3.out.mono ?_
  rintro e w5 ⟨rfl, F5, h5⟩
  have h5' : LTab w.heap.size w w5 t [] F5 := h5
  have HLN := Lib.hid (len_any w5 t [] F5 h5'.tab)
  clear HA3 h5
  have H5 := Lib.hid h5'
  clear h5'
  go_wp2_with fail
  refine HLN.out.mono ?_
  rintro e w6 ⟨rfl, rfl⟩
  have HA4 := Lib.hid (law_lit H5.out 51 51 rfl #[.string kB, .slice none 0 0, .bool false, .string kC, .slice (some ⟨w5.heap.size, 0, none⟩) 1 1, .bool false] [⟨kB, [], false⟩, ⟨kC, [51], false⟩] 2 rfl (by decide)
    (fun wA hsz hs hX => puts_lit2 wA kB kC [] [51] none _ 0 1 false false _ _ hsz.symm hX (SeesX.nil _ _ _ _) hs rfl rfl 0 1 ⟨Nat.le_refl _, Nat.zero_le _⟩ ⟨Nat.le_refl _, hml (by omega)⟩ (0, 0)) (fun x hx => by simp at hx; rcases hx with rfl | rfl <;> exact hml (by decide)))
  rw [show may [⟨kB, [], false⟩, ⟨kC, [51], false⟩] = true from by decide] at HA4
  clear HLN H5
  go_wp2_with fail
  refine HA4.out.mono ?_
  rintro e w7 ⟨rfl, F7, h7⟩
  have h7' : LTab w.heap.size w w7 t mK F7 := by
    have e : steps [] [⟨kB, [], false⟩, ⟨kC, [51], false⟩] = mK := by decide
    have h7a : LTab w.heap.size w w7 t (steps [] [⟨kB, [], false⟩, ⟨kC, [51], false⟩]) F7 := h7
    rw [e] at h7a; exact h7a
  have hd2 := decode_any (w7.alloc (.cells #[.int .u8 2] 5)) (some ⟨w7.heap.size, 0, none⟩) 1 1 [2] rfl (Nat.le_refl _) (hml (by omega)) (by omega) ((Sees.new w7 5 #[.int .u8 2] [2] rfl).mono (by simp))
  unfold DecEnd at hd2
  rw [dec_two] at hd2
  have HD2 := Lib.hid hd2
  have H7 := Lib.hid (h7'.below ((Below.refl _ _).alloc (Nat.le_refl _) (.cells #[.int .u8 2] 5)))
  clear HA4 h7 h7' hd2
  go_wp2_with fail
  refine HD2.out.mono ?_
  rintro e w8 ⟨rfl, hb8⟩
  have h8 := H7.out.below hb8
  have hd3 := decode_any (w8.alloc (.cells #[.int .u8 0, .int .u8 0, .int .u8 1, .int .u8 97, .int .u8 1, .int .u8 0, .int .u8 1, .int .u8 98, .int .u8 0, .int .u8 0, .int .u8 0, .int .u8 1, .int .u8 120] 5)) (some ⟨w8.heap.size, 0, none⟩) 13 13 [0, 0, 1, 97, 1, 0, 1, 98, 0, 0, 0, 1, 120] rfl (Nat.le_refl _) (hml (by omega)) (by omega) ((Sees.new w8 5 #[.int .u8 0, .int .u8 0, .int .u8 1, .int .u8 97, .int .u8 1, .int .u8 0, .int .u8 1, .int .u8 98, .int .u8 0, .int .u8 0, .int .u8 0, .int .u8 1, .int .u8 120] [0, 0, 1, 97, 1, 0, 1, 98, 0, 0, 0, 1, 120] rfl).mono (by simp))
  unfold DecEnd at hd3
  rw [dec_13] at hd3
  have HD3 := Lib.hid hd3
  have H8 := Lib.hid (h8.below ((Below.refl _ _).alloc (Nat.le_refl _) (.cells #[.int .u8 0, .int .u8 0, .int .u8 1, .int .u8 97, .int .u8 1, .int .u8 0, .int .u8 1, .int .u8 98, .int .u8 0, .int .u8 0, .int .u8 0, .int .u8 1, .int .u8 120] 5)))
  clear HD2 H7 hb8 h8 hd3
  go_wp2_with fail
  refine HD3.out.mono ?_
  rintro e w9 ⟨A9, n9, c9, D, rfl, hn9, hD, hrow9, hb9, _⟩
  obtain rfl : n9 = 2 := hn9
  have h9 := H8.out.below hb9
  have hd4 := load_any (w9.alloc (.cells #[.int .u8 0, .int .u8 0, .int .u8 1, .int .u8 97] 5)) (some ⟨w9.heap.size, 0, none⟩) 4 4 [0, 0, 1, 97] rfl (Nat.le_refl _) (hml (by omega)) (by omega) ((Sees.new w9 5 #[.int .u8 0, .int .u8 0, .int .u8 1, .int .u8 97] [0, 0, 1, 97] rfl).mono (by simp)) (fun L hL => by
    have := (decP_some hL).1
    have h2 := congrArg List.length this
    have h3 : ∀ L : List Pt, L.length ≤ (encs L).length := fun L => by
      induction L with
      | nil => simp
      | cons x L ih => rw [encs_cons, List.length_append, List.length_cons]; have := enc1_pos x; omega
    have := h3 L
    simp at h2; omega)
  unfold LoadEnd at hd4
  rw [load_4] at hd4
  have HD4 := Lib.hid hd4
  have hb9a : Below w9.heap.size w9 (w9.alloc (.cells #[.int .u8 0, .int .u8 0, .int .u8 1, .int .u8 97] 5)) := (Below.refl _ _).alloc (Nat.le_refl _) _
  have H9 := Lib.hid (⟨h9.below hb9a, hrow9.below hb9a⟩ : _ ∧ _)
  have HDD := Lib.hid hD
  clear HD3 H8 hb9 h9 hd4 hb9a hrow9 hD
  go_wp2_with fail
  refine HD4.out.mono ?_
  rintro e w10 ⟨rfl, hb10⟩
  have h10 := H9.out.1.below hb10
  have HBY := Lib.hid (law_bytes h10 (by decide))
  have H10 := Lib.hid (⟨h10, H9.out.2.below hb10⟩ : _ ∧ _)
  clear HD4 H9 hb10 h10
  go_wp2_with fail
  refine HBY.out.mono ?_
  rintro e w11 ⟨A11, n11, c11, rfl, hn11, hc11, hm11, hr11, hb11⟩
  have h11 := H10.out.1.below hb11
  have HLO := Lib.hid (law_load h11.bel h11.size h11.asc h11.good (by decide) A11 n11 c11 hn11 hc11 hm11 hr11.sees)
  have H11 := Lib.hid (⟨h11, H10.out.2.below hb11⟩ : _ ∧ _)
  clear HBY H10 hn11 hc11 hm11 hr11 hb11 h11
  go_wp2_with fail
  refine HLO.out.mono ?_
  rintro e w12 ⟨u, Fu, rfl, hu12, hb12, _⟩
  have hrow := H11.out.2.below hb12
  have HT := Lib.hid (⟨H11.out.1.below hb12, hu12⟩ : LTab w.heap.size w w12 t mK F7 ∧ LTab w.heap.size w w12 u mK Fu)
  have hDl : D.length = 2 := by have := congrArg List.length HDD.out; simpa using this
  have hps : Puts w12 w12.heap.size [] A9 [⟨kA, [], true⟩, ⟨kB, [120], false⟩] := by
    have := hrow.puts [] (fun b hb => by cases hb) (fun b _ hb => by cases hb)
    rwa [HDD.out] at this
  obtain ⟨g8, rfl⟩ : ∃ g8, A9 = some ⟨g8, 0, none⟩ := by
    rcases hrow.row.2 with ⟨_, hl⟩ | ⟨g, cap, cur, hv, _⟩
    · exfalso
      have hl' : D.length = 0 := hl
      omega
    · injection hv with hA; exact ⟨g, hA⟩
  obtain ⟨g, o, _, _, e0, hg, _, _, k3, _⟩ := hps.at 0 (by simp)
  injection e0 with e0; injection e0 with e1 e2 _; subst e1 e2
  obtain ⟨g', o', A5, c5, e0, _, _, k2, _, _, _, k6⟩ := hps.at 1 (by simp)
  injection e0 with e0; injection e0 with e1 e2 _; subst e1 e2
  have kk3 : w12.cell? ⟨g8, 2, none⟩ = some (.bool true) := k3
  have kk2 : w12.cell? ⟨g8, 4, none⟩ = some (.slice A5 1 c5) := k2
  have cv := run_sees_string (P := Try.prog) w12 27 9 5 Try.underlying27 Try.underlying5 Try.underlying9 k6.sees 1 c5 rfl
  have cv' : (convert 27 9 (.slice A5 1 c5)).run Try.prog w12 = .ok (.string ⟨#[120]⟩) w12 := cv
  have HLU := Lib.hid (len_any w12 u mK Fu HT.out.2.tab)
  have HR1 := Lib.hid (range_any w12 t mK F7 ⟨#[]⟩ ⟨#[]⟩ 1 HT.out.1.tab HT.out.1.asc (by decide) HT.out.1.good (by decide))
  clear HLO H11 hu12 hb12 hrow hDl hps k3 k2 k6 hg kc cv
  go_wp2_with fail
  refine HLU.out.mono ?_
  rintro e w13 ⟨rfl, rfl⟩
  clear HLU
  go_wp2_with fail
  refine HR1.out.mono ?_
  intro e w14 he
  obtain ⟨v, rfl, ⟨A14, c14, rfl⟩, hb14⟩ := rng_len 1 he (by decide)
  have ht14 := HT.out.1.below hb14
  have HR2 := Lib.hid (range_any w14 t mK F7 ⟨#[]⟩ ⟨#[]⟩ 0 ht14.tab ht14.asc (by decide) ht14.good (by decide))
  have H14 := Lib.hid ht14
  clear HR1 he hb14 ht14 kk3 kk2 cv'
  go_wp2_with fail
  refine HR2.out.mono ?_
  intro e w15 he
  obtain ⟨v, rfl, ⟨A15, c15, rfl⟩, hb15⟩ := rng_len 0 he (by decide)
  have ht15 := H14.out.below hb15
  have HR3 := Lib.hid (range_any w15 t mK F7 ⟨#[99]⟩ ⟨#[]⟩ 9 ht15.tab ht15.asc (by decide) ht15.good (by decide))
  have H15 := Lib.hid ht15
  clear HR2 H14 he hb15 ht15
  go_wp2_with fail
  refine HR3.out.mono ?_
  intro e w16 he
  obtain ⟨v, rfl, ⟨A16, c16, rfl⟩, hb16⟩ := rng_len 1 he (by decide)
  have ht16 := H15.out.below hb16
  have hba : Below w16.heap.size w16 (w16.alloc (.cells #[.string ⟨#[]⟩, .slice none 0 0, .bool false] 29)) := (Below.refl _ _).alloc (Nat.le_refl _) _
  have hp16 := (puts_lit1 w16 ⟨#[]⟩ [] none 0 false [] w16.heap.size rfl (fun x hx => by cases hx) (SeesX.nil _ _ _ _) rfl 0 ⟨Nat.le_refl _, Nat.zero_le _⟩ (0, 0)).wide (N' := (w16.alloc (.cells #[.string ⟨#[]⟩, .slice none 0 0, .bool false] 29)).heap.size) (by simp)
  have henc := encode_any (w16.alloc (.cells #[.string ⟨#[]⟩, .slice none 0 0, .bool false] 29)) (some ⟨w16.heap.size, 0, none⟩) 1 1 [⟨⟨#[]⟩, [], false⟩] [] rfl (by omega) hp16 (fun x hx => by simp at hx; subst hx; exact hml (by decide))
  have HENC := Lib.hid henc
  have H16 := Lib.hid (ht16.below hba)
  clear HR3 H15 he hb16 ht16 hba hp16 henc
  go_wp2_with fail
  refine HENC.out.mono ?_
  rintro e w17 ⟨A, n, c, rfl, hn, _, _, _, hb17⟩
  rw [show (encode [⟨⟨#[]⟩, [], false⟩]).length = 0 from by decide] at hn
  subst hn
  have HEND := Lib.hid (H16.out.below hb17).bel
  clear HENC H16 hb17
  go_wp2
  go_ret
  exact ⟨rfl, HEND.out⟩
end Go.Proofs.Ytpmgnmknjmnecaa
