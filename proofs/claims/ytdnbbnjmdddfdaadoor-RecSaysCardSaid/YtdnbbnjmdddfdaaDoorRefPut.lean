/- The walk of the reference's PutRec. -/
import Derived.Test.YtdnbbnjmdddfdaaDoorRecPut
import Derived.Test.YtdnbbnjmdddfdaaDoorRefPr3
import Derived.Test.YtdnbbnjmdddfdaaDoorRefCrc
import Derived.Test.YtdnbbnjmdddfdaaDoorRefNum
namespace Go.Proofs.YtdnbbnjmdddfdaaDoor
open Go.RowKit
set_option linter.unusedVariables false

theorem Acc.rnum {B : Nat} {w0 w : World} {v : Value} {l : List UInt8} (h : Acc B w0 w v l) (x s : Nat) (hs : s ≤ 8) (hl : l.length + 8 ≤ 140737488355328) (X S : Int) (hX : X = (x : Int)) (hS : S = (s : Int)) :
    Calls Tryd.prog 35 #[v, .int .u64 X, .int .i64 S] w (AccEnd B w0 (l ++ Rc.big x s)) := by
  subst hX; subst hS
  refine (rbig_any v l x s w h.row hs hl).mono ?_
  rintro e w' ⟨v', rfl, h1, h2, h3⟩
  obtain ⟨A', c', rfl, h4, h5⟩ := h1.shape
  exact ⟨A', c', _, Lib.hid rfl, rfl, h.step h1 h2 h3, h4, h5⟩
/-- A row under way, and the value that holds it. -/
def AccV (B : Nat) (w0 w : World) (V : Value) (l : List UInt8) : Prop := ∃ (A : Option Addr) (c : Nat) (L : List UInt8), Hid (L = l) ∧ V = .slice A L.length c ∧ Acc B w0 w (.slice A L.length c) L ∧ L.length ≤ c ∧ c ≤ maxLen
theorem AccEnd.val {B : Nat} {w0 : World} {l : List UInt8} {e : Ending} {w' : World} (h : AccEnd B w0 l e w') : ∃ v, e = .returned v ∧ AccV B w0 w' v l := by
  obtain ⟨A, c, L, h1, rfl, h3, h4, h5⟩ := h
  exact ⟨_, rfl, A, c, L, h1, rfl, h3, h4, h5⟩
/-- What holds while PutRec's first region runs. -/
def PrS (B : Nat) (w0 : World) (z : Nat) (b : List UInt8) (p : Nat) (R : Nat → Value) (w : World) : Prop :=
  Below B w0 w ∧ (p = 0 → Acc B w0 w (.slice none 0 0) []) ∧ (p = 1 → AccV B w0 w (R 0) (Rc.big b.length 4)) ∧ (p = 2 → AccV B w0 w (R 1) (Rc.big b.length 4 ++ Rc.big z 8)) ∧ (p = 3 → AccV B w0 w (R 2) (Rc.hd z b)) ∧ (p = 4 → AccV B w0 w (R 3) (Rc.hd z b))
theorem AccV.below {B : Nat} {w0 w : World} {V : Value} {l : List UInt8} (h : AccV B w0 w V l) : Below B w0 w := by
  obtain ⟨A, c, L, _, _, h1, _⟩ := h; exact h1.below

theorem PrS.start (B : Nat) (w : World) (z : Nat) (b : List UInt8) (R : Nat → Value) (hB : B ≤ w.heap.size) : PrS B w z b 0 R w.drew :=
  ⟨(Below.refl _ _).drew, fun _ => ⟨BRow.nil _, fun k hk => by simp [blk, Value.ownBlock] at hk, (Below.refl _ _).drew, by simpa using hB⟩, (fun h => by cases h), (fun h => by cases h), (fun h => by cases h), (fun h => by cases h)⟩
theorem PrS.call1 {B : Nat} {w0 w : World} {z : Nat} {b : List UInt8} {R : Nat → Value} (h : PrS B w0 z b 0 R w) (hb : b.length ≤ 200000) :
    Calls Tryd.prog 35 #[.slice none 0 0, .int .u64 (b.length : Int), .int .i64 4] w fun e w' => ∃ v, e = .returned v ∧ PrS B w0 z b 1 (setR R 0 v) w' := by
  refine ((h.2.1 rfl).rnum b.length 4 (by omega) (by simp) _ _ rfl rfl).mono ?_
  rintro e w' he
  obtain ⟨v, rfl, hv⟩ := he.val
  exact ⟨v, rfl, hv.below, (fun h => by cases h), (fun _ => by simpa [setR] using hv), (fun h => by cases h), (fun h => by cases h), (fun h => by cases h)⟩
theorem PrS.call2 {B : Nat} {w0 w : World} {z : Nat} {b : List UInt8} {R : Nat → Value} (h : PrS B w0 z b 1 R w) (hb : b.length ≤ 200000) :
    Calls Tryd.prog 35 #[R 0, .int .u64 (z : Int), .int .i64 8] w fun e w' => ∃ v, e = .returned v ∧ PrS B w0 z b 2 (setR R 1 v) w' := by
  obtain ⟨A, c, L, HL, e, h1, _⟩ := h.2.2.1 rfl
  rw [e]
  refine (h1.rnum z 8 (by omega) (by rw [HL.out, Rc.big_length]; omega) _ _ rfl rfl).mono ?_
  rintro e w' he
  obtain ⟨v, rfl, hv⟩ := he.val
  rw [HL.out] at hv
  exact ⟨v, rfl, hv.below, (fun h => by cases h), (fun h => by cases h), (fun _ => by simpa [setR] using hv), (fun h => by cases h), (fun h => by cases h)⟩
theorem PrS.call3 {B : Nat} {w0 w : World} {z : Nat} {b : List UInt8} {R : Nat → Value} (h : PrS B w0 z b 2 R w) (hb : b.length ≤ 200000) (C c : Nat) (A : Option Addr) (hs : Sees w C A b) (ty : TypeId) :
    ∃ v w', (Builtin.append_ #[23, 23] ty #[R 1, .slice A b.length c]).run Tryd.prog w = .ok v w' ∧ PrS B w0 z b 3 (setR R 2 v) w' := by
  obtain ⟨A1, c1, L, HL, e, h1, _⟩ := h.2.2.2.1 rfl
  rw [e]
  obtain ⟨A', c', w', L', HL', hrun, h2, h3, h4⟩ := h1.sees C A b.length c b rfl hs (by rw [HL.out]; simp [Rc.big_length]; omega) ty
  exact ⟨_, w', hrun, h2.below, (fun h => by cases h), (fun h => by cases h), (fun h => by cases h), (fun _ => ⟨A', c', L', Lib.hid (by rw [HL'.out, HL.out]; rfl), by simp [setR], h2, h3, h4⟩), (fun h => by cases h)⟩
theorem PrS.call4 {B : Nat} {w0 w : World} {z : Nat} {b : List UInt8} {R : Nat → Value} (h : PrS B w0 z b 3 R w) : PrS B w0 z b 4 (setR R 3 (R 2)) w :=
  ⟨h.1, (fun h => by cases h), (fun h => by cases h), (fun h => by cases h), (fun h => by cases h), (fun _ => by have := h.2.2.2.2.1 rfl; simpa [setR] using this)⟩

set_option maxHeartbeats 800000 in
set_option maxRecDepth 100000 in
theorem rput_no (A : Option Addr) (n c : Nat) (z : Int) (A2 : Option Addr) (n2 c2 : Nat) (w : World) (hn2 : n2 ≤ maxLen) (hz : z < 1 ∨ 200000 < n2) :
    Calls Tryd.prog 15 #[.slice A n c, .agg #[.int .i64 z, .slice A2 n2 c2]] w fun e w' => e = .returned (.tuple #[.slice none 0 0, .int .i64 1]) ∧ Below w.heap.size w w' := by
  unfold maxLen at hn2
  have HB := Lib.hid ((Below.refl w.heap.size w).alloc (Nat.le_refl _) (.cells #[.int .i64 z, .slice A2 n2 c2] 36))
  by_cases h1 : z < 1
  · go_enter Tryd.func15, Tryd.ntmps15
    go_wp2
    go_ret2
    exact ⟨rfl, HB.out⟩
  · have h2 : (200000 : Int) < n2 := by omega
    go_enter Tryd.func15, Tryd.ntmps15
    go_wp2
    go_ret2
    exact ⟨rfl, HB.out⟩

set_option maxHeartbeats 1600000 in
set_option maxRecDepth 100000 in
theorem rput_ok (A : Option Addr) (n c : Nat) (l : List UInt8) (z : Nat) (A2 : Option Addr) (n2 c2 : Nat) (l2 : List UInt8) (w : World) (hn : n = l.length) (hs : Sees w w.heap.size A l) (hn2 : n2 = l2.length) (hs2 : Sees w w.heap.size A2 l2)
    (hz : 1 ≤ z) (hz2 : z ≤ 9223372036854775807) (h2 : l2.length ≤ 200000) (hl : l.length ≤ 140737488000000) :
    Calls Tryd.prog 15 #[.slice A n c, .agg #[.int .i64 (z : Int), .slice A2 n2 c2]] w fun e w' => ∃ A' c' L, Hid (L = l ++ Rc.enc z l2) ∧ e = .returned (.tuple #[.slice A' L.length c', .int .i64 0]) ∧ w'.ownsRow w.heap.size 5 1 (.slice A' L.length c') L.length (bv L) ∧ Below w.heap.size w w' ∧ L.length ≤ c' ∧ c' ≤ maxLen := by
  subst hn hn2
  obtain ⟨w1, Hw1⟩ : ∃ w1, Hid (w1 = w.alloc (.cells #[.int .i64 (z : Int), .slice A2 l2.length c2] 36)) := ⟨_, Lib.hid rfl⟩
  have hb1 : Below w.heap.size w w1 := by rw [Hw1.out]; exact (Below.refl _ _).alloc (Nat.le_refl _) _
  have hz1s : w1.heap.size = w.heap.size + 1 := by rw [Hw1.out]; simp
  have hc0 : w1.cell? ⟨w.heap.size, 0, none⟩ = some (.int .i64 (z : Int)) := by rw [Hw1.out, World.cell?_alloc_at _ _ _ _ rfl]; rfl
  have hc1 : w1.cell? ⟨w.heap.size, 1, none⟩ = some (.slice A2 l2.length c2) := by rw [Hw1.out, World.cell?_alloc_at _ _ _ _ rfl]; rfl
  have HB1 := Lib.hid hb1
  have HZ1S := Lib.hid hz1s
  have keep : ∀ W : World, Below (w.heap.size + 1) w1 W → W.cell? ⟨w.heap.size, 0, none⟩ = some (.int .i64 (z : Int)) ∧ W.cell? ⟨w.heap.size, 1, none⟩ = some (.slice A2 l2.length c2) ∧ Sees W w.heap.size A l ∧ Sees W w.heap.size A2 l2 := fun W hb => by
    have hbw : Below w.heap.size w W := hb1.trans (hb.mono (by omega))
    exact ⟨(hb.cell (p := ⟨w.heap.size, 0, none⟩) (by show w.heap.size < _; omega)).trans hc0, (hb.cell (p := ⟨w.heap.size, 1, none⟩) (by show w.heap.size < _; omega)).trans hc1, hs.below hbw (Nat.le_refl _), hs2.below hbw (Nat.le_refl _)⟩
  have KEEP := Lib.hid keep
  have hl2 : (l2.length : Int) ≤ 200000 := by omega
  clear hs hs2 hb1 hc0 hc1 keep hz1s
  go_enter Tryd.func15, Tryd.ntmps15
  go_wp2
  rw [← Hw1.out]
  refine pr3 w.heap.size l2.length z c2 A2 (PrS (w.heap.size + 1) w1 z l2) (by show 27 < 37; omega) rfl (fun p R W h => (KEEP.out W h.1).1) (fun p R W h => (KEEP.out W h.1).2.1) (by omega) hl2 (fun R W h => h.call1 h2) (fun R W h => h.call2 h2) (fun R W h => h.call3 h2 w.heap.size c2 A2 (KEEP.out W h.1).2.2.2 _) (fun R W h => h.call4) (PrS.start _ _ _ _ _ (by rw [HZ1S.out]; omega)) ?_
  intro af wN hfr hS
  obtain ⟨A3, c3, L3, HL3, e6, hacc3, h3a, h3b⟩ := hS.2.2.2.2.2 rfl
  replace e6 : af.eval (.tmp 6) = .slice A3 L3.length c3 := e6
  have HA3 := Lib.hid hacc3
  clear hS hacc3
  have ha := hfr.eq (by intro t ht; simp at ht; show t < 37; omega)
  simp only [List.foldl_cons, List.foldl_nil] at ha
  clear hfr
  generalize af.eval (.tmp 16) = u16 at ha
  generalize af.eval (.tmp 17) = u17 at ha
  generalize af.eval (.tmp 18) = u18 at ha
  generalize af.eval (.tmp 19) = u19 at ha
  generalize af.eval (.tmp 20) = u20 at ha
  generalize af.eval (.tmp 21) = u21 at ha
  generalize af.eval (.tmp 22) = u22 at ha
  generalize af.eval (.tmp 23) = u23 at ha
  generalize af.eval (.tmp 24) = u24 at ha
  generalize af.eval (.tmp 25) = u25 at ha
  generalize af.eval (.tmp 26) = u26 at ha
  generalize af.eval (.tmp 27) = u27 at ha
  rw [e6] at ha
  subst ha
  simp only [Act.put, List.setIfInBounds_toArray, List.set_cons_zero, List.set_cons_succ]
  have hN := HA3.out.size
  have hzN : w.heap.size + 1 ≤ wN.heap.size := hN
  obtain ⟨w28, Hw28⟩ : ∃ w28, Hid (w28 = wN.alloc (.cells #[] 5)) := ⟨_, Lib.hid rfl⟩
  have hsz28 : w28.heap.size = wN.heap.size + 1 := by rw [Hw28.out]; simp
  have hrow28 : BRow w28 (.slice (some ⟨wN.heap.size, 0, none⟩) 0 0) [] := by rw [Hw28.out]; exact BRow.lit wN 0
  have hacc28 : Acc (w.heap.size + 1) w1 w28 (.slice A3 L3.length c3) L3 := by rw [Hw28.out]; exact HA3.out.alloc _
  obtain ⟨v30, w30, hap30, hrow30, ho30, hg30⟩ := brow_sees w28 _ [] hrow28 w.heap.size A l.length c l rfl (KEEP.out _ hacc28.below).2.2.1 (by simp; omega) 23
  rw [List.nil_append] at hrow30
  obtain ⟨A30, c30, rfl, h30a, h30b⟩ := hrow30.shape
  have hlo28 : ∀ k, k ∈ blk (.slice (some ⟨wN.heap.size, 0, none⟩) 0 0) → k = wN.heap.size := fun k hk => by
    have := mem_blk.1 hk
    simp [Value.ownBlock] at this; omega
  have hlo30 : ∀ k, k ∈ blk (.slice A30 l.length c30) → wN.heap.size ≤ k := fun k hk => by
    rcases hg30 k hk with h | h
    · have := hlo28 k h; omega
    · omega
  have hhi3 : ∀ k, k ∈ blk (.slice A3 L3.length c3) → k < wN.heap.size := HA3.out.row.lt
  have hb30 : Below (w.heap.size + 1) w28 w30 := ho30.below (by omega) (fun k hk => by have := hlo28 k hk; omega)
  have hacc30 : Acc (w.heap.size + 1) w1 w30 (.slice A3 L3.length c3) L3 :=
    ⟨hacc28.row.only ho30 (fun k hk hk2 => by have := hhi3 k hk; have := hlo28 k hk2; omega), hacc28.high, hacc28.below.trans hb30, Nat.le_trans hacc28.size hb30.size⟩
  have hacc30l : Acc (w.heap.size + 1) w1 w30 (.slice A30 l.length c30) l := ⟨hrow30, fun k hk => by have := hlo30 k hk; omega, hacc30.below, hacc30.size⟩
  have HL3n : Hid (L3.length = l2.length + 12) := Lib.hid (by rw [HL3.out, Rc.hd_length])
  obtain ⟨q, Hq⟩ : ∃ q : Nat, Hid (q = Rc.sum L3) := ⟨_, Lib.hid rfl⟩
  have hq : q < 4294967296 := by rw [Hq.out]; exact Rc.sum_lt _
  have hcrc := rcrc_any 0#32 A3 L3.length c3 L3 _ w30 rfl h3a h3b hacc30.row.sees
  rw [show (Crc.add 0#32 L3).toNat = q from Hq.out.symm] at hcrc
  have HCRC : Hid (Calls Tryd.prog 36 #[.int .u32 0, .slice A3 L3.length c3] w30 fun e w' => e = .returned (.int .u32 (q : Int)) ∧ w30 = w') := Lib.hid hcrc
  have HBIG := Lib.hid (rbig_any (.slice A3 L3.length c3) L3 q 4 w30 hacc30.row (by omega) (by have := HL3n.out; omega))
  rw [Hw28.out] at hap30
  have HAP30 := Lib.hid hap30
  have HACC := Lib.hid hacc30
  have HACCL := Lib.hid hacc30l
  have HLO := Lib.hid hlo30
  have HHI := Lib.hid hhi3
  clear hap30 hrow28 hacc28 hrow30 ho30 hg30 hlo28 hlo30 hhi3 hb30 hacc30 hacc30l hcrc hN hsz28
  go_wp2_with (at_builtin; refine wpList_append_run rfl _ _ 23 rfl _ _ _ rfl rfl _ _ (by exact HAP30.out) ?_)
  refine HCRC.out.mono ?_
  rintro e w' ⟨rfl, rfl⟩
  clear HCRC HAP30
  go_wp2_with fail
  refine HBIG.out.mono ?_
  rintro e w35 ⟨v35, rfl, hrow35, ho35, hg35⟩
  obtain ⟨A35, c35, rfl, h35a, h35b⟩ := hrow35.shape
  clear HBIG
  obtain ⟨L35, HL35⟩ : ∃ L, Hid (L = L3 ++ Rc.big q 4) := ⟨_, Lib.hid rfl⟩
  rw [← HL35.out] at hrow35 hg35 h35a ⊢
  have HL35e : Hid (L35 = Rc.enc z l2) := Lib.hid (by rw [HL35.out, Hq.out, HL3.out]; rfl)
  have HL35n : Hid (L35.length = l2.length + 16) := Lib.hid (by rw [HL35e.out, Rc.enc_length])
  have hacc35l : Acc (w.heap.size + 1) w1 w35 (.slice A30 l.length c30) l :=
    ⟨HACCL.out.row.only ho35 (fun k hk hk2 => by have := HLO.out k hk; have := HHI.out k hk2; omega), HACCL.out.high, HACCL.out.below.trans (ho35.below HACCL.out.size HACC.out.high), Nat.le_trans HACCL.out.size ho35.size⟩
  obtain ⟨A36, c36, w36, L36, HL36, hap36, hacc36, h36a, h36b⟩ := hacc35l.sees _ A35 L35.length c35 L35 rfl hrow35.sees (by rw [HL35n.out]; omega) 23
  have HAP36 := Lib.hid hap36
  have KEY : Hid (w36.ownsRow w.heap.size 5 1 (.slice A36 L36.length c36) L36.length (bv L36) ∧ Below w.heap.size w w36) := Lib.hid ⟨own_raise hacc36.row (fun k hk => by have := hacc36.high k hk; omega), HB1.out.trans (hacc36.below.mono (by omega))⟩
  clear hap36 hrow35 ho35 hg35 hacc35l hacc36
  go_wp2_with (at_builtin; refine wpList_append_run rfl _ _ 23 rfl _ _ _ rfl rfl _ _ (by exact HAP36.out) ?_)
  go_ret2
  exact ⟨A36, c36, L36, Lib.hid (by rw [HL36.out, HL35e.out]), rfl, KEY.out.1, KEY.out.2, h36a, h36b⟩
end Go.Proofs.YtdnbbnjmdddfdaaDoor
