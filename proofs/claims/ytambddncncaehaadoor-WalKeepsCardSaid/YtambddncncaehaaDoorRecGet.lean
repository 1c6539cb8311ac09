/- The walk of rec.Get. -/
import Derived.Test.YtambddncncaehaaDoorRecPut
import Derived.Test.YtambddncncaehaaDoorShelf
import Derived.Test.YtambddncncaehaaDoorRet
namespace Go.Proofs.YtambddncncaehaaDoor
open Go.RowKit
set_option linter.unusedVariables false

/-- s[lo:hi] of a slice with an address. -/
theorem run_mid_some {P : Program} {t e : TypeId} (ht : P.underlying t = some (.slice e)) (hz : ∀ w, (Go.sizeOf e).run P w = .ok 1 w) (a : Addr) (n c lo hi : Nat) (hlo : lo ≤ hi) (hn : hi ≤ n) (hc : n ≤ c) (J K : Int) (hJ : J = (hi : Int)) (hK : K = (lo : Int)) :
    ∃ a', (∀ W, (Instr.slice t (.slice (some a) n c) (some (.int .i64 K)) (some (.int .i64 J)) none).run P W = .ok (.slice (some a') (hi - lo) (c - lo)) W) ∧ ∀ (w : World) (B : Nat) (l : List UInt8), l.length = n → Sees w B (some a) l → Sees w B (some a') ((l.drop lo).take (hi - lo)) := by
  subst hK
  obtain ⟨A', h1, h2⟩ := run_mid (P := P) ht hz (A := some a) n c lo hi hlo hn hc J hJ
  subst hJ
  cases A' with
  | some a' => exact ⟨a', h1, h2⟩
  | none =>
    have ht' : P.underlying t = some (.slice (P.elem t)) := by simp [Program.elem, ht]
    have he : P.elem t = e := by simp [Program.elem, ht]
    have h3 := h1 default
    rw [run_slice_lh default t (some a) _ _ ht' .i64 .i64 _ _ (by omega) (by omega) (by omega), he, hz] at h3
    simp [Result.andThen, sliced] at h3
    split at h3 <;> simp at h3

def GetEnd (l : List UInt8) (w : World) (e : Ending) (w' : World) : Prop :=
  (Rc.getE l ≠ 0 ∧ e = .returned (.tuple #[.agg #[.int .i64 0, .slice none 0 0], .int .i64 0, .int .i64 (Rc.getE l : Int)]) ∧ Below w.heap.size w w') ∨
  (Rc.getE l = 0 ∧ ∃ A n c, e = .returned (.tuple #[.agg #[.int .i64 (Rc.nr l : Int), .slice A n c], .int .i64 ((Rc.len l : Int) + 16), .int .i64 0]) ∧ n = (Rc.body l).length ∧ w'.ownsRow w.heap.size 5 1 (.slice A n c) n (bv (Rc.body l)) ∧ n ≤ c ∧ c ≤ maxLen ∧ Below w.heap.size w w')

theorem w64 (n : Int) : wrap64 n = (n + 9223372036854775808) % 18446744073709551616 - 9223372036854775808 := by unfold wrap64; first | rfl | simp
theorem rec_ret (w : World) (tmps : Array Value) (g : Nat) (hp : tmps.getD 2 undef = .pointer (some ⟨g, 0, none⟩)) (a b x y : Value) (hx : tmps.getD 3 undef = x) (hy : tmps.getD 4 undef = y) (hg : w.heap[g]? = some (.cells #[a, b] 61 (0, 0))) :
    (results Tryd.f46 tmps).run Tryd.prog w = .ok (.tuple #[.agg #[a, b], x, y]) w :=
  ret_cell3 rfl tmps w g hp #[a, b] _ hg _ Tryd.underlying61 rfl (by kernel_rfl) x y hx hy
theorem clone_any (a : Addr) (n c : Nat) (r : List UInt8) (B : Nat) (w : World) (hn : n = r.length) (hbig : n ≤ 140737488355328) (hs : Sees w B (some a) r) :
    Calls Tryd.prog 29 #[.slice (some a) n c] w fun e w' => ∃ A' c', e = .returned (.slice A' n c') ∧ w'.ownsRow w.heap.size 5 1 (.slice A' n c') n (bv r) ∧ n ≤ c' ∧ c' ≤ maxLen ∧ Below w.heap.size w w' := by
  subst hn
  have hcell : ∀ i, i < r.length → w.cell? (a.add i) = some (.int .u8 ((r.map fun b => (b.toNat : Int)).getD i 0)) := fun i hi => by
    obtain ⟨g, o, e, _, hc⟩ := hs (by intro e; rw [e] at hi; simp at hi)
    injection e with e
    subst e
    rw [add_to, hc i hi]
    simp [List.getD, hi]
  refine (Tryd.bytes_Clone_at a r.length c (r.map fun b => (b.toNat : Int)) w (by simp) hbig hcell).mono ?_
  rintro e w' ⟨v', rfl, ho, _, hb⟩
  rw [show (r.map fun b => (b.toNat : Int)).map (Value.int .u8) = bv r by unfold bv; rw [List.map_map]; rfl] at ho
  obtain ⟨A', c', rfl, h1, h2⟩ := own_shape ho
  exact ⟨A', c', rfl, ho, h1, h2, hb⟩
theorem getE_no (l : List UInt8) (E : Nat) (h : Rc.getE l = E) (hE : E ≠ 0) (w w' : World) (hb : Below w.heap.size w w') : GetEnd l w (.returned (.tuple #[.agg #[.int .i64 0, .slice none 0 0], .int .i64 0, .int .i64 (E : Int)])) w' :=
  .inl ⟨by rw [h]; exact hE, by rw [h], hb⟩

set_option maxHeartbeats 1600000 in
set_option maxRecDepth 100000 in
theorem get_any (A : Option Addr) (n c : Nat) (l : List UInt8) (w : World) (hn : n = l.length) (hnc : n ≤ c) (hcm : c ≤ maxLen) (hs : Sees w w.heap.size A l) (ht : TabAt w 0) :
    Calls Tryd.prog 46 #[.slice A n c] w (GetEnd l w) := by
  subst hn
  have HCM := Lib.hid hcm
  unfold maxLen at hcm
  have HT := Lib.hid ht
  obtain ⟨w1, Hw1⟩ : ∃ w1, Hid (w1 = w.alloc (.cells #[.int .i64 0, .slice none 0 0] 61)) := ⟨_, Lib.hid rfl⟩
  have hb1 : Below w.heap.size w w1 := by rw [Hw1.out]; exact (Below.refl _ _).alloc (Nat.le_refl _) _
  have hg1 : w1.heap[w.heap.size]? = some (.cells #[.int .i64 0, .slice none 0 0] 61 (0, 0)) := by rw [Hw1.out]; exact new_block w _
  have HB1 := Lib.hid hb1
  have HG1 := Lib.hid hg1
  have hc0 : w1.cell? ⟨w.heap.size, 0, none⟩ = some (.int .i64 0) := by simp [World.cell?, hg1]
  have hc1 : w1.cell? ⟨w.heap.size, 1, none⟩ = some (.slice none 0 0) := by simp [World.cell?, hg1]
  have hf0 : w1.frozen? ⟨w.heap.size, 0, none⟩ = false := by simp [World.frozen?, hg1]
  have hf1 : w1.frozen? ⟨w.heap.size, 1, none⟩ = false := by simp [World.frozen?, hg1]
  obtain ⟨w2, Hw2⟩ : ∃ w2, Hid (w2 = (w1.setCell ⟨w.heap.size, 0, none⟩ (.int .i64 0)).setCell ⟨w.heap.size, 1, none⟩ (.slice none 0 0)) := ⟨_, Lib.hid rfl⟩
  have HG2 : Hid (w2.heap[w.heap.size]? = some (.cells #[.int .i64 0, .slice none 0 0] 61 (0, 0))) := Lib.hid (by
    rw [Hw2.out]; exact heap_setCell_same _ _ _ _ _ _ (heap_setCell_same _ _ _ _ _ _ hg1))
  have HB2 : Hid (Below w.heap.size w w2) := Lib.hid (by rw [Hw2.out]; exact (hb1.setCell (Nat.le_refl _) _).setCell (Nat.le_refl _) _)
  clear ht hb1 hg1
  by_cases q1 : l.length < 4
  · have key := getE_no l 8 (by unfold Rc.getE; rw [if_pos q1]) (by decide) w w1 HB1.out
    have HK := Lib.hid key
    have q1' : (l.length : Int) < 4 := by omega
    clear key hs
    go_enter Tryd.func46, Tryd.ntmps46
    go_wp2
    rw [← Hw1.out]
    refine bodyPost_ret (rec_ret w1 _ w.heap.size rfl _ _ _ _ rfl rfl HG1.out) rfl HK.out
  · have h4 : 4 ≤ l.length := by omega
    have h4' : (4 : Int) ≤ l.length := by omega
    obtain ⟨g, o, rfl, hgl, _⟩ := id hs (by intro e; rw [e] at h4; simp at h4)
    obtain ⟨x, Hx⟩ : ∃ x : Nat, Hid (x = Rc.len l) := ⟨_, Lib.hid rfl⟩
    have hxlt : x < 4294967296 := by rw [Hx.out]; exact Rc.len_lt l
    obtain ⟨A2, hsl2, hsee2⟩ := run_head (P := Tryd.prog) Tryd.underlying31 (fun w => by exact Tryd.sizeOf5 w) (some ⟨g, o, none⟩) l.length c 4 (by omega)
    rw [show ((4 : Nat) : Int) = 4 from rfl] at hsl2
    have hs1 : Sees w1 w.heap.size (some ⟨g, o, none⟩) l := hs.below HB1.out (Nat.le_refl _)
    have hs2 := (hsee2 w1 _ l hs1).take 4
    have hnum2 := number_any A2 4 c (l.take 4) _ w1 (by rw [List.length_take]; omega) (by rw [List.length_take]; omega) hs2
    rw [show Rc.num (l.take 4) = x from Hx.out.symm] at hnum2
    have HN2 := Lib.hid hnum2
    clear hs2 hnum2 hsee2
    by_cases q2 : 200000 < x
    · have key := getE_no l 3 (by unfold Rc.getE; rw [if_neg q1, if_pos (by rw [← Hx.out]; exact q2)]) (by decide) w w2 HB2.out
      have HK := Lib.hid key
      clear key hs hs1
      go_enter Tryd.func46, Tryd.ntmps46
      go_wp2_with fail
      rw [← Hw1.out]
      refine HN2.out.mono ?_
      rintro e w' ⟨rfl, rfl⟩
      clear HN2 hsl2
      go_wp2
      rw [← Hw2.out]
      refine bodyPost_ret (rec_ret w2 _ w.heap.size rfl _ _ _ _ rfl rfl HG2.out) rfl HK.out
    by_cases q3 : l.length < x + 16
    · have key := getE_no l 8 (by unfold Rc.getE; rw [if_neg q1, ← Hx.out, if_neg q2, if_pos q3]) (by decide) w w2 HB2.out
      have HK := Lib.hid key
      have q3' : (l.length : Int) < x + 16 := by omega
      clear key hs hs1
      go_enter Tryd.func46, Tryd.ntmps46
      go_wp2_with fail
      rw [← Hw1.out]
      refine HN2.out.mono ?_
      rintro e w' ⟨rfl, rfl⟩
      clear HN2 hsl2
      go_wp2
      rw [← Hw2.out]
      refine bodyPost_ret (rec_ret w2 _ w.heap.size rfl _ _ _ _ rfl rfl HG2.out) rfl HK.out
    obtain ⟨y, Hy⟩ : ∃ y : Nat, Hid (y = Rc.nr l) := ⟨_, Lib.hid rfl⟩
    obtain ⟨u, Hu⟩ : ∃ u : Nat, Hid (u = Rc.crc l) := ⟨_, Lib.hid rfl⟩
    obtain ⟨s, Hs⟩ : ∃ s : Nat, Hid (s = Rc.sum (l.take (x + 12))) := ⟨_, Lib.hid rfl⟩
    have hylt : y < 18446744073709551616 := by rw [Hy.out]; exact Rc.nr_lt l
    have hult : u < 4294967296 := by rw [Hu.out]; exact Rc.crc_lt l
    have hslt : s < 4294967296 := by rw [Hs.out]; exact Rc.sum_lt _
    have q2' : x ≤ 200000 := by omega
    have q3' : x + 16 ≤ l.length := by omega
    have hE : Hid (Rc.getE l = if y < 1 ∨ 9223372036854775807 < y ∨ u ≠ s then 3 else 0) := Lib.hid (by rw [Hy.out, Hu.out, Hs.out, Hx.out]; unfold Rc.getE; rw [if_neg q1, ← Hx.out, if_neg q2, if_neg q3])
    obtain ⟨a3, hsl3, hsee3⟩ := run_mid_some (P := Tryd.prog) Tryd.underlying31 (fun w => by exact Tryd.sizeOf5 w) ⟨g, o, none⟩ l.length c 4 12 (by omega) (by omega) hnc 12 4 rfl rfl
    rw [show 12 - 4 = 8 from rfl] at hsl3 hsee3
    have HN3 : Hid (Calls Tryd.prog 50 #[.slice (some a3) 8 (c - 4)] w1 fun e w' => e = .returned (.int .u64 (y : Int)) ∧ w1 = w') := Lib.hid (by
      have := number_any (some a3) 8 (c - 4) ((l.drop 4).take 8) _ w1 (by rw [List.length_take, List.length_drop]; omega) (by rw [List.length_take]; omega) (hsee3 w1 _ l rfl hs1)
      rwa [show Rc.num ((l.drop 4).take 8) = y from Hy.out.symm] at this)
    obtain ⟨a4, hsl4, hsee4⟩ := run_mid_some (P := Tryd.prog) Tryd.underlying31 (fun w => by exact Tryd.sizeOf5 w) ⟨g, o, none⟩ l.length c (x + 12) (x + 16) (by omega) (by omega) hnc (12 + (x : Int) + 4) (12 + (x : Int)) (by omega) (by omega)
    rw [show x + 16 - (x + 12) = 4 by omega] at hsl4 hsee4
    have HN4 : Hid (Calls Tryd.prog 50 #[.slice (some a4) 4 (c - (x + 12))] w1 fun e w' => e = .returned (.int .u64 (u : Int)) ∧ w1 = w') := Lib.hid (by
      have := number_any (some a4) 4 (c - (x + 12)) ((l.drop (x + 12)).take 4) _ w1 (by rw [List.length_take, List.length_drop]; omega) (by rw [List.length_take]; omega) (hsee4 w1 _ l rfl hs1)
      rwa [show Rc.num ((l.drop (x + 12)).take 4) = u by rw [Hu.out, Hx.out]; rfl] at this)
    clear hsee3 hsee4
    by_cases q4 : y < 1 ∨ 9223372036854775807 < y
    · have key := getE_no l 3 (by rw [hE.out, if_pos (by omega)]) (by decide) w w2 HB2.out
      have HK := Lib.hid key
      have q4' : wrap64 (y : Int) < 1 := by
        rw [w64]
        rcases q4 with q | q
        · obtain rfl : y = 0 := by omega
          decide
        · omega
      clear key hs hs1
      go_enter Tryd.func46, Tryd.ntmps46
      go_wp2_with fail
      rw [← Hw1.out]
      refine HN2.out.mono ?_
      rintro e w' ⟨rfl, rfl⟩
      clear HN2 hsl2
      go_wp2_with fail
      refine HN3.out.mono ?_
      rintro e w' ⟨rfl, rfl⟩
      clear HN3 hsl3
      go_wp2_with fail
      refine HN4.out.mono ?_
      rintro e w' ⟨rfl, rfl⟩
      clear HN4 hsl4
      go_wp2
      rw [← Hw2.out]
      refine bodyPost_ret (rec_ret w2 _ w.heap.size rfl _ _ _ _ rfl rfl HG2.out) rfl HK.out
    have hwy : wrap64 (y : Int) = (y : Int) := by rw [w64]; omega
    have hwy1 : ¬ (y : Int) < 1 := by omega
    obtain ⟨A5, hsl5, hsee5⟩ := run_head (P := Tryd.prog) Tryd.underlying31 (fun w => by exact Tryd.sizeOf5 w) (some ⟨g, o, none⟩) l.length c (x + 12) (by omega)
    rw [show ((x + 12 : Nat) : Int) = 12 + (x : Int) by omega] at hsl5
    have hcm12 : x + 12 ≤ c := by omega
    have hsee51 := (hsee5 w1 _ l hs1).take (x + 12)
    have hlen5 : x + 12 = (l.take (x + 12)).length := by rw [List.length_take]; omega
    have hT1 : TabAt w1 0 := HT.out.below HB1.out (Nat.le_refl _)
    have hz1s : w1.heap.size = w.heap.size + 1 := by rw [Hw1.out]; simp
    obtain ⟨w3, Hw3⟩ : ∃ w3, Hid (w3 = w1.alloc (.cells #[.slice A5 (x + 12) c] 31)) := ⟨_, Lib.hid rfl⟩
    have HCRC : Hid (Calls Tryd.prog 39 #[.slice (some ⟨w1.heap.size, 0, none⟩) 1 1] (w1.alloc (.cells #[.slice A5 (x + 12) c] 31)) fun e w' => e = .returned (.int .u32 (s : Int)) ∧ (w1.alloc (.cells #[.slice A5 (x + 12) c] 31)) = w') := Lib.hid (by
      have := crcOf_any (some ⟨w1.heap.size, 0, none⟩) 1 1 [l.take (x + 12)] _ _ rfl (by decide) (by decide) (grid_one w1 31 A5 (x + 12) c _ hlen5 hcm12 HCM.out (hsee51.mono (by omega)) _ rfl) (hT1.alloc _)
      rwa [show ([l.take (x + 12)] : List (List UInt8)).flatten = l.take (x + 12) by simp, show (Crc.add 0#32 (l.take (x + 12))).toNat = s from Hs.out.symm] at this)
    have hc30 : w3.cell? ⟨w.heap.size, 0, none⟩ = some (.int .i64 0) := by rw [Hw3.out]; exact (((Below.refl w1.heap.size w1).alloc (Nat.le_refl _) _).cell (p := ⟨w.heap.size, 0, none⟩) (by show w.heap.size < _; omega)).trans hc0
    have hc31 : w3.cell? ⟨w.heap.size, 1, none⟩ = some (.slice none 0 0) := by rw [Hw3.out]; exact (((Below.refl w1.heap.size w1).alloc (Nat.le_refl _) _).cell (p := ⟨w.heap.size, 1, none⟩) (by show w.heap.size < _; omega)).trans hc1
    have hf30 : w3.frozen? ⟨w.heap.size, 0, none⟩ = false := by rw [Hw3.out]; exact (((Below.refl w1.heap.size w1).alloc (Nat.le_refl _) _).frozen (p := ⟨w.heap.size, 0, none⟩) (by show w.heap.size < _; omega)).trans hf0
    have hf31 : w3.frozen? ⟨w.heap.size, 1, none⟩ = false := by rw [Hw3.out]; exact (((Below.refl w1.heap.size w1).alloc (Nat.le_refl _) _).frozen (p := ⟨w.heap.size, 1, none⟩) (by show w.heap.size < _; omega)).trans hf1
    have HG3 : Hid (w3.heap[w.heap.size]? = some (.cells #[.int .i64 0, .slice none 0 0] 61 (0, 0))) := Lib.hid (by
      rw [Hw3.out]; exact (((Below.refl w1.heap.size w1).alloc (Nat.le_refl _) _).block w.heap.size (by omega)).trans HG1.out)
    have HB3 : Hid (Below w.heap.size w w3) := Lib.hid (by rw [Hw3.out]; exact HB1.out.alloc (by omega) _)
    have hs3 : Sees w3 w.heap.size (some ⟨g, o, none⟩) l := hs.below HB3.out (Nat.le_refl _)
    clear hsee51 hsee5 hlen5 hz1s
    by_cases q5 : u = s
    · have hE0 : Rc.getE l = 0 := by rw [hE.out, if_neg (by omega)]
      have q5' : ((u : Int) != (s : Int)) = false := by rw [q5]; simp
      have hbl := Rc.body_length (l := l) (by rw [← Hx.out]; exact q3')
      rw [← Hx.out] at hbl
      obtain ⟨a6, hsl6, hsee6⟩ := run_mid_some (P := Tryd.prog) Tryd.underlying31 (fun w => by exact Tryd.sizeOf5 w) ⟨g, o, none⟩ l.length c 12 (x + 12) (by omega) (by omega) hnc (12 + (x : Int)) 12 (by omega) rfl
      rw [show x + 12 - 12 = x by omega] at hsl6 hsee6
      obtain ⟨r, Hr⟩ : ∃ r, Hid (r = Rc.body l) := ⟨_, Lib.hid rfl⟩
      have hs6 := hsee6 w3 _ l rfl hs3
      rw [show (l.drop 12).take x = r by rw [Hr.out, Hx.out]; rfl] at hs6
      rw [← Hr.out] at hbl
      have HCL := Lib.hid (clone_any a6 x (c - 12) r _ w3 hbl.symm (by omega) hs6)
      have hz31 : w.heap.size + 1 ≤ w3.heap.size := by rw [Hw3.out]; simp; have h0 : w1.heap.size = w.heap.size + 1 := by rw [Hw1.out]; simp
                                                       omega
      have HBL := Lib.hid hbl
      clear hs hs1 hs3 hT1 hsee6 hs6 hbl
      go_enter Tryd.func46, Tryd.ntmps46
      go_wp2_with fail
      rw [← Hw1.out]
      refine HN2.out.mono ?_
      rintro e w' ⟨rfl, rfl⟩
      clear HN2 hsl2
      go_wp2_with fail
      refine HN3.out.mono ?_
      rintro e w' ⟨rfl, rfl⟩
      clear HN3 hsl3
      go_wp2_with fail
      refine HN4.out.mono ?_
      rintro e w' ⟨rfl, rfl⟩
      clear HN4 hsl4
      go_wp2_with fail
      refine HCRC.out.mono ?_
      rintro e w' ⟨rfl, rfl⟩
      clear HCRC hsl5
      rw [← Hw3.out]
      go_wp2_with fail
      refine HCL.out.mono ?_
      rintro e w4 ⟨A7, c7, rfl, hown4, h7a, h7b, hb4⟩
      clear HCL hsl6
      have hc40 : w4.cell? ⟨w.heap.size, 0, none⟩ = some (.int .i64 0) := (hb4.cell (p := ⟨w.heap.size, 0, none⟩) (by show w.heap.size < _; omega)).trans hc30
      have hc41 : w4.cell? ⟨w.heap.size, 1, none⟩ = some (.slice none 0 0) := (hb4.cell (p := ⟨w.heap.size, 1, none⟩) (by show w.heap.size < _; omega)).trans hc31
      have hf40 : w4.frozen? ⟨w.heap.size, 0, none⟩ = false := (hb4.frozen (p := ⟨w.heap.size, 0, none⟩) (by show w.heap.size < _; omega)).trans hf30
      have hf41 : w4.frozen? ⟨w.heap.size, 1, none⟩ = false := (hb4.frozen (p := ⟨w.heap.size, 1, none⟩) (by show w.heap.size < _; omega)).trans hf31
      have hg4 := (hb4.block w.heap.size (by omega)).trans HG3.out
      have hb04 : Below w.heap.size w w4 := HB3.out.trans (hb4.mono (by omega))
      obtain ⟨w5, Hw5⟩ : ∃ w5, Hid (w5 = (w4.setCell ⟨w.heap.size, 0, none⟩ (.int .i64 (y : Int))).setCell ⟨w.heap.size, 1, none⟩ (.slice A7 x c7)) := ⟨_, Lib.hid rfl⟩
      have HG5 : Hid (w5.heap[w.heap.size]? = some (.cells #[.int .i64 (y : Int), .slice A7 x c7] 61 (0, 0))) := Lib.hid (by
        rw [Hw5.out]; exact heap_setCell_same _ _ _ _ _ _ (heap_setCell_same _ _ _ _ _ _ hg4))
      have hb05 : Below w.heap.size w w5 := by rw [Hw5.out]; exact (hb04.setCell (Nat.le_refl _) _).setCell (Nat.le_refl _) _
      have hown5 : w5.ownsRow w3.heap.size 5 1 (.slice A7 x c7) x (bv r) := by
        rw [Hw5.out]
        have hne : ∀ k, (Value.slice A7 x c7).ownBlock = some k → k ∉ [w.heap.size] := fun k hk hm => by
          have h1 := (hown4.lt k hk).1
          rw [List.mem_singleton] at hm; omega
        exact own_only (own_only hown4 (only_setCell w4 ⟨w.heap.size, 0, none⟩ _) hne) (only_setCell _ ⟨w.heap.size, 1, none⟩ _) hne
      have key : GetEnd l w (.returned (.tuple #[.agg #[.int .i64 (y : Int), .slice A7 x c7], .int .i64 (12 + (x : Int) + 4), .int .i64 0])) w5 :=
        .inr ⟨hE0, A7, x, c7, by rw [← Hy.out, ← Hx.out, show 12 + (x : Int) + 4 = x + 16 by omega], by rw [← Hr.out]; exact HBL.out.symm, by rw [← Hr.out]; exact own_base hown5 (by omega), h7a, h7b, hb05⟩
      have HK := Lib.hid key
      clear hown4 hb4 hg4 hb04 hb05 hown5 key hE0 hc30 hc31 hf30 hf31
      go_wp2
      rw [← Hw5.out]
      refine bodyPost_ret (rec_ret w5 _ w.heap.size rfl _ _ _ _ rfl rfl HG5.out) rfl HK.out
    · have q5' : ((u : Int) != (s : Int)) = true := by rw [bne_iff_ne]; omega
      obtain ⟨w4, Hw4⟩ : ∃ w4, Hid (w4 = (w3.setCell ⟨w.heap.size, 0, none⟩ (.int .i64 0)).setCell ⟨w.heap.size, 1, none⟩ (.slice none 0 0)) := ⟨_, Lib.hid rfl⟩
      have HG4 : Hid (w4.heap[w.heap.size]? = some (.cells #[.int .i64 0, .slice none 0 0] 61 (0, 0))) := Lib.hid (by
        rw [Hw4.out]; exact heap_setCell_same _ _ _ _ _ _ (heap_setCell_same _ _ _ _ _ _ HG3.out))
      have HB4 : Hid (Below w.heap.size w w4) := Lib.hid (by rw [Hw4.out]; exact (HB3.out.setCell (Nat.le_refl _) _).setCell (Nat.le_refl _) _)
      have HK := Lib.hid (getE_no l 3 (by rw [hE.out, if_pos (by omega)]) (by decide) w w4 HB4.out)
      clear hs hs1 hs3 hT1
      go_enter Tryd.func46, Tryd.ntmps46
      go_wp2_with fail
      rw [← Hw1.out]
      refine HN2.out.mono ?_
      rintro e w' ⟨rfl, rfl⟩
      clear HN2 hsl2
      go_wp2_with fail
      refine HN3.out.mono ?_
      rintro e w' ⟨rfl, rfl⟩
      clear HN3 hsl3
      go_wp2_with fail
      refine HN4.out.mono ?_
      rintro e w' ⟨rfl, rfl⟩
      clear HN4 hsl4
      go_wp2_with fail
      refine HCRC.out.mono ?_
      rintro e w' ⟨rfl, rfl⟩
      clear HCRC hsl5
      rw [← Hw3.out]
      go_wp2
      rw [← Hw4.out]
      refine bodyPost_ret (rec_ret w4 _ w.heap.size rfl _ _ _ _ rfl rfl HG4.out) rfl HK.out
end Go.Proofs.YtambddncncaehaaDoor
