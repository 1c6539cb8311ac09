/- The walks of package queue's New, Len, Close, Closed, accepts. -/
import Derived.Test.YtgmimhhehmahiaaQue
import Derived.Test.YtgmimhhehmahiaaShelf
import Derived.WalkSpells
import Derived.Deep.QuietTactic
import Derived.BigQuiet
import Derived.WalkLawsBesides
namespace Go.Proofs.Ytgmimhhehmahiaa
open Go.Conc Go.RowKit

theorem Try.infoRow : (Try.prog.info? 27).map (fun i => (i.zero, i.size, i.bytes)) = some (some (.slice none 0 0), 1, 24) := by kernel_rfl

theorem makeRow (w : World) (n : Nat) (hn : n ≤ 64) : (Instr.makeChan 47 (.int .i64 (n : Int))).run Try.prog w = .ok (.chan (some w.heap.size)) (w.alloc (.chan n #[] false 0 0 false)) := by
  obtain ⟨i, hi, _, _, hb⟩ := info_parts Try.infoRow
  exact run_makeChan (P := Try.prog) (w := w) Try.underlying47 hi .i64 n (by omega) (by rw [hb]; omega)

theorem new_bad (n : Int) (w : World) (h : n < 1 ∨ 64 < n) : Calls Try.prog 9 #[.int .i64 n] w fun e w' => e = .returned (.tuple #[.pointer none, .int .i64 1]) ∧ w = w' := by
  rcases h with h | h
  · go_enter Try.func9, Try.ntmps9
    go_wp2
    go_ret2
    exact ⟨rfl, rfl⟩
  · have h' : ¬ n < 1 := by omega
    go_enter Try.func9, Try.ntmps9
    go_wp2
    go_ret2
    exact ⟨rfl, rfl⟩

/-- The world behind a New that answers. -/
def newQ (w : World) (n : Nat) : World := (w.alloc (.chan n #[] false 0 0 false)).alloc (.cells #[.chan (some w.heap.size), .bool false] 49)
theorem new_raw (n : Nat) (w : World) (h1 : 1 ≤ n) (h2 : n ≤ 64) : Calls Try.prog 9 #[.int .i64 (n : Int)] w fun e w' => e = .returned (.tuple #[.pointer (some ⟨w.heap.size + 1, 0, none⟩), .int .i64 0]) ∧ newQ w n = w' := by
  have hmk := fun w => makeRow w n h2
  have a1 : ¬ ((n : Int) < 1) := by omega
  have a2 : ¬ (64 < (n : Int)) := by omega
  have hz : (w.alloc (.chan n #[] false 0 0 false)).heap.size = w.heap.size + 1 := by simp
  go_enter Try.func9, Try.ntmps9
  go_wp2
  go_ret2
  exact ⟨rfl, rfl⟩
theorem newQ_size (w : World) (n : Nat) : (newQ w n).heap.size = w.heap.size + 2 := by simp [newQ]
theorem newQ_below (w : World) (n : Nat) : Below w.heap.size w (newQ w n) := ((Below.refl _ _).alloc (Nat.le_refl _) _).alloc (by simp) _
theorem newQ_que (w : World) (n : Nat) : Que (newQ w n) (w.heap.size + 1) w.heap.size n false [] := by
  refine ⟨[], 0, 0, ?_, ?_, Nat.zero_le _, Views.nil _ _⟩
  · have h := heap_alloc_new (w.alloc (.chan n #[] false 0 0 false)) (.cells #[.chan (some w.heap.size), .bool false] 49)
    have hz : (w.alloc (.chan n #[] false 0 0 false)).heap.size = w.heap.size + 1 := by simp
    rw [hz] at h
    exact h
  · unfold newQ
    rw [Below.heap_alloc _ _ _ (by simp)]
    exact heap_alloc_new _ _

theorem new_ok (n : Nat) (w : World) (h1 : 1 ≤ n) (h2 : n ≤ 64) : Calls Try.prog 9 #[.int .i64 (n : Int)] w fun e w' => ∃ q, e = .returned (.tuple #[.pointer (some ⟨q, 0, none⟩), .int .i64 0]) ∧
    Que w' q w.heap.size n false [] ∧ w.heap.size < q ∧ q < w'.heap.size ∧ Below w.heap.size w w' := by
  refine (new_raw n w h1 h2).mono ?_
  rintro e w' ⟨rfl, rfl⟩
  exact ⟨_, rfl, newQ_que w n, by omega, by rw [newQ_size]; omega, newQ_below w n⟩

theorem len_nil (w : World) : Calls Try.prog 16 #[.pointer none] w fun e w' => e = .returned (.int .i64 0) ∧ w = w' := by
  go_enter Try.func16, Try.ntmps16
  go_wp2
  go_ret
  exact ⟨rfl, rfl⟩
theorem len_any {q c room : Nat} {closed : Bool} {xs : List (List UInt8)} (w : World) (h : Que w q c room closed xs) : Calls Try.prog 16 #[.pointer (some ⟨q, 0, none⟩)] w fun e w' => e = .returned (.int .i64 (xs.length : Int)) ∧ w = w' := by
  obtain ⟨vs, s, r, h1, h2, h3, h4⟩ := h
  have hcell : w.cell? ⟨q, 0, none⟩ = some (.chan (some c)) := by simp [World.cell?, h1]
  have hlen := fun ty => run_len_chan (P := Try.prog) 47 ty Try.underlying47 h2
  have e : (vs.toArray.size : Nat) = xs.length := by simp [h4.1]
  rw [e] at hlen
  unfold goInt at hlen
  clear h1 h2 h4 e
  go_enter Try.func16, Try.ntmps16
  go_wp2
  go_ret
  exact ⟨rfl, rfl⟩

theorem closed_nil (w : World) : Calls Try.prog 15 #[.pointer none] w fun e w' => e = .returned (.bool false) ∧ w = w' := by
  go_enter Try.func15, Try.ntmps15
  go_wp2
  go_ret
  exact ⟨rfl, rfl⟩
theorem closed_any {q c room : Nat} {closed : Bool} {xs : List (List UInt8)} (w : World) (h : Que w q c room closed xs) : Calls Try.prog 15 #[.pointer (some ⟨q, 0, none⟩)] w fun e w' => e = .returned (.bool closed) ∧ w = w' := by
  obtain ⟨vs, s, r, h1, h2, h3, h4⟩ := h
  have hcell : w.cell? ⟨q, 1, none⟩ = some (.bool closed) := by simp [World.cell?, h1]
  clear h1 h2 h4
  go_enter Try.func15, Try.ntmps15
  go_wp2
  go_ret
  exact ⟨rfl, rfl⟩

theorem close_nil (w : World) : Calls Try.prog 12 #[.pointer none] w fun e w' => e = .returned (.tuple #[]) ∧ w = w' := by
  go_enter Try.func12, Try.ntmps12
  go_wp2
  go_end0
  exact ⟨rfl, rfl⟩
theorem close_any {q c room : Nat} {closed : Bool} {xs : List (List UInt8)} (w : World) (h : Que w q c room closed xs) : Calls Try.prog 12 #[.pointer (some ⟨q, 0, none⟩)] w fun e w' => e = .returned (.tuple #[]) ∧ Que w' q c room true xs ∧ Only [q] w w' := by
  have hq := h
  obtain ⟨vs, s, r, h1, h2, h3, h4⟩ := h
  have hcell : w.cell? ⟨q, 1, none⟩ = some (.bool closed) := by simp [World.cell?, h1]
  have hfr : w.frozen? ⟨q, 1, none⟩ = false := by simp [World.frozen?, h1]
  have key : Que (w.setCell ⟨q, 1, none⟩ (.bool true)) q c room true xs := by
    have ho := only_setCell w ⟨q, 1, none⟩ (.bool true)
    refine ⟨vs, s, r, ?_, (Below.heap_setCell _ _ _ _ (fun e => hq.lt.2.2 e.symm)).trans h2, h3, ?_⟩
    · simp only [World.setCell, Array.getElem?_modify]
      simp [h1]
    · exact (h4.only ho (fun b hb => by rw [List.mem_singleton] at hb; subst hb; exact hq.noByte.1)).mono ho.size
  have HK := Lib.hid key
  clear h1 h2 h4 hq key
  go_enter Try.func12, Try.ntmps12
  go_wp2
  go_end0
  exact ⟨rfl, HK.out, only_setCell w ⟨q, 1, none⟩ (.bool true)⟩

theorem accepts_nil (w : World) : Calls Try.prog 18 #[.pointer none] w fun e w' => e = .returned (.bool false) ∧ ∃ n, w' = w.drewN n := by
  go_enter Try.func18, Try.ntmps18
  go_wp2
  go_quiet (fail)
  go_wp2
  go_ret
  exact ⟨rfl, _, rfl⟩
theorem accepts_any {q c room : Nat} {closed : Bool} {xs : List (List UInt8)} (w : World) (h : Que w q c room closed xs) (b : Bool) (hb : b = (!closed && decide (xs.length < room))) : Calls Try.prog 18 #[.pointer (some ⟨q, 0, none⟩)] w fun e w' => e = .returned (.bool b) ∧ ∃ n, w' = w.drewN n := by
  obtain ⟨vs, s, r, h1, h2, h3, h4⟩ := h
  have hcell0 : w.cell? ⟨q, 0, none⟩ = some (.chan (some c)) := by simp [World.cell?, h1]
  have hcell : w.cell? ⟨q, 1, none⟩ = some (.bool closed) := by simp [World.cell?, h1]
  have e : (vs.toArray.size : Nat) = xs.length := by simp [h4.1]
  have hlen := fun (n : Nat) ty => run_len_chan (P := Try.prog) (w := w.drewN n) 47 ty Try.underlying47 h2
  have hcap := fun (n : Nat) ty => run_cap_chan (P := Try.prog) (w := w.drewN n) 47 ty Try.underlying47 h2
  rw [e] at hlen
  unfold goInt at hlen hcap
  clear h1 h2 h4 e
  cases hcl : closed
  case' true =>
    subst hcl
    have hb' : b = false := by rw [hb]; rfl
    subst hb'
    clear hb
  case' false =>
    subst hcl
    by_cases hlt : xs.length < room
    case' pos =>
      have hb' : b = true := by rw [hb]; simp [hlt]
      have hd : decide ((xs.length : Int) < (room : Int)) = true := by simp; omega
      subst hb'
      clear hb
    case' neg =>
      have hb' : b = false := by rw [hb]; simp [hlt]
      have hd : decide ((xs.length : Int) < (room : Int)) = false := by simp; omega
      subst hb'
      clear hb
  all_goals
    go_enter Try.func18, Try.ntmps18
    go_wp2
    go_quiet (fail)
    go_wp2
    go_ret
    exact ⟨rfl, _, rfl⟩
end Go.Proofs.Ytgmimhhehmahiaa
