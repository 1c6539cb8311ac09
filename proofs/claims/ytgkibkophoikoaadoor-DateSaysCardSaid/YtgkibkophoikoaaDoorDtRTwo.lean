/- The reference's two, months: the walks. -/
import Derived.Test.YtgkibkophoikoaaDoorDtRCal
import Derived.Test.YtgkibkophoikoaaDoorRDig
import Derived.Test.YtgkibkophoikoaaDoorDtShow
namespace Go.Proofs.YtgkibkophoikoaaDoor
open Go.RowKit
set_option linter.unusedVariables false
set_option maxRecDepth 100000

set_option maxHeartbeats 800000 in
theorem rtwo_any (n : Nat) (hn : n < 100) (x : ByteArray) (hx : x.data.toList = Dt.two n) (w : World) : Calls Tryd.prog 44 #[.int .i64 (n : Int)] w fun e w' => e = .returned (.string x) ∧ Below w.heap.size w w' := by
  have q : (n : Int) / 10 = ((n / 10 : Nat) : Int) := quo_nat n 10
  have t : (n : Int).tmod 10 = ((n % 10 : Nat) : Int) := tmod_nat n 10 (by decide)
  obtain ⟨a, Ha⟩ : ∃ a, Hid (a = n / 10) := ⟨_, Lib.hid rfl⟩
  obtain ⟨b, Hb⟩ : ∃ b, Hid (b = n % 10) := ⟨_, Lib.hid rfl⟩
  have ha : a < 10 := by rw [Ha.out]; omega
  have hb : b < 10 := by rw [Hb.out]; omega
  rw [← Ha.out] at q
  rw [← Hb.out] at t
  have i0 : IntKind.i64.wrap (a : Int) = (a : Int) := IntWalk.i64_in _ (by omega)
  have i1 : IntKind.i64.wrap (48 + (a : Int)) = 48 + (a : Int) := IntWalk.i64_in _ (by omega)
  have i2 : IntKind.i64.wrap (48 + (b : Int)) = 48 + (b : Int) := IntWalk.i64_in _ (by omega)
  have i3 : IntKind.u8.wrap (48 + (a : Int)) = 48 + (a : Int) := IntWalk.u8_in _ (by omega)
  have i4 : IntKind.u8.wrap (48 + (b : Int)) = 48 + (b : Int) := IntWalk.u8_in _ (by omega)
  have hcv : (convert 55 9 (.slice (some ⟨w.heap.size, 0, none⟩) 2 2)).run Tryd.prog (w.alloc (.cells #[.int .u8 (48 + (a : Int)), .int .u8 (48 + (b : Int))] 5)) = .ok (.string x) (w.alloc (.cells #[.int .u8 (48 + (a : Int)), .int .u8 (48 + (b : Int))] 5)) := by
    have hx2 : x = ⟨[Dt.dg a, Dt.dg b].toArray⟩ := by
      apply ByteArray.ext
      apply Array.toList_inj.1
      rw [hx]
      unfold Dt.two
      rw [← Ha.out, ← Hb.out]
    rw [hx2]
    refine run_convert_bytes_back (P := Tryd.prog) _ 55 9 5 ⟨w.heap.size, 0, none⟩ 2 [Dt.dg a, Dt.dg b] Tryd.underlying55 Tryd.underlying5 Tryd.underlying9 (fun j hj => ?_)
    rw [add_to, Nat.zero_add, World.cell?_alloc_at _ _ _ _ rfl, ← Array.getElem?_toList, two_bv a b ha hb]
    exact bv_at _ j hj
  have HBEL : Hid (∀ o, Below w.heap.size w (w.alloc o)) := Lib.hid (fun o => (Below.refl _ _).alloc (Nat.le_refl _) o)
  clear hx
  go_enter Tryd.func44, Tryd.ntmps44
  go_wp2
  go_ret
  exact ⟨rfl, HBEL.out _⟩

def mcells : Array Value := #[.string ⟨#[74, 97, 110]⟩, .string ⟨#[70, 101, 98]⟩, .string ⟨#[77, 97, 114]⟩, .string ⟨#[65, 112, 114]⟩, .string ⟨#[77, 97, 121]⟩, .string ⟨#[74, 117, 110]⟩, .string ⟨#[74, 117, 108]⟩, .string ⟨#[65, 117, 103]⟩, .string ⟨#[83, 101, 112]⟩, .string ⟨#[79, 99, 116]⟩, .string ⟨#[78, 111, 118]⟩, .string ⟨#[68, 101, 99]⟩]
theorem mcells_at : ∀ k : Nat, k < 12 → mcells[k]? = some (.string ⟨(Dt.mname (k + 1)).toArray⟩) := fun k hk => by
  match k, hk with
  | 0, _ => rfl
  | 1, _ => rfl
  | 2, _ => rfl
  | 3, _ => rfl
  | 4, _ => rfl
  | 5, _ => rfl
  | 6, _ => rfl
  | 7, _ => rfl
  | 8, _ => rfl
  | 9, _ => rfl
  | 10, _ => rfl
  | 11, _ => rfl
theorem rmonths_any (w : World) : Calls Tryd.prog 39 #[] w fun e w' => e = .returned (.slice (some ⟨w.heap.size, 0, none⟩) 12 12) ∧ Blk w' w.heap.size 9 mcells ∧ Below w.heap.size w w' := by
  have HB : Hid (Blk (w.alloc (.cells #[.string ⟨#[74, 97, 110]⟩, .string ⟨#[70, 101, 98]⟩, .string ⟨#[77, 97, 114]⟩, .string ⟨#[65, 112, 114]⟩, .string ⟨#[77, 97, 121]⟩, .string ⟨#[74, 117, 110]⟩, .string ⟨#[74, 117, 108]⟩, .string ⟨#[65, 117, 103]⟩, .string ⟨#[83, 101, 112]⟩, .string ⟨#[79, 99, 116]⟩, .string ⟨#[78, 111, 118]⟩, .string ⟨#[68, 101, 99]⟩] 9)) w.heap.size 9 mcells) := Lib.hid (Blk.new w _ _)
  go_enter Tryd.func39, Tryd.ntmps39
  go_wp2
  go_ret
  exact ⟨rfl, HB.out, (Below.refl _ _).alloc (Nat.le_refl _) _⟩
end Go.Proofs.YtgkibkophoikoaaDoor
