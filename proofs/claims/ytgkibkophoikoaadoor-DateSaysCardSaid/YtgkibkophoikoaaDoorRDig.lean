/- The reference's Digits: it calls itself in a region whose order is open. -/
import Derived.Test.YtgkibkophoikoaaDoorLib
import Derived.Test.YtgkibkophoikoaaDoorProg
import Derived.Lib.ItoaNum
import Derived.Deep.RegionWith
namespace Go.Proofs.YtgkibkophoikoaaDoor
open Go.RowKit

theorem str_append (a b : List UInt8) : (⟨a.toArray⟩ : ByteArray) ++ ⟨b.toArray⟩ = ⟨(a ++ b).toArray⟩ := by
  apply ByteArray.ext
  rw [ByteArray.data_append]; simp
def digitB (d : Nat) : UInt8 := UInt8.ofNat (48 + d)
theorem digit_toNat (d : Nat) (h : d < 10) : ((digitB d).toNat : Int) = 48 + (d : Int) := by
  unfold digitB
  rw [UInt8.toNat_ofNat', Nat.mod_eq_of_lt (by omega)]; omega

theorem run_digit (W : World) (d : Nat) (h : d < 10) (A : Addr) (c : Nat) (hc : W.cell? A = some (.int .u8 (48 + (d : Int)))) :
    (convert 55 9 (.slice (some A) 1 c)).run Tryd.prog W = .ok (.string ⟨#[digitB d]⟩) W := by
  have h1 := run_convert_bytes_back (P := Tryd.prog) W 55 9 5 A c [digitB d] Tryd.underlying55 Tryd.underlying5 Tryd.underlying9 (fun j hj => by
    have : j = 0 := by simpa using hj
    subst this
    show W.cell? (A.add 0) = some (.int .u8 ((digitB d).toNat : Int))
    rw [digit_toNat d h]
    simpa [Addr.add] using hc)
  exact h1

theorem decDigits_le (n : Nat) : (Lib.decDigits n).length ≤ n + 1 := by
  induction n using Nat.strongRecOn with
  | _ n ih =>
    by_cases hn : n < 10
    · rw [Lib.decDigits_one hn]; simp
    · rw [Lib.decDigits, dif_neg hn, List.length_append]
      have := ih (n / 10) (by omega)
      simp; omega

set_option maxHeartbeats 1600000 in
theorem digits_any (n : Nat) (h : n ≤ 9223372036854775807) : ∀ (w : World), Calls Tryd.prog 45 #[.int .i64 (n : Int)] w fun e w' => e = .returned (.string ⟨(Lib.decDigits n).toArray⟩) ∧ Below w.heap.size w w' := by
  induction n using Nat.strongRecOn with
  | _ n ih =>
    intro w
    by_cases hn : n < 10
    · rw [show Lib.decDigits n = [digitB n] from Lib.decDigits_one hn]
      have hd : decide ((n : Int) < 10) = true := by simp; omega
      have hrun := run_digit (w.alloc (.cells #[.int .u8 (48 + (n : Int))] 5)) n hn ⟨w.heap.size, 0, none⟩ 1 (by rw [World.cell?_alloc_at _ _ _ _ rfl]; rfl)
      go_enter Tryd.func45, Tryd.ntmps45
      go_wp2
      go_ret
      exact ⟨rfl, (Below.refl _ _).alloc (Nat.le_refl _) _⟩
    · have hd : decide ((n : Int) < 10) = false := by simp; omega
      have hrec := ih (n / 10) (by omega) (by omega)
      have hdd : Lib.decDigits n = Lib.decDigits (n / 10) ++ [digitB (n % 10)] := by rw [Lib.decDigits, dif_neg hn]; rfl
      rw [hdd]
      have hr : n % 10 < 10 := Nat.mod_lt _ (by decide)
      have e1 : IntKind.i64.wrap ((n : Int) / 10) = ((n / 10 : Nat) : Int) := by rw [IntWalk.i64_in _ (by omega)]; omega
      have e2 : ((n : Int)).tmod 10 = ((n % 10 : Nat) : Int) := by rw [Int.tmod_eq_emod_of_nonneg (by omega)]; omega
      have e3 : IntKind.i64.wrap (48 + ((n % 10 : Nat) : Int)) = 48 + ((n % 10 : Nat) : Int) := IntWalk.i64_in _ (by omega)
      have e4 : IntKind.u8.wrap (48 + ((n % 10 : Nat) : Int)) = 48 + ((n % 10 : Nat) : Int) := IntWalk.u8_in _ (by omega)
      have hlen := decDigits_le (n / 10)
      have hq : n / 10 ≤ 922337203685477580 := by omega
      clear hdd ih
      generalize n / 10 = q at *
      generalize n % 10 = r at *
      generalize Lib.decDigits q = D at *
      have hcv : ∀ (W : World) (A : Addr) (c : Nat), W.cell? A = some (.int .u8 (48 + (r : Int))) → (convert 55 9 (.slice (some A) 1 c)).run Tryd.prog W = .ok (.string ⟨#[digitB r]⟩) W := fun W A c hc => run_digit W r hr A c hc
      have HR := Lib.hid hrec
      clear hrec
      go_enter Tryd.func45, Tryd.ntmps45
      go_wp2_with fail
      go_region_with (go_at_call 45; refine (HR.out _).mono ?_; rintro e w' ⟨rfl, hb⟩; have hck := cells_kept hb; have hcz := hb.size; (try simp only [World.drew] at hcz))
      all_goals
        clear hck
        go_wp2
        go_ret
        refine ⟨?_, ?_⟩
        · rw [show (⟨(D ++ [digitB r]).toArray⟩ : ByteArray) = ⟨D.toArray⟩ ++ ⟨#[digitB r]⟩ from (str_append D [digitB r]).symm]; rfl
        · first
            | exact (((Below.refl w.heap.size w).drew).trans hb).alloc hcz _
            | exact (((Below.refl w.heap.size w).alloc (Nat.le_refl _) _).drew).trans (hb.mono (by show w.heap.size ≤ (w.heap.push _).size; simp))
end Go.Proofs.YtgkibkophoikoaaDoor
