/- How a plain device's cache and sectors grow by a call. -/
import Derived.Test.YtelcedbcegbbjaaDevPlS19
namespace Go.Proofs.Ytelcedbcegbbjaa
open Go.RowKit Dk
set_option linter.unusedVariables false

/-- The sectors stay as many, the cache grows by one at most. -/
def By (S S' : Disk) : Prop := S'.dur.length = S.dur.length ∧ S'.cache.length ≤ S.cache.length + 1
theorem By.refl (S : Disk) : By S S := ⟨rfl, by omega⟩
theorem by_crash (S : Disk) (keep : List Int) (torn : Int) : By S (S.crash keep torn) := by
  unfold Disk.crash
  cases S.off
  · exact ⟨fallTo_length _ _ _ _ _, Nat.zero_le _⟩
  · exact By.refl S
theorem by_on (S : Disk) : By S S.on := ⟨rfl, by show S.cache.length ≤ _; omega⟩
theorem by_blow (S : Disk) : By S S.blow := by
  unfold Disk.blow
  split
  · exact By.refl S
  · split
    · exact by_crash S _ _
    · exact ⟨rfl, by show S.cache.length ≤ _; omega⟩
theorem by_arm (S : Disk) (c : Int) (keep : List Int) (torn : Int) : By S (S.arm c keep torn) := by
  unfold Disk.arm
  cases S.off
  · simp only [cond_false]
    split
    · exact ⟨rfl, by show S.cache.length ≤ _; omega⟩
    · exact ⟨rfl, by show S.cache.length ≤ _; omega⟩
  · exact By.refl S
theorem by_flush (S : Disk) : By S S.flush := by
  unfold Disk.flush
  cases S.off
  · cases hb : S.blows
    · simp only [cond_false]
      obtain ⟨b1, b2, b3, _⟩ := Disk.blow_same hb
      exact ⟨putAll_length _ _, Nat.zero_le _⟩
    · exact by_blow S
  · exact By.refl S
theorem by_write (S : Disk) (at_ : Int) (b : ByteArray) : By S (S.write at_ b) := by
  unfold Disk.write
  cases S.off
  · cases S.takes at_ b.size
    · exact By.refl S
    · cases hb : S.blows
      · simp only [cond_false, cond_true]
        obtain ⟨b1, b2, b3, _⟩ := Disk.blow_same hb
        exact ⟨by show S.blow.dur.length = _; rw [b1], by simp⟩
      · exact by_blow S
  · exact By.refl S
end Go.Proofs.Ytelcedbcegbbjaa
