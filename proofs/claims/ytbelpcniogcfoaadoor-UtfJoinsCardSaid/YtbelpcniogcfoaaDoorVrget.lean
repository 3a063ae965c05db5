/-
  The document's Get.
-/
import Derived.Test.YtbelpcniogcfoaaDoorVarint
namespace Go.Proofs.YtbelpcniogcfoaaDoor.vi
open Go.RowKit Go.Proofs.YtbelpcniogcfoaaDoor.cur
set_option linter.unusedVariables false

/-- Where the last byte is sought: not found up to i, or found at the byte before i. -/
inductive Seek (s : ByteArray) : Nat → Nat → Prop
  | no (i : Nat) (h1 : i ≤ s.size) (h2 : i ≤ 10) (h3 : ∀ j, j < i → 128 ≤ (s.data.toList.getD j 0).toNat) : Seek s i 0
  | yes (k : Nat) (h1 : k < s.size) (h2 : k < 10) (h3 : ∀ j, j < k → 128 ≤ (s.data.toList.getD j 0).toNat) (h4 : (s[k]'h1).toNat < 128) : Seek s (k + 1) (k + 1)

theorem acc_step (s : ByteArray) (j : Nat) (hj : j < s.size) (h9 : j ≤ 9) (hb : j = 9 → s[j].toNat ≤ 1) :
    IntKind.u64.wrap ((val (s.data.toList.take j) : Int) + IntKind.u64.wrap ((s[j].toNat : Int) % 128 * ((128 ^ j % 18446744073709551616 : Nat) : Int))) = (val (s.data.toList.take (j + 1)) : Int) ∧
    IntKind.u64.wrap (((128 ^ j % 18446744073709551616 : Nat) : Int) * 128) = ((128 ^ (j + 1) % 18446744073709551616 : Nat) : Int) ∧ val (s.data.toList.take (j + 1)) < 18446744073709551616 := by
  have hp9 : 128 ^ j ≤ 128 ^ 9 := Nat.pow_le_pow_right (by omega) h9
  have hU : 128 ^ j % 18446744073709551616 = 128 ^ j := Nat.mod_eq_of_lt (by omega)
  have hX : val (s.data.toList.take j) < 128 ^ j := by
    refine Nat.lt_of_lt_of_le (val_lt _) (Nat.pow_le_pow_right (by omega) ?_)
    simp
    omega
  have hv := val_take s j hj
  have hm : s[j].toNat % 128 * 128 ^ j ≤ 9223372036854775808 := by
    by_cases h8 : j ≤ 8
    · have h1 : 128 ^ j ≤ 128 ^ 8 := Nat.pow_le_pow_right (by omega) h8
      have h2 : s[j].toNat % 128 * 128 ^ j ≤ 127 * 128 ^ 8 := Nat.mul_le_mul (by omega) h1
      omega
    · have h1 := hb (by omega)
      have h2 : s[j].toNat % 128 * 128 ^ j ≤ 1 * 128 ^ 9 := Nat.mul_le_mul (by omega) hp9
      omega
  have e1 : (s[j].toNat : Int) % 128 * ((128 ^ j % 18446744073709551616 : Nat) : Int) = ((s[j].toNat % 128 * 128 ^ j : Nat) : Int) := by
    rw [hU, Int.natCast_mul]; rfl
  have hp : 128 ^ (j + 1) = 128 ^ j * 128 := Nat.pow_succ ..
  generalize 128 ^ j = p at *
  generalize s[j].toNat % 128 * p = q at *
  generalize val (s.data.toList.take j) = X at *
  generalize val (s.data.toList.take (j + 1)) = Y at *
  refine ⟨?_, ?_, by omega⟩
  · rw [e1, IntKind.wrap_u64, IntKind.wrap_u64]
    omega
  · rw [hU, IntKind.wrap_u64, hp]
    omega

end Go.Proofs.YtbelpcniogcfoaaDoor.vi
