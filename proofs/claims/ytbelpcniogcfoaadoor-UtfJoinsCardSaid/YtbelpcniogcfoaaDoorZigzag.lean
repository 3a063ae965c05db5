/-
  The contracts of package zigzag, and the document's.
-/
import Derived.Test.YtbelpcniogcfoaaDoorLaw02
namespace Go.Proofs.YtbelpcniogcfoaaDoor.zz
open Go.RowKit Go.Proofs.YtbelpcniogcfoaaDoor.cur Go.Proofs.YtbelpcniogcfoaaDoor.vi
set_option linter.unusedVariables false
set_option linter.unusedSimpArgs false

def zig (n : Int) : Nat := if n < 0 then (-2 * n - 1).toNat else (2 * n).toNat
def zag (z : Nat) : Int := if z % 2 = 1 then -(z / 2 : Nat) - 1 else (z / 2 : Nat)

theorem zig_lt {n : Int} (h1 : -9223372036854775808 ≤ n) (h2 : n ≤ 9223372036854775807) : zig n < 18446744073709551616 := by unfold zig; split <;> omega

theorem i64_not (n : Int) (h1 : -9223372036854775808 ≤ n) (h2 : n ≤ 9223372036854775807) : bits .xor .i64 (-1) n = -1 - n := by
  show IntKind.i64.wrap ((BitVec.ofInt 64 (-1) ^^^ BitVec.ofInt 64 n).toNat : Int) = _
  have h1 : BitVec.ofInt 64 (-1) = BitVec.allOnes 64 := by decide
  rw [h1, BitVec.allOnes_xor, BitVec.toNat_not, BitVec.toNat_ofInt, IntKind.wrap_i64]
  omega

theorem map_any (n : Int) (h1 : -9223372036854775808 ≤ n) (h2 : n ≤ 9223372036854775807) (w : World) :
    Calls Tryd.prog 88 #[.int .i64 n] w fun e w' => e = .returned (.int .u64 (zig n : Nat)) ∧ w = w' := by
  by_cases hc : n < 0
  · have hsg : IntKind.i64.signed = true := rfl
    go_enter Tryd.func88, Tryd.ntmps88
    go_wp2
    go_ret
    refine ⟨ret1 (congrArg (Value.int .u64) ?_), rfl⟩
    unfold zig
    rw [if_pos (by omega)]
    try rw [i64_not _ (by omega) (by omega)]
    try simp only [IntKind.wrap_u64, IntKind.wrap_i64]
    omega
  · have hsg : IntKind.i64.signed = true := rfl
    go_enter Tryd.func88, Tryd.ntmps88
    go_wp2
    go_ret
    refine ⟨ret1 (congrArg (Value.int .u64) ?_), rfl⟩
    unfold zig
    rw [if_neg (by omega)]
    try rw [i64_not _ (by omega) (by omega)]
    try simp only [IntKind.wrap_u64, IntKind.wrap_i64]
    omega

theorem back_any (z : Nat) (hz : z < 18446744073709551616) (w : World) :
    Calls Tryd.prog 89 #[.int .u64 z] w fun e w' => e = .returned (.int .i64 (zag z)) ∧ w = w' := by
  by_cases hc : z % 2 = 1
  · have hsg : IntKind.i64.signed = true := rfl
    go_enter Tryd.func89, Tryd.ntmps89
    go_wp2
    go_ret
    refine ⟨ret1 (congrArg (Value.int .i64) ?_), rfl⟩
    unfold zag
    rw [if_pos (by omega)]
    try rw [i64_not _ (by omega) (by omega)]
    try simp only [IntKind.wrap_u64, IntKind.wrap_i64]
    omega
  · have hsg : IntKind.i64.signed = true := rfl
    go_enter Tryd.func89, Tryd.ntmps89
    go_wp2
    go_ret
    refine ⟨ret1 (congrArg (Value.int .i64) ?_), rfl⟩
    unfold zag
    rw [if_neg (by omega)]
    try rw [i64_not _ (by omega) (by omega)]
    try simp only [IntKind.wrap_u64, IntKind.wrap_i64]
    omega

/-- The number that bytes begin with, or why there is none. -/
def zgetR (L : List UInt8) : Int × Nat × Nat := if (getR L).2.2 = 0 then (zag (getR L).1, (getR L).2.1, 0) else (0, 0, (getR L).2.2)
def zgetV (r : Int × Nat × Nat) : Value := .tuple #[.int .i64 r.1, .int .i64 r.2.1, .int .i64 r.2.2]

theorem zgetR_bounds (L : List UInt8) : -9223372036854775808 ≤ (zgetR L).1 ∧ (zgetR L).1 ≤ 9223372036854775807 ∧ (zgetR L).2.1 ≤ 10 ∧ (zgetR L).2.2 < 4 := by
  have hb := getR_bounds L
  unfold zgetR
  split
  · have : -9223372036854775808 ≤ zag (getR L).1 ∧ zag (getR L).1 ≤ 9223372036854775807 := by unfold zag; split <;> omega
    exact ⟨this.1, this.2, hb.2.2.1, by simp⟩
  · exact ⟨by simp only; omega, by simp only; omega, by simp only; omega, hb.2.2.2.1⟩

end Go.Proofs.YtbelpcniogcfoaaDoor.zz
