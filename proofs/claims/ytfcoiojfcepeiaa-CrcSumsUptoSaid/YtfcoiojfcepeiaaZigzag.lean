/-
  The contracts of package zigzag, and the document's.
-/
import Derived.Test.YtfcoiojfcepeiaaLaw02
namespace Go.Proofs.Ytfcoiojfcepeiaa.zz
open Go.RowKit Go.Proofs.Ytfcoiojfcepeiaa.cur Go.Proofs.Ytfcoiojfcepeiaa.vi
set_option linter.unusedVariables false
set_option linter.unusedSimpArgs false

def zig (n : Int) : Nat := if n < 0 then (-2 * n - 1).toNat else (2 * n).toNat
def zag (z : Nat) : Int := if z % 2 = 1 then -(z / 2 : Nat) - 1 else (z / 2 : Nat)

theorem zig_lt {n : Int} (h1 : -9223372036854775808 ≤ n) (h2 : n ≤ 9223372036854775807) : zig n < 18446744073709551616 := by unfold zig; split <;> omega

theorem i64_not (n : Int) (h1 : -9223372036854775808 ≤ n) (h2 : n ≤ 9223372036854775807) : bits .xor .i64 (-1) n = -1 - n := by
  show IntKind.i64.wrap ((BitVec.ofInt 64 (-1) ^^^ BitVec.ofInt 64 n).toNat : Int) = _
  have h1 : BitVec.ofInt 64 (-1) = BitVec.allOnes 64 := by decide
  rw [h1, BitVec.allOnes_xor, BitVec.toNat_not, BitVec.toNat_ofInt, IntKind.wrap_i64]
  omega

theorem map_any (n : Int) (h1 : -9223372036854775808 ≤ n) (h2 : n ≤ 9223372036854775807) (w : World) :
    Calls Try.prog 11 #[.int .i64 n] w fun e w' => e = .returned (.int .u64 (zig n : Nat)) ∧ w = w' := by
  by_cases hc : n < 0
  · have hsg : IntKind.i64.signed = true := rfl
    go_enter Try.func11, Try.ntmps11
    go_wp2
    go_ret
    refine ⟨ret1 (congrArg (Value.int .u64) ?_), rfl⟩
    unfold zig
    rw [if_pos (by omega)]
    try rw [i64_not _ (by omega) (by omega)]
    try simp only [IntKind.wrap_u64, IntKind.wrap_i64]
    omega
  · have hsg : IntKind.i64.signed = true := rfl
    go_enter Try.func11, Try.ntmps11
    go_wp2
    go_ret
    refine ⟨ret1 (congrArg (Value.int .u64) ?_), rfl⟩
    unfold zig
    rw [if_neg (by omega)]
    try rw [i64_not _ (by omega) (by omega)]
    try simp only [IntKind.wrap_u64, IntKind.wrap_i64]
    omega

theorem rmap_any (n : Int) (h1 : -9223372036854775808 ≤ n) (h2 : n ≤ 9223372036854775807) (w : World) :
    Calls Try.prog 12 #[.int .i64 n] w fun e w' => e = .returned (.int .u64 (zig n : Nat)) ∧ w = w' := by
  by_cases hc : 0 ≤ n
  · have hsg : IntKind.i64.signed = true := rfl
    go_enter Try.func12, Try.ntmps12
    go_wp2
    go_ret
    refine ⟨ret1 (congrArg (Value.int .u64) ?_), rfl⟩
    unfold zig
    rw [if_neg (by omega)]
    try rw [i64_not _ (by omega) (by omega)]
    try simp only [IntKind.wrap_u64, IntKind.wrap_i64]
    omega
  · have hsg : IntKind.i64.signed = true := rfl
    go_enter Try.func12, Try.ntmps12
    go_wp2
    go_ret
    refine ⟨ret1 (congrArg (Value.int .u64) ?_), rfl⟩
    unfold zig
    rw [if_pos (by omega)]
    try rw [i64_not _ (by omega) (by omega)]
    try simp only [IntKind.wrap_u64, IntKind.wrap_i64]
    omega

theorem back_any (z : Nat) (hz : z < 18446744073709551616) (w : World) :
    Calls Try.prog 13 #[.int .u64 z] w fun e w' => e = .returned (.int .i64 (zag z)) ∧ w = w' := by
  by_cases hc : z % 2 = 1
  · have hsg : IntKind.i64.signed = true := rfl
    go_enter Try.func13, Try.ntmps13
    go_wp2
    go_ret
    refine ⟨ret1 (congrArg (Value.int .i64) ?_), rfl⟩
    unfold zag
    rw [if_pos (by omega)]
    try rw [i64_not _ (by omega) (by omega)]
    try simp only [IntKind.wrap_u64, IntKind.wrap_i64]
    omega
  · have hsg : IntKind.i64.signed = true := rfl
    go_enter Try.func13, Try.ntmps13
    go_wp2
    go_ret
    refine ⟨ret1 (congrArg (Value.int .i64) ?_), rfl⟩
    unfold zag
    rw [if_neg (by omega)]
    try rw [i64_not _ (by omega) (by omega)]
    try simp only [IntKind.wrap_u64, IntKind.wrap_i64]
    omega

theorem rback_any (z : Nat) (hz : z < 18446744073709551616) (w : World) :
    Calls Try.prog 14 #[.int .u64 z] w fun e w' => e = .returned (.int .i64 (zag z)) ∧ w = w' := by
  by_cases hc : z % 2 = 0
  · have hsg : IntKind.i64.signed = true := rfl
    go_enter Try.func14, Try.ntmps14
    go_wp2
    go_ret
    refine ⟨ret1 (congrArg (Value.int .i64) ?_), rfl⟩
    unfold zag
    rw [if_neg (by omega)]
    try rw [i64_not _ (by omega) (by omega)]
    try simp only [IntKind.wrap_u64, IntKind.wrap_i64]
    omega
  · have hsg : IntKind.i64.signed = true := rfl
    go_enter Try.func14, Try.ntmps14
    go_wp2
    go_ret
    refine ⟨ret1 (congrArg (Value.int .i64) ?_), rfl⟩
    unfold zag
    rw [if_pos (by omega)]
    try rw [i64_not _ (by omega) (by omega)]
    try simp only [IntKind.wrap_u64, IntKind.wrap_i64]
    omega

theorem put_any (n : Int) (h1 : -9223372036854775808 ≤ n) (h2 : n ≤ 9223372036854775807) (w : World) :
    Calls Try.prog 15 #[.int .i64 n] w fun e w' => e = .returned (.string (encB (zig n))) ∧ w.grownBy w' none := by
  have hm := fun w => map_any n h1 h2 w
  have hp := fun w => vi.put_any (zig n) (zig_lt h1 h2) w
  go_enter Try.func15, Try.ntmps15
  go_wp2_with (first
    | (go_at_call 11; refine (hm _).mono ?_; rintro e w' ⟨rfl, rfl⟩)
    | (go_at_call 31; refine (hp _).mono ?_; rintro e w' ⟨rfl, g⟩))
  go_ret
  exact ⟨rfl, g⟩

/-- The number that bytes begin with, or why there is none. -/
def zgetR (L : List UInt8) : Int × Nat × Nat := if (getR L).2.2 = 0 then (zag (getR L).1, (getR L).2.1, 0) else (0, 0, (getR L).2.2)
def zgetV (r : Int × Nat × Nat) : Value := .tuple #[.int .i64 r.1, .int .i64 r.2.1, .int .i64 r.2.2]

theorem get_any (s : ByteArray) (hs : s.size ≤ maxLen) (w : World) :
    Calls Try.prog 7 #[.string s] w fun e w' => e = .returned (zgetV (zgetR s.data.toList)) ∧ w = w' := by
  have hg := fun w => vi.get_any s hs w
  have hb := getR_bounds s.data.toList
  unfold getV at hg
  unfold zgetV zgetR
  generalize getR s.data.toList = r at *
  obtain ⟨x, m, E⟩ := r
  simp only at hg hb ⊢
  obtain ⟨hx, -, hm, hE, -⟩ := hb
  by_cases h : E = 0
  · subst h
    go_enter Try.func7, Try.ntmps7
    go_wp2_with (first
      | (go_at_call 28; refine (hg _).mono ?_; rintro e w' ⟨rfl, rfl⟩)
      | (go_at_call 13; refine (back_any x hx _).mono ?_; rintro e w' ⟨rfl, rfl⟩))
    go_ret3
    exact ⟨rfl, rfl⟩
  · rw [if_neg h]
    go_enter Try.func7, Try.ntmps7
    go_wp2_with (go_at_call 28; refine (hg _).mono ?_; rintro e w' ⟨rfl, rfl⟩)
    go_ret3
    exact ⟨rfl, rfl⟩

theorem rget_any (s : ByteArray) (hs : s.size ≤ maxLen) (w : World) :
    Calls Try.prog 8 #[.string s] w fun e w' => e = .returned (zgetV (zgetR s.data.toList)) ∧ w = w' := by
  have hg := fun w => vi.rget_any s hs w
  have hb := getR_bounds s.data.toList
  unfold getV at hg
  unfold zgetV zgetR
  generalize getR s.data.toList = r at *
  obtain ⟨x, m, E⟩ := r
  simp only at hg hb ⊢
  obtain ⟨hx, -, hm, hE, -⟩ := hb
  by_cases h : E = 0
  · subst h
    go_enter Try.func8, Try.ntmps8
    go_wp2_with (first
      | (go_at_call 29; refine (hg _).mono ?_; rintro e w' ⟨rfl, rfl⟩)
      | (go_at_call 14; refine (rback_any x hx _).mono ?_; rintro e w' ⟨rfl, rfl⟩))
    go_ret3
    exact ⟨rfl, rfl⟩
  · rw [if_neg h]
    go_enter Try.func8, Try.ntmps8
    go_wp2_with (go_at_call 29; refine (hg _).mono ?_; rintro e w' ⟨rfl, rfl⟩)
    go_ret3
    exact ⟨rfl, rfl⟩

theorem next_any {w : World} {b : Nat} {s : ByteArray} {k : Nat} (h : Cur w b s k) :
    Calls Try.prog 10 #[.pointer (some ⟨b, 0, none⟩)] w fun e w' =>
      e = .returned (.tuple #[.int .i64 (zgetR (s.data.toList.drop k)).1, .int .i64 ((zgetR (s.data.toList.drop k)).2.2 : Int)]) ∧ Cur w' b s (k + (zgetR (s.data.toList.drop k)).2.1) ∧ w.grownBy w' (some b) := by
  have hn := next_some h
  have hb := getR_bounds (s.data.toList.drop k)
  have he := @getR_err (s.data.toList.drop k)
  unfold zgetR
  generalize getR (s.data.toList.drop k) = r at *
  obtain ⟨x, m, E⟩ := r
  simp only at hn hb he ⊢
  obtain ⟨hx, -, hm, hE, -⟩ := hb
  have Hn := Lib.hid hn
  clear hn
  by_cases h0 : E = 0
  · subst h0
    simp only [if_pos]
    go_enter Try.func10, Try.ntmps10
    go_wp2_with (first
      | (go_at_call 30; refine Hn.out.mono ?_; rintro e w' ⟨rfl, hc, hg⟩)
      | (go_at_call 13; refine (back_any x hx _).mono ?_; rintro e w'' ⟨rfl, rfl⟩))
    go_ret2
    exact ⟨rfl, hc, hg⟩
  · simp only [if_neg h0]
    obtain ⟨-, rfl⟩ := he h0
    go_enter Try.func10, Try.ntmps10
    go_wp2_with (go_at_call 30; refine Hn.out.mono ?_; rintro e w' ⟨rfl, hc, hg⟩)
    go_ret2
    exact ⟨rfl, hc, hg⟩

theorem zgetR_bounds (L : List UInt8) : -9223372036854775808 ≤ (zgetR L).1 ∧ (zgetR L).1 ≤ 9223372036854775807 ∧ (zgetR L).2.1 ≤ 10 ∧ (zgetR L).2.2 < 4 := by
  have hb := getR_bounds L
  unfold zgetR
  split
  · have : -9223372036854775808 ≤ zag (getR L).1 ∧ zag (getR L).1 ≤ 9223372036854775807 := by unfold zag; split <;> omega
    exact ⟨this.1, this.2, hb.2.2.1, by simp⟩
  · exact ⟨by simp only; omega, by simp only; omega, by simp only; omega, hb.2.2.2.1⟩

end Go.Proofs.Ytfcoiojfcepeiaa.zz
