/-
  The contracts of package varint, function by function.
-/
import Derived.Test.YtbelpcniogcfoaaDoorCursor
import Derived.Test.YtbelpcniogcfoaaDoorVmath
import Derived.Test.YtbelpcniogcfoaaDoorShelf
import Derived.Handy
namespace Go.Proofs.YtbelpcniogcfoaaDoor.vi
open Go.RowKit Go.Proofs.YtbelpcniogcfoaaDoor.cur
set_option linter.unusedVariables false

theorem last_any (b : UInt8) (k : Nat) (hk : k ≤ 10) (w : World) :
    Calls Tryd.prog 78 #[.int .u8 (b.toNat : Int), .int .i64 k] w fun e w' => e = .returned (.int .i64 (lastErr b k)) ∧ w = w' := by
  have hb := b.toNat_lt
  rcases (show (k = 10 ∧ 1 < b.toNat) ∨ ((k = 10 ∧ b.toNat ≤ 1 ∧ b.toNat ≠ 0) ∨ (k = 10 ∧ b.toNat = 0)) ∨ (k ≠ 10 ∧ 1 < k ∧ b.toNat = 0) ∨ (k ≠ 10 ∧ 1 < k ∧ b.toNat ≠ 0) ∨ (k ≠ 10 ∧ ¬ 1 < k) by omega) with h | (h | h) | h | h | h
  all_goals
    go_enter Tryd.func78, Tryd.ntmps78
    go_wp2
    go_ret
    refine ⟨ret1 (congrArg (Value.int .i64) ?_), rfl⟩
    unfold lastErr
    simp [h]
  all_goals (try split) <;> omega

theorem getD_bytes (s : ByteArray) (k : Nat) (h : k < s.size) : s.data.toList.getD k 0 = s[k] := by
  rw [List.getD_eq_getElem?_getD, List.getElem?_eq_getElem (by simpa using h)]
  rfl

theorem step_bits (x b k : Nat) (hx : x < 18446744073709551616) (hb : b < 256) (hk : k ≤ 9) :
    ∃ y : Nat, bits .or .u64 (x : Int) (IntKind.u64.wrap (IntKind.u64.wrap (bits .andNot .u8 (b : Int) 128) * 2 ^ (7 * k))) = (y : Int) ∧ y < 18446744073709551616 ∧
      (x < 128 ^ k → k ≤ 8 ∨ b ≤ 1 → y = x + b % 128 * 128 ^ k) := by
  have e1 : bits .andNot .u8 (b : Int) 128 = ((b % 128 : Nat) : Int) := by
    have := u8_andNot_nat b 128 hb (by omega)
    rw [show (255 - 128 : Nat) = 127 from rfl, nat_mask7] at this
    exact this
  have e2 : IntKind.u64.wrap (((b % 128 : Nat) : Int)) = ((b % 128 : Nat) : Int) := by rw [IntKind.wrap_u64]; omega
  have e3 : IntKind.u64.wrap (((b % 128 : Nat) : Int) * 2 ^ (7 * k)) = ((b % 128 * 128 ^ k % 18446744073709551616 : Nat) : Int) := by
    rw [IntKind.wrap_u64, pow_seven]
    symm
    rw [Int.natCast_emod, Int.natCast_mul, Int.natCast_pow]
    rfl
  have hlt : b % 128 * 128 ^ k % 18446744073709551616 < 18446744073709551616 := Nat.mod_lt _ (by omega)
  rw [e1, e2, e3, u64_or_nat _ _ hx hlt]
  refine ⟨_, rfl, Nat.or_lt_two_pow (n := 64) hx hlt, fun hxk hc => ?_⟩
  have hm : b % 128 * 128 ^ k < 18446744073709551616 := by
    rcases hc with hc | hc
    · have h1 : 128 ^ k ≤ 128 ^ 8 := Nat.pow_le_pow_right (by omega) hc
      have h2 : b % 128 * 128 ^ k ≤ 127 * 128 ^ 8 := Nat.mul_le_mul (by omega) h1
      omega
    · have h1 : 128 ^ k ≤ 128 ^ 9 := Nat.pow_le_pow_right (by omega) hk
      have h2 : b % 128 * 128 ^ k ≤ 1 * 128 ^ 9 := Nat.mul_le_mul (by omega) h1
      omega
  rw [Nat.mod_eq_of_lt hm, Nat.or_comm, nat_join (7 * k) _ _ (by rw [← pow_seven]; exact Nat.mul_mod_left _ _) (by rw [← pow_seven]; exact hxk)]
  omega

/-- What holds at the k-th round's head of Get. -/
structure GetSt (s : ByteArray) (k x : Nat) : Prop where
  le : k ≤ s.size
  ten : k ≤ 10
  lt : x < 18446744073709551616
  all : ∀ j, j < k → 128 ≤ (s.data.toList.getD j 0).toNat
  eq : k ≤ 9 → x = val (s.data.toList.take k)

theorem take_step (s : ByteArray) (k : Nat) (h : k < s.size) : s.data.toList.take (k + 1) = s.data.toList.take k ++ [s[k]] := by
  rw [List.take_succ_eq_append_getElem (by simpa using h)]; rfl

theorem val_take (s : ByteArray) (k : Nat) (h : k < s.size) : val (s.data.toList.take (k + 1)) = val (s.data.toList.take k) + s[k].toNat % 128 * 128 ^ k := by
  rw [take_step s k h, val_snoc, List.length_take, Nat.min_eq_left (by simp; omega)]

theorem GetSt.next {s : ByteArray} {k x y : Nat} (h : GetSt s k x) (hk : k < s.size) (h10 : k < 10) (hb : 128 ≤ s[k].toNat) (hy : y < 18446744073709551616) (he : x < 128 ^ k → k ≤ 8 ∨ s[k].toNat ≤ 1 → y = x + s[k].toNat % 128 * 128 ^ k) : GetSt s (k + 1) y := by
  refine ⟨hk, by omega, hy, fun j hj => ?_, fun h9 => ?_⟩
  · by_cases hjk : j = k
    · subst hjk
      rw [getD_bytes s j hk]
      exact hb
    · exact h.all j (by omega)
  · have hx := h.eq (by omega)
    rw [he ?_ (.inl (by omega)), val_take s k hk, hx]
    have := val_lt (s.data.toList.take k)
    rw [hx]
    refine Nat.lt_of_lt_of_le this (Nat.pow_le_pow_right (by omega) ?_)
    simp
    omega

/-- The number is read. -/
theorem GetSt.hit {s : ByteArray} {k x y : Nat} (h : GetSt s k x) (hk : k < s.size) (h10 : k < 10) (hb : s[k].toNat < 128) (he : x < 128 ^ k → k ≤ 8 ∨ s[k].toNat ≤ 1 → y = x + s[k].toNat % 128 * 128 ^ k) :
    getR s.data.toList = if lastErr s[k] (k + 1) = 0 then (y, k + 1, 0) else (0, 0, lastErr s[k] (k + 1)) := by
  have hlen : s.data.toList.length = s.size := by simp
  rw [getR_at (by omega) h10 h.all (by rw [getD_bytes s k hk]; exact hb), getD_bytes s k hk]
  by_cases h0 : lastErr s[k] (k + 1) = 0
  · rw [if_pos h0, if_pos h0, he ?_ ?_, val_take s k hk, h.eq (by omega)]
    · rw [h.eq (by omega)]
      refine Nat.lt_of_lt_of_le (val_lt _) (Nat.pow_le_pow_right (by omega) ?_)
      simp
      omega
    · by_cases h8 : k ≤ 8
      · exact .inl h8
      · right
        unfold lastErr at h0
        by_cases hc : 1 < s[k].toNat
        · rw [if_pos ⟨by omega, hc⟩] at h0
          omega
        · omega
  · rw [if_neg h0, if_neg h0]

def getV (r : Nat × Nat × Nat) : Value := .tuple #[.int .u64 r.1, .int .i64 r.2.1, .int .i64 r.2.2]

set_option maxHeartbeats 2000000 in
set_option maxRecDepth 100000 in
theorem get_any (s : ByteArray) (hs : s.size ≤ maxLen) (w : World) :
    Calls Tryd.prog 71 #[.string s] w fun e w' => e = .returned (getV (getR s.data.toList)) ∧ w = w' := by
  unfold maxLen at hs
  have hlen : s.data.toList.length = s.size := by simp
  have Hlen := Lib.hid hlen
  clear hlen
  obtain ⟨m, hmin, hm1, hm2, hm3⟩ : ∃ m : Nat, min (s.size : Int) 10 = m ∧ m ≤ s.size ∧ m ≤ 10 ∧ (m = s.size ∨ m = 10) := ⟨min s.size 10, by omega, by omega, by omega, by omega⟩
  go_enter Tryd.func71, Tryd.ntmps71
  go_wp2_with fail
  go_loop [5, 11] (fun n i => ∃ k x : Nat, i = .int .i64 k ∧ n = .int .u64 x ∧ k ≤ m ∧ GetSt s k x) (fun _ i => 10 - (intOf i).toNat)
  case atStart => exact ⟨0, 0, rfl, rfl, by omega, by omega, by omega, by omega, fun j hj => by omega, fun _ => by simp [val]⟩
  case round =>
    obtain ⟨k, x, rfl, rfl, hkm, hst⟩ := hrel
    have hx := hst.lt
    have Hst := Lib.hid hst
    clear hst
    by_cases hlt : k < m
    · have h1 : k < s.size := by omega
      have h10 : k < 10 := by omega
      have hb := s[k].toNat_lt
      obtain ⟨y, hy, hyl, hye⟩ := step_bits x s[k].toNat k hx hb (by omega)
      have Hye := Lib.hid hye
      clear hye
      by_cases h : s[k].toNat < 128
      · have hla := last_any s[k] (k + 1) (by omega)
        have hh := Lib.hid (Hst.out.hit h1 h10 h Hye.out)
        clear Hst Hye
        by_cases h0 : lastErr s[k] (k + 1) = 0
        · rw [h0] at hla
          rw [if_pos h0] at hh
          have H0 := Lib.hid h0
          clear h0
          go_wp2_with (go_at_call 78; refine (hla _).mono ?_; rintro e w' ⟨rfl, rfl⟩)
          go_ret3
          rw [hh.out]
          exact ⟨rfl, rfl⟩
        · rw [if_neg h0] at hh
          have h3 : lastErr s[k] (k + 1) < 4 := by unfold lastErr; split <;> (try split) <;> omega
          generalize lastErr s[k] (k + 1) = E at *
          go_wp2_with (go_at_call 78; refine (hla _).mono ?_; rintro e w' ⟨rfl, rfl⟩)
          go_ret3
          rw [hh.out]
          exact ⟨rfl, rfl⟩
      · go_wp2_with fail
        go_round
        case rel => exact ⟨k + 1, y, by go_num, rfl, by omega, Hst.out.next h1 h10 (by omega) hyl Hye.out⟩
        case measure => simp [intOf]; omega
    · have hkm' : k = m := by omega
      subst hkm'
      rcases hm3 with hm3 | hm3
      · by_cases h10 : 10 ≤ s.size
        · have hh := Lib.hid (getR_long (by rw [Hlen.out]; exact h10) (fun j hj => Hst.out.all j (by omega)))
          have hk10 : k = 10 := by omega
          clear Hst hm3
          go_wp2_with fail
          go_ret3
          rw [hh.out]
          exact ⟨rfl, rfl⟩
        · have hh := Lib.hid (getR_short (by rw [Hlen.out]; omega) (fun j hj => Hst.out.all j (by rw [Hlen.out] at hj; omega)))
          clear Hst
          have hm3 := Lib.hid hm3
          go_wp2_with fail
          go_ret3
          rw [hh.out]
          exact ⟨rfl, rfl⟩
      · have hh := Lib.hid (getR_long (by rw [Hlen.out]; omega) (fun j hj => Hst.out.all j (by omega)))
        have h10 : 10 ≤ s.size := by omega
        clear Hst
        have hm3 := Lib.hid hm3
        go_wp2_with fail
        go_ret3
        rw [hh.out]
        exact ⟨rfl, rfl⟩

theorem size_any (n : Nat) (hn : n < 18446744073709551616) (w : World) :
    Calls Tryd.prog 80 #[.int .u64 n] w fun e w' => e = .returned (.int .i64 (enc n).length) ∧ w = w' := by
  have hor : n ||| 1 < 18446744073709551616 := Nat.or_lt_two_pow (n := 64) hn (by decide)
  have hb : bits .or .u64 (n : Int) 1 = ((n ||| 1 : Nat) : Int) := u64_or_nat n 1 hn (by omega)
  have hl := len_bits hn
  have h64 := Lib.bitLen_le (n ||| 1) 64 (Nat.le_refl _) hor
  have hc := fun w => Tryd.bits_Len64 ((n ||| 1 : Nat) : Int) w (by omega) (by omega)
  rw [Int.toNat_natCast] at hc
  generalize Lib.bitLen (n ||| 1) = B at *
  generalize n ||| 1 = m at *
  have Hl := Lib.hid hl
  clear hl
  go_enter Tryd.func80, Tryd.ntmps80
  go_wp2_with (go_at_call 83; refine (hc _).mono ?_; rintro e w' ⟨rfl, hw⟩; subst hw)
  go_ret
  refine ⟨ret1 (congrArg (Value.int .i64) ?_), rfl⟩
  have := Hl.out
  show ((B : Int) + 7 - 1) / 7 = _
  omega

end Go.Proofs.YtbelpcniogcfoaaDoor.vi
