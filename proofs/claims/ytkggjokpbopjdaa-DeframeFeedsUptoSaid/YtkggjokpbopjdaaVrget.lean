/-
  The document's Get.
-/
import Derived.Test.YtkggjokpbopjdaaVarint
namespace Go.Proofs.Ytkggjokpbopjdaa.vi
open Go.RowKit Go.Proofs.Ytkggjokpbopjdaa.cur
set_option linter.unusedVariables false

/-- Where the last byte is sought: not found up to i, or found at the byte before i. -/
inductive Seek (s : ByteArray) : Nat → Nat → Prop
  | no (i : Nat) (h1 : i ≤ s.size) (h2 : i ≤ 10) (h3 : ∀ j, j < i → 128 ≤ (s.data.toList.getD j 0).toNat) : Seek s i 0
  | yes (k : Nat) (h1 : k < s.size) (h2 : k < 10) (h3 : ∀ j, j < k → 128 ≤ (s.data.toList.getD j 0).toNat) (h4 : (s[k]'h1).toNat < 128) : Seek s (k + 1) (k + 1)

theorem acc_step (s : ByteArray) (j : Nat) (hj : j < s.size) (h9 : j ≤ 9) (hb : j = 9 → s[j].toNat ≤ 1) :
    IntKind.u64.wrap ((val (s.data.toList.take j) : Int) + IntKind.u64.wrap ((s[j].toNat : Int) % 128 * ((128 ^ j % 18446744073709551616 : Nat) : Int))) = (val (s.data.toList.take (j + 1)) : Int) ∧
    IntKind.u64.wrap (((128 ^ j % 18446744073709551616 : Nat) : Int) * 128) = ((128 ^ (j + 1) % 18446744073709551616 : Nat) : Int) ∧ val (s.data.toList.take (j + 1)) < 18446744073709551616 := by
  have hp9 : 128 ^ j ≤ 128 ^ 9 := Nat.pow_le_pow_right (by omega) h9
  have hU : 128 ^ j % 18446744073709551616 = 128 ^ j := Nat.mod_eq_of_lt (by omega)
  have hX : val (s.data.toList.take j) < 128 ^ j := by
    refine Nat.lt_of_lt_of_le (val_lt _) (Nat.pow_le_pow_right (by omega) ?_)
    simp
    omega
  have hv := val_take s j hj
  have hm : s[j].toNat % 128 * 128 ^ j ≤ 9223372036854775808 := by
    by_cases h8 : j ≤ 8
    · have h1 : 128 ^ j ≤ 128 ^ 8 := Nat.pow_le_pow_right (by omega) h8
      have h2 : s[j].toNat % 128 * 128 ^ j ≤ 127 * 128 ^ 8 := Nat.mul_le_mul (by omega) h1
      omega
    · have h1 := hb (by omega)
      have h2 : s[j].toNat % 128 * 128 ^ j ≤ 1 * 128 ^ 9 := Nat.mul_le_mul (by omega) hp9
      omega
  have e1 : (s[j].toNat : Int) % 128 * ((128 ^ j % 18446744073709551616 : Nat) : Int) = ((s[j].toNat % 128 * 128 ^ j : Nat) : Int) := by
    rw [hU, Int.natCast_mul]; rfl
  have hp : 128 ^ (j + 1) = 128 ^ j * 128 := Nat.pow_succ ..
  generalize 128 ^ j = p at *
  generalize s[j].toNat % 128 * p = q at *
  generalize val (s.data.toList.take j) = X at *
  generalize val (s.data.toList.take (j + 1)) = Y at *
  refine ⟨?_, ?_, by omega⟩
  · rw [e1, IntKind.wrap_u64, IntKind.wrap_u64]
    omega
  · rw [hU, IntKind.wrap_u64, hp]
    omega

set_option maxHeartbeats 4000000 in
set_option maxRecDepth 100000 in
theorem rget_any (s : ByteArray) (hs : s.size ≤ maxLen) (w : World) :
    Calls Try.prog 38 #[.string s] w fun e w' => e = .returned (getV (getR s.data.toList)) ∧ w = w' := by
  unfold maxLen at hs
  have Hlen := Lib.hid (show s.data.toList.length = s.size by simp)
  go_enter Try.func38, Try.ntmps38
  go_wp2_with fail
  go_loop [5, 6] (fun z c => ∃ i size : Nat, c = .int .i64 i ∧ z = .int .i64 size ∧ Seek s i size) (fun z c => (10 - (intOf c).toNat))
  case atStart => exact ⟨0, 0, rfl, rfl, .no 0 (by omega) (by omega) (by omega)⟩
  case round =>
    obtain ⟨i, size, rfl, rfl, hst⟩ := hrel
    have Hst := Lib.hid hst
    cases hst with
    | no _ h1 h2 h3 =>
      have H3 := Lib.hid h3
      clear h3
      by_cases hlt : i < s.size ∧ i < 10
      · obtain ⟨hl1, hl2⟩ := hlt
        have hb := s[i].toNat_lt
        by_cases hlow : s[i].toNat < 128
        · go_wp2_with fail
          go_round
          case rel => exact ⟨i + 1, i + 1, by go_num, by go_num, .yes i hl1 hl2 H3.out hlow⟩
          case measure => simp [intOf]; omega
        · go_wp2_with fail
          go_round
          case rel => 
            refine ⟨i + 1, 0, by go_num, by go_num, .no (i + 1) (by omega) (by omega) (fun j hj => ?_)⟩
            by_cases hji : j = i
            · subst hji; rw [getD_bytes s j hl1]; omega
            · exact H3.out j (by omega)
          case measure => simp [intOf]; omega
      · by_cases h10 : 10 ≤ s.size
        · have hi10 : i = 10 := by omega
          have hh := Lib.hid (getR_long (L := s.data.toList) (by rw [Hlen.out]; exact h10) (fun j hj => H3.out j (by omega)))
          go_wp2_with fail
          all_goals
            go_ret3
            rw [hh.out]
            exact ⟨rfl, rfl⟩
        · have hh := Lib.hid (getR_short (L := s.data.toList) (by rw [Hlen.out]; omega) (fun j hj => H3.out j (by rw [Hlen.out] at hj; omega)))
          have hie : ¬ i < s.size := by omega
          go_wp2_with fail
          all_goals
            go_ret3
            rw [hh.out]
            exact ⟨rfl, rfl⟩
    | yes k h1 h2 h3 h4 =>
      have H3 := Lib.hid h3
      clear h3
      have hb := s[k].toNat_lt
      have hh := Lib.hid (getR_at (L := s.data.toList) (by rw [Hlen.out]; exact h1) h2 H3.out (by rw [getD_bytes s k h1]; exact h4))
      rw [getD_bytes s k h1] at hh
      by_cases e1 : k = 9 ∧ 1 < s[k].toNat
      · obtain ⟨rfl, hgt⟩ := e1
        rw [show lastErr s[9] (9 + 1) = 3 from if_pos ⟨rfl, hgt⟩] at hh
        go_wp2_with fail
        all_goals
          go_ret3
          rw [hh.out]
          exact ⟨rfl, rfl⟩
      · by_cases e2 : 0 < k ∧ s[k].toNat = 0
        · obtain ⟨hp, hz⟩ := e2
          rw [show lastErr s[k] (k + 1) = 2 by unfold lastErr; rw [if_neg (by omega), if_pos (by omega)]] at hh
          by_cases h9 : k = 9
          · subst h9
            go_wp2_with fail
            all_goals
              go_ret3
              rw [hh.out]
              exact ⟨rfl, rfl⟩
          · go_wp2_with fail
            all_goals
              go_ret3
              rw [hh.out]
              exact ⟨rfl, rfl⟩
        · rw [show lastErr s[k] (k + 1) = 0 by unfold lastErr; rw [if_neg (by omega), if_neg (by omega)]] at hh
          by_cases h9 : k = 9
          · subst h9
            have hle : s[9].toNat ≤ 1 := by omega
            have hne : s[9].toNat ≠ 0 := by omega
            clear e1 e2
            go_wp2_with fail
            all_goals
              go_loop [7, 8, 9] (fun x u c => ∃ j X U : Nat, j ≤ 10 ∧ c = .int .i64 j ∧ x = .int .u64 X ∧ u = .int .u64 U ∧ X < 18446744073709551616 ∧ X = val (s.data.toList.take j) ∧ U = 128 ^ j % 18446744073709551616) (fun _ _ c => 10 - (intOf c).toNat)
              case atStart => exact ⟨0, 0, 1, by omega, rfl, rfl, rfl, by omega, by simp [val], by simp⟩
              case round =>
                obtain ⟨j, X, U, hj, rfl, rfl, rfl, hX, hXe, hUe⟩ := hrel
                by_cases hjk : j < 10
                · have hjs : j < s.size := by omega
                  have hbj := s[j].toNat_lt
                  have hstep := acc_step s j hjs (by omega) (fun h => by subst h; exact hle)
                  rw [← hXe, ← hUe] at hstep
                  obtain ⟨s1, s2, s3⟩ := hstep
                  have S1 := Lib.hid s1
                  have S2 := Lib.hid s2
                  clear hXe hUe s1 s2
                  go_wp2_with fail
                  go_round
                  case rel => exact ⟨j + 1, _, _, by omega, by go_num, congrArg _ S1.out, congrArg _ S2.out, s3, rfl, rfl⟩
                  case measure => simp [intOf]; omega
                · have hje : j = 10 := by omega
                  have HX := Lib.hid hXe
                  clear hXe hUe
                  subst hje
                  go_wp2_with fail
                  go_ret3
                  rw [hh.out, HX.out]
                  exact ⟨rfl, rfl⟩
          · clear e1
            go_wp2_with fail
            all_goals
              go_loop [7, 8, 9] (fun x u c => ∃ j X U : Nat, j ≤ k + 1 ∧ c = .int .i64 j ∧ x = .int .u64 X ∧ u = .int .u64 U ∧ X < 18446744073709551616 ∧ X = val (s.data.toList.take j) ∧ U = 128 ^ j % 18446744073709551616) (fun _ _ c => k + 1 - (intOf c).toNat)
              case atStart => exact ⟨0, 0, 1, by omega, rfl, rfl, rfl, by omega, by simp [val], by simp⟩
              case round =>
                obtain ⟨j, X, U, hj, rfl, rfl, rfl, hX, hXe, hUe⟩ := hrel
                by_cases hjk : j < k + 1
                · have hjs : j < s.size := by omega
                  have hbj := s[j].toNat_lt
                  have hstep := acc_step s j hjs (by omega) (fun h => by omega)
                  rw [← hXe, ← hUe] at hstep
                  obtain ⟨s1, s2, s3⟩ := hstep
                  have S1 := Lib.hid s1
                  have S2 := Lib.hid s2
                  clear hXe hUe s1 s2
                  go_wp2_with fail
                  go_round
                  case rel => exact ⟨j + 1, _, _, by omega, by go_num, congrArg _ S1.out, congrArg _ S2.out, s3, rfl, rfl⟩
                  case measure => simp [intOf]; omega
                · have hje : j = k + 1 := by omega
                  have HX := Lib.hid hXe
                  clear hXe hUe
                  subst hje
                  go_wp2_with fail
                  go_ret3
                  rw [hh.out, HX.out]
                  exact ⟨rfl, rfl⟩

end Go.Proofs.Ytkggjokpbopjdaa.vi
