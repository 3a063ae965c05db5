/-
  The document's sum of 32 bits.
-/
import Derived.Test.YtkggjokpbopjdaaCrcPut
namespace Go.Proofs.Ytkggjokpbopjdaa.crc
open Go.RowKit Go.Proofs.Ytkggjokpbopjdaa.crcm
set_option linter.unusedVariables false
set_option linter.unusedSimpArgs false

theorem rput_conv (n : Nat) (hn : n < 4294967296) (w : World) (t : TypeId) :
    (convert 42 9 (.slice (some ⟨w.heap.size, 0, none⟩) 4 4)).run Try.prog (w.alloc (.cells #[.int .u8 ((n : Int) % 256), .int .u8 ((n : Int) / 256 % 256), .int .u8 ((n : Int) / 65536 % 256), .int .u8 ((n : Int) / 16777216)] t)) =
      .ok (.string (putB n)) (w.alloc (.cells #[.int .u8 ((n : Int) % 256), .int .u8 ((n : Int) / 256 % 256), .int .u8 ((n : Int) / 65536 % 256), .int .u8 ((n : Int) / 16777216)] t)) :=
  run_convert_bytes_back (P := Try.prog) (w.alloc (.cells #[.int .u8 ((n : Int) % 256), .int .u8 ((n : Int) / 256 % 256), .int .u8 ((n : Int) / 65536 % 256), .int .u8 ((n : Int) / 16777216)] t)) 42 9 5 ⟨w.heap.size, 0, none⟩ 4 (put4 n) Try.underlying42 Try.underlying5 Try.underlying9 (fun j hj => by
    have : j = 0 ∨ j = 1 ∨ j = 2 ∨ j = 3 := by simp [put4] at hj; omega
    rcases this with rfl | rfl | rfl | rfl <;> rw [Addr.add_lit, World.cell?_alloc_at _ _ _ _ rfl] <;> simp [put4] <;> omega)

set_option maxRecDepth 100000 in
theorem rput_any (n : Nat) (hn : n < 4294967296) (w : World) :
    Calls Try.prog 55 #[.int .u32 n] w fun e w' => e = .returned (.string (putB n)) ∧ w.grownBy w' none := by
  have hcv := rput_conv n hn w 5
  go_enter Try.func55, Try.ntmps55
  go_wp2_with fail
  go_ret
  exact ⟨rfl, only_alloc (only_refl _ _) _⟩

set_option maxHeartbeats 1000000 in
set_option maxRecDepth 100000 in
theorem rsum_any (s : ByteArray) (hs : s.size ≤ maxLen) (w : World) :
    Calls Try.prog 56 #[.string s] w fun e w' => e = .returned (.int .u32 (sumN s.data.toList : Nat)) ∧ w = w' := by
  unfold maxLen at hs
  go_enter Try.func56, Try.ntmps56
  go_wp2_with fail
  go_loop [3, 4] (fun x c => ∃ i r : Nat, i ≤ s.size ∧ c = .int .i64 i ∧ x = .int .u32 r ∧ r = fold 4294967295 (s.data.toList.take i)) (fun _ c => s.size - (intOf c).toNat)
  case atStart => exact ⟨0, 4294967295, by omega, rfl, rfl, rfl⟩
  case round =>
    obtain ⟨i, r, hi, rfl, rfl, hr⟩ := hrel
    have hrl : r < 4294967296 := hr ▸ fold_lt _ (by omega)
    have HR := Lib.hid hr
    clear hr
    by_cases hlt : i < s.size
    · have hb := s[i].toNat_lt
      have hx : bits .xor .u32 (r : Int) (s[i].toNat : Int) = ((r ^^^ s[i].toNat : Nat) : Int) := u32_xor_nat _ _ hrl (by omega)
      have hxl : r ^^^ s[i].toNat < 4294967296 := Nat.xor_lt_two_pow (n := 32) hrl (by omega)
      have HF := Lib.hid (fold_take 4294967295 s i hlt)
      rw [← HR.out] at HF
      generalize hy : r ^^^ s[i].toNat = y at *
      have Hy := Lib.hid hy
      clear hy
      go_wp2_with fail
      go_loop [3, 5] (fun x c => ∃ k z : Nat, k ≤ 8 ∧ c = .int .i64 k ∧ x = .int .u32 z ∧ z = stN k y) (fun _ c => 8 - (intOf c).toNat)
      case atStart => exact ⟨0, y, by omega, rfl, rfl, rfl⟩
      case round =>
        obtain ⟨k, z, hk, rfl, rfl, hz⟩ := hrel
        have hzl : z < 4294967296 := hz ▸ stN_lt _ hxl
        have HZ := Lib.hid hz
        clear hz
        by_cases hlt2 : k < 8
        · have HN : Hid (st z = stN (k + 1) y) := by rw [HZ.out, ← stN_succ]; rfl
          by_cases hodd : z % 2 = 1
          · have hx3 : bits .xor .u32 ((z : Int) / 2) 3988292384 = ((z / 2 ^^^ 3988292384 : Nat) : Int) := u32_xor_nat (z / 2) 3988292384 (by omega) (by omega)
            have HS : Hid (st z = z / 2 ^^^ 3988292384) := if_pos hodd
            generalize z / 2 ^^^ 3988292384 = q at *
            go_wp2_with fail
            go_round
            case rel => exact ⟨k + 1, q, by omega, by go_num, rfl, by rw [← HS.out, HN.out]⟩
            case measure => simp [intOf]; omega
          · have HS : Hid (st z = z / 2) := if_neg hodd
            go_wp2_with fail
            go_round
            case rel => exact ⟨k + 1, z / 2, by omega, by go_num, rfl, by rw [← HS.out, HN.out]⟩
            case measure => simp [intOf]; omega
        · have hk2 : k = 8 := by omega
          subst hk2
          go_wp2_with fail
          go_round
          case rel => exact ⟨i + 1, z, by omega, by go_num, rfl, by rw [HF.out, HZ.out, ← stN_add]⟩
          case measure => simp [intOf]; omega
    · have hie : i = s.size := by omega
      subst hie
      have hlen : s.data.toList.take s.size = s.data.toList := List.take_of_length_le (by simp)
      rw [hlen] at HR
      have HE : Hid (4294967295 - r = sumN s.data.toList) := by rw [HR.out]; rfl
      go_wp2_with fail
      go_ret
      refine ⟨ret1 (congrArg (Value.int .u32) ?_), rfl⟩
      have := HE.out
      omega

end Go.Proofs.Ytkggjokpbopjdaa.crc
