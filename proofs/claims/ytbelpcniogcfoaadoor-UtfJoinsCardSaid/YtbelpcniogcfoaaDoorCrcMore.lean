/-
  The contracts of package crc: More, Sum.
-/
import Derived.Test.YtbelpcniogcfoaaDoorCrc
namespace Go.Proofs.YtbelpcniogcfoaaDoor.crc
open Go.RowKit Go.Proofs.YtbelpcniogcfoaaDoor.crcm
set_option linter.unusedVariables false
set_option linter.unusedSimpArgs false

def moreN (sum : Nat) (L : List UInt8) : Nat := 4294967295 - fold (4294967295 - sum) L

theorem low_xor16 (b v : Nat) (h : b < 16) : b ^^^ 16 * v = b + 16 * v := by
  have := Nat.two_pow_add_eq_or_of_lt (i := 4) h v
  have h2 : b ^^^ 16 * v = 16 * v ||| b := by
    apply Nat.eq_of_testBit_eq
    intro i
    rw [Nat.testBit_xor, Nat.testBit_or]
    rw [show (16 : Nat) = 2 ^ 4 from rfl, Nat.testBit_two_pow_mul]
    by_cases hi : 4 ≤ i
    · have : b.testBit i = false := Nat.testBit_lt_two_pow (Nat.lt_of_lt_of_le h (Nat.pow_le_pow_right (n := 2) (by omega) hi))
      simp [this]
    · simp [hi]
  rw [h2, ← this]
  omega

theorem stN4_table (r : Nat) : stN 4 r = stN 4 (r % 16) ^^^ r / 16 := by
  have h := low_xor16 (r % 16) (r / 16) (Nat.mod_lt _ (by decide))
  have h2 : r % 16 + 16 * (r / 16) = r := by omega
  rw [h2] at h
  have h3 := stN_xor 4 (r % 16) (16 * (r / 16))
  rw [h, show 16 * (r / 16) = 2 ^ 4 * (r / 16) from rfl, stN_shift] at h3
  exact h3

theorem not_u32 (n : Nat) (h : n < 4294967296) : bits .xor .u32 IntKind.u32.max (n : Int) = ((4294967295 - n : Nat) : Int) := by
  rw [show IntKind.u32.max = ((4294967295 : Nat) : Int) from rfl, u32_xor_nat _ _ (by decide) h]
  congr 1
  have := not_xor n h
  have h2 := congrArg (n ^^^ ·) this
  simp only [← Nat.xor_assoc, Nat.xor_self, Nat.zero_xor] at h2
  rw [h2, Nat.xor_comm]

theorem and_15 (r : Nat) (h : r < 4294967296) : bits .and .u32 (r : Int) 15 = ((r % 16 : Nat) : Int) := by
  have := u32_and_nat r 15 h (by decide)
  rw [show r &&& 15 = r % 16 from Nat.and_two_pow_sub_one_eq_mod r 4] at this
  exact this

theorem xor_step (r : Nat) (h : r < 4294967296) : bits .xor .u32 ((r : Int) / 16) ((stN 4 (r % 16) : Nat) : Int) = ((stN 4 r : Nat) : Int) := by
  have h1 : stN 4 (r % 16) < 4294967296 := stN_lt 4 (by omega)
  rw [show (r : Int) / 16 = ((r / 16 : Nat) : Int) from rfl, u32_xor_nat _ _ (by omega) h1, stN4_table r, Nat.xor_comm]

theorem fold_take (r : Nat) (s : ByteArray) (k : Nat) (h : k < s.size) : fold r (s.data.toList.take (k + 1)) = stN 4 (stN 4 (fold r (s.data.toList.take k) ^^^ s[k].toNat)) := by
  rw [vi.take_step s k h, fold_append, ← stN_add]
  rfl

theorem Tab.kept {w w' : World} {B : Nat} (h : Tab w B) (hB : B < w.heap.size) (g : w.grownBy w' none) : Tab w' B := fun j hj => g.cell (h j hj) (by simp)

set_option maxHeartbeats 1000000 in
set_option maxRecDepth 100000 in
theorem more_any (sum : Nat) (hsum : sum < 4294967296) (s : ByteArray) (hs : s.size ≤ maxLen) (w : World) :
    Calls Tryd.prog 81 #[.int .u32 sum, .string s] w fun e w' => e = .returned (.int .u32 (moreN sum s.data.toList : Nat)) ∧ w.grownBy w' none := by
  unfold maxLen at hs
  have hsg : IntKind.u32.signed = false := rfl
  have hnot := not_u32 sum hsum
  go_enter Tryd.func81, Tryd.ntmps81
  go_wp2_with (go_at_call 84; refine (sums_all _).mono ?_; rintro e w1 ⟨rfl, g1⟩)
  have hT := tab_new w1 114
  have hG := only_alloc g1 (.cells #[.int .u32 (tn 16 0 : Nat), .int .u32 (tn 16 1 : Nat), .int .u32 (tn 16 2 : Nat), .int .u32 (tn 16 3 : Nat), .int .u32 (tn 16 4 : Nat), .int .u32 (tn 16 5 : Nat), .int .u32 (tn 16 6 : Nat), .int .u32 (tn 16 7 : Nat), .int .u32 (tn 16 8 : Nat), .int .u32 (tn 16 9 : Nat), .int .u32 (tn 16 10 : Nat), .int .u32 (tn 16 11 : Nat), .int .u32 (tn 16 12 : Nat), .int .u32 (tn 16 13 : Nat), .int .u32 (tn 16 14 : Nat), .int .u32 (tn 16 15 : Nat)] 114)
  generalize w1.alloc (.cells #[.int .u32 (tn 16 0 : Nat), .int .u32 (tn 16 1 : Nat), .int .u32 (tn 16 2 : Nat), .int .u32 (tn 16 3 : Nat), .int .u32 (tn 16 4 : Nat), .int .u32 (tn 16 5 : Nat), .int .u32 (tn 16 6 : Nat), .int .u32 (tn 16 7 : Nat), .int .u32 (tn 16 8 : Nat), .int .u32 (tn 16 9 : Nat), .int .u32 (tn 16 10 : Nat), .int .u32 (tn 16 11 : Nat), .int .u32 (tn 16 12 : Nat), .int .u32 (tn 16 13 : Nat), .int .u32 (tn 16 14 : Nat), .int .u32 (tn 16 15 : Nat)] 114) = wt at *
  generalize w1.heap.size = B at *
  have HT := Lib.hid hT
  have HG := Lib.hid hG
  clear hT hG g1
  go_loopw [6, 13] (fun x c wr => ∃ i r : Nat, i ≤ s.size ∧ c = .int .i64 i ∧ x = .int .u32 r ∧ r = fold (4294967295 - sum) (s.data.toList.take i) ∧ Tab wr B ∧ w.grownBy wr none) (fun _ c _ => s.size - (intOf c).toNat)
  case atStart => exact ⟨0, 4294967295 - sum, by omega, rfl, rfl, rfl, HT.out, HG.out⟩
  case round =>
    obtain ⟨i, r, hi, rfl, rfl, hr, hT, hg⟩ := hrel
    have hrl : r < 4294967296 := hr ▸ fold_lt _ (by omega)
    have HT2 := Lib.hid hT
    have HG2 := Lib.hid hg
    have HR := Lib.hid hr
    clear hT hg hr
    by_cases hlt : i < s.size
    · have hb := s[i].toNat_lt
      have hx : bits .xor .u32 (r : Int) (s[i].toNat : Int) = ((r ^^^ s[i].toNat : Nat) : Int) := u32_xor_nat _ _ hrl (by omega)
      have hxl : r ^^^ s[i].toNat < 4294967296 := Nat.xor_lt_two_pow (n := 32) hrl (by omega)
      have HF := Lib.hid (fold_take (4294967295 - sum) s i hlt)
      rw [← HR.out] at HF
      generalize hy : r ^^^ s[i].toNat = y at *
      have Hy := Lib.hid hy
      clear hy
      go_wp2_with fail
      go_loopw [6, 22] (fun x c wq => ∃ k z : Nat, k ≤ 2 ∧ c = .int .i64 k ∧ x = .int .u32 z ∧ z = stN (4 * k) y ∧ wq = wr) (fun _ c _ => 2 - (intOf c).toNat)
      case atStart => exact ⟨0, y, by omega, rfl, rfl, rfl, rfl⟩
      case round =>
        obtain ⟨k, z, hk, rfl, rfl, hz, rfl⟩ := hrel
        have hzl : z < 4294967296 := hz ▸ stN_lt _ hxl
        have HZ := Lib.hid hz
        clear hz
        by_cases hlt2 : k < 2
        · have hc := HT2.out (z % 16) (Nat.mod_lt _ (by decide))
          have ha := and_15 z hzl
          have hx2 := xor_step z hzl
          have hm : z % 16 < 16 := Nat.mod_lt _ (by decide)
          have HN : Hid (stN 4 z = stN (4 * (k + 1)) y) := by rw [HZ.out, ← stN_add]; rfl
          generalize hq : stN 4 z = q at *
          clear hq
          generalize hv : stN 4 (z % 16) = v at *
          clear hv
          generalize hm' : z % 16 = m at *
          clear hm'
          go_wp2_with fail
          go_roundw
          case rel => exact ⟨k + 1, q, by omega, by go_num, rfl, HN.out, by first | rfl | trivial⟩
          case measure => simp [intOf]; omega
        · have hk2 : k = 2 := by omega
          subst hk2
          go_wp2_with fail
          go_roundw
          case rel => exact ⟨i + 1, z, by omega, by go_num, rfl, by rw [HF.out, HZ.out, ← stN_add], HT2.out, HG2.out⟩
          case measure => simp [intOf]; omega
    · have hie : i = s.size := by omega
      subst hie
      have hn2 := not_u32 r hrl
      have hlen : s.data.toList.take s.size = s.data.toList := List.take_of_length_le (by simp)
      rw [hlen] at HR
      have HE : Hid (4294967295 - r = moreN sum s.data.toList) := by rw [HR.out]; rfl
      generalize hE : 4294967295 - r = E at *
      clear hE
      go_wp2_with fail
      go_ret
      have hE := HE.out
      subst hE
      exact ⟨rfl, HG2.out⟩

theorem sumN_eq (L : List UInt8) : moreN 0 L = sumN L := rfl
theorem moreN_nil : moreN 0 [] = 0 := by simp [moreN, fold]
theorem moreN_lt (sum : Nat) (L : List UInt8) : moreN sum L < 4294967296 := by unfold moreN; omega
theorem moreN_append (sum : Nat) (hs : sum < 4294967296) (L M : List UInt8) : moreN (moreN sum L) M = moreN sum (L ++ M) := by
  have : fold (4294967295 - sum) L < 4294967296 := fold_lt L (by omega)
  unfold moreN
  rw [fold_append, show 4294967295 - (4294967295 - fold (4294967295 - sum) L) = fold (4294967295 - sum) L by omega]

end Go.Proofs.YtbelpcniogcfoaaDoor.crc
