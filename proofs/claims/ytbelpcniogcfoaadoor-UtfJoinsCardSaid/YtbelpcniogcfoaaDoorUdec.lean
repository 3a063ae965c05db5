/-
  Layer 7's plain mathematics held against the library's own decoder, which is the model's: good, and how many code points.
-/
import Derived.Test.YtbelpcniogcfoaaDoorUmath
import Derived.Lib.ValidU
import Derived.Lib.TrimUEq
import Derived.Lib.RuneCount
import Derived.Lib.MapLaws
namespace Go.Proofs.YtbelpcniogcfoaaDoor.um
open Go.Lib
set_option linter.unusedVariables false
set_option linter.unusedSimpArgs false

theorem conts_one (L : List UInt8) : conts L 1 ↔ (128 ≤ byt L 1 ∧ byt L 1 < 192) :=
  ⟨fun h => h 0 (by omega), fun h i hi => by obtain rfl : i = 0 := by omega
                                             exact h⟩
theorem conts_two (L : List UInt8) : conts L 2 ↔ ((128 ≤ byt L 1 ∧ byt L 1 < 192) ∧ (128 ≤ byt L 2 ∧ byt L 2 < 192)) :=
  ⟨fun h => ⟨h 0 (by omega), h 1 (by omega)⟩, fun h i hi => by
    rcases (show i = 0 ∨ i = 1 by omega) with rfl | rfl
    · exact h.1
    · exact h.2⟩
theorem conts_three (L : List UInt8) : conts L 3 ↔ ((128 ≤ byt L 1 ∧ byt L 1 < 192) ∧ (128 ≤ byt L 2 ∧ byt L 2 < 192) ∧ (128 ≤ byt L 3 ∧ byt L 3 < 192)) :=
  ⟨fun h => ⟨h 0 (by omega), h 1 (by omega), h 2 (by omega)⟩, fun h i hi => by
    rcases (show i = 0 ∨ i = 1 ∨ i = 2 by omega) with rfl | rfl | rfl
    · exact h.1
    · exact h.2.1
    · exact h.2.2⟩

/-- What the decoder says of a step, as layer 7 has it. -/
def stepN (d : Nat × Nat) : Nat := if d.1 = 65533 ∧ d.2 = 1 then 0 else d.2

theorem accN1 (L : List UInt8) (n : Nat) : accN L n 1 = 64 * n + (byt L 1 - 128) := rfl
theorem accN2 (L : List UInt8) (n : Nat) : accN L n 2 = 64 * (64 * n + (byt L 1 - 128)) + (byt L 2 - 128) := rfl
theorem accN3 (L : List UInt8) (n : Nat) : accN L n 3 = 64 * (64 * (64 * n + (byt L 1 - 128)) + (byt L 2 - 128)) + (byt L 3 - 128) := rfl

theorem firstR_dec (L : List UInt8) (hL : L ≠ []) : firstR L = stepN (decodeL L) := by
  have hn : 1 ≤ L.length := List.length_pos_iff.2 hL
  have b0 : byt L 0 < 256 := UInt8.toNat_lt _
  have b1 : byt L 1 < 256 := UInt8.toNat_lt _
  have b2 : byt L 2 < 256 := UInt8.toNat_lt _
  have b3 : byt L 3 < 256 := UInt8.toNat_lt _
  rw [decodeL_N]
  show firstR L = stepN (decodeN L.length (byt L 0) (byt L 1) (byt L 2) (byt L 3))
  unfold firstR mulR stepN decodeN outN
  rw [if_neg (show ¬ L.length = 0 by omega)]
  simp only [show (2 - 1 : Nat) = 1 from rfl, show (3 - 1 : Nat) = 2 from rfl, show (4 - 1 : Nat) = 3 from rfl, conts_one, conts_two, conts_three, accN1, accN2, accN3]
  generalize L.length = n at *
  generalize byt L 0 = x at *
  generalize byt L 1 = y at *
  generalize byt L 2 = z at *
  generalize byt L 3 = u at *
  by_cases h0 : x < 128
  · rw [if_pos h0, if_pos h0]; simp <;> omega
  rw [if_neg h0, if_neg h0]
  by_cases h1 : 192 ≤ x ∧ x < 224
  · rw [if_pos h1]
    by_cases c : 1 < n ∧ y / 64 = 2
    · rw [if_pos (show x / 32 = 6 ∧ (1 < n ∧ y / 64 = 2) from ⟨by omega, c⟩), if_neg (show ¬ n < 2 by omega), if_pos (show 128 ≤ y ∧ y < 192 by omega)]
      repeat' split
      all_goals first | rfl | omega | (exfalso; simp at * <;> omega) | (simp at * <;> omega)
    · rw [if_neg (show ¬ (x / 32 = 6 ∧ (1 < n ∧ y / 64 = 2)) by omega), if_neg (show ¬ (x / 16 = 14 ∧ (1 < n ∧ y / 64 = 2) ∧ (2 < n ∧ z / 64 = 2)) by omega), if_neg (show ¬ (x / 8 = 30 ∧ (1 < n ∧ y / 64 = 2) ∧ (2 < n ∧ z / 64 = 2) ∧ (3 < n ∧ u / 64 = 2)) by omega)]
      repeat' split
      all_goals first | rfl | omega | (exfalso; simp at * <;> omega) | (simp at * <;> omega)
  rw [if_neg h1, if_neg (show ¬ (x / 32 = 6 ∧ (1 < n ∧ y / 64 = 2)) by omega)]
  by_cases h2 : 224 ≤ x ∧ x < 240
  · rw [if_pos h2]
    by_cases c : (1 < n ∧ y / 64 = 2) ∧ (2 < n ∧ z / 64 = 2)
    · rw [if_pos (show x / 16 = 14 ∧ (1 < n ∧ y / 64 = 2) ∧ (2 < n ∧ z / 64 = 2) from ⟨by omega, c⟩), if_neg (show ¬ n < 3 by omega), if_pos (show (128 ≤ y ∧ y < 192) ∧ (128 ≤ z ∧ z < 192) by omega)]
      have e : 64 * (64 * (x - 224) + (y - 128)) + (z - 128) = x % 16 * 4096 + y % 64 * 64 + z % 64 := by omega
      rw [e]
      generalize x % 16 * 4096 + y % 64 * 64 + z % 64 = v
      repeat' split
      all_goals first | rfl | omega | (exfalso; simp at * <;> omega) | (simp at * <;> omega)
    · rw [if_neg (show ¬ (x / 16 = 14 ∧ (1 < n ∧ y / 64 = 2) ∧ (2 < n ∧ z / 64 = 2)) from fun h => c h.2), if_neg (show ¬ (x / 8 = 30 ∧ (1 < n ∧ y / 64 = 2) ∧ (2 < n ∧ z / 64 = 2) ∧ (3 < n ∧ u / 64 = 2)) by omega)]
      repeat' split
      all_goals first | rfl | omega | (exfalso; simp at * <;> omega) | (simp at * <;> omega)
  rw [if_neg h2, if_neg (show ¬ (x / 16 = 14 ∧ (1 < n ∧ y / 64 = 2) ∧ (2 < n ∧ z / 64 = 2)) by omega)]
  by_cases h3 : 240 ≤ x ∧ x < 248
  · rw [if_pos h3]
    by_cases c : (1 < n ∧ y / 64 = 2) ∧ (2 < n ∧ z / 64 = 2) ∧ (3 < n ∧ u / 64 = 2)
    · rw [if_pos (show x / 8 = 30 ∧ (1 < n ∧ y / 64 = 2) ∧ (2 < n ∧ z / 64 = 2) ∧ (3 < n ∧ u / 64 = 2) from ⟨by omega, c⟩), if_neg (show ¬ n < 4 by omega), if_pos (show (128 ≤ y ∧ y < 192) ∧ (128 ≤ z ∧ z < 192) ∧ (128 ≤ u ∧ u < 192) by omega)]
      have e : 64 * (64 * (64 * (x - 240) + (y - 128)) + (z - 128)) + (u - 128) = x % 8 * 262144 + y % 64 * 4096 + z % 64 * 64 + u % 64 := by omega
      rw [e]
      generalize x % 8 * 262144 + y % 64 * 4096 + z % 64 * 64 + u % 64 = v
      repeat' split
      all_goals first | rfl | omega | (exfalso; simp at * <;> omega) | (simp at * <;> omega)
    · rw [if_neg (show ¬ (x / 8 = 30 ∧ (1 < n ∧ y / 64 = 2) ∧ (2 < n ∧ z / 64 = 2) ∧ (3 < n ∧ u / 64 = 2)) from fun h => c h.2)]
      repeat' split
      all_goals first | rfl | omega | (exfalso; simp at * <;> omega) | (simp at * <;> omega)
  rw [if_neg h3, if_neg (show ¬ (x / 8 = 30 ∧ (1 < n ∧ y / 64 = 2) ∧ (2 < n ∧ z / 64 = 2) ∧ (3 < n ∧ u / 64 = 2)) by omega)]
  simp

/-- Good is what the library's ValidString says. -/
theorem validGo_good : ∀ (n : Nat) (L : List UInt8), L.length ≤ n → validGoD n L = goodR L := by
  intro n
  induction n with
  | zero =>
    intro L h
    obtain rfl : L = [] := List.length_eq_zero_iff.1 (by omega)
    rw [goodR_nil]; rfl
  | succ n ih =>
    intro L h
    unfold validGoD
    by_cases hL : L = []
    · rw [if_pos hL, hL, goodR_nil]
    · rw [if_neg hL]
      have hd := firstR_dec L hL
      have hw := decodeL_width L
      have hn : 1 ≤ L.length := List.length_pos_iff.2 hL
      unfold stepN at hd
      by_cases hb : (decodeL L).1 = 65533 ∧ (decodeL L).2 = 1
      · rw [if_pos hb] at hd
        rw [if_pos hb, goodR_bad hL hd]
      · rw [if_neg hb] at hd
        rw [if_neg hb, goodR_step hL (by omega), hd]
        exact ih _ (by rw [List.length_drop]; omega)

theorem valid_good (L : List UInt8) : validD L = goodR L := validGo_good _ L (Nat.le_refl _)

/-- How many code points is what the library's RuneCountInString says. -/
theorem runes_count (s : ByteArray) : ∀ (n pos : Nat), s.size - pos ≤ n → runeCountFrom s n pos = countR (s.data.toList.drop pos) := by
  intro n
  induction n with
  | zero =>
    intro pos h
    rw [show s.data.toList.drop pos = [] from List.drop_eq_nil_of_le (by simpa using (show s.size ≤ pos by omega)), countR_nil]
    rfl
  | succ n ih =>
    intro pos h
    unfold runeCountFrom
    by_cases hp : pos < s.size
    · have hlen : (s.data.toList.drop pos).length = s.size - pos := by rw [List.length_drop]; rfl
      have hL : s.data.toList.drop pos ≠ [] := by
        intro h0; rw [h0] at hlen; simp at hlen; omega
      rw [if_pos hp, countR_step hL, ← decodeL_drop]
      have hd := firstR_dec _ hL
      have hw := decodeL_width (s.data.toList.drop pos)
      have hm : max 1 (firstR (s.data.toList.drop pos)) = (decodeL (s.data.toList.drop pos)).2 := by
        unfold stepN at hd
        split at hd <;> omega
      rw [hm, List.drop_drop, ih _ (by omega)]
    · rw [if_neg hp, show s.data.toList.drop pos = [] from List.drop_eq_nil_of_le (by simpa using (show s.size ≤ pos by omega)), countR_nil]

theorem count_runes (s : ByteArray) : runeCount s = countR s.data.toList := by
  have := runes_count s s.size 0 (by omega)
  simpa [runeCount] using this

end Go.Proofs.YtbelpcniogcfoaaDoor.um
