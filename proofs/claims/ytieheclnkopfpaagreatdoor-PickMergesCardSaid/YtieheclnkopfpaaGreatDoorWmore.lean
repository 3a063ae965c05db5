/-
  One field's reading in two steps: its first number, and what is behind it.
-/
import Derived.Test.YtieheclnkopfpaaGreatDoorWfew
namespace Go.Proofs.YtieheclnkopfpaaGreatDoor.wm
open Go.RowKit Go.Proofs.YtieheclnkopfpaaGreatDoor.tr Go.Proofs.YtieheclnkopfpaaGreatDoor.vi
set_option linter.unusedVariables false
set_option linter.unusedSimpArgs false

/-- What is read behind a field's first number: a number, bytes, fields; how many bytes that are; the error. -/
structure Body where
  num : Nat
  text : List UInt8
  list : List Tree
  len : Nat
  err : Nat

/-- Behind a List's length: its bytes, how many bytes that are with the length's own. -/
def bodyL (sub : Option (List UInt8 → List Tree × Nat)) (T : List UInt8) (j : Nat) : Body :=
  match sub with
  | none => ⟨0, [], [], 0, 9⟩
  | some p => if (p T).2 ≠ 0 then ⟨0, [], [], 0, (p T).2⟩ else ⟨0, [], (p T).1, j, 0⟩

def bodyW (sub : Option (List UInt8 → List Tree × Nat)) (y : Nat) (R : List UInt8) : Body :=
  if (getR R).2.2 ≠ 0 then ⟨0, [], [], 0, (getR R).2.2⟩
  else if y = 0 then ⟨(getR R).1, [], [], (getR R).2.1, 0⟩
  else if R.length - (getR R).2.1 < (getR R).1 then ⟨0, [], [], 0, 1⟩
  else if y = 1 then ⟨0, (R.drop (getR R).2.1).take (getR R).1, [], (getR R).2.1 + (getR R).1, 0⟩
  else bodyL sub ((R.drop (getR R).2.1).take (getR R).1) ((getR R).2.1 + (getR R).1)

/-- May a field of such a first number stand behind that tag? -/
def headE (n last : Nat) : Nat := if n / 4 = 0 ∨ 4294967296 < n / 4 then 18 else if n % 4 = 3 then 8 else if n / 4 ≤ last then 7 else 0

theorem one_split (sub : Option (List UInt8 → List Tree × Nat)) (L : List UInt8) (last : Nat) {P : Tree × Nat × Nat → Prop}
    (c1 : (getR L).2.2 ≠ 0 → P (zeroT, 0, (getR L).2.2))
    (c2 : ∀ n k, getR L = (n, k, 0) → 0 < k → k ≤ L.length → n < 18446744073709551616 → headE n last ≠ 0 → P (zeroT, 0, headE n last))
    (c3 : ∀ n k, getR L = (n, k, 0) → 0 < k → k ≤ L.length → n < 18446744073709551616 → headE n last = 0 → (bodyW sub (n % 4) (L.drop k)).err ≠ 0 → P (zeroT, 0, (bodyW sub (n % 4) (L.drop k)).err))
    (c4 : ∀ n k, getR L = (n, k, 0) → 0 < k → k ≤ L.length → n < 18446744073709551616 → headE n last = 0 → (bodyW sub (n % 4) (L.drop k)).err = 0 →
      P (.mk (n / 4) ((n % 4 : Nat) : Int) (bodyW sub (n % 4) (L.drop k)).num (txt (bodyW sub (n % 4) (L.drop k)).text) (bodyW sub (n % 4) (L.drop k)).list, k + (bodyW sub (n % 4) (L.drop k)).len, 0)) :
    P (oneW sub L last) := by
  have b1 := getR_bounds L
  unfold oneW
  by_cases h1 : (getR L).2.2 ≠ 0
  · rw [if_pos h1]; exact c1 h1
  rw [if_neg h1]
  obtain ⟨n, k, e0, hg⟩ : ∃ n k e, getR L = (n, k, e) := ⟨_, _, _, rfl⟩
  rw [hg] at b1 h1 ⊢
  simp only at b1 h1 ⊢
  obtain rfl : e0 = 0 := by omega
  have b2 := getR_bounds (L.drop k)
  have d2 := c2 n k hg (b1.2.2.2.2 rfl) b1.2.1 b1.1
  have d3 := c3 n k hg (b1.2.2.2.2 rfl) b1.2.1 b1.1
  have d4 := c4 n k hg (b1.2.2.2.2 rfl) b1.2.1 b1.1
  clear c1 c2 c3 c4
  by_cases h2 : n / 4 = 0 ∨ 4294967296 < n / 4
  · rw [if_pos h2]; have he : headE n last = 18 := by unfold headE; rw [if_pos h2]
    rw [he] at d2; exact d2 (by omega)
  rw [if_neg h2]
  by_cases h3 : n % 4 = 3
  · rw [if_pos h3]; have he : headE n last = 8 := by unfold headE; rw [if_neg h2, if_pos h3]
    rw [he] at d2; exact d2 (by omega)
  rw [if_neg h3]
  by_cases h4 : n / 4 ≤ last
  · rw [if_pos h4]; have he : headE n last = 7 := by unfold headE; rw [if_neg h2, if_neg h3, if_pos h4]
    rw [he] at d2; exact d2 (by omega)
  rw [if_neg h4]
  have he : headE n last = 0 := by unfold headE; rw [if_neg h2, if_neg h3, if_neg h4]
  replace d3 := d3 he
  replace d4 := d4 he
  by_cases h5 : (getR (L.drop k)).2.2 ≠ 0
  · rw [if_pos h5]
    have hb : bodyW sub (n % 4) (L.drop k) = ⟨0, [], [], 0, (getR (L.drop k)).2.2⟩ := by unfold bodyW; rw [if_pos h5]
    rw [hb] at d3; exact d3 h5
  rw [if_neg h5]
  by_cases h6 : n % 4 = 0
  · rw [if_pos h6]
    have hb : bodyW sub (n % 4) (L.drop k) = ⟨(getR (L.drop k)).1, [], [], (getR (L.drop k)).2.1, 0⟩ := by unfold bodyW; rw [if_neg h5, if_pos h6]
    rw [hb, h6] at d4; exact d4 rfl
  rw [if_neg h6]
  rw [List.length_drop] at b2
  have hle := b2.2.1
  by_cases h7 : L.length - (k + (getR (L.drop k)).2.1) < (getR (L.drop k)).1
  · rw [if_pos h7]
    have hb : bodyW sub (n % 4) (L.drop k) = ⟨0, [], [], 0, 1⟩ := by unfold bodyW; rw [if_neg h5, if_neg h6, if_pos (by rw [List.length_drop]; omega)]
    rw [hb] at d3; exact d3 (by simp)
  rw [if_neg h7]
  have h7' : ¬ (L.drop k).length - (getR (L.drop k)).2.1 < (getR (L.drop k)).1 := by rw [List.length_drop]; omega
  have hdd : ((L.drop k).drop (getR (L.drop k)).2.1).take (getR (L.drop k)).1 = (L.drop (k + (getR (L.drop k)).2.1)).take (getR (L.drop k)).1 := by rw [List.drop_drop]
  by_cases h8 : n % 4 = 1
  · rw [if_pos h8]
    have hb : bodyW sub (n % 4) (L.drop k) = ⟨0, (L.drop (k + (getR (L.drop k)).2.1)).take (getR (L.drop k)).1, [], (getR (L.drop k)).2.1 + (getR (L.drop k)).1, 0⟩ := by unfold bodyW; rw [if_neg h5, if_neg h6, if_neg h7', if_pos h8, hdd]
    rw [hb, h8] at d4
    rw [Nat.add_assoc]; exact d4 rfl
  rw [if_neg h8]
  have h9 : n % 4 = 2 := by omega
  cases sub with
  | none =>
    have hb : bodyW none (n % 4) (L.drop k) = ⟨0, [], [], 0, 9⟩ := by unfold bodyW; rw [if_neg h5, if_neg h6, if_neg h7', if_neg h8]; rfl
    rw [hb] at d3; exact d3 (by simp)
  | some p =>
    simp only
    by_cases h10 : (p ((L.drop (k + (getR (L.drop k)).2.1)).take (getR (L.drop k)).1)).2 ≠ 0
    · rw [if_pos h10]
      have hb : bodyW (some p) (n % 4) (L.drop k) = ⟨0, [], [], 0, (p ((L.drop (k + (getR (L.drop k)).2.1)).take (getR (L.drop k)).1)).2⟩ := by unfold bodyW; rw [if_neg h5, if_neg h6, if_neg h7', if_neg h8, hdd]; unfold bodyL; simp only; rw [if_pos h10]
      rw [hb] at d3; exact d3 h10
    · rw [if_neg h10]
      have hb : bodyW (some p) (n % 4) (L.drop k) = ⟨0, [], (p ((L.drop (k + (getR (L.drop k)).2.1)).take (getR (L.drop k)).1)).1, (getR (L.drop k)).2.1 + (getR (L.drop k)).1, 0⟩ := by unfold bodyW; rw [if_neg h5, if_neg h6, if_neg h7', if_neg h8, hdd]; unfold bodyL; simp only; rw [if_neg h10]
      rw [hb, h9] at d4
      rw [Nat.add_assoc]; exact d4 rfl

theorem body_lt (sub : Option (List UInt8 → List Tree × Nat)) (y : Nat) (R : List UInt8) : (bodyW sub y R).len ≤ R.length := by
  have b := getR_bounds R
  unfold bodyW
  split
  · simp
  split
  · exact b.2.1
  split
  · simp
  split
  · have := b.2.1; simp only; omega
  unfold bodyL
  split
  · simp
  split
  · simp
  · have := b.2.1; simp only; omega

end Go.Proofs.YtieheclnkopfpaaGreatDoor.wm
