/-
  What is made of few ones: how many fields, bytes; numbers of 64 bits.
-/
import Derived.Test.YtieheclnkopfpaaGreatDoorWmath
import Derived.Test.YtieheclnkopfpaaGreatDoorBundT
namespace Go.Proofs.YtieheclnkopfpaaGreatDoor.wm
open Go.RowKit Go.Proofs.YtieheclnkopfpaaGreatDoor.tr Go.Proofs.YtieheclnkopfpaaGreatDoor.vi
set_option linter.unusedVariables false
set_option linter.unusedSimpArgs false

def bulkO : List OneT → Nat | [] => 0 | x :: r => x.text.size + bulkO r

theorem from_bulk : ∀ (n : Nat) (xs : List OneT) (d : Nat), xs.length ≤ n → bulkL (fromL xs d) + bulkO (restL xs d) = bulkO xs
  | n, [], d, _ => by rw [fromL_nil, restL_nil]; simp [bulkL]
  | 0, x :: r, d, h => by simp at h
  | n + 1, x :: r, d, h => by
    have hl : (x :: r).length = r.length + 1 := rfl
    by_cases h1 : x.deep < d
    · rw [fromL_stop h1, restL_stop h1]; simp [bulkL]
    · by_cases h2 : x.deep = 255
      · have := from_bulk n r d (by omega)
        rw [fromL_flat h1 h2, restL_flat h1 h2, bulkL_cons, bulkO]
        simp only [Tree.list, Tree.text, bulkL]
        omega
      · have h3 := from_bulk n r (x.deep + 1) (by omega)
        have h4 := restL_len r (x.deep + 1)
        have h5 := from_bulk n (restL r (x.deep + 1)) d (by omega)
        rw [fromL_deep h1 h2, restL_deep h1 h2, bulkL_cons, bulkO]
        simp only [Tree.list, Tree.text]
        omega

theorem from_fits : ∀ (n : Nat) (xs : List OneT) (d : Nat), xs.length ≤ n → (∀ x ∈ xs, x.num < 18446744073709551616) → fitsL (fromL xs d) ∧ ∀ x ∈ restL xs d, x.num < 18446744073709551616
  | n, [], d, _, _ => by rw [fromL_nil, restL_nil]; exact ⟨by rw [fitsL]; trivial, fun x h => by simp at h⟩
  | 0, x :: r, d, h, _ => by simp at h
  | n + 1, x :: r, d, h, hx => by
    have hl : (x :: r).length = r.length + 1 := rfl
    by_cases h1 : x.deep < d
    · rw [fromL_stop h1, restL_stop h1]; exact ⟨by rw [fitsL]; trivial, hx⟩
    · by_cases h2 : x.deep = 255
      · have h3 := from_fits n r d (by omega) (fun y hy => hx y (by simp [hy]))
        rw [fromL_flat h1 h2, restL_flat h1 h2, fitsL_cons]
        exact ⟨⟨hx x (by simp), by simp only [Tree.list]; rw [fitsL]; trivial, h3.1⟩, h3.2⟩
      · have h3 := from_fits n r (x.deep + 1) (by omega) (fun y hy => hx y (by simp [hy]))
        have h4 := restL_len r (x.deep + 1)
        have h5 := from_fits n (restL r (x.deep + 1)) d (by omega) h3.2
        rw [fromL_deep h1 h2, restL_deep h1 h2, fitsL_cons]
        exact ⟨⟨hx x (by simp), h3.1, h5.1⟩, h5.2⟩

theorem few_bulk {xs : List OneT} (h : ∀ x ∈ xs, x.text.size ≤ 300) : bulkO xs ≤ 300 * xs.length := by
  induction xs with
  | nil => simp [bulkO]
  | cons x r ih =>
    have h1 := h x (by simp)
    have h2 := ih (fun y hy => h y (by simp [hy]))
    rw [bulkO, List.length_cons]; omega

/-- Few ones make few fields. -/
theorem few_facts {B : Nat} {w : World} {a : Option Addr} {cap : Nat} {xs : List OneT} (hf : fewB xs = true) (h : Ones B w a cap xs) : sizeL (fromL xs 0) = xs.length ∧ xs.length ≤ 60 ∧ bulkL (fromL xs 0) ≤ 18000 ∧ fitsL (fromL xs 0) := by
  have hl := few_len hf
  have h1 := from_size _ xs 0 (Nat.le_refl _)
  have h2 := from_bulk _ xs 0 (Nat.le_refl _)
  rw [restL_zero _ xs (Nat.le_refl _)] at h1 h2
  have h3 : ∀ x ∈ xs, x.text.size ≤ 300 := fun x hx => by
    obtain ⟨i, hi⟩ := List.getElem?_of_mem hx
    by_cases hx3 : x.text.size ≤ 300
    · exact hx3
    · rw [few_at hi (by omega)] at hf; cases hf
  have h4 := few_bulk h3
  refine ⟨by simpa using h1, hl, by simp [bulkO] at h2; omega, (from_fits _ xs 0 (Nat.le_refl _) (fun x hx => (h.2.1 x hx).2.2.2)).1⟩

/-- What is written of few fields is not long. -/
theorem few_wr {B : Nat} {w : World} {a : Option Addr} {cap : Nat} {xs : List OneT} (hf : fewB xs = true) (h : Ones B w a cap xs) (d p : Nat) (hc : checkL d p (fromL xs 0) = 0) : (wrL (fromL xs 0)).length ≤ 20000 := by
  obtain ⟨h1, h2, h3, h4⟩ := few_facts hf h
  have := wr_len _ (fromL xs 0) d p (Nat.le_refl _) (by omega) (by omega) h4 hc
  omega

/-- What Put answers. -/
def putR (ts : List Tree) : List UInt8 × Nat := if checkL 0 0 ts ≠ 0 then ([], checkL 0 0 ts) else if 65536 < (wrL ts).length then ([], 4) else (wrL ts, 0)
/-- What Get answers. -/
def getW (L : List UInt8) : List Tree × Nat := if 65536 < L.length then ([], 4) else readD 8 L

end Go.Proofs.YtieheclnkopfpaaGreatDoor.wm
