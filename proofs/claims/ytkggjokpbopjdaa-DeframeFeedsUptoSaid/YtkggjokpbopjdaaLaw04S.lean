/-
  CrcSums, for parts that are together of at most 2^47 bytes.
-/
import Derived.Test.YtkggjokpbopjdaaLaw04
namespace Go.Proofs.Ytkggjokpbopjdaa.law04
open Go.RowKit Go.Proofs.Ytkggjokpbopjdaa.crc Go.Proofs.Ytkggjokpbopjdaa.crcm
set_option linter.unusedVariables false
set_option linter.unusedSimpArgs false

theorem join_cat : ∀ xs : List ByteArray, Lib.join (xs.map (·.data.toList)) [] = cat xs
  | [] => rfl
  | x :: r => by
    have : ∀ r : List ByteArray, Lib.joinTail [] (r.map (·.data.toList)) = cat r := by
      intro r
      induction r with
      | nil => rfl
      | cons y r ih =>
        simp only [Lib.joinTail, List.map_cons, List.flatten_cons, List.nil_append, cat] at ih ⊢
        rw [ih]
    rw [List.map_cons, Lib.join_cons, this]
    rfl

theorem join_any (a : Option Addr) (len cap : Nat) (xs : List ByteArray) (w : World) (h : Strs w a len cap xs) (hlen : len ≤ 140737488355328) (hc : (cat xs).length ≤ 140737488355328) :
    Calls Try.prog 20 #[.slice a len cap, .string ⟨#[]⟩] w fun e w' => e = .returned (.string ⟨(cat xs).toArray⟩) ∧ w.grownBy w' none := by
  obtain ⟨h1, h2, h3⟩ := h
  rcases h3 with h0 | ⟨b, off, rfl, h4, h5, h6⟩
  · subst h0
    obtain rfl : xs = [] := List.length_eq_zero_iff.1 h1
    exact (Try.strings_Join_none a cap ⟨#[]⟩ w).mono fun e w' ⟨he, hw⟩ => ⟨he, hw ▸ only_refl _ _⟩
  · by_cases h0 : len = 0
    · subst h0
      obtain rfl : xs = [] := List.length_eq_zero_iff.1 h1
      exact (Try.strings_Join_none _ cap ⟨#[]⟩ w).mono fun e w' ⟨he, hw⟩ => ⟨he, hw ▸ only_refl _ _⟩
    · have hx := h6 0 (xs[0]'(by omega)) (List.getElem?_eq_getElem _)
      have hb : b < w.heap.size := World.block_lt_of_cell? w ⟨b, off + 0, none⟩ hx
      have := Try.strings_Join b off cap xs ⟨#[]⟩ w h6 hb (by omega) (by omega) (by rw [join_cat]; exact hc)
      rw [join_cat, h1] at this
      exact this.mono fun e w' ⟨he, hw⟩ => ⟨he, only_of_below hw none⟩

theorem put_num {t : ByteArray} (h : t.size = 4) : putB (num t.data.toList) = t := by
  have hl : t.data.toList.length = 4 := by simpa using h
  have h1 := num_lt t.data.toList
  rw [hl] at h1
  have : put4 (num t.data.toList) = t.data.toList := num_inj _ _ (by rw [hl]; rfl) (num_put4 h1)
  unfold putB
  rw [this]

theorem beq_bytes (a b : ByteArray) : (a.toList == b.toList) = decide (a = b) := by
  by_cases h : a = b
  · subst h; simp
  · have : ¬ a.toList = b.toList := fun e => h (by
      rw [ByteArray.toList_eq, ByteArray.toList_eq] at e
      exact ByteArray.ext (Array.toList_inj.1 e))
    simp [h, this]

end Go.Proofs.Ytkggjokpbopjdaa.law04
