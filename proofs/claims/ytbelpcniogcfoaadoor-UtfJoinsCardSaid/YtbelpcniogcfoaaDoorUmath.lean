/-
  Plain mathematics of UTF-8, as layer 7's document has it: no function of the program.
-/
import Derived.Test.YtbelpcniogcfoaaDoorBase
namespace Go.Proofs.YtbelpcniogcfoaaDoor.um
set_option linter.unusedVariables false
set_option linter.unusedSimpArgs false

def byt (L : List UInt8) (i : Nat) : Nat := (L.getD i 0).toNat
/-- The number of k further bytes behind a first part n. -/
def accN (L : List UInt8) (n : Nat) : Nat → Nat
  | 0 => n
  | k + 1 => 64 * accN L n k + (byt L (k + 1) - 128)
/-- So many bytes, all but the first one between 128 and 191. -/
def conts (L : List UInt8) (k : Nat) : Prop := ∀ i, i < k → 128 ≤ byt L (i + 1) ∧ byt L (i + 1) < 192
instance (L : List UInt8) (k : Nat) : Decidable (conts L k) := by unfold conts; infer_instance
def outN (least v : Nat) : Prop := v < least ∨ 1114111 < v ∨ (55296 ≤ v ∧ v < 57344)
instance (least v : Nat) : Decidable (outN least v) := by unfold outN; infer_instance
/-- A code point of size bytes. -/
def mulR (L : List UInt8) (size n least : Nat) : Nat :=
  if L.length < size then 0 else if conts L (size - 1) then (if outN least (accN L n (size - 1)) then 0 else size) else 0
/-- How many bytes the code point has that bytes begin with; 0: there is none. -/
def firstR (L : List UInt8) : Nat :=
  if L.length = 0 then 0
  else if byt L 0 < 128 then 1
  else if 192 ≤ byt L 0 ∧ byt L 0 < 224 then mulR L 2 (byt L 0 - 192) 128
  else if 224 ≤ byt L 0 ∧ byt L 0 < 240 then mulR L 3 (byt L 0 - 224) 2048
  else if 240 ≤ byt L 0 ∧ byt L 0 < 248 then mulR L 4 (byt L 0 - 240) 65536
  else 0

theorem byt_app (L M : List UInt8) (i : Nat) (h : i < L.length) : byt (L ++ M) i = byt L i := by
  unfold byt
  rw [List.getD_eq_getElem?_getD, List.getD_eq_getElem?_getD, List.getElem?_append_left h]
theorem conts_app (L M : List UInt8) (k : Nat) (h : k < L.length) : conts (L ++ M) k ↔ conts L k := by
  unfold conts
  constructor <;> intro hc i hi <;> have := hc i hi <;> rw [byt_app L M (i + 1) (by omega)] at * <;> exact this
theorem accN_app (L M : List UInt8) (n : Nat) : ∀ k, k < L.length → accN (L ++ M) n k = accN L n k
  | 0, _ => rfl
  | k + 1, h => by
    show 64 * accN (L ++ M) n k + (byt (L ++ M) (k + 1) - 128) = 64 * accN L n k + (byt L (k + 1) - 128)
    rw [accN_app L M n k (by omega), byt_app L M (k + 1) h]

theorem mulR_le (L : List UInt8) (size n least : Nat) : mulR L size n least = 0 ∨ (mulR L size n least = size ∧ size ≤ L.length ∧ conts L (size - 1)) := by
  unfold mulR
  split
  · exact .inl rfl
  · split
    · split
      · exact .inl rfl
      · rename_i h1 h2 h3; exact .inr ⟨rfl, by omega, h2⟩
    · exact .inl rfl

theorem mulR_app (L M : List UInt8) (size n least : Nat) (hs : 1 ≤ size) (h : size ≤ L.length) : mulR (L ++ M) size n least = mulR L size n least := by
  unfold mulR
  rw [if_neg (show ¬ (L ++ M).length < size by rw [List.length_append]; omega), if_neg (show ¬ L.length < size by omega)]
  by_cases hc : conts L (size - 1)
  · rw [if_pos hc, if_pos ((conts_app L M _ (by omega)).2 hc), accN_app L M n _ (by omega)]
  · rw [if_neg hc, if_neg (fun h' => hc ((conts_app L M _ (by omega)).1 h'))]

/-- A code point: its size, and what its bytes are. -/
theorem firstR_facts (L : List UInt8) (h : firstR L ≠ 0) : firstR L ≤ L.length ∧ firstR L ≤ 4 ∧ conts L (firstR L - 1) ∧ (byt L 0 < 128 ∨ 192 ≤ byt L 0) := by
  unfold firstR at *
  split at h
  · exact absurd rfl h
  · rename_i h0
    rw [if_neg h0]
    split at h
    · rename_i h1
      rw [if_pos h1]
      exact ⟨by omega, by omega, fun i hi => by omega, .inl h1⟩
    · rename_i h1
      rw [if_neg h1]
      split at h
      · rename_i h2
        rw [if_pos h2]
        rcases mulR_le L 2 (byt L 0 - 192) 128 with hm | ⟨hm, hl, hc⟩
        · exact absurd hm h
        · rw [hm]; exact ⟨hl, by omega, hc, .inr h2.1⟩
      · rename_i h2
        rw [if_neg h2]
        split at h
        · rename_i h3
          rw [if_pos h3]
          rcases mulR_le L 3 (byt L 0 - 224) 2048 with hm | ⟨hm, hl, hc⟩
          · exact absurd hm h
          · rw [hm]; exact ⟨hl, by omega, hc, .inr (by omega)⟩
        · rename_i h3
          rw [if_neg h3]
          split at h
          · rename_i h4
            rw [if_pos h4]
            rcases mulR_le L 4 (byt L 0 - 240) 65536 with hm | ⟨hm, hl, hc⟩
            · exact absurd hm h
            · rw [hm]; exact ⟨hl, by omega, hc, .inr (by omega)⟩
          · exact absurd rfl h

/-- More behind plays no part, where there are bytes enough. -/
theorem firstR_app (L M : List UInt8) (h : firstR L ≠ 0 ∨ (firstR (L ++ M) ≠ 0 ∧ firstR (L ++ M) ≤ L.length)) : firstR (L ++ M) = firstR L := by
  have hpos : 0 < L.length := by
    rcases h with h | ⟨h1, h2⟩
    · have := (firstR_facts L h).1; omega
    · omega
  have hb := byt_app L M 0 hpos
  have key : ∀ size n least, 1 ≤ size → (mulR L size n least ≠ 0 ∨ (mulR (L ++ M) size n least ≠ 0 ∧ mulR (L ++ M) size n least ≤ L.length)) → mulR (L ++ M) size n least = mulR L size n least := by
    intro size n least hs hh
    by_cases hl : size ≤ L.length
    · exact mulR_app L M size n least hs hl
    · exfalso
      rcases hh with h1 | ⟨h1, h2⟩
      · rcases mulR_le L size n least with hm | ⟨_, hm, _⟩
        · exact h1 hm
        · omega
      · rcases mulR_le (L ++ M) size n least with hm | ⟨hm, _, _⟩
        · exact h1 hm
        · omega
  unfold firstR at h ⊢
  rw [hb] at h ⊢
  rw [if_neg (show ¬ (L ++ M).length = 0 by rw [List.length_append]; omega), if_neg (show ¬ L.length = 0 by omega)] at h ⊢
  by_cases h1 : byt L 0 < 128
  · rw [if_pos h1, if_pos h1]
  · rw [if_neg h1, if_neg h1] at h ⊢
    by_cases h2 : 192 ≤ byt L 0 ∧ byt L 0 < 224
    · rw [if_pos h2, if_pos h2] at h ⊢
      exact key _ _ _ (by omega) h
    · rw [if_neg h2, if_neg h2] at h ⊢
      by_cases h3 : 224 ≤ byt L 0 ∧ byt L 0 < 240
      · rw [if_pos h3, if_pos h3] at h ⊢
        exact key _ _ _ (by omega) h
      · rw [if_neg h3, if_neg h3] at h ⊢
        by_cases h4 : 240 ≤ byt L 0 ∧ byt L 0 < 248
        · rw [if_pos h4, if_pos h4] at h ⊢
          exact key _ _ _ (by omega) h
        · rw [if_neg h4, if_neg h4]

/-! Good texts. -/
def goodR (L : List UInt8) : Bool :=
  if hL : L = [] then true else if h : firstR L = 0 then false else goodR (L.drop (firstR L))
termination_by L.length
decreasing_by
  have : 0 < L.length := List.length_pos_iff.2 hL
  simp only [List.length_drop]
  omega

theorem goodR_nil : goodR [] = true := by rw [goodR, dif_pos rfl]
theorem goodR_bad {L : List UInt8} (hL : L ≠ []) (h : firstR L = 0) : goodR L = false := by rw [goodR, dif_neg hL, dif_pos h]
theorem goodR_step {L : List UInt8} (hL : L ≠ []) (h : firstR L ≠ 0) : goodR L = goodR (L.drop (firstR L)) := by rw [goodR, dif_neg hL, dif_neg h]

/-- How many code points; each byte of none is one. -/
def countR (L : List UInt8) : Nat :=
  if hL : L = [] then 0 else 1 + countR (L.drop (max 1 (firstR L)))
termination_by L.length
decreasing_by
  have : 0 < L.length := List.length_pos_iff.2 hL
  simp only [List.length_drop]
  omega
theorem countR_nil : countR [] = 0 := by rw [countR, dif_pos rfl]
theorem countR_step {L : List UInt8} (hL : L ≠ []) : countR L = 1 + countR (L.drop (max 1 (firstR L))) := by rw [countR, dif_neg hL]

theorem first_pos {L : List UInt8} (hL : L ≠ []) (h : goodR L = true) : firstR L ≠ 0 := fun h0 => by rw [goodR_bad hL h0] at h; cases h

/-- Two good texts together. -/
theorem good_app : ∀ (m : Nat) (L M : List UInt8), L.length ≤ m → goodR L = true → goodR (L ++ M) = goodR M ∧ countR (L ++ M) = countR L + countR M := by
  intro m
  induction m with
  | zero =>
    intro L M hm _
    obtain rfl : L = [] := List.length_eq_zero_iff.1 (by omega)
    rw [countR_nil]; simp
  | succ m ih =>
    intro L M hm hg
    by_cases hL : L = []
    · subst hL; rw [countR_nil]; simp
    · have hf := first_pos hL hg
      have hfa := firstR_app L M (.inl hf)
      have hl := (firstR_facts L hf).1
      have hd : (L ++ M).drop (firstR L) = L.drop (firstR L) ++ M := List.drop_append_of_le_length hl
      rw [goodR_step hL hf] at hg
      have hi := ih (L.drop (firstR L)) M (by simp; omega) hg
      have hne : L ++ M ≠ [] := by simp [hL]
      rw [goodR_step hne (by rw [hfa]; exact hf), hfa, hd, countR_step hne, hfa, countR_step hL, show max 1 (firstR L) = firstR L by omega, hd, hi.1, hi.2]
      exact ⟨rfl, by omega⟩

/-- Where the whole and the second are good, so is the first. -/
theorem good_left : ∀ (m : Nat) (L M : List UInt8), L.length ≤ m → goodR (L ++ M) = true → goodR M = true → goodR L = true := by
  intro m
  induction m with
  | zero =>
    intro L M hm _ _
    obtain rfl : L = [] := List.length_eq_zero_iff.1 (by omega)
    exact goodR_nil
  | succ m ih =>
    intro L M hm hg hM
    by_cases hL : L = []
    · subst hL; exact goodR_nil
    · have hne : L ++ M ≠ [] := by simp [hL]
      have hf := first_pos hne hg
      have hfacts := firstR_facts (L ++ M) hf
      by_cases hle : firstR (L ++ M) ≤ L.length
      · have hfa := firstR_app L M (.inr ⟨hf, hle⟩)
        rw [goodR_step hne hf, hfa, List.drop_append_of_le_length (by omega)] at hg
        rw [goodR_step hL (by omega)]
        exact ih _ M (by simp; omega) hg hM
      · exfalso
        have hpos : 0 < L.length := List.length_pos_iff.2 hL
        have hMne : M ≠ [] := by
          intro h; subst h
          have := hfacts.1
          simp at this; simp at hle; omega
        have hc := hfacts.2.2.1 (L.length - 1) (by omega)
        rw [show L.length - 1 + 1 = L.length by omega] at hc
        have hb : byt (L ++ M) L.length = byt M 0 := by
          unfold byt
          rw [List.getD_eq_getElem?_getD, List.getElem?_append_right (by omega), List.getD_eq_getElem?_getD, Nat.sub_self]
        rw [hb] at hc
        have := (firstR_facts M (first_pos hMne hM)).2.2.2
        omega

/-! Cut to a length. -/
def trimN (L : List UInt8) (most : Int) : Nat :=
  if hL : L = [] then 0 else if h : (firstR L : Int) ≤ most ∧ firstR L ≠ 0 then firstR L + trimN (L.drop (firstR L)) (most - firstR L) else 0
termination_by L.length
decreasing_by
  have : 0 < L.length := List.length_pos_iff.2 hL
  simp only [List.length_drop]
  omega

theorem trimN_facts : ∀ (m : Nat) (L : List UInt8) (most : Int), L.length ≤ m → trimN L most ≤ L.length ∧ ((trimN L most : Int) ≤ max most 0) ∧ goodR (L.take (trimN L most)) = true := by
  intro m
  induction m with
  | zero =>
    intro L most hm
    obtain rfl : L = [] := List.length_eq_zero_iff.1 (by omega)
    rw [trimN, dif_pos rfl]
    simp [goodR_nil]
    omega
  | succ m ih =>
    intro L most hm
    by_cases hL : L = []
    · subst hL; rw [trimN, dif_pos rfl]; simp [goodR_nil]; omega
    · by_cases h : (firstR L : Int) ≤ most ∧ firstR L ≠ 0
      · have hf := firstR_facts L h.2
        obtain ⟨h1, h2, h3⟩ := ih (L.drop (firstR L)) (most - firstR L) (by simp; omega)
        rw [trimN, dif_neg hL, dif_pos h]
        generalize trimN (L.drop (firstR L)) (most - firstR L) = t at *
        simp only [List.length_drop] at h1
        refine ⟨by omega, by omega, ?_⟩
        have hsplit : L.take (firstR L + t) = L.take (firstR L) ++ (L.drop (firstR L)).take t := List.take_add
        have hLs : L.take (firstR L) ++ L.drop (firstR L) = L := List.take_append_drop _ _
        have hne : L.take (firstR L) ≠ [] := by
          intro h0
          have h1' := congrArg List.length h0
          rw [List.length_take, List.length_nil] at h1'
          have := List.length_pos_iff.2 hL
          omega
        have hfa : firstR (L.take (firstR L)) = firstR L := by
          have := firstR_app (L.take (firstR L)) (L.drop (firstR L)) (.inr (by rw [hLs]; exact ⟨h.2, by simp; omega⟩))
          rw [hLs] at this
          exact this.symm
        have hg : goodR (L.take (firstR L)) = true := by
          rw [goodR_step hne (by rw [hfa]; exact h.2), hfa, List.drop_eq_nil_of_le (by simp; omega)]
          exact goodR_nil
        rw [hsplit, (good_app _ _ _ (Nat.le_refl _) hg).1]
        exact h3
      · rw [trimN, dif_neg hL, dif_neg h]
        simp [goodR_nil]
        omega

end Go.Proofs.YtbelpcniogcfoaaDoor.um
