/-
  Trim from behind: of a good text the cut lies where, going back, the first byte stands that is no further byte of a code point.
-/
import Derived.Test.YtbelpcniogcfoaaDoorUmath
namespace Go.Proofs.YtbelpcniogcfoaaDoor.um
set_option linter.unusedVariables false
set_option linter.unusedSimpArgs false

/-- Back from a place to one with a byte that a code point may begin with. -/
def backN (L : List UInt8) : Nat → Nat
  | 0 => 0
  | n + 1 => if 128 ≤ byt L (n + 1) ∧ byt L (n + 1) < 192 then backN L n else n + 1

theorem backN_le (L : List UInt8) : ∀ n, backN L n ≤ n
  | 0 => Nat.le_refl _
  | n + 1 => by
    unfold backN
    have := backN_le L n
    split <;> omega

theorem backN_in (L : List UInt8) (k : Nat) (hc : conts L k) : ∀ n, n ≤ k → backN L n = 0
  | 0, _ => rfl
  | n + 1, h => by
    unfold backN
    rw [if_pos (hc n (by omega))]
    exact backN_in L k hc n (by omega)

theorem byt_drop (L : List UInt8) (f i : Nat) : byt (L.drop f) i = byt L (f + i) := by
  unfold byt
  rw [List.getD_eq_getElem?_getD, List.getD_eq_getElem?_getD, List.getElem?_drop]

theorem backN_drop (L : List UInt8) (f : Nat) (hf : 0 < f) (h0 : ¬ (128 ≤ byt L f ∧ byt L f < 192)) : ∀ n, backN L (f + n) = f + backN (L.drop f) n
  | 0 => by
    obtain ⟨g, rfl⟩ : ∃ g, f = g + 1 := ⟨f - 1, by omega⟩
    show backN L (g + 1) = _
    unfold backN
    rw [if_neg h0]
  | n + 1 => by
    have ih := backN_drop L f hf h0 n
    show backN L ((f + n) + 1) = f + backN (L.drop f) (n + 1)
    unfold backN
    rw [byt_drop, show f + (n + 1) = f + n + 1 by omega]
    split
    · exact ih
    · omega

theorem trimN_over : ∀ (m : Nat) (L : List UInt8) (most : Int), L.length ≤ m → goodR L = true → (L.length : Int) ≤ most → trimN L most = L.length := by
  intro m
  induction m with
  | zero =>
    intro L most h hg hm
    obtain rfl : L = [] := List.length_eq_zero_iff.1 (by omega)
    rw [trimN, dif_pos rfl]; rfl
  | succ m ih =>
    intro L most h hg hm
    by_cases hL : L = []
    · subst hL; rw [trimN, dif_pos rfl]; rfl
    · have hp := first_pos hL hg
      have hf := firstR_facts L hp
      rw [trimN, dif_neg hL, dif_pos ⟨by omega, hp⟩, ih _ _ (by rw [List.length_drop]; omega) (by rw [← goodR_step hL hp]; exact hg) (by rw [List.length_drop]; omega), List.length_drop]
      omega

theorem trimN_neg (L : List UInt8) (most : Int) (hm : most ≤ 0) : trimN L most = 0 := by
  rw [trimN]
  split
  · rfl
  · rw [dif_neg (by omega)]

theorem trimN_back : ∀ (m : Nat) (L : List UInt8) (n : Nat), L.length ≤ m → goodR L = true → n < L.length → trimN L n = backN L n := by
  intro m
  induction m with
  | zero => intro L n h hg hn; omega
  | succ m ih =>
    intro L n h hg hn
    have hL : L ≠ [] := by rintro rfl; simp at hn
    have hp := first_pos hL hg
    obtain ⟨hl, -, hc, -⟩ := firstR_facts L hp
    rw [trimN, dif_neg hL]
    by_cases hfn : firstR L ≤ n
    · rw [dif_pos ⟨by omega, hp⟩]
      have hg' : goodR (L.drop (firstR L)) = true := by rw [← goodR_step hL hp]; exact hg
      have hL' : L.drop (firstR L) ≠ [] := by
        intro h0
        have := congrArg List.length h0
        rw [List.length_drop] at this
        simp at this; omega
      have hp' := first_pos hL' hg'
      have hb := (firstR_facts _ hp').2.2.2
      rw [byt_drop, Nat.add_zero] at hb
      have e := backN_drop L (firstR L) (by omega) (by omega) (n - firstR L)
      rw [show firstR L + (n - firstR L) = n by omega] at e
      rw [e, show ((n : Int) - (firstR L : Int)) = ((n - firstR L : Nat) : Int) by omega, ih _ _ (by rw [List.length_drop]; omega) hg' (by rw [List.length_drop]; omega)]
    · rw [dif_neg (by omega), backN_in L (firstR L - 1) hc n (by omega)]

end Go.Proofs.YtbelpcniogcfoaaDoor.um
