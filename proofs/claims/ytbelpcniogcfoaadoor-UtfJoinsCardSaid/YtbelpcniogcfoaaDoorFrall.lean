/-
  The document's All.
-/
import Derived.Test.YtbelpcniogcfoaaDoorFref
namespace Go.Proofs.YtbelpcniogcfoaaDoor.fm
open Go.RowKit Go.Proofs.YtbelpcniogcfoaaDoor.vi Go.Proofs.YtbelpcniogcfoaaDoor.cur
set_option linter.unusedVariables false
set_option linter.unusedSimpArgs false

/-- What All answers: its slice is the call's own. -/
def AllPost (w : World) (q : List (List UInt8) × Nat) (e : Ending) (w' : World) : Prop :=
  ∃ v, e = .returned (.tuple #[v, .int .i64 (q.2 : Int)]) ∧ w.grownBy w' none ∧ Own w.heap.size w' v q.1

theorem framesR_good : ∀ (m : Nat) (L : List UInt8), L.length ≤ m → ((framesR L).2 ≠ 0 → (framesR L).1 = []) ∧ (framesR L).1.length ≤ L.length ∧ (framesR L).2 < 7 := by
  intro m
  induction m with
  | zero =>
    intro L hm
    have : L = [] := List.length_eq_zero_iff.1 (by omega)
    subst this
    rw [framesR_nil]; simp
  | succ m ih =>
    intro L hm
    by_cases hL : L = []
    · subst hL; rw [framesR_nil]; simp
    · by_cases h2 : (parseR L).2.2 = 0
      · have hp := parse_pos h2
        have hl := (parse_ok h2).2.2.2
        have := ih (L.drop (parseR L).2.1) (by simp; omega)
        rw [framesR_ok hL h2]
        unfold glueF
        split
        · rename_i hz
          simp at this ⊢
          omega
        · rename_i hz
          exact ⟨fun _ => rfl, by simp, this.2.2⟩
      · rw [framesR_err hL h2]
        have := parse_lt L
        exact ⟨fun _ => rfl, by simp, this⟩

theorem glueF_nil (q : List (List UInt8) × Nat) (h : q.2 ≠ 0 → q.1 = []) : glueF [] q = q := by
  unfold glueF
  obtain ⟨a, b⟩ := q
  by_cases hb : b = 0
  · simp [hb]
  · simp at h; simp [hb, h hb]

end Go.Proofs.YtbelpcniogcfoaaDoor.fm
