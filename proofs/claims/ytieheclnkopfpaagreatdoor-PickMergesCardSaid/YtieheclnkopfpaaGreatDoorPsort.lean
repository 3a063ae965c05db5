/-
  Lists brought together by sorting: the same as one field put at its place behind the other.
-/
import Derived.Test.YtieheclnkopfpaaGreatDoorPmath
namespace Go.Proofs.YtieheclnkopfpaaGreatDoor.pm
open Go.Proofs.YtieheclnkopfpaaGreatDoor.tr
set_option linter.unusedVariables false
set_option linter.unusedSimpArgs false

theorem insAll_facts : ∀ (fs out o : List Tree), Rising out → insAll out fs = some o → Rising o ∧ o.Perm (out ++ fs)
  | [], out, o, hr, h => by
    simp only [insAll, Option.some.injEq] at h
    subst h
    exact ⟨hr, by rw [List.append_nil]⟩
  | f :: r, out, o, hr, h => by
    rw [insAll] at h
    obtain ⟨o1, h1, h2⟩ := Option.bind_eq_some_iff.1 h
    obtain ⟨k1, k2⟩ := insAll_facts r o1 o (ins_rising hr h1) h2
    exact ⟨k1, k2.trans (((ins_perm h1).append_right r).trans List.perm_middle.symm)⟩

/-- Somewhere two neighbours have one tag. -/
def twiceB : List Tree → Bool
  | [] => false
  | [_] => false
  | a :: b :: r => a.tag == b.tag || twiceB (b :: r)

theorem twice_iff : ∀ (ts : List Tree), twiceB ts = true ↔ ∃ (i : Nat) (t u : Tree), ts[i]? = some t ∧ ts[i + 1]? = some u ∧ t.tag = u.tag
  | [] => by simp [twiceB]
  | [a] => by simp [twiceB]
  | a :: b :: r => by
    have ih := twice_iff (b :: r)
    rw [twiceB, Bool.or_eq_true, beq_iff_eq, ih]
    constructor
    · rintro (h | ⟨i, t, u, h1, h2, h3⟩)
      · exact ⟨0, a, b, rfl, rfl, h⟩
      · exact ⟨i + 1, t, u, by simpa using h1, by simpa using h2, h3⟩
    · rintro ⟨i, t, u, h1, h2, h3⟩
      cases i with
      | zero => simp at h1 h2; subst h1 h2; exact .inl h3
      | succ i => exact .inr ⟨i, t, u, by simpa using h1, by simpa using h2, h3⟩

theorem twice_not {ts : List Tree} (hs : ts.Pairwise fun a b => a.tag ≤ b.tag) (h : twiceB ts = false) : Rising ts := by
  induction ts with
  | nil => exact List.Pairwise.nil
  | cons a r ih =>
    obtain ⟨h1, h2⟩ := List.pairwise_cons.1 hs
    cases r with
    | nil => exact List.pairwise_singleton _ _
    | cons b r =>
      rw [twiceB, Bool.or_eq_false_iff, beq_eq_false_iff_ne] at h
      have h3 := ih h2 h.2
      refine List.pairwise_cons.2 ⟨fun x hx => ?_, h3⟩
      have h4 := h1 b (by simp)
      rcases List.mem_cons.1 hx with rfl | hx
      · have := h.1; omega
      · have := (List.pairwise_cons.1 h3).1 x hx; have := h.1; omega

theorem twice_apart : ∀ {ts : List Tree}, Apart ts → twiceB ts = false
  | [], _ => rfl
  | [_], _ => rfl
  | a :: b :: r, h => by
    obtain ⟨h1, h2⟩ := List.pairwise_cons.1 h
    rw [twiceB, Bool.or_eq_false_iff, beq_eq_false_iff_ne]
    exact ⟨h1 b (by simp), twice_apart h2⟩

/-- Sorted by tags: what comes together, or a tag that stands twice. -/
theorem insAll_sorted {F G : List Tree} (hp : G.Perm F) (hs : G.Pairwise fun a b => a.tag ≤ b.tag) : insAll [] F = if twiceB G = true then none else some G := by
  by_cases h : twiceB G = true
  · rw [if_pos h]
    cases hi : insAll [] F with
    | none => rfl
    | some o =>
      obtain ⟨k1, k2⟩ := insAll_facts F [] o List.Pairwise.nil hi
      rw [List.nil_append] at k2
      have ha : Apart G := (k2.trans hp.symm).pairwise (apart_of k1) fun h e => h e.symm
      rw [twice_apart ha] at h
      cases h
  · rw [if_neg h]
    have hr := twice_not hs (by simpa using h)
    have := ins_parts (l := G) (a := F) (b := []) hr (by rw [List.append_nil]; exact hp.symm)
    rwa [List.append_nil] at this

end Go.Proofs.YtieheclnkopfpaaGreatDoor.pm
