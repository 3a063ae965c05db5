/-
  Mathematics of picking: parts of a list, lists brought together by rising tags.
-/
import Derived.Test.YtieheclnkopfpaaGreatDoorBundT
namespace Go.Proofs.YtieheclnkopfpaaGreatDoor.pm
open Go.Proofs.YtieheclnkopfpaaGreatDoor.tr
set_option linter.unusedVariables false
set_option linter.unusedSimpArgs false

/-- The tags rise. -/
def Rising (ts : List Tree) : Prop := ts.Pairwise fun a b => a.tag < b.tag

theorem rising_of {d : Nat} : ∀ {ts : List Tree} {p : Nat}, checkL d p ts = 0 → Rising ts ∧ ∀ t ∈ ts, p < t.tag
  | [], p, _ => ⟨List.Pairwise.nil, fun t h => by simp at h⟩
  | t :: r, p, h => by
    obtain ⟨h0, h1, h2, h3, h4, h5, h6⟩ := check_ok h
    obtain ⟨k1, k2⟩ := rising_of h6
    refine ⟨List.pairwise_cons.2 ⟨k2, k1⟩, fun x hx => ?_⟩
    rcases List.mem_cons.1 hx with rfl | hx
    · exact h2
    · have := k2 x hx; omega

/-- What is chosen out of fields that may be may be. -/
theorem check_filter (d : Nat) (q : Tree → Bool) : ∀ (ts : List Tree) (p : Nat), checkL d p ts = 0 → checkL d p (ts.filter q) = 0
  | [], p, h => h
  | t :: r, p, h => by
    obtain ⟨h0, h1, h2, h3, h4, h5, h6⟩ := check_ok h
    have ih := check_filter d q r t.tag h6
    rw [List.filter_cons]
    split
    · exact check_mk h0 h1 h2 h3 h4 h5 ih
    · exact check_prev ih (by omega)

/-- A field put at its place; none: its tag is there. -/
def ins (f : Tree) : List Tree → Option (List Tree)
  | [] => some [f]
  | t :: r => if t.tag < f.tag then (ins f r).map (t :: ·) else if t.tag = f.tag then none else some (f :: t :: r)
def insAll : List Tree → List Tree → Option (List Tree)
  | out, [] => some out
  | out, f :: r => (ins f out).bind fun o => insAll o r

/-- At which place: behind all that are below it. -/
def place (f : Tree) : List Tree → Nat
  | [] => 0
  | t :: r => if t.tag < f.tag then place f r + 1 else 0
theorem place_le (f : Tree) : ∀ ts, place f ts ≤ ts.length
  | [] => Nat.le_refl _
  | t :: r => by
    have := place_le f r
    unfold place
    split <;> simp <;> omega
theorem place_below (f : Tree) : ∀ (ts : List Tree) (i : Nat) (t : Tree), i < place f ts → ts[i]? = some t → t.tag < f.tag
  | [], i, t, h, _ => by simp [place] at h
  | x :: r, i, t, h, ht => by
    unfold place at h
    split at h
    · rename_i hx
      cases i with
      | zero => simp at ht; subst ht; exact hx
      | succ i => exact place_below f r i t (by omega) (by simpa using ht)
    · omega
theorem place_at (f : Tree) : ∀ (ts : List Tree) (t : Tree), ts[place f ts]? = some t → f.tag ≤ t.tag
  | [], t, ht => by simp at ht
  | x :: r, t, ht => by
    unfold place at ht
    split at ht
    · exact place_at f r t (by simpa using ht)
    · simp at ht; subst ht; omega
theorem ins_place (f : Tree) : ∀ ts : List Tree, ins f ts = if (ts[place f ts]?).map Tree.tag = some f.tag then none else some (ts.take (place f ts) ++ f :: ts.drop (place f ts))
  | [] => by simp [ins, place]
  | t :: r => by
    have ih := ins_place f r
    unfold ins place
    by_cases h : t.tag < f.tag
    · rw [if_pos h, if_pos h, ih]
      simp only [List.getElem?_cons_succ, List.take_succ_cons, List.drop_succ_cons]
      split <;> simp
    · rw [if_neg h, if_neg h]
      by_cases h2 : t.tag = f.tag
      · rw [if_pos h2]; simp [h2]
      · rw [if_neg h2]; simp [h2]

theorem ins_perm {f : Tree} : ∀ {ts o : List Tree}, ins f ts = some o → o.Perm (f :: ts)
  | [], o, h => by simp [ins] at h; subst h; exact List.Perm.refl _
  | t :: r, o, h => by
    unfold ins at h
    split at h
    · obtain ⟨o', h1, rfl⟩ := Option.map_eq_some_iff.1 h
      exact ((ins_perm h1).cons t).trans (List.Perm.swap f t r)
    · split at h
      · cases h
      · simp at h; subst h; exact List.Perm.refl _
theorem ins_rising {f : Tree} : ∀ {ts o : List Tree}, Rising ts → ins f ts = some o → Rising o
  | [], o, _, h => by simp [ins] at h; subst h; exact List.pairwise_singleton _ _
  | t :: r, o, hr, h => by
    obtain ⟨h1, h2⟩ := List.pairwise_cons.1 hr
    unfold ins at h
    split at h
    · rename_i hlt
      obtain ⟨o', k1, rfl⟩ := Option.map_eq_some_iff.1 h
      refine List.pairwise_cons.2 ⟨fun x hx => ?_, ins_rising h2 k1⟩
      rcases List.mem_cons.1 ((ins_perm k1).mem_iff.1 hx) with rfl | hx
      · exact hlt
      · exact h1 x hx
    · split at h
      · cases h
      · rename_i hn he
        simp at h; subst h
        refine List.pairwise_cons.2 ⟨fun x hx => ?_, hr⟩
        rcases List.mem_cons.1 hx with rfl | hx
        · omega
        · have := h1 x hx; omega
theorem ins_none {f : Tree} : ∀ {ts : List Tree}, Rising ts → (ins f ts = none ↔ ∃ t ∈ ts, t.tag = f.tag)
  | [], _ => by simp [ins]
  | t :: r, hr => by
    obtain ⟨h1, h2⟩ := List.pairwise_cons.1 hr
    have ih := ins_none (f := f) h2
    unfold ins
    split
    · rename_i hlt
      rw [Option.map_eq_none_iff, ih]
      constructor
      · rintro ⟨x, hx, he⟩; exact ⟨x, List.mem_cons_of_mem _ hx, he⟩
      · rintro ⟨x, hx, he⟩
        rcases List.mem_cons.1 hx with rfl | hx
        · omega
        · exact ⟨x, hx, he⟩
    · split
      · rename_i he; exact ⟨fun _ => ⟨t, List.mem_cons_self, he⟩, fun _ => rfl⟩
      · rename_i hn he
        constructor
        · intro h; cases h
        · rintro ⟨x, hx, hxe⟩
          rcases List.mem_cons.1 hx with rfl | hx
          · exact absurd hxe he
          · have := h1 x hx; omega

/-- No tag stands in both, nor twice. -/
def Apart (ts : List Tree) : Prop := ts.Pairwise fun a b => a.tag ≠ b.tag

theorem insAll_some : ∀ (fs out : List Tree), Rising out → Apart (out ++ fs) → ∃ o, insAll out fs = some o ∧ Rising o ∧ o.Perm (out ++ fs)
  | [], out, hr, _ => ⟨out, rfl, hr, by rw [List.append_nil]⟩
  | f :: r, out, hr, ha => by
    have hnone : ins f out ≠ none := fun h => by
      obtain ⟨t, ht, he⟩ := (ins_none hr).1 h
      exact (List.pairwise_append.1 ha).2.2 t ht f List.mem_cons_self he
    obtain ⟨o, ho⟩ := Option.ne_none_iff_exists'.1 hnone
    have hp := ins_perm ho
    have hp2 : (o ++ r).Perm (out ++ f :: r) := (hp.append_right r).trans (List.perm_middle.symm)
    obtain ⟨o', k1, k2, k3⟩ := insAll_some r o (ins_rising hr ho) (hp2.symm.pairwise ha fun h e => h e.symm)
    exact ⟨o', by rw [insAll, ho]; exact k1, k2, k3.trans hp2⟩

/-- Rising lists of the same fields are the same. -/
theorem rising_same : ∀ {a b : List Tree}, Rising a → Rising b → a.Perm b → a = b
  | [], b, _, _, h => (List.nil_perm.1 h).symm ▸ rfl
  | x :: r, [], _, _, h => by have := h.length_eq; simp at this
  | x :: r, y :: s, ha, hb, h => by
    obtain ⟨h1, h2⟩ := List.pairwise_cons.1 ha
    obtain ⟨h3, h4⟩ := List.pairwise_cons.1 hb
    have e : x = y := by
      rcases List.mem_cons.1 (h.mem_iff.1 (List.mem_cons_self (a := x) (l := r))) with e | hx
      · exact e
      · rcases List.mem_cons.1 (h.mem_iff.2 (List.mem_cons_self (a := y) (l := s))) with e | hy
        · exact e.symm
        · have := h3 x hx; have := h1 y hy; omega
    subst e
    rw [rising_same h2 h4 (List.perm_cons x |>.1 h)]

theorem apart_of {ts : List Tree} (h : Rising ts) : Apart ts := h.imp fun hab => by omega

/-- Two parts of rising fields, in whatever order, come together to what they were of. -/
theorem ins_parts {l a b : List Tree} (hl : Rising l) (hp : (a ++ b).Perm l) : insAll [] (a ++ b) = some l := by
  obtain ⟨o, h1, h2, h3⟩ := insAll_some (a ++ b) [] List.Pairwise.nil (by rw [List.nil_append]; exact hp.symm.pairwise (apart_of hl) fun h e => h e.symm)
  rw [List.nil_append] at h3
  rw [h1, rising_same h2 hl (h3.trans hp)]

theorem insAll_append (out a b : List Tree) : insAll out (a ++ b) = (insAll out a).bind fun o => insAll o b := by
  induction a generalizing out with
  | nil => rfl
  | cons f r ih =>
    rw [List.cons_append, insAll, insAll]
    cases ins f out with
    | none => rfl
    | some o => exact ih o

/-- A tag that is there already: none. -/
theorem insAll_twice {l b : List Tree} (hl : Rising l) {f : Tree} {r : List Tree} (hb : b = f :: r) (hf : f ∈ l) : insAll [] (l ++ b) = none := by
  have h1 := ins_parts (a := l) (b := []) hl (by rw [List.append_nil])
  rw [List.append_nil] at h1
  rw [insAll_append, h1, hb]
  show (ins f l).bind _ = none
  rw [(ins_none hl).2 ⟨f, hf, rfl⟩]
  rfl

end Go.Proofs.YtieheclnkopfpaaGreatDoor.pm
