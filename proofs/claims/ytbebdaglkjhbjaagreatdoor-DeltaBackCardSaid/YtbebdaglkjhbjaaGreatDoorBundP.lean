/-
  Pmath, Pref, Psort, Pmerge, Ppart, Pmisc, Pfind, Psrt, Pcat
-/
import Derived.Test.YtbebdaglkjhbjaaGreatDoorBundT
import Derived.Handy
import Derived.Deep.LoopGhost
import Derived.Test.YtbebdaglkjhbjaaGreatDoorBundF
import Derived.Maps.OwnOps
import Derived.Maps.Views
import Derived.Test.YtbebdaglkjhbjaaGreatDoorBundA
import Derived.Test.YtbebdaglkjhbjaaGreatDoorBundW
import Derived.Test.YtbebdaglkjhbjaaGreatDoorSlay

/-
  Mathematics of picking: parts of a list, lists brought together by rising tags.
-/
namespace Go.Proofs.YtbebdaglkjhbjaaGreatDoor.pm
open Go.Proofs.YtbebdaglkjhbjaaGreatDoor.tr
set_option linter.unusedVariables false
set_option linter.unusedSimpArgs false

/-- The tags rise. -/
def Rising (ts : List Tree) : Prop := ts.Pairwise fun a b => a.tag < b.tag

theorem rising_of {d : Nat} : ∀ {ts : List Tree} {p : Nat}, checkL d p ts = 0 → Rising ts ∧ ∀ t ∈ ts, p < t.tag
  | [], p, _ => ⟨List.Pairwise.nil, fun t h => by simp at h⟩
  | t :: r, p, h => by
    obtain ⟨h0, h1, h2, h3, h4, h5, h6⟩ := check_ok h
    obtain ⟨k1, k2⟩ := rising_of h6
    refine ⟨List.pairwise_cons.2 ⟨k2, k1⟩, fun x hx => ?_⟩
    rcases List.mem_cons.1 hx with rfl | hx
    · exact h2
    · have := k2 x hx; omega

/-- What is chosen out of fields that may be may be. -/
theorem check_filter (d : Nat) (q : Tree → Bool) : ∀ (ts : List Tree) (p : Nat), checkL d p ts = 0 → checkL d p (ts.filter q) = 0
  | [], p, h => h
  | t :: r, p, h => by
    obtain ⟨h0, h1, h2, h3, h4, h5, h6⟩ := check_ok h
    have ih := check_filter d q r t.tag h6
    rw [List.filter_cons]
    split
    · exact check_mk h0 h1 h2 h3 h4 h5 ih
    · exact check_prev ih (by omega)

/-- A field put at its place; none: its tag is there. -/
def ins (f : Tree) : List Tree → Option (List Tree)
  | [] => some [f]
  | t :: r => if t.tag < f.tag then (ins f r).map (t :: ·) else if t.tag = f.tag then none else some (f :: t :: r)
def insAll : List Tree → List Tree → Option (List Tree)
  | out, [] => some out
  | out, f :: r => (ins f out).bind fun o => insAll o r

/-- At which place: behind all that are below it. -/
def place (f : Tree) : List Tree → Nat
  | [] => 0
  | t :: r => if t.tag < f.tag then place f r + 1 else 0
theorem place_le (f : Tree) : ∀ ts, place f ts ≤ ts.length
  | [] => Nat.le_refl _
  | t :: r => by
    have := place_le f r
    unfold place
    split <;> simp <;> omega
theorem place_below (f : Tree) : ∀ (ts : List Tree) (i : Nat) (t : Tree), i < place f ts → ts[i]? = some t → t.tag < f.tag
  | [], i, t, h, _ => by simp [place] at h
  | x :: r, i, t, h, ht => by
    unfold place at h
    split at h
    · rename_i hx
      cases i with
      | zero => simp at ht; subst ht; exact hx
      | succ i => exact place_below f r i t (by omega) (by simpa using ht)
    · omega
theorem place_at (f : Tree) : ∀ (ts : List Tree) (t : Tree), ts[place f ts]? = some t → f.tag ≤ t.tag
  | [], t, ht => by simp at ht
  | x :: r, t, ht => by
    unfold place at ht
    split at ht
    · exact place_at f r t (by simpa using ht)
    · simp at ht; subst ht; omega
theorem ins_place (f : Tree) : ∀ ts : List Tree, ins f ts = if (ts[place f ts]?).map Tree.tag = some f.tag then none else some (ts.take (place f ts) ++ f :: ts.drop (place f ts))
  | [] => by simp [ins, place]
  | t :: r => by
    have ih := ins_place f r
    unfold ins place
    by_cases h : t.tag < f.tag
    · rw [if_pos h, if_pos h, ih]
      simp only [List.getElem?_cons_succ, List.take_succ_cons, List.drop_succ_cons]
      split <;> simp
    · rw [if_neg h, if_neg h]
      by_cases h2 : t.tag = f.tag
      · rw [if_pos h2]; simp [h2]
      · rw [if_neg h2]; simp [h2]

theorem ins_perm {f : Tree} : ∀ {ts o : List Tree}, ins f ts = some o → o.Perm (f :: ts)
  | [], o, h => by simp [ins] at h; subst h; exact List.Perm.refl _
  | t :: r, o, h => by
    unfold ins at h
    split at h
    · obtain ⟨o', h1, rfl⟩ := Option.map_eq_some_iff.1 h
      exact ((ins_perm h1).cons t).trans (List.Perm.swap f t r)
    · split at h
      · cases h
      · simp at h; subst h; exact List.Perm.refl _
theorem ins_rising {f : Tree} : ∀ {ts o : List Tree}, Rising ts → ins f ts = some o → Rising o
  | [], o, _, h => by simp [ins] at h; subst h; exact List.pairwise_singleton _ _
  | t :: r, o, hr, h => by
    obtain ⟨h1, h2⟩ := List.pairwise_cons.1 hr
    unfold ins at h
    split at h
    · rename_i hlt
      obtain ⟨o', k1, rfl⟩ := Option.map_eq_some_iff.1 h
      refine List.pairwise_cons.2 ⟨fun x hx => ?_, ins_rising h2 k1⟩
      rcases List.mem_cons.1 ((ins_perm k1).mem_iff.1 hx) with rfl | hx
      · exact hlt
      · exact h1 x hx
    · split at h
      · cases h
      · rename_i hn he
        simp at h; subst h
        refine List.pairwise_cons.2 ⟨fun x hx => ?_, hr⟩
        rcases List.mem_cons.1 hx with rfl | hx
        · omega
        · have := h1 x hx; omega
theorem ins_none {f : Tree} : ∀ {ts : List Tree}, Rising ts → (ins f ts = none ↔ ∃ t ∈ ts, t.tag = f.tag)
  | [], _ => by simp [ins]
  | t :: r, hr => by
    obtain ⟨h1, h2⟩ := List.pairwise_cons.1 hr
    have ih := ins_none (f := f) h2
    unfold ins
    split
    · rename_i hlt
      rw [Option.map_eq_none_iff, ih]
      constructor
      · rintro ⟨x, hx, he⟩; exact ⟨x, List.mem_cons_of_mem _ hx, he⟩
      · rintro ⟨x, hx, he⟩
        rcases List.mem_cons.1 hx with rfl | hx
        · omega
        · exact ⟨x, hx, he⟩
    · split
      · rename_i he; exact ⟨fun _ => ⟨t, List.mem_cons_self, he⟩, fun _ => rfl⟩
      · rename_i hn he
        constructor
        · intro h; cases h
        · rintro ⟨x, hx, hxe⟩
          rcases List.mem_cons.1 hx with rfl | hx
          · exact absurd hxe he
          · have := h1 x hx; omega

/-- No tag stands in both, nor twice. -/
def Apart (ts : List Tree) : Prop := ts.Pairwise fun a b => a.tag ≠ b.tag

theorem insAll_some : ∀ (fs out : List Tree), Rising out → Apart (out ++ fs) → ∃ o, insAll out fs = some o ∧ Rising o ∧ o.Perm (out ++ fs)
  | [], out, hr, _ => ⟨out, rfl, hr, by rw [List.append_nil]⟩
  | f :: r, out, hr, ha => by
    have hnone : ins f out ≠ none := fun h => by
      obtain ⟨t, ht, he⟩ := (ins_none hr).1 h
      exact (List.pairwise_append.1 ha).2.2 t ht f List.mem_cons_self he
    obtain ⟨o, ho⟩ := Option.ne_none_iff_exists'.1 hnone
    have hp := ins_perm ho
    have hp2 : (o ++ r).Perm (out ++ f :: r) := (hp.append_right r).trans (List.perm_middle.symm)
    obtain ⟨o', k1, k2, k3⟩ := insAll_some r o (ins_rising hr ho) (hp2.symm.pairwise ha fun h e => h e.symm)
    exact ⟨o', by rw [insAll, ho]; exact k1, k2, k3.trans hp2⟩

/-- Rising lists of the same fields are the same. -/
theorem rising_same : ∀ {a b : List Tree}, Rising a → Rising b → a.Perm b → a = b
  | [], b, _, _, h => (List.nil_perm.1 h).symm ▸ rfl
  | x :: r, [], _, _, h => by have := h.length_eq; simp at this
  | x :: r, y :: s, ha, hb, h => by
    obtain ⟨h1, h2⟩ := List.pairwise_cons.1 ha
    obtain ⟨h3, h4⟩ := List.pairwise_cons.1 hb
    have e : x = y := by
      rcases List.mem_cons.1 (h.mem_iff.1 (List.mem_cons_self (a := x) (l := r))) with e | hx
      · exact e
      · rcases List.mem_cons.1 (h.mem_iff.2 (List.mem_cons_self (a := y) (l := s))) with e | hy
        · exact e.symm
        · have := h3 x hx; have := h1 y hy; omega
    subst e
    rw [rising_same h2 h4 (List.perm_cons x |>.1 h)]

theorem apart_of {ts : List Tree} (h : Rising ts) : Apart ts := h.imp fun hab => by omega

/-- Two parts of rising fields, in whatever order, come together to what they were of. -/
theorem ins_parts {l a b : List Tree} (hl : Rising l) (hp : (a ++ b).Perm l) : insAll [] (a ++ b) = some l := by
  obtain ⟨o, h1, h2, h3⟩ := insAll_some (a ++ b) [] List.Pairwise.nil (by rw [List.nil_append]; exact hp.symm.pairwise (apart_of hl) fun h e => h e.symm)
  rw [List.nil_append] at h3
  rw [h1, rising_same h2 hl (h3.trans hp)]

theorem insAll_append (out a b : List Tree) : insAll out (a ++ b) = (insAll out a).bind fun o => insAll o b := by
  induction a generalizing out with
  | nil => rfl
  | cons f r ih =>
    rw [List.cons_append, insAll, insAll]
    cases ins f out with
    | none => rfl
    | some o => exact ih o

/-- A tag that is there already: none. -/
theorem insAll_twice {l b : List Tree} (hl : Rising l) {f : Tree} {r : List Tree} (hb : b = f :: r) (hf : f ∈ l) : insAll [] (l ++ b) = none := by
  have h1 := ins_parts (a := l) (b := []) hl (by rw [List.append_nil])
  rw [List.append_nil] at h1
  rw [insAll_append, h1, hb]
  show (ins f l).bind _ = none
  rw [(ins_none hl).2 ⟨f, hf, rfl⟩]
  rfl

end Go.Proofs.YtbebdaglkjhbjaaGreatDoor.pm

/-
  The document's Has and Split.
-/
namespace Go.Proofs.YtbebdaglkjhbjaaGreatDoor.pm
open Go.RowKit Go.Proofs.YtbebdaglkjhbjaaGreatDoor.tr
set_option linter.unusedVariables false
set_option linter.unusedSimpArgs false

/-- A slice of numbers that is read. -/
def Tgs (w : World) (v : Value) (us : List Nat) : Prop :=
  us.length ≤ maxLen ∧ ∃ a cap, v = .slice a us.length cap ∧ (us = [] ∨ ∃ b off, a = some ⟨b, off, none⟩ ∧ b < w.heap.size ∧ us.length ≤ cap ∧ cap ≤ maxLen ∧ ∀ i x, us[i]? = some x → w.cell? ⟨b, off + i, none⟩ = some (.int .u64 (x : Nat)))
theorem Tgs.grown {w w' : World} {v : Value} {us : List Nat} (h : Tgs w v us) (g : w.grownBy w' none) : Tgs w' v us := by
  obtain ⟨h0, a, cap, h1, h2⟩ := h
  refine ⟨h0, a, cap, h1, ?_⟩
  rcases h2 with h2 | ⟨b, off, k1, k2, k3, k4, k5⟩
  · exact .inl h2
  · exact .inr ⟨b, off, k1, Nat.lt_of_lt_of_le k2 g.size, k3, k4, fun i x hi => by rw [World.cell?_of_block (g.block b k2 (by simp))]; exact k5 i x hi⟩

def inB (us : List Nat) (t : Tree) : Bool := decide (t.tag ∈ us)

end Go.Proofs.YtbebdaglkjhbjaaGreatDoor.pm

/-
  Lists brought together by sorting: the same as one field put at its place behind the other.
-/
namespace Go.Proofs.YtbebdaglkjhbjaaGreatDoor.pm
open Go.Proofs.YtbebdaglkjhbjaaGreatDoor.tr
set_option linter.unusedVariables false
set_option linter.unusedSimpArgs false

theorem insAll_facts : ∀ (fs out o : List Tree), Rising out → insAll out fs = some o → Rising o ∧ o.Perm (out ++ fs)
  | [], out, o, hr, h => by
    simp only [insAll, Option.some.injEq] at h
    subst h
    exact ⟨hr, by rw [List.append_nil]⟩
  | f :: r, out, o, hr, h => by
    rw [insAll] at h
    obtain ⟨o1, h1, h2⟩ := Option.bind_eq_some_iff.1 h
    obtain ⟨k1, k2⟩ := insAll_facts r o1 o (ins_rising hr h1) h2
    exact ⟨k1, k2.trans (((ins_perm h1).append_right r).trans List.perm_middle.symm)⟩

/-- Somewhere two neighbours have one tag. -/
def twiceB : List Tree → Bool
  | [] => false
  | [_] => false
  | a :: b :: r => a.tag == b.tag || twiceB (b :: r)

theorem twice_iff : ∀ (ts : List Tree), twiceB ts = true ↔ ∃ (i : Nat) (t u : Tree), ts[i]? = some t ∧ ts[i + 1]? = some u ∧ t.tag = u.tag
  | [] => by simp [twiceB]
  | [a] => by simp [twiceB]
  | a :: b :: r => by
    have ih := twice_iff (b :: r)
    rw [twiceB, Bool.or_eq_true, beq_iff_eq, ih]
    constructor
    · rintro (h | ⟨i, t, u, h1, h2, h3⟩)
      · exact ⟨0, a, b, rfl, rfl, h⟩
      · exact ⟨i + 1, t, u, by simpa using h1, by simpa using h2, h3⟩
    · rintro ⟨i, t, u, h1, h2, h3⟩
      cases i with
      | zero => simp at h1 h2; subst h1 h2; exact .inl h3
      | succ i => exact .inr ⟨i, t, u, by simpa using h1, by simpa using h2, h3⟩

theorem twice_not {ts : List Tree} (hs : ts.Pairwise fun a b => a.tag ≤ b.tag) (h : twiceB ts = false) : Rising ts := by
  induction ts with
  | nil => exact List.Pairwise.nil
  | cons a r ih =>
    obtain ⟨h1, h2⟩ := List.pairwise_cons.1 hs
    cases r with
    | nil => exact List.pairwise_singleton _ _
    | cons b r =>
      rw [twiceB, Bool.or_eq_false_iff, beq_eq_false_iff_ne] at h
      have h3 := ih h2 h.2
      refine List.pairwise_cons.2 ⟨fun x hx => ?_, h3⟩
      have h4 := h1 b (by simp)
      rcases List.mem_cons.1 hx with rfl | hx
      · have := h.1; omega
      · have := (List.pairwise_cons.1 h3).1 x hx; have := h.1; omega

theorem twice_apart : ∀ {ts : List Tree}, Apart ts → twiceB ts = false
  | [], _ => rfl
  | [_], _ => rfl
  | a :: b :: r, h => by
    obtain ⟨h1, h2⟩ := List.pairwise_cons.1 h
    rw [twiceB, Bool.or_eq_false_iff, beq_eq_false_iff_ne]
    exact ⟨h1 b (by simp), twice_apart h2⟩

/-- Sorted by tags: what comes together, or a tag that stands twice. -/
theorem insAll_sorted {F G : List Tree} (hp : G.Perm F) (hs : G.Pairwise fun a b => a.tag ≤ b.tag) : insAll [] F = if twiceB G = true then none else some G := by
  by_cases h : twiceB G = true
  · rw [if_pos h]
    cases hi : insAll [] F with
    | none => rfl
    | some o =>
      obtain ⟨k1, k2⟩ := insAll_facts F [] o List.Pairwise.nil hi
      rw [List.nil_append] at k2
      have ha : Apart G := (k2.trans hp.symm).pairwise (apart_of k1) fun h e => h e.symm
      rw [twice_apart ha] at h
      cases h
  · rw [if_neg h]
    have hr := twice_not hs (by simpa using h)
    have := ins_parts (l := G) (a := F) (b := []) hr (by rw [List.append_nil]; exact hp.symm)
    rwa [List.append_nil] at this

end Go.Proofs.YtbebdaglkjhbjaaGreatDoor.pm

/-
  The document's Merge.
-/
namespace Go.Proofs.YtbebdaglkjhbjaaGreatDoor.pm
open Go.RowKit Go.Proofs.YtbebdaglkjhbjaaGreatDoor.tr
set_option linter.unusedVariables false
set_option linter.unusedSimpArgs false

/-- A slice of lists that is read. -/
def Lls (w : World) (S : Nat → Prop) (v : Value) (Ls : List (List Tree)) : Prop :=
  Ls.length ≤ 1000 ∧ ∃ a cap, v = .slice a Ls.length cap ∧ (Ls = [] ∨ ∃ b off, a = some ⟨b, off, none⟩ ∧ b < w.heap.size ∧ Ls.length ≤ cap ∧ cap ≤ maxLen ∧ ∀ i l, Ls[i]? = some l → ∃ u, w.cell? ⟨b, off + i, none⟩ = some u ∧ Rd w S u l)
theorem Lls.grown {w w' : World} {S : Nat → Prop} {v : Value} {Ls : List (List Tree)} (h : Lls w S v Ls) (g : w.grownBy w' none) : Lls w' S v Ls := by
  obtain ⟨h0, a, cap, h1, h2⟩ := h
  refine ⟨h0, a, cap, h1, ?_⟩
  rcases h2 with h2 | ⟨b, off, k1, k2, k3, k4, k5⟩
  · exact .inl h2
  · exact .inr ⟨b, off, k1, Nat.lt_of_lt_of_le k2 g.size, k3, k4, fun i l hi => by
      obtain ⟨u, j1, j2⟩ := k5 i l hi
      exact ⟨u, by rw [World.cell?_of_block (g.block b k2 (by simp))]; exact j1, j2.grown g⟩⟩
theorem Lls.at {w : World} {S : Nat → Prop} {a : Option Addr} {n cap i : Nat} {Ls : List (List Tree)} {l : List Tree} (h : Lls w S (.slice a n cap) Ls) (hl : Ls[i]? = some l) :
    n = Ls.length ∧ ∃ b off u, a = some ⟨b, off, none⟩ ∧ Ls.length ≤ cap ∧ cap ≤ maxLen ∧ w.cell? ⟨b, off + i, none⟩ = some u ∧ Rd w S u l ∧ b < w.heap.size := by
  obtain ⟨h0, a', cap', h1, h2⟩ := h
  simp only [Value.slice.injEq] at h1
  obtain ⟨rfl, rfl, rfl⟩ := h1
  refine ⟨rfl, ?_⟩
  rcases h2 with h2 | ⟨b, off, k1, k2, k3, k4, k5⟩
  · rw [h2] at hl; simp at hl
  · obtain ⟨u, j1, j2⟩ := k5 i l hl
    exact ⟨b, off, u, k1, k3, k4, j1, j2, k2⟩

def firstErr : List (List Tree) → Nat
  | [] => 0
  | l :: r => if checkL 0 0 l ≠ 0 then checkL 0 0 l else firstErr r
def mergeR (Ls : List (List Tree)) : List Tree × Nat := if firstErr Ls ≠ 0 then ([], firstErr Ls) else match insAll [] Ls.flatten with | none => ([], 14) | some o => (o, 0)

theorem firstErr_all : ∀ {Ls : List (List Tree)}, (∀ l ∈ Ls, checkL 0 0 l = 0) → firstErr Ls = 0
  | [], _ => rfl
  | l :: r, h => by rw [firstErr, if_neg (by simp [h l (by simp)]), firstErr_all fun x hx => h x (by simp [hx])]
theorem firstErr_at : ∀ {Ls : List (List Tree)} {i : Nat} {l : List Tree}, (∀ (j : Nat) (x : List Tree), j < i → Ls[j]? = some x → checkL 0 0 x = 0) → Ls[i]? = some l → checkL 0 0 l ≠ 0 → firstErr Ls = checkL 0 0 l
  | [], i, l, _, h, _ => by simp at h
  | x :: r, 0, l, _, h, hc => by simp at h; subst h; rw [firstErr, if_pos hc]
  | x :: r, i + 1, l, ha, h, hc => by
    rw [firstErr, if_neg (by simp [ha 0 x (by omega) rfl])]
    exact firstErr_at (i := i) (fun j y hj hy => ha (j + 1) y (Nat.succ_lt_succ hj) (by simpa using hy)) (by simpa using h) hc

theorem firstErr_ok : ∀ {Ls : List (List Tree)}, firstErr Ls = 0 → ∀ l ∈ Ls, checkL 0 0 l = 0
  | [], _, l, h => by simp at h
  | x :: r, h0, l, h => by
    by_cases hc : checkL 0 0 x = 0
    · rw [firstErr, if_neg (by simp [hc])] at h0
      rcases List.mem_cons.1 h with rfl | h
      · exact hc
      · exact firstErr_ok h0 l h
    · rw [firstErr, if_pos hc] at h0
      exact absurd h0 hc

end Go.Proofs.YtbebdaglkjhbjaaGreatDoor.pm

/-
  The developers' part, Split, Without.
-/
namespace Go.Proofs.YtbebdaglkjhbjaaGreatDoor.pp
open Go.RowKit Go.Maps Go.Proofs.YtbebdaglkjhbjaaGreatDoor.tr Go.Proofs.YtbebdaglkjhbjaaGreatDoor.pm
set_option linter.unusedVariables false
set_option linter.unusedSimpArgs false

theorem sizeL_filter (q : Tree → Bool) : ∀ ts : List Tree, sizeL (ts.filter q) ≤ sizeL ts
  | [] => by simp [sizeL]
  | t :: r => by
    have := sizeL_filter q r
    rw [List.filter_cons]
    split
    · rw [sizeL_cons, sizeL_cons]; omega
    · rw [sizeL_cons]; omega

/-- What the map of some tags reads as. -/
def dOf (D : DataW Unit) : List Nat → DataW Unit
  | [] => D
  | x :: r => dOf (D.put (.int .u64 (x : Nat)) (.lit (.bool true))) r
theorem dOf_snoc (x : Nat) : ∀ (us : List Nat) (D : DataW Unit), dOf D (us ++ [x]) = (dOf D us).put (.int .u64 (x : Nat)) (.lit (.bool true))
  | [], D => rfl
  | y :: r, D => dOf_snoc x r _
theorem dOf_at (t : Nat) : ∀ (us : List Nat) (D : DataW Unit), IsMap D → (dOf D us).atKey (.int .u64 (t : Nat)) (.lit (.bool false)) = if t ∈ us then .lit (.bool true) else D.atKey (.int .u64 (t : Nat)) (.lit (.bool false))
  | [], D, h => by simp [dOf]
  | x :: r, D, h => by
    rw [dOf, dOf_at t r _ (h.put _ _)]
    by_cases hr : t ∈ r
    · rw [if_pos hr, if_pos (List.mem_cons_of_mem _ hr)]
    · rw [if_neg hr]
      by_cases hx : t = x
      · subst hx
        rw [if_pos List.mem_cons_self]
        exact atKey_put_same h (show WideAt.IsKeyLit (.int .u64 (t : Nat)) from trivial) _ _
      · rw [if_neg (by simp [hr, hx])]
        exact atKey_put_other (fun e => hx (by injection e with _ e; omega)) _ _

section
variable {H : Type} {P : Program} {k : TypeId} {w : World} {b n : Nat} {D : DataW H}
/-- 'm[k]' at bools. -/
theorem lookup_bool {t e : TypeId} (h : w.ownsMap P k (plainElem P e) b n D) (K : Keyed P k) (ht : P.underlying t = some (.map k e)) (he : P.underlying e = some .bool) (hz : (zeroValue e).run P w = .ok (.bool false) w)
    {key : Value} {kl : Lit} (hkey : keyOf P k key = some kl) : ∃ c : Bool, (Instr.lookup t (.map (some b)) key false).run P w = .ok (.bool c) w ∧ D.atKey kl (.lit (.bool false)) = .lit (.bool c) := by
  obtain ⟨v, ps, hrun, hv⟩ := h.lookup K ht hz (plainElem_bool he false) hkey
  unfold plainElem at hv
  rw [he] at hv
  cases v <;> simp at hv
  exact ⟨_, hrun, hv.1.symm⟩

theorem wpList_lookup_own_bool (w : World) {ops : Array Oper} {rest : List Oper} {o : Oper} {a : Act} {Q : Exit → Act → World → Prop}
    (hg : o.guard = none) (m x : Operand) (t : TypeId) (hop : o.op = Op.lookup t m x false)
    (k e : TypeId) (K : Keyed P k) (ht : P.underlying t = some (.map k e)) (he : P.underlying e = some .bool) (hz : (zeroValue e).run P w = .ok (.bool false) w) (b n : Nat) (D : DataW H)
    (hm : a.eval m = .map (some b)) (hown : w.ownsMap P k (plainElem P e) b n D) (key : Value) (kl : Lit) (hx : a.eval x = key) (hkey : keyOf P k key = some kl) (c0 : Bool) (hat : D.atKey kl (.lit (.bool false)) = .lit (.bool c0))
    (hK : wpList P ops Q rest (a.put o.dst (.bool c0)) w) :
    wpList P ops Q (o :: rest) a w := by
  refine wpList_plain hg fun K' hK' => ?_
  obtain ⟨c, hrun, hat'⟩ := lookup_bool hown K ht he hz hkey
  obtain rfl : c0 = c := by rw [hat] at hat'; injection hat' with e; injection e
  unfold Oper.wp
  simp [execOp, hop, hm, hx, hrun, Result.andThen]
  exact hK' _ _ hK
end

end Go.Proofs.YtbebdaglkjhbjaaGreatDoor.pp

/-
  The developers' Tags, Find, twice.
-/
namespace Go.Proofs.YtbebdaglkjhbjaaGreatDoor.pp
open Go.RowKit Go.Proofs.YtbebdaglkjhbjaaGreatDoor.tr Go.Proofs.YtbebdaglkjhbjaaGreatDoor.pm Go.Proofs.YtbebdaglkjhbjaaGreatDoor.vi Go.Proofs.YtbebdaglkjhbjaaGreatDoor.wm
set_option linter.unusedVariables false
set_option linter.unusedSimpArgs false

set_option maxHeartbeats 4000000 in
set_option maxRecDepth 100000 in
theorem tags_any (ts : List Tree) (w : World) (S : Nat → Prop) (v : Value) (hs : sizeL ts ≤ 50000) (h : Rd w S v ts) :
    Calls Tryz.prog 178 #[v] w fun e w' => ∃ v', e = .returned v' ∧ w'.ownsRow w.heap.size 47 1 v' ts.length (u64s (ts.map Tree.tag)) ∧ w.grownBy w' none := by
  have hl := len_size ts
  obtain ⟨i28, hi28, hz0, hz1, hz2⟩ := info_parts Tryz.info28
  have HR := Lib.hid h
  obtain ⟨a, cap, rfl⟩ := h.shape
  clear h
  go_enter Tryz.func178, Tryz.ntmps178
  go_wp2_with (at_make; refine wpList_make_own _ rfl _ _ 225 rfl w.heap.size 47 i28 (.int .u64 0) 1 Tryz.underlying225 hi28 hz0 hz1 _ _ _ ts.length rfl rfl rfl ?b1 ?b2 ?b3 ?_)
  case b1 => rw [hz2]; omega
  case b2 => unfold maxLen; omega
  case b3 => omega
  intro w1 ho1 hg1
  have HO1 := Lib.hid ho1
  have HG1 := Lib.hid hg1
  clear ho1 hg1
  go_wp2_with fail
  go_loopw [3, 11] (fun va q wr => ∃ i : Nat, i ≤ ts.length ∧ q = .int .i64 i ∧ wr.ownsRow w.heap.size 47 1 va i (u64s ((ts.map Tree.tag).take i)) ∧ w.grownBy wr none) (fun _ q _ => ts.length - (intOf q).toNat)
  case atStart => exact ⟨0, Nat.zero_le _, rfl, by rw [List.take_zero]; exact HO1.out, HG1.out⟩
  case round =>
    obtain ⟨i, hi, rfl, ho, hg⟩ := hrel
    have HO := Lib.hid ho
    have HG := Lib.hid hg
    have hsz := hg.size
    clear ho hg
    by_cases hlt : i < ts.length
    · obtain ⟨t, ht⟩ : ∃ t, ts[i]? = some t := ⟨ts[i], List.getElem?_eq_getElem hlt⟩
      obtain ⟨b, off, cap', lv, hv, h1, h2, h3, h4, hc, hr⟩ := (HR.out.grown HG.out).at ht
      simp only [Value.slice.injEq, true_and] at hv
      obtain ⟨rfl, rfl⟩ := hv
      obtain ⟨c0, c1, c2, c3, c4⟩ := hc
      have hga := only_alloc (only_refl wr none) (.cells #[.int .u64 (t.tag : Nat), .int .i64 t.typ, .int .u64 (t.num : Nat), .string t.text, lv] 222)
      have hgb := only_alloc hga (.cells #[.int .u64 (t.tag : Nat)] 47)
      have HOA := Lib.hid ((Chg.of_none (S := fun _ => False) hgb).ownsRow HO.out (fun _ _ e => e))
      have HGB := Lib.hid (only_trans HG.out hgb)
      have HBL := Lib.hid (fun k e => (HO.out.lt k e).1)
      have hza : (wr.alloc (.cells #[.int .u64 (t.tag : Nat), .int .i64 t.typ, .int .u64 (t.num : Nat), .string t.text, lv] 222)).heap.size = wr.heap.size + 1 := by simp
      have hcn := cell_new (wr.alloc (.cells #[.int .u64 (t.tag : Nat), .int .i64 t.typ, .int .u64 (t.num : Nat), .string t.text, lv] 222)) #[.int .u64 (t.tag : Nat)] 47 0
      rw [hza] at hcn
      have HD := Lib.hid (var_new wr 222 t lv)
      have HT : Hid (u64s ((ts.map Tree.tag).take (i + 1)) = u64s ((ts.map Tree.tag).take i) ++ [.int .u64 (t.tag : Nat)]) := by show _ = _; rw [List.take_add_one, List.getElem?_map, ht]; simp [u64s]
      obtain ⟨la, lc, rfl⟩ := hr.shape
      obtain ⟨d0, d1, d2, d3, d4⟩ := HD.out
      have HCN := Lib.hid hcn
      unfold maxLen at h2
      clear ht hr hga hgb hcn
      go_wp2_with (at_builtin; refine wpList_append_own _ rfl _ _ 225 rfl w.heap.size 47 i28 (.int .u64 0) 1 8 Tryz.underlying225 hi28 hz0 hz1 hz2 rfl (by decide) _ i (u64s ((ts.map Tree.tag).take i)) rfl HOA.out ⟨wr.heap.size + 1, 0, none⟩ 1 1 [.int .u64 (t.tag : Nat)] rfl rfl ?c1 ?c2 ?c3 ?c4 ?c5 ?_)
      case c1 =>
        intro j u hj
        match j, hj with
        | 0, hj => simp at hj; subst hj; exact HCN.out
      case c2 => intro u hu; simp at hu; subst hu; rfl
      case c3 => unfold maxLen; omega
      case c4 => omega
      case c5 => simp; omega
      intro v' w4 hown4 hg4 _
      have HO4 := Lib.hid hown4
      have HG4 := Lib.hid (below_to_none (below_of_only (below_of_none HGB.out) hg4 HGB.out.size (fun k e => HBL.out k e)))
      clear hown4 hg4
      go_wp2_with fail
      go_roundw
      case rel => exact ⟨i + 1, by omega, by go_num, by rw [HT.out]; exact HO4.out, HG4.out⟩
      case measure => simp [intOf]; omega
    · have hie : i = ts.length := by omega
      subst hie
      rw [List.take_of_length_le (by simp)] at HO
      go_wp2_with fail
      go_ret
      exact ⟨_, rfl, HO.out, HG.out⟩

set_option maxHeartbeats 4000000 in
set_option maxRecDepth 100000 in
theorem twice_any (ts : List Tree) (w : World) (S : Nat → Prop) (v : Value) (hs : sizeL ts ≤ 100000) (h : Rd w S v ts) :
    Calls Tryz.prog 184 #[v] w fun e w' => e = .returned (.bool (twiceB ts)) ∧ w.grownBy w' none := by
  have hl := len_size ts
  have HR := Lib.hid h
  obtain ⟨a, cap, rfl⟩ := h.shape
  clear h
  go_enter Tryz.func184, Tryz.ntmps184
  go_wp2_with fail
  go_loopw [6] (fun q wr => ∃ i : Nat, i ≤ ts.length ∧ q = .int .i64 i ∧ (∀ (j : Nat) (t u : Tree), j + 1 < i → ts[j]? = some t → ts[j + 1]? = some u → t.tag ≠ u.tag) ∧ w.grownBy wr none) (fun q _ => ts.length - (intOf q).toNat)
  case atStart => exact ⟨0, Nat.zero_le _, rfl, fun j t u hj => by omega, only_refl _ _⟩
  case round =>
    obtain ⟨i, hi, rfl, hall, hg⟩ := hrel
    have HA := Lib.hid hall
    have HG := Lib.hid hg
    clear hall hg
    by_cases hlt : i < ts.length
    · obtain ⟨t, ht⟩ : ∃ t, ts[i]? = some t := ⟨ts[i], List.getElem?_eq_getElem hlt⟩
      by_cases h0 : i = 0
      · subst h0
        go_wp2_with fail
        go_quiet (fail)
        go_wp2_with fail
        go_roundw
        case rel => exact ⟨1, by omega, rfl, fun j t u hj => by omega, only_drewN HG.out _⟩
        case measure => simp [intOf]; omega
      · obtain ⟨j, rfl⟩ : ∃ j, i = j + 1 := ⟨i - 1, by omega⟩
        obtain ⟨u, hu⟩ : ∃ u, ts[j]? = some u := ⟨ts[j], List.getElem?_eq_getElem (by omega)⟩
        obtain ⟨b, off, cap', lv, hv, h1, h2, h3, h4, hc, hr⟩ := (HR.out.grown HG.out).at ht
        simp only [Value.slice.injEq, true_and] at hv
        obtain ⟨rfl, rfl⟩ := hv
        obtain ⟨b', off', cap'', lv', hv', -, -, -, -, hc', -⟩ := (HR.out.grown HG.out).at hu
        simp only [Value.slice.injEq, Option.some.injEq, Addr.mk.injEq, and_true, true_and] at hv'
        obtain ⟨⟨rfl, rfl⟩, rfl⟩ := hv'
        have c0 := hc.c0
        have d0 := hc'.c0
        have HX := Lib.hid ht
        have HY := Lib.hid hu
        have e1 : (j : Int) + 1 - 1 = (j : Int) := by omega
        have e2 : ((j + 1 : Nat) : Int) = (j : Int) + 1 := by omega
        unfold maxLen at h2
        clear ht hu hc hc' hr
        have hpos : (0 : Int) < (j : Int) + 1 := by omega
        by_cases he : t.tag = u.tag
        · have hb : ((t.tag : Int) == (u.tag : Int)) = true := by rw [beq_iff_eq]; omega
          have HE := Lib.hid he
          clear he
          go_wp2_with fail
          go_quiet (fail)
          go_wp2_with fail
          go_ret
          exact ⟨ret1 (congrArg Value.bool ((twice_iff ts).2 ⟨j, u, t, HY.out, HX.out, HE.out.symm⟩).symm), only_drewN HG.out _⟩
        · have hb : ((t.tag : Int) == (u.tag : Int)) = false := by rw [beq_eq_false_iff_ne]; omega
          have HE := Lib.hid he
          clear he
          go_wp2_with fail
          go_quiet (fail)
          go_wp2_with fail
          go_roundw
          case rel =>
            refine ⟨j + 2, by omega, by go_num, fun k x y hk h1 h2 => ?_, only_drewN HG.out _⟩
            by_cases hkj : k + 1 < j + 1
            · exact HA.out k x y hkj h1 h2
            · obtain rfl : k = j := by omega
              rw [HY.out] at h1
              rw [HX.out] at h2
              simp only [Option.some.injEq] at h1 h2
              subst h1 h2
              exact fun e => HE.out e.symm
          case measure => simp [intOf]; omega
    · have hie : i = ts.length := by omega
      subst hie
      go_wp2_with fail
      go_ret
      exact ⟨ret1 (congrArg Value.bool (by
        symm
        cases hb : twiceB ts with
        | false => rfl
        | true =>
          obtain ⟨j, t, u, h1, h2, h3⟩ := (twice_iff ts).1 hb
          exact absurd h3 (HA.out j t u (List.getElem?_eq_some_iff.1 h2).1 h1 h2))), HG.out⟩

end Go.Proofs.YtbebdaglkjhbjaaGreatDoor.pp

/-
  The developers' Find.
-/
namespace Go.Proofs.YtbebdaglkjhbjaaGreatDoor.pp
open Go.RowKit Go.Proofs.YtbebdaglkjhbjaaGreatDoor.tr Go.Proofs.YtbebdaglkjhbjaaGreatDoor.pm Go.Proofs.YtbebdaglkjhbjaaGreatDoor.vi Go.Proofs.YtbebdaglkjhbjaaGreatDoor.wm
set_option linter.unusedVariables false
set_option linter.unusedSimpArgs false

/-- The field of a tag. -/
def findR (tag : Nat) : List Tree → Tree × Bool
  | [] => (zeroT, false)
  | t :: r => if t.tag = tag then (t, true) else findR tag r
theorem findR_at {tag : Nat} : ∀ {ts : List Tree} {i : Nat} {t : Tree}, (∀ (j : Nat) (x : Tree), j < i → ts[j]? = some x → x.tag ≠ tag) → ts[i]? = some t → t.tag = tag → findR tag ts = (t, true)
  | [], i, t, _, h, _ => by simp at h
  | x :: r, 0, t, _, h, he => by simp at h; subst h; rw [findR, if_pos he]
  | x :: r, i + 1, t, ha, h, he => by
    rw [findR, if_neg (ha 0 x (by omega) rfl)]
    exact findR_at (i := i) (fun j y hj hy => ha (j + 1) y (Nat.succ_lt_succ hj) (by simpa using hy)) (by simpa using h) he
theorem findR_none {tag : Nat} : ∀ {ts : List Tree}, (∀ (j : Nat) (x : Tree), ts[j]? = some x → x.tag ≠ tag) → findR tag ts = (zeroT, false)
  | [], _ => rfl
  | x :: r, ha => by
    rw [findR, if_neg (ha 0 x rfl)]
    exact findR_none fun j y hy => ha (j + 1) y (by simpa using hy)

theorem results_cell2 {P : Program} {fn : Func} {p u : Tmp} {ty : TypeId} (h : fn.results = #[.cell p ty, .tmp u]) (tmps : Array Value) (w : World) (g : Nat) (t : TypeId) (cs : Array Value) (fr : Nat × Nat) (d : TypeDesc)
    (hp : tmps.getD p undef = .pointer (some ⟨g, 0, none⟩)) (hg : w.heap[g]? = some (.cells cs t fr))
    (hu : P.underlying ty = some d) (hd : (match d with | .struct _ | .array _ _ => true | _ => false) = true) (hi : (P.info? ty).map (·.size) = some cs.size) :
    (results fn tmps).run P w = .ok (.tuple #[.agg cs, tmps.getD u undef]) w := by
  have hp' : tmps[p]?.getD undef = .pointer (some ⟨g, 0, none⟩) := by simpa using hp
  simp [results, h, hp', asAddr, run_loadVar_row w g t ty cs fr d hg hu hd hi]

theorem five_at {w : World} {g : Nat} {z0 z1 z2 z3 z4 : Value} {ty : TypeId} (h : w.heap[g]? = some (.cells #[z0, z1, z2, z3, z4] ty (0, 0))) :
    (w.cell? ⟨g, 0, none⟩ = some z0 ∧ w.cell? ⟨g, 1, none⟩ = some z1 ∧ w.cell? ⟨g, 2, none⟩ = some z2 ∧ w.cell? ⟨g, 3, none⟩ = some z3 ∧ w.cell? ⟨g, 4, none⟩ = some z4) ∧
    w.frozen? ⟨g, 0, none⟩ = false ∧ w.frozen? ⟨g, 1, none⟩ = false ∧ w.frozen? ⟨g, 2, none⟩ = false ∧ w.frozen? ⟨g, 3, none⟩ = false ∧ w.frozen? ⟨g, 4, none⟩ = false := by
  simp [World.cell?, World.frozen?, h]
theorem five_sets' (w1 : World) (g : Nat) (a b c d e : Value) : Chg (fun k => k = g) w1 (((((w1.setCell ⟨g, 0, none⟩ a).setCell ⟨g, 1, none⟩ b).setCell ⟨g, 2, none⟩ c).setCell ⟨g, 3, none⟩ d).setCell ⟨g, 4, none⟩ e) :=
  (((((Chg.refl (fun k => k = g) w1).setCell (p := ⟨g, 0, none⟩) (.inl rfl) a).setCell (p := ⟨g, 1, none⟩) (.inl rfl) b).setCell (p := ⟨g, 2, none⟩) (.inl rfl) c).setCell (p := ⟨g, 3, none⟩) (.inl rfl) d).setCell (p := ⟨g, 4, none⟩) (.inl rfl) e

/-- A row of one field. -/
theorem own_one {ty : TypeId} {base : Nat} {S : Nat → Prop} {w : World} {v : Value} {t : Tree} (h : OwnF ty base S w v [t]) :
    ∃ g cap lv, v = .slice (some ⟨g, 0, none⟩) 1 cap ∧ 1 ≤ cap ∧ cap ≤ maxLen ∧ base ≤ g ∧ g < w.heap.size ∧ Cells w g 0 t lv ∧ Rd w (fun k => S k ∨ k = g) lv t.list := by
  have hlt := h.lt
  obtain ⟨b, off, cap, lv, hv, h1, h2, h3, h4, hc, hr⟩ := h.rd.at (i := 0) (t := t) rfl
  obtain ⟨l0, o1, -⟩ := h
  rcases o1.2 with ⟨rfl, h0⟩ | ⟨g, cap', cur, rfl, hb, hg, -⟩
  · cases h0
  · simp only [Value.slice.injEq, Option.some.injEq, Addr.mk.injEq, and_true] at hv
    obtain ⟨⟨rfl, rfl⟩, -, rfl⟩ := hv
    refine ⟨g, cap', lv, rfl, h1, h2, hb, h4, by simpa using hc, hr.mono fun k _ hk => ?_⟩
    rcases hk with hk | hk
    · exact .inl hk
    · exact .inr (by simpa [Value.ownBlock] using hk.symm)

end Go.Proofs.YtbebdaglkjhbjaaGreatDoor.pp

/-
  The library's sort of fields by their tags.
-/
namespace Go.Proofs.YtbebdaglkjhbjaaGreatDoor.pp
open Go.RowKit Go.Lib Go.Sort Go.Proofs.YtbebdaglkjhbjaaGreatDoor.tr Go.Proofs.YtbebdaglkjhbjaaGreatDoor.pm Go.Proofs.YtbebdaglkjhbjaaGreatDoor.wm
set_option linter.unusedVariables false
set_option linter.unusedSimpArgs false

instance : Inhabited Tree := ⟨.mk 0 0 0 ⟨#[]⟩ []⟩

/-- A field as it lies in a row: the field, and where its list is. -/
abbrev Cel := Tree × Option Addr × Nat
def encF (x : Cel) : List Value := [.int .u64 (x.1.tag : Nat), .int .i64 x.1.typ, .int .u64 (x.1.num : Nat), .string x.1.text, .slice x.2.1 x.1.list.length x.2.2]
def cmpT (a b : Nat) : Int := if a < b then -1 else if b < a then 1 else 0

theorem ltT (x y : Cel) : ltOf (fun x y : Cel => cmpT x.1.tag y.1.tag) x y = decide (x.1.tag < y.1.tag) := by
  unfold ltOf cmpT
  by_cases h1 : x.1.tag < y.1.tag
  · simp [h1]
  · by_cases h2 : y.1.tag < x.1.tag <;> simp [h1, h2]
theorem swoT : SWO (ltOf fun x y : Cel => cmpT x.1.tag y.1.tag) where
  irrefl x := by rw [ltT]; simp
  trans x y z h1 h2 := by rw [ltT] at *; simp at *; omega
  ntrans x y z h1 h2 := by rw [ltT] at *; simp at *; omega

set_option maxHeartbeats 1000000 in
theorem nan_any (a : Nat) (w : World) : Calls Tryz.prog 204 #[.int .u64 (a : Nat)] w fun e w' => e = .returned (.bool false) ∧ w = w' := by
  have hb : ((a : Int) != (a : Int)) = false := by simp
  go_enter Tryz.func204, Tryz.ntmps204
  go_wp2_with fail
  go_ret
  exact ⟨rfl, rfl⟩

set_option maxHeartbeats 2000000 in
theorem compare_any (a b : Nat) (w : World) : Calls Tryz.prog 190 #[.int .u64 (a : Nat), .int .u64 (b : Nat)] w fun e w' => e = .returned (.int .i64 (cmpT a b)) ∧ w = w' := by
  have HA := Lib.hid (fun w => nan_any a w)
  have HB := Lib.hid (fun w => nan_any b w)
  unfold cmpT
  by_cases h1 : a < b
  · rw [if_pos h1]
    go_enter Tryz.func190, Tryz.ntmps190
    go_wp2_with fail
    refine (HA.out _).mono ?_
    rintro e w1 ⟨rfl, rfl⟩
    go_wp2_with fail
    refine (HB.out _).mono ?_
    rintro e w2 ⟨rfl, rfl⟩
    go_wp2_with fail
    go_ret
    exact ⟨rfl, rfl⟩
  · rw [if_neg h1]
    by_cases h2 : b < a
    · rw [if_pos h2]
      go_enter Tryz.func190, Tryz.ntmps190
      go_wp2_with fail
      refine (HA.out _).mono ?_
      rintro e w1 ⟨rfl, rfl⟩
      go_wp2_with fail
      refine (HB.out _).mono ?_
      rintro e w2 ⟨rfl, rfl⟩
      go_wp2_with fail
      go_ret
      exact ⟨rfl, rfl⟩
    · rw [if_neg h2]
      go_enter Tryz.func190, Tryz.ntmps190
      go_wp2_with fail
      refine (HA.out _).mono ?_
      rintro e w1 ⟨rfl, rfl⟩
      go_wp2_with fail
      refine (HB.out _).mono ?_
      rintro e w2 ⟨rfl, rfl⟩
      go_wp2_with fail
      go_ret
      exact ⟨rfl, rfl⟩

set_option maxHeartbeats 1000000 in
theorem byTag_any (x y : Cel) (W : World) : Calls Tryz.prog 183 #[.agg #[.int .u64 (x.1.tag : Nat), .int .i64 x.1.typ, .int .u64 (x.1.num : Nat), .string x.1.text, .slice x.2.1 x.1.list.length x.2.2], .agg #[.int .u64 (y.1.tag : Nat), .int .i64 y.1.typ, .int .u64 (y.1.num : Nat), .string y.1.text, .slice y.2.1 y.1.list.length y.2.2]] W fun e w' =>
    e = .returned (.int .i64 (cmpT x.1.tag y.1.tag)) ∧ ∃ q os', w' = grow (W.drewN q) os' := by
  have HC := Lib.hid (fun w => compare_any x.1.tag y.1.tag w)
  generalize cmpT x.1.tag y.1.tag = r at *
  go_enter Tryz.func183, Tryz.ntmps183
  go_wp2_with fail
  refine (HC.out _).mono ?_
  rintro e w1 ⟨rfl, rfl⟩
  go_wp2_with fail
  go_ret
  exact ⟨rfl, 0, _, by rw [alloc_eq_grow, alloc_eq_grow, grow_grow]; rfl⟩

theorem byTag_lays (blk off size : Nat) (w : World) : CmpLays Tryz.prog 183 #[] encF 5 (fun x y => cmpT x.1.tag y.1.tag) blk off size w :=
  fun _ _ _ _ x y => byTag_any x y _

theorem isAggF (w : World) : (isAgg 222).run Tryz.prog w = .ok true w := by kernel_rfl
theorem sizeOfF (w : World) : (Go.sizeOf 222).run Tryz.prog w = .ok 5 w := by kernel_rfl

/-- The fields of a row as they lie there. -/
theorem cels_of : ∀ (ts : List Tree) (lv : Nat → Value), (∀ (i : Nat) (t : Tree), ts[i]? = some t → ∃ a c, lv i = .slice a t.list.length c) → ∃ ds : List Cel, ds.map Prod.fst = ts ∧ ∀ (i : Nat) (x : Cel), ds[i]? = some x → lv i = .slice x.2.1 x.1.list.length x.2.2
  | [], lv, _ => ⟨[], rfl, fun i x h => by simp at h⟩
  | t :: r, lv, h => by
    obtain ⟨a, c, h0⟩ := h 0 t rfl
    obtain ⟨ds, h1, h2⟩ := cels_of r (fun i => lv (i + 1)) (fun i u hu => h (i + 1) u (by simpa using hu))
    refine ⟨(t, a, c) :: ds, by simp [h1], fun i x hx => ?_⟩
    cases i with
    | zero => simp at hx; subst hx; exact h0
    | succ i => exact h2 i x (by simpa using hx)

theorem sort_worlds (enc : Cel → List Value) (w : World) (g m : Nat) (d : Array Cel) (os : Array Obj) : w.grownBy (sortWorldK enc 5 w g 0 m d os) (some g) := by
  refine ⟨rfl, rfl, rfl, ?_, fun k hk hne => ?_⟩
  · simp [sortWorldK, putRowK, putRow, mapBlock, Sort.ahead, grow]
  · have hkg : g ≠ k := fun e => hne (by rw [e])
    simp only [sortWorldK, putRowK, putRow, mapBlock, Sort.ahead, grow]
    rw [Array.getElem?_append_left (by simpa using hk), Array.getElem?_modify, if_neg hkg]

set_option maxHeartbeats 1000000 in
theorem sort_any (ts : List Tree) (w : World) (S : Nat → Prop) (base : Nat) (v : Value) (hs : ts.length ≤ 100000) (h : OwnF 222 base S w v ts) :
    Calls Tryz.prog 182 #[v, .func (.func 183) #[] #[]] w fun e w' =>
      e = .returned (.tuple #[]) ∧ ∃ ts', ts'.Perm ts ∧ (ts'.Pairwise fun a b => a.tag ≤ b.tag) ∧ Rd w' (fun k => S k ∨ v.ownBlock = some k) v ts' ∧ w.grownBy w' v.ownBlock := by
  have hall := h
  obtain ⟨lv, o1, o2, o3, o4⟩ := h
  rcases o1.2 with ⟨rfl, h0⟩ | ⟨g, cap, cur, rfl, hb, hg, hnc, hcm, hcs, htake⟩
  · obtain rfl : ts = [] := List.length_eq_zero_iff.1 h0
    refine (AnyF.slices_SortFunc_none Tryz.sortF none 0 _ w).mono ?_
    rintro e w' ⟨rfl, rfl⟩
    exact ⟨rfl, [], List.Perm.refl _, List.Pairwise.nil, .nil _ _, only_refl _ _⟩
  · obtain ⟨ds, hds, hlv⟩ := cels_of ts lv (fun i t ht => by obtain ⟨a, c, e⟩ := (o2 i t ht).shape; exact ⟨a, c, e⟩)
    have hn : ds.length = ts.length := by rw [← hds, List.length_map]
    have hcell : ∀ (i c : Nat) (x : Cel), ds[i]? = some x → c < 5 → w.cell? ⟨g, 0 + (i * 5 + c), none⟩ = some (encF x)[c]! := fun i c x hx hc => by
      have ht : ts[i]? = some x.1 := by rw [← hds, List.getElem?_map, hx]; rfl
      obtain ⟨f0, f1, f2, f3, f4⟩ := flat_get ts lv i x.1 ht
      rw [hlv i x hx] at f4
      have hq := fun j u (hj : (flat ts lv)[j]? = some u) => World.ownsRow.cells o1 (g := g) rfl j u hj
      have ha : ∀ j, (⟨g, 0, none⟩ : Addr).add j = ⟨g, 0 + j, none⟩ := fun j => Addr.add_lit ..
      simp only [ha] at hq
      rcases (show c = 0 ∨ c = 1 ∨ c = 2 ∨ c = 3 ∨ c = 4 by omega) with rfl | rfl | rfl | rfl | rfl
      · exact hq _ _ f0
      · exact hq _ _ f1
      · exact hq _ _ f2
      · exact hq _ _ f3
      · exact hq _ _ f4
    have hH : HoldsK encF 5 w g 0 ds.toArray := fun j hj => by
      rw [size_flatK] at hj
      rw [get_flatK _ _ _ _ hj]
      have hj5 : j / 5 < ds.length := by simp at hj; omega
      have hx : ds[j / 5]? = some ds.toArray[j / 5]! := by
        rw [getElem!_pos ds.toArray (j / 5) (by simpa using hj5)]
        simp
      have := hcell (j / 5) (j % 5) _ hx (by omega)
      rw [show j / 5 * 5 + j % 5 = j by omega] at this
      exact ⟨this, by simp [World.frozen?, hg]⟩
    have hlt : g < w.heap.size := (Array.getElem?_eq_some_iff.1 hg).1
    have eg : ∀ args w, (callFunc 183 args).run Tryz.prog w = .ok (.enter 183 args) w := enters_of Tryz.func183 (by kernel_rfl) rfl
    have hcon := AnyQ.slices_SortFunc Tryz.sortF 5 isAggF sizeOfF encF (fun _ => rfl) (fun x v hv => by simp [encF] at hv; rcases hv with rfl | rfl | rfl | rfl | rfl <;> rfl) (fun x y => cmpT x.1.tag y.1.tag) swoT 183 #[] g 0 cap ds.toArray w eg (byTag_lays g 0 _ w) hH hlt (by simp; omega)
    change Calls Tryz.prog 182 _ _ _ at hcon
    have hsz : ds.toArray.size = ts.length := by simp [hn]
    rw [hsz] at hcon
    refine hcon.mono ?_
    rintro e w' ⟨rfl, d', m, os, ⟨hp1, -, hp3⟩, hsd, rfl⟩
    have hd's : d'.size = ts.length := by rw [hp1, hsz]
    have hperm : d'.toList.Perm ds := by
      have e1 : d'.extract 0 ts.length = d' := by rw [← hd's]; simp
      have e2 : ds.toArray.extract 0 ts.length = ds.toArray := by rw [← hsz]; simp
      rw [e1, e2] at hp3
      simpa using hp3
    have hgw := sort_worlds encF w g m d' os
    have hH2 : HoldsK encF 5 (sortWorldK encF 5 w g 0 m d' os) g 0 d' :=
      holdsK_grow encF 5 _ os g 0 d' (by simp [putRowK, putRow, mapBlock, Sort.ahead]; exact hlt) (holdsK_putRowK encF 5 (Sort.ahead w m) g 0 ds.toArray d' (holdsK_ahead encF 5 w m g 0 _ hH) hp1)
    have hget : ∀ (i : Nat) (x : Cel), d'.toList[i]? = some x → d'[i]! = x ∧ i < d'.size := fun i x hx => by
      have hi := (List.getElem?_eq_some_iff.1 hx).1
      refine ⟨?_, by simpa using hi⟩
      rw [getElem!_pos d' i (by simpa using hi)]
      obtain ⟨_, he⟩ := List.getElem?_eq_some_iff.1 hx
      simpa using he
    refine ⟨rfl, d'.toList.map Prod.fst, by rw [← hds]; exact hperm.map _, ?_, ?_, hgw⟩
    · rw [List.pairwise_map, List.pairwise_iff_getElem]
      intro i j hi hj hij
      have := hsd i j (Nat.zero_le _) hij (by rw [← hd's]; simpa using hj)
      rw [ltT, decide_eq_false_iff_not] at this
      rw [getElem!_pos d' i (by simpa using hi), getElem!_pos d' j (by simpa using hj)] at this
      simp only [Array.getElem_toList]
      omega
    · have hln : (d'.toList.map Prod.fst).length = ts.length := by simp [hd's]
      by_cases h0 : ts.length = 0
      · have : d'.toList.map Prod.fst = [] := List.length_eq_zero_iff.1 (by omega)
        rw [this, h0]
        exact .nil _ _
      · refine .row g 0 ts.length cap _ (fun i => .slice d'[i]!.2.1 d'[i]!.1.list.length d'[i]!.2.2) hln (by omega) hnc hcm (.inr rfl) (fun i t ht => ?_) (fun i t ht => ?_)
        · rw [List.getElem?_map] at ht
          obtain ⟨x, hx, rfl⟩ := Option.map_eq_some_iff.1 ht
          obtain ⟨e1, e2⟩ := hget i x hx
          have hc := fun c (hc : c < 5) => (HoldsK.cell hH2 e2 hc).1
          rw [e1] at hc
          have k0 := hc 0 (by omega)
          have k1 := hc 1 (by omega)
          have k2 := hc 2 (by omega)
          have k3 := hc 3 (by omega)
          have k4 := hc 4 (by omega)
          simp only [e1]
          exact ⟨k0, k1, k2, k3, k4⟩
        · rw [List.getElem?_map] at ht
          obtain ⟨x, hx, rfl⟩ := Option.map_eq_some_iff.1 ht
          obtain ⟨e1, e2⟩ := hget i x hx
          obtain ⟨j, hj⟩ := List.getElem?_of_mem (hperm.mem_iff.1 (List.mem_of_getElem? hx))
          have ht' : ts[j]? = some x.1 := by rw [← hds, List.getElem?_map, hj]; rfl
          have hr := o2 j x.1 ht'
          rw [hlv j x hj] at hr
          simp only [e1]
          exact (hr.kept (T := fun k => k = g) (Chg.of_grown hgw (fun k e => .inl (Option.some.inj e).symm)) (fun k hk e => o4 k (by rw [e]; rfl) hk)).mono fun k _ hk => .inl hk

end Go.Proofs.YtbebdaglkjhbjaaGreatDoor.pp

/-
  The library's Concat of fields; the developers' Merge.
-/
namespace Go.Proofs.YtbebdaglkjhbjaaGreatDoor.pp
open Go.RowKit Go.Lib Go.Proofs.YtbebdaglkjhbjaaGreatDoor.tr Go.Proofs.YtbebdaglkjhbjaaGreatDoor.pm Go.Proofs.YtbebdaglkjhbjaaGreatDoor.wm
set_option linter.unusedVariables false
set_option linter.unusedSimpArgs false

theorem own_empty (w : World) (cur : Array Value) (cap : Nat) (base : Nat) (S : Nat → Prop) (hb : base ≤ w.heap.size) (hm : cap ≤ maxLen) (hc : cur.size = cap * 5) (hS : ∀ k, S k → k < w.heap.size) : OwnF 222 base S (w.alloc (.cells cur 222)) (.slice (some ⟨w.heap.size, 0, none⟩) 0 cap) [] :=
  ⟨fun _ => .nilIface, by have := World.ownsRow_made (base := base) (size := 5) (e := 222) w cur cap hb hm hc; simpa [flat] using this, fun i t h => by simp at h, fun k hk => by have := hS k hk; simp; omega, fun k e hk => by simp [Value.ownBlock] at e; have := hS k hk; omega⟩

theorem grow_any (n : Nat) (hn : n ≤ 100000) (w : World) : Calls Tryz.prog 188 #[.slice none 0 0, .int .i64 (n : Nat)] w fun e w' => ∃ v, e = .returned v ∧ OwnF 222 w.heap.size (fun k => k < w.heap.size) w' v [] ∧ w.grownBy w' none := by
  by_cases h0 : n = 0
  · subst h0
    refine (Any8.slices_Grow_room Tryz.growF none 0 0 0 w (by omega) (by omega) (by omega) (by omega)).mono ?_
    rintro e w' ⟨rfl, rfl⟩
    exact ⟨_, rfl, (OwnF.nil _ _ _).more (fun k e => e.elim) (fun k e => e) (fun k e => by simp [Value.ownBlock] at e), only_refl _ _⟩
  · obtain ⟨i0, hi0, hz0, hs0, hb0⟩ := info_parts Tryz.infoF
    refine (Any8.slices_Grow_grow Tryz.growF i0 _ hi0 hz0 (by omega) none 0 0 n [] w (by omega) (by omega) (by rw [hb0]; omega) (by omega) (by simp) (fun _ => rfl) (fun a e => by cases e)).mono ?_
    rintro e w' ⟨rfl, rfl⟩
    have hge := grownCap_ge w (0 + n) 0 222
    have hle := grownCap_le_maxLen w (0 + n) 0 222 (by unfold maxLen; omega)
    refine ⟨_, rfl, own_empty w.drew _ _ _ _ (Nat.le_refl _) hle ?_ (fun k hk => hk), only_alloc (only_drew (only_refl _ _)) _⟩
    have hge' : 0 + n ≤ grownCap w (0 + n) 0 (Tryz.growF_ren.t 25) := hge
    generalize grownCap w (0 + n) 0 (Tryz.growF_ren.t 25) = c at *
    simp only [Array.size_append, size_zeroCells, Value.cells]
    simp
    omega

theorem flatten_take {Ls : List (List Tree)} {i : Nat} {l : List Tree} (h : Ls[i]? = some l) : (Ls.take (i + 1)).flatten = (Ls.take i).flatten ++ l := by
  rw [List.take_add_one, h]; simp
theorem flatten_le {Ls : List (List Tree)} (i : Nat) : (Ls.take i).flatten.length ≤ Ls.flatten.length := by
  have := congrArg List.length (show Ls.flatten = (Ls.take i).flatten ++ (Ls.drop i).flatten by rw [← List.flatten_append, List.take_append_drop])
  rw [List.length_append] at this; omega
theorem sizeL_flat_mem : ∀ {Ls : List (List Tree)} {l : List Tree}, l ∈ Ls → sizeL l ≤ sizeL Ls.flatten
  | x :: r, l, h => by
    rw [List.flatten_cons, sizeL_append]
    rcases List.mem_cons.1 h with rfl | h
    · omega
    · have := sizeL_flat_mem h; omega

theorem size_perm {a b : List Tree} (h : a.Perm b) : sizeL a = sizeL b := by
  induction h with
  | nil => rfl
  | cons x _ ih => rw [sizeL_cons, sizeL_cons, ih]
  | swap x y l => simp only [sizeL_cons]; omega
  | trans _ _ h1 h2 => rw [h1, h2]

theorem lls_tight {w : World} {S : Nat → Prop} {v : Value} {Ls : List (List Tree)} (h : Lls w S v Ls) : Lls w (fun k => k < w.heap.size) v Ls := by
  obtain ⟨h0, a, cap, h1, h2⟩ := h
  refine ⟨h0, a, cap, h1, ?_⟩
  rcases h2 with h2 | ⟨b, off, k1, k2, k3, k4, k5⟩
  · exact .inl h2
  · exact .inr ⟨b, off, k1, k2, k3, k4, fun i l hi => by
      obtain ⟨u, j1, j2⟩ := k5 i l hi
      exact ⟨u, j1, j2.tight.mono fun k _ hk => hk.2⟩⟩

set_option maxHeartbeats 4000000 in
set_option maxRecDepth 100000 in
theorem concat_any (Ls : List (List Tree)) (hs : Ls.flatten.length ≤ 50000) (w : World) (S : Nat → Prop) (v : Value) (h : Lls w S v Ls) :
    Calls Tryz.prog 181 #[v] w fun e w' => ∃ v', e = .returned v' ∧ OwnF 222 w.heap.size (fun k => k < w.heap.size) w' v' Ls.flatten ∧ w.grownBy w' none := by
  have HL := Lib.hid (lls_tight h)
  have hn : Ls.length ≤ 1000 := h.1
  have HG := Lib.hid (fun n hn w => grow_any n hn w)
  obtain ⟨-, a, cap, rfl, -⟩ := h
  go_enter Tryz.func181, Tryz.ntmps181
  go_wp2_with fail
  go_loopw [3, 11] (fun x q wr => ∃ i : Nat, i ≤ Ls.length ∧ q = .int .i64 i ∧ x = .int .i64 ((Ls.take i).flatten.length : Nat) ∧ w = wr) (fun _ q _ => Ls.length - (intOf q).toNat)
  case atStart => exact ⟨0, Nat.zero_le _, rfl, by simp, rfl⟩
  case round =>
    obtain ⟨i, hi, rfl, rfl, rfl⟩ := hrel
    by_cases hlt : i < Ls.length
    · obtain ⟨l, hl⟩ : ∃ l, Ls[i]? = some l := ⟨Ls[i], List.getElem?_eq_getElem hlt⟩
      obtain ⟨-, b, off, u, rfl, h1, h2, h3, h4, h5⟩ := HL.out.at hl
      obtain ⟨ua, uc, rfl⟩ := h4.shape
      have HT := Lib.hid (congrArg List.length (flatten_take hl))
      have hle := flatten_le (Ls := Ls) (i + 1)
      have hle2 := HT.out
      rw [List.length_append] at hle2
      have HT2 := Lib.hid hle2
      unfold maxLen at h2
      clear hl h4 HT hle2
      have hle3 : (Ls.take i).flatten.length + l.length ≤ 50000 := by have := HT2.out; omega
      clear hle
      generalize (Ls.take i).flatten.length = X at *
      go_wp2_with fail
      go_roundw
      case rel => exact ⟨i + 1, by omega, by go_num, congrArg (Value.int .i64) (by rw [HT2.out]; omega), by trivial⟩
      case measure => simp [intOf]; omega
    · have hie : i = Ls.length := by omega
      subst hie
      rw [List.take_length]
      obtain ⟨F, hF⟩ : ∃ F, Ls.flatten.length = F := ⟨_, rfl⟩
      rw [hF] at hs ⊢
      have HGR := Lib.hid (HG.out F (by omega))
      have HF := Lib.hid hF
      clear hF
      go_wp2_with fail
      refine (HGR.out _).mono ?_
      rintro e w1 ⟨v1, rfl, o1, g1⟩
      have HO1 := Lib.hid o1
      have HG1 := Lib.hid g1
      clear o1 g1
      go_wp2_with fail
      go_loopw [6, 27] (fun va q wr => ∃ i : Nat, i ≤ Ls.length ∧ q = .int .i64 i ∧ OwnF 222 w.heap.size (fun k => k < w.heap.size) wr va (Ls.take i).flatten ∧ w.grownBy wr none) (fun _ q _ => Ls.length - (intOf q).toNat)
      case atStart => exact ⟨0, Nat.zero_le _, rfl, by simpa using HO1.out, HG1.out⟩
      case round =>
        obtain ⟨i, hi, rfl, ho, hg⟩ := hrel
        have HO := Lib.hid ho
        have HGW := Lib.hid hg
        have hsz := hg.size
        clear ho hg HO1 HG1
        by_cases hlt : i < Ls.length
        · obtain ⟨l, hl⟩ : ∃ l, Ls[i]? = some l := ⟨Ls[i], List.getElem?_eq_getElem hlt⟩
          obtain ⟨-, b, off, u, rfl, h1, h2, h3, h4, h5⟩ := (HL.out.grown HGW.out).at hl
          have HR4 := Lib.hid h4
          obtain ⟨ua, uc, rfl⟩ := h4.shape
          have HT := Lib.hid (flatten_take hl)
          have hle := flatten_le (Ls := Ls) (i + 1)
          rw [HT.out, List.length_append, HF.out] at hle
          have hba := Lib.hid (fun k e => (HO.out.lt k e).1)
          unfold maxLen at h2
          clear hl h4
          go_wp2_with (at_builtin; refine ff.wpList_append_any rfl _ _ _ _ rfl _ Tryz.underlying218 Tryz.infoF rfl w.heap.size (fun k => k < w.heap.size) (fun k => k < w.heap.size) _ (Ls.take i).flatten l rfl HO.out _ rfl HR4.out ?c1 ?c2 ?c3 ?c4 ?_)
          case c1 => intro k hk; omega
          case c2 => intro k e hk; have := hba.out k e; omega
          case c3 => omega
          case c4 => omega
          intro v5 w5 ho5 hg5
          have HO5 := Lib.hid (ho5.more (T := fun k => k < w.heap.size) (fun k hk => by first | exact hk | exact Or.elim hk id id) (fun k hk => by have := hg5.size; omega) (fun k e => by have := (ho5.lt k e).1; omega))
          have HG5 := Lib.hid (below_to_none (below_of_only (below_of_none HGW.out) hg5 hsz (fun k e => hba.out k e)))
          clear ho5 hg5
          go_wp2_with fail
          go_roundw
          case rel => exact ⟨i + 1, by omega, by go_num, by rw [HT.out]; exact HO5.out, HG5.out⟩
          case measure => simp [intOf]; omega
        · have hie : i = Ls.length := by omega
          subst hie
          rw [List.take_length] at HO
          go_wp2_with fail
          go_ret
          exact ⟨_, rfl, HO.out, HGW.out⟩

set_option maxHeartbeats 4000000 in
set_option maxRecDepth 100000 in
theorem merge_any (Ls : List (List Tree)) (hs : sizeL Ls.flatten ≤ 50000) (w : World) (S : Nat → Prop) (v : Value) (h : Lls w S v Ls) :
    Calls Tryz.prog 174 #[v] w fun e w' => ∃ v', e = .returned (.tuple #[v', .int .i64 ((mergeR Ls).2 : Nat)]) ∧ Rd w' (fun _ => True) v' (mergeR Ls).1 ∧ w.grownBy w' none := by
  have HL := Lib.hid (lls_tight h)
  have hn : Ls.length ≤ 1000 := h.1
  have hfl : Ls.flatten.length ≤ 50000 := by have := len_size Ls.flatten; omega
  have HCC := Lib.hid (fun w1 (g : w.grownBy w1 none) => concat_any Ls hfl w1 _ v (h.grown g))
  have hv := h
  obtain ⟨-, a, cap, rfl, -⟩ := hv
  go_enter Tryz.func174, Tryz.ntmps174
  go_wp2_with fail
  go_loopw [10] (fun q wr => ∃ i : Nat, i ≤ Ls.length ∧ q = .int .i64 i ∧ (∀ (j : Nat) (x : List Tree), j < i → Ls[j]? = some x → checkL 0 0 x = 0) ∧ w.grownBy wr none) (fun q _ => Ls.length - (intOf q).toNat)
  case atStart => exact ⟨0, Nat.zero_le _, rfl, fun j x hj => by omega, only_refl _ _⟩
  case round =>
    obtain ⟨i, hi, rfl, hall, hg⟩ := hrel
    have HA := Lib.hid hall
    have HG := Lib.hid hg
    clear hall hg h
    by_cases hlt : i < Ls.length
    · obtain ⟨l, hl⟩ : ∃ l, Ls[i]? = some l := ⟨Ls[i], List.getElem?_eq_getElem hlt⟩
      have hsl := sizeL_flat_mem (List.mem_of_getElem? hl)
      obtain ⟨-, b, off, u, rfl, h1, h2, h3, h4, h5⟩ := (HL.out.grown HG.out).at hl
      have HC := Lib.hid (ff.check_any l wr _ u (by omega) h4)
      obtain ⟨ua, uc, rfl⟩ := h4.shape
      have hll := len_size l
      have hlt2 := checkL_lt _ l 0 0 (Nat.le_refl _)
      have HX := Lib.hid hl
      unfold maxLen at h2
      clear hl h4
      by_cases hc : checkL 0 0 l = 0
      · have HOK := Lib.hid hc
        rw [hc] at HC
        clear hc hlt2
        go_wp2_with fail
        refine HC.out.mono ?_
        rintro e w1 ⟨rfl, g1⟩
        have HG1 := Lib.hid (only_trans HG.out g1)
        clear g1
        go_wp2_with fail
        go_roundw
        case rel =>
          refine ⟨i + 1, by omega, by go_num, fun j x hj hx => ?_, HG1.out⟩
          by_cases hji : j < i
          · exact HA.out j x hji hx
          · obtain rfl : j = i := by omega
            rw [HX.out] at hx
            simp only [Option.some.injEq] at hx
            subst hx
            exact HOK.out
        case measure => simp [intOf]; omega
      · have HE : Hid (mergeR Ls = ([], checkL 0 0 l)) := by
          have h6 := firstErr_at HA.out HX.out hc
          show _ = _
          unfold mergeR
          rw [h6, if_pos hc]
        have HNE := Lib.hid hc
        clear hc
        generalize checkL 0 0 l = q at *
        have hqb : ((q : Int) != 0) = true := by rw [bne_iff_ne]; have := HNE.out; omega
        go_wp2_with fail
        refine HC.out.mono ?_
        rintro e w1 ⟨rfl, g1⟩
        have HG1 := Lib.hid (only_trans HG.out g1)
        clear g1
        go_wp2_with fail
        go_ret2
        rw [HE.out]
        exact ⟨_, rfl, .nil _ _, HG1.out⟩
    · have hie : i = Ls.length := by omega
      subst hie
      have hok : firstErr Ls = 0 := firstErr_all fun l hl => by
        obtain ⟨j, hj⟩ := List.getElem?_of_mem hl
        exact HA.out j l (List.getElem?_eq_some_iff.1 hj).1 hj
      have HOK := Lib.hid hok
      have HC1 := Lib.hid (HCC.out wr HG.out)
      clear hok HA
      go_wp2_with fail
      refine HC1.out.mono ?_
      rintro e w1 ⟨v1, rfl, o1, g1⟩
      have HG1 := Lib.hid (only_trans HG.out g1)
      have hb1 := Lib.hid (fun k e => (o1.lt k e).1)
      have hwz := HG.out.size
      have HS := Lib.hid (sort_any Ls.flatten w1 _ _ v1 (by omega) o1)
      clear o1 g1
      go_wp2_with fail
      refine HS.out.mono ?_
      rintro e w2 ⟨rfl, ts', hp, hpw, hr, g2⟩
      have HG2 := Lib.hid (below_to_none (below_of_only (below_of_none HG1.out) g2 HG1.out.size (fun k e => by have := hb1.out k e; omega)))
      have hsz2 : sizeL ts' ≤ 50000 := by rw [size_perm hp]; exact hs
      have HT := Lib.hid (twice_any ts' w2 _ v1 (by omega) hr)
      have HCL := Lib.hid (fun w3 (g : w2.grownBy w3 none) => ff.clone_any ts' w3 _ v1 (by omega) (hr.grown g))
      have HM : Hid (mergeR Ls = if twiceB ts' = true then ([], 14) else (ts', 0)) := by
        show _ = _
        unfold mergeR
        rw [if_neg (by rw [HOK.out]; simp), insAll_sorted hp hpw]
        cases twiceB ts' <;> rfl
      clear hp hpw hr g2
      cases htw : twiceB ts' with
      | true =>
        rw [htw] at HT HM
        clear htw
        go_wp2_with fail
        refine HT.out.mono ?_
        rintro e w3 ⟨rfl, g3⟩
        have HG3 := Lib.hid (only_trans HG2.out g3)
        clear g3
        go_wp2_with fail
        go_ret2
        rw [HM.out]
        exact ⟨_, rfl, .nil _ _, HG3.out⟩
      | false =>
        rw [htw] at HT HM
        clear htw
        go_wp2_with fail
        refine HT.out.mono ?_
        rintro e w3 ⟨rfl, g3⟩
        have HG3 := Lib.hid (only_trans HG2.out g3)
        have HC3 := Lib.hid (HCL.out w3 g3)
        clear g3
        go_wp2_with fail
        refine HC3.out.mono ?_
        rintro e w4 ⟨v4, S4, rfl, o4, hS4, -, g4⟩
        have HG4 := Lib.hid (only_trans HG3.out g4)
        have HR4 := Lib.hid (o4.rd.mono (T := fun _ => True) (fun _ _ _ => trivial))
        clear o4 hS4 g4
        go_wp2_with fail
        go_ret2
        rw [HM.out]
        exact ⟨_, rfl, HR4.out, HG4.out⟩

end Go.Proofs.YtbebdaglkjhbjaaGreatDoor.pp
