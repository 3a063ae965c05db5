/-
  Slices of a slice of fields, as runs; flattened lists.
-/
import Derived.Test.YtieheclnkopfpaaGreatDoorPmerge
import Derived.Test.YtieheclnkopfpaaGreatDoorPsort
namespace Go.Proofs.YtieheclnkopfpaaGreatDoor.pm
open Go.RowKit Go.Proofs.YtieheclnkopfpaaGreatDoor.tr
set_option linter.unusedVariables false
set_option linter.unusedSimpArgs false

theorem lls_low {w : World} {S : Nat → Prop} {v : Value} {Ls : List (List Tree)} (h : Lls w S v Ls) : Lls w (fun k => k < w.heap.size) v Ls := by
  obtain ⟨h0, a, cap, h1, h2⟩ := h
  refine ⟨h0, a, cap, h1, ?_⟩
  rcases h2 with h2 | ⟨b, off, k1, k2, k3, k4, k5⟩
  · exact .inl h2
  · exact .inr ⟨b, off, k1, k2, k3, k4, fun i l hi => by
      obtain ⟨u, j1, j2⟩ := k5 i l hi
      exact ⟨u, j1, j2.tight.mono fun k _ hk => hk.2⟩⟩
theorem flat_take {Ls : List (List Tree)} {i : Nat} {l : List Tree} (h : Ls[i]? = some l) : (Ls.take (i + 1)).flatten = (Ls.take i).flatten ++ l := by
  rw [List.take_add_one, h]; simp
theorem flat_split {Ls : List (List Tree)} {i : Nat} {l : List Tree} (h : Ls[i]? = some l) : Ls.flatten = (Ls.take i).flatten ++ (l ++ (Ls.drop (i + 1)).flatten) := by
  have h1 := congrArg List.flatten (List.take_append_drop (i + 1) Ls)
  rw [List.flatten_append, flat_take h, List.append_assoc] at h1
  exact h1.symm

section
variable {P : Program} {w : World} {S : Nat → Prop} {a : Option Addr} {n cap : Nat} {ts : List Tree}

/-- A slice that is nil, or at a place of a block. -/
def Plain (a : Option Addr) : Prop := a = none ∨ ∃ g off, a = some ⟨g, off, none⟩

theorem own_plain {ty : TypeId} {base : Nat} (h : OwnF ty base S w (.slice a n cap) ts) : Plain a ∧ n = ts.length ∧ n ≤ cap ∧ cap ≤ maxLen := by
  obtain ⟨lv, h1, -⟩ := h
  rcases h1.2 with ⟨e, h0⟩ | ⟨g, c, cur, e, hb, hg, hnc, hcm, -⟩
  · simp only [Value.slice.injEq] at e
    obtain ⟨rfl, rfl, rfl⟩ := e
    exact ⟨.inl rfl, h0.symm, Nat.le_refl _, Nat.zero_le _⟩
  · simp only [Value.slice.injEq] at e
    obtain ⟨rfl, rfl, rfl⟩ := e
    exact ⟨.inr ⟨g, 0, rfl⟩, rfl, hnc, hcm⟩

theorem run_head (T e : TypeId) (ht : P.underlying T = some (.slice e)) (hz : ∀ w, (Go.sizeOf e).run P w = .ok 5 w) (ha : Plain a) (p : Nat) (hp : p ≤ cap) (w : World) :
    (Instr.slice T (.slice a n cap) none (some (.int .i64 (p : Nat))) none).run P w = .ok (.slice a p cap) w := by
  rcases ha with rfl | ⟨g, off, rfl⟩
  · simp [Instr.slice, run_underlying ht, Instr.sliceBounds, Instr.sliceBound, asIntOf, hz, hp, Result.andThen]
  · simp [Instr.slice, run_underlying ht, Instr.sliceBounds, Instr.sliceBound, asIntOf, hz, hp, Result.andThen, Addr.add]

theorem run_tail (T e : TypeId) (ht : P.underlying T = some (.slice e)) (hz : ∀ w, (Go.sizeOf e).run P w = .ok 5 w) (ha : Plain a) (p : Nat) (hp : p ≤ n) (hn : n ≤ cap) :
    ∃ q, (∀ w, (Instr.slice T (.slice a n cap) (some (.int .i64 (p : Nat))) none none).run P w = .ok (.slice q (n - p) (cap - p)) w) ∧ ∀ g off, a = some ⟨g, off, none⟩ → p < n → q = some ⟨g, off + p * 5, none⟩ := by
  refine ⟨if cap = p then a else a.map (·.add (p * 5)), fun w => ?_, fun g off e hlt => ?_⟩
  · simp [Instr.slice, run_underlying ht, Instr.sliceBounds, Instr.sliceBound, asIntOf, hz, hp, Result.andThen]
  · subst e
    rw [if_neg (by omega)]
    exact congrArg some (Addr.add_lit ..)

theorem Rd.take' (h : Rd w S (.slice a n cap) ts) (i : Nat) (hi : i ≤ n) : Rd w S (.slice a i cap) (ts.take i) := by
  generalize hv : Value.slice a n cap = v at h
  cases h with
  | nil a' cap' =>
    simp only [Value.slice.injEq] at hv
    obtain ⟨rfl, rfl, rfl⟩ := hv
    obtain rfl : i = 0 := by omega
    exact .nil _ _
  | row b off len cap' ts lv k1 k2 k3 k4 k5 k6 k7 =>
    simp only [Value.slice.injEq] at hv
    obtain ⟨rfl, rfl, rfl⟩ := hv
    exact (Rd.row b off _ _ ts lv k1 k2 k3 k4 k5 k6 k7).take i hi
theorem Rd.drop' (h : Rd w S (.slice a n cap) ts) (k : Nat) (hk : k ≤ n) (q : Option Addr) (hq : ∀ g off, a = some ⟨g, off, none⟩ → k < n → q = some ⟨g, off + k * 5, none⟩) : Rd w S (.slice q (n - k) (cap - k)) (ts.drop k) := by
  generalize hv : Value.slice a n cap = v at h
  cases h with
  | nil a' cap' =>
    simp only [Value.slice.injEq] at hv
    obtain ⟨rfl, rfl, rfl⟩ := hv
    rw [Nat.zero_sub, List.drop_nil]
    exact .nil _ _
  | row b off len cap' ts lv k1 k2 k3 k4 k5 k6 k7 =>
    simp only [Value.slice.injEq] at hv
    obtain ⟨rfl, rfl, rfl⟩ := hv
    exact (Rd.row b off _ _ ts lv k1 k2 k3 k4 k5 k6 k7).drop k hk q (hq b off rfl)
end

theorem sizeOfR (w : World) : (Go.sizeOf 43).run Tryz.prog w = .ok 5 w := by kernel_rfl

end Go.Proofs.YtieheclnkopfpaaGreatDoor.pm
