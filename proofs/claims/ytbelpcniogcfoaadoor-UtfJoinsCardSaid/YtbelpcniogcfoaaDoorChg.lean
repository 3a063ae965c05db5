/-
  Worlds that turned at some blocks alone; a strings.Builder that is written on behind String, with the blocks that are its own.
-/
import Derived.Test.YtbelpcniogcfoaaDoorBase
import Derived.Lib.FrozenHead
namespace Go.Proofs.YtbelpcniogcfoaaDoor
open Go.RowKit
set_option linter.unusedVariables false
set_option linter.unusedSimpArgs false

/-- But for the blocks of S, and new ones, the world is as it was. -/
structure Chg (S : Nat → Prop) (w w' : World) : Prop where
  os : w'.os = w.os
  tape : w'.tape = w.tape
  output : w'.output = w.output
  size : w.heap.size ≤ w'.heap.size
  block : ∀ k, k < w.heap.size → ¬ S k → w'.heap[k]? = w.heap[k]?

section
variable {S T : Nat → Prop} {a b c w w' : World}

theorem Chg.refl (S : Nat → Prop) (w : World) : Chg S w w := ⟨rfl, rfl, rfl, Nat.le_refl _, fun _ _ _ => rfl⟩
theorem Chg.drew (h : Chg S a w) : Chg S a w.drew := ⟨h.os, h.tape, h.output, h.size, h.block⟩
theorem Chg.drewN (h : Chg S a w) (n : Nat) : Chg S a (w.drewN n) := ⟨h.os, h.tape, h.output, h.size, h.block⟩
theorem Chg.alloc (h : Chg S a w) (o : Obj) : Chg S a (w.alloc o) :=
  ⟨h.os, h.tape, h.output, Nat.le_trans h.size (by simp), fun i hi hne => (Below.heap_alloc w o i (Nat.lt_of_lt_of_le hi h.size)).trans (h.block i hi hne)⟩
theorem Chg.setCell (h : Chg S a w) {p : Addr} (hp : S p.block ∨ a.heap.size ≤ p.block) (u : Value) : Chg S a (w.setCell p u) :=
  ⟨h.os, h.tape, h.output, by simpa [World.setCell] using h.size, fun i hi hne => (Below.heap_setCell w p u i (by
    rintro rfl
    rcases hp with hp | hp
    · exact hne hp
    · omega)).trans (h.block i hi hne)⟩
theorem Chg.freeze (h : Chg S a w) {p : Addr} (hp : S p.block ∨ a.heap.size ≤ p.block) (n : Nat) : Chg S a (w.freeze p n) := by
  unfold World.freeze
  split
  · exact h
  · refine ⟨h.os, h.tape, h.output, by simpa using h.size, fun i hi hne => ?_⟩
    rw [← h.block i hi hne]
    simp only [Array.getElem?_modify]
    rw [if_neg]
    rintro rfl
    rcases hp with hp | hp
    · exact hne hp
    · omega
theorem Chg.trans (h : Chg S a b) (k : Chg T b c) (hT : ∀ i, T i → S i ∨ a.heap.size ≤ i) : Chg S a c :=
  ⟨k.os.trans h.os, k.tape.trans h.tape, k.output.trans h.output, Nat.le_trans h.size k.size, fun i hi hne => (k.block i (Nat.lt_of_lt_of_le hi h.size) (fun hS => by
    rcases hT i hS with h' | h'
    · exact hne h'
    · omega)).trans (h.block i hi hne)⟩
theorem Chg.trans' (h : Chg S a b) (k : Chg S b c) : Chg S a c := h.trans k fun _ hi => .inl hi
theorem Chg.of_grown {row : Option Nat} (h : w.grownBy w' row) (hr : ∀ k, row = some k → S k ∨ w.heap.size ≤ k) : Chg S w w' :=
  ⟨h.os, h.tape, h.output, h.size, fun k hk hne => by
    by_cases e : some k = row
    · rcases hr k e.symm with h' | h'
      · exact absurd h' hne
      · omega
    · exact h.block k hk e⟩
theorem Chg.of_none (h : w.grownBy w' none) : Chg S w w' := Chg.of_grown h (fun k e => by cases e)
theorem Chg.of_none' (h : Chg S a w) (g : w.grownBy w' none) : Chg S a w' := h.trans (T := fun _ => False) (Chg.of_none g) (fun _ e => e.elim)
theorem Chg.mono (h : Chg S w w') (hT : ∀ k, S k → T k ∨ w.heap.size ≤ k) : Chg T w w' := (Chg.refl T w).trans h hT
theorem Chg.to_none (h : Chg S a b) (k : Chg T b c) (hS : ∀ k, S k → a.heap.size ≤ k) (hT : ∀ k, T k → a.heap.size ≤ k) : a.grownBy c none :=
  ⟨k.os.trans h.os, k.tape.trans h.tape, k.output.trans h.output, Nat.le_trans h.size k.size, fun i hi _ => (k.block i (Nat.lt_of_lt_of_le hi h.size) (fun hi' => by have := hT i hi'; omega)).trans (h.block i hi (fun hi' => by have := hS i hi'; omega))⟩
theorem Chg.none_new (h : a.grownBy b none) (k : Chg T b c) (hT : ∀ k, T k → a.heap.size ≤ k) : a.grownBy c none :=
  Chg.to_none (S := fun _ => False) (Chg.of_none h) k (fun _ e => e.elim) hT
theorem Chg.cell (h : Chg S w w') {p : Addr} {v : Value} (hv : w.cell? p = some v) (hp : ¬ S p.block) : w'.cell? p = some v := by
  rw [World.cell?_of_block (h.block p.block (World.block_lt_of_cell? w p hv) hp), hv]
theorem Chg.ownsRow (h : Chg S w w') {base : Nat} {e : TypeId} {size n : Nat} {v : Value} {xs : List Value} (ho : w.ownsRow base e size v n xs) (hv : ∀ k, v.ownBlock = some k → ¬ S k) : w'.ownsRow base e size v n xs := by
  refine ⟨ho.1, ?_⟩
  rcases ho.2 with hn | ⟨g, cap, cur, rfl, hb, hg, rest⟩
  · exact .inl hn
  · exact .inr ⟨g, cap, cur, rfl, hb, by rw [h.block g (Array.getElem?_eq_some_iff.1 hg).1 (hv g rfl)]; exact hg, rest⟩
theorem Chg.ownsRowF (h : Chg S w w') {base : Nat} {e : TypeId} {size n : Nat} {v : Value} {xs : List Value} (ho : w.ownsRowF base e size v n xs) (hv : ∀ k, v.ownBlock = some k → ¬ S k) : w'.ownsRowF base e size v n xs := by
  refine ⟨ho.1, ?_⟩
  rcases ho.2 with hn | ⟨g, cap, cur, fz, rfl, hb, hg, rest⟩
  · exact .inl hn
  · exact .inr ⟨g, cap, cur, fz, rfl, hb, by rw [h.block g (Array.getElem?_eq_some_iff.1 hg).1 (hv g rfl)]; exact hg, rest⟩
end

theorem Chg.set_one (w : World) (b j : Nat) (u : Value) : Chg (fun k => k = b) w (w.setCell ⟨b, j, none⟩ u) := Chg.setCell (S := fun k => k = b) (Chg.refl _ w) (p := ⟨b, j, none⟩) (.inl rfl) u

end Go.Proofs.YtbelpcniogcfoaaDoor
