/-
  Entries that came in: one by value, a slice of them.
-/
import Derived.Test.YtbebdaglkjhbjaaGreatDoorBundE
import Derived.Test.YtbebdaglkjhbjaaGreatDoorBundT
import Derived.Lib.SmallJoins
namespace Go.Proofs.YtbebdaglkjhbjaaGreatDoor.em
open Go.RowKit Go.ChangeShapes Go.WideShapes Go.Deep Go.Joins Go.Proofs.YtbebdaglkjhbjaaGreatDoor.tr
set_option linter.unusedVariables false
set_option linter.unusedSimpArgs false

set_option maxRecDepth 100000 in
theorem ent_of_open {H : Type} {enc : TypeId × Value → H} {W : World} {r : Reach} {b0 base : Nat} {spare : Nat → Bool} {held : Bool} {v : Value} {d : DataW H} {p : List MemPlace}
    (hv : Value.okWide Tryz.prog W r b0 115 v) (h : DataW.Trod enc Tryz.prog W base spare held 115 v d p) :
    ∃ x : Ent, v = .agg #[.string x.key, .string x.value] ∧ x.key.size ≤ maxLen ∧ x.value.size ≤ maxLen ∧ d = .agg [.lit (.string x.key.data.toList), .lit (.string x.value.data.toList)] := by
  obtain ⟨v0, v1, y0, y1, n, rfl, hd, -, h0, h1⟩ := open_agg2 Tryz.underlying115 (by kernel_rfl) (by kernel_rfl) hv h
  obtain ⟨k, e0, f0, l0⟩ := DataW.trod_string Tryz.underlying9 h0
  obtain ⟨u, e1, f1, l1⟩ := DataW.trod_string Tryz.underlying9 h1
  simp at e0 e1
  subst e0 e1
  rw [f0, f1] at hd
  exact ⟨⟨k, u⟩, rfl, l0, l1, hd⟩

/-- A slice of entries: nil, or a row of cells, two an entry. -/
def Ents (B : Nat) (w : World) (a : Option Addr) (cap : Nat) (xs : List Ent) : Prop :=
  (∀ x ∈ xs, x.key.size ≤ maxLen ∧ x.value.size ≤ maxLen) ∧ (xs = [] ∨ ∃ b off, a = some ⟨b, off, none⟩ ∧ b < B ∧ xs.length ≤ cap ∧ cap ≤ maxLen ∧ ∀ (i : Nat) (x : Ent), xs[i]? = some x → w.cell? ⟨b, off + i * 2, none⟩ = some (.string x.key) ∧ w.cell? ⟨b, off + i * 2 + 1, none⟩ = some (.string x.value))
theorem Ents.grown {B : Nat} {w w' : World} {a : Option Addr} {cap : Nat} {xs : List Ent} (h : Ents B w a cap xs) (g : w.grownBy w' none) : Ents B w' a cap xs := by
  obtain ⟨h0, h⟩ := h
  refine ⟨h0, ?_⟩
  rcases h with h | ⟨b, off, h1, h2, h3, h4, h5⟩
  · exact .inl h
  · refine .inr ⟨b, off, h1, h2, h3, h4, fun i x hx => ?_⟩
    obtain ⟨k1, k2⟩ := h5 i x hx
    exact ⟨(Chg.of_none (S := fun _ => False) g).cell k1 (fun e => e), (Chg.of_none (S := fun _ => False) g).cell k2 (fun e => e)⟩

theorem ents_of_open {H : Type} {enc : TypeId × Value → H} {W : World} {a : Option Addr} {len cap : Nat} {d : DataW H} {p : List MemPlace}
    (h : DataW.Trod enc Tryz.prog W 0 (fun _ => true) true 77 (.slice a len cap) d p) :
    ∃ xs : List Ent, xs.length = len ∧ len ≤ maxLen ∧ Ents W.heap.size W a cap xs := by
  have hle := slice_le Tryz.underlying77 h
  rcases fields_of_open Tryz.underlying77 Tryz.underlying115 (by kernel_rfl) (by kernel_rfl) (by decide) h with h0 | ⟨b, off, rfl, hpos, hl, hm, hi⟩
  · exact ⟨[], h0.symm, hle, by simp, .inl rfl⟩
  · have h1 : ∀ i, i < len → ∃ x : Ent, (x.key.size ≤ maxLen ∧ x.value.size ≤ maxLen) ∧ W.cell? ⟨b, off + i * 2, none⟩ = some (.string x.key) ∧ W.cell? ⟨b, off + i * 2 + 1, none⟩ = some (.string x.value) := by
      intro i hil
      obtain ⟨v0, y0, n0, k0, z0⟩ := hi i hil 0 _ rfl
      obtain ⟨v1, y1, n1, k1, z1⟩ := hi i hil 1 _ rfl
      obtain ⟨x0, e0, -, w0⟩ := DataW.trod_string Tryz.underlying9 z0
      obtain ⟨x1, e1, -, w1⟩ := DataW.trod_string Tryz.underlying9 z1
      simp at e0 e1
      subst e0 e1
      exact ⟨⟨x0, x1⟩, ⟨w0, w1⟩, k0, k1⟩
    have : Inhabited Ent := ⟨zeroE⟩
    obtain ⟨f, hf⟩ := Go.Deep.choose_lt h1
    have hb : b < W.heap.size := World.block_lt_of_cell? W _ (hf 0 hpos).2.1
    refine ⟨(List.range len).map f, by simp, hle, fun x hx => ?_, .inr ⟨b, off, rfl, hb, by simpa using hl, hm, fun i x h => ?_⟩⟩
    · obtain ⟨i, hi, rfl⟩ := List.mem_map.1 hx
      exact (hf i (by simpa using hi)).1
    · have hil : i < len := by have := (List.getElem?_eq_some_iff.1 h).1; simpa using this
      have : x = f i := by
        rw [List.getElem?_map, List.getElem?_range hil] at h
        simpa using h.symm
      rw [this]
      exact (hf i hil).2

end Go.Proofs.YtbebdaglkjhbjaaGreatDoor.em
