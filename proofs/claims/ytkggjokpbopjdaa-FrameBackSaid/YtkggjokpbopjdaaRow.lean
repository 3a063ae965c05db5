/-
  A row of bytes that a conversion of a text has made.
-/
import Derived.Test.YtkggjokpbopjdaaVput
namespace Go.Proofs.Ytkggjokpbopjdaa
open Go.RowKit
set_option linter.unusedVariables false
set_option linter.unusedSimpArgs false

/-- Bytes lie in a block of the call's own. -/
structure Row (w : World) (B : Nat) (M : List UInt8) : Prop where
  cell : ∀ j, j < M.length → w.cell? ⟨B, j, none⟩ = some (.int .u8 ((M.getD j 0).toNat : Int))
  free : ∀ j, j < M.length → w.frozen? ⟨B, j, none⟩ = false

theorem Row.kept {w w' : World} {B : Nat} {M : List UInt8} (h : Row w B M) (hB : B < w.heap.size) (g : w.grownBy w' none) : Row w' B M :=
  ⟨fun j hj => g.cell (h.cell j hj) (by simp), fun j hj => by
    have := g.block B hB (by simp)
    have h2 := h.free j hj
    unfold World.frozen? at h2 ⊢
    rw [this]
    exact h2⟩

theorem Row.drew {w : World} {B : Nat} {M : List UInt8} (h : Row w B M) : Row w.drew B M := ⟨fun j hj => h.cell j hj, fun j hj => h.free j hj⟩
theorem Row.drewN {w : World} {B : Nat} {M : List UInt8} (h : Row w B M) (n : Nat) : Row (w.drewN n) B M := ⟨fun j hj => h.cell j hj, fun j hj => h.free j hj⟩

theorem Row.set {w : World} {B : Nat} {M : List UInt8} (h : Row w B M) (i : Nat) (hi : i < M.length) (b : UInt8) (v : Int) (hv : v = (b.toNat : Int)) : Row (w.setCell ⟨B, i, none⟩ (.int .u8 v)) B (M.set i b) := by
  subst hv
  refine ⟨fun j hj => ?_, fun j hj => ?_⟩
  · rw [List.length_set] at hj
    by_cases hij : i = j
    · subst hij
      rw [World.cell?_setCell_same (h := h.cell i hi)]
      simp [List.getD_eq_getElem?_getD, hi]
    · rw [World.cell?_setCell_other (h := by simp [hij]), h.cell j hj]
      simp [List.getD_eq_getElem?_getD, hij]
  · rw [List.length_set] at hj
    rw [World.frozen?_setCell]
    exact h.free j hj

theorem frozen_at (w : World) (g j : Nat) (cs : Array Value) (t : TypeId) (lo hi : Nat) (hg : w.heap[g]? = some (.cells cs t (lo, hi))) (h : j < lo) : w.frozen? ⟨g, j, none⟩ = false := by
  simp [World.frozen?, hg]
  omega

theorem bytes_conv (s : ByteArray) (w : World) : ∃ (c : Nat) (w' : World), (convert 9 42 (.string s)).run Try.prog w = .ok (.slice (some ⟨w.heap.size, 0, none⟩) s.size c) w' ∧ s.size ≤ c ∧ Row w' w.heap.size s.data.toList ∧ w.grownBy w' none ∧ w.heap.size < w'.heap.size := by
  refine ⟨_, _, run_bytes_of_string (P := Try.prog) w 9 42 5 s Try.underlying9 Try.underlying42 Try.underlying5, ?_, ⟨fun j hj => ?_, fun j hj => ?_⟩, only_alloc (only_drew (only_refl _ _)) _, by simp⟩
  · exact grownCap_ge w s.size 0 _
  · have hj' : j < s.size := by simpa using hj
    rw [cell_of_row _ w.heap.size j _ _ _ (heap_alloc_new w.drew _)]
    unfold bytesRow
    rw [Array.getElem?_append_left (by simpa using hj'), Array.getElem?_map, Array.getElem?_eq_getElem hj']
    simp [List.getD_eq_getElem?_getD]
    rw [Array.getElem?_eq_getElem hj']
    rfl
  · have hj' : j < s.size := by simpa using hj
    have : s.size ≤ (bytesRow s (grownCap w s.size 0 5)).size := by unfold bytesRow; simp
    exact frozen_at _ _ j _ _ _ _ (heap_alloc_new w.drew _) (by omega)

/-- A stretch of the row as a text. -/
theorem row_conv {w : World} {B : Nat} {M : List UInt8} (h : Row w B M) (off len cap : Nat) (hl : off + len ≤ M.length) :
    (convert 42 9 (.slice (some ⟨B, off, none⟩) len cap)).run Try.prog w = .ok (.string ⟨((M.drop off).take len).toArray⟩) w := by
  have hlen : ((M.drop off).take len).length = len := by simp; omega
  have := run_convert_bytes_back (P := Try.prog) w 42 9 5 ⟨B, off, none⟩ cap ((M.drop off).take len) Try.underlying42 Try.underlying5 Try.underlying9 (fun j hj => by
    rw [hlen] at hj
    rw [Addr.add_lit, h.cell (off + j) (by omega)]
    simp [List.getD_eq_getElem?_getD]
    rw [List.getElem?_eq_getElem (by omega)]
    rfl)
  rw [hlen] at this
  exact this

end Go.Proofs.Ytkggjokpbopjdaa
