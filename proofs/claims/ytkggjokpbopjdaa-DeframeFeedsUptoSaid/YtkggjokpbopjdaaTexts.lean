/-
  Rows of texts: what holds them, and slices.Equal of two that hold the same.
-/
import Derived.Test.YtkggjokpbopjdaaFmath
import Derived.Test.YtkggjokpbopjdaaVrall
import Derived.Test.YtkggjokpbopjdaaLaw02
import Derived.Deep.AppendLies
namespace Go.Proofs.Ytkggjokpbopjdaa.fm
open Go.RowKit Go.Proofs.Ytkggjokpbopjdaa.vi
set_option linter.unusedVariables false
set_option linter.unusedSimpArgs false

/-- Bytes as a text. -/
def str (l : List UInt8) : ByteArray := ⟨l.toArray⟩
theorem str_list (l : List UInt8) : (str l).data.toList = l := rfl
theorem str_size (l : List UInt8) : (str l).size = l.length := size_of_list l
theorem str_of (s : ByteArray) : str s.data.toList = s := by cases s; simp [str]

def texts (l : List (List UInt8)) : List Value := l.map fun x => .string (str x)

theorem Try.infoStr : (Try.prog.info? 9).map (fun i => (i.zero, i.size, i.bytes)) = some (some (.string ⟨#[]⟩), 1, 16) := by kernel_rfl

/-- A list of texts that is the call's own. -/
def Own (base : Nat) (w : World) (v : Value) (l : List (List UInt8)) : Prop := w.ownsRow base 9 1 v l.length (texts l)

theorem Own.nil (base : Nat) (w : World) : Own base w (.slice none 0 0) [] := World.ownsRow_nil _ _ _ _
theorem Own.kept {base : Nat} {w w' : World} {v : Value} {l : List (List UInt8)} (h : Own base w v l) (g : w.grownBy w' none) : Own base w' v l := law02.row_kept h g
theorem Own.mono {base base' : Nat} {w : World} {v : Value} {l : List (List UInt8)} (h : Own base w v l) (hb : base' ≤ base) : Own base' w v l := World.ownsRow.mono h hb

theorem own_cell {base : Nat} {w : World} {g c : Nat} {l : List (List UInt8)} (h : w.ownsRow base 9 1 (.slice (some ⟨g, 0, none⟩) l.length c) l.length (texts l)) (j : Nat) (hj : j < l.length) :
    w.cell? ⟨g, 0 + j, none⟩ = some (.string ((l.map str).getD j ByteArray.empty)) := by
  rw [Nat.zero_add, h.cellAt j (by omega)]
  simp [texts, List.getD_eq_getElem?_getD, hj]

set_option maxHeartbeats 1000000 in
theorem equal_texts {w : World} {b1 b2 : Nat} {v1 v2 : Value} {l : List (List UInt8)} (hl : l.length ≤ maxLen) (h1 : Own b1 w v1 l) (h2 : Own b2 w v2 l) :
    Calls Try.prog 16 #[v1, v2] w fun e w' => e = .returned (.bool true) ∧ w.grownBy w' none := by
  unfold maxLen at hl
  unfold Own at h1 h2
  by_cases h0 : l.length = 0
  · obtain ⟨a1, c1, rfl⟩ := row_shape h1
    obtain ⟨a2, c2, rfl⟩ := row_shape h2
    rw [h0]
    exact (Try.slices_Equal_string_empty a1 a2 c1 0 c2 w (by omega)).mono fun e w' ⟨he, hw⟩ => ⟨by rw [he]; rfl, hw ▸ only_refl _ _⟩
  · obtain ⟨g1, c1, rfl, -, hg1⟩ := h1.form (by omega)
    obtain ⟨g2, c2, rfl, -, hg2⟩ := h2.form (by omega)
    have hx : (l.map str).length = l.length := by simp
    have := Try.slices_Equal_string g1 0 l.length c1 g2 0 l.length c2 (l.map str) (l.map str) w (by omega) (by omega) (by omega) (by omega) (fun j hj => own_cell h1 j (by omega)) (fun j hj => own_cell h2 j (by omega))
    exact this.mono fun e w' ⟨he, q, hw⟩ => ⟨by rw [he]; simp, hw ▸ only_drewN (only_refl _ _) _⟩

end Go.Proofs.Ytkggjokpbopjdaa.fm
