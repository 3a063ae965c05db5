/-
  Next, All, and the document's All.
-/
import Derived.Test.YtfcoiojfcepeiaaVput
import Derived.Test.YtfcoiojfcepeiaaVrget
import Derived.Deep.Onto
namespace Go.Proofs.Ytfcoiojfcepeiaa.vi
open Go.RowKit Go.Proofs.Ytfcoiojfcepeiaa.cur
set_option linter.unusedVariables false

theorem next_nil (w : World) :
    Calls Try.prog 30 #[.pointer none] w fun e w' => e = .returned (.tuple #[.int .u64 0, .int .i64 25]) ∧ w = w' := by
  go_enter Try.func30, Try.ntmps30
  go_wp2
  go_ret2
  exact ⟨rfl, rfl⟩

theorem bytes_drop (s : ByteArray) (k : Nat) : (s.extract k s.size).data.toList = s.data.toList.drop k := by
  simp
  exact List.take_of_length_le (by simp)

set_option maxRecDepth 100000 in
theorem next_some {w : World} {b : Nat} {s : ByteArray} {k : Nat} (h : Cur w b s k) :
    Calls Try.prog 30 #[.pointer (some ⟨b, 0, none⟩)] w fun e w' =>
      e = .returned (.tuple #[.int .u64 ((getR (s.data.toList.drop k)).1 : Int), .int .i64 ((getR (s.data.toList.drop k)).2.2 : Int)]) ∧ Cur w' b s (k + (getR (s.data.toList.drop k)).2.1) ∧ w.grownBy w' (some b) := by
  have hr := rest_some h
  have hs : s.size ≤ maxLen := h.hs
  have hg := fun w => get_any (s.extract k s.size) (by simp; omega) w
  rw [bytes_drop] at hg
  have hb := getR_bounds (s.data.toList.drop k)
  have he := @getR_err (s.data.toList.drop k)
  have hl : (s.data.toList.drop k).length = s.size - k := by simp
  rw [hl] at hb
  have H := Lib.hid h
  clear h
  generalize getR (s.data.toList.drop k) = r at *
  obtain ⟨x, m, E⟩ := r
  simp only at hb he ⊢
  unfold getV at hg
  simp only at hg
  obtain ⟨hx, hm, hm10, hE, hpos⟩ := hb
  by_cases h0 : E = 0
  · subst h0
    have hmp := hpos rfl
    clear he hpos
    go_enter Try.func30, Try.ntmps30
    go_wp2_with (first
      | (go_at_call 39; refine hr.mono ?_; rintro e w' ⟨rfl, d, rfl⟩)
      | (go_at_call 28; refine (hg _).mono ?_; rintro e w' ⟨rfl, rfl⟩)
      | (go_at_call 40; refine (take_ok (H.out.kept (only_drewN (only_refl _ none) _) (by simp)) m hm).mono ?_; rintro e w' ⟨rfl, hc', hg'⟩))
    go_ret2
    exact ⟨rfl, hc', only_trans (only_drewN (only_refl _ _) _) hg'⟩
  · obtain ⟨rfl, rfl⟩ := he h0
    clear hpos he
    go_enter Try.func30, Try.ntmps30
    go_wp2_with (first
      | (go_at_call 39; refine hr.mono ?_; rintro e w' ⟨rfl, d, rfl⟩)
      | (go_at_call 28; refine (hg _).mono ?_; rintro e w' ⟨rfl, rfl⟩))
    go_ret2
    exact ⟨rfl, H.out.kept (only_drewN (only_refl _ none) _) (by simp), only_drewN (only_refl _ _) _⟩

theorem Try.info28 : (Try.prog.info? 22).map (fun i => (i.zero, i.size, i.bytes)) = some (some (.int .u64 0), 1, 8) := by kernel_rfl

def u64s (l : List Nat) : List Value := l.map fun (n : Nat) => .int .u64 (n : Int)

/-- What All answers: its slice is the call's own. -/
def AllPost (w : World) (q : List Nat × Nat) (e : Ending) (w' : World) : Prop :=
  ∃ v, e = .returned (.tuple #[v, .int .i64 (q.2 : Int)]) ∧ w.grownBy w' none ∧ w'.ownsRow w.heap.size 22 1 v q.1.length (u64s q.1)

end Go.Proofs.Ytfcoiojfcepeiaa.vi
