/-
  The statements of layer 2.
-/
import Derived.Test.YtbelpcniogcfoaaDoorVrall
import Derived.Test.YtbelpcniogcfoaaDoorLaw01
namespace Go.Proofs.YtbelpcniogcfoaaDoor.law02
open Go.RowKit Go.Proofs.YtbelpcniogcfoaaDoor.cur Go.Proofs.YtbelpcniogcfoaaDoor.vi
set_option linter.unusedVariables false

theorem Awake01_any (w : World) :
    Calls Tryd.prog 91 #[] w fun e w' => e = .returned (.bool true) ∧ w.grownBy w' none := by
  go_enter Tryd.func91, Tryd.ntmps91
  go_wp2_with (go_at_call 92; refine (law01.awake_any _).mono ?_; rintro e w' ⟨rfl, g⟩)
  go_ret
  exact ⟨rfl, g⟩

def ex1 : ByteArray := ⟨#[172, 130, 0]⟩

theorem ex1_get : getR ex1.data.toList = (0, 0, 2) := by
  have := getR_at (L := [172, 130, 0]) (k := 2) (by decide) (by decide) (by decide) (by decide)
  exact this

theorem enc_300 : enc 300 = [172, 2] := by
  rw [enc_big (by decide), enc_small (by decide)]
  rfl

theorem awake_any (w : World) :
    Calls Tryd.prog 90 #[] w fun e w' => e = .returned (.bool true) ∧ w.grownBy w' none := by
  have h1 := get_any ex1 (by decide) w
  rw [ex1_get] at h1
  have h2 := fun w => put_any 300 (by decide) w
  rw [show encB 300 = ⟨#[172, 2]⟩ from congrArg (fun l : List UInt8 => (⟨l.toArray⟩ : ByteArray)) enc_300] at h2
  unfold getV at h1
  go_enter Tryd.func90, Tryd.ntmps90
  go_wp2_with fail
  refine h1.mono ?_
  rintro e w' ⟨rfl, rfl⟩
  go_wp2_with (first
    | (go_at_call 91; refine (Awake01_any _).mono ?_; rintro e w2 ⟨rfl, g2⟩)
    | (go_at_call 74; refine (h2 _).mono ?_; rintro e w3 ⟨rfl, g3⟩))
  go_ret
  exact ⟨rfl, only_trans g2 g3⟩

theorem row_kept {w w' : World} {base : Nat} {e : TypeId} {size : Nat} {v : Value} {n : Nat} {xs : List Value} (h : w.ownsRow base e size v n xs) (g : w.grownBy w' none) : w'.ownsRow base e size v n xs := by
  refine h.kept g ?_
  cases hb : v.ownBlock with
  | none => exact .inl rfl
  | some k => exact .inr (by simp)

theorem allR_len : ∀ (m : Nat) (L : List UInt8), L.length ≤ m → (allR L).1.length ≤ L.length
  | m, L, hm => by
    by_cases hL : L = []
    · subst hL; rw [allR_nil]; simp
    · have hpos : 0 < L.length := List.length_pos_iff.2 hL
      by_cases h2 : (getR L).2.2 = 0
      · have hb := getR_bounds L
        have hp := hb.2.2.2.2 h2
        rw [allR_ok hL h2]
        unfold glue
        split
        · match m with
          | 0 => omega
          | m + 1 =>
            have := allR_len m (L.drop (getR L).2.1) (by simp; omega)
            simp at this ⊢
            omega
        · simp
      · rw [allR_err hL h2]; simp

end Go.Proofs.YtbelpcniogcfoaaDoor.law02
