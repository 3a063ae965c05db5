/-
  The statement DescrReads.
-/
import Derived.Test.YtccmbackcabfeaaGreatDoorBundG
import Derived.Deep.RegionHeld3
namespace Go.Proofs.YtccmbackcabfeaaGreatDoor.law12
open Go.RowKit Go.Proofs.YtccmbackcabfeaaGreatDoor.vi Go.Proofs.YtccmbackcabfeaaGreatDoor.um Go.Proofs.YtccmbackcabfeaaGreatDoor.wm Go.Proofs.YtccmbackcabfeaaGreatDoor.tr Go.Proofs.YtccmbackcabfeaaGreatDoor.em Go.Proofs.YtccmbackcabfeaaGreatDoor.cur Go.Proofs.YtccmbackcabfeaaGreatDoor.law11 Go.Proofs.YtccmbackcabfeaaGreatDoor.dd Go.Proofs.YtccmbackcabfeaaGreatDoor.dr
set_option linter.unusedVariables false
set_option linter.unusedSimpArgs false

theorem sameR_any (xs : List Ent) (B1 B2 : Nat) (w : World) (v u : Value) (hl : xs.length ≤ 1000000) (h : Es B1 w v xs) (h2 : Es B2 w u xs) :
    Calls Tryz.prog 25 #[v, u] w fun e w' => e = .returned (.bool true) ∧ w.grownBy w' none := by
  have := equalR_any xs xs B1 B2 w v u hl h h2
  simpa using this

theorem readE_len : ∀ (n : Nat) (p : Option Ent) (L : List UInt8), (readE n p L).1.length ≤ n
  | 0, _, _ => by simp [readE]
  | n + 1, p, L => by
    have := readE_len n (some (nextE L).1) (nextE L).2.1
    rw [readE]
    split
    · simp
    · split
      · simp
      · split
        · simp
        · simp; omega
theorem nextD_len (L : List UInt8) : (nextD L).1.length ≤ 16 := by
  unfold nextD
  split
  · simp
  · split
    · simp
    · rename_i h
      have := readE_len (getR L).1 none (L.drop (getR L).2.1)
      unfold countE at h
      split at h
      · omega
      · split at h <;> omega
theorem parseD_len (L : List UInt8) : (parseD L).1.length ≤ 16 := by
  have := nextD_len L
  unfold parseD
  split
  · simp
  · split
    · simp
    · exact this

end Go.Proofs.YtccmbackcabfeaaGreatDoor.law12
