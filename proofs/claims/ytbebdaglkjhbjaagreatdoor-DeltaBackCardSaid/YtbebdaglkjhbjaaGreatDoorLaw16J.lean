/-
  The statement DeltaJoins.
-/
import Derived.Test.YtbebdaglkjhbjaaGreatDoorLaw16
namespace Go.Proofs.YtbebdaglkjhbjaaGreatDoor.law16
open Go.RowKit Go.Proofs.YtbebdaglkjhbjaaGreatDoor.vi Go.Proofs.YtbebdaglkjhbjaaGreatDoor.um Go.Proofs.YtbebdaglkjhbjaaGreatDoor.wm Go.Proofs.YtbebdaglkjhbjaaGreatDoor.tr Go.Proofs.YtbebdaglkjhbjaaGreatDoor.em Go.Proofs.YtbebdaglkjhbjaaGreatDoor.rm Go.Proofs.YtbebdaglkjhbjaaGreatDoor.law11 Go.Proofs.YtbebdaglkjhbjaaGreatDoor.dd Go.Proofs.YtbebdaglkjhbjaaGreatDoor.dr Go.Proofs.YtbebdaglkjhbjaaGreatDoor.tm Go.Proofs.YtbebdaglkjhbjaaGreatDoor.tf Go.Proofs.YtbebdaglkjhbjaaGreatDoor.ti Go.Proofs.YtbebdaglkjhbjaaGreatDoor.dl Go.Proofs.YtbebdaglkjhbjaaGreatDoor.dz Go.Proofs.YtbebdaglkjhbjaaGreatDoor.da Go.Proofs.YtbebdaglkjhbjaaGreatDoor.law13
set_option linter.unusedVariables false
set_option linter.unusedSimpArgs false

theorem few_tok {t : List Rw} (h : fewT t = true) (hb : ∀ r ∈ t, Bul r) : Tok t := ⟨by have := (few_facts h).1; omega, few_fit h hb⟩
theorem join_gk {a b : Dt} (ha : Tok a.t) (hb : Tok b.t) : Gk (joinX a b).1.t := by
  by_cases h : (joinX a b).2 = 0
  · obtain ⟨h1, h2, -, -, -, h6, h7⟩ := joinX_ok h
    rw [h7]
    exact ⟨(sum_get h1 h2 h6).1, sum_64 fun r hr => (hb.2 r hr).2.2.2⟩
  · have : (joinX a b).1.t = [] := by
      unfold joinX at h ⊢
      split
      · rfl
      · rename_i h1
        rw [if_neg h1] at h
        split
        · rfl
        · rename_i h2
          rw [if_neg h2] at h
          split
          · rfl
          · rename_i h3
            rw [if_neg h3] at h
            exact absurd rfl h
    rw [this]
    exact ⟨⟨by simp, by simp, by simp⟩, fun r hr => by simp at hr⟩
theorem cells9 {w : World} {n : Nat} {v0 v1 v2 v3 v4 v5 v6 v7 v8 : Value} {ty : TypeId} (h : w.heap[n]? = some (.cells #[v0, v1, v2, v3, v4, v5, v6, v7, v8] ty (0, 0))) : w.cell? ⟨n, 0, none⟩ = some v0 ∧ w.cell? ⟨n, 1, none⟩ = some v1 ∧ w.cell? ⟨n, 2, none⟩ = some v2 ∧ w.cell? ⟨n, 3, none⟩ = some v3 ∧ w.cell? ⟨n, 4, none⟩ = some v4 ∧ w.cell? ⟨n, 5, none⟩ = some v5 ∧ w.cell? ⟨n, 6, none⟩ = some v6 ∧ w.cell? ⟨n, 7, none⟩ = some v7 ∧ w.cell? ⟨n, 8, none⟩ = some v8 := by
  simp [World.cell?, h]

end Go.Proofs.YtbebdaglkjhbjaaGreatDoor.law16
