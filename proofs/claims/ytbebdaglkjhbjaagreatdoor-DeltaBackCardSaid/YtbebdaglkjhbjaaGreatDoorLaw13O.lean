/-
  The statement TableOrder.
-/
import Derived.Test.YtbebdaglkjhbjaaGreatDoorBundH
import Derived.Test.YtbebdaglkjhbjaaGreatDoorTal
namespace Go.Proofs.YtbebdaglkjhbjaaGreatDoor.law13
open Go.RowKit Go.Proofs.YtbebdaglkjhbjaaGreatDoor.vi Go.Proofs.YtbebdaglkjhbjaaGreatDoor.um Go.Proofs.YtbebdaglkjhbjaaGreatDoor.wm Go.Proofs.YtbebdaglkjhbjaaGreatDoor.tr Go.Proofs.YtbebdaglkjhbjaaGreatDoor.em Go.Proofs.YtbebdaglkjhbjaaGreatDoor.rm Go.Proofs.YtbebdaglkjhbjaaGreatDoor.law11 Go.Proofs.YtbebdaglkjhbjaaGreatDoor.dd Go.Proofs.YtbebdaglkjhbjaaGreatDoor.dr Go.Proofs.YtbebdaglkjhbjaaGreatDoor.tm Go.Proofs.YtbebdaglkjhbjaaGreatDoor.tf Go.Proofs.YtbebdaglkjhbjaaGreatDoor.ti
set_option linter.unusedVariables false
set_option linter.unusedSimpArgs false

/-- Rows that came in, of a bulk that is bounded. -/
def Bul (r : Rw) : Prop := r.d.length ≤ 140737488351232 ∧ (∀ x ∈ r.d, x.key.size ≤ 140737488351232 ∧ x.value.size ≤ 140737488351232) ∧ r.n < 18446744073709551616
theorem few_facts {rs : List Rw} (h : fewT rs = true) : rs.length ≤ 300 ∧ ∀ r ∈ rs, r.d.length ≤ 18 ∧ ∀ x ∈ r.d, x.key.size + x.value.size ≤ 600 := by
  unfold fewT at h
  rw [Bool.and_eq_true, List.all_eq_true, decide_eq_true_eq] at h
  refine ⟨h.2, fun r hr => ?_⟩
  have := h.1 r hr
  unfold fewR at this
  rw [Bool.and_eq_true, Bool.and_eq_true, decide_eq_true_eq] at this
  exact ⟨this.1.1, (law12.few_facts this.1.2).2⟩
theorem few_rok {rs : List Rw} (h : fewT rs = true) (hb : ∀ r ∈ rs, Bul r) : ∀ r ∈ rs, Rok r := fun r hr => by
  obtain ⟨h1, h2⟩ := (few_facts h).2 r hr
  exact ⟨by omega, fun x hx => by have := h2 x hx; unfold maxLen; omega, (hb r hr).2.2⟩
theorem few_fit {rs : List Rw} (h : fewT rs = true) (hb : ∀ r ∈ rs, Bul r) : ∀ r ∈ rs, Fit r := fun r hr => by
  obtain ⟨h1, h2⟩ := (few_facts h).2 r hr
  have := law12.key_small (l := r.d) (by omega) h2
  exact ⟨by omega, fun x hx => by have := h2 x hx; omega, by omega, (hb r hr).2.2⟩
theorem of_fit {rs : List Rw} (hf : ∀ r ∈ rs, Fit r) : ∀ r ∈ (ofT rs).1, Fit r := fun r hr => by
  by_cases h0 : (ofT rs).2 = 0
  · exact hf r ((ofT_ok h0).2.mem_iff.1 hr)
  · rw [ofT_err h0] at hr; simp at hr
theorem of_len (rs : List Rw) : (ofT rs).1.length ≤ 256 := by
  by_cases h0 : (ofT rs).2 = 0
  · exact (ofT_ok h0).1.1
  · rw [ofT_err h0]; simp

end Go.Proofs.YtbebdaglkjhbjaaGreatDoor.law13
