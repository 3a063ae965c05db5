/-
  The statement TableTells.
-/
import Derived.Test.YtbebdaglkjhbjaaGreatDoorLaw13M
namespace Go.Proofs.YtbebdaglkjhbjaaGreatDoor.law13
open Go.RowKit Go.Proofs.YtbebdaglkjhbjaaGreatDoor.vi Go.Proofs.YtbebdaglkjhbjaaGreatDoor.um Go.Proofs.YtbebdaglkjhbjaaGreatDoor.wm Go.Proofs.YtbebdaglkjhbjaaGreatDoor.tr Go.Proofs.YtbebdaglkjhbjaaGreatDoor.em Go.Proofs.YtbebdaglkjhbjaaGreatDoor.rm Go.Proofs.YtbebdaglkjhbjaaGreatDoor.law11 Go.Proofs.YtbebdaglkjhbjaaGreatDoor.dd Go.Proofs.YtbebdaglkjhbjaaGreatDoor.dr Go.Proofs.YtbebdaglkjhbjaaGreatDoor.tm Go.Proofs.YtbebdaglkjhbjaaGreatDoor.tf Go.Proofs.YtbebdaglkjhbjaaGreatDoor.ti
set_option linter.unusedVariables false
set_option linter.unusedSimpArgs false

/-- To, of any rows that are read. -/
theorem tor_any (rs : List Rw) (S : Nat → Prop) (w : World) (v : Value) (hl : rs.length ≤ 300) (hz : ∀ r ∈ rs, Fit r) (h : Rs S w v rs) :
    Calls Tryz.prog 12 #[v] w fun e w' => ∃ v', e = .returned v' ∧ Rs (fun k => k < w'.heap.size) w' v' rs ∧ w.grownBy w' none :=
  (to_any rs S w v (by omega) (fun r hr => by have := (hz r hr).1; omega) h).mono fun _ _ ⟨v', T, h1, h2, h3, h4⟩ => ⟨v', h1, h2.rd.low, h4⟩
/-- The document's Same, as a decision. -/
theorem rsd_any (ps qs : List Rw) (S T : Nat → Prop) (w : World) (v u : Value) (hl : ps.length ≤ 300) (hl2 : qs.length ≤ 300) (hz : ∀ r ∈ ps, Fit r) (hz2 : ∀ r ∈ qs, Fit r) (h : Rs S w v ps) (he : Rs T w u qs) :
    Calls Tryz.prog 18 #[v, u] w fun e w' => e = .returned (.bool (decide (ps = qs))) ∧ w.grownBy w' none :=
  (rsame_any ps qs S T w v u (by omega) (by omega) (fun r hr => by have := (hz r hr).1; omega) (fun r hr => by have := (hz2 r hr).1; omega) h he).mono fun _ _ ⟨q, h1, h2, h3⟩ => ⟨by
    rw [h1]
    congr 2
    cases q with
    | true => rw [decide_eq_true (h2.1 rfl)]
    | false => rw [decide_eq_false fun e => by have := h2.2 e; cases this], h3⟩
theorem good_pos {X : List Rw} (h : tm.Good X) : ∀ r ∈ X, 0 < r.d.length := fun r hr => by
  have h1 := (rowE_pos (h.2.1 r hr)).1
  exact ((checkD_ok _).1 h1).1

end Go.Proofs.YtbebdaglkjhbjaaGreatDoor.law13
