/-
  The laws of layer 13: a clone that is written on.
-/
import Derived.Test.YtbebdaglkjhbjaaGreatDoorLaw13O
import Derived.Test.YtbebdaglkjhbjaaGreatDoorTdof
namespace Go.Proofs.YtbebdaglkjhbjaaGreatDoor.law13
open Go.RowKit Go.Proofs.YtbebdaglkjhbjaaGreatDoor.vi Go.Proofs.YtbebdaglkjhbjaaGreatDoor.um Go.Proofs.YtbebdaglkjhbjaaGreatDoor.wm Go.Proofs.YtbebdaglkjhbjaaGreatDoor.tr Go.Proofs.YtbebdaglkjhbjaaGreatDoor.em Go.Proofs.YtbebdaglkjhbjaaGreatDoor.rm Go.Proofs.YtbebdaglkjhbjaaGreatDoor.law11 Go.Proofs.YtbebdaglkjhbjaaGreatDoor.dd Go.Proofs.YtbebdaglkjhbjaaGreatDoor.dr Go.Proofs.YtbebdaglkjhbjaaGreatDoor.tm Go.Proofs.YtbebdaglkjhbjaaGreatDoor.tf Go.Proofs.YtbebdaglkjhbjaaGreatDoor.ti
set_option linter.unusedVariables false
set_option linter.unusedSimpArgs false

/-- Rows whose numbers, and whose first entries, may be written on. -/
def Mut (base g n : Nat) (w : World) : Prop :=
  base ≤ g ∧ ∀ i, i < n → ∃ (z : Int) (bi m ci : Nat) (s : ByteArray), w.cell? ⟨g, i * 2, none⟩ = some (.slice (some ⟨bi, 0, none⟩) m ci) ∧ 0 < m ∧ m ≤ ci ∧ ci ≤ maxLen ∧ w.cell? ⟨g, i * 2 + 1, none⟩ = some (.int .u64 z) ∧ w.frozen? ⟨g, i * 2 + 1, none⟩ = false ∧
    w.cell? ⟨bi, 0, none⟩ = some (.string s) ∧ w.frozen? ⟨bi, 0, none⟩ = false ∧ bi ≠ g ∧ base ≤ bi

theorem Mut.drewN {base g n : Nat} {w : World} (h : Mut base g n w) (m : Nat) : Mut base g n (w.drewN m) := h
theorem Mut.setN {base g n i : Nat} {w : World} (h : Mut base g n w) (hi : i < n) (z : Int) : Mut base g n (w.setCell ⟨g, i * 2 + 1, none⟩ (.int .u64 z)) := by
  refine ⟨h.1, fun j hj => ?_⟩
  obtain ⟨z', bi, m, ci, s, h1, h2, h3, h3', h4, h5, h6, h7, h8, h9⟩ := h.2 j hj
  have hne : ∀ (a b : Addr), a ≠ b → (w.setCell a (.int .u64 z)).cell? b = w.cell? b := fun a b hab => World.cell?_setCell_other _ _ _ _ hab
  refine ⟨if i = j then z else z', bi, m, ci, s, ?_, h2, h3, h3', ?_, by rw [World.frozen?_setCell]; exact h5, ?_, by rw [World.frozen?_setCell]; exact h7, h8, h9⟩
  · rw [hne _ _ (by simp only [ne_eq, Addr.mk.injEq, and_true, true_and]; omega)]; exact h1
  · by_cases hij : i = j
    · subst hij
      rw [if_pos rfl]
      exact World.cell?_setCell_same _ _ _ h4
    · rw [if_neg hij, hne _ _ (by simp only [ne_eq, Addr.mk.injEq, and_true, true_and]; omega)]; exact h4
  · rw [hne _ _ (by simp only [ne_eq, Addr.mk.injEq, and_true]; intro e; exact h8 e.1.symm)]; exact h6
theorem Mut.setK {base g n b : Nat} {w : World} (h : Mut base g n w) (hb : b ≠ g) (t : ByteArray) : Mut base g n (w.setCell ⟨b, 0, none⟩ (.string t)) := by
  refine ⟨h.1, fun j hj => ?_⟩
  obtain ⟨z', bi, m, ci, s, h1, h2, h3, h3', h4, h5, h6, h7, h8, h9⟩ := h.2 j hj
  have hne : ∀ (a b : Addr), a ≠ b → (w.setCell a (.string t)).cell? b = w.cell? b := fun a b hab => World.cell?_setCell_other _ _ _ _ hab
  refine ⟨z', bi, m, ci, if b = bi then t else s, ?_, h2, h3, h3', ?_, by rw [World.frozen?_setCell]; exact h5, ?_, by rw [World.frozen?_setCell]; exact h7, h8, h9⟩
  · rw [hne _ _ (by simp only [ne_eq, Addr.mk.injEq, and_true]; intro e; exact hb e.1)]; exact h1
  · rw [hne _ _ (by simp only [ne_eq, Addr.mk.injEq, and_true]; intro e; exact hb e.1)]; exact h4
  · by_cases hbb : b = bi
    · subst hbb
      rw [if_pos rfl]
      exact World.cell?_setCell_same _ _ _ h6
    · rw [if_neg hbb, hne _ _ (by simp only [ne_eq, Addr.mk.injEq, and_true]; exact hbb)]; exact h6

theorem mut_of {base : Nat} {w : World} {v : Value} {rs : List Rw} (h : OwnC base rs.length w v rs) (hd : ∀ r ∈ rs, 0 < r.d.length) (h0 : 0 < rs.length) : ∃ g cap, v = .slice (some ⟨g, 0, none⟩) rs.length cap ∧ rs.length ≤ cap ∧ cap ≤ maxLen ∧ Mut base g rs.length w := by
  obtain ⟨uv, h1, h2, -⟩ := h
  have h1' := h1
  rcases h1.2 with ⟨e, hz⟩ | ⟨g, cap, cur, rfl, hb, hg, hnc, hcm, hcs, htake⟩
  · omega
  · refine ⟨g, cap, rfl, hnc, hcm, hb, fun i hi => ?_⟩
    have hr : rs[i]? = some rs[i] := List.getElem?_eq_getElem hi
    obtain ⟨f0, f1⟩ := flatR_get rs uv i _ hr
    have hq := fun j u (hj : (flatR rs uv)[j]? = some u) => World.ownsRow.cells h1' (g := g) rfl j u hj
    have ha : ∀ j, (⟨g, 0, none⟩ : Addr).add j = ⟨g, 0 + j, none⟩ := fun j => Addr.add_lit ..
    simp only [ha, Nat.zero_add] at hq
    obtain ⟨m1, m2⟩ := h2 i _ hr hi
    have hpos := hd _ (List.mem_of_getElem? hr)
    have m1' := m1
    unfold OwnE at m1'
    rcases m1'.2 with ⟨e, hz⟩ | ⟨bi, ci, cur2, e, hb2, hg2, hnc2, hcm2, -⟩
    · omega
    · obtain ⟨x, hx⟩ : ∃ x, (rs[i]).d[0]? = some x := ⟨(rs[i]).d[0], List.getElem?_eq_getElem hpos⟩
      obtain ⟨b', o', c', hv, -, -, -, e0, -⟩ := m1.es.at hx
      rw [e] at hv
      simp only [Value.slice.injEq, Option.some.injEq, Addr.mk.injEq, and_true, true_and] at hv
      obtain ⟨⟨rfl, rfl⟩, rfl⟩ := hv
      have hc0 := hq _ _ f0
      rw [e] at hc0
      refine ⟨_, bi, _, ci, x.key, hc0, hpos, hnc2, hcm2, hq _ _ f1, h1'.frozenAt _, by simpa using e0, ?_, fun he => m2 bi (by rw [e]; rfl) (by rw [he]; rfl), hb2⟩
      rw [e] at m1'
      exact m1'.frozenAt _

end Go.Proofs.YtbebdaglkjhbjaaGreatDoor.law13
