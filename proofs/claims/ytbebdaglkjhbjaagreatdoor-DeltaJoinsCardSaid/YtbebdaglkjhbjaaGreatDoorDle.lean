/-
  Rows of the call's own that are written on; Go's slices.IndexFunc, slices.DeleteFunc at rows, and the closure that tells what stayed the same.
-/
import Derived.Test.YtbebdaglkjhbjaaGreatDoorDla
import Derived.Lib.SliceRun
namespace Go.Proofs.YtbebdaglkjhbjaaGreatDoor.da
open Go.RowKit Go.Proofs.YtbebdaglkjhbjaaGreatDoor.vi Go.Proofs.YtbebdaglkjhbjaaGreatDoor.um Go.Proofs.YtbebdaglkjhbjaaGreatDoor.wm Go.Proofs.YtbebdaglkjhbjaaGreatDoor.tr Go.Proofs.YtbebdaglkjhbjaaGreatDoor.em Go.Proofs.YtbebdaglkjhbjaaGreatDoor.rm Go.Proofs.YtbebdaglkjhbjaaGreatDoor.law11 Go.Proofs.YtbebdaglkjhbjaaGreatDoor.dd Go.Proofs.YtbebdaglkjhbjaaGreatDoor.dr Go.Proofs.YtbebdaglkjhbjaaGreatDoor.tm Go.Proofs.YtbebdaglkjhbjaaGreatDoor.tf Go.Proofs.YtbebdaglkjhbjaaGreatDoor.dl Go.Proofs.YtbebdaglkjhbjaaGreatDoor.dz Go.Proofs.YtbebdaglkjhbjaaGreatDoor.ti
set_option linter.unusedVariables false
set_option linter.unusedSimpArgs false

/-- The first n rows of the block g hold c 0, c 1 ..; what stands in them lies in blocks of T, none of which is g. -/
def RowW (g n : Nat) (T : Nat → Prop) (w : World) (c : Nat → Rw) : Prop :=
  g < w.heap.size ∧ ¬ T g ∧ ∀ j, j < n → ∃ u, w.cell? ⟨g, j * 2, none⟩ = some u ∧ EsS T w u (c j).d ∧ w.cell? ⟨g, j * 2 + 1, none⟩ = some (.int .u64 ((c j).n : Nat)) ∧ w.frozen? ⟨g, j * 2, none⟩ = false ∧ w.frozen? ⟨g, j * 2 + 1, none⟩ = false

section
variable {g n : Nat} {T : Nat → Prop} {w w' : World} {c : Nat → Rw}
theorem frozen_kept {w w' : World} {row : Option Nat} {b i : Nat} (h : w.frozen? ⟨b, i, none⟩ = false) (g : w.grownBy w' row) (hb : b < w.heap.size) (hr : some b ≠ row) : w'.frozen? ⟨b, i, none⟩ = false := by
  have := g.block b hb hr
  unfold World.frozen? at h ⊢
  rw [this]
  exact h
theorem RowW.grown (h : RowW g n T w c) (k : w.grownBy w' none) : RowW g n T w' c := by
  obtain ⟨h0, h1, h2⟩ := h
  refine ⟨Nat.lt_of_lt_of_le h0 k.size, h1, fun j hj => ?_⟩
  obtain ⟨u, a1, a2, a3, a4, a5⟩ := h2 j hj
  exact ⟨u, (Chg.of_none (S := fun _ => False) k).cell a1 (fun e => e), a2.grown k, (Chg.of_none (S := fun _ => False) k).cell a3 (fun e => e), frozen_kept (row := none) a4 k h0 (fun e => by cases e), frozen_kept (row := none) a5 k h0 (fun e => by cases e)⟩
theorem RowW.less {m : Nat} (h : RowW g n T w c) (hm : m ≤ n) : RowW g m T w c := ⟨h.1, h.2.1, fun j hj => h.2.2 j (by omega)⟩
theorem RowW.eq {c' : Nat → Rw} (h : RowW g n T w c) (hc : ∀ j, j < n → c j = c' j) : RowW g n T w c' := ⟨h.1, h.2.1, fun j hj => by rw [← hc j hj]; exact h.2.2 j hj⟩
set_option maxHeartbeats 1000000 in
/-- A row is written. -/
theorem RowW.set (h : RowW g n T w c) {i : Nat} (hi : i < n) {u : Value} {x : Rw} (hu : EsS T w u x.d) : RowW g n T ((w.setCell ⟨g, i * 2, none⟩ u).setCell ⟨g, i * 2 + 1, none⟩ (.int .u64 (x.n : Nat))) (fun j => if j = i then x else c j) := by
  obtain ⟨h0, h1, h2⟩ := h
  have hg : w.grownBy ((w.setCell ⟨g, i * 2, none⟩ u).setCell ⟨g, i * 2 + 1, none⟩ (.int .u64 (x.n : Nat))) (some g) := only_setCell (p := ⟨g, i * 2 + 1, none⟩) (only_setCell (p := ⟨g, i * 2, none⟩) (only_refl w (some g)) (.inl rfl) u) (.inl rfl) _
  have hc : Chg (fun k => k = g) w ((w.setCell ⟨g, i * 2, none⟩ u).setCell ⟨g, i * 2 + 1, none⟩ (.int .u64 (x.n : Nat))) := Chg.of_grown hg (fun k e => .inl (by cases e; rfl))
  have hT : ∀ k, T k → ¬ k = g := fun k hk e => h1 (e ▸ hk)
  obtain ⟨ui, b1, -, b3, b4, b5⟩ := h2 i hi
  refine ⟨Nat.lt_of_lt_of_le h0 hg.size, h1, fun j hj => ?_⟩
  obtain ⟨uj, a1, a2, a3, a4, a5⟩ := h2 j hj
  by_cases hji : j = i
  · subst hji
    refine ⟨u, ?_, ?_, ?_, by rw [World.frozen?_setCell, World.frozen?_setCell]; exact a4, by rw [World.frozen?_setCell, World.frozen?_setCell]; exact a5⟩
    · rw [World.cell?_setCell_other _ _ _ _ (by simp)]
      exact World.cell?_setCell_same _ _ _ a1
    · simp only [if_true]; exact hu.kept hc hT
    · simp only [if_true]
      exact World.cell?_setCell_same _ _ _ (by rw [World.cell?_setCell_other _ _ _ _ (by simp)]; exact a3)
  · refine ⟨uj, ?_, ?_, ?_, by rw [World.frozen?_setCell, World.frozen?_setCell]; exact a4, by rw [World.frozen?_setCell, World.frozen?_setCell]; exact a5⟩
    · rw [World.cell?_setCell_other _ _ _ _ (by simp only [ne_eq, Addr.mk.injEq, and_true, true_and]; omega), World.cell?_setCell_other _ _ _ _ (by simp only [ne_eq, Addr.mk.injEq, and_true, true_and]; omega)]
      exact a1
    · simp only [if_neg hji]; exact a2.kept hc hT
    · simp only [if_neg hji]
      rw [World.cell?_setCell_other _ _ _ _ (by simp only [ne_eq, Addr.mk.injEq, and_true, true_and]; omega), World.cell?_setCell_other _ _ _ _ (by simp only [ne_eq, Addr.mk.injEq, and_true, true_and]; omega)]
      exact a3
/-- A row's number is written. -/
theorem RowW.setN (h : RowW g n T w c) {i : Nat} (hi : i < n) (z : Nat) : RowW g n T (w.setCell ⟨g, i * 2 + 1, none⟩ (.int .u64 (z : Nat))) (fun j => if j = i then ⟨(c j).d, z⟩ else c j) := by
  obtain ⟨h0, h1, h2⟩ := h
  have hg : w.grownBy (w.setCell ⟨g, i * 2 + 1, none⟩ (.int .u64 (z : Nat))) (some g) := only_setCell (p := ⟨g, i * 2 + 1, none⟩) (only_refl w (some g)) (.inl rfl) _
  have hc : Chg (fun k => k = g) w (w.setCell ⟨g, i * 2 + 1, none⟩ (.int .u64 (z : Nat))) := Chg.of_grown hg (fun k e => .inl (by cases e; rfl))
  have hT : ∀ k, T k → ¬ k = g := fun k hk e => h1 (e ▸ hk)
  refine ⟨Nat.lt_of_lt_of_le h0 hg.size, h1, fun j hj => ?_⟩
  obtain ⟨uj, a1, a2, a3, a4, a5⟩ := h2 j hj
  refine ⟨uj, ?_, ?_, ?_, by rw [World.frozen?_setCell]; exact a4, by rw [World.frozen?_setCell]; exact a5⟩
  · rw [World.cell?_setCell_other _ _ _ _ (by simp only [ne_eq, Addr.mk.injEq, and_true, true_and]; omega)]
    exact a1
  · have := a2.kept hc hT
    by_cases hji : j = i
    · simp only [if_pos hji]; exact this
    · simp only [if_neg hji]; exact this
  · by_cases hji : j = i
    · subst hji
      simp only [if_true]
      exact World.cell?_setCell_same _ _ _ a3
    · simp only [if_neg hji]
      rw [World.cell?_setCell_other _ _ _ _ (by simp only [ne_eq, Addr.mk.injEq, and_true, true_and]; omega)]
      exact a3
/-- Cells behind the first m rows are written. -/
theorem RowW.cut (h : RowW g n T w c) {m : Nat} (hm : m ≤ n) (vs : List Value) : RowW g m T (w.setCells g (m * 2) vs) c ∧ w.grownBy (w.setCells g (m * 2) vs) (some g) := by
  have hg : ∀ (vs : List Value) (o : Nat) (w : World), w.grownBy (w.setCells g o vs) (some g) := by
    intro vs
    induction vs with
    | nil => intro o w; exact only_refl _ _
    | cons v r ih => intro o w; exact only_trans (only_setCell (only_refl w (some g)) (.inl rfl) v) (ih (o + 1) _)
  have hgw := hg vs (m * 2) w
  obtain ⟨h0, h1, h2⟩ := h
  have hc : Chg (fun k => k = g) w (w.setCells g (m * 2) vs) := Chg.of_grown hgw (fun k e => .inl (by cases e; rfl))
  refine ⟨⟨Nat.lt_of_lt_of_le h0 hgw.size, h1, fun j hj => ?_⟩, hgw⟩
  obtain ⟨uj, a1, a2, a3, a4, a5⟩ := h2 j (by omega)
  refine ⟨uj, ?_, a2.kept hc (fun k hk e => h1 (e ▸ hk)), ?_, by rw [World.frozen?_setCells]; exact a4, by rw [World.frozen?_setCells]; exact a5⟩
  · rw [World.cell?_setCells_out _ _ _ _ _ (fun _ _ => .inl (by show j * 2 < m * 2; omega))]; exact a1
  · rw [World.cell?_setCells_out _ _ _ _ _ (fun _ _ => .inl (by show j * 2 + 1 < m * 2; omega))]; exact a3
/-- As a slice that is read. -/
theorem RowW.rs {cap : Nat} {rs : List Rw} (h : RowW g n T w c) (hl : rs.length = n) (hcap : n ≤ cap) (hcm : cap ≤ maxLen) (hr : ∀ (j : Nat) (x : Rw), rs[j]? = some x → c j = x) : Rs (fun k => T k ∨ k = g) w (.slice (some ⟨g, 0, none⟩) n cap) rs := by
  subst hl
  refine ⟨_, _, rfl, .inr ⟨g, 0, rfl, .inr rfl, hcap, hcm, fun i r hri => ?_⟩⟩
  have hi : i < rs.length := (List.getElem?_eq_some_iff.1 hri).1
  obtain ⟨u, a1, a2, a3, -⟩ := h.2.2 i hi
  rw [hr i r hri] at a2 a3
  exact ⟨u, by rw [Nat.zero_add]; exact a1, a2.mono (fun k _ hk => .inl hk), by rw [Nat.zero_add]; exact a3⟩
theorem RowW.of {base : Nat} {v : Value} {rs : List Rw} (h : OwnC base rs.length w v rs) (h0 : 0 < rs.length) : ∃ g cap T, v = .slice (some ⟨g, 0, none⟩) rs.length cap ∧ rs.length ≤ cap ∧ cap ≤ maxLen ∧ base ≤ g ∧ (∀ k, T k → base ≤ k ∧ k < w.heap.size) ∧ RowW g rs.length T w (fun j => rs.getD j default) := by
  obtain ⟨T, ho, hT⟩ := h.ownR
  obtain ⟨uv, h1, h2, h3, h4⟩ := ho
  have h1' := h1
  rcases h1.2 with ⟨e, hz⟩ | ⟨g, cap, cur, rfl, hb, hg, hnc, hcm, hcs, htake⟩
  · omega
  · refine ⟨g, cap, T, rfl, hnc, hcm, hb, fun k hk => ⟨hT k hk, h3 k hk⟩, (Array.getElem?_eq_some_iff.1 hg).1, h4 g rfl, fun i hi => ?_⟩
    have hr : rs[i]? = some rs[i] := List.getElem?_eq_getElem hi
    have hgd : rs.getD i default = rs[i] := by rw [List.getD_eq_getElem?_getD, hr]; rfl
    obtain ⟨f0, f1⟩ := flatR_get rs uv i _ hr
    have hq := fun j u (hj : (flatR rs uv)[j]? = some u) => World.ownsRow.cells h1' (g := g) rfl j u hj
    have ha : ∀ j, (⟨g, 0, none⟩ : Addr).add j = ⟨g, 0 + j, none⟩ := fun j => Addr.add_lit ..
    simp only [ha, Nat.zero_add] at hq
    simp only [hgd]
    exact ⟨uv i, hq _ _ f0, h2 i _ hr, hq _ _ f1, h1'.frozenAt _, h1'.frozenAt _⟩
end

/-! clear, at rows -/
theorem run_clear_rows {P : Program} (w : World) (t e ty : TypeId) (z0 z1 : Value) (ht : P.underlying t = some (.slice e)) (hv : ∀ w, (zeroValue e).run P w = .ok (.agg #[z0, z1]) w) (hz : (Value.agg #[z0, z1]).cells = #[z0, z1]) (h0 : z0.oneCell' = true) (h1 : z1.oneCell' = true) (b o n c : Nat) (hn : 0 < n)
    (hc : ∀ j, j < n * 2 → (w.cell? ⟨b, o + j, none⟩).isSome = true) (hf : ∀ j, j < n * 2 → w.frozen? ⟨b, o + j, none⟩ = false) :
    (Builtin.clear_ #[t] ty #[.slice (some ⟨b, o, none⟩) n c]).run P w = .ok (.tuple #[]) (w.setCells b o (Builtin.zeroCells #[z0, z1] n).toList) := by
  have hsz : (Builtin.zeroCells #[z0, z1] n).toList.length = n * 2 := by simp [Builtin.zeroCells]
  have hst := run_storeCells_cells (P := P) b o (Builtin.zeroCells #[z0, z1] n).toList 0 w (by rw [hsz]; simpa using hc) (by rw [hsz]; simpa using hf) (by
    intro v hv'
    simp only [Builtin.zeroCells, Array.toList_map, List.mem_map] at hv'
    obtain ⟨i, -, rfl⟩ := hv'
    rcases (show i % 2 = 0 ∨ i % 2 = 1 by omega) with hi | hi <;> simp [hi, h0, h1])
  simp only [Nat.add_zero] at hst
  obtain ⟨m, rfl⟩ : ∃ m, n = m + 1 := ⟨n - 1, by omega⟩
  simp [Builtin.clear_, run_underlying ht, hv, hz, hst]

theorem zeroTR (w : World) : (zeroValue 80).run Tryz.prog w = .ok (.agg #[.slice none 0 0, .int .u64 0]) w := by kernel_rfl

end Go.Proofs.YtbebdaglkjhbjaaGreatDoor.da
