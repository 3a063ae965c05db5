/-
  A slice of entries that came in: how its texts' sizes stand to its bulk.
-/
import Derived.Test.YtbebdaglkjhbjaaGreatDoorBundE
import Derived.Test.YtbebdaglkjhbjaaGreatDoorEopen
import Derived.Test.YtbebdaglkjhbjaaGreatDoorRows
namespace Go.Proofs.YtbebdaglkjhbjaaGreatDoor.em
open Go.RowKit Go.ChangeShapes Go.WideShapes Go.Deep Go.Joins Go.Proofs.YtbebdaglkjhbjaaGreatDoor.tr
set_option linter.unusedVariables false
set_option linter.unusedSimpArgs false

theorem bulk_mem {H : Type} : ∀ {l : List (DataW H)} {y : DataW H}, y ∈ l → Rows.uptoBulk y ≤ Rows.uptoBulkAll l
  | x :: r, y, h => by
    simp only [Rows.uptoBulkAll]
    rcases List.mem_cons.1 h with rfl | h
    · omega
    · have := bulk_mem h; omega
theorem bulk_len {H : Type} : ∀ {l : List (DataW H)}, (∀ y ∈ l, 1 ≤ Rows.uptoBulk y) → l.length ≤ Rows.uptoBulkAll l
  | [], _ => by simp
  | x :: r, h => by
    have h1 := h x (by simp)
    have h2 := bulk_len (l := r) fun y hy => h y (by simp [hy])
    simp only [Rows.uptoBulkAll, List.length_cons]
    omega

theorem Tryz.cellsEnt : Tryz.prog.cellsOf 115 = 2 := by kernel_rfl
theorem Tryz.cellsStr : Tryz.prog.cellsOf 9 = 1 := by kernel_rfl

set_option maxRecDepth 100000 in
theorem ents_of_bulk {H : Type} {enc : TypeId × Value → H} {W : World} {a : Option Addr} {len cap : Nat} {d : DataW H} {p : List MemPlace}
    (h : DataW.Trod enc Tryz.prog W 0 (fun _ => true) true 77 (.slice a len cap) d p) :
    ∃ xs : List Ent, xs.length = len ∧ Es W.heap.size W (.slice a len cap) xs ∧ (∀ x ∈ xs, x.key.size + x.value.size ≤ Rows.uptoBulk d) ∧ xs.length ≤ Rows.uptoBulk d ∧ xs.length ≤ maxLen ∧ (∀ x ∈ xs, x.key.size ≤ maxLen ∧ x.value.size ≤ maxLen) := by
  obtain ⟨fuel, hf⟩ := h
  rcases open_slice Tryz.underlying77 hf with ⟨hcs, _⟩ | ⟨x, l, c, m, n, D, Pl, hcs, _, hl, hm, hmm, hx, hi⟩
  · simp [Value.cells] at hcs
    obtain ⟨rfl, rfl, rfl⟩ := hcs
    exact ⟨[], rfl, Es.nil _ _ _ _, by simp, by simp, by simp, by simp⟩
  · simp [Value.cells] at hcs
    obtain ⟨rfl, rfl, rfl⟩ := hcs
    have hmm' : m = cap := by simpa using hmm
    have hd : d = .slice ((List.range len).map D) ((List.range (m - len)).map fun j => D (len + j)) := congrArg Prod.fst hx
    have key : ∀ i, i < len → ∃ y : Ent, W.cell? ((x.add (i * 2)).add 0) = some (.string y.key) ∧ W.cell? ((x.add (i * 2)).add 1) = some (.string y.value) ∧ D i = .agg [.lit (.string y.key.data.toList), .lit (.string y.value.data.toList)] ∧ y.key.size ≤ maxLen ∧ y.value.size ≤ maxLen := by
      intro i hil
      obtain ⟨cs', hc, ht'⟩ := hi i (by omega)
      rw [Tryz.cellsEnt] at hc
      obtain ⟨ys, n', _, hD, hlen, hyl, hg⟩ := DataW.trod_struct Tryz.underlying115 ht'
      rw [Tryz.cellsEnt] at hlen
      obtain ⟨_, _, hat⟩ := World.cells?_some hc
      have g0 := hg 0 _ rfl
      have g1 := hg 1 _ rfl
      match cs', hlen with
      | [c0, c1], _ =>
        match ys, hyl with
        | [y0, y1], _ =>
          simp only [Tryz.cellsStr, List.drop_zero, List.take_succ_cons, List.take_zero, List.drop_succ_cons, List.getElem?_cons_zero, List.getElem?_cons_succ] at g0 g1
          obtain ⟨s0, e0, f0, l0⟩ := DataW.trod_string Tryz.underlying9 g0
          obtain ⟨s1, e1, f1, l1⟩ := DataW.trod_string Tryz.underlying9 g1
          simp [Tryz.cellsStr] at e0 e1
          subst e0 e1 f0 f1
          refine ⟨⟨s0, s1⟩, ?_, ?_, by simpa using (congrArg Prod.fst hD), l0, l1⟩
          · rw [hat 0 (by omega)]; rfl
          · rw [hat 1 (by omega)]; rfl
    obtain ⟨f, hf2⟩ := Go.Deep.choose_lt key
    have hbk : ∀ i, i < len → Rows.uptoBulk (D i) = (f i).key.size + (f i).value.size + 3 := fun i hil => by
      rw [(hf2 i hil).2.2.1]
      simp only [Rows.uptoBulk, Rows.uptoBulkAll]
      simp
      omega
    have hall : ∀ i, i < len → (f i).key.size + (f i).value.size ≤ Rows.uptoBulk d := fun i hil => by
      have h1 := bulk_mem (List.mem_map.2 ⟨i, List.mem_range.2 hil, rfl⟩ : D i ∈ (List.range len).map D)
      rw [hbk i hil] at h1
      rw [hd]
      simp only [Rows.uptoBulk]
      omega
    have hln : len ≤ Rows.uptoBulk d := by
      have h1 := bulk_len (l := (List.range len).map D) fun y hy => by
        obtain ⟨i, hi2, rfl⟩ := List.mem_map.1 hy
        rw [hbk i (by simpa using hi2)]; omega
      rw [hd]
      simp only [Rows.uptoBulk]
      simp at h1
      omega
    refine ⟨(List.range len).map f, by simp, ?_, fun y hy => ?_, by simpa using hln, by simp; omega, fun y hy => ?_⟩
    · by_cases h0 : len = 0
      · subst h0; exact Es.nil _ _ _ _
      · have hc := (hf2 0 (by omega)).1
        obtain ⟨b, off, spot⟩ := x
        have hspot : spot = none := by simpa [Addr.add] using World.cell?_spot hc
        subst hspot
        have hb : b < W.heap.size := World.block_lt_of_cell? W _ hc
        refine ⟨_, _, by simp, .inr ⟨b, off, rfl, hb, by simpa using hl, hm, fun i y hy => ?_⟩⟩
        have hil : i < len := by have := (List.getElem?_eq_some_iff.1 hy).1; simpa using this
        have : y = f i := by
          rw [List.getElem?_map, List.getElem?_range hil] at hy
          simpa using hy.symm
        subst this
        obtain ⟨k1, k2, -⟩ := hf2 i hil
        rw [add_add, add_plain] at k1 k2
        exact ⟨k1, by rw [Nat.add_assoc]; exact k2⟩
    · obtain ⟨i, hi2, rfl⟩ := List.mem_map.1 hy
      exact hall i (by simpa using hi2)
    · obtain ⟨i, hi2, rfl⟩ := List.mem_map.1 hy
      exact (hf2 i (by simpa using hi2)).2.2.2

end Go.Proofs.YtbebdaglkjhbjaaGreatDoor.em
