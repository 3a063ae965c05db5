/-
  A slice of rows that came in: how long they are, of what comes in's bulk.
-/
import Derived.Test.YtbebdaglkjhbjaaGreatDoorBundR
import Derived.Test.YtbebdaglkjhbjaaGreatDoorEopen2
namespace Go.Proofs.YtbebdaglkjhbjaaGreatDoor.tm
open Go.RowKit Go.ChangeShapes Go.WideShapes Go.Deep Go.Joins Go.Proofs.YtbebdaglkjhbjaaGreatDoor.tr Go.Proofs.YtbebdaglkjhbjaaGreatDoor.em
set_option linter.unusedVariables false
set_option linter.unusedSimpArgs false

set_option maxRecDepth 100000 in
theorem ents_gen {t : TypeId} (ht : Tryz.prog.underlying t = some (.slice 115)) {H : Type} {enc : TypeId × Value → H} {W : World} {a : Option Addr} {len cap : Nat} {d : DataW H} {p : List MemPlace}
    (h : DataW.Trod enc Tryz.prog W 0 (fun _ => true) true t (.slice a len cap) d p) :
    ∃ xs : List Ent, xs.length = len ∧ Es W.heap.size W (.slice a len cap) xs ∧ (∀ x ∈ xs, x.key.size + x.value.size ≤ Rows.uptoBulk d) ∧ xs.length ≤ Rows.uptoBulk d ∧ xs.length ≤ maxLen ∧ (∀ x ∈ xs, x.key.size ≤ maxLen ∧ x.value.size ≤ maxLen) := by
  obtain ⟨fuel, hf⟩ := h
  rcases open_slice ht hf with ⟨hcs, _⟩ | ⟨x, l, c, m, n, D, Pl, hcs, _, hl, hm, hmm, hx, hi⟩
  · simp [Value.cells] at hcs
    obtain ⟨rfl, rfl, rfl⟩ := hcs
    exact ⟨[], rfl, Es.nil _ _ _ _, by simp, by simp, by simp, by simp⟩
  · simp [Value.cells] at hcs
    obtain ⟨rfl, rfl, rfl⟩ := hcs
    have hmm' : m = cap := by simpa using hmm
    have hd : d = .slice ((List.range len).map D) ((List.range (m - len)).map fun j => D (len + j)) := congrArg Prod.fst hx
    have key : ∀ i, i < len → ∃ y : Ent, W.cell? ((x.add (i * 2)).add 0) = some (.string y.key) ∧ W.cell? ((x.add (i * 2)).add 1) = some (.string y.value) ∧ D i = .agg [.lit (.string y.key.data.toList), .lit (.string y.value.data.toList)] ∧ y.key.size ≤ maxLen ∧ y.value.size ≤ maxLen := by
      intro i hil
      obtain ⟨cs', hc, htt⟩ := hi i (by omega)
      rw [Tryz.cellsEnt] at hc
      obtain ⟨ys, n', _, hD, hlen, hyl, hg⟩ := DataW.trod_struct Tryz.underlying115 htt
      rw [Tryz.cellsEnt] at hlen
      obtain ⟨_, _, hat⟩ := World.cells?_some hc
      have g0 := hg 0 _ rfl
      have g1 := hg 1 _ rfl
      match cs', hlen with
      | [c0, c1], _ =>
        match ys, hyl with
        | [y0, y1], _ =>
          simp only [Tryz.cellsStr, List.drop_zero, List.take_succ_cons, List.take_zero, List.drop_succ_cons, List.getElem?_cons_zero, List.getElem?_cons_succ] at g0 g1
          obtain ⟨s0, e0, f0, l0⟩ := DataW.trod_string Tryz.underlying9 g0
          obtain ⟨s1, e1, f1, l1⟩ := DataW.trod_string Tryz.underlying9 g1
          simp [Tryz.cellsStr] at e0 e1
          subst e0 e1 f0 f1
          refine ⟨⟨s0, s1⟩, ?_, ?_, by simpa using (congrArg Prod.fst hD), l0, l1⟩
          · rw [hat 0 (by omega)]; rfl
          · rw [hat 1 (by omega)]; rfl
    obtain ⟨f, hf2⟩ := Go.Deep.choose_lt key
    have hbk : ∀ i, i < len → Rows.uptoBulk (D i) = (f i).key.size + (f i).value.size + 3 := fun i hil => by
      rw [(hf2 i hil).2.2.1]
      simp only [Rows.uptoBulk, Rows.uptoBulkAll]
      simp
      omega
    have hall : ∀ i, i < len → (f i).key.size + (f i).value.size ≤ Rows.uptoBulk d := fun i hil => by
      have h1 := bulk_mem (List.mem_map.2 ⟨i, List.mem_range.2 hil, rfl⟩ : D i ∈ (List.range len).map D)
      rw [hbk i hil] at h1
      rw [hd]
      simp only [Rows.uptoBulk]
      omega
    have hln : len ≤ Rows.uptoBulk d := by
      have h1 := bulk_len (l := (List.range len).map D) fun y hy => by
        obtain ⟨i, hi2, rfl⟩ := List.mem_map.1 hy
        rw [hbk i (by simpa using hi2)]; omega
      rw [hd]
      simp only [Rows.uptoBulk]
      simp at h1
      omega
    refine ⟨(List.range len).map f, by simp, ?_, fun y hy => ?_, by simpa using hln, by simp; omega, fun y hy => ?_⟩
    · by_cases h0 : len = 0
      · subst h0; exact Es.nil _ _ _ _
      · have hc := (hf2 0 (by omega)).1
        obtain ⟨b, off, spot⟩ := x
        have hspot : spot = none := by simpa [Addr.add] using World.cell?_spot hc
        subst hspot
        have hb : b < W.heap.size := World.block_lt_of_cell? W _ hc
        refine ⟨_, _, by simp, .inr ⟨b, off, rfl, hb, by simpa using hl, hm, fun i y hy => ?_⟩⟩
        have hil : i < len := by have := (List.getElem?_eq_some_iff.1 hy).1; simpa using this
        have : y = f i := by
          rw [List.getElem?_map, List.getElem?_range hil] at hy
          simpa using hy.symm
        subst this
        obtain ⟨k1, k2, -⟩ := hf2 i hil
        rw [add_add, add_plain] at k1 k2
        exact ⟨k1, by rw [Nat.add_assoc]; exact k2⟩
    · obtain ⟨i, hi2, rfl⟩ := List.mem_map.1 hy
      exact hall i (by simpa using hi2)
    · obtain ⟨i, hi2, rfl⟩ := List.mem_map.1 hy
      exact (hf2 i (by simpa using hi2)).2.2.2


theorem Tryz.cellsTRow : Tryz.prog.cellsOf 80 = 2 := by kernel_rfl
theorem Tryz.cellsTDes : Tryz.prog.cellsOf 78 = 1 := by kernel_rfl
theorem Tryz.cellsU64 : Tryz.prog.cellsOf 47 = 1 := by kernel_rfl

set_option maxRecDepth 100000 in
theorem rows_of_bulk {H : Type} {enc : TypeId × Value → H} {W : World} {a : Option Addr} {len cap : Nat} {d : DataW H} {p : List MemPlace}
    (h : DataW.Trod enc Tryz.prog W 0 (fun _ => true) true 22 (.slice a len cap) d p) :
    ∃ rs : List Rw, rs.length = len ∧ Rs (fun k => k < W.heap.size) W (.slice a len cap) rs ∧ (∀ r ∈ rs, r.d.length ≤ Rows.uptoBulk d ∧ (∀ x ∈ r.d, x.key.size + x.value.size ≤ Rows.uptoBulk d) ∧ r.n < 18446744073709551616) ∧ rs.length ≤ Rows.uptoBulk d := by
  obtain ⟨fuel, hf⟩ := h
  rcases open_slice Tryz.underlying22 hf with ⟨hcs, _⟩ | ⟨x, l, c, m, n, D, Pl, hcs, _, hl, hm, hmm, hx, hi⟩
  · simp [Value.cells] at hcs
    obtain ⟨rfl, rfl, rfl⟩ := hcs
    exact ⟨[], rfl, Rs.nil _ _ _ _, by simp, by simp⟩
  · simp [Value.cells] at hcs
    obtain ⟨rfl, rfl, rfl⟩ := hcs
    have hmm' : m = cap := by simpa using hmm
    have hd : d = .slice ((List.range len).map D) ((List.range (m - len)).map fun j => D (len + j)) := congrArg Prod.fst hx
    have key : ∀ i, i < len → ∃ y : Rw, ∃ u, W.cell? ((x.add (i * 2)).add 0) = some u ∧ Es W.heap.size W u y.d ∧ W.cell? ((x.add (i * 2)).add 1) = some (.int .u64 (y.n : Nat)) ∧ (∀ z ∈ y.d, z.key.size + z.value.size ≤ Rows.uptoBulk (D i)) ∧ y.d.length ≤ Rows.uptoBulk (D i) ∧ 1 ≤ Rows.uptoBulk (D i) ∧ y.n < 18446744073709551616 := by
      intro i hil
      obtain ⟨cs', hc, ht'⟩ := hi i (by omega)
      rw [Tryz.cellsTRow] at hc
      obtain ⟨ys, n', _, hD, hlen, hyl, hg⟩ := DataW.trod_struct Tryz.underlying80 ht'
      rw [Tryz.cellsTRow] at hlen
      obtain ⟨_, _, hat⟩ := World.cells?_some hc
      have g0 := hg 0 _ rfl
      have g1 := hg 1 _ rfl
      match cs', hlen with
      | [c0, c1], _ =>
        match ys, hyl with
        | [y0, y1], _ =>
          simp only [Tryz.cellsTDes, Tryz.cellsU64, List.drop_zero, List.take_succ_cons, List.take_zero, List.drop_succ_cons, List.getElem?_cons_zero, List.getElem?_cons_succ] at g0 g1
          have g9 : DataW.trod enc Tryz.prog W 0 (fun _ => true) true n' 78 [c0] = some y0 := by
            have e : Tryz.prog.cellsOf 78 = 1 := Tryz.cellsTDes
            simpa [e] using g0
          clear g0
          obtain ⟨z, e1, f1, wf⟩ := DataW.trod_int Tryz.underlying47 g1
          simp [Tryz.cellsU64] at e1
          subst e1
          have hz : 0 ≤ z ∧ z ≤ 18446744073709551615 := by simpa [Lit.wf, IntKind.min, IntKind.max, IntKind.signed, IntKind.bits] using wf
          obtain ⟨k, rfl⟩ : ∃ k : Nat, z = k := ⟨z.toNat, by omega⟩
          obtain ⟨q, y0p⟩ := y0
          have hes : ∃ xs : List Ent, Es W.heap.size W c0 xs ∧ (∀ z ∈ xs, z.key.size + z.value.size ≤ Rows.uptoBulk q) ∧ xs.length ≤ Rows.uptoBulk q := by
            rcases open_slice Tryz.underlying78 g9 with ⟨e, -⟩ | ⟨ai, li, ci, mi, ni, Di, Pi, e, -⟩
            · simp at e
              subst e
              obtain ⟨xs, k1, k2, k3, k4, -⟩ := ents_gen Tryz.underlying78 (enc := enc) (a := none) (len := 0) (cap := 0) ⟨_, g9⟩
              exact ⟨xs, k2, k3, k4⟩
            · simp at e
              subst e
              obtain ⟨xs, k1, k2, k3, k4, -⟩ := ents_gen Tryz.underlying78 (enc := enc) (a := some ai) (len := li) (cap := ci) ⟨_, g9⟩
              exact ⟨xs, k2, k3, k4⟩
          obtain ⟨xs, k1, k2, k3⟩ := hes
          have hDi : D i = .agg [q, y1.1] := by simpa using (congrArg Prod.fst hD)
          have hB : Rows.uptoBulk q + 1 ≤ Rows.uptoBulk (D i) := by
            rw [hDi]
            simp only [Rows.uptoBulk, Rows.uptoBulkAll]
            omega
          refine ⟨⟨xs, k⟩, c0, ?_, k1, ?_, fun z hz => by have := k2 z hz; omega, by show xs.length ≤ _; omega, by omega, by show k < _; omega⟩
          · rw [hat 0 (by omega)]; rfl
          · rw [hat 1 (by omega)]; rfl
    obtain ⟨f, hf2⟩ := Go.Deep.choose_lt key
    have hall : ∀ i, i < len → Rows.uptoBulk (D i) ≤ Rows.uptoBulk d := fun i hil => by
      have h1 := bulk_mem (List.mem_map.2 ⟨i, List.mem_range.2 hil, rfl⟩ : D i ∈ (List.range len).map D)
      rw [hd]
      simp only [Rows.uptoBulk]
      omega
    have hln : len ≤ Rows.uptoBulk d := by
      have h1 := bulk_len (l := (List.range len).map D) fun y hy => by
        obtain ⟨i, hi2, rfl⟩ := List.mem_map.1 hy
        obtain ⟨u, -, -, -, -, -, k, -⟩ := hf2 i (by simpa using hi2)
        exact k
      rw [hd]
      simp only [Rows.uptoBulk]
      simp at h1
      omega
    refine ⟨(List.range len).map f, by simp, ?_, fun y hy => ?_, by simpa using hln⟩
    · by_cases h0 : len = 0
      · subst h0; exact Rs.nil _ _ _ _
      · obtain ⟨u0, hc, -⟩ := hf2 0 (by omega)
        obtain ⟨b, off, spot⟩ := x
        have hspot : spot = none := by simpa [Addr.add] using World.cell?_spot hc
        subst hspot
        have hb : b < W.heap.size := World.block_lt_of_cell? W _ hc
        refine ⟨_, _, by simp, .inr ⟨b, off, rfl, hb, by simpa using hl, hm, fun i y hy => ?_⟩⟩
        have hil : i < len := by have := (List.getElem?_eq_some_iff.1 hy).1; simpa using this
        have : y = f i := by
          rw [List.getElem?_map, List.getElem?_range hil] at hy
          simpa using hy.symm
        subst this
        obtain ⟨u, k1, k2, k3, -⟩ := hf2 i hil
        rw [add_add, add_plain] at k1 k3
        exact ⟨u, k1, EsS.of k2, by rw [Nat.add_assoc]; exact k3⟩
    · obtain ⟨i, hi2, rfl⟩ := List.mem_map.1 hy
      have hil : i < len := by simpa using hi2
      obtain ⟨u, -, -, -, k4, k5, -, k6⟩ := hf2 i hil
      have := hall i hil
      exact ⟨by omega, fun z hz => by have := k4 z hz; omega, k6⟩

end Go.Proofs.YtbebdaglkjhbjaaGreatDoor.tm
