/-
  A slice of rows that came in: how long they are, of the form's own reach.
-/
import Derived.Test.YtbebdaglkjhbjaaGreatDoorRopen
import Derived.Test.YtbebdaglkjhbjaaGreatDoorEreach
namespace Go.Proofs.YtbebdaglkjhbjaaGreatDoor.tm
open Go.RowKit Go.ChangeShapes Go.WideShapes Go.Deep Go.Joins Go.Proofs.YtbebdaglkjhbjaaGreatDoor.tr Go.Proofs.YtbebdaglkjhbjaaGreatDoor.em
set_option linter.unusedVariables false
set_option linter.unusedSimpArgs false

theorem Tryz.bytesTRow : Tryz.prog.bytesOf 80 = 32 := by kernel_rfl

theorem Tryz.weightsTRow {H : Type} (q y : DataW H) : (DataW.agg [q, y] : DataW H).weights Tryz.prog 80 = q.weights Tryz.prog 78 ++ y.weights Tryz.prog 47 := by
  simp only [DataW.weights, Tryz.underlying80]
  simp [DataW.weightsEach]

set_option maxRecDepth 100000 in
theorem rows_reach_at {t : TypeId} (ht : Tryz.prog.underlying t = some (.slice 80)) {H : Type} {enc : TypeId × Value → H} {W : World} {a : Option Addr} {len cap : Nat} {d : DataW H} {p : List MemPlace}
    (h : DataW.Trod enc Tryz.prog W 0 (fun _ => true) true t (.slice a len cap) d p) (hw : ∀ n ∈ d.weights Tryz.prog t, n ≤ reachBytes) :
    ∃ rs : List Rw, rs.length = len ∧ Rs (fun k => k < W.heap.size) W (.slice a len cap) rs ∧ (∀ r ∈ rs, r.d.length ≤ 140737488351232 ∧ (∀ x ∈ r.d, x.key.size ≤ 140737488351232 ∧ x.value.size ≤ 140737488351232) ∧ r.n < 18446744073709551616) ∧ rs.length ≤ 140737488351232 := by
  obtain ⟨fuel, hf⟩ := h
  rcases open_slice ht hf with ⟨hcs, _⟩ | ⟨x, l, c, m, n, D, Pl, hcs, _, hl, hm, hmm, hx, hi⟩
  · simp [Value.cells] at hcs
    obtain ⟨rfl, rfl, rfl⟩ := hcs
    exact ⟨[], rfl, Rs.nil _ _ _ _, by simp, by simp⟩
  · simp [Value.cells] at hcs
    obtain ⟨rfl, rfl, rfl⟩ := hcs
    have hmm' : m = cap := by simpa using hmm
    have hd : d = .slice ((List.range len).map D) ((List.range (m - len)).map fun j => D (len + j)) := congrArg Prod.fst hx
    have key : ∀ i, i < len → ∃ y : Rw, ∃ u, W.cell? ((x.add (i * 2)).add 0) = some u ∧ Es W.heap.size W u y.d ∧ W.cell? ((x.add (i * 2)).add 1) = some (.int .u64 (y.n : Nat)) ∧ (∀ z ∈ y.d, z.key.size ≤ 140737488351232 ∧ z.value.size ≤ 140737488351232) ∧ y.d.length ≤ 140737488351232 ∧ y.n < 18446744073709551616 := by
      intro i hil
      obtain ⟨cs', hc, ht'⟩ := hi i (by omega)
      rw [Tryz.cellsTRow] at hc
      obtain ⟨ys, n', _, hD, hlen, hyl, hg⟩ := DataW.trod_struct Tryz.underlying80 ht'
      rw [Tryz.cellsTRow] at hlen
      obtain ⟨_, _, hat⟩ := World.cells?_some hc
      have g0 := hg 0 _ rfl
      have g1 := hg 1 _ rfl
      match cs', hlen with
      | [c0, c1], _ =>
        match ys, hyl with
        | [y0, y1], _ =>
          simp only [Tryz.cellsTDes, Tryz.cellsU64, List.drop_zero, List.take_succ_cons, List.take_zero, List.drop_succ_cons, List.getElem?_cons_zero, List.getElem?_cons_succ] at g0 g1
          have g9 : DataW.trod enc Tryz.prog W 0 (fun _ => true) true n' 78 [c0] = some y0 := by
            have e : Tryz.prog.cellsOf 78 = 1 := Tryz.cellsTDes
            simpa [e] using g0
          clear g0
          obtain ⟨z, e1, f1, wf⟩ := DataW.trod_int Tryz.underlying47 g1
          simp [Tryz.cellsU64] at e1
          subst e1
          have hz : 0 ≤ z ∧ z ≤ 18446744073709551615 := by simpa [Lit.wf, IntKind.min, IntKind.max, IntKind.signed, IntKind.bits] using wf
          obtain ⟨k, rfl⟩ : ∃ k : Nat, z = k := ⟨z.toNat, by omega⟩
          obtain ⟨q, y0p⟩ := y0
          have hDi : D i = .agg [q, y1.1] := by simpa using (congrArg Prod.fst hD)
          have hq : ∀ n ∈ q.weights Tryz.prog 78, n ≤ reachBytes := fun n hn => by
            have h1 := wslice_mem ht (List.mem_map.2 ⟨i, List.mem_range.2 hil, rfl⟩ : D i ∈ (List.range len).map D) (hd ▸ hw)
            rw [hDi, Tryz.weightsTRow] at h1
            exact h1 n (List.mem_append_left _ hn)
          have hes : ∃ xs : List Ent, Es W.heap.size W c0 xs ∧ (∀ z ∈ xs, z.key.size ≤ 140737488351232 ∧ z.value.size ≤ 140737488351232) ∧ xs.length ≤ 140737488351232 := by
            rcases open_slice Tryz.underlying78 g9 with ⟨e, -⟩ | ⟨ai, li, ci, mi, ni, Di, Pi, e, -⟩
            · simp at e
              subst e
              obtain ⟨xs, k1, k2, k3, k4⟩ := ents_reach Tryz.underlying78 (enc := enc) (a := none) (len := 0) (cap := 0) ⟨_, g9⟩ hq
              exact ⟨xs, k2, k3, k4⟩
            · simp at e
              subst e
              obtain ⟨xs, k1, k2, k3, k4⟩ := ents_reach Tryz.underlying78 (enc := enc) (a := some ai) (len := li) (cap := ci) ⟨_, g9⟩ hq
              exact ⟨xs, k2, k3, k4⟩
          obtain ⟨xs, k1, k2, k3⟩ := hes
          refine ⟨⟨xs, k⟩, c0, ?_, k1, ?_, k2, k3, by show k < _; omega⟩
          · rw [hat 0 (by omega)]; rfl
          · rw [hat 1 (by omega)]; rfl
    obtain ⟨f, hf2⟩ := Go.Deep.choose_lt key
    have hln : len ≤ reachBytes := by
      have h1 := wslice_len ht (hd ▸ hw) (by rw [Tryz.bytesTRow]; omega)
      simpa using h1
    unfold reachBytes at hln
    refine ⟨(List.range len).map f, by simp, ?_, fun y hy => ?_, by simpa using hln⟩
    · by_cases h0 : len = 0
      · subst h0; exact Rs.nil _ _ _ _
      · obtain ⟨u0, hc, -⟩ := hf2 0 (by omega)
        obtain ⟨b, off, spot⟩ := x
        have hspot : spot = none := by simpa [Addr.add] using World.cell?_spot hc
        subst hspot
        have hb : b < W.heap.size := World.block_lt_of_cell? W _ hc
        refine ⟨_, _, by simp, .inr ⟨b, off, rfl, hb, by simpa using hl, hm, fun i y hy => ?_⟩⟩
        have hil : i < len := by have := (List.getElem?_eq_some_iff.1 hy).1; simpa using this
        have : y = f i := by
          rw [List.getElem?_map, List.getElem?_range hil] at hy
          simpa using hy.symm
        subst this
        obtain ⟨u, k1, k2, k3, -⟩ := hf2 i hil
        rw [add_add, add_plain] at k1 k3
        exact ⟨u, k1, EsS.of k2, by rw [Nat.add_assoc]; exact k3⟩
    · obtain ⟨i, hi2, rfl⟩ := List.mem_map.1 hy
      have hil : i < len := by simpa using hi2
      obtain ⟨u, -, -, -, k4, k5, k6⟩ := hf2 i hil
      exact ⟨k5, k4, k6⟩

theorem rows_reach {H : Type} {enc : TypeId × Value → H} {W : World} {a : Option Addr} {len cap : Nat} {d : DataW H} {p : List MemPlace}
    (h : DataW.Trod enc Tryz.prog W 0 (fun _ => true) true 22 (.slice a len cap) d p) (hw : ∀ n ∈ d.weights Tryz.prog 22, n ≤ reachBytes) :
    ∃ rs : List Rw, rs.length = len ∧ Rs (fun k => k < W.heap.size) W (.slice a len cap) rs ∧ (∀ r ∈ rs, r.d.length ≤ 140737488351232 ∧ (∀ x ∈ r.d, x.key.size ≤ 140737488351232 ∧ x.value.size ≤ 140737488351232) ∧ r.n < 18446744073709551616) ∧ rs.length ≤ 140737488351232 :=
  rows_reach_at Tryz.underlying22 h hw

end Go.Proofs.YtbebdaglkjhbjaaGreatDoor.tm
