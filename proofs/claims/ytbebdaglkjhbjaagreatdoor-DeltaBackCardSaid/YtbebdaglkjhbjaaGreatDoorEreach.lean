/-
  A slice of entries that came in: how long they are, of the form's own reach.
-/
import Derived.Test.YtbebdaglkjhbjaaGreatDoorEopen2
import Derived.SizedLaws
namespace Go.Proofs.YtbebdaglkjhbjaaGreatDoor.tm
open Go.RowKit Go.ChangeShapes Go.WideShapes Go.Deep Go.Joins Go.Proofs.YtbebdaglkjhbjaaGreatDoor.tr Go.Proofs.YtbebdaglkjhbjaaGreatDoor.em
set_option linter.unusedVariables false
set_option linter.unusedSimpArgs false

theorem wall_mem {H : Type} {P : Program} {e : TypeId} : ∀ {l : List (DataW H)} {y : DataW H}, y ∈ l → ∀ n ∈ y.weights P e, n ∈ DataW.weightsAll P e l
  | x :: r, y, h, n, hn => by
    simp only [DataW.weightsAll, List.mem_append]
    rcases List.mem_cons.1 h with rfl | h
    · exact .inl hn
    · exact .inr (wall_mem h n hn)

theorem wslice_mem {H : Type} {P : Program} {t e : TypeId} (ht : P.underlying t = some (.slice e)) {l s : List (DataW H)} {y : DataW H} (h : y ∈ l) (hw : ∀ n ∈ (DataW.slice l s).weights P t, n ≤ reachBytes) : ∀ n ∈ y.weights P e, n ≤ reachBytes := fun n hn => hw n (by
  simp only [DataW.weights, ht, List.mem_cons, List.mem_append]
  exact .inr (.inl (wall_mem h n hn)))

theorem wslice_len {H : Type} {P : Program} {t e : TypeId} (ht : P.underlying t = some (.slice e)) {l s : List (DataW H)} (hw : ∀ n ∈ (DataW.slice l s).weights P t, n ≤ reachBytes) (hb : 1 ≤ P.bytesOf e) : l.length ≤ reachBytes := by
  have h := hw ((l.length + s.length) * P.bytesOf e) (by simp [DataW.weights, ht])
  have : l.length * 1 ≤ (l.length + s.length) * P.bytesOf e := Nat.mul_le_mul (by omega) hb
  omega

/-- What came in j-th keeps the reach. -/
theorem wof {H : Type} {P : Program} {ts : List TypeId} {ds : List (DataW H)} (h : (DataW.weightsEach P ts ds).all (· ≤ reachBytes) = true) {j : Nat} {t : TypeId} {d : DataW H} (ht : ts[j]? = some t) (hd : ds[j]? = some d) : ∀ n ∈ d.weights P t, n ≤ reachBytes := fun n hn => by
  simpa using List.all_eq_true.1 h n (DataW.weights_mem_each ht hd n hn)

theorem Tryz.bytesEnt : Tryz.prog.bytesOf 115 = 32 := by kernel_rfl

theorem Tryz.weightsEnt {H : Type} (k v : List UInt8) : (DataW.agg [.lit (.string k), .lit (.string v)] : DataW H).weights Tryz.prog 115 = [k.length, v.length] := by
  simp only [DataW.weights, Tryz.underlying115]
  simp [DataW.weightsEach, DataW.weights]

set_option maxRecDepth 100000 in
theorem ents_reach {t : TypeId} (ht : Tryz.prog.underlying t = some (.slice 115)) {H : Type} {enc : TypeId × Value → H} {W : World} {a : Option Addr} {len cap : Nat} {d : DataW H} {p : List MemPlace}
    (h : DataW.Trod enc Tryz.prog W 0 (fun _ => true) true t (.slice a len cap) d p) (hw : ∀ n ∈ d.weights Tryz.prog t, n ≤ reachBytes) :
    ∃ xs : List Ent, xs.length = len ∧ Es W.heap.size W (.slice a len cap) xs ∧ (∀ x ∈ xs, x.key.size ≤ 140737488351232 ∧ x.value.size ≤ 140737488351232) ∧ xs.length ≤ 140737488351232 := by
  obtain ⟨fuel, hf⟩ := h
  rcases open_slice ht hf with ⟨hcs, _⟩ | ⟨x, l, c, m, n, D, Pl, hcs, _, hl, hm, hmm, hx, hi⟩
  · simp [Value.cells] at hcs
    obtain ⟨rfl, rfl, rfl⟩ := hcs
    exact ⟨[], rfl, Es.nil _ _ _ _, by simp, by simp⟩
  · simp [Value.cells] at hcs
    obtain ⟨rfl, rfl, rfl⟩ := hcs
    have hmm' : m = cap := by simpa using hmm
    have hd : d = .slice ((List.range len).map D) ((List.range (m - len)).map fun j => D (len + j)) := congrArg Prod.fst hx
    have key : ∀ i, i < len → ∃ y : Ent, W.cell? ((x.add (i * 2)).add 0) = some (.string y.key) ∧ W.cell? ((x.add (i * 2)).add 1) = some (.string y.value) ∧ D i = .agg [.lit (.string y.key.data.toList), .lit (.string y.value.data.toList)] ∧ y.key.size ≤ maxLen ∧ y.value.size ≤ maxLen := by
      intro i hil
      obtain ⟨cs', hc, htt⟩ := hi i (by omega)
      rw [Tryz.cellsEnt] at hc
      obtain ⟨ys, n', _, hD, hlen, hyl, hg⟩ := DataW.trod_struct Tryz.underlying115 htt
      rw [Tryz.cellsEnt] at hlen
      obtain ⟨_, _, hat⟩ := World.cells?_some hc
      have g0 := hg 0 _ rfl
      have g1 := hg 1 _ rfl
      match cs', hlen with
      | [c0, c1], _ =>
        match ys, hyl with
        | [y0, y1], _ =>
          simp only [Tryz.cellsStr, List.drop_zero, List.take_succ_cons, List.take_zero, List.drop_succ_cons, List.getElem?_cons_zero, List.getElem?_cons_succ] at g0 g1
          obtain ⟨s0, e0, f0, l0⟩ := DataW.trod_string Tryz.underlying9 g0
          obtain ⟨s1, e1, f1, l1⟩ := DataW.trod_string Tryz.underlying9 g1
          simp [Tryz.cellsStr] at e0 e1
          subst e0 e1 f0 f1
          refine ⟨⟨s0, s1⟩, ?_, ?_, by simpa using (congrArg Prod.fst hD), l0, l1⟩
          · rw [hat 0 (by omega)]; rfl
          · rw [hat 1 (by omega)]; rfl
    obtain ⟨f, hf2⟩ := Go.Deep.choose_lt key
    have hall : ∀ i, i < len → (f i).key.size ≤ reachBytes ∧ (f i).value.size ≤ reachBytes := fun i hil => by
      have h1 := wslice_mem ht (List.mem_map.2 ⟨i, List.mem_range.2 hil, rfl⟩ : D i ∈ (List.range len).map D) (hd ▸ hw)
      rw [(hf2 i hil).2.2.1, Tryz.weightsEnt] at h1
      simp at h1
      exact h1
    have hln : len ≤ reachBytes := by
      have h1 := wslice_len ht (hd ▸ hw) (by rw [Tryz.bytesEnt]; omega)
      simpa using h1
    unfold reachBytes at hall hln
    refine ⟨(List.range len).map f, by simp, ?_, fun y hy => ?_, by simpa using hln⟩
    · by_cases h0 : len = 0
      · subst h0; exact Es.nil _ _ _ _
      · have hc := (hf2 0 (by omega)).1
        obtain ⟨b, off, spot⟩ := x
        have hspot : spot = none := by simpa [Addr.add] using World.cell?_spot hc
        subst hspot
        have hb : b < W.heap.size := World.block_lt_of_cell? W _ hc
        refine ⟨_, _, by simp, .inr ⟨b, off, rfl, hb, by simpa using hl, hm, fun i y hy => ?_⟩⟩
        have hil : i < len := by have := (List.getElem?_eq_some_iff.1 hy).1; simpa using this
        have : y = f i := by
          rw [List.getElem?_map, List.getElem?_range hil] at hy
          simpa using hy.symm
        subst this
        obtain ⟨k1, k2, -⟩ := hf2 i hil
        rw [add_add, add_plain] at k1 k2
        exact ⟨k1, by rw [Nat.add_assoc]; exact k2⟩
    · obtain ⟨i, hi2, rfl⟩ := List.mem_map.1 hy
      exact hall i (by simpa using hi2)

end Go.Proofs.YtbebdaglkjhbjaaGreatDoor.tm
