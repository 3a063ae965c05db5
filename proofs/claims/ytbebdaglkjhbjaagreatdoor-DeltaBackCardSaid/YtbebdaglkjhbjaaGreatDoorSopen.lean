/-
  Snapshots and deltas that came in, by value.
-/
import Derived.Test.YtbebdaglkjhbjaaGreatDoorRreach
import Derived.Test.YtbebdaglkjhbjaaGreatDoorBundL
import Derived.Test.YtbebdaglkjhbjaaGreatDoorEopen
namespace Go.Proofs.YtbebdaglkjhbjaaGreatDoor.dz
open Go.RowKit Go.ChangeShapes Go.WideShapes Go.Deep Go.Joins Go.Proofs.YtbebdaglkjhbjaaGreatDoor.tr Go.Proofs.YtbebdaglkjhbjaaGreatDoor.em Go.Proofs.YtbebdaglkjhbjaaGreatDoor.tm Go.Proofs.YtbebdaglkjhbjaaGreatDoor.dl
set_option linter.unusedVariables false
set_option linter.unusedSimpArgs false

theorem weights2 {H : Type} {P : Program} {t : TypeId} {f0 f1 : Field} (hs : P.underlying t = some (.struct #[f0, f1])) (y0 y1 : DataW H) : (DataW.agg [y0, y1] : DataW H).weights P t = y0.weights P f0.type ++ y1.weights P f1.type := by
  simp only [DataW.weights, hs]
  simp [DataW.weightsEach]
theorem weights3 {H : Type} {P : Program} {t : TypeId} {f0 f1 f2 : Field} (hs : P.underlying t = some (.struct #[f0, f1, f2])) (y0 y1 y2 : DataW H) : (DataW.agg [y0, y1, y2] : DataW H).weights P t = y0.weights P f0.type ++ (y1.weights P f1.type ++ y2.weights P f2.type) := by
  simp only [DataW.weights, hs]
  simp [DataW.weightsEach]

theorem nat_of_u64 {z : Int} (w : (Lit.int .u64 z).wf = true) : ∃ n : Nat, z = n ∧ n < 18446744073709551616 := by
  have hz : 0 ≤ z ∧ z ≤ 18446744073709551615 := by simpa [Lit.wf, IntKind.min, IntKind.max, IntKind.signed, IntKind.bits] using w
  exact ⟨z.toNat, by omega, by omega⟩

set_option maxRecDepth 100000 in
theorem rows_field {H : Type} {enc : TypeId × Value → H} {W : World} {v : Value} {y : DataW H × List MemPlace} {n : Nat}
    (h : DataW.trod enc Tryz.prog W 0 (fun _ => true) true n 32 [v] = some y) (hw : ∀ n ∈ y.1.weights Tryz.prog 32, n ≤ reachBytes) :
    ∃ rs : List Rw, Rs (fun k => k < W.heap.size) W v rs ∧ (∀ r ∈ rs, r.d.length ≤ 140737488351232 ∧ (∀ x ∈ r.d, x.key.size ≤ 140737488351232 ∧ x.value.size ≤ 140737488351232) ∧ r.n < 18446744073709551616) ∧ rs.length ≤ 140737488351232 := by
  obtain ⟨q, yp⟩ := y
  rcases open_slice Tryz.underlying32 h with ⟨e, -⟩ | ⟨ai, li, ci, mi, ni, Di, Pi, e, -⟩
  · simp at e
    subst e
    obtain ⟨rs, k1, k2, k3, k4⟩ := rows_reach_at Tryz.underlying32 (enc := enc) (a := none) (len := 0) (cap := 0) ⟨_, h⟩ hw
    exact ⟨rs, k2, k3, k4⟩
  · simp at e
    subst e
    obtain ⟨rs, k1, k2, k3, k4⟩ := rows_reach_at Tryz.underlying32 (enc := enc) (a := some ai) (len := li) (cap := ci) ⟨_, h⟩ hw
    exact ⟨rs, k2, k3, k4⟩

set_option maxRecDepth 100000 in
theorem dt_of_open {H : Type} {enc : TypeId × Value → H} {W : World} {r : Reach} {b0 : Nat} {v : Value} {d : DataW H} {p : List MemPlace}
    (hv : Value.okWide Tryz.prog W r b0 51 v) (h : DataW.Trod enc Tryz.prog W 0 (fun _ => true) true 51 v d p) (hw : ∀ n ∈ d.weights Tryz.prog 51, n ≤ reachBytes) :
    ∃ (x : Dt) (u : Value), v = dtV x u ∧ Rs (fun k => k < W.heap.size) W u x.t ∧ (∀ r ∈ x.t, r.d.length ≤ 140737488351232 ∧ (∀ x ∈ r.d, x.key.size ≤ 140737488351232 ∧ x.value.size ≤ 140737488351232) ∧ r.n < 18446744073709551616) ∧ x.t.length ≤ 140737488351232 := by
  obtain ⟨v0, v1, v2, y0, y1, y2, n, rfl, hd, -, h0, h1, h2⟩ := open_agg3 Tryz.underlying51 (by kernel_rfl) (by kernel_rfl) hv h
  obtain ⟨z0, e0, f0, w0⟩ := DataW.trod_int Tryz.underlying47 h0
  obtain ⟨z1, e1, f1, w1⟩ := DataW.trod_int Tryz.underlying47 h1
  simp at e0 e1
  subst e0 e1
  obtain ⟨k0, rfl, -⟩ := nat_of_u64 w0
  obtain ⟨k1, rfl, -⟩ := nat_of_u64 w1
  rw [hd, weights3 Tryz.underlying51] at hw
  obtain ⟨rs, q1, q2, q3⟩ := rows_field h2 (fun m hm => hw m (List.mem_append_right _ (List.mem_append_right _ hm)))
  exact ⟨⟨k0, k1, rs⟩, v2, rfl, q1, q2, q3⟩

set_option maxRecDepth 100000 in
theorem sn_of_open {H : Type} {enc : TypeId × Value → H} {W : World} {r : Reach} {b0 : Nat} {v : Value} {d : DataW H} {p : List MemPlace}
    (hv : Value.okWide Tryz.prog W r b0 49 v) (h : DataW.Trod enc Tryz.prog W 0 (fun _ => true) true 49 v d p) (hw : ∀ n ∈ d.weights Tryz.prog 49, n ≤ reachBytes) :
    ∃ (x : Sn) (u : Value), v = snV x u ∧ Rs (fun k => k < W.heap.size) W u x.t ∧ (∀ r ∈ x.t, r.d.length ≤ 140737488351232 ∧ (∀ x ∈ r.d, x.key.size ≤ 140737488351232 ∧ x.value.size ≤ 140737488351232) ∧ r.n < 18446744073709551616) ∧ x.t.length ≤ 140737488351232 := by
  obtain ⟨v0, v1, y0, y1, n, rfl, hd, -, h0, h1⟩ := open_agg2 Tryz.underlying49 (by kernel_rfl) (by kernel_rfl) hv h
  obtain ⟨z0, e0, f0, w0⟩ := DataW.trod_int Tryz.underlying47 h0
  simp at e0
  subst e0
  obtain ⟨k0, rfl, -⟩ := nat_of_u64 w0
  rw [hd, weights2 Tryz.underlying49] at hw
  obtain ⟨rs, q1, q2, q3⟩ := rows_field h1 (fun m hm => hw m (List.mem_append_right _ hm))
  exact ⟨⟨k0, rs⟩, v1, rfl, q1, q2, q3⟩

end Go.Proofs.YtbebdaglkjhbjaaGreatDoor.dz
