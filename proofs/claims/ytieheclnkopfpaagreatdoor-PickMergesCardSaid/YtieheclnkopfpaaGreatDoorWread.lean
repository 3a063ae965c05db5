/-
  The document's reading of fields: one, all, Get, First.
-/
import Derived.Test.YtieheclnkopfpaaGreatDoorWref
import Derived.Test.YtieheclnkopfpaaGreatDoorBundT
namespace Go.Proofs.YtieheclnkopfpaaGreatDoor.wm
open Go.RowKit Go.Proofs.YtieheclnkopfpaaGreatDoor.tr Go.Proofs.YtieheclnkopfpaaGreatDoor.vi
set_option linter.unusedVariables false
set_option linter.unusedSimpArgs false

theorem results_cell3 {P : Program} {fn : Func} {p u v : Tmp} {ty : TypeId} (h : fn.results = #[.cell p ty, .tmp u, .tmp v]) (tmps : Array Value) (w : World) (g : Nat) (t : TypeId) (cs : Array Value) (fr : Nat × Nat) (d : TypeDesc)
    (hp : tmps.getD p undef = .pointer (some ⟨g, 0, none⟩)) (hg : w.heap[g]? = some (.cells cs t fr))
    (hu : P.underlying ty = some d) (hd : (match d with | .struct _ | .array _ _ => true | _ => false) = true) (hi : (P.info? ty).map (·.size) = some cs.size) :
    (results fn tmps).run P w = .ok (.tuple #[.agg cs, tmps.getD u undef, tmps.getD v undef]) w := by
  have hp' : tmps[p]?.getD undef = .pointer (some ⟨g, 0, none⟩) := by simpa using hp
  simp [results, h, hp', asAddr, run_loadVar_row w g t ty cs fr d hg hu hd hi]

theorem heap_setc {w : World} {b i : Nat} {v : Value} {c : Array Value} {t : TypeId} {fz : Nat × Nat} (h : w.heap[b]? = some (.cells c t fz)) : (w.setCell ⟨b, i, none⟩ v).heap[b]? = some (.cells (c.setIfInBounds i v) t fz) := by
  simp [World.setCell, Array.getElem?_modify, h]
/-- A block of five cells, written whole. -/
theorem heap_five {w : World} {g : Nat} {z0 z1 z2 z3 z4 : Value} {ty : TypeId} {fz : Nat × Nat} (h : w.heap[g]? = some (.cells #[z0, z1, z2, z3, z4] ty fz)) (a b c d e : Value) :
    (((((w.setCell ⟨g, 0, none⟩ a).setCell ⟨g, 1, none⟩ b).setCell ⟨g, 2, none⟩ c).setCell ⟨g, 3, none⟩ d).setCell ⟨g, 4, none⟩ e).heap[g]? = some (.cells #[a, b, c, d, e] ty fz) :=
  heap_setc (heap_setc (heap_setc (heap_setc (heap_setc h))))

theorem fm_ext (s : ByteArray) (a b : Nat) : (s.extract a b).data.toList = (s.data.toList.drop a).take (b - a) := by
  simp [List.take_drop]

/-- A field as a value. -/
def fv (t : Tree) (v : Value) : Value := .agg #[.int .u64 (t.tag : Nat), .int .i64 t.typ, .int .u64 (t.num : Nat), .string t.text, v]

/-- What one field's reading hands back. -/
def OneP (w : World) (q : Tree × Nat × Nat) (e : Ending) (w' : World) : Prop :=
  ∃ lv S', e = .returned (.tuple #[.agg #[.int .u64 (q.1.tag : Nat), .int .i64 q.1.typ, .int .u64 (q.1.num : Nat), .string q.1.text, lv], .int .i64 (q.2.1 : Nat), .int .i64 (q.2.2 : Nat)]) ∧ Rd w' S' lv q.1.list ∧ (∀ k, S' k → w.heap.size ≤ k ∧ k < w'.heap.size) ∧ w.grownBy w' none

/-- What the reading of all hands back. -/
def AllP (ty : TypeId) (w : World) (q : List Tree × Nat) (e : Ending) (w' : World) : Prop :=
  ∃ v S', e = .returned (.tuple #[v, .int .i64 (q.2 : Nat)]) ∧ OwnF ty w.heap.size S' w' v q.1 ∧ (∀ k, S' k → w.heap.size ≤ k) ∧ w.grownBy w' none

end Go.Proofs.YtieheclnkopfpaaGreatDoor.wm
