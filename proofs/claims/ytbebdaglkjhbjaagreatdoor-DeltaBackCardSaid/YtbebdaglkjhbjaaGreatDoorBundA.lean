/-
  Base, Slices, Cursor, Law01, Vmath, Varint, Vput, Vrget, Vall, Vrall, Law02, Zigzag, Law03, Chg
-/
import Derived.Test.YtbebdaglkjhbjaaGreatDoorRows
import Derived.WalkKit
import Derived.ProofKit
import Derived.OpenShut
import Derived.Deep.QuietTactic
import Derived.BigQuiet
import Derived.Deep.Draws
import Derived.Lib.Hide
import Derived.Deep.Slices
import Derived.Deep.Fields
import Derived.ChangeSame
import Derived.Handy
import Derived.Lib.BitFns
import Derived.Test.YtbebdaglkjhbjaaGreatDoorShelf
import Derived.ShutString
import Derived.Deep.Onto
import Derived.Deep.AppendLies
import Derived.Lib.FrozenHead

/-
  Plain lemmas, no function of the program: strings as bytes, endings, relations of worlds.
-/
namespace Go.Proofs.YtbebdaglkjhbjaaGreatDoor
open Go.RowKit
set_option linter.unusedVariables false

theorem ret1 {u v : Value} (h : u = v) : Ending.returned u = .returned v := by rw [h]
theorem ret2 {u v u' v' : Value} (h : u = u') (k : v = v') : Ending.returned (.tuple #[u, v]) = .returned (.tuple #[u', v']) := by rw [h, k]
theorem ret3 {u v x u' v' x' : Value} (h : u = u') (k : v = v') (l : x = x') : Ending.returned (.tuple #[u, v, x]) = .returned (.tuple #[u', v', x']) := by rw [h, k, l]

theorem extract_extract (s : ByteArray) (a b c d : Nat) (h : a + d ≤ b) : (s.extract a b).extract c d = s.extract (a + c) (a + d) := by
  apply ByteArray.ext
  simp only [ByteArray.data_extract, Array.extract_extract]
  congr 1
  omega

/-! Relations of worlds -/
theorem only_drewN {a w : World} {row : Option Nat} (h : a.grownBy w row) (n : Nat) : a.grownBy (w.drewN n) row := ⟨h.os, h.tape, h.output, h.size, h.block⟩
theorem only_drew {a w : World} {row : Option Nat} (h : a.grownBy w row) : a.grownBy w.drew row := ⟨h.os, h.tape, h.output, h.size, h.block⟩
theorem only_refl (w : World) (row : Option Nat) : w.grownBy w row := ⟨rfl, rfl, rfl, Nat.le_refl _, fun _ _ _ => rfl⟩
theorem only_alloc {a w : World} {row : Option Nat} (h : a.grownBy w row) (o : Obj) : a.grownBy (w.alloc o) row :=
  ⟨h.os, h.tape, h.output, Nat.le_trans h.size (by simp), fun i hi hne => (Below.heap_alloc w o i (Nat.lt_of_lt_of_le hi h.size)).trans (h.block i hi hne)⟩
theorem only_setCell {a w : World} {row : Option Nat} (h : a.grownBy w row) {p : Addr} (hp : some p.block = row ∨ a.heap.size ≤ p.block) (u : Value) : a.grownBy (w.setCell p u) row :=
  ⟨h.os, h.tape, h.output, by simpa [World.setCell] using h.size, fun i hi hne => (Below.heap_setCell w p u i (by
    rintro rfl
    rcases hp with hp | hp
    · exact hne hp
    · omega)).trans (h.block i hi hne)⟩
theorem only_trans {a b c : World} {row : Option Nat} (h : a.grownBy b row) (k : b.grownBy c row) : a.grownBy c row :=
  ⟨k.os.trans h.os, k.tape.trans h.tape, k.output.trans h.output, Nat.le_trans h.size k.size, fun i hi hne => (k.block i (Nat.lt_of_lt_of_le hi h.size) hne).trans (h.block i hi hne)⟩
theorem only_of_none {a w : World} (h : a.grownBy w none) (row : Option Nat) : a.grownBy w row := ⟨h.os, h.tape, h.output, h.size, fun i hi _ => h.block i hi (by simp)⟩
theorem only_of_below {a w : World} (h : Below a.heap.size a w) (row : Option Nat) : a.grownBy w row := ⟨h.os, h.tape, h.output, h.size, fun i hi _ => h.block i hi⟩
theorem below_of_only {B : Nat} {a w w' : World} {row : Option Nat} (h : Below B a w) (g : w.grownBy w' row) (hB : B ≤ w.heap.size) (hr : ∀ k, row = some k → B ≤ k) : Below B a w' := h.grown g hB hr
theorem only_new {a b c : World} {row : Option Nat} {k : Nat} (h : a.grownBy b row) (g : b.grownBy c (some k)) (hk : a.heap.size ≤ k) : a.grownBy c row :=
  ⟨g.os.trans h.os, g.tape.trans h.tape, g.output.trans h.output, Nat.le_trans h.size g.size, fun i hi hne => (g.block i (Nat.lt_of_lt_of_le hi h.size) (fun e => by injection e with e; omega)).trans (h.block i hi hne)⟩
theorem below_of_none {a w : World} (h : a.grownBy w none) : Below a.heap.size a w := ⟨h.os, h.tape, h.output, h.size, fun i hi => h.block i hi (by simp)⟩
/-- A world that has grown out of another one. -/
structure GW (W : World) (row : Option Nat) where
  world : World
  ok : W.grownBy world row
instance (W : World) (row : Option Nat) : Nonempty (GW W row) := ⟨⟨W, only_refl W row⟩⟩

/-- A region that draws its order, whose callees let the world grow: one walk, in the order of the text. -/
theorem wp_region_gw (W : World) (row : Option Nat) {P : Program} {id : Nat} {Q : Exit → Act → World → Prop} {a : Act} {w : World} {l : List Oper} (hm : P.follows .mixedOrders = true) (hB : Region.lexB .any l.toArray = true) (hC : W.grownBy w row)
    (h : wpQuiet P l.toArray (fun w' => ∃ g : GW W row, w' = g.world) (fun a' => ∀ w', (∃ g : GW W row, w' = g.world) → Q .normal a' w') l a) : (Code.region id l.toArray true).wp P Q a w :=
  wp_region_quiet (C := fun w' => ∃ g : GW W row, w' = g.world) hm hB ⟨⟨_, only_drew hC⟩, rfl⟩ (by simpa using h)

theorem calls_gw {P : Program} {f : FuncId} {args : Array Value} {W : World} {row : Option Nat} {g : GW W row} {v : Value}
    (h : Calls P f args g.world fun e w' => e = .returned v ∧ g.world.grownBy w' row) : Calls P f args g.world fun e w'' => e = .returned v ∧ ∃ g' : GW W row, w'' = g'.world :=
  h.mono fun _ w' ⟨he, hg⟩ => ⟨he, ⟨w', only_trans g.ok hg⟩, rfl⟩
theorem below_to_none {a w : World} (h : Below a.heap.size a w) : a.grownBy w none := only_of_below h none
theorem quiet_left {P : Program} {f : FuncId} {args : Array Value} {w : World} {n : Nat} {v : Value}
    (h : Calls P f args (w.drewN n) fun e w' => e = .returned v ∧ w.drewN n = w') : Calls P f args (w.drewN n) fun e w'' => e = .returned v ∧ ∃ m, w'' = w.drewN m :=
  h.mono fun _ _ ⟨he, hm⟩ => ⟨he, n, hm.symm⟩
theorem below_drewN {B : Nat} {a w : World} (h : Below B a w) (n : Nat) : Below B a (w.drewN n) := ⟨h.os, h.tape, h.output, h.size, h.block⟩

/-! Draws are never taken back. -/
theorem ask_drawn {α : Type} : ∀ (a : Ask α) (w : World), w.drawn ≤ (w.ask a).2.drawn
  | .done a, w => Nat.le_refl _
  | .ask what range k, w => by
    unfold World.ask
    simp only
    split
    · exact ask_drawn (k 0) w
    · exact Nat.le_trans (Nat.le_succ w.drawn) (ask_drawn (k _) { w with drawn := w.drawn + 1 })
theorem sys_drawn (w : World) (c : Sys) : w.drawn ≤ (w.sys c).2.drawn := by
  have h := ask_drawn (Kernel.perform c w.os) w
  unfold World.sys
  generalize w.ask (Kernel.perform c w.os) = r at *
  obtain ⟨⟨a, b⟩, w2⟩ := r
  cases a <;> first | exact Nat.le_refl _ | exact h
theorem view_drawn {p : Program} {w w' : World} {at_ k : Addr} {u : TypeId} {v : Value} {atomic : Bool} {l : List Addr} (h : w.viewStore p at_ u k v atomic = .ok (w', l)) : w'.drawn = w.drawn := by
  unfold World.viewStore at h
  simp only [bind, Except.bind, pure, Except.pure] at h
  repeat' (first | (cases h; done) | (cases h; rfl) | split at h)
theorem far_drawn {p : Program} {w w' : World} {a : Addr} {v : Value} {atomic : Bool} {l : List Addr} (h : w.farStore p a v atomic = .ok (w', l)) : w'.drawn = w.drawn := by
  unfold World.farStore at h
  split at h
  · split at h
    · rename_i h2
      cases h
      exact view_drawn h2
    · cases h
  · cases h
theorem run_drawn {α : Type} {p : Program} : ∀ (s : Sem α) {w w' : World} {x : α}, s.run p w = .ok x w' → w.drawn ≤ w'.drawn := by
  intro s
  induction s with
  | pure a => intro w w' x h; simp only [Sem.run] at h; cases h; exact Nat.le_refl _
  | load m a k ih =>
    intro w w' x h
    simp only [Sem.run] at h
    split at h
    · exact ih _ h
    · split at h
      · exact ih _ h
      · cases h
  | store m a v k ih =>
    intro w w' x h
    unfold Sem.run at h
    split at h <;> first | (cases h; done) | skip
    all_goals (try (rename_i e; cases e))
    all_goals first
      | (cases h; done)
      | skip
    split at h
    · split at h
      · cases h
      · have := ih h; exact this
    · split at h
      · rename_i h2
        have := far_drawn h2
        have := ih h
        omega
      · cases h
  | new o k ih => intro w w' x h; simp only [Sem.run] at h; have := ih _ h; exact this
  | shape r k ih => intro w w' x h; simp only [Sem.run] at h; exact ih _ h
  | freeze a n k ih =>
    intro w w' x h
    simp only [Sem.run] at h
    have := ih h
    have e : (w.freeze a n).drawn = w.drawn := by unfold World.freeze; split <;> rfl
    omega
  | frozen a k ih => intro w w' x h; simp only [Sem.run] at h; exact ih _ h
  | getObj r k ih =>
    intro w w' x h
    simp only [Sem.run] at h
    split at h
    · cases h
    · exact ih _ h
    · cases h
  | setObj r o k ih =>
    intro w w' x h
    simp only [Sem.run] at h
    split at h
    · cases h
    · have := ih h; exact this
    · cases h
  | choose q k ih =>
    intro w w' x h
    simp only [Sem.run] at h
    split at h
    · exact ih _ h
    · have := ih _ h; exact Nat.le_trans (Nat.le_succ w.drawn) this
  | sys c k ih =>
    intro w w' x h
    simp only [Sem.run] at h
    have := ih _ h
    exact Nat.le_trans (sys_drawn w c) this
  | program k ih => intro w w' x h; simp only [Sem.run] at h; exact ih _ h
  | mark m k ih => intro w w' x h; simp only [Sem.run] at h; exact ih h
  | halt e => intro w w' x h; simp only [Sem.run] at h; cases h

/-- A world that has grown, and from which no less is drawn. -/
structure Gd (w w' : World) : Prop where
  ok : w.grownBy w' none
  dr : w.drawn ≤ w'.drawn
section
variable {a b c w w' : World}
theorem Gd.refl (w : World) : Gd w w := ⟨only_refl _ _, Nat.le_refl _⟩
theorem Gd.trans (h : Gd a b) (k : Gd b c) : Gd a c := ⟨only_trans h.ok k.ok, Nat.le_trans h.dr k.dr⟩
theorem Gd.alloc (h : Gd a w) (o : Obj) : Gd a (w.alloc o) := ⟨only_alloc h.ok o, h.dr⟩
theorem Gd.drew (h : Gd a w) : Gd a w.drew := ⟨only_drew h.ok, Nat.le_trans h.dr (Nat.le_succ _)⟩
theorem Gd.drewN (h : Gd a w) (n : Nat) : Gd a (w.drewN n) := ⟨only_drewN h.ok n, Nat.le_trans h.dr (Nat.le_add_right _ _)⟩
theorem Gd.setCell (h : Gd a w) {p : Addr} (hp : a.heap.size ≤ p.block) (u : Value) : Gd a (w.setCell p u) := ⟨only_setCell h.ok (.inr hp) u, h.dr⟩
end
/-- Such a world. -/
structure GD (W : World) where
  world : World
  ok : Gd W world
instance (W : World) : Nonempty (GD W) := ⟨⟨W, Gd.refl W⟩⟩
theorem wp_region_gd (W : World) {P : Program} {id : Nat} {Q : Exit → Act → World → Prop} {a : Act} {w : World} {l : List Oper} (hm : P.follows .mixedOrders = true) (hB : Region.lexB .any l.toArray = true) (hC : Gd W w)
    (h : wpQuiet P l.toArray (fun w' => ∃ g : GD W, w' = g.world) (fun a' => ∀ w', (∃ g : GD W, w' = g.world) → Q .normal a' w') l a) : (Code.region id l.toArray true).wp P Q a w :=
  wp_region_quiet (C := fun w' => ∃ g : GD W, w' = g.world) hm hB ⟨⟨_, hC.drew⟩, rfl⟩ (by simpa using h)
theorem calls_gd {P : Program} {f : FuncId} {args : Array Value} {W : World} {g : GD W} {v : Value}
    (h : Calls P f args g.world fun e w' => e = .returned v ∧ Gd g.world w') : Calls P f args g.world fun e w'' => e = .returned v ∧ ∃ g' : GD W, w'' = g'.world :=
  h.mono fun _ w' ⟨he, hg⟩ => ⟨he, ⟨w', g.ok.trans hg⟩, rfl⟩

end Go.Proofs.YtbebdaglkjhbjaaGreatDoor

/-
  Plain lemmas: what a slice that came in as an argument holds, cell by cell.
-/
namespace Go.Proofs.YtbebdaglkjhbjaaGreatDoor
open Go.RowKit Go.ChangeShapes Go.WideShapes Go.Deep
set_option linter.unusedVariables false

section
variable {H : Type} {enc : TypeId × Value → H} {P : Program} {w : World}

/-- A slice of integers that came in: empty (nil, or not), or a row of cells. -/
def IsInts (k : IntKind) (w : World) (a : Option Addr) (len cap : Nat) (zs : List Int) : Prop :=
  (len = 0 ∧ zs = []) ∨
  ∃ b off, a = some ⟨b, off, none⟩ ∧ 0 < len ∧ len ≤ cap ∧ cap ≤ maxLen ∧ zs.length = len ∧ ∀ i, i < len → w.cell? ⟨b, off + i, none⟩ = some (.int k (zs.getD i 0)) ∧ (Lit.int k (zs.getD i 0)).wf = true

theorem isInts_of_open {t e : TypeId} {k : IntKind} {a : Option Addr} {len cap : Nat} {d : DataW H} {p : List MemPlace} (ht : P.underlying t = some (.slice e)) (he : P.underlying e = some (.int k)) (hC : P.cellsOf e = 1)
    (h : DataW.Trod enc P w 0 (fun _ => true) true t (.slice a len cap) d p) : ∃ zs, IsInts k w a len cap zs := by
  obtain ⟨fuel, hf⟩ := h
  rcases open_ints ht he hC hf with ⟨hcs, _⟩ | ⟨x, l, c, zs, hcs, _, hl, hm, hz, _, hcell, hwz⟩
  · simp [Value.cells] at hcs
    exact ⟨[], .inl ⟨hcs.2.1, rfl⟩⟩
  · simp [Value.cells] at hcs
    obtain ⟨rfl, rfl, rfl⟩ := hcs
    have hz' : zs.length = cap := by simpa using hz
    by_cases h0 : len = 0
    · exact ⟨[], .inl ⟨h0, rfl⟩⟩
    · have hc := hcell 0 (by omega)
      obtain ⟨b, off, spot⟩ := x
      have hspot : spot = none := by simpa [Addr.add] using World.cell?_spot hc
      subst hspot
      refine ⟨zs.take len, .inr ⟨b, off, rfl, by omega, hl, hm, by simp; omega, fun i hi => ?_⟩⟩
      have e : (zs.take len).getD i 0 = zs.getD i 0 := by simp [List.getD, hi]
      rw [e]
      refine ⟨by have := hcell i (by omega); rwa [add_plain] at this, hwz _ ?_⟩
      rw [List.getD_eq_getElem?_getD, List.getElem?_eq_getElem (by omega)]
      exact List.getElem_mem _

/-- A slice of structs of one-cell fields that came in: empty, or a row of cells; each field's cell, and how it reads. -/
theorem fields_of_open {t e : TypeId} {fs : Array Field} {a : Option Addr} {len cap : Nat} {d : DataW H} {p : List MemPlace} (ht : P.underlying t = some (.slice e)) (he : P.underlying e = some (.struct fs))
    (hone : oneCellFields P fs = true) (hC : P.cellsOf e = fs.size) (hpos : 0 < fs.size) (h : DataW.Trod enc P w 0 (fun _ => true) true t (.slice a len cap) d p) :
    len = 0 ∨ ∃ b off, a = some ⟨b, off, none⟩ ∧ 0 < len ∧ len ≤ cap ∧ cap ≤ maxLen ∧
      ∀ i, i < len → ∀ (j : Nat) (f : Field), fs[j]? = some f → ∃ v y n, w.cell? ⟨b, off + (i * fs.size + j), none⟩ = some v ∧ DataW.trod enc P w 0 (fun _ => true) true n f.type [v] = some y := by
  obtain ⟨fuel, hf⟩ := h
  rcases open_slice ht hf with ⟨hcs, _⟩ | ⟨x, l, c, m, n, D, Pl, hcs, _, hl, hm, hmm, _, hi⟩
  · simp [Value.cells] at hcs
    exact .inl hcs.2.1
  · simp [Value.cells] at hcs
    obtain ⟨rfl, rfl, rfl⟩ := hcs
    by_cases h0 : len = 0
    · exact .inl h0
    · right
      have hmm' : m = cap := by simpa using hmm
      have key : ∀ i, i < len → ∀ (j : Nat) (f : Field), fs[j]? = some f → ∃ v y n, w.cell? ((x.add (i * fs.size)).add j) = some v ∧ DataW.trod enc P w 0 (fun _ => true) true n f.type [v] = some y := by
        intro i hil j f hj
        obtain ⟨cs', hc, ht'⟩ := hi i (by omega)
        rw [hC] at hc
        obtain ⟨ys, n', _, _, hlen, hyl, hg⟩ := DataW.trod_struct he ht'
        obtain ⟨_, _, hat⟩ := World.cells?_some hc
        obtain ⟨ho, hk⟩ := hone_of hone j f hj
        have hjl : j < fs.size := (Array.getElem?_eq_some_iff.1 hj).1
        have h1 := hg j f hj
        rw [ho, hk, take1_drop cs' j undef (by omega), List.getElem?_eq_getElem (by omega)] at h1
        refine ⟨cs'.getD j undef, _, n', ?_, h1⟩
        rw [hat j hjl, List.getD_eq_getElem?_getD, List.getElem?_eq_getElem (by omega)]
        rfl
      obtain ⟨f0, hf0⟩ : ∃ f, fs[0]? = some f := ⟨fs[0], Array.getElem?_eq_getElem hpos⟩
      obtain ⟨v, y, k, hc, _⟩ := key 0 (by omega) 0 f0 hf0
      obtain ⟨b, off, spot⟩ := x
      have hspot : spot = none := by simpa [Addr.add] using World.cell?_spot hc
      subst hspot
      refine ⟨b, off, rfl, by omega, hl, hm, fun i hil j f hj => ?_⟩
      obtain ⟨v, y, k, hc, hy⟩ := key i hil j f hj
      refine ⟨v, y, k, ?_, hy⟩
      rwa [add_add, add_plain] at hc

theorem slice_le {t e : TypeId} {a : Option Addr} {len cap : Nat} {d : DataW H} {p : List MemPlace} (ht : P.underlying t = some (.slice e)) (h : DataW.Trod enc P w 0 (fun _ => true) true t (.slice a len cap) d p) : len ≤ maxLen := by
  obtain ⟨fuel, hf⟩ := h
  rcases open_slice ht hf with ⟨hcs, _⟩ | ⟨x, l, c, m, n, D, Pl, hcs, _, hl, hm, _⟩
  · simp [Value.cells] at hcs
    omega
  · simp [Value.cells] at hcs
    omega
end

end Go.Proofs.YtbebdaglkjhbjaaGreatDoor

/-
  The contracts of package cursor, function by function.
-/
namespace Go.Proofs.YtbebdaglkjhbjaaGreatDoor.cur
open Go.RowKit
set_option linter.unusedVariables false

/-- In block b of the world lies a cursor over s, at place k. -/
structure Cur (w : World) (b : Nat) (s : ByteArray) (k : Nat) : Prop where
  c0 : w.cell? ⟨b, 0, none⟩ = some (.string s)
  c1 : w.cell? ⟨b, 1, none⟩ = some (.int .i64 k)
  f0 : w.frozen? ⟨b, 0, none⟩ = false
  f1 : w.frozen? ⟨b, 1, none⟩ = false
  le : k ≤ s.size
  hs : s.size ≤ maxLen

theorem Cur.lt {w : World} {b : Nat} {s : ByteArray} {k : Nat} (h : Cur w b s k) : b < w.heap.size := World.block_lt_of_cell? w ⟨b, 0, none⟩ h.c0

theorem Cur.kept {w w' : World} {b : Nat} {s : ByteArray} {k : Nat} (h : Cur w b s k) {row : Option Nat} (g : w.grownBy w' row) (hne : some b ≠ row) : Cur w' b s k := by
  have e := g.block b h.lt hne
  exact ⟨(World.cell?_of_block (a := ⟨b, 0, none⟩) e).trans h.c0, (World.cell?_of_block (a := ⟨b, 1, none⟩) e).trans h.c1,
    (World.frozen?_of_block (a := ⟨b, 0, none⟩) e).trans h.f0, (World.frozen?_of_block (a := ⟨b, 1, none⟩) e).trans h.f1, h.le, h.hs⟩

/-! Rest -/
theorem rest_nil (w : World) :
    Calls Tryz.prog 19 #[.pointer none] w fun e w' => e = .returned (.string ByteArray.empty) ∧ w = w' := by
  go_enter Tryz.func19, Tryz.ntmps19
  go_wp2
  go_ret
  exact ⟨rfl, rfl⟩

theorem rest_some {w : World} {b : Nat} {s : ByteArray} {k : Nat} (h : Cur w b s k) :
    Calls Tryz.prog 19 #[.pointer (some ⟨b, 0, none⟩)] w fun e w' => e = .returned (.string (s.extract k s.size)) ∧ ∃ n, w' = w.drewN n := by
  obtain ⟨h0, h1, f0, f1, hk, hs⟩ := h
  unfold maxLen at hs
  go_enter Tryz.func19, Tryz.ntmps19
  go_wp2
  go_quiet (fail)
  go_wp2
  go_ret
  exact ⟨rfl, _, rfl⟩

theorem extract_all (s : ByteArray) : s.extract 0 s.size = s := by
  apply ByteArray.ext
  simp

theorem rest_zero {w : World} {b : Nat} {s : ByteArray} (h : Cur w b s 0) :
    Calls Tryz.prog 19 #[.pointer (some ⟨b, 0, none⟩)] w fun e w' => e = .returned (.string s) ∧ ∃ n, w' = w.drewN n := by
  have := rest_some h
  rwa [extract_all] at this

/-! Left -/
theorem left_nil (w : World) :
    Calls Tryz.prog 49 #[.pointer none] w fun e w' => e = .returned (.int .i64 0) ∧ w = w' := by
  go_enter Tryz.func49, Tryz.ntmps49
  go_wp2
  go_ret
  exact ⟨rfl, rfl⟩

theorem left_some {w : World} {b : Nat} {s : ByteArray} {k : Nat} (h : Cur w b s k) :
    Calls Tryz.prog 49 #[.pointer (some ⟨b, 0, none⟩)] w fun e w' => e = .returned (.int .i64 ((s.size - k : Nat) : Int)) ∧ ∃ n, w' = w.drewN n := by
  have hr := rest_some h
  obtain ⟨h0, h1, f0, f1, hk, hs⟩ := h
  unfold maxLen at hs
  go_enter Tryz.func49, Tryz.ntmps49
  go_wp2_with (go_at_call 19; refine hr.mono ?_; rintro e w' ⟨rfl, d, rfl⟩)
  go_ret
  exact ⟨by simp, _, rfl⟩

/-! Over -/
theorem over_any (s : ByteArray) (w : World) :
    Calls Tryz.prog 15 #[.string s] w fun e w' => e = .returned (.pointer (some ⟨w.heap.size, 0, none⟩)) ∧ w' = w.alloc (.cells #[.string s, .int .i64 0] 100) := by
  go_enter Tryz.func15, Tryz.ntmps15
  go_wp2
  go_ret
  exact ⟨rfl, rfl⟩

theorem Cur.new (s : ByteArray) (hs : s.size ≤ maxLen) (w : World) : Cur (w.alloc (.cells #[.string s, .int .i64 0] 100)) w.heap.size s 0 :=
  ⟨by go_simp, by go_simp, by go_simp, by go_simp, Nat.zero_le _, hs⟩

/-! Take -/
theorem take_nil (n : Int) (w : World) :
    Calls Tryz.prog 106 #[.pointer none, .int .u64 n] w fun e w' => e = .returned (.tuple #[.string ByteArray.empty, .bool false]) ∧ w = w' := by
  go_enter Tryz.func106, Tryz.ntmps106
  go_wp2
  go_ret2
  exact ⟨rfl, rfl⟩

theorem take_no {w : World} {b : Nat} {s : ByteArray} {k : Nat} (h : Cur w b s k) (n : Nat) (hn : s.size - k < n) (hn' : n < 18446744073709551616) :
    Calls Tryz.prog 106 #[.pointer (some ⟨b, 0, none⟩), .int .u64 n] w fun e w' => e = .returned (.tuple #[.string ByteArray.empty, .bool false]) ∧ ∃ n, w' = w.drewN n := by
  have hl := left_some h
  obtain ⟨h0, h1, f0, f1, hk, hs⟩ := h
  unfold maxLen at hs
  go_enter Tryz.func106, Tryz.ntmps106
  go_wp2_with (go_at_call 49; refine hl.mono ?_; rintro e w' ⟨rfl, d, rfl⟩)
  go_ret2
  exact ⟨rfl, _, rfl⟩

theorem take_yes {w : World} {b : Nat} {s : ByteArray} {k : Nat} (h : Cur w b s k) (n : Nat) (hn : n ≤ s.size - k) :
    Calls Tryz.prog 106 #[.pointer (some ⟨b, 0, none⟩), .int .u64 n] w fun e w' => e = .returned (.tuple #[.string (s.extract k (k + n)), .bool true]) ∧
      ∃ m, w' = (w.drewN m).setCell ⟨b, 1, none⟩ (.int .i64 ((k + n : Nat) : Int)) := by
  have hl := left_some h
  have hr := fun m => rest_some (w := w.drewN m) ⟨h.c0, h.c1, h.f0, h.f1, h.le, h.hs⟩
  obtain ⟨h0, h1, f0, f1, hk, hs⟩ := h
  unfold maxLen at hs
  go_enter Tryz.func106, Tryz.ntmps106
  go_wp2_with (first | (go_at_call 49; refine hl.mono ?_; rintro e w' ⟨rfl, d, rfl⟩) | (go_at_call 19; refine (hr _).mono ?_; rintro e w' ⟨rfl, d, rfl⟩))
  go_ret2
  exact ⟨ret2 (congrArg Value.string (by simpa using extract_extract s k s.size 0 n (by omega))) rfl, _, rfl⟩

theorem Cur.move {w : World} {b : Nat} {s : ByteArray} {k : Nat} (h : Cur w b s k) (n m : Nat) (hn : n ≤ s.size - k) : Cur ((w.drewN m).setCell ⟨b, 1, none⟩ (.int .i64 ((k + n : Nat) : Int))) b s (k + n) := by
  obtain ⟨h0, h1, f0, f1, hk, hs⟩ := h
  refine ⟨by go_simp, by go_simp, by go_simp, by go_simp, by omega, hs⟩

/-- Take: n bytes, that are left, are taken. -/
theorem take_ok {w : World} {b : Nat} {s : ByteArray} {k : Nat} (h : Cur w b s k) (n : Nat) (hn : n ≤ s.size - k) :
    Calls Tryz.prog 106 #[.pointer (some ⟨b, 0, none⟩), .int .u64 n] w fun e w' => e = .returned (.tuple #[.string (s.extract k (k + n)), .bool true]) ∧
      Cur w' b s (k + n) ∧ w.grownBy w' (some b) := by
  refine (take_yes h n hn).mono ?_
  rintro e w' ⟨rfl, m, rfl⟩
  exact ⟨rfl, h.move n m hn, only_setCell (only_drewN (only_refl _ _) _) (.inl rfl) _⟩

/-! Byte -/
theorem byte_nil (w : World) :
    Calls Tryz.prog 249 #[.pointer none] w fun e w' => e = .returned (.tuple #[.int .u8 0, .bool false]) ∧ w = w' := by
  go_enter Tryz.func249, Tryz.ntmps249
  go_wp2_with (go_at_call 106; refine (take_nil _ _).mono ?_; rintro e w' ⟨rfl, rfl⟩)
  go_ret2
  exact ⟨rfl, rfl⟩

theorem byte_no {w : World} {b : Nat} {s : ByteArray} {k : Nat} (h : Cur w b s k) (hn : k = s.size) :
    Calls Tryz.prog 249 #[.pointer (some ⟨b, 0, none⟩)] w fun e w' => e = .returned (.tuple #[.int .u8 0, .bool false]) ∧ ∃ n, w' = w.drewN n := by
  have ht := Lib.hid (take_no h 1 (by omega) (by omega))
  clear h hn
  go_enter Tryz.func249, Tryz.ntmps249
  go_wp2_with (go_at_call 106; refine ht.out.mono ?_; rintro e w' ⟨rfl, d, rfl⟩)
  go_ret2
  exact ⟨rfl, _, rfl⟩

theorem byte_ok {w : World} {b : Nat} {s : ByteArray} {k : Nat} (h : Cur w b s k) (hn : k < s.size) :
    Calls Tryz.prog 249 #[.pointer (some ⟨b, 0, none⟩)] w fun e w' => e = .returned (.tuple #[.int .u8 (s[k].toNat : Int), .bool true]) ∧
      Cur w' b s (k + 1) ∧ w.grownBy w' (some b) := by
  have ht := Lib.hid (take_ok h 1 (by omega))
  have e1 : (s.extract k (k + 1)).size = 1 := by simp only [ByteArray.size_extract]; omega
  have e2 : 0 < (s.extract k (k + 1)).size := by omega
  have e3 : (s.extract k (k + 1))[0] = s[k] := by
    rw [ByteArray.getElem_extract]
    rfl
  have E3 := Lib.hid e3
  clear h e1 e3
  go_enter Tryz.func249, Tryz.ntmps249
  go_wp2_with (go_at_call 106; refine ht.out.mono ?_; rintro e w' ⟨rfl, hc, hg⟩)
  go_ret2
  exact ⟨ret2 (by show Value.int .u8 _ = _; rw [E3.out]) rfl, hc, hg⟩

end Go.Proofs.YtbebdaglkjhbjaaGreatDoor.cur

/-
  The statements of layer 1: awake, a nil cursor.
-/
namespace Go.Proofs.YtbebdaglkjhbjaaGreatDoor.law01
open Go.RowKit Go.Proofs.YtbebdaglkjhbjaaGreatDoor.cur
set_option linter.unusedVariables false

def ab : ByteArray := ⟨#[97, 98]⟩

/-- The chapter's example. -/
theorem awake_any (w : World) :
    Calls Tryz.prog 248 #[] w fun e w' => e = .returned (.bool true) ∧ w.grownBy w' none := by
  go_enter Tryz.func248, Tryz.ntmps248
  go_wp2_with fail
  refine (over_any ab w).mono ?_
  rintro e w0 ⟨rfl, hw0⟩
  have hN := hw0 ▸ Cur.new ab (by decide) w
  have g0 : w.grownBy w0 none := hw0 ▸ World.grownBy_alloc _ _ _
  have hb : w.heap.size < w0.heap.size := hN.lt
  clear hw0
  go_wp2_with fail
  refine (byte_ok hN (by decide)).mono ?_
  rintro e w1 ⟨rfl, h1, g1⟩
  clear hN
  go_wp2_with fail
  refine (byte_ok h1 (by decide)).mono ?_
  rintro e w2 ⟨rfl, h2, g2⟩
  clear h1
  go_wp2_with fail
  refine (byte_no h2 (by decide)).mono ?_
  rintro e w3 ⟨rfl, d, rfl⟩
  clear h2
  go_wp2_with fail
  go_ret
  exact ⟨rfl, only_drewN (only_new (only_new g0 g1 (Nat.le_refl _)) g2 (Nat.le_refl _)) _⟩

end Go.Proofs.YtbebdaglkjhbjaaGreatDoor.law01

/-
  Plain mathematics of the numbers by seven bits: no function of the program.
-/
namespace Go.Proofs.YtbebdaglkjhbjaaGreatDoor.vi
set_option linter.unusedVariables false

/-- The writing of a number. -/
def enc (n : Nat) : List UInt8 := if h : n < 128 then [UInt8.ofNat n] else UInt8.ofNat (n % 128 + 128) :: enc (n / 128)
  termination_by n
  decreasing_by omega

/-- What bytes come to, seven bits of each. -/
def val : List UInt8 → Nat
  | [] => 0
  | b :: r => b.toNat % 128 + 128 * val r

theorem val_snoc (l : List UInt8) (b : UInt8) : val (l ++ [b]) = val l + b.toNat % 128 * 128 ^ l.length := by
  induction l with
  | nil => simp [val]
  | cons x r ih =>
    simp only [List.cons_append, val, ih, List.length_cons, Nat.pow_succ]
    rw [Nat.mul_add, ← Nat.add_assoc, Nat.mul_left_comm, Nat.mul_comm 128 (128 ^ r.length)]

theorem val_lt (l : List UInt8) : val l < 128 ^ l.length := by
  induction l with
  | nil => simp [val]
  | cons x r ih =>
    simp only [val, List.length_cons, Nat.pow_succ]
    omega

theorem enc_small {n : Nat} (h : n < 128) : enc n = [UInt8.ofNat n] := by rw [enc, dif_pos h]
theorem enc_big {n : Nat} (h : ¬ n < 128) : enc n = UInt8.ofNat (n % 128 + 128) :: enc (n / 128) := by rw [enc, dif_neg h]

theorem toNat_ofNat {n : Nat} (h : n < 256) : (UInt8.ofNat n).toNat = n := by simp; omega

/-- The make of a writing: bytes from 128 on, and a last one below, which is not 0 behind others; it comes to the number. -/
theorem enc_shape (n : Nat) : ∃ l b, enc n = l ++ [b] ∧ (∀ x ∈ l, 128 ≤ x.toNat) ∧ b.toNat < 128 ∧ (l ≠ [] → b.toNat ≠ 0) ∧ val (l ++ [b]) = n := by
  induction n using Nat.strongRecOn with
  | _ n ih =>
    by_cases h : n < 128
    · refine ⟨[], UInt8.ofNat n, enc_small h, by simp, by rw [toNat_ofNat (by omega)]; exact h, by simp, ?_⟩
      simp only [List.nil_append, val]
      rw [toNat_ofNat (by omega)]
      omega
    · obtain ⟨l, b, he, hl, hb, hz, hv⟩ := ih (n / 128) (by omega)
      have e1 : (UInt8.ofNat (n % 128 + 128)).toNat = n % 128 + 128 := toNat_ofNat (by omega)
      refine ⟨UInt8.ofNat (n % 128 + 128) :: l, b, by rw [enc_big h, he]; rfl, ?_, hb, fun _ h0 => ?_, ?_⟩
      · intro x hx
        rcases List.mem_cons.1 hx with rfl | hx
        · omega
        · exact hl x hx
      · by_cases hn : l = []
        · subst hn
          simp only [List.nil_append, val] at hv
          omega
        · exact hz hn h0
      · simp only [List.cons_append, val, hv]
        omega

theorem val_pos : ∀ (l : List UInt8) (b : UInt8), b.toNat < 128 → b.toNat ≠ 0 → 0 < val (l ++ [b])
  | [], b, hb, h0 => by simp only [List.nil_append, val]; omega
  | x :: r, b, hb, h0 => by
    have := val_pos r b hb h0
    simp only [List.cons_append, val]
    omega

theorem ofNat_toNat (b : UInt8) : UInt8.ofNat b.toNat = b := by simp

/-- Each number has one writing. -/
theorem enc_val : ∀ (l : List UInt8) (b : UInt8), (∀ x ∈ l, 128 ≤ x.toNat) → b.toNat < 128 → (l ≠ [] → b.toNat ≠ 0) → enc (val (l ++ [b])) = l ++ [b]
  | [], b, _, hb, _ => by
    have e : val ([] ++ [b]) = b.toNat := by simp only [List.nil_append, val]; omega
    rw [e, enc_small hb, ofNat_toNat]
    rfl
  | x :: r, b, hl, hb, hz => by
    have hx := hl x (List.mem_cons_self ..)
    have hx' := x.toNat_lt
    have h0 : b.toNat ≠ 0 := hz (by simp)
    have hp := val_pos r b hb h0
    have e : val (x :: r ++ [b]) = x.toNat % 128 + 128 * val (r ++ [b]) := rfl
    have e1 : val (x :: r ++ [b]) % 128 + 128 = x.toNat := by omega
    have e2 : val (x :: r ++ [b]) / 128 = val (r ++ [b]) := by omega
    rw [enc_big (by omega), e1, e2, ofNat_toNat, enc_val r b (fun y hy => hl y (List.mem_cons_of_mem _ hy)) hb (fun _ => h0)]
    rfl

theorem enc_len_pos (n : Nat) : 0 < (enc n).length := by
  obtain ⟨l, b, he, _⟩ := enc_shape n
  rw [he]; simp

theorem enc_len_le : ∀ (m n : Nat), n < 128 ^ (m + 1) → (enc n).length ≤ m + 1
  | 0, n, h => by rw [enc_small (by simpa using h)]; simp
  | m + 1, n, h => by
    by_cases h1 : n < 128
    · rw [enc_small h1]; simp
    · have := enc_len_le m (n / 128) (by rw [Nat.pow_succ] at h; omega)
      rw [enc_big h1]
      simp only [List.length_cons]
      omega

theorem enc_len_ge : ∀ (m n : Nat), 128 ^ m ≤ n → m < (enc n).length
  | 0, n, h => enc_len_pos n
  | m + 1, n, h => by
    have hp : 0 < 128 ^ m := Nat.pow_pos (by omega)
    have h1 : ¬ n < 128 := by rw [Nat.pow_succ] at h; omega
    have := enc_len_ge m (n / 128) (by rw [Nat.pow_succ] at h; omega)
    rw [enc_big h1]
    simp only [List.length_cons]
    omega

theorem enc_len_ten {n : Nat} (h : n < 18446744073709551616) : (enc n).length ≤ 10 := enc_len_le 9 n (by omega)

theorem pow_seven (m : Nat) : 128 ^ m = 2 ^ (7 * m) := by rw [Nat.pow_mul]

/-- How many bytes a number needs, by its bits. -/
theorem len_bits {n : Nat} (h : n < 18446744073709551616) : (Lib.bitLen (n ||| 1) + 6) / 7 = (enc n).length := by
  have hpos := enc_len_pos n
  have h10 := enc_len_ten h
  obtain ⟨l, hl⟩ : ∃ l, (enc n).length = l + 1 := ⟨(enc n).length - 1, by omega⟩
  have hlt : n < 2 ^ (7 * (l + 1)) := by
    rw [← pow_seven]
    apply Nat.lt_of_not_le
    intro hc
    have := enc_len_ge _ _ hc
    omega
  have hor : n ||| 1 < 2 ^ (7 * (l + 1)) := Nat.or_lt_two_pow hlt (Nat.one_lt_two_pow (by omega))
  have h64 : n ||| 1 < 2 ^ 64 := Nat.or_lt_two_pow h (by decide)
  have hle : n ≤ n ||| 1 := Nat.left_le_or
  have hup : Lib.bitLen (n ||| 1) ≤ 7 * (l + 1) := by
    by_cases hc : 7 * (l + 1) ≤ 64
    · exact Lib.bitLen_le _ _ hc hor
    · have := Lib.bitLen_le _ 64 (Nat.le_refl _) h64
      omega
  have hlo : 7 * l < Lib.bitLen (n ||| 1) := by
    have hge : 2 ^ (7 * l) ≤ n ||| 1 := by
      rcases Nat.eq_zero_or_pos l with rfl | hp
      · have : 1 ≤ n ||| 1 := Nat.right_le_or
        simpa using this
      · refine Nat.le_trans (Nat.le_of_not_lt fun hc => ?_) hle
        obtain ⟨l', rfl⟩ : ∃ l', l = l' + 1 := ⟨l - 1, by omega⟩
        rw [← pow_seven] at hc
        have := enc_len_le l' n hc
        omega
    rw [Lib.bitLen_shift (7 * l) _ hge h64]
    have : 1 ≤ (n ||| 1) / 2 ^ (7 * l) := (Nat.le_div_iff_mul_le (Nat.two_pow_pos _)).2 (by omega)
    have hne : (n ||| 1) / 2 ^ (7 * l) ≠ 0 := by omega
    rw [Lib.bitLen_half _ hne (Nat.lt_of_le_of_lt (Nat.div_le_self _ _) h64)]
    omega
  omega

/-! Reading -/
def lastErr (b : UInt8) (k : Nat) : Nat := if k = 10 ∧ 1 < b.toNat then 3 else if 1 < k ∧ b.toNat = 0 then 2 else 0

/-- The number that bytes begin with, in how many, and the error. -/
def getR (L : List UInt8) : Nat × Nat × Nat :=
  let i := L.findIdx (fun b => decide (b.toNat < 128))
  if i < L.length ∧ i < 10 then
    if lastErr (L.getD i 0) (i + 1) = 0 then (val (L.take (i + 1)), i + 1, 0) else (0, 0, lastErr (L.getD i 0) (i + 1))
  else if 10 ≤ L.length then (0, 0, 3) else (0, 0, 1)

theorem findIdx_at {L : List UInt8} {k : Nat} (hk : k < L.length) (hall : ∀ j, j < k → 128 ≤ (L.getD j 0).toNat) (hlow : (L.getD k 0).toNat < 128) :
    L.findIdx (fun b => decide (b.toNat < 128)) = k := by
  rw [List.findIdx_eq hk]
  have e : ∀ j (h : j < L.length), L.getD j 0 = L[j] := fun j h => by rw [List.getD_eq_getElem?_getD, List.getElem?_eq_getElem h]; rfl
  refine ⟨by rw [← e k hk]; simpa using hlow, fun j hj => ?_⟩
  have := hall j hj
  rw [e j (by omega)] at this
  simpa using this

theorem getR_at {L : List UInt8} {k : Nat} (hk : k < L.length) (h10 : k < 10) (hall : ∀ j, j < k → 128 ≤ (L.getD j 0).toNat) (hlow : (L.getD k 0).toNat < 128) :
    getR L = if lastErr (L.getD k 0) (k + 1) = 0 then (val (L.take (k + 1)), k + 1, 0) else (0, 0, lastErr (L.getD k 0) (k + 1)) := by
  have e := findIdx_at hk hall hlow
  simp only [getR, e]
  rw [if_pos ⟨hk, h10⟩]

theorem findIdx_ge {L : List UInt8} {m : Nat} (hm : m ≤ L.length) (hall : ∀ j, j < m → 128 ≤ (L.getD j 0).toNat) : m ≤ L.findIdx (fun b => decide (b.toNat < 128)) := by
  refine Nat.le_of_not_lt fun hlt => ?_
  have hw : L.findIdx (fun b => decide (b.toNat < 128)) < L.length := by omega
  have h1 := List.findIdx_getElem (w := hw)
  have h2 := hall _ hlt
  rw [List.getD_eq_getElem?_getD, List.getElem?_eq_getElem hw] at h2
  simp at h1 h2
  omega

theorem getR_long {L : List UInt8} (h : 10 ≤ L.length) (hall : ∀ j, j < 10 → 128 ≤ (L.getD j 0).toNat) : getR L = (0, 0, 3) := by
  have := findIdx_ge h hall
  simp only [getR]
  rw [if_neg (by omega), if_pos h]

theorem getR_short {L : List UInt8} (h : L.length < 10) (hall : ∀ j, j < L.length → 128 ≤ (L.getD j 0).toNat) : getR L = (0, 0, 1) := by
  have := findIdx_ge (Nat.le_refl L.length) hall
  simp only [getR]
  rw [if_neg (by omega), if_neg (by omega)]

theorem getR_cases (L : List UInt8) : (∃ k, k < L.length ∧ k < 10 ∧ (∀ j, j < k → 128 ≤ (L.getD j 0).toNat) ∧ (L.getD k 0).toNat < 128) ∨ (10 ≤ L.length ∧ ∀ j, j < 10 → 128 ≤ (L.getD j 0).toNat) ∨ (L.length < 10 ∧ ∀ j, j < L.length → 128 ≤ (L.getD j 0).toNat) := by
  have key : ∀ m, (∃ k, k < m ∧ (∀ j, j < k → 128 ≤ (L.getD j 0).toNat) ∧ (L.getD k 0).toNat < 128) ∨ ∀ j, j < m → 128 ≤ (L.getD j 0).toNat := by
    intro m
    induction m with
    | zero => exact .inr fun j hj => by omega
    | succ m ih =>
      rcases ih with ⟨k, hk, h1, h2⟩ | h
      · exact .inl ⟨k, by omega, h1, h2⟩
      · by_cases hm : (L.getD m 0).toNat < 128
        · exact .inl ⟨m, by omega, h, hm⟩
        · right
          intro j hj
          by_cases hjm : j = m
          · subst hjm; omega
          · exact h j (by omega)
  by_cases hl : 10 ≤ L.length
  · rcases key 10 with ⟨k, hk, h1, h2⟩ | h
    · exact .inl ⟨k, by omega, hk, h1, h2⟩
    · exact .inr (.inl ⟨hl, h⟩)
  · rcases key L.length with ⟨k, hk, h1, h2⟩ | h
    · exact .inl ⟨k, hk, by omega, h1, h2⟩
    · exact .inr (.inr ⟨by omega, h⟩)

theorem lastErr_lt (b : UInt8) (k : Nat) : lastErr b k < 4 := by unfold lastErr; split <;> (try split) <;> omega

theorem getR_err {L : List UInt8} (h : (getR L).2.2 ≠ 0) : (getR L).1 = 0 ∧ (getR L).2.1 = 0 := by
  rcases getR_cases L with ⟨k, hk, h10, hall, hlow⟩ | ⟨hl, hall⟩ | ⟨hl, hall⟩
  · rw [getR_at hk h10 hall hlow] at h ⊢
    split at h
    · exact absurd rfl h
    · rename_i h0
      rw [if_neg h0]
      exact ⟨rfl, rfl⟩
  · rw [getR_long hl hall]; exact ⟨rfl, rfl⟩
  · rw [getR_short hl hall]; exact ⟨rfl, rfl⟩

theorem getR_ok {L : List UInt8} (h : (getR L).2.2 = 0) : ∃ k, k < L.length ∧ k < 10 ∧ (∀ j, j < k → 128 ≤ (L.getD j 0).toNat) ∧ (L.getD k 0).toNat < 128 ∧ lastErr (L.getD k 0) (k + 1) = 0 ∧ getR L = (val (L.take (k + 1)), k + 1, 0) := by
  rcases getR_cases L with ⟨k, hk, h10, hall, hlow⟩ | ⟨hl, hall⟩ | ⟨hl, hall⟩
  · have e := getR_at hk h10 hall hlow
    rw [e] at h
    split at h
    · rename_i h0
      rw [if_pos h0] at e
      exact ⟨k, hk, h10, hall, hlow, h0, e⟩
    · exact absurd h (by assumption)
  · rw [getR_long hl hall] at h; simp at h
  · rw [getR_short hl hall] at h; simp at h

theorem getR_bounds (L : List UInt8) : (getR L).1 < 18446744073709551616 ∧ (getR L).2.1 ≤ L.length ∧ (getR L).2.1 ≤ 10 ∧ (getR L).2.2 < 4 ∧ ((getR L).2.2 = 0 → 0 < (getR L).2.1) := by
  by_cases h : (getR L).2.2 = 0
  · obtain ⟨k, hk, h10, hall, hlow, h0, e⟩ := getR_ok h
    rw [e]
    refine ⟨?_, by simp; omega, by simp; omega, by simp, by simp⟩
    show val (L.take (k + 1)) < _
    have e1 : L.take (k + 1) = L.take k ++ [L.getD k 0] := by
      rw [List.take_succ_eq_append_getElem hk, List.getD_eq_getElem?_getD, List.getElem?_eq_getElem hk]; rfl
    have hv := val_lt (L.take (k + 1))
    by_cases h8 : k ≤ 8
    · have h1 : 128 ^ (L.take (k + 1)).length ≤ 128 ^ 9 := Nat.pow_le_pow_right (by omega) (by simp; omega)
      omega
    · have hk9 : k = 9 := by omega
      subst hk9
      rw [e1, val_snoc]
      have h1 : (L.take 9).length = 9 := by simp; omega
      have h2 := val_lt (L.take 9)
      rw [h1] at h2 ⊢
      unfold lastErr at h0
      by_cases hc : 1 < (L.getD 9 0).toNat
      · rw [if_pos ⟨rfl, hc⟩] at h0; omega
      · have h3 : (L.getD 9 0).toNat % 128 * 128 ^ 9 ≤ 1 * 128 ^ 9 := Nat.mul_le_mul (by omega) (Nat.le_refl _)
        omega
  · obtain ⟨h1, h2⟩ := getR_err h
    rw [h1, h2]
    refine ⟨by omega, by omega, by omega, ?_, fun h0 => absurd h0 h⟩
    rcases getR_cases L with ⟨k, hk, h10, hall, hlow⟩ | ⟨hl, hall⟩ | ⟨hl, hall⟩
    · rw [getR_at hk h10 hall hlow]
      split
      · simp
      · exact lastErr_lt _ _
    · rw [getR_long hl hall]; simp
    · rw [getR_short hl hall]; simp

/-- The numbers of a text, or the first error. -/
def allR (L : List UInt8) : List Nat × Nat :=
  if h : L = [] then ([], 0)
  else if h2 : (getR L).2.2 = 0 then
    if (allR (L.drop (getR L).2.1)).2 = 0 then ((getR L).1 :: (allR (L.drop (getR L).2.1)).1, 0) else ([], (allR (L.drop (getR L).2.1)).2)
  else ([], (getR L).2.2)
  termination_by L.length
  decreasing_by
  all_goals
    have := (getR_bounds L).2.2.2.2 h2
    have hl : 0 < L.length := List.length_pos_iff.2 h
    simp
    omega

/-- What was read, and what the rest comes to. -/
def glue (acc : List Nat) (q : List Nat × Nat) : List Nat × Nat := if q.2 = 0 then (acc ++ q.1, 0) else ([], q.2)

theorem allR_nil : allR [] = ([], 0) := by rw [allR, dif_pos rfl]
theorem allR_err {L : List UInt8} (h : L ≠ []) (h2 : (getR L).2.2 ≠ 0) : allR L = ([], (getR L).2.2) := by rw [allR, dif_neg h, dif_neg h2]
theorem allR_ok {L : List UInt8} (h : L ≠ []) (h2 : (getR L).2.2 = 0) : allR L = glue [(getR L).1] (allR (L.drop (getR L).2.1)) := by
  rw [allR, dif_neg h, dif_pos h2]
  rfl
theorem glue_glue (a b : List Nat) (q : List Nat × Nat) : glue a (glue b q) = glue (a ++ b) q := by
  unfold glue
  by_cases h : q.2 = 0
  · simp [h]
  · simp [h]
theorem glue_nil (q : List Nat × Nat) (h : q.2 ≠ 0 → q.1 = []) : glue [] q = q := by
  unfold glue
  obtain ⟨a, b⟩ := q
  by_cases hb : b = 0
  · subst hb; simp
  · simp only at h ⊢
    rw [if_neg hb, h hb]
theorem allR_good (L : List UInt8) : (allR L).2 ≠ 0 → (allR L).1 = [] := by
  intro h
  by_cases hL : L = []
  · subst hL; rw [allR_nil]
  · by_cases h2 : (getR L).2.2 = 0
    · rw [allR_ok hL h2] at h ⊢
      unfold glue at h ⊢
      split at h
      · exact absurd rfl h
      · rename_i hq; rw [if_neg hq]
    · rw [allR_err hL h2]

/-! What is written is read, and the other way round -/
theorem getD_append_left {l r : List UInt8} {j : Nat} (h : j < l.length) : (l ++ r).getD j 0 = l.getD j 0 := by
  simp [List.getD, List.getElem?_append_left h]

theorem getR_enc {n : Nat} (hn : n < 18446744073709551616) (t : List UInt8) : getR (enc n ++ t) = (n, (enc n).length, 0) := by
  have h10 := enc_len_ten hn
  obtain ⟨l, b, he, hl, hb, hz, hv⟩ := enc_shape n
  have hlen : (enc n).length = l.length + 1 := by rw [he]; simp
  have hget : ∀ j, j < l.length → ((enc n ++ t).getD j 0).toNat = (l.getD j 0).toNat := fun j hj => by
    rw [getD_append_left (by omega), he, getD_append_left hj]
  have hlast : (enc n ++ t).getD l.length 0 = b := by
    rw [getD_append_left (by omega), he]
    simp [List.getD]
  have e := getR_at (L := enc n ++ t) (k := l.length) (by simp; omega) (by omega) (fun j hj => by
      rw [hget j hj, List.getD_eq_getElem?_getD, List.getElem?_eq_getElem hj]
      exact hl _ (List.getElem_mem hj)) (by rw [hlast]; exact hb)
  rw [hlast] at e
  have h0 : lastErr b (l.length + 1) = 0 := by
    unfold lastErr
    rw [if_neg, if_neg]
    · rintro ⟨h1, h2⟩
      exact hz (by rintro rfl; simp at h1) h2
    · rintro ⟨h1, h2⟩
      have h9 : l.length = 9 := by omega
      rw [val_snoc, h9] at hv
      have h3 : b.toNat % 128 * 128 ^ 9 ≥ 2 * 128 ^ 9 := Nat.mul_le_mul (by omega) (Nat.le_refl _)
      omega
  rw [if_pos h0] at e
  have ht : (enc n ++ t).take (l.length + 1) = enc n := by rw [← hlen]; simp
  rw [e, ht, hlen]
  rw [he, hv]

theorem getR_cut {n : Nat} (hn : n < 18446744073709551616) (c : Nat) (hc : c < (enc n).length) : getR ((enc n).take c) = (0, 0, 1) := by
  have h10 := enc_len_ten hn
  obtain ⟨l, b, he, hl, hb, hz, hv⟩ := enc_shape n
  have hlen : (enc n).length = l.length + 1 := by rw [he]; simp
  refine getR_short (by simp; omega) (fun j hj => ?_)
  simp only [List.length_take] at hj
  have e : ((enc n).take c).getD j 0 = l.getD j 0 := by
    rw [he]
    simp only [List.getD, List.getElem?_take]
    rw [if_pos (by omega), List.getElem?_append_left (by omega)]
  rw [e, List.getD_eq_getElem?_getD, List.getElem?_eq_getElem (show j < l.length by omega)]
  exact hl _ (List.getElem_mem _)

theorem enc_getR {L : List UInt8} (h : (getR L).2.2 = 0) : enc (getR L).1 = L.take (getR L).2.1 := by
  obtain ⟨k, hk, h10, hall, hlow, h0, e⟩ := getR_ok h
  rw [e]
  have e1 : L.take (k + 1) = L.take k ++ [L.getD k 0] := by
    rw [List.take_succ_eq_append_getElem hk, List.getD_eq_getElem?_getD, List.getElem?_eq_getElem hk]; rfl
  show enc (val (L.take (k + 1))) = L.take (k + 1)
  rw [e1]
  refine enc_val _ _ (fun x hx => ?_) hlow (fun hne hz => ?_)
  · obtain ⟨j, hj, rfl⟩ := List.mem_iff_getElem.1 hx
    simp only [List.length_take] at hj
    have := hall j (by omega)
    rw [List.getD_eq_getElem?_getD, List.getElem?_eq_getElem (by omega)] at this
    simpa using this
  · have hkp : 0 < k := by
      rcases Nat.eq_zero_or_pos k with rfl | hp
      · simp at hne
      · exact hp
    unfold lastErr at h0
    rw [if_neg (by omega), if_pos ⟨by omega, hz⟩] at h0
    omega

end Go.Proofs.YtbebdaglkjhbjaaGreatDoor.vi

/-
  The contracts of package varint, function by function.
-/
namespace Go.Proofs.YtbebdaglkjhbjaaGreatDoor.vi
open Go.RowKit Go.Proofs.YtbebdaglkjhbjaaGreatDoor.cur
set_option linter.unusedVariables false

theorem last_any (b : UInt8) (k : Nat) (hk : k ≤ 10) (w : World) :
    Calls Tryz.prog 122 #[.int .u8 (b.toNat : Int), .int .i64 k] w fun e w' => e = .returned (.int .i64 (lastErr b k)) ∧ w = w' := by
  have hb := b.toNat_lt
  rcases (show (k = 10 ∧ 1 < b.toNat) ∨ ((k = 10 ∧ b.toNat ≤ 1 ∧ b.toNat ≠ 0) ∨ (k = 10 ∧ b.toNat = 0)) ∨ (k ≠ 10 ∧ 1 < k ∧ b.toNat = 0) ∨ (k ≠ 10 ∧ 1 < k ∧ b.toNat ≠ 0) ∨ (k ≠ 10 ∧ ¬ 1 < k) by omega) with h | (h | h) | h | h | h
  all_goals
    go_enter Tryz.func122, Tryz.ntmps122
    go_wp2
    go_ret
    refine ⟨ret1 (congrArg (Value.int .i64) ?_), rfl⟩
    unfold lastErr
    simp [h]
  all_goals (try split) <;> omega

theorem getD_bytes (s : ByteArray) (k : Nat) (h : k < s.size) : s.data.toList.getD k 0 = s[k] := by
  rw [List.getD_eq_getElem?_getD, List.getElem?_eq_getElem (by simpa using h)]
  rfl

theorem step_bits (x b k : Nat) (hx : x < 18446744073709551616) (hb : b < 256) (hk : k ≤ 9) :
    ∃ y : Nat, bits .or .u64 (x : Int) (IntKind.u64.wrap (IntKind.u64.wrap (bits .andNot .u8 (b : Int) 128) * 2 ^ (7 * k))) = (y : Int) ∧ y < 18446744073709551616 ∧
      (x < 128 ^ k → k ≤ 8 ∨ b ≤ 1 → y = x + b % 128 * 128 ^ k) := by
  have e1 : bits .andNot .u8 (b : Int) 128 = ((b % 128 : Nat) : Int) := by
    have := u8_andNot_nat b 128 hb (by omega)
    rw [show (255 - 128 : Nat) = 127 from rfl, nat_mask7] at this
    exact this
  have e2 : IntKind.u64.wrap (((b % 128 : Nat) : Int)) = ((b % 128 : Nat) : Int) := by rw [IntKind.wrap_u64]; omega
  have e3 : IntKind.u64.wrap (((b % 128 : Nat) : Int) * 2 ^ (7 * k)) = ((b % 128 * 128 ^ k % 18446744073709551616 : Nat) : Int) := by
    rw [IntKind.wrap_u64, pow_seven]
    symm
    rw [Int.natCast_emod, Int.natCast_mul, Int.natCast_pow]
    rfl
  have hlt : b % 128 * 128 ^ k % 18446744073709551616 < 18446744073709551616 := Nat.mod_lt _ (by omega)
  rw [e1, e2, e3, u64_or_nat _ _ hx hlt]
  refine ⟨_, rfl, Nat.or_lt_two_pow (n := 64) hx hlt, fun hxk hc => ?_⟩
  have hm : b % 128 * 128 ^ k < 18446744073709551616 := by
    rcases hc with hc | hc
    · have h1 : 128 ^ k ≤ 128 ^ 8 := Nat.pow_le_pow_right (by omega) hc
      have h2 : b % 128 * 128 ^ k ≤ 127 * 128 ^ 8 := Nat.mul_le_mul (by omega) h1
      omega
    · have h1 : 128 ^ k ≤ 128 ^ 9 := Nat.pow_le_pow_right (by omega) hk
      have h2 : b % 128 * 128 ^ k ≤ 1 * 128 ^ 9 := Nat.mul_le_mul (by omega) h1
      omega
  rw [Nat.mod_eq_of_lt hm, Nat.or_comm, nat_join (7 * k) _ _ (by rw [← pow_seven]; exact Nat.mul_mod_left _ _) (by rw [← pow_seven]; exact hxk)]
  omega

/-- What holds at the k-th round's head of Get. -/
structure GetSt (s : ByteArray) (k x : Nat) : Prop where
  le : k ≤ s.size
  ten : k ≤ 10
  lt : x < 18446744073709551616
  all : ∀ j, j < k → 128 ≤ (s.data.toList.getD j 0).toNat
  eq : k ≤ 9 → x = val (s.data.toList.take k)

theorem take_step (s : ByteArray) (k : Nat) (h : k < s.size) : s.data.toList.take (k + 1) = s.data.toList.take k ++ [s[k]] := by
  rw [List.take_succ_eq_append_getElem (by simpa using h)]; rfl

theorem val_take (s : ByteArray) (k : Nat) (h : k < s.size) : val (s.data.toList.take (k + 1)) = val (s.data.toList.take k) + s[k].toNat % 128 * 128 ^ k := by
  rw [take_step s k h, val_snoc, List.length_take, Nat.min_eq_left (by simp; omega)]

theorem GetSt.next {s : ByteArray} {k x y : Nat} (h : GetSt s k x) (hk : k < s.size) (h10 : k < 10) (hb : 128 ≤ s[k].toNat) (hy : y < 18446744073709551616) (he : x < 128 ^ k → k ≤ 8 ∨ s[k].toNat ≤ 1 → y = x + s[k].toNat % 128 * 128 ^ k) : GetSt s (k + 1) y := by
  refine ⟨hk, by omega, hy, fun j hj => ?_, fun h9 => ?_⟩
  · by_cases hjk : j = k
    · subst hjk
      rw [getD_bytes s j hk]
      exact hb
    · exact h.all j (by omega)
  · have hx := h.eq (by omega)
    rw [he ?_ (.inl (by omega)), val_take s k hk, hx]
    have := val_lt (s.data.toList.take k)
    rw [hx]
    refine Nat.lt_of_lt_of_le this (Nat.pow_le_pow_right (by omega) ?_)
    simp
    omega

/-- The number is read. -/
theorem GetSt.hit {s : ByteArray} {k x y : Nat} (h : GetSt s k x) (hk : k < s.size) (h10 : k < 10) (hb : s[k].toNat < 128) (he : x < 128 ^ k → k ≤ 8 ∨ s[k].toNat ≤ 1 → y = x + s[k].toNat % 128 * 128 ^ k) :
    getR s.data.toList = if lastErr s[k] (k + 1) = 0 then (y, k + 1, 0) else (0, 0, lastErr s[k] (k + 1)) := by
  have hlen : s.data.toList.length = s.size := by simp
  rw [getR_at (by omega) h10 h.all (by rw [getD_bytes s k hk]; exact hb), getD_bytes s k hk]
  by_cases h0 : lastErr s[k] (k + 1) = 0
  · rw [if_pos h0, if_pos h0, he ?_ ?_, val_take s k hk, h.eq (by omega)]
    · rw [h.eq (by omega)]
      refine Nat.lt_of_lt_of_le (val_lt _) (Nat.pow_le_pow_right (by omega) ?_)
      simp
      omega
    · by_cases h8 : k ≤ 8
      · exact .inl h8
      · right
        unfold lastErr at h0
        by_cases hc : 1 < s[k].toNat
        · rw [if_pos ⟨by omega, hc⟩] at h0
          omega
        · omega
  · rw [if_neg h0, if_neg h0]

def getV (r : Nat × Nat × Nat) : Value := .tuple #[.int .u64 r.1, .int .i64 r.2.1, .int .i64 r.2.2]

set_option maxHeartbeats 2000000 in
set_option maxRecDepth 100000 in
theorem get_any (s : ByteArray) (hs : s.size ≤ maxLen) (w : World) :
    Calls Tryz.prog 105 #[.string s] w fun e w' => e = .returned (getV (getR s.data.toList)) ∧ w = w' := by
  unfold maxLen at hs
  have hlen : s.data.toList.length = s.size := by simp
  have Hlen := Lib.hid hlen
  clear hlen
  obtain ⟨m, hmin, hm1, hm2, hm3⟩ : ∃ m : Nat, min (s.size : Int) 10 = m ∧ m ≤ s.size ∧ m ≤ 10 ∧ (m = s.size ∨ m = 10) := ⟨min s.size 10, by omega, by omega, by omega, by omega⟩
  go_enter Tryz.func105, Tryz.ntmps105
  go_wp2_with fail
  go_loop [5, 11] (fun n i => ∃ k x : Nat, i = .int .i64 k ∧ n = .int .u64 x ∧ k ≤ m ∧ GetSt s k x) (fun _ i => 10 - (intOf i).toNat)
  case atStart => exact ⟨0, 0, rfl, rfl, by omega, by omega, by omega, by omega, fun j hj => by omega, fun _ => by simp [val]⟩
  case round =>
    obtain ⟨k, x, rfl, rfl, hkm, hst⟩ := hrel
    have hx := hst.lt
    have Hst := Lib.hid hst
    clear hst
    by_cases hlt : k < m
    · have h1 : k < s.size := by omega
      have h10 : k < 10 := by omega
      have hb := s[k].toNat_lt
      obtain ⟨y, hy, hyl, hye⟩ := step_bits x s[k].toNat k hx hb (by omega)
      have Hye := Lib.hid hye
      clear hye
      by_cases h : s[k].toNat < 128
      · have hla := last_any s[k] (k + 1) (by omega)
        have hh := Lib.hid (Hst.out.hit h1 h10 h Hye.out)
        clear Hst Hye
        by_cases h0 : lastErr s[k] (k + 1) = 0
        · rw [h0] at hla
          rw [if_pos h0] at hh
          have H0 := Lib.hid h0
          clear h0
          go_wp2_with (go_at_call 122; refine (hla _).mono ?_; rintro e w' ⟨rfl, rfl⟩)
          go_ret3
          rw [hh.out]
          exact ⟨rfl, rfl⟩
        · rw [if_neg h0] at hh
          have h3 : lastErr s[k] (k + 1) < 4 := by unfold lastErr; split <;> (try split) <;> omega
          generalize lastErr s[k] (k + 1) = E at *
          go_wp2_with (go_at_call 122; refine (hla _).mono ?_; rintro e w' ⟨rfl, rfl⟩)
          go_ret3
          rw [hh.out]
          exact ⟨rfl, rfl⟩
      · go_wp2_with fail
        go_round
        case rel => exact ⟨k + 1, y, by go_num, rfl, by omega, Hst.out.next h1 h10 (by omega) hyl Hye.out⟩
        case measure => simp [intOf]; omega
    · have hkm' : k = m := by omega
      subst hkm'
      rcases hm3 with hm3 | hm3
      · by_cases h10 : 10 ≤ s.size
        · have hh := Lib.hid (getR_long (by rw [Hlen.out]; exact h10) (fun j hj => Hst.out.all j (by omega)))
          have hk10 : k = 10 := by omega
          clear Hst hm3
          go_wp2_with fail
          go_ret3
          rw [hh.out]
          exact ⟨rfl, rfl⟩
        · have hh := Lib.hid (getR_short (by rw [Hlen.out]; omega) (fun j hj => Hst.out.all j (by rw [Hlen.out] at hj; omega)))
          clear Hst
          have hm3 := Lib.hid hm3
          go_wp2_with fail
          go_ret3
          rw [hh.out]
          exact ⟨rfl, rfl⟩
      · have hh := Lib.hid (getR_long (by rw [Hlen.out]; omega) (fun j hj => Hst.out.all j (by omega)))
        have h10 : 10 ≤ s.size := by omega
        clear Hst
        have hm3 := Lib.hid hm3
        go_wp2_with fail
        go_ret3
        rw [hh.out]
        exact ⟨rfl, rfl⟩

theorem size_any (n : Nat) (hn : n < 18446744073709551616) (w : World) :
    Calls Tryz.prog 74 #[.int .u64 n] w fun e w' => e = .returned (.int .i64 (enc n).length) ∧ w = w' := by
  have hor : n ||| 1 < 18446744073709551616 := Nat.or_lt_two_pow (n := 64) hn (by decide)
  have hb : bits .or .u64 (n : Int) 1 = ((n ||| 1 : Nat) : Int) := u64_or_nat n 1 hn (by omega)
  have hl := len_bits hn
  have h64 := Lib.bitLen_le (n ||| 1) 64 (Nat.le_refl _) hor
  have hc := fun w => Tryz.bits_Len64 ((n ||| 1 : Nat) : Int) w (by omega) (by omega)
  rw [Int.toNat_natCast] at hc
  generalize Lib.bitLen (n ||| 1) = B at *
  generalize n ||| 1 = m at *
  have Hl := Lib.hid hl
  clear hl
  go_enter Tryz.func74, Tryz.ntmps74
  go_wp2_with (go_at_call 101; refine (hc _).mono ?_; rintro e w' ⟨rfl, hw⟩; subst hw)
  go_ret
  refine ⟨ret1 (congrArg (Value.int .i64) ?_), rfl⟩
  have := Hl.out
  show ((B : Int) + 7 - 1) / 7 = _
  omega

end Go.Proofs.YtbebdaglkjhbjaaGreatDoor.vi

/-
  Put, and the document's Put.
-/
namespace Go.Proofs.YtbebdaglkjhbjaaGreatDoor.vi
open Go.RowKit Go.Proofs.YtbebdaglkjhbjaaGreatDoor.cur
set_option linter.unusedVariables false

theorem or_128 : ∀ x : Fin 256, x.val ||| 128 = x.val % 128 + 128 := by decide +kernel

theorem byte_or (n : Nat) : bits .or .u8 ((n : Int) % 256) 128 = ((n % 128 + 128 : Nat) : Int) := by
  have e : (n : Int) % 256 = ((n % 256 : Nat) : Int) := rfl
  rw [e]
  have := u8_or_nat (n % 256) 128 (by omega) (by omega)
  rw [or_128 ⟨n % 256, by omega⟩] at this
  rw [show ((128 : Nat) : Int) = 128 from rfl] at this
  rw [this]
  congr 1
  show n % 256 % 128 + 128 = _
  omega

theorem byte_mask (b : Nat) (h : b < 128) : bits .andNot .u8 ((b : Int) + 128) 128 = (b : Int) := by
  have := u8_andNot_nat (b + 128) 128 (by omega) (by omega)
  rw [show (255 - 128 : Nat) = 127 from rfl, nat_mask7] at this
  rw [show ((128 : Nat) : Int) = 128 from rfl, show ((b + 128 : Nat) : Int) = (b : Int) + 128 from rfl] at this
  rw [this]
  congr 1
  omega

theorem enc_get : ∀ (j n : Nat), j < (enc n).length → ((enc n).getD j 0).toNat = n / 128 ^ j % 128 + if j + 1 < (enc n).length then 128 else 0
  | 0, n, h => by
    by_cases hn : n < 128
    · rw [enc_small hn]
      simp
      omega
    · have hp := enc_len_pos (n / 128)
      rw [enc_big hn]
      simp only [List.length_cons]
      rw [if_pos (by omega)]
      show (UInt8.ofNat _).toNat = _
      rw [toNat_ofNat (by omega)]
      simp
  | j + 1, n, h => by
    by_cases hn : n < 128
    · rw [enc_small hn] at h
      simp at h
    · rw [enc_big hn] at h ⊢
      simp only [List.length_cons] at h ⊢
      have := enc_get j (n / 128) (by omega)
      show ((enc (n / 128)).getD j 0).toNat = _
      rw [this, Nat.div_div_eq_div_mul, Nat.pow_succ, Nat.mul_comm 128]
      congr 1
      split <;> split <;> omega

/-- The cells of Put's row when i bytes are written. -/
def rowAt (n len i : Nat) : List Value := (List.range len).map fun j => if j < i then .int .u8 ((n / 128 ^ j % 128 + 128 : Nat) : Int) else .int .u8 0

theorem rowAt_zero (n len : Nat) : rowAt n len 0 = List.replicate len (.int .u8 0) := by
  unfold rowAt
  apply List.ext_getElem
  · simp
  · intro j h1 h2
    simp

theorem rowAt_set (n len i : Nat) (h : i < len) : (rowAt n len i).set i (.int .u8 ((n / 128 ^ i % 128 + 128 : Nat) : Int)) = rowAt n len (i + 1) := by
  unfold rowAt
  apply List.ext_getElem
  · simp
  · intro j h1 h2
    simp only [List.length_map, List.length_range] at h2
    rw [List.getElem_set]
    simp only [List.getElem_map, List.getElem_range]
    by_cases hj : i = j
    · subst hj; simp
    · rw [if_neg hj]
      by_cases h3 : j < i
      · rw [if_pos h3, if_pos (by omega)]
      · rw [if_neg h3, if_neg (by omega)]

/-- The cells when the last byte is masked: the writing. -/
theorem rowAt_last (n : Nat) : (rowAt n (enc n).length (enc n).length).set ((enc n).length - 1) (.int .u8 ((n / 128 ^ ((enc n).length - 1) % 128 : Nat) : Int)) = (enc n).map fun b => .int .u8 (b.toNat : Int) := by
  have hp := enc_len_pos n
  unfold rowAt
  apply List.ext_getElem
  · simp
  · intro j h1 h2
    simp only [List.length_map] at h2
    have := enc_get j n h2
    rw [List.getD_eq_getElem?_getD, List.getElem?_eq_getElem h2] at this
    simp only [Option.getD_some] at this
    rw [List.getElem_set]
    simp only [List.getElem_map, List.getElem_range]
    rw [this]
    by_cases hj : (enc n).length - 1 = j
    · subst hj
      rw [if_pos rfl, if_neg (by omega)]
      rfl
    · rw [if_neg hj, if_pos h2, if_pos (by omega)]

theorem Tryz.info5 : (Tryz.prog.info? 5).map (fun i => (i.zero, i.size, i.bytes)) = some (some (.int .u8 0), 1, 1) := by kernel_rfl

def encB (n : Nat) : ByteArray := ⟨(enc n).toArray⟩

/-- 'make', with what is drawn. -/
theorem wpList_make_gd {P : Program} (w : World) {ops : Array Oper} {rest : List Oper} {o : Oper} {a : Act} {Q : Exit → Act → World → Prop}
    (hg : o.guard = none) (l c : Operand) (t : TypeId) (hop : o.op = Op.makeSlice t l c)
    (base : Nat) (e : TypeId) (i : TypeInfo) (z : Value) (size : Nat) (h1 : P.underlying t = some (.slice e)) (h2 : P.info? e = some i) (h3 : i.zero = some z) (h4 : i.size = size)
    (kl kc : IntKind) (L C : Int) (n : Nat) (hl : a.eval l = .int kl L) (hc : a.eval c = .int kc C) (hL : L = (n : Int)) (hC : C = (n : Int)) (b2 : i.bytes * n ≤ 281474976710656) (b3 : n ≤ maxLen) (b4 : base ≤ w.heap.size)
    (hK : ∀ w', w'.ownsRow base e size (.slice (some ⟨w.heap.size, 0, none⟩) n n) n (madeCells z.cells (n * size)).toList → Gd w w' → wpList P ops Q rest (a.put o.dst (.slice (some ⟨w.heap.size, 0, none⟩) n n)) w') :
    wpList P ops Q (o :: rest) a w := by
  refine wpList_plain hg fun K hK' => ?_
  obtain ⟨w', hrun, r1, r2⟩ := run_make_full (P := P) w base t e i z size h1 h2 h3 h4 kl kc n b2 b3 b4
  have hd := run_drawn _ hrun
  subst hL
  subst hC
  unfold Oper.wp
  simp [execOp, hop, hl, hc, hrun, Result.andThen]
  exact hK' _ _ (hK w' r1 ⟨r2, hd⟩)

set_option maxHeartbeats 2000000 in
set_option maxRecDepth 100000 in
theorem putD_any (n : Nat) (hn : n < 18446744073709551616) (w : World) :
    Calls Tryz.prog 43 #[.int .u64 n] w fun e w' => e = .returned (.string (encB n)) ∧ Gd w w' := by
  obtain ⟨i5, hi, hz0, hz1, hz2⟩ := info_parts Tryz.info5
  have hsz := size_any n hn w
  have hp := enc_len_pos n
  have h10 := enc_len_ten hn
  have hlast := Lib.hid (rowAt_last n)
  go_enter Tryz.func43, Tryz.ntmps43
  generalize hEnc : (enc n).length = len at *
  have HEnc := Lib.hid hEnc
  clear hEnc
  go_wp2_with (first
    | (go_at_call 74; refine hsz.mono ?_; rintro e w' ⟨rfl, rfl⟩)
    | (at_make; refine wpList_make_gd _ rfl (.tmp 8) (.tmp 8) 83 rfl w.heap.size 5 i5 (.int .u8 0) 1 Tryz.underlying83 hi hz0 hz1 .i64 .i64 len len len (by rfl) (by rfl) rfl rfl (by rw [hz2]; omega) (by unfold maxLen; omega) (Nat.le_refl _) ?_))
  intro w1 hown hg
  have hown0 : w1.ownsRow w.heap.size 5 1 (.slice (some ⟨w.heap.size, 0, none⟩) len len) len (rowAt n len 0) := by
    rw [rowAt_zero]
    rw [toList_madeCells_one] at hown
    exact hown
  have Hown := Lib.hid hown0
  have Hg := Lib.hid hg
  have hB : w.heap.size < w1.heap.size := (hown0.lt _ rfl).2
  clear hown hown0 hg
  go_wp2_with fail
  go_loopw [0, 11] (fun x c wr => ∃ i : Nat, i ≤ len ∧ c = .int .i64 i ∧ x = .int .u64 ((n / 128 ^ i : Nat) : Int) ∧ wr.ownsRow w.heap.size 5 1 (.slice (some ⟨w.heap.size, 0, none⟩) len len) len (rowAt n len i) ∧ Gd w wr) (fun _ c _ => len - (intOf c).toNat)
  case atStart => exact ⟨0, by omega, rfl, by simp, Hown.out, Hg.out⟩
  case round =>
    obtain ⟨i, hil, rfl, rfl, hown, hg⟩ := hrel
    have hrow : (rowAt n len i).length = len := by simp [rowAt]
    have Hg := Lib.hid hg
    have Ho := Lib.hid hown
    have hxl : n / 128 ^ i < 18446744073709551616 := Nat.lt_of_le_of_lt (Nat.div_le_self _ _) hn
    have Hbo := Lib.hid (byte_or (n / 128 ^ i))
    have hnext : n / 128 ^ (i + 1) = n / 128 ^ i / 128 := by rw [Nat.pow_succ, Nat.div_div_eq_div_mul]
    have Hs := Lib.hid (rowAt_set n len i)
    have Hn := Lib.hid hnext
    clear hnext
    generalize hX : n / 128 ^ i = X at *
    have HX := Lib.hid hX
    clear hX
    by_cases hlt : i < len
    · have hc : wr.cell? ⟨w.heap.size, i, none⟩ = some (.int .u8 0) := by
        rw [hown.cellAt i (by omega)]
        simp [rowAt, hlt]
      have hf := hown.frozenAt i
      clear hown hg
      go_wp2_with fail
      go_roundw
      case rel =>
        refine ⟨i + 1, by omega, by go_num, ?_, ?_, Hg.out.setCell (Nat.le_refl _) _⟩
        · rw [Hn.out]; rfl
        · rw [Hbo.out, ← Hs.out hlt]
          exact (Ho.out.stored i _).1
      case measure => simp [intOf]; omega
    · have hie : i = len := by omega
      obtain ⟨l, rfl⟩ : ∃ l, i = l + 1 := ⟨i - 1, by omega⟩
      subst hie
      have hY : n / 128 ^ l % 128 < 128 := Nat.mod_lt _ (by omega)
      rw [Nat.add_sub_cancel] at hlast
      have hX1 : (rowAt n (l + 1) (l + 1))[l]? = some (.int .u8 ((n / 128 ^ l % 128 + 128 : Nat) : Int)) := by
        simp [rowAt]
      generalize n / 128 ^ l % 128 = Y at *
      have hc : wr.cell? ⟨w.heap.size, l, none⟩ = some (.int .u8 ((Y : Int) + 128)) := by
        rw [hown.cellAt l (by omega)]
        exact hX1
      have hf := hown.frozenAt l
      have hbm := byte_mask Y hY
      have hst := (hown.stored l (.int .u8 (Y : Int))).1
      rw [hlast.out] at hst
      have hcv := run_convert_bytes_back (P := Tryz.prog) (wr.setCell ⟨w.heap.size, l, none⟩ (.int .u8 (Y : Int))) 83 9 5 ⟨w.heap.size, 0, none⟩ (l + 1) (enc n) Tryz.underlying83 Tryz.underlying5 Tryz.underlying9 (fun j hj => by
        rw [Addr.add_lit, Nat.zero_add, hst.cellAt j (by rw [HEnc.out] at hj; omega), List.getElem?_map, List.getElem?_eq_getElem hj]
        rfl)
      rw [HEnc.out] at hcv
      clear hown hg hst hrow hX1
      go_wp2_with fail
      go_ret
      exact ⟨rfl, Hg.out.setCell (Nat.le_refl _) _⟩

theorem put_any (n : Nat) (hn : n < 18446744073709551616) (w : World) :
    Calls Tryz.prog 43 #[.int .u64 n] w fun e w' => e = .returned (.string (encB n)) ∧ w.grownBy w' none :=
  (putD_any n hn w).mono fun _ _ ⟨h, g⟩ => ⟨h, g.ok⟩

/-- A text of the one byte that stands in a new row. -/
theorem conv_byte (v : Int) (b : UInt8) (hv : v = (b.toNat : Int)) (w : World) :
    (convert 83 9 (.slice (some ⟨w.heap.size, 0, none⟩) 1 1)).run Tryz.prog (w.alloc (.cells #[.int .u8 v] 5)) =
      .ok (.string ⟨#[b]⟩) (w.alloc (.cells #[.int .u8 v] 5)) := by
  subst hv
  exact run_convert_bytes_back (P := Tryz.prog) (w.alloc (.cells #[.int .u8 (b.toNat : Int)] 5)) 83 9 5 ⟨w.heap.size, 0, none⟩ 1 [b] Tryz.underlying83 Tryz.underlying5 Tryz.underlying9 (fun j hj => by
    have : j = 0 := by simp at hj; omega
    subst this
    go_simp)

set_option maxHeartbeats 2000000 in
set_option maxRecDepth 100000 in
theorem rput_any (n : Nat) (hn : n < 18446744073709551616) (w : World) :
    Calls Tryz.prog 79 #[.int .u64 n] w fun e w' => e = .returned (.string (encB n)) ∧ w.grownBy w' none := by
  have h10 := enc_len_ten hn
  go_enter Tryz.func79, Tryz.ntmps79
  go_wp2_with fail
  go_loopw [0, 3] (fun x t wr => ∃ (m : Nat) (pre : List UInt8), m < 18446744073709551616 ∧ x = .int .u64 m ∧ t = .string ⟨pre.toArray⟩ ∧ pre ++ enc m = enc n ∧ w.grownBy wr none) (fun x _ _ => (intOf x).toNat)
  case atStart => exact ⟨n, [], hn, rfl, rfl, rfl, only_refl _ _⟩
  case round =>
    obtain ⟨m, pre, hm, rfl, rfl, hpre, hg⟩ := hrel
    have hlen : pre.length ≤ 10 := by have := congrArg List.length hpre; simp at this; omega
    have Hpre := Lib.hid hpre
    have Hg := Lib.hid hg
    have hlen' : (⟨pre.toArray⟩ : ByteArray).size ≤ 10 := by rw [size_of_list]; exact hlen
    clear hpre hg
    by_cases hlt : m < 128
    · obtain ⟨b, hb⟩ : ∃ b : UInt8, b = UInt8.ofNat m := ⟨_, rfl⟩
      have hcv := conv_byte (m : Int) b (by rw [hb, toNat_ofNat (by omega)]) wr
      have Hb := Lib.hid hb
      clear hb
      go_wp2_with fail
      go_ret
      refine ⟨ret1 (congrArg Value.string ?_), only_alloc Hg.out _⟩
      have e := Hpre.out
      rw [enc_small hlt, ← Hb.out] at e
      unfold encB
      rw [← e]
      exact ByteArray.mk_append_mk pre [b]
    · obtain ⟨b, hb⟩ : ∃ b : UInt8, b = UInt8.ofNat (m % 128 + 128) := ⟨_, rfl⟩
      have hcv := conv_byte ((m : Int) % 128 + 128) b (by rw [hb, toNat_ofNat (by omega)]; rfl) wr
      have Hb := Lib.hid hb
      clear hb
      go_wp2_with fail
      go_roundw
      case rel =>
        refine ⟨m / 128, pre ++ [b], by omega, rfl, congrArg Value.string (ByteArray.mk_append_mk pre [b]), ?_, only_alloc Hg.out _⟩
        have e := Hpre.out
        rw [enc_big hlt, ← Hb.out] at e
        rw [← e]
        simp
      case measure => simp [intOf]; omega

end Go.Proofs.YtbebdaglkjhbjaaGreatDoor.vi

/-
  The document's Get.
-/
namespace Go.Proofs.YtbebdaglkjhbjaaGreatDoor.vi
open Go.RowKit Go.Proofs.YtbebdaglkjhbjaaGreatDoor.cur
set_option linter.unusedVariables false

/-- Where the last byte is sought: not found up to i, or found at the byte before i. -/
inductive Seek (s : ByteArray) : Nat → Nat → Prop
  | no (i : Nat) (h1 : i ≤ s.size) (h2 : i ≤ 10) (h3 : ∀ j, j < i → 128 ≤ (s.data.toList.getD j 0).toNat) : Seek s i 0
  | yes (k : Nat) (h1 : k < s.size) (h2 : k < 10) (h3 : ∀ j, j < k → 128 ≤ (s.data.toList.getD j 0).toNat) (h4 : (s[k]'h1).toNat < 128) : Seek s (k + 1) (k + 1)

theorem acc_step (s : ByteArray) (j : Nat) (hj : j < s.size) (h9 : j ≤ 9) (hb : j = 9 → s[j].toNat ≤ 1) :
    IntKind.u64.wrap ((val (s.data.toList.take j) : Int) + IntKind.u64.wrap ((s[j].toNat : Int) % 128 * ((128 ^ j % 18446744073709551616 : Nat) : Int))) = (val (s.data.toList.take (j + 1)) : Int) ∧
    IntKind.u64.wrap (((128 ^ j % 18446744073709551616 : Nat) : Int) * 128) = ((128 ^ (j + 1) % 18446744073709551616 : Nat) : Int) ∧ val (s.data.toList.take (j + 1)) < 18446744073709551616 := by
  have hp9 : 128 ^ j ≤ 128 ^ 9 := Nat.pow_le_pow_right (by omega) h9
  have hU : 128 ^ j % 18446744073709551616 = 128 ^ j := Nat.mod_eq_of_lt (by omega)
  have hX : val (s.data.toList.take j) < 128 ^ j := by
    refine Nat.lt_of_lt_of_le (val_lt _) (Nat.pow_le_pow_right (by omega) ?_)
    simp
    omega
  have hv := val_take s j hj
  have hm : s[j].toNat % 128 * 128 ^ j ≤ 9223372036854775808 := by
    by_cases h8 : j ≤ 8
    · have h1 : 128 ^ j ≤ 128 ^ 8 := Nat.pow_le_pow_right (by omega) h8
      have h2 : s[j].toNat % 128 * 128 ^ j ≤ 127 * 128 ^ 8 := Nat.mul_le_mul (by omega) h1
      omega
    · have h1 := hb (by omega)
      have h2 : s[j].toNat % 128 * 128 ^ j ≤ 1 * 128 ^ 9 := Nat.mul_le_mul (by omega) hp9
      omega
  have e1 : (s[j].toNat : Int) % 128 * ((128 ^ j % 18446744073709551616 : Nat) : Int) = ((s[j].toNat % 128 * 128 ^ j : Nat) : Int) := by
    rw [hU, Int.natCast_mul]; rfl
  have hp : 128 ^ (j + 1) = 128 ^ j * 128 := Nat.pow_succ ..
  generalize 128 ^ j = p at *
  generalize s[j].toNat % 128 * p = q at *
  generalize val (s.data.toList.take j) = X at *
  generalize val (s.data.toList.take (j + 1)) = Y at *
  refine ⟨?_, ?_, by omega⟩
  · rw [e1, IntKind.wrap_u64, IntKind.wrap_u64]
    omega
  · rw [hU, IntKind.wrap_u64, hp]
    omega

set_option maxHeartbeats 4000000 in
set_option maxRecDepth 100000 in
theorem rget_any (s : ByteArray) (hs : s.size ≤ maxLen) (w : World) :
    Calls Tryz.prog 52 #[.string s] w fun e w' => e = .returned (getV (getR s.data.toList)) ∧ w = w' := by
  unfold maxLen at hs
  have Hlen := Lib.hid (show s.data.toList.length = s.size by simp)
  go_enter Tryz.func52, Tryz.ntmps52
  go_wp2_with fail
  go_loop [5, 6] (fun z c => ∃ i size : Nat, c = .int .i64 i ∧ z = .int .i64 size ∧ Seek s i size) (fun z c => (10 - (intOf c).toNat))
  case atStart => exact ⟨0, 0, rfl, rfl, .no 0 (by omega) (by omega) (by omega)⟩
  case round =>
    obtain ⟨i, size, rfl, rfl, hst⟩ := hrel
    have Hst := Lib.hid hst
    cases hst with
    | no _ h1 h2 h3 =>
      have H3 := Lib.hid h3
      clear h3
      by_cases hlt : i < s.size ∧ i < 10
      · obtain ⟨hl1, hl2⟩ := hlt
        have hb := s[i].toNat_lt
        by_cases hlow : s[i].toNat < 128
        · go_wp2_with fail
          go_round
          case rel => exact ⟨i + 1, i + 1, by go_num, by go_num, .yes i hl1 hl2 H3.out hlow⟩
          case measure => simp [intOf]; omega
        · go_wp2_with fail
          go_round
          case rel => 
            refine ⟨i + 1, 0, by go_num, by go_num, .no (i + 1) (by omega) (by omega) (fun j hj => ?_)⟩
            by_cases hji : j = i
            · subst hji; rw [getD_bytes s j hl1]; omega
            · exact H3.out j (by omega)
          case measure => simp [intOf]; omega
      · by_cases h10 : 10 ≤ s.size
        · have hi10 : i = 10 := by omega
          have hh := Lib.hid (getR_long (L := s.data.toList) (by rw [Hlen.out]; exact h10) (fun j hj => H3.out j (by omega)))
          go_wp2_with fail
          all_goals
            go_ret3
            rw [hh.out]
            exact ⟨rfl, rfl⟩
        · have hh := Lib.hid (getR_short (L := s.data.toList) (by rw [Hlen.out]; omega) (fun j hj => H3.out j (by rw [Hlen.out] at hj; omega)))
          have hie : ¬ i < s.size := by omega
          go_wp2_with fail
          all_goals
            go_ret3
            rw [hh.out]
            exact ⟨rfl, rfl⟩
    | yes k h1 h2 h3 h4 =>
      have H3 := Lib.hid h3
      clear h3
      have hb := s[k].toNat_lt
      have hh := Lib.hid (getR_at (L := s.data.toList) (by rw [Hlen.out]; exact h1) h2 H3.out (by rw [getD_bytes s k h1]; exact h4))
      rw [getD_bytes s k h1] at hh
      by_cases e1 : k = 9 ∧ 1 < s[k].toNat
      · obtain ⟨rfl, hgt⟩ := e1
        rw [show lastErr s[9] (9 + 1) = 3 from if_pos ⟨rfl, hgt⟩] at hh
        go_wp2_with fail
        all_goals
          go_ret3
          rw [hh.out]
          exact ⟨rfl, rfl⟩
      · by_cases e2 : 0 < k ∧ s[k].toNat = 0
        · obtain ⟨hp, hz⟩ := e2
          rw [show lastErr s[k] (k + 1) = 2 by unfold lastErr; rw [if_neg (by omega), if_pos (by omega)]] at hh
          by_cases h9 : k = 9
          · subst h9
            go_wp2_with fail
            all_goals
              go_ret3
              rw [hh.out]
              exact ⟨rfl, rfl⟩
          · go_wp2_with fail
            all_goals
              go_ret3
              rw [hh.out]
              exact ⟨rfl, rfl⟩
        · rw [show lastErr s[k] (k + 1) = 0 by unfold lastErr; rw [if_neg (by omega), if_neg (by omega)]] at hh
          by_cases h9 : k = 9
          · subst h9
            have hle : s[9].toNat ≤ 1 := by omega
            have hne : s[9].toNat ≠ 0 := by omega
            clear e1 e2
            go_wp2_with fail
            all_goals
              go_loop [7, 8, 9] (fun x u c => ∃ j X U : Nat, j ≤ 10 ∧ c = .int .i64 j ∧ x = .int .u64 X ∧ u = .int .u64 U ∧ X < 18446744073709551616 ∧ X = val (s.data.toList.take j) ∧ U = 128 ^ j % 18446744073709551616) (fun _ _ c => 10 - (intOf c).toNat)
              case atStart => exact ⟨0, 0, 1, by omega, rfl, rfl, rfl, by omega, by simp [val], by simp⟩
              case round =>
                obtain ⟨j, X, U, hj, rfl, rfl, rfl, hX, hXe, hUe⟩ := hrel
                by_cases hjk : j < 10
                · have hjs : j < s.size := by omega
                  have hbj := s[j].toNat_lt
                  have hstep := acc_step s j hjs (by omega) (fun h => by subst h; exact hle)
                  rw [← hXe, ← hUe] at hstep
                  obtain ⟨s1, s2, s3⟩ := hstep
                  have S1 := Lib.hid s1
                  have S2 := Lib.hid s2
                  clear hXe hUe s1 s2
                  go_wp2_with fail
                  go_round
                  case rel => exact ⟨j + 1, _, _, by omega, by go_num, congrArg _ S1.out, congrArg _ S2.out, s3, rfl, rfl⟩
                  case measure => simp [intOf]; omega
                · have hje : j = 10 := by omega
                  have HX := Lib.hid hXe
                  clear hXe hUe
                  subst hje
                  go_wp2_with fail
                  go_ret3
                  rw [hh.out, HX.out]
                  exact ⟨rfl, rfl⟩
          · clear e1
            go_wp2_with fail
            all_goals
              go_loop [7, 8, 9] (fun x u c => ∃ j X U : Nat, j ≤ k + 1 ∧ c = .int .i64 j ∧ x = .int .u64 X ∧ u = .int .u64 U ∧ X < 18446744073709551616 ∧ X = val (s.data.toList.take j) ∧ U = 128 ^ j % 18446744073709551616) (fun _ _ c => k + 1 - (intOf c).toNat)
              case atStart => exact ⟨0, 0, 1, by omega, rfl, rfl, rfl, by omega, by simp [val], by simp⟩
              case round =>
                obtain ⟨j, X, U, hj, rfl, rfl, rfl, hX, hXe, hUe⟩ := hrel
                by_cases hjk : j < k + 1
                · have hjs : j < s.size := by omega
                  have hbj := s[j].toNat_lt
                  have hstep := acc_step s j hjs (by omega) (fun h => by omega)
                  rw [← hXe, ← hUe] at hstep
                  obtain ⟨s1, s2, s3⟩ := hstep
                  have S1 := Lib.hid s1
                  have S2 := Lib.hid s2
                  clear hXe hUe s1 s2
                  go_wp2_with fail
                  go_round
                  case rel => exact ⟨j + 1, _, _, by omega, by go_num, congrArg _ S1.out, congrArg _ S2.out, s3, rfl, rfl⟩
                  case measure => simp [intOf]; omega
                · have hje : j = k + 1 := by omega
                  have HX := Lib.hid hXe
                  clear hXe hUe
                  subst hje
                  go_wp2_with fail
                  go_ret3
                  rw [hh.out, HX.out]
                  exact ⟨rfl, rfl⟩

end Go.Proofs.YtbebdaglkjhbjaaGreatDoor.vi

/-
  Next, All, and the document's All.
-/
namespace Go.Proofs.YtbebdaglkjhbjaaGreatDoor.vi
open Go.RowKit Go.Proofs.YtbebdaglkjhbjaaGreatDoor.cur
set_option linter.unusedVariables false

theorem next_nil (w : World) :
    Calls Tryz.prog 81 #[.pointer none] w fun e w' => e = .returned (.tuple #[.int .u64 0, .int .i64 25]) ∧ w = w' := by
  go_enter Tryz.func81, Tryz.ntmps81
  go_wp2
  go_ret2
  exact ⟨rfl, rfl⟩

theorem bytes_drop (s : ByteArray) (k : Nat) : (s.extract k s.size).data.toList = s.data.toList.drop k := by
  simp
  exact List.take_of_length_le (by simp)

set_option maxRecDepth 100000 in
theorem next_some {w : World} {b : Nat} {s : ByteArray} {k : Nat} (h : Cur w b s k) :
    Calls Tryz.prog 81 #[.pointer (some ⟨b, 0, none⟩)] w fun e w' =>
      e = .returned (.tuple #[.int .u64 ((getR (s.data.toList.drop k)).1 : Int), .int .i64 ((getR (s.data.toList.drop k)).2.2 : Int)]) ∧ Cur w' b s (k + (getR (s.data.toList.drop k)).2.1) ∧ w.grownBy w' (some b) := by
  have hr := rest_some h
  have hs : s.size ≤ maxLen := h.hs
  have hg := fun w => get_any (s.extract k s.size) (by simp; omega) w
  rw [bytes_drop] at hg
  have hb := getR_bounds (s.data.toList.drop k)
  have he := @getR_err (s.data.toList.drop k)
  have hl : (s.data.toList.drop k).length = s.size - k := by simp
  rw [hl] at hb
  have H := Lib.hid h
  clear h
  generalize getR (s.data.toList.drop k) = r at *
  obtain ⟨x, m, E⟩ := r
  simp only at hb he ⊢
  unfold getV at hg
  simp only at hg
  obtain ⟨hx, hm, hm10, hE, hpos⟩ := hb
  by_cases h0 : E = 0
  · subst h0
    have hmp := hpos rfl
    clear he hpos
    go_enter Tryz.func81, Tryz.ntmps81
    go_wp2_with (first
      | (go_at_call 19; refine hr.mono ?_; rintro e w' ⟨rfl, d, rfl⟩)
      | (go_at_call 105; refine (hg _).mono ?_; rintro e w' ⟨rfl, rfl⟩)
      | (go_at_call 106; refine (take_ok (H.out.kept (only_drewN (only_refl _ none) _) (by simp)) m hm).mono ?_; rintro e w' ⟨rfl, hc', hg'⟩))
    go_ret2
    exact ⟨rfl, hc', only_trans (only_drewN (only_refl _ _) _) hg'⟩
  · obtain ⟨rfl, rfl⟩ := he h0
    clear hpos he
    go_enter Tryz.func81, Tryz.ntmps81
    go_wp2_with (first
      | (go_at_call 19; refine hr.mono ?_; rintro e w' ⟨rfl, d, rfl⟩)
      | (go_at_call 105; refine (hg _).mono ?_; rintro e w' ⟨rfl, rfl⟩))
    go_ret2
    exact ⟨rfl, H.out.kept (only_drewN (only_refl _ none) _) (by simp), only_drewN (only_refl _ _) _⟩

theorem Tryz.info28 : (Tryz.prog.info? 47).map (fun i => (i.zero, i.size, i.bytes)) = some (some (.int .u64 0), 1, 8) := by kernel_rfl

def u64s (l : List Nat) : List Value := l.map fun (n : Nat) => .int .u64 (n : Int)

/-- What All answers: its slice is the call's own. -/
def AllPost (w : World) (q : List Nat × Nat) (e : Ending) (w' : World) : Prop :=
  ∃ v, e = .returned (.tuple #[v, .int .i64 (q.2 : Int)]) ∧ w.grownBy w' none ∧ w'.ownsRow w.heap.size 47 1 v q.1.length (u64s q.1)

end Go.Proofs.YtbebdaglkjhbjaaGreatDoor.vi

/-
  The document's All; slices.Equal of two rows that hold the same.
-/
namespace Go.Proofs.YtbebdaglkjhbjaaGreatDoor.vi
open Go.RowKit Go.Proofs.YtbebdaglkjhbjaaGreatDoor.cur
set_option linter.unusedVariables false

def strLen : Value → Nat | .string s => s.size | _ => 0

theorem extract_drop (s : ByteArray) (k m : Nat) (hk : k ≤ s.size) (h : m ≤ s.size - k) : (s.extract k s.size).extract m (s.extract k s.size).size = s.extract (k + m) s.size := by
  have e : (s.extract k s.size).size = s.size - k := by simp
  rw [e, extract_extract _ _ _ _ _ (by omega)]
  congr 1
  omega

theorem row_shape {w : World} {base : Nat} {e : TypeId} {size : Nat} {v : Value} {n : Nat} {xs : List Value} (h : w.ownsRow base e size v n xs) : ∃ a cap, v = .slice a n cap := by
  rcases h.2 with ⟨rfl, rfl⟩ | ⟨g, cap, cur, rfl, _⟩
  · exact ⟨none, 0, rfl⟩
  · exact ⟨_, _, rfl⟩

set_option maxHeartbeats 1000000 in
/-- slices.Equal of two rows that hold the same numbers. -/
theorem equal_same {w : World} {b1 b2 : Nat} {v1 v2 : Value} (l : List Nat) (hl : l.length ≤ maxLen) (h1 : w.ownsRow b1 47 1 v1 l.length (u64s l)) (h2 : w.ownsRow b2 47 1 v2 l.length (u64s l)) :
    Calls Tryz.prog 177 #[v1, v2] w fun e w' => e = .returned (.bool true) ∧ w.grownBy w' none := by
  unfold maxLen at hl
  by_cases h0 : l.length = 0
  · obtain ⟨a1, c1, rfl⟩ := row_shape h1
    obtain ⟨a2, c2, rfl⟩ := row_shape h2
    rw [h0]
    clear h1 h2 hl h0
    go_enter Tryz.func177, Tryz.ntmps177
    go_wp2_with fail
    refine wp_loop_rounds 1 ?_
    rw [rounds_succ]
    go_wp2_with fail
    go_ret
    exact ⟨rfl, only_refl _ _⟩
  · obtain ⟨g1, c1, rfl, -, hg1⟩ := h1.form (by omega)
    obtain ⟨g2, c2, rfl, -, hg2⟩ := h2.form (by omega)
    have hc1 : ∀ j (h : j < l.length), w.cell? ⟨g1, j, none⟩ = some (.int .u64 (l[j] : Nat)) := fun j h => by
      rw [h1.cellAt j (by omega)]; simp [u64s, h]
    have hc2 : ∀ j (h : j < l.length), w.cell? ⟨g2, j, none⟩ = some (.int .u64 (l[j] : Nat)) := fun j h => by
      rw [h2.cellAt j (by omega)]; simp [u64s, h]
    have H1 := Lib.hid hc1
    have H2 := Lib.hid hc2
    clear h1 h2 hc1 hc2
    go_enter Tryz.func177, Tryz.ntmps177
    go_wp2_with fail
    go_loopw [13] (fun c wr => ∃ i d : Nat, i ≤ l.length ∧ c = .int .i64 i ∧ wr = w.drewN d) (fun c _ => l.length - (intOf c).toNat)
    case atStart => exact ⟨0, 0, by omega, rfl, rfl⟩
    case round =>
      obtain ⟨i, d, hi, rfl, rfl⟩ := hrel
      by_cases hlt : i < l.length
      · have k1 := H1.out i hlt
        have k2 := H2.out i hlt
        generalize l[i] = x at *
        go_wp2_with fail
        go_quiet (fail)
        go_wp2_with fail
        go_roundw
        case rel => exact ⟨i + 1, _, by omega, by go_num, rfl⟩
        case measure => simp [intOf]; omega
      · go_wp2_with fail
        go_ret
        exact ⟨rfl, only_drewN (only_refl _ _) _⟩

end Go.Proofs.YtbebdaglkjhbjaaGreatDoor.vi

/-
  The statements of layer 2.
-/
namespace Go.Proofs.YtbebdaglkjhbjaaGreatDoor.law02
open Go.RowKit Go.Proofs.YtbebdaglkjhbjaaGreatDoor.cur Go.Proofs.YtbebdaglkjhbjaaGreatDoor.vi
set_option linter.unusedVariables false

theorem Awake01_any (w : World) :
    Calls Tryz.prog 247 #[] w fun e w' => e = .returned (.bool true) ∧ w.grownBy w' none := by
  go_enter Tryz.func247, Tryz.ntmps247
  go_wp2_with (go_at_call 248; refine (law01.awake_any _).mono ?_; rintro e w' ⟨rfl, g⟩)
  go_ret
  exact ⟨rfl, g⟩

def ex1 : ByteArray := ⟨#[172, 130, 0]⟩

theorem ex1_get : getR ex1.data.toList = (0, 0, 2) := by
  have := getR_at (L := [172, 130, 0]) (k := 2) (by decide) (by decide) (by decide) (by decide)
  exact this

theorem enc_300 : enc 300 = [172, 2] := by
  rw [enc_big (by decide), enc_small (by decide)]
  rfl

theorem awake_any (w : World) :
    Calls Tryz.prog 246 #[] w fun e w' => e = .returned (.bool true) ∧ w.grownBy w' none := by
  have h1 := get_any ex1 (by decide) w
  rw [ex1_get] at h1
  have h2 := fun w => put_any 300 (by decide) w
  rw [show encB 300 = ⟨#[172, 2]⟩ from congrArg (fun l : List UInt8 => (⟨l.toArray⟩ : ByteArray)) enc_300] at h2
  unfold getV at h1
  go_enter Tryz.func246, Tryz.ntmps246
  go_wp2_with fail
  refine h1.mono ?_
  rintro e w' ⟨rfl, rfl⟩
  go_wp2_with (first
    | (go_at_call 247; refine (Awake01_any _).mono ?_; rintro e w2 ⟨rfl, g2⟩)
    | (go_at_call 43; refine (h2 _).mono ?_; rintro e w3 ⟨rfl, g3⟩))
  go_ret
  exact ⟨rfl, only_trans g2 g3⟩

theorem row_kept {w w' : World} {base : Nat} {e : TypeId} {size : Nat} {v : Value} {n : Nat} {xs : List Value} (h : w.ownsRow base e size v n xs) (g : w.grownBy w' none) : w'.ownsRow base e size v n xs := by
  refine h.kept g ?_
  cases hb : v.ownBlock with
  | none => exact .inl rfl
  | some k => exact .inr (by simp)

theorem allR_len : ∀ (m : Nat) (L : List UInt8), L.length ≤ m → (allR L).1.length ≤ L.length
  | m, L, hm => by
    by_cases hL : L = []
    · subst hL; rw [allR_nil]; simp
    · have hpos : 0 < L.length := List.length_pos_iff.2 hL
      by_cases h2 : (getR L).2.2 = 0
      · have hb := getR_bounds L
        have hp := hb.2.2.2.2 h2
        rw [allR_ok hL h2]
        unfold glue
        split
        · match m with
          | 0 => omega
          | m + 1 =>
            have := allR_len m (L.drop (getR L).2.1) (by simp; omega)
            simp at this ⊢
            omega
        · simp
      · rw [allR_err hL h2]; simp

end Go.Proofs.YtbebdaglkjhbjaaGreatDoor.law02

/-
  The contracts of package zigzag, and the document's.
-/
namespace Go.Proofs.YtbebdaglkjhbjaaGreatDoor.zz
open Go.RowKit Go.Proofs.YtbebdaglkjhbjaaGreatDoor.cur Go.Proofs.YtbebdaglkjhbjaaGreatDoor.vi
set_option linter.unusedVariables false
set_option linter.unusedSimpArgs false

def zig (n : Int) : Nat := if n < 0 then (-2 * n - 1).toNat else (2 * n).toNat
def zag (z : Nat) : Int := if z % 2 = 1 then -(z / 2 : Nat) - 1 else (z / 2 : Nat)

theorem zig_lt {n : Int} (h1 : -9223372036854775808 ≤ n) (h2 : n ≤ 9223372036854775807) : zig n < 18446744073709551616 := by unfold zig; split <;> omega

theorem i64_not (n : Int) (h1 : -9223372036854775808 ≤ n) (h2 : n ≤ 9223372036854775807) : bits .xor .i64 (-1) n = -1 - n := by
  show IntKind.i64.wrap ((BitVec.ofInt 64 (-1) ^^^ BitVec.ofInt 64 n).toNat : Int) = _
  have h1 : BitVec.ofInt 64 (-1) = BitVec.allOnes 64 := by decide
  rw [h1, BitVec.allOnes_xor, BitVec.toNat_not, BitVec.toNat_ofInt, IntKind.wrap_i64]
  omega

theorem map_any (n : Int) (h1 : -9223372036854775808 ≤ n) (h2 : n ≤ 9223372036854775807) (w : World) :
    Calls Tryz.prog 244 #[.int .i64 n] w fun e w' => e = .returned (.int .u64 (zig n : Nat)) ∧ w = w' := by
  by_cases hc : n < 0
  · have hsg : IntKind.i64.signed = true := rfl
    go_enter Tryz.func244, Tryz.ntmps244
    go_wp2
    go_ret
    refine ⟨ret1 (congrArg (Value.int .u64) ?_), rfl⟩
    unfold zig
    rw [if_pos (by omega)]
    try rw [i64_not _ (by omega) (by omega)]
    try simp only [IntKind.wrap_u64, IntKind.wrap_i64]
    omega
  · have hsg : IntKind.i64.signed = true := rfl
    go_enter Tryz.func244, Tryz.ntmps244
    go_wp2
    go_ret
    refine ⟨ret1 (congrArg (Value.int .u64) ?_), rfl⟩
    unfold zig
    rw [if_neg (by omega)]
    try rw [i64_not _ (by omega) (by omega)]
    try simp only [IntKind.wrap_u64, IntKind.wrap_i64]
    omega

theorem back_any (z : Nat) (hz : z < 18446744073709551616) (w : World) :
    Calls Tryz.prog 245 #[.int .u64 z] w fun e w' => e = .returned (.int .i64 (zag z)) ∧ w = w' := by
  by_cases hc : z % 2 = 1
  · have hsg : IntKind.i64.signed = true := rfl
    go_enter Tryz.func245, Tryz.ntmps245
    go_wp2
    go_ret
    refine ⟨ret1 (congrArg (Value.int .i64) ?_), rfl⟩
    unfold zag
    rw [if_pos (by omega)]
    try rw [i64_not _ (by omega) (by omega)]
    try simp only [IntKind.wrap_u64, IntKind.wrap_i64]
    omega
  · have hsg : IntKind.i64.signed = true := rfl
    go_enter Tryz.func245, Tryz.ntmps245
    go_wp2
    go_ret
    refine ⟨ret1 (congrArg (Value.int .i64) ?_), rfl⟩
    unfold zag
    rw [if_neg (by omega)]
    try rw [i64_not _ (by omega) (by omega)]
    try simp only [IntKind.wrap_u64, IntKind.wrap_i64]
    omega

/-- The number that bytes begin with, or why there is none. -/
def zgetR (L : List UInt8) : Int × Nat × Nat := if (getR L).2.2 = 0 then (zag (getR L).1, (getR L).2.1, 0) else (0, 0, (getR L).2.2)
def zgetV (r : Int × Nat × Nat) : Value := .tuple #[.int .i64 r.1, .int .i64 r.2.1, .int .i64 r.2.2]

theorem zgetR_bounds (L : List UInt8) : -9223372036854775808 ≤ (zgetR L).1 ∧ (zgetR L).1 ≤ 9223372036854775807 ∧ (zgetR L).2.1 ≤ 10 ∧ (zgetR L).2.2 < 4 := by
  have hb := getR_bounds L
  unfold zgetR
  split
  · have : -9223372036854775808 ≤ zag (getR L).1 ∧ zag (getR L).1 ≤ 9223372036854775807 := by unfold zag; split <;> omega
    exact ⟨this.1, this.2, hb.2.2.1, by simp⟩
  · exact ⟨by simp only; omega, by simp only; omega, by simp only; omega, hb.2.2.2.1⟩

end Go.Proofs.YtbebdaglkjhbjaaGreatDoor.zz

/-
  The statement of layer 3.
-/
namespace Go.Proofs.YtbebdaglkjhbjaaGreatDoor.law03
open Go.RowKit Go.Proofs.YtbebdaglkjhbjaaGreatDoor.cur Go.Proofs.YtbebdaglkjhbjaaGreatDoor.vi
set_option linter.unusedVariables false

theorem Awake02_any (w : World) :
    Calls Tryz.prog 243 #[] w fun e w' => e = .returned (.bool true) ∧ w.grownBy w' none := by
  go_enter Tryz.func243, Tryz.ntmps243
  go_wp2_with (go_at_call 246; refine (law02.awake_any _).mono ?_; rintro e w' ⟨rfl, g⟩)
  go_ret
  exact ⟨rfl, g⟩

theorem awake_any (w : World) :
    Calls Tryz.prog 241 #[] w fun e w' => e = .returned (.bool true) ∧ w.grownBy w' none := by
  have h1 := fun w => zz.map_any (-3) (by decide) (by decide) w
  have h2 := fun w => zz.back_any 5 (by decide) w
  rw [show zz.zig (-3) = 5 from rfl] at h1
  rw [show zz.zag 5 = -3 from rfl] at h2
  go_enter Tryz.func241, Tryz.ntmps241
  go_wp2_with (first
    | (go_at_call 243; refine (Awake02_any _).mono ?_; rintro e w2 ⟨rfl, g2⟩)
    | (go_at_call 244; refine (h1 _).mono ?_; rintro e w3 ⟨rfl, rfl⟩)
    | (go_at_call 245; refine (h2 _).mono ?_; rintro e w3 ⟨rfl, rfl⟩))
  go_ret
  exact ⟨rfl, g2⟩

end Go.Proofs.YtbebdaglkjhbjaaGreatDoor.law03

/-
  Worlds that turned at some blocks alone; a strings.Builder that is written on behind String, with the blocks that are its own.
-/
namespace Go.Proofs.YtbebdaglkjhbjaaGreatDoor
open Go.RowKit
set_option linter.unusedVariables false
set_option linter.unusedSimpArgs false

/-- But for the blocks of S, and new ones, the world is as it was. -/
structure Chg (S : Nat → Prop) (w w' : World) : Prop where
  os : w'.os = w.os
  tape : w'.tape = w.tape
  output : w'.output = w.output
  size : w.heap.size ≤ w'.heap.size
  block : ∀ k, k < w.heap.size → ¬ S k → w'.heap[k]? = w.heap[k]?

section
variable {S T : Nat → Prop} {a b c w w' : World}

theorem Chg.refl (S : Nat → Prop) (w : World) : Chg S w w := ⟨rfl, rfl, rfl, Nat.le_refl _, fun _ _ _ => rfl⟩
theorem Chg.drew (h : Chg S a w) : Chg S a w.drew := ⟨h.os, h.tape, h.output, h.size, h.block⟩
theorem Chg.drewN (h : Chg S a w) (n : Nat) : Chg S a (w.drewN n) := ⟨h.os, h.tape, h.output, h.size, h.block⟩
theorem Chg.alloc (h : Chg S a w) (o : Obj) : Chg S a (w.alloc o) :=
  ⟨h.os, h.tape, h.output, Nat.le_trans h.size (by simp), fun i hi hne => (Below.heap_alloc w o i (Nat.lt_of_lt_of_le hi h.size)).trans (h.block i hi hne)⟩
theorem Chg.setCell (h : Chg S a w) {p : Addr} (hp : S p.block ∨ a.heap.size ≤ p.block) (u : Value) : Chg S a (w.setCell p u) :=
  ⟨h.os, h.tape, h.output, by simpa [World.setCell] using h.size, fun i hi hne => (Below.heap_setCell w p u i (by
    rintro rfl
    rcases hp with hp | hp
    · exact hne hp
    · omega)).trans (h.block i hi hne)⟩
theorem Chg.freeze (h : Chg S a w) {p : Addr} (hp : S p.block ∨ a.heap.size ≤ p.block) (n : Nat) : Chg S a (w.freeze p n) := by
  unfold World.freeze
  split
  · exact h
  · refine ⟨h.os, h.tape, h.output, by simpa using h.size, fun i hi hne => ?_⟩
    rw [← h.block i hi hne]
    simp only [Array.getElem?_modify]
    rw [if_neg]
    rintro rfl
    rcases hp with hp | hp
    · exact hne hp
    · omega
theorem Chg.trans (h : Chg S a b) (k : Chg T b c) (hT : ∀ i, T i → S i ∨ a.heap.size ≤ i) : Chg S a c :=
  ⟨k.os.trans h.os, k.tape.trans h.tape, k.output.trans h.output, Nat.le_trans h.size k.size, fun i hi hne => (k.block i (Nat.lt_of_lt_of_le hi h.size) (fun hS => by
    rcases hT i hS with h' | h'
    · exact hne h'
    · omega)).trans (h.block i hi hne)⟩
theorem Chg.trans' (h : Chg S a b) (k : Chg S b c) : Chg S a c := h.trans k fun _ hi => .inl hi
theorem Chg.of_grown {row : Option Nat} (h : w.grownBy w' row) (hr : ∀ k, row = some k → S k ∨ w.heap.size ≤ k) : Chg S w w' :=
  ⟨h.os, h.tape, h.output, h.size, fun k hk hne => by
    by_cases e : some k = row
    · rcases hr k e.symm with h' | h'
      · exact absurd h' hne
      · omega
    · exact h.block k hk e⟩
theorem Chg.of_none (h : w.grownBy w' none) : Chg S w w' := Chg.of_grown h (fun k e => by cases e)
theorem Chg.of_none' (h : Chg S a w) (g : w.grownBy w' none) : Chg S a w' := h.trans (T := fun _ => False) (Chg.of_none g) (fun _ e => e.elim)
theorem Chg.mono (h : Chg S w w') (hT : ∀ k, S k → T k ∨ w.heap.size ≤ k) : Chg T w w' := (Chg.refl T w).trans h hT
theorem Chg.to_none (h : Chg S a b) (k : Chg T b c) (hS : ∀ k, S k → a.heap.size ≤ k) (hT : ∀ k, T k → a.heap.size ≤ k) : a.grownBy c none :=
  ⟨k.os.trans h.os, k.tape.trans h.tape, k.output.trans h.output, Nat.le_trans h.size k.size, fun i hi _ => (k.block i (Nat.lt_of_lt_of_le hi h.size) (fun hi' => by have := hT i hi'; omega)).trans (h.block i hi (fun hi' => by have := hS i hi'; omega))⟩
theorem Chg.none_new (h : a.grownBy b none) (k : Chg T b c) (hT : ∀ k, T k → a.heap.size ≤ k) : a.grownBy c none :=
  Chg.to_none (S := fun _ => False) (Chg.of_none h) k (fun _ e => e.elim) hT
theorem Chg.cell (h : Chg S w w') {p : Addr} {v : Value} (hv : w.cell? p = some v) (hp : ¬ S p.block) : w'.cell? p = some v := by
  rw [World.cell?_of_block (h.block p.block (World.block_lt_of_cell? w p hv) hp), hv]
theorem Chg.ownsRow (h : Chg S w w') {base : Nat} {e : TypeId} {size n : Nat} {v : Value} {xs : List Value} (ho : w.ownsRow base e size v n xs) (hv : ∀ k, v.ownBlock = some k → ¬ S k) : w'.ownsRow base e size v n xs := by
  refine ⟨ho.1, ?_⟩
  rcases ho.2 with hn | ⟨g, cap, cur, rfl, hb, hg, rest⟩
  · exact .inl hn
  · exact .inr ⟨g, cap, cur, rfl, hb, by rw [h.block g (Array.getElem?_eq_some_iff.1 hg).1 (hv g rfl)]; exact hg, rest⟩
theorem Chg.ownsRowF (h : Chg S w w') {base : Nat} {e : TypeId} {size n : Nat} {v : Value} {xs : List Value} (ho : w.ownsRowF base e size v n xs) (hv : ∀ k, v.ownBlock = some k → ¬ S k) : w'.ownsRowF base e size v n xs := by
  refine ⟨ho.1, ?_⟩
  rcases ho.2 with hn | ⟨g, cap, cur, fz, rfl, hb, hg, rest⟩
  · exact .inl hn
  · exact .inr ⟨g, cap, cur, fz, rfl, hb, by rw [h.block g (Array.getElem?_eq_some_iff.1 hg).1 (hv g rfl)]; exact hg, rest⟩
end

theorem Chg.set_one (w : World) (b j : Nat) (u : Value) : Chg (fun k => k = b) w (w.setCell ⟨b, j, none⟩ u) := Chg.setCell (S := fun k => k = b) (Chg.refl _ w) (p := ⟨b, j, none⟩) (.inl rfl) u

theorem Gd.new {a b c : World} {T : Nat → Prop} (h : Gd a b) (k : Chg T b c) (hd : b.drawn ≤ c.drawn) (hT : ∀ k, T k → a.heap.size ≤ k) : Gd a c := ⟨Chg.none_new h.ok k hT, Nat.le_trans h.dr hd⟩
theorem drawn_freeze (w : World) (a : Addr) (n : Nat) : (w.freeze a n).drawn = w.drawn := by unfold World.freeze; split <;> rfl

end Go.Proofs.YtbebdaglkjhbjaaGreatDoor
