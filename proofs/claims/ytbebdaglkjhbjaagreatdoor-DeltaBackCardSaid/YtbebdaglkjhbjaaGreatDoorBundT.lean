/-
  Tree, TreeAp, TreeOf, TreeRef, TreeSame, TreeCheck, TreeMore, TreeMake, TreeFew, TreeOpen
-/
import Derived.Test.YtbebdaglkjhbjaaGreatDoorBundA
import Derived.Maps.AppendAt
import Derived.Deep.RegionHeld3

/-
  Trees of fields: the mathematics, and how they lie in memory.
-/
namespace Go.Proofs.YtbebdaglkjhbjaaGreatDoor.tr
open Go.RowKit
set_option linter.unusedVariables false
set_option linter.unusedSimpArgs false

/-- A field: tag, type, number, bytes, fields. -/
inductive Tree where
  | mk (tag : Nat) (typ : Int) (num : Nat) (text : ByteArray) (list : List Tree)

def Tree.tag : Tree → Nat | .mk a _ _ _ _ => a
def Tree.typ : Tree → Int | .mk _ a _ _ _ => a
def Tree.num : Tree → Nat | .mk _ _ a _ _ => a
def Tree.text : Tree → ByteArray | .mk _ _ _ a _ => a
def Tree.list : Tree → List Tree | .mk _ _ _ _ a => a

mutual
def Tree.size : Tree → Nat | .mk _ _ _ _ l => sizeL l + 1
def sizeL : List Tree → Nat | [] => 0 | t :: r => t.size + sizeL r
end

theorem size_eq (t : Tree) : t.size = sizeL t.list + 1 := by cases t; simp [Tree.size, Tree.list]
theorem sizeL_cons (t : Tree) (r : List Tree) : sizeL (t :: r) = sizeL t.list + 1 + sizeL r := by rw [sizeL, size_eq]
theorem sizeL_append (a b : List Tree) : sizeL (a ++ b) = sizeL a + sizeL b := by
  induction a with
  | nil => simp [sizeL]
  | cons t r ih => rw [List.cons_append, sizeL, sizeL, ih]; omega
theorem size_mem {ts : List Tree} {i : Nat} {t : Tree} (h : ts[i]? = some t) : sizeL t.list < sizeL ts := by
  induction ts generalizing i with
  | nil => simp at h
  | cons x r ih =>
    rw [sizeL_cons]
    cases i with
    | zero => simp at h; subst h; omega
    | succ j => have := ih (i := j) (by simpa using h); omega
theorem len_size (ts : List Tree) : ts.length ≤ sizeL ts := by
  induction ts with
  | nil => simp
  | cons t r ih => rw [sizeL_cons, List.length_cons]; omega

/-- The five cells of a field at offset o of a block; v is its list. -/
structure Cells (w : World) (b o : Nat) (t : Tree) (v : Value) : Prop where
  c0 : w.cell? ⟨b, o, none⟩ = some (.int .u64 (t.tag : Nat))
  c1 : w.cell? ⟨b, o + 1, none⟩ = some (.int .i64 t.typ)
  c2 : w.cell? ⟨b, o + 2, none⟩ = some (.int .u64 (t.num : Nat))
  c3 : w.cell? ⟨b, o + 3, none⟩ = some (.string t.text)
  c4 : w.cell? ⟨b, o + 4, none⟩ = some v

/-- A slice that holds fields; all blocks that they reach are of S. -/
inductive Rd (w : World) (S : Nat → Prop) : Value → List Tree → Prop
  | nil (a : Option Addr) (cap : Nat) : Rd w S (.slice a 0 cap) []
  | row (b off len cap : Nat) (ts : List Tree) (lv : Nat → Value) (h : ts.length = len) (h0 : 0 < len) (h1 : len ≤ cap) (h2 : cap ≤ maxLen) (hb : S b)
      (hc : ∀ i t, ts[i]? = some t → Cells w b (off + i * 5) t (lv i)) (hr : ∀ i t, ts[i]? = some t → Rd w S (lv i) t.list) : Rd w S (.slice (some ⟨b, off, none⟩) len cap) ts

section
variable {w w' : World} {S T : Nat → Prop} {v : Value} {ts : List Tree}

theorem Cells.kept {b o : Nat} {t : Tree} (h : Cells w b o t v) (g : Chg T w w') (hb : ¬ T b) : Cells w' b o t v :=
  ⟨g.cell h.c0 hb, g.cell h.c1 hb, g.cell h.c2 hb, g.cell h.c3 hb, g.cell h.c4 hb⟩
theorem Cells.lt {b o : Nat} {t : Tree} (h : Cells w b o t v) : b < w.heap.size := World.block_lt_of_cell? w ⟨b, o, none⟩ h.c0

theorem Rd.kept (h : Rd w S v ts) (g : Chg T w w') (hd : ∀ k, S k → ¬ T k) : Rd w' S v ts := by
  induction h with
  | nil a cap => exact .nil a cap
  | row b off len cap ts lv h h0 h1 h2 hb hc hr ih => exact .row b off len cap ts lv h h0 h1 h2 hb (fun i t e => (hc i t e).kept g (hd b hb)) (fun i t e => ih i t e)
theorem Rd.grown (h : Rd w S v ts) (g : w.grownBy w' none) : Rd w' S v ts := h.kept (T := fun _ => False) (Chg.of_none g) (fun _ _ e => e)
theorem Rd.mono (h : Rd w S v ts) (hS : ∀ k, k < w.heap.size → S k → T k) : Rd w T v ts := by
  induction h with
  | nil a cap => exact .nil a cap
  | row b off len cap ts lv h h0 h1 h2 hb hc hr ih =>
    obtain ⟨t, ht⟩ : ∃ t, ts[0]? = some t := ⟨ts[0], List.getElem?_eq_getElem (by omega)⟩
    exact .row b off len cap ts lv h h0 h1 h2 (hS b (hc 0 t ht).lt hb) hc ih
theorem Rd.tight (h : Rd w S v ts) : Rd w (fun k => S k ∧ k < w.heap.size) v ts := h.mono fun k hk hs => ⟨hs, hk⟩
theorem Rd.shape (h : Rd w S v ts) : ∃ a cap, v = .slice a ts.length cap := by
  cases h with
  | nil a cap => exact ⟨a, cap, rfl⟩
  | row b off len cap ts lv h h0 h1 h2 hb hc hr => exact ⟨_, _, by rw [h]⟩
theorem Rd.len (h : Rd w S v ts) : ts.length ≤ maxLen := by
  cases h with
  | nil a cap => simp
  | row b off len cap ts lv h h0 h1 h2 hb hc hr => omega
/-- The i-th field. -/
theorem Rd.at (h : Rd w S v ts) {i : Nat} {t : Tree} (ht : ts[i]? = some t) :
    ∃ b off cap lv, v = .slice (some ⟨b, off, none⟩) ts.length cap ∧ ts.length ≤ cap ∧ cap ≤ maxLen ∧ S b ∧ b < w.heap.size ∧ Cells w b (off + i * 5) t lv ∧ Rd w S lv t.list := by
  cases h with
  | nil a cap => simp at ht
  | row b off len cap ts lv h h0 h1 h2 hb hc hr => exact ⟨b, off, cap, lv i, by rw [h], by omega, h2, hb, (hc i t ht).lt, hc i t ht, hr i t ht⟩
end

/-- The cells of a row of fields. -/
def flat (ts : List Tree) (lv : Nat → Value) : List Value :=
  match ts with
  | [] => []
  | t :: r => [.int .u64 (t.tag : Nat), .int .i64 t.typ, .int .u64 (t.num : Nat), .string t.text, lv 0] ++ flat r (fun i => lv (i + 1))

theorem flat_len (ts : List Tree) (lv : Nat → Value) : (flat ts lv).length = ts.length * 5 := by
  induction ts generalizing lv with
  | nil => rfl
  | cons t r ih => simp only [flat, List.length_append, List.length_cons, List.length_nil, ih]; omega
theorem flat_snoc (ts : List Tree) (lv : Nat → Value) (t : Tree) : flat (ts ++ [t]) lv = flat ts lv ++ [.int .u64 (t.tag : Nat), .int .i64 t.typ, .int .u64 (t.num : Nat), .string t.text, lv ts.length] := by
  induction ts generalizing lv with
  | nil => simp [flat]
  | cons x r ih => simp only [List.cons_append, flat, ih, List.append_assoc, List.length_cons]
theorem flat_get (ts : List Tree) (lv : Nat → Value) (i : Nat) (t : Tree) (h : ts[i]? = some t) :
    (flat ts lv)[i * 5]? = some (.int .u64 (t.tag : Nat)) ∧ (flat ts lv)[i * 5 + 1]? = some (.int .i64 t.typ) ∧ (flat ts lv)[i * 5 + 2]? = some (.int .u64 (t.num : Nat)) ∧ (flat ts lv)[i * 5 + 3]? = some (.string t.text) ∧ (flat ts lv)[i * 5 + 4]? = some (lv i) := by
  induction ts generalizing lv i with
  | nil => simp at h
  | cons x r ih =>
    cases i with
    | zero => simp at h; subst h; simp [flat]
    | succ j =>
      have := ih (fun i => lv (i + 1)) j (by simpa using h)
      have e : ∀ k, (flat (x :: r) lv)[(j + 1) * 5 + k]? = (flat r (fun i => lv (i + 1)))[j * 5 + k]? := fun k => by
        simp only [flat]
        rw [List.getElem?_append_right (by simp; omega)]
        congr 1
        simp; omega
      exact ⟨by rw [show (j + 1) * 5 = (j + 1) * 5 + 0 by omega, e 0]; exact this.1, by rw [e 1]; exact this.2.1, by rw [e 2]; exact this.2.2.1, by rw [e 3]; exact this.2.2.2.1, by rw [e 4]; exact this.2.2.2.2⟩

/-- A row of fields that is the call's own (its elements are of type ty); the lists of its fields lie in blocks of S, and it isn't one of them. -/
def OwnF (ty : TypeId) (base : Nat) (S : Nat → Prop) (w : World) (v : Value) (ts : List Tree) : Prop :=
  ∃ lv : Nat → Value, w.ownsRow base ty 5 v ts.length (flat ts lv) ∧ (∀ i t, ts[i]? = some t → Rd w S (lv i) t.list) ∧ (∀ k, S k → k < w.heap.size) ∧ (∀ k, v.ownBlock = some k → ¬ S k)

section
variable {w w' : World} {S T : Nat → Prop} {v : Value} {ts : List Tree} {ty : TypeId} {base : Nat}

theorem OwnF.nil (ty : TypeId) (base : Nat) (w : World) : OwnF ty base (fun _ => False) w (.slice none 0 0) [] :=
  ⟨fun _ => .nilIface, World.ownsRow_nil _ _ _ _, by simp, fun _ e => e.elim, fun _ _ e => e⟩
theorem OwnF.kept (h : OwnF ty base S w v ts) (g : Chg T w w') (hd : ∀ k, S k → ¬ T k) (hv : ∀ k, v.ownBlock = some k → ¬ T k) : OwnF ty base S w' v ts := by
  obtain ⟨lv, h1, h2, h3, h4⟩ := h
  exact ⟨lv, g.ownsRow h1 hv, fun i t e => (h2 i t e).kept g hd, fun k e => Nat.lt_of_lt_of_le (h3 k e) g.size, h4⟩
theorem OwnF.grown (h : OwnF ty base S w v ts) (g : w.grownBy w' none) : OwnF ty base S w' v ts :=
  h.kept (T := fun _ => False) (Chg.of_none g) (fun _ _ e => e) (fun _ _ e => e)
theorem OwnF.more (h : OwnF ty base S w v ts) (hS : ∀ k, S k → T k) (hT : ∀ k, T k → k < w.heap.size) (hv : ∀ k, v.ownBlock = some k → ¬ T k) : OwnF ty base T w v ts := by
  obtain ⟨lv, h1, h2, h3, h4⟩ := h
  exact ⟨lv, h1, fun i t e => (h2 i t e).mono fun k _ hk => hS k hk, hT, hv⟩
theorem OwnF.lt (h : OwnF ty base S w v ts) : ∀ k, v.ownBlock = some k → base ≤ k ∧ k < w.heap.size := by
  obtain ⟨lv, h1, -⟩ := h
  exact World.ownsRow.lt h1
theorem OwnF.all_lt (h : OwnF ty base S w v ts) : ∀ k, (S k ∨ v.ownBlock = some k) → k < w.heap.size := fun k hk => by
  rcases hk with hk | hk
  · obtain ⟨lv, -, -, h3, -⟩ := h
    exact h3 k hk
  · exact (h.lt k hk).2
theorem OwnF.rd (h : OwnF ty base S w v ts) : Rd w (fun k => S k ∨ v.ownBlock = some k) v ts := by
  obtain ⟨lv, h1, h2, h3, h4⟩ := h
  rcases h1.2 with ⟨rfl, h0⟩ | ⟨g, cap, cur, rfl, hb, hg, hnc, hcm, hcs, htake⟩
  · obtain rfl : ts = [] := List.length_eq_zero_iff.1 h0
    exact .nil _ _
  · by_cases h0 : ts.length = 0
    · obtain rfl : ts = [] := List.length_eq_zero_iff.1 h0
      exact .nil _ _
    · refine .row g 0 ts.length cap ts lv rfl (by omega) hnc hcm (.inr rfl) (fun i t ht => ?_) (fun i t ht => (h2 i t ht).mono fun k _ hk => .inl hk)
      obtain ⟨f0, f1, f2, f3, f4⟩ := flat_get ts lv i t ht
      have hc := fun j u (hj : (flat ts lv)[j]? = some u) => World.ownsRow.cells h1 (g := g) rfl j u hj
      have ha : ∀ j, (⟨g, 0, none⟩ : Addr).add j = ⟨g, j, none⟩ := fun j => by rw [show (⟨g, 0, none⟩ : Addr).add j = ⟨g, 0 + j, none⟩ from Addr.add_lit .., Nat.zero_add]
      simp only [ha] at hc
      exact ⟨by rw [Nat.zero_add]; exact hc _ _ f0, by rw [Nat.zero_add]; exact hc _ _ f1, by rw [Nat.zero_add]; exact hc _ _ f2, by rw [Nat.zero_add]; exact hc _ _ f3, by rw [Nat.zero_add]; exact hc _ _ f4⟩
end

end Go.Proofs.YtbebdaglkjhbjaaGreatDoor.tr

/-
  append of one field to a row of the call's own.
-/
namespace Go.Proofs.YtbebdaglkjhbjaaGreatDoor.tr
open Go.RowKit
set_option linter.unusedVariables false
set_option linter.unusedSimpArgs false

theorem flat_congr (ts : List Tree) (lv lv' : Nat → Value) (h : ∀ i, i < ts.length → lv i = lv' i) : flat ts lv = flat ts lv' := by
  induction ts generalizing lv lv' with
  | nil => rfl
  | cons t r ih =>
    simp only [flat]
    rw [h 0 (by simp), ih (fun i => lv (i + 1)) (fun i => lv' (i + 1)) (fun i hi => h (i + 1) (by simp; omega))]

theorem cell_new (w : World) (cs : Array Value) (ty : TypeId) (j : Nat) : (w.alloc (.cells cs ty)).cell? ⟨w.heap.size, j, none⟩ = cs[j]? := by
  have hb := heap_alloc_new w (.cells cs ty)
  simp only [World.cell?, hb]
  rfl

/-- The five cells of a variable that holds a field. -/
def Var (w : World) (b : Nat) (t : Tree) (v : Value) : Prop :=
  w.cell? ⟨b, 0, none⟩ = some (.int .u64 (t.tag : Nat)) ∧ w.cell? ⟨b, 1, none⟩ = some (.int .i64 t.typ) ∧ w.cell? ⟨b, 2, none⟩ = some (.int .u64 (t.num : Nat)) ∧ w.cell? ⟨b, 3, none⟩ = some (.string t.text) ∧ w.cell? ⟨b, 4, none⟩ = some v
theorem var_new (w : World) (ty : TypeId) (t : Tree) (v : Value) : Var (w.alloc (.cells #[.int .u64 (t.tag : Nat), .int .i64 t.typ, .int .u64 (t.num : Nat), .string t.text, v] ty)) w.heap.size t v :=
  ⟨by rw [cell_new]; rfl, by rw [cell_new]; rfl, by rw [cell_new]; rfl, by rw [cell_new]; rfl, by rw [cell_new]; rfl⟩
theorem Var.kept {T : Nat → Prop} {w w' : World} {b : Nat} {t : Tree} {v : Value} (h : Var w b t v) (g : Chg T w w') (hb : ¬ T b) : Var w' b t v :=
  ⟨g.cell h.1 hb, g.cell h.2.1 hb, g.cell h.2.2.1 hb, g.cell h.2.2.2.1 hb, g.cell h.2.2.2.2 hb⟩
theorem Var.grown {w w' : World} {b : Nat} {t : Tree} {v : Value} (h : Var w b t v) (g : w.grownBy w' none) : Var w' b t v :=
  h.kept (T := fun _ => False) (Chg.of_none g) (fun e => e)

/-- A field's cells, its list being v. -/
def fld (t : Tree) (v : Value) : List Value := [.int .u64 (t.tag : Nat), .int .i64 t.typ, .int .u64 (t.num : Nat), .string t.text, v]

theorem Rd.one {w : World} {S : Nat → Prop} {v : Value} {ts : List Tree} (h : Rd w S v ts) : v.oneCell' = true := by
  obtain ⟨a, cap, rfl⟩ := h.shape
  rfl

theorem append_own {w0 w' : World} {o : Obj} {ty : TypeId} {base : Nat} {S S1 : Nat → Prop} {v v' : Value} {ts : List Tree} {t : Tree} {lv1 : Value} {lv : Nat → Value} (h2 : ∀ i t, ts[i]? = some t → Rd w0 S (lv i) t.list) (h3 : ∀ k, S k → k < w0.heap.size) (h4 : ∀ k, v.ownBlock = some k → ¬ S k) (hr : Rd w0 S1 lv1 t.list) (hS1 : ∀ k, S1 k → k < w0.heap.size) (hv1 : ∀ k, v.ownBlock = some k → ¬ S1 k)
    (h5 : w'.ownsRow base ty 5 v' (ts.length + 1) (flat ts lv ++ fld t lv1)) (g : (w0.alloc o).grownBy w' v.ownBlock) (hat : v'.ownBlock = v.ownBlock ∨ v'.ownBlock = some (w0.alloc o).heap.size) :
    OwnF ty base (fun k => S k ∨ S1 k) w' v' (ts ++ [t]) ∧ w0.grownBy w' v.ownBlock := by
  have hg0 := only_trans (only_alloc (only_refl w0 v.ownBlock) o) g
  have hc : Chg (fun k => v.ownBlock = some k) w0 w' := Chg.of_grown hg0 (fun k e => .inl e)
  refine ⟨⟨fun i => if i < ts.length then lv i else lv1, ?_, ?_, ?_, ?_⟩, hg0⟩
  · rw [flat_snoc, List.length_append, List.length_singleton, if_neg (Nat.lt_irrefl _), flat_congr ts (fun i => if i < ts.length then lv i else lv1) lv (fun i hi => if_pos hi)]
    exact h5
  · intro i x hx
    by_cases hi : i < ts.length
    · rw [List.getElem?_append_left hi] at hx
      show Rd w' _ (if i < ts.length then lv i else lv1) _
      rw [if_pos hi]
      exact ((h2 i x hx).kept hc (fun k hk e => h4 k e hk)).mono fun k _ hk => .inl hk
    · show Rd w' _ (if i < ts.length then lv i else lv1) _
      rw [if_neg hi]
      rw [List.getElem?_append_right (by omega)] at hx
      have : i - ts.length = 0 := by
        have := (List.getElem?_eq_some_iff.1 hx).1
        simp at this; omega
      rw [this] at hx
      simp at hx
      subst hx
      exact (hr.kept hc (fun k hk e => hv1 k e hk)).mono fun k _ hk => .inr hk
  · intro k hk
    have := hg0.size
    rcases hk with hk | hk
    · have := h3 k hk; omega
    · have := hS1 k hk; omega
  · intro k e hk
    rcases hat with hat | hat
    · rw [hat] at e
      rcases hk with hk | hk
      · exact h4 k e hk
      · exact hv1 k e hk
    · rw [hat] at e
      simp at e
      rcases hk with hk | hk
      · have := h3 k hk; omega
      · have := hS1 k hk; omega

section
variable {P : Program}

theorem run_append_f (w0 : World) (sl ty tr : TypeId) (z : Value) (ht : P.underlying sl = some (.slice ty)) (hinfo : (P.info? ty).map (fun i => (i.zero, i.size, i.bytes)) = some (some z, 5, 64)) (hz5 : z.cells.size = 5)
    (base : Nat) (S S1 : Nat → Prop) (v : Value) (ts : List Tree) (hown : OwnF ty base S w0 v ts) (t : Tree) (lv1 : Value) (hr : Rd w0 S1 lv1 t.list) (hS1 : ∀ k, S1 k → k < w0.heap.size) (hv1 : ∀ k, v.ownBlock = some k → ¬ S1 k)
    (hlen : ts.length ≤ 1000000) (hbase : base ≤ w0.heap.size) :
    ∃ v' w', (Builtin.append_ #[sl, sl] tr #[v, .slice (some ⟨w0.heap.size, 0, none⟩) 1 1]).run P (w0.alloc (.cells #[.int .u64 (t.tag : Nat), .int .i64 t.typ, .int .u64 (t.num : Nat), .string t.text, lv1] ty)) = .ok v' w' ∧
      OwnF ty base (fun k => S k ∨ S1 k) w' v' (ts ++ [t]) ∧ w0.grownBy w' v.ownBlock ∧ (v'.ownBlock = v.ownBlock ∨ v'.ownBlock = some (w0.heap.size + 1)) := by
  obtain ⟨i, hi, hz, hsize, hby⟩ := info_parts hinfo
  obtain ⟨lv, h1, h2, h3, h4⟩ := hown
  obtain ⟨v', w', hrun, ho', g, _, hat⟩ := run_append_own_at (P := P) (w0.alloc (.cells #[.int .u64 (t.tag : Nat), .int .i64 t.typ, .int .u64 (t.num : Nat), .string t.text, lv1] ty)) base sl tr ty i z 5 64 ht hi hz hsize hby hz5 (by omega) v ts.length (flat ts lv) (World.ownsRow.alloc h1 _) ⟨w0.heap.size, 0, none⟩ 1 1 (fld t lv1) rfl
    (fun j u hj => by
      rw [show (⟨w0.heap.size, 0, none⟩ : Addr).add j = ⟨w0.heap.size, 0 + j, none⟩ from Addr.add_lit .., Nat.zero_add]
      have hb := heap_alloc_new w0 (.cells #[.int .u64 (t.tag : Nat), .int .i64 t.typ, .int .u64 (t.num : Nat), .string t.text, lv1] ty)
      simp only [World.cell?, hb]
      match j, hj with
      | 0, hj => simpa [fld] using hj
      | 1, hj => simpa [fld] using hj
      | 2, hj => simpa [fld] using hj
      | 3, hj => simpa [fld] using hj
      | 4, hj => simpa [fld] using hj
      | n + 5, hj => simp [fld] at hj)
    (fun u hu => by
      simp [fld] at hu
      rcases hu with rfl | rfl | rfl | rfl | rfl
      · rfl
      · rfl
      · rfl
      · rfl
      · exact hr.one) (by unfold maxLen; omega) (by omega) (by simp; omega)
  obtain ⟨k1, k2⟩ := append_own (v' := v') h2 h3 h4 hr hS1 hv1 ho' g hat
  exact ⟨v', w', hrun, k1, k2, by simpa using hat⟩

/-- 'append(out, f)' of one field, f in a block of its own: in a list of operations, and at a step of a region that draws its order. -/
theorem wp_append_f {o : Oper} {a : Act} {K : Act → World → Prop} {Q : Exit → Act → World → Prop} (s x : Operand) (sl ty : TypeId)
    (ho : o.op = .call { callee := .builtin .append, args := #[s, x], argTypes := #[sl, sl] }) (w0 : World) (z : Value) (ht : P.underlying sl = some (.slice ty)) (hinfo : (P.info? ty).map (fun i => (i.zero, i.size, i.bytes)) = some (some z, 5, 64)) (hz5 : z.cells.size = 5)
    (base : Nat) (S S1 : Nat → Prop) (v : Value) (ts : List Tree) (hs : a.eval s = v) (hown : OwnF ty base S w0 v ts) (t : Tree) (lv1 : Value) (hr : Rd w0 S1 lv1 t.list) (hS1 : ∀ k, S1 k → k < w0.heap.size) (hv1 : ∀ k, v.ownBlock = some k → ¬ S1 k)
    (H : Nat) (hH : w0.heap.size = H) (hx : a.eval x = .slice (some ⟨H, 0, none⟩) 1 1) (hlen : ts.length ≤ 1000000) (hbase : base ≤ w0.heap.size)
    (h : ∀ v' w', OwnF ty base (fun k => S k ∨ S1 k) w' v' (ts ++ [t]) → w0.grownBy w' v.ownBlock → K (a.put o.dst v') w') :
    Oper.wp P o a (w0.alloc (.cells #[.int .u64 (t.tag : Nat), .int .i64 t.typ, .int .u64 (t.num : Nat), .string t.text, lv1] ty)) K Q := by
  subst hH
  obtain ⟨v', w', hr', h2, h3, -⟩ := run_append_f (P := P) w0 sl ty o.type z ht hinfo hz5 base S S1 v ts hown t lv1 hr hS1 hv1 hlen hbase
  unfold Oper.wp execOp
  simp only [ho, resolve, invoke, builtin, Sem.run_bind, Sem.run_pure, Result.andThen_ok, List.map_toArray, List.map_cons, List.map_nil, hs, hx, hr']
  exact h v' w' h2 h3

theorem wpList_append_f {ops : Array Oper} {rest : List Oper} {o : Oper} {a : Act} {Q : Exit → Act → World → Prop} (hgd : o.guard = none) (s x : Operand) (sl ty : TypeId)
    (ho : o.op = .call { callee := .builtin .append, args := #[s, x], argTypes := #[sl, sl] }) (w0 : World) (z : Value) (ht : P.underlying sl = some (.slice ty)) (hinfo : (P.info? ty).map (fun i => (i.zero, i.size, i.bytes)) = some (some z, 5, 64)) (hz5 : z.cells.size = 5)
    (base : Nat) (S S1 : Nat → Prop) (v : Value) (ts : List Tree) (hs : a.eval s = v) (hown : OwnF ty base S w0 v ts) (t : Tree) (lv1 : Value) (hr : Rd w0 S1 lv1 t.list) (hS1 : ∀ k, S1 k → k < w0.heap.size) (hv1 : ∀ k, v.ownBlock = some k → ¬ S1 k)
    (H : Nat) (hH : w0.heap.size = H) (hx : a.eval x = .slice (some ⟨H, 0, none⟩) 1 1) (hlen : ts.length ≤ 1000000) (hbase : base ≤ w0.heap.size)
    (h : ∀ v' w', OwnF ty base (fun k => S k ∨ S1 k) w' v' (ts ++ [t]) → w0.grownBy w' v.ownBlock → wpList P ops Q rest (a.put o.dst v') w') :
    wpList P ops Q (o :: rest) a (w0.alloc (.cells #[.int .u64 (t.tag : Nat), .int .i64 t.typ, .int .u64 (t.num : Nat), .string t.text, lv1] ty)) :=
  wpList_plain hgd fun K hK => wp_append_f s x sl ty ho w0 z ht hinfo hz5 base S S1 v ts hs hown t lv1 hr hS1 hv1 H hH hx hlen hbase fun v' w' h2 h3 => hK _ _ (h v' w' h2 h3)

theorem step_append_f {ops : Array Oper} {o : Oper} {a : Act} {K : Act → World → Prop} {Q : Exit → Act → World → Prop} {E : Prop} (hgd : o.guard = none) (s x : Operand) (sl ty : TypeId)
    (ho : o.op = .call { callee := .builtin .append, args := #[s, x], argTypes := #[sl, sl] }) (w0 : World) (z : Value) (ht : P.underlying sl = some (.slice ty)) (hinfo : (P.info? ty).map (fun i => (i.zero, i.size, i.bytes)) = some (some z, 5, 64)) (hz5 : z.cells.size = 5)
    (base : Nat) (S S1 : Nat → Prop) (v : Value) (ts : List Tree) (hs : a.eval s = v) (hown : OwnF ty base S w0 v ts) (t : Tree) (lv1 : Value) (hr : Rd w0 S1 lv1 t.list) (hS1 : ∀ k, S1 k → k < w0.heap.size) (hv1 : ∀ k, v.ownBlock = some k → ¬ S1 k)
    (H : Nat) (hH : w0.heap.size = H) (hx : a.eval x = .slice (some ⟨H, 0, none⟩) 1 1) (hlen : ts.length ≤ 1000000) (hbase : base ≤ w0.heap.size)
    (h : ∀ v' w', OwnF ty base (fun k => S k ∨ S1 k) w' v' (ts ++ [t]) → w0.grownBy w' v.ownBlock → K (a.put o.dst v') w') :
    if Region.wanted o (yielded ops a.tmps) = true then Oper.wp P o a (w0.alloc (.cells #[.int .u64 (t.tag : Nat), .int .i64 t.typ, .int .u64 (t.num : Nat), .string t.text, lv1] ty)) K Q else E := by
  have hw : Region.wanted o (yielded ops a.tmps) = true := by simp [Region.wanted, hgd]
  rw [if_pos hw]
  exact wp_append_f s x sl ty ho w0 z ht hinfo hz5 base S S1 v ts hs hown t lv1 hr hS1 hv1 H hH hx hlen hbase h
/-- Where the row lies behind it, told too: 'append(out, f)' of one field, f in a block of its own: in a list of operations, and at a step of a region that draws its order. -/
theorem wp_append_fh {o : Oper} {a : Act} {K : Act → World → Prop} {Q : Exit → Act → World → Prop} (s x : Operand) (sl ty : TypeId)
    (ho : o.op = .call { callee := .builtin .append, args := #[s, x], argTypes := #[sl, sl] }) (w0 : World) (z : Value) (ht : P.underlying sl = some (.slice ty)) (hinfo : (P.info? ty).map (fun i => (i.zero, i.size, i.bytes)) = some (some z, 5, 64)) (hz5 : z.cells.size = 5)
    (base : Nat) (S S1 : Nat → Prop) (v : Value) (ts : List Tree) (hs : a.eval s = v) (hown : OwnF ty base S w0 v ts) (t : Tree) (lv1 : Value) (hr : Rd w0 S1 lv1 t.list) (hS1 : ∀ k, S1 k → k < w0.heap.size) (hv1 : ∀ k, v.ownBlock = some k → ¬ S1 k)
    (H : Nat) (hH : w0.heap.size = H) (hx : a.eval x = .slice (some ⟨H, 0, none⟩) 1 1) (hlen : ts.length ≤ 1000000) (hbase : base ≤ w0.heap.size)
    (h : ∀ v' w', OwnF ty base (fun k => S k ∨ S1 k) w' v' (ts ++ [t]) → w0.grownBy w' v.ownBlock → (v'.ownBlock = v.ownBlock ∨ v'.ownBlock = some (w0.heap.size + 1)) → K (a.put o.dst v') w') :
    Oper.wp P o a (w0.alloc (.cells #[.int .u64 (t.tag : Nat), .int .i64 t.typ, .int .u64 (t.num : Nat), .string t.text, lv1] ty)) K Q := by
  subst hH
  obtain ⟨v', w', hr', h2, h3, h4⟩ := run_append_f (P := P) w0 sl ty o.type z ht hinfo hz5 base S S1 v ts hown t lv1 hr hS1 hv1 hlen hbase
  unfold Oper.wp execOp
  simp only [ho, resolve, invoke, builtin, Sem.run_bind, Sem.run_pure, Result.andThen_ok, List.map_toArray, List.map_cons, List.map_nil, hs, hx, hr']
  exact h v' w' h2 h3 h4

theorem wpList_append_fh {ops : Array Oper} {rest : List Oper} {o : Oper} {a : Act} {Q : Exit → Act → World → Prop} (hgd : o.guard = none) (s x : Operand) (sl ty : TypeId)
    (ho : o.op = .call { callee := .builtin .append, args := #[s, x], argTypes := #[sl, sl] }) (w0 : World) (z : Value) (ht : P.underlying sl = some (.slice ty)) (hinfo : (P.info? ty).map (fun i => (i.zero, i.size, i.bytes)) = some (some z, 5, 64)) (hz5 : z.cells.size = 5)
    (base : Nat) (S S1 : Nat → Prop) (v : Value) (ts : List Tree) (hs : a.eval s = v) (hown : OwnF ty base S w0 v ts) (t : Tree) (lv1 : Value) (hr : Rd w0 S1 lv1 t.list) (hS1 : ∀ k, S1 k → k < w0.heap.size) (hv1 : ∀ k, v.ownBlock = some k → ¬ S1 k)
    (H : Nat) (hH : w0.heap.size = H) (hx : a.eval x = .slice (some ⟨H, 0, none⟩) 1 1) (hlen : ts.length ≤ 1000000) (hbase : base ≤ w0.heap.size)
    (h : ∀ v' w', OwnF ty base (fun k => S k ∨ S1 k) w' v' (ts ++ [t]) → w0.grownBy w' v.ownBlock → (v'.ownBlock = v.ownBlock ∨ v'.ownBlock = some (w0.heap.size + 1)) → wpList P ops Q rest (a.put o.dst v') w') :
    wpList P ops Q (o :: rest) a (w0.alloc (.cells #[.int .u64 (t.tag : Nat), .int .i64 t.typ, .int .u64 (t.num : Nat), .string t.text, lv1] ty)) :=
  wpList_plain hgd fun K hK => wp_append_fh s x sl ty ho w0 z ht hinfo hz5 base S S1 v ts hs hown t lv1 hr hS1 hv1 H hH hx hlen hbase fun v' w' h2 h3 h4 => hK _ _ (h v' w' h2 h3 h4)

end

end Go.Proofs.YtbebdaglkjhbjaaGreatDoor.tr

/-
  The law's own functions over trees: Of.
-/
namespace Go.Proofs.YtbebdaglkjhbjaaGreatDoor.tr
open Go.RowKit
set_option linter.unusedVariables false
set_option linter.unusedSimpArgs false

end Go.Proofs.YtbebdaglkjhbjaaGreatDoor.tr

/-
  The document's Count and Depth of trees.
-/
namespace Go.Proofs.YtbebdaglkjhbjaaGreatDoor.tr
open Go.RowKit
set_option linter.unusedVariables false
set_option linter.unusedSimpArgs false

mutual
def Tree.depth : Tree → Nat | .mk _ typ _ _ l => if typ = 2 ∨ 0 < l.length then 1 + depthL l else 0
def depthL : List Tree → Nat | [] => 0 | t :: r => max t.depth (depthL r)
end

theorem depth_eq (t : Tree) : t.depth = if t.typ = 2 ∨ 0 < t.list.length then 1 + depthL t.list else 0 := by
  cases t
  simp only [Tree.depth, Tree.typ, Tree.list]
  split <;> simp_all
theorem depthL_append (a b : List Tree) : depthL (a ++ b) = max (depthL a) (depthL b) := by
  induction a with
  | nil => simp [depthL]
  | cons t r ih => rw [List.cons_append, depthL, depthL, ih, Nat.max_assoc]
theorem depth_le_size : ∀ (n : Nat) (ts : List Tree), sizeL ts ≤ n → depthL ts ≤ sizeL ts
  | n, [], _ => by simp [depthL]
  | 0, t :: r, h => by rw [sizeL_cons] at h; omega
  | n + 1, t :: r, h => by
    rw [sizeL_cons] at h ⊢
    have h1 := depth_le_size n t.list (by omega)
    have h2 := depth_le_size n r (by omega)
    rw [depthL, depth_eq]
    split <;> omega
theorem take_snoc {ts : List Tree} {i : Nat} {t : Tree} (h : ts[i]? = some t) : ts.take (i + 1) = ts.take i ++ [t] := by rw [List.take_add_one, h]; rfl
theorem sizeL_take {ts : List Tree} (i : Nat) : sizeL (ts.take i) ≤ sizeL ts := by
  have := sizeL_append (ts.take i) (ts.drop i)
  rw [List.take_append_drop] at this
  omega

end Go.Proofs.YtbebdaglkjhbjaaGreatDoor.tr

/-
  The document's Same of trees.
-/
namespace Go.Proofs.YtbebdaglkjhbjaaGreatDoor.tr
open Go.RowKit
set_option linter.unusedVariables false
set_option linter.unusedSimpArgs false

mutual
def Tree.same : Tree → Tree → Bool | .mk a b c d l, .mk a' b' c' d' l' => decide (a = a') && decide (b = b') && decide (c = c') && decide (d = d') && sameL l l'
def sameL : List Tree → List Tree → Bool
  | [], [] => true
  | t :: r, t' :: r' => t.same t' && sameL r r'
  | [], _ :: _ => false
  | _ :: _, [] => false
end

theorem sameL_iff : ∀ (n : Nat) (a b : List Tree), sizeL a ≤ n → (sameL a b = true ↔ a = b)
  | n, [], [], _ => by simp [sameL]
  | n, [], _ :: _, _ => by simp [sameL]
  | n, _ :: _, [], _ => by simp [sameL]
  | 0, t :: r, _ :: _, h => by rw [sizeL_cons] at h; omega
  | n + 1, t :: r, t' :: r', h => by
    rw [sizeL_cons] at h
    have h2 := sameL_iff n r r' (by omega)
    have h1 := sameL_iff n t.list t'.list (by omega)
    cases t with | mk a b c d l =>
    cases t' with | mk a' b' c' d' l' =>
    simp only [Tree.list] at h1
    simp only [sameL, Tree.same, Bool.and_eq_true, decide_eq_true_eq, h1, h2, List.cons.injEq, Tree.mk.injEq]
    constructor
    · rintro ⟨⟨⟨⟨⟨h, i⟩, j⟩, k⟩, l⟩, m⟩; exact ⟨⟨h, i, j, k, l⟩, m⟩
    · rintro ⟨⟨h, i, j, k, l⟩, m⟩; exact ⟨⟨⟨⟨⟨h, i⟩, j⟩, k⟩, l⟩, m⟩
theorem same_of {a b : List Tree} (h : a = b) : sameL a b = true := (sameL_iff _ a b (Nat.le_refl _)).2 h
theorem same_not {a b : List Tree} (h : a ≠ b) : sameL a b = false := by
  cases hb : sameL a b with
  | false => rfl
  | true => exact absurd ((sameL_iff _ a b (Nat.le_refl _)).1 hb) h
theorem same_self (a : List Tree) : sameL a a = true := same_of rfl

theorem take_ne {ts us : List Tree} {i : Nat} {t u : Tree} (ht : ts[i]? = some t) (hu : us[i]? = some u) (h : t ≠ u) : ts ≠ us := fun e => by
  subst e
  rw [ht] at hu
  exact h (by simpa using hu)
theorem tree_ext {t u : Tree} (h0 : t.tag = u.tag) (h1 : t.typ = u.typ) (h2 : t.num = u.num) (h3 : t.text = u.text) (h4 : t.list = u.list) : t = u := by
  cases t; cases u; simp_all [Tree.tag, Tree.typ, Tree.num, Tree.text, Tree.list]

theorem text_ne {a b : ByteArray} (h : a ≠ b) : (a.toList == b.toList) = false := by
  rw [ByteArray.toList_eq, ByteArray.toList_eq]
  exact beq_false_of_ne fun e => h (ByteArray.ext (Array.toList_inj.1 e))

end Go.Proofs.YtbebdaglkjhbjaaGreatDoor.tr

/-
  The document's Check of trees.
-/
namespace Go.Proofs.YtbebdaglkjhbjaaGreatDoor.tr
open Go.RowKit
set_option linter.unusedVariables false
set_option linter.unusedSimpArgs false

/-- Has it what its type doesn't have, or no such type? -/
def bad (t : Tree) : Prop := t.typ < 0 ∨ 2 < t.typ ∨ (t.typ ≠ 0 ∧ t.num ≠ 0) ∨ (t.typ ≠ 1 ∧ t.text.size ≠ 0) ∨ (t.typ ≠ 2 ∧ 0 < t.list.length)
instance (t : Tree) : Decidable (bad t) := by unfold bad; infer_instance

mutual
def Tree.chk (deep : Nat) : Tree → Nat | .mk _ _ _ _ l => checkL (deep + 1) 0 l
def checkL (deep prev : Nat) : List Tree → Nat
  | [] => 0
  | t :: r => if t.tag = 0 ∨ 4294967296 < t.tag then 18 else if t.tag ≤ prev then 7 else if bad t then 8 else if t.typ = 2 ∧ deep = 8 then 9 else if t.chk deep ≠ 0 then t.chk deep else checkL deep t.tag r
end

theorem chk_eq (t : Tree) (deep : Nat) : t.chk deep = checkL (deep + 1) 0 t.list := by cases t; rw [Tree.chk]; rfl
theorem checkL_cons (deep prev : Nat) (t : Tree) (r : List Tree) : checkL deep prev (t :: r) = if t.tag = 0 ∨ 4294967296 < t.tag then 18 else if t.tag ≤ prev then 7 else if bad t then 8 else if t.typ = 2 ∧ deep = 8 then 9 else if checkL (deep + 1) 0 t.list ≠ 0 then checkL (deep + 1) 0 t.list else checkL deep t.tag r := by
  rw [checkL, chk_eq]
theorem checkL_nil (deep prev : Nat) : checkL deep prev [] = 0 := by rw [checkL]
theorem checkL_lt : ∀ (n : Nat) (ts : List Tree) (deep prev : Nat), sizeL ts ≤ n → checkL deep prev ts < 19
  | n, [], deep, prev, _ => by rw [checkL_nil]; omega
  | 0, t :: r, deep, prev, h => by rw [sizeL_cons] at h; omega
  | n + 1, t :: r, deep, prev, h => by
    rw [sizeL_cons] at h
    have h1 := checkL_lt n t.list (deep + 1) 0 (by omega)
    have h2 := checkL_lt n r deep t.tag (by omega)
    rw [checkL_cons]
    split; omega
    split; omega
    split; omega
    split; omega
    split <;> omega

/-- The last tag, or 0. -/
def lastTag (l : List Tree) : Nat := (l.getLast?.map Tree.tag).getD 0
theorem lastTag_nil : lastTag [] = 0 := rfl
theorem lastTag_snoc (l : List Tree) (t : Tree) : lastTag (l ++ [t]) = t.tag := by simp [lastTag]
theorem drop_cons' {ts : List Tree} {i : Nat} {t : Tree} (h : ts[i]? = some t) : ts.drop i = t :: ts.drop (i + 1) := by
  obtain ⟨hl, he⟩ := List.getElem?_eq_some_iff.1 h
  rw [List.drop_eq_getElem_cons hl, he]
theorem text_empty {a : ByteArray} (h : a.size = 0) : a.toList.isEmpty = true := by
  rw [ByteArray.toList_eq]
  have : a.data.toList.length = 0 := by simpa using h
  rw [List.length_eq_zero_iff.1 this]; rfl
theorem text_full {a : ByteArray} (h : a.size ≠ 0) : a.toList.isEmpty = false := by
  rw [ByteArray.toList_eq]
  cases hd : a.data.toList with
  | nil => exact absurd (by have := congrArg List.length hd; simpa using this) h
  | cons x r => rfl

end Go.Proofs.YtbebdaglkjhbjaaGreatDoor.tr

/-
  More on trees: what may be; parts of rows; append of a part.
-/
namespace Go.Proofs.YtbebdaglkjhbjaaGreatDoor.tr
open Go.RowKit
set_option linter.unusedVariables false
set_option linter.unusedSimpArgs false

theorem check_ok {deep prev : Nat} {t : Tree} {r : List Tree} (h : checkL deep prev (t :: r) = 0) :
    t.tag ≠ 0 ∧ t.tag ≤ 4294967296 ∧ prev < t.tag ∧ ¬ bad t ∧ ¬ (t.typ = 2 ∧ deep = 8) ∧ checkL (deep + 1) 0 t.list = 0 ∧ checkL deep t.tag r = 0 := by
  rw [checkL_cons] at h
  by_cases h1 : t.tag = 0 ∨ 4294967296 < t.tag
  · rw [if_pos h1] at h; cases h
  rw [if_neg h1] at h
  by_cases h2 : t.tag ≤ prev
  · rw [if_pos h2] at h; cases h
  rw [if_neg h2] at h
  by_cases h3 : bad t
  · rw [if_pos h3] at h; cases h
  rw [if_neg h3] at h
  by_cases h4 : t.typ = 2 ∧ deep = 8
  · rw [if_pos h4] at h; cases h
  rw [if_neg h4] at h
  by_cases h5 : checkL (deep + 1) 0 t.list ≠ 0
  · rw [if_pos h5] at h; exact absurd h h5
  rw [if_neg h5] at h
  exact ⟨by omega, by omega, by omega, h3, h4, by omega, h⟩
theorem check_mk {deep prev : Nat} {t : Tree} {r : List Tree} (h0 : t.tag ≠ 0) (h1 : t.tag ≤ 4294967296) (h2 : prev < t.tag) (h3 : ¬ bad t) (h4 : ¬ (t.typ = 2 ∧ deep = 8)) (h5 : checkL (deep + 1) 0 t.list = 0) (h6 : checkL deep t.tag r = 0) : checkL deep prev (t :: r) = 0 := by
  rw [checkL_cons, if_neg (by omega), if_neg (by omega), if_neg h3, if_neg h4, if_neg (by omega), h6]
theorem check_prev {deep p q : Nat} {r : List Tree} (h : checkL deep p r = 0) (hq : q ≤ p) : checkL deep q r = 0 := by
  cases r with
  | nil => rw [checkL_nil]
  | cons t r =>
    obtain ⟨h0, h1, h2, h3, h4, h5, h6⟩ := check_ok h
    exact check_mk h0 h1 (by omega) h3 h4 h5 h6
theorem not_bad_list {t : Tree} (h : ¬ bad t) (h2 : ¬ t.typ = 2) : t.list = [] := by
  unfold bad at h
  exact List.length_eq_zero_iff.1 (by omega)
theorem check_less : ∀ (n : Nat) (ts : List Tree) (d p : Nat), sizeL ts ≤ n → d + 1 ≤ 8 → checkL (d + 1) p ts = 0 → checkL d p ts = 0
  | n, [], d, p, _, _, _ => checkL_nil d p
  | 0, t :: r, d, p, h, _, _ => by rw [sizeL_cons] at h; omega
  | n + 1, t :: r, d, p, h, hd, hc => by
    rw [sizeL_cons] at h
    obtain ⟨h0, h1, h2, h3, h4, h5, h6⟩ := check_ok hc
    refine check_mk h0 h1 h2 h3 (by omega) ?_ (check_less n r d t.tag (by omega) hd h6)
    by_cases ht : t.typ = 2
    · exact check_less n t.list (d + 1) 0 (by omega) (by omega) h5
    · rw [not_bad_list h3 ht, checkL_nil]
theorem check_depth : ∀ (n : Nat) (ts : List Tree) (d p : Nat), sizeL ts ≤ n → d ≤ 8 → checkL d p ts = 0 → depthL ts + d ≤ 8
  | n, [], d, p, _, _, _ => by simp [depthL]; omega
  | 0, t :: r, d, p, h, _, _ => by rw [sizeL_cons] at h; omega
  | n + 1, t :: r, d, p, h, hd, hc => by
    rw [sizeL_cons] at h
    obtain ⟨h0, h1, h2, h3, h4, h5, h6⟩ := check_ok hc
    have k1 := check_depth n r d t.tag (by omega) hd h6
    rw [depthL, depth_eq]
    by_cases ht : t.typ = 2
    · have k2 := check_depth n t.list (d + 1) 0 (by omega) (by omega) h5
      rw [if_pos (.inl ht)]
      omega
    · rw [if_neg (by rw [not_bad_list h3 ht]; simp; exact ht)]
      omega
theorem check_cut (d : Nat) : ∀ (A : List Tree) (p : Nat) (t : Tree) (B : List Tree), checkL d p (A ++ t :: B) = 0 → checkL d p (A ++ B) = 0
  | [], p, t, B, h => by
    obtain ⟨h0, h1, h2, h3, h4, h5, h6⟩ := check_ok h
    exact check_prev h6 (by omega)
  | x :: A, p, t, B, h => by
    obtain ⟨h0, h1, h2, h3, h4, h5, h6⟩ := check_ok h
    exact check_mk h0 h1 h2 h3 h4 h5 (check_cut d A x.tag t B h6)
theorem check_in (d : Nat) : ∀ (A : List Tree) (p : Nat) (t : Tree) (B : List Tree), checkL d p (A ++ t :: B) = 0 → checkL d 0 [t] = 0 ∧ checkL (d + 1) 0 t.list = 0
  | [], p, t, B, h => by
    obtain ⟨h0, h1, h2, h3, h4, h5, h6⟩ := check_ok h
    exact ⟨check_mk h0 h1 (by omega) h3 h4 h5 (checkL_nil _ _), h5⟩
  | x :: A, p, t, B, h => by
    obtain ⟨h0, h1, h2, h3, h4, h5, h6⟩ := check_ok h
    exact check_in d A x.tag t B h6
theorem split_at {ts : List Tree} {i : Nat} {t : Tree} (h : ts[i]? = some t) : ts = ts.take i ++ t :: ts.drop (i + 1) := by
  rw [← drop_cons' h, List.take_append_drop]

section
variable {w : World} {S : Nat → Prop} {b off len cap : Nat} {ts : List Tree}

theorem Rd.take (h : Rd w S (.slice (some ⟨b, off, none⟩) len cap) ts) (i : Nat) (hi : i ≤ len) : Rd w S (.slice (some ⟨b, off, none⟩) i cap) (ts.take i) := by
  by_cases h0 : i = 0
  · subst h0; exact .nil _ _
  · cases h with
    | nil => omega
    | row b off len cap ts lv h h0 h1 h2 hb hc hr =>
      refine .row b off i cap _ lv (by simp; omega) (by omega) (by omega) h2 hb (fun j t ht => ?_) (fun j t ht => ?_)
      · exact hc j t (by rw [List.getElem?_take] at ht; split at ht; { exact ht }; cases ht)
      · exact hr j t (by rw [List.getElem?_take] at ht; split at ht; { exact ht }; cases ht)
theorem Rd.drop (h : Rd w S (.slice (some ⟨b, off, none⟩) len cap) ts) (k : Nat) (hk : k ≤ len) (a : Option Addr) (ha : k < len → a = some ⟨b, off + k * 5, none⟩) : Rd w S (.slice a (len - k) (cap - k)) (ts.drop k) := by
  have hlen : ts.length = len := by obtain ⟨_, _, hv⟩ := h.shape; simp only [Value.slice.injEq] at hv; exact hv.2.1.symm
  by_cases h0 : k = len
  · have hd : ts.drop k = [] := List.drop_of_length_le (by omega)
    rw [hd, h0, Nat.sub_self]
    exact .nil _ _
  · rw [ha (by omega)]
    cases h with
    | nil => omega
    | row b off len cap ts lv h h0 h1 h2 hb hc hr =>
      refine .row b (off + k * 5) (len - k) (cap - k) _ (fun i => lv (k + i)) (by simp; omega) (by omega) (by omega) (by omega) hb (fun j t ht => ?_) (fun j t ht => ?_)
      · rw [List.getElem?_drop] at ht
        have := hc (k + j) t ht
        rwa [show off + (k + j) * 5 = off + k * 5 + j * 5 by omega] at this
      · rw [List.getElem?_drop] at ht
        exact hr (k + j) t ht
/-- One field in a row of its own, its list shared. -/
theorem rd_one {w : World} {S : Nat → Prop} {ty : TypeId} {t : Tree} {v : Value} (h : Rd w S v t.list) :
    Rd (w.alloc (.cells #[.int .u64 (t.tag : Nat), .int .i64 t.typ, .int .u64 (t.num : Nat), .string t.text, v] ty)) (fun _ => True) (.slice (some ⟨w.heap.size, 0, none⟩) 1 1) [t] := by
  refine .row _ _ _ _ _ (fun _ => v) rfl (by omega) (by omega) (by unfold maxLen; omega) trivial (fun i x hx => ?_) (fun i x hx => ?_)
  · have hi : i = 0 := by have := (List.getElem?_eq_some_iff.1 hx).1; simp at this; omega
    subst hi
    simp at hx; subst hx
    exact ⟨by rw [cell_new]; rfl, by rw [cell_new]; rfl, by rw [cell_new]; rfl, by rw [cell_new]; rfl, by rw [cell_new]; rfl⟩
  · have hi : i = 0 := by have := (List.getElem?_eq_some_iff.1 hx).1; simp at this; omega
    subst hi
    simp at hx; subst hx
    exact (h.grown (only_alloc (only_refl w none) _)).mono fun _ _ _ => trivial
end

theorem flat_cells {w : World} {b : Nat} : ∀ (ts : List Tree) (off : Nat) (lv : Nat → Value), (∀ i t, ts[i]? = some t → Cells w b (off + i * 5) t (lv i)) → ∀ j u, (flat ts lv)[j]? = some u → w.cell? ⟨b, off + j, none⟩ = some u
  | [], off, lv, h, j, u, hj => by simp [flat] at hj
  | t :: r, off, lv, h, j, u, hj => by
    have h0 := h 0 t rfl
    simp only [Nat.zero_mul, Nat.add_zero] at h0
    simp only [flat] at hj
    match j, hj with
    | 0, hj => simp at hj; subst hj; exact h0.c0
    | 1, hj => simp at hj; subst hj; exact h0.c1
    | 2, hj => simp at hj; subst hj; exact h0.c2
    | 3, hj => simp at hj; subst hj; exact h0.c3
    | 4, hj => simp at hj; subst hj; exact h0.c4
    | k + 5, hj =>
      rw [List.getElem?_append_right (by simp)] at hj
      have := flat_cells r (off + 5) (fun i => lv (i + 1)) (fun i x hx => by
        have := h (i + 1) x (by simpa using hx)
        rwa [show off + (i + 1) * 5 = off + 5 + i * 5 by omega] at this) k u (by simpa using hj)
      rwa [show off + 5 + k = off + (k + 5) by omega] at this
theorem flat_append (a b : List Tree) (lv : Nat → Value) : flat (a ++ b) lv = flat a lv ++ flat b (fun i => lv (a.length + i)) := by
  induction a generalizing lv with
  | nil => simp [flat]
  | cons t r ih =>
    simp only [List.cons_append, flat, ih, List.append_assoc, List.length_cons]
    rw [flat_congr b (fun i => lv (r.length + i + 1)) (fun i => lv (r.length + 1 + i)) (fun i _ => by rw [show r.length + i + 1 = r.length + 1 + i by omega])]
theorem flat_one {w : World} {S : Nat → Prop} : ∀ (ts : List Tree) (lv : Nat → Value), (∀ i t, ts[i]? = some t → Rd w S (lv i) t.list) → ∀ u ∈ flat ts lv, u.oneCell' = true
  | [], lv, h, u, hu => by simp [flat] at hu
  | t :: r, lv, h, u, hu => by
    simp only [flat, List.cons_append, List.nil_append, List.mem_cons] at hu
    rcases hu with rfl | rfl | rfl | rfl | rfl | hu
    · rfl
    · rfl
    · rfl
    · rfl
    · exact (h 0 t rfl).one
    · exact flat_one r (fun i => lv (i + 1)) (fun i x hx => h (i + 1) x (by simpa using hx)) u hu

section
variable {P : Program}

/-- 'append(v, s...)' of a part of another row. -/
theorem run_append_part (w : World) (sl ty tr : TypeId) (z : Value) (ht : P.underlying sl = some (.slice ty)) (hinfo : (P.info? ty).map (fun i => (i.zero, i.size, i.bytes)) = some (some z, 5, 64)) (hz5 : z.cells.size = 5)
    (base : Nat) (S S2 : Nat → Prop) (v : Value) (ts us : List Tree) (hown : OwnF ty base S w v ts) (a : Addr) (c : Nat) (hr : Rd w S2 (.slice (some a) us.length c) us) (hS2 : ∀ k, S2 k → k < w.heap.size) (hv : ∀ k, v.ownBlock = some k → ¬ S2 k)
    (hlen : ts.length + us.length ≤ 1000000) (hbase : base ≤ w.heap.size) :
    ∃ v' w', (Builtin.append_ #[sl, sl] tr #[v, .slice (some a) us.length c]).run P w = .ok v' w' ∧ OwnF ty base (fun k => S k ∨ S2 k) w' v' (ts ++ us) ∧ w.grownBy w' v.ownBlock := by
  obtain ⟨i, hi, hz, hsize, hby⟩ := info_parts hinfo
  obtain ⟨lv, h1, h2, h3, h4⟩ := hown
  obtain ⟨lv2, hc2, hr2⟩ : ∃ lv2 : Nat → Value, (∀ j u, (flat us lv2)[j]? = some u → w.cell? (a.add j) = some u) ∧ (∀ i t, us[i]? = some t → Rd w S2 (lv2 i) t.list) := by
    cases us with
    | nil => exact ⟨fun _ => .nilIface, fun j u hj => by simp [flat] at hj, fun i t hi => by simp at hi⟩
    | cons x r =>
      cases hr with
      | row b off len cap _ lv2 h h0 h1 h2 hb hc hr =>
        refine ⟨lv2, fun j u hj => ?_, hr⟩
        rw [show (⟨b, off, none⟩ : Addr).add j = ⟨b, off + j, none⟩ from Addr.add_lit ..]
        exact flat_cells _ off lv2 hc j u hj
  obtain ⟨v', w', hrun, ho', g, _, hat⟩ := run_append_own_at (P := P) w base sl tr ty i z 5 64 ht hi hz hsize hby hz5 (by omega) v ts.length (flat ts lv) h1 a us.length c (flat us lv2) (flat_len us lv2) hc2 (flat_one us lv2 hr2) (by unfold maxLen; omega) (by omega) hbase
  have hg : Chg (fun k => v.ownBlock = some k) w w' := Chg.of_grown g (fun k e => .inl e)
  refine ⟨v', w', hrun, ⟨fun i => if i < ts.length then lv i else lv2 (i - ts.length), ?_, ?_, ?_, ?_⟩, g⟩
  · rw [List.length_append, flat_append, flat_congr ts (fun i => if i < ts.length then lv i else lv2 (i - ts.length)) lv (fun i hi => if_pos hi), flat_congr us (fun i => if ts.length + i < ts.length then lv (ts.length + i) else lv2 (ts.length + i - ts.length)) lv2 (fun i hi => by rw [if_neg (by omega)]; congr 1; omega)]
    exact ho'
  · intro i x hx
    by_cases hi : i < ts.length
    · rw [List.getElem?_append_left hi] at hx
      show Rd w' _ (if i < ts.length then lv i else lv2 (i - ts.length)) _
      rw [if_pos hi]
      exact ((h2 i x hx).kept hg (fun k hk e => h4 k e hk)).mono fun k _ hk => .inl hk
    · rw [List.getElem?_append_right (by omega)] at hx
      show Rd w' _ (if i < ts.length then lv i else lv2 (i - ts.length)) _
      rw [if_neg hi]
      exact ((hr2 _ x hx).kept hg (fun k hk e => hv k e hk)).mono fun k _ hk => .inr hk
  · intro k hk
    have := g.size
    rcases hk with hk | hk
    · have := h3 k hk; omega
    · have := hS2 k hk; omega
  · intro k e hk
    rcases hat with hat | hat
    · rw [hat] at e
      rcases hk with hk | hk
      · exact h4 k e hk
      · exact hv k e hk
    · rw [hat] at e
      simp at e
      rcases hk with hk | hk
      · have := h3 k hk; omega
      · have := hS2 k hk; omega

theorem step_append_part {ops : Array Oper} {o : Oper} {ac : Act} {K : Act → World → Prop} {Q : Exit → Act → World → Prop} {E : Prop} (hgd : o.guard = none) (s x : Operand) (sl ty : TypeId)
    (ho : o.op = .call { callee := .builtin .append, args := #[s, x], argTypes := #[sl, sl] }) (w : World) (z : Value) (ht : P.underlying sl = some (.slice ty)) (hinfo : (P.info? ty).map (fun i => (i.zero, i.size, i.bytes)) = some (some z, 5, 64)) (hz5 : z.cells.size = 5)
    (base : Nat) (S S2 : Nat → Prop) (v : Value) (ts us : List Tree) (hs : ac.eval s = v) (hown : OwnF ty base S w v ts) (a : Addr) (c m : Nat) (hm : us.length = m) (hx : ac.eval x = .slice (some a) m c) (hr : Rd w S2 (.slice (some a) us.length c) us) (hS2 : ∀ k, S2 k → k < w.heap.size) (hv : ∀ k, v.ownBlock = some k → ¬ S2 k)
    (hlen : ts.length + us.length ≤ 1000000) (hbase : base ≤ w.heap.size)
    (h : ∀ v' w', OwnF ty base (fun k => S k ∨ S2 k) w' v' (ts ++ us) → w.grownBy w' v.ownBlock → K (ac.put o.dst v') w') :
    if Region.wanted o (yielded ops ac.tmps) = true then Oper.wp P o ac w K Q else E := by
  have hw : Region.wanted o (yielded ops ac.tmps) = true := by simp [Region.wanted, hgd]
  rw [if_pos hw]
  subst hm
  obtain ⟨v', w', hr', h2, h3⟩ := run_append_part (P := P) w sl ty o.type z ht hinfo hz5 base S S2 v ts us hown a c hr hS2 hv hlen hbase
  unfold Oper.wp execOp
  simp only [ho, resolve, invoke, builtin, Sem.run_bind, Sem.run_pure, Result.andThen_ok, List.map_toArray, List.map_cons, List.map_nil, hs, hx, hr']
  exact h v' w' h2 h3
end

end Go.Proofs.YtbebdaglkjhbjaaGreatDoor.tr

/-
  The law's own functions over trees: from, Make.
-/
namespace Go.Proofs.YtbebdaglkjhbjaaGreatDoor.tr
open Go.RowKit
set_option linter.unusedVariables false
set_option linter.unusedSimpArgs false

structure OneT where
  deep : Nat
  tag : Nat
  typ : Int
  num : Nat
  text : ByteArray

/-- What from makes, and what it leaves. -/
def fromS (xs : List OneT) (d : Nat) : {p : List Tree × List OneT // p.2.length ≤ xs.length} :=
  match xs with
  | [] => ⟨([], []), Nat.le_refl _⟩
  | x :: r =>
    if x.deep < d then ⟨([], x :: r), Nat.le_refl _⟩
    else if x.deep = 255 then
      let m := fromS r d
      ⟨(.mk x.tag x.typ x.num x.text [] :: m.1.1, m.1.2), by have := m.2; simp; omega⟩
    else
      let c := fromS r (x.deep + 1)
      have hc := c.2
      let m := fromS c.1.2 d
      ⟨(.mk x.tag x.typ x.num x.text c.1.1 :: m.1.1, m.1.2), by have := m.2; simp; omega⟩
termination_by xs.length
decreasing_by all_goals first | exact Nat.lt_succ_self _ | exact Nat.lt_succ_of_le hc

def fromL (xs : List OneT) (d : Nat) : List Tree := (fromS xs d).1.1
def restL (xs : List OneT) (d : Nat) : List OneT := (fromS xs d).1.2

theorem fromL_nil (d : Nat) : fromL [] d = [] := by unfold fromL; rw [fromS]
theorem restL_nil (d : Nat) : restL [] d = [] := by unfold restL; rw [fromS]
theorem fromL_stop {x : OneT} {r : List OneT} {d : Nat} (h : x.deep < d) : fromL (x :: r) d = [] := by unfold fromL; rw [fromS, if_pos h]
theorem restL_stop {x : OneT} {r : List OneT} {d : Nat} (h : x.deep < d) : restL (x :: r) d = x :: r := by unfold restL; rw [fromS, if_pos h]
theorem fromL_flat {x : OneT} {r : List OneT} {d : Nat} (h : ¬ x.deep < d) (h2 : x.deep = 255) : fromL (x :: r) d = .mk x.tag x.typ x.num x.text [] :: fromL r d := by unfold fromL; rw [fromS, if_neg h, if_pos h2]
theorem restL_flat {x : OneT} {r : List OneT} {d : Nat} (h : ¬ x.deep < d) (h2 : x.deep = 255) : restL (x :: r) d = restL r d := by unfold restL; rw [fromS, if_neg h, if_pos h2]
theorem fromL_deep {x : OneT} {r : List OneT} {d : Nat} (h : ¬ x.deep < d) (h2 : ¬ x.deep = 255) : fromL (x :: r) d = .mk x.tag x.typ x.num x.text (fromL r (x.deep + 1)) :: fromL (restL r (x.deep + 1)) d := by unfold fromL restL; rw [fromS, if_neg h, if_neg h2]
theorem restL_deep {x : OneT} {r : List OneT} {d : Nat} (h : ¬ x.deep < d) (h2 : ¬ x.deep = 255) : restL (x :: r) d = restL (restL r (x.deep + 1)) d := by unfold restL; rw [fromS, if_neg h, if_neg h2]
theorem restL_len (xs : List OneT) (d : Nat) : (restL xs d).length ≤ xs.length := (fromS xs d).2

theorem from_size : ∀ (n : Nat) (xs : List OneT) (d : Nat), xs.length ≤ n → sizeL (fromL xs d) + (restL xs d).length = xs.length
  | n, [], d, _ => by rw [fromL_nil, restL_nil]; simp [sizeL]
  | 0, x :: r, d, h => by simp at h
  | n + 1, x :: r, d, h => by
    have hl : (x :: r).length = r.length + 1 := rfl
    by_cases h1 : x.deep < d
    · rw [fromL_stop h1, restL_stop h1]; simp [sizeL]
    · by_cases h2 : x.deep = 255
      · have := from_size n r d (by omega)
        rw [fromL_flat h1 h2, restL_flat h1 h2, sizeL_cons]
        simp only [Tree.list, sizeL]
        omega
      · have h3 := from_size n r (x.deep + 1) (by omega)
        have h4 := restL_len r (x.deep + 1)
        have h5 := from_size n (restL r (x.deep + 1)) d (by omega)
        rw [fromL_deep h1 h2, restL_deep h1 h2, sizeL_cons]
        simp only [Tree.list]
        omega
theorem restL_zero : ∀ (n : Nat) (xs : List OneT), xs.length ≤ n → restL xs 0 = []
  | n, [], _ => restL_nil 0
  | 0, x :: r, h => by simp at h
  | n + 1, x :: r, h => by
    have hl : (x :: r).length = r.length + 1 := rfl
    by_cases h2 : x.deep = 255
    · rw [restL_flat (by omega) h2]; exact restL_zero n r (by omega)
    · have h4 := restL_len r (x.deep + 1)
      rw [restL_deep (by omega) h2]; exact restL_zero n _ (by omega)

/-- A slice of the law's ones. -/
def Ones (B : Nat) (w : World) (a : Option Addr) (cap : Nat) (xs : List OneT) : Prop :=
  (∀ x ∈ xs, x.deep < 256) ∧ (∀ x ∈ xs, -128 ≤ x.typ ∧ x.typ ≤ 127 ∧ x.tag < 18446744073709551616 ∧ x.num < 18446744073709551616) ∧ (xs = [] ∨ ∃ b off, a = some ⟨b, off, none⟩ ∧ b < B ∧ xs.length ≤ cap ∧ cap ≤ maxLen ∧ ∀ i x, xs[i]? = some x →
    w.cell? ⟨b, off + i * 5, none⟩ = some (.int .u8 (x.deep : Nat)) ∧ w.cell? ⟨b, off + i * 5 + 1, none⟩ = some (.int .u64 (x.tag : Nat)) ∧ w.cell? ⟨b, off + i * 5 + 2, none⟩ = some (.int .i8 x.typ) ∧ w.cell? ⟨b, off + i * 5 + 3, none⟩ = some (.int .u64 (x.num : Nat)) ∧ w.cell? ⟨b, off + i * 5 + 4, none⟩ = some (.string x.text))

theorem Ones.kept {B : Nat} {T : Nat → Prop} {w w' : World} {a : Option Addr} {cap : Nat} {xs : List OneT} (h : Ones B w a cap xs) (g : Chg T w w') (hT : ∀ k, T k → B ≤ k) : Ones B w' a cap xs := by
  obtain ⟨h1, h2, h3⟩ := h
  refine ⟨h1, h2, ?_⟩
  rcases h3 with h | ⟨b, off, h4, hB, h5, h6, h7⟩
  · exact .inl h
  · have hb : ¬ T b := fun h => by have := hT b h; omega
    exact .inr ⟨b, off, h4, hB, h5, h6, fun i x hx => by
      obtain ⟨k0, k1, k2, k3, k4⟩ := h7 i x hx
      exact ⟨g.cell k0 hb, g.cell k1 hb, g.cell k2 hb, g.cell k3 hb, g.cell k4 hb⟩⟩
theorem Ones.grown {B : Nat} {w w' : World} {a : Option Addr} {cap : Nat} {xs : List OneT} (h : Ones B w a cap xs) (g : w.grownBy w' none) : Ones B w' a cap xs := h.kept (T := fun _ => False) (Chg.of_none g) (fun _ e => e.elim)
theorem Ones.tail {B : Nat} {w : World} {b off cap : Nat} {x : OneT} {r : List OneT} (h : Ones B w (some ⟨b, off, none⟩) cap (x :: r)) : Ones B w (some ⟨b, off + 5, none⟩) (cap - 1) r := by
  obtain ⟨h1, h2, h3⟩ := h
  refine ⟨fun y hy => h1 y (List.mem_cons_of_mem _ hy), fun y hy => h2 y (List.mem_cons_of_mem _ hy), ?_⟩
  rcases h3 with h | ⟨b', off', h4, hB, h5, h6, h7⟩
  · cases h
  · simp only [Option.some.injEq, Addr.mk.injEq, and_true] at h4
    obtain ⟨rfl, rfl⟩ := h4
    simp only [List.length_cons] at h5
    refine .inr ⟨b, off + 5, rfl, hB, by omega, by omega, fun i y hy => ?_⟩
    have := h7 (i + 1) y (by simpa using hy)
    rw [show off + (i + 1) * 5 = off + 5 + i * 5 by omega] at this
    exact this

theorem Tryz.infoF : (Tryz.prog.info? 222).map (fun i => (i.zero, i.size, i.bytes)) = some (some (.agg #[.int .u64 0, .int .i64 0, .int .u64 0, .string ⟨#[]⟩, .slice none 0 0]), 5, 64) := by kernel_rfl

def sliceLen : Value → Nat | .slice _ n _ => n | _ => 0

end Go.Proofs.YtbebdaglkjhbjaaGreatDoor.tr

/-
  The law's own functions over trees: Make, Few.
-/
namespace Go.Proofs.YtbebdaglkjhbjaaGreatDoor.tr
open Go.RowKit
set_option linter.unusedVariables false
set_option linter.unusedSimpArgs false

/-- Are they few? -/
def fewB (xs : List OneT) : Bool := xs.all (fun x => decide (x.text.size ≤ 300)) && decide (xs.length ≤ 60)

theorem few_at {xs : List OneT} {i : Nat} {x : OneT} (h : xs[i]? = some x) (hx : 300 < x.text.size) : fewB xs = false := by
  unfold fewB
  have : xs.all (fun x => decide (x.text.size ≤ 300)) = false := by
    rw [List.all_eq_false]
    exact ⟨x, List.mem_of_getElem? h, by simp; omega⟩
  rw [this]; rfl
theorem few_all {xs : List OneT} (h : ∀ (i : Nat) (x : OneT), xs[i]? = some x → x.text.size ≤ 300) : fewB xs = decide (xs.length ≤ 60) := by
  unfold fewB
  have : xs.all (fun x => decide (x.text.size ≤ 300)) = true := by
    rw [List.all_eq_true]
    intro x hx
    obtain ⟨i, hi⟩ := List.getElem?_of_mem hx
    simpa using h i x hi
  rw [this]; rfl
theorem few_len {xs : List OneT} (h : fewB xs = true) : xs.length ≤ 60 := by
  unfold fewB at h
  simp at h
  exact h.2

end Go.Proofs.YtbebdaglkjhbjaaGreatDoor.tr

/-
  A slice of the law's ones that came in.
-/
namespace Go.Proofs.YtbebdaglkjhbjaaGreatDoor.tr
open Go.RowKit Go.ChangeShapes Go.WideShapes Go.Deep
set_option linter.unusedVariables false
set_option linter.unusedSimpArgs false

end Go.Proofs.YtbebdaglkjhbjaaGreatDoor.tr
