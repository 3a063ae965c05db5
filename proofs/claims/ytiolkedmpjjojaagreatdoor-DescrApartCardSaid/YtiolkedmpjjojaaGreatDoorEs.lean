/-
  Rows of entries in memory: one that is read, one of the call's own, append.
-/
import Derived.Test.YtiolkedmpjjojaaGreatDoorEmath
import Derived.Test.YtiolkedmpjjojaaGreatDoorBundT
import Derived.Laws.OwnMore
import Derived.Maps.AppendAt
import Derived.Deep.Onto
namespace Go.Proofs.YtiolkedmpjjojaaGreatDoor.em
open Go.RowKit Go.Proofs.YtiolkedmpjjojaaGreatDoor.tr
set_option linter.unusedVariables false
set_option linter.unusedSimpArgs false

instance : Inhabited Ent := ⟨zeroE⟩

/-- The cells of entries, two each. -/
def flatE : List Ent → List Value
  | [] => []
  | x :: r => .string x.key :: .string x.value :: flatE r
theorem flatE_len : ∀ l : List Ent, (flatE l).length = l.length * 2
  | [] => rfl
  | x :: r => by simp [flatE, flatE_len r]; omega
theorem flatE_app : ∀ a b : List Ent, flatE (a ++ b) = flatE a ++ flatE b
  | [], _ => rfl
  | x :: r, b => by simp [flatE, flatE_app r b]
theorem flatE_get : ∀ (l : List Ent) (i : Nat) (x : Ent), l[i]? = some x → (flatE l)[i * 2]? = some (.string x.key) ∧ (flatE l)[i * 2 + 1]? = some (.string x.value)
  | [], i, x, h => by simp at h
  | y :: r, 0, x, h => by simp at h; subst h; exact ⟨rfl, rfl⟩
  | y :: r, i + 1, x, h => by
    have := flatE_get r i x (by simpa using h)
    rw [show (i + 1) * 2 = i * 2 + 1 + 1 by omega]
    simpa [flatE] using this
theorem flatE_mem : ∀ (l : List Ent) (j : Nat) (u : Value), (flatE l)[j]? = some u → ∃ i x, l[i]? = some x ∧ (j = i * 2 ∧ u = .string x.key ∨ j = i * 2 + 1 ∧ u = .string x.value)
  | [], j, u, h => by simp [flatE] at h
  | y :: r, 0, u, h => by simp [flatE] at h; exact ⟨0, y, rfl, .inl ⟨rfl, h.symm⟩⟩
  | y :: r, 1, u, h => by simp [flatE] at h; exact ⟨0, y, rfl, .inr ⟨rfl, h.symm⟩⟩
  | y :: r, j + 2, u, h => by
    obtain ⟨i, x, h1, h2⟩ := flatE_mem r j u (by simpa [flatE] using h)
    refine ⟨i + 1, x, by simpa using h1, ?_⟩
    rcases h2 with ⟨h2, h3⟩ | ⟨h2, h3⟩
    · exact .inl ⟨by omega, h3⟩
    · exact .inr ⟨by omega, h3⟩

/-- A slice of entries that is read: nil or empty, or a row of cells in a block below B. -/
def Es (B : Nat) (w : World) (v : Value) (xs : List Ent) : Prop :=
  ∃ a cap, v = .slice a xs.length cap ∧ (xs = [] ∨ ∃ b off, a = some ⟨b, off, none⟩ ∧ b < B ∧ xs.length ≤ cap ∧ cap ≤ maxLen ∧ ∀ (i : Nat) (x : Ent), xs[i]? = some x → w.cell? ⟨b, off + i * 2, none⟩ = some (.string x.key) ∧ w.cell? ⟨b, off + i * 2 + 1, none⟩ = some (.string x.value))

section
variable {B : Nat} {w w' : World} {v : Value} {xs : List Ent}
theorem Es.shape (h : Es B w v xs) : ∃ a cap, v = .slice a xs.length cap := by obtain ⟨a, cap, e, -⟩ := h; exact ⟨a, cap, e⟩
theorem Es.nil (B : Nat) (w : World) (a : Option Addr) (cap : Nat) : Es B w (.slice a 0 cap) [] := ⟨a, cap, rfl, .inl rfl⟩
theorem Es.kept {T : Nat → Prop} (h : Es B w v xs) (g : Chg T w w') (hT : ∀ k, T k → B ≤ k) : Es B w' v xs := by
  obtain ⟨a, cap, e, h⟩ := h
  refine ⟨a, cap, e, ?_⟩
  rcases h with h | ⟨b, off, h1, h2, h3, h4, h5⟩
  · exact .inl h
  · have hb : ¬ T b := fun hb => by have := hT b hb; omega
    exact .inr ⟨b, off, h1, h2, h3, h4, fun i x hx => ⟨g.cell (h5 i x hx).1 hb, g.cell (h5 i x hx).2 hb⟩⟩
theorem Es.grown (h : Es B w v xs) (g : w.grownBy w' none) : Es B w' v xs := h.kept (T := fun _ => False) (Chg.of_none g) (fun _ e => e.elim)
theorem Es.mono {B' : Nat} (h : Es B w v xs) (hb : B ≤ B') : Es B' w v xs := by
  obtain ⟨a, cap, e, h⟩ := h
  exact ⟨a, cap, e, h.imp id fun ⟨b, off, h1, h2, h3⟩ => ⟨b, off, h1, by omega, h3⟩⟩
theorem Es.low (h : Es B w v xs) : Es w.heap.size w v xs := by
  obtain ⟨a, cap, e, h⟩ := h
  refine ⟨a, cap, e, ?_⟩
  rcases h with h | ⟨b, off, h1, h2, h3, h4, h5⟩
  · exact .inl h
  · cases xs with
    | nil => exact .inl rfl
    | cons x r => exact .inr ⟨b, off, h1, World.block_lt_of_cell? w _ (h5 0 x rfl).1, h3, h4, h5⟩
theorem Es.at (h : Es B w v xs) {i : Nat} {x : Ent} (hx : xs[i]? = some x) : ∃ b off cap, v = .slice (some ⟨b, off, none⟩) xs.length cap ∧ b < B ∧ xs.length ≤ cap ∧ cap ≤ maxLen ∧
    w.cell? ⟨b, off + i * 2, none⟩ = some (.string x.key) ∧ w.cell? ⟨b, off + i * 2 + 1, none⟩ = some (.string x.value) := by
  obtain ⟨a, cap, e, h⟩ := h
  rcases h with rfl | ⟨b, off, rfl, h2, h3, h4, h5⟩
  · simp at hx
  · exact ⟨b, off, cap, e, h2, h3, h4, h5 i x hx⟩
theorem Es.take {a : Option Addr} {n cap : Nat} (h : Es B w (.slice a n cap) xs) (i : Nat) (hi : i ≤ n) : Es B w (.slice a i cap) (xs.take i) := by
  obtain ⟨a', cap', e, h⟩ := h
  simp only [Value.slice.injEq] at e
  obtain ⟨rfl, rfl, rfl⟩ := e
  have hl : (xs.take i).length = i := by simp; omega
  refine ⟨a, cap, by rw [hl], ?_⟩
  rcases h with rfl | ⟨b, off, h1, h2, h3, h4, h5⟩
  · exact .inl (by simp)
  · refine .inr ⟨b, off, h1, h2, by omega, h4, fun j x hx => ?_⟩
    have hj : j < i := by have := (List.getElem?_eq_some_iff.1 hx).1; omega
    rw [List.getElem?_take, if_pos hj] at hx
    exact h5 j x hx
theorem Es.drop {a : Option Addr} {n cap : Nat} (h : Es B w (.slice a n cap) xs) (k : Nat) (hk : k ≤ n) (q : Option Addr) (hq : ∀ g off, a = some ⟨g, off, none⟩ → k < n → q = some ⟨g, off + k * 2, none⟩) : Es B w (.slice q (n - k) (cap - k)) (xs.drop k) := by
  obtain ⟨a', cap', e, h⟩ := h
  simp only [Value.slice.injEq] at e
  obtain ⟨rfl, rfl, rfl⟩ := e
  refine ⟨q, cap - k, by rw [List.length_drop], ?_⟩
  rcases h with rfl | ⟨b, off, h1, h2, h3, h4, h5⟩
  · exact .inl (by simp)
  · by_cases hlt : k < xs.length
    · refine .inr ⟨b, off + k * 2, hq b off h1 hlt, h2, by rw [List.length_drop]; omega, by omega, fun j x hx => ?_⟩
      rw [List.getElem?_drop] at hx
      have := h5 _ _ hx
      rw [show off + (k + j) * 2 = off + k * 2 + j * 2 by omega] at this
      exact this
    · exact .inl (List.drop_eq_nil_of_le (by omega))
end

/-- A row of entries of the call's own. -/
def OwnE (ty : TypeId) (base : Nat) (w : World) (v : Value) (xs : List Ent) : Prop := w.ownsRow base ty 2 v xs.length (flatE xs)

section
variable {ty : TypeId} {base : Nat} {w w' : World} {v : Value} {xs : List Ent}
theorem OwnE.nil (ty : TypeId) (base : Nat) (w : World) : OwnE ty base w (.slice none 0 0) [] := World.ownsRow_nil w base ty 2
theorem OwnE.es (h : OwnE ty base w v xs) : Es w.heap.size w v xs := by
  rcases h.2 with ⟨e, h0⟩ | ⟨g, cap, cur, e, hb, hg, hnc, hcm, hcs, htake⟩
  · have : xs = [] := List.length_eq_zero_iff.1 h0
    subst this
    exact ⟨none, 0, e, .inl rfl⟩
  · subst e
    have hc := World.ownsRow.cells h (g := g) rfl
    have ha : ∀ j, (⟨g, 0, none⟩ : Addr).add j = ⟨g, 0 + j, none⟩ := fun j => Addr.add_lit ..
    simp only [ha] at hc
    exact ⟨_, _, rfl, .inr ⟨g, 0, rfl, (Array.getElem?_eq_some_iff.1 hg).1, hnc, hcm, fun i x hx => ⟨hc _ _ (flatE_get xs i x hx).1, by rw [Nat.add_assoc]; exact hc _ _ (flatE_get xs i x hx).2⟩⟩⟩
theorem OwnE.mono {base' : Nat} (h : OwnE ty base w v xs) (hb : base' ≤ base) : OwnE ty base' w v xs := World.ownsRow.mono h hb
theorem OwnE.kept {row : Option Nat} (h : OwnE ty base w v xs) (hg : w.grownBy w' row) (hne : v.ownBlock = none ∨ v.ownBlock ≠ row) : OwnE ty base w' v xs := World.ownsRow.kept h hg hne
theorem OwnE.grown (h : OwnE ty base w v xs) (hg : w.grownBy w' none) : OwnE ty base w' v xs := h.kept hg (by cases v.ownBlock <;> simp)
theorem OwnE.lt (h : OwnE ty base w v xs) : ∀ k, v.ownBlock = some k → base ≤ k ∧ k < w.heap.size := World.ownsRow.lt h
end

section
variable {P : Program}

theorem run_append_none (w : World) (base : Nat) (t tr e : TypeId) (i : TypeInfo) (size c : Nat) (ht : P.underlying t = some (.slice e)) (hi : P.info? e = some i)
    (v : Value) (n : Nat) (xs : List Value) (hown : w.ownsRow base e size v n xs) :
    (Builtin.append_ #[t, t] tr #[v, .slice none 0 c]).run P w = .ok v w := by
  rcases hown.2 with ⟨rfl, rfl⟩ | ⟨g, cap, cur, rfl, _, _, hnc, _⟩
  · simp [Builtin.append_, run_underlying ht, sizeOf, typeInfo, hi, Builtin.lenOf, Builtin.firstCells]
  · simp [Builtin.append_, run_underlying ht, sizeOf, typeInfo, hi, Builtin.lenOf, Builtin.firstCells, hnc, storeCells]

/-- 'append(v, s...)' of entries that are read. -/
theorem run_append_es (w : World) (sl ty tr : TypeId) (z : Value) (ht : P.underlying sl = some (.slice ty)) (hinfo : (P.info? ty).map (fun i => (i.zero, i.size, i.bytes)) = some (some z, 2, 32)) (hz2 : z.cells.size = 2)
    (base B : Nat) (v : Value) (ts us : List Ent) (hown : OwnE ty base w v ts) (x : Value) (hr : Es B w x us) (hlen : ts.length + us.length ≤ 1000000) (hbase : base ≤ w.heap.size) :
    ∃ v' w', (Builtin.append_ #[sl, sl] tr #[v, x]).run P w = .ok v' w' ∧ OwnE ty base w' v' (ts ++ us) ∧ w.grownBy w' v.ownBlock ∧ (v'.ownBlock = v.ownBlock ∨ v'.ownBlock = some w.heap.size) := by
  obtain ⟨i, hi, hz, hsize, hby⟩ := info_parts hinfo
  obtain ⟨a, c, rfl, h⟩ := hr
  cases a with
  | none =>
    obtain rfl : us = [] := by
      rcases h with h | ⟨b, off, h, -⟩
      · exact h
      · cases h
    refine ⟨v, w, run_append_none (P := P) w base sl tr ty i 2 c ht hi v _ _ hown, ?_, ⟨rfl, rfl, rfl, Nat.le_refl _, fun _ _ _ => rfl⟩, .inl rfl⟩
    rw [List.append_nil]; exact hown
  | some a =>
    obtain ⟨v', w', hrun, ho', g, _, hat⟩ := run_append_own_at (P := P) w base sl tr ty i z 2 32 ht hi hz hsize hby hz2 (by omega) v ts.length (flatE ts) hown a us.length c (flatE us) (flatE_len us)
      (fun j u hj => by
        obtain ⟨k, e, h1, h2⟩ := flatE_mem us j u hj
        rcases h with h | ⟨b, off, hb, -, -, -, h5⟩
        · rw [h] at h1; simp at h1
        · cases hb
          rw [show (⟨b, off, none⟩ : Addr).add j = ⟨b, off + j, none⟩ from Addr.add_lit ..]
          rcases h2 with ⟨rfl, rfl⟩ | ⟨rfl, rfl⟩
          · exact (h5 k e h1).1
          · rw [← Nat.add_assoc]; exact (h5 k e h1).2)
      (fun u hu => by
        obtain ⟨j, hj⟩ := List.getElem?_of_mem hu
        obtain ⟨k, e, h1, h2⟩ := flatE_mem us j u hj
        rcases h2 with ⟨-, rfl⟩ | ⟨-, rfl⟩ <;> rfl) (by unfold maxLen; omega) (by omega) hbase
    exact ⟨v', w', hrun, by unfold OwnE; rw [flatE_app, List.length_append]; exact ho', g, hat⟩

theorem es_one (w : World) (x : Ent) (ty : TypeId) : Es (w.heap.size + 1) (w.alloc (.cells #[.string x.key, .string x.value] ty)) (.slice (some ⟨w.heap.size, 0, none⟩) 1 1) [x] :=
  ⟨_, _, rfl, .inr ⟨w.heap.size, 0, rfl, by omega, by simp, by unfold maxLen; omega, fun i y hy => by
    have : i = 0 := by have := (List.getElem?_eq_some_iff.1 hy).1; simp at this; omega
    subst this
    simp at hy; subst hy
    exact ⟨by rw [cell_new]; rfl, by rw [cell_new]; rfl⟩⟩⟩

theorem wp_append_es {o : Oper} {a : Act} {w : World} {K : Act → World → Prop} {Q : Exit → Act → World → Prop} (s x : Operand) (sl ty : TypeId)
    (ho : o.op = .call { callee := .builtin .append, args := #[s, x], argTypes := #[sl, sl] }) (z : Value) (ht : P.underlying sl = some (.slice ty)) (hinfo : (P.info? ty).map (fun i => (i.zero, i.size, i.bytes)) = some (some z, 2, 32)) (hz2 : z.cells.size = 2)
    (base B : Nat) (v : Value) (ts us : List Ent) (hs : a.eval s = v) (hown : OwnE ty base w v ts) (u : Value) (hx : a.eval x = u) (hr : Es B w u us)
    (hlen : ts.length + us.length ≤ 1000000) (hbase : base ≤ w.heap.size)
    (h : ∀ v' w', OwnE ty base w' v' (ts ++ us) → w.grownBy w' v.ownBlock → (v'.ownBlock = v.ownBlock ∨ v'.ownBlock = some w.heap.size) → K (a.put o.dst v') w') :
    Oper.wp P o a w K Q := by
  obtain ⟨v', w', hr', h2, h3, h4⟩ := run_append_es (P := P) w sl ty o.type z ht hinfo hz2 base B v ts us hown u hr hlen hbase
  unfold Oper.wp execOp
  simp only [ho, resolve, invoke, builtin, Sem.run_bind, Sem.run_pure, Result.andThen_ok, List.map_toArray, List.map_cons, List.map_nil, hs, hx, hr']
  exact h v' w' h2 h3 h4

theorem wpList_append_es {ops : Array Oper} {rest : List Oper} {o : Oper} {a : Act} {w : World} {Q : Exit → Act → World → Prop} (hgd : o.guard = none) (s x : Operand) (sl ty : TypeId)
    (ho : o.op = .call { callee := .builtin .append, args := #[s, x], argTypes := #[sl, sl] }) (z : Value) (ht : P.underlying sl = some (.slice ty)) (hinfo : (P.info? ty).map (fun i => (i.zero, i.size, i.bytes)) = some (some z, 2, 32)) (hz2 : z.cells.size = 2)
    (base B : Nat) (v : Value) (ts us : List Ent) (hs : a.eval s = v) (hown : OwnE ty base w v ts) (u : Value) (hx : a.eval x = u) (hr : Es B w u us)
    (hlen : ts.length + us.length ≤ 1000000) (hbase : base ≤ w.heap.size)
    (h : ∀ v' w', OwnE ty base w' v' (ts ++ us) → w.grownBy w' v.ownBlock → (v'.ownBlock = v.ownBlock ∨ v'.ownBlock = some w.heap.size) → wpList P ops Q rest (a.put o.dst v') w') :
    wpList P ops Q (o :: rest) a w :=
  wpList_plain hgd fun K hK => wp_append_es s x sl ty ho z ht hinfo hz2 base B v ts us hs hown u hx hr hlen hbase fun v' w' h2 h3 h4 => hK _ _ (h v' w' h2 h3 h4)

theorem step_append_es {ops : Array Oper} {o : Oper} {a : Act} {w : World} {K : Act → World → Prop} {Q : Exit → Act → World → Prop} {E : Prop} (hgd : o.guard = none) (s x : Operand) (sl ty : TypeId)
    (ho : o.op = .call { callee := .builtin .append, args := #[s, x], argTypes := #[sl, sl] }) (z : Value) (ht : P.underlying sl = some (.slice ty)) (hinfo : (P.info? ty).map (fun i => (i.zero, i.size, i.bytes)) = some (some z, 2, 32)) (hz2 : z.cells.size = 2)
    (base B : Nat) (v : Value) (ts us : List Ent) (hs : a.eval s = v) (hown : OwnE ty base w v ts) (u : Value) (hx : a.eval x = u) (hr : Es B w u us)
    (hlen : ts.length + us.length ≤ 1000000) (hbase : base ≤ w.heap.size)
    (h : ∀ v' w', OwnE ty base w' v' (ts ++ us) → w.grownBy w' v.ownBlock → (v'.ownBlock = v.ownBlock ∨ v'.ownBlock = some w.heap.size) → K (a.put o.dst v') w') :
    if Region.wanted o (yielded ops a.tmps) = true then Oper.wp P o a w K Q else E := by
  have hw : Region.wanted o (yielded ops a.tmps) = true := by simp [Region.wanted, hgd]
  rw [if_pos hw]
  exact wp_append_es s x sl ty ho z ht hinfo hz2 base B v ts us hs hown u hx hr hlen hbase h
end

end Go.Proofs.YtiolkedmpjjojaaGreatDoor.em
