/-
  append of texts to the call's own list.
-/
import Derived.Test.YtbelpcniogcfoaaDoorTexts
namespace Go.Proofs.YtbelpcniogcfoaaDoor.fm
open Go.RowKit Go.Proofs.YtbelpcniogcfoaaDoor.vi
set_option linter.unusedVariables false
set_option linter.unusedSimpArgs false

theorem Own.one (w : World) (x : List UInt8) : Own w.heap.size (w.alloc (.cells #[.string (str x)] 9)) (.slice (some ⟨w.heap.size, 0, none⟩) 1 1) [x] :=
  World.ownsRow_lit w #[.string (str x)] 1 (Nat.le_refl _) (by unfold maxLen; omega) rfl

theorem Own.lt {base : Nat} {w : World} {v : Value} {l : List (List UInt8)} (h : Own base w v l) : ∀ k, v.ownBlock = some k → base ≤ k ∧ k < w.heap.size := World.ownsRow.lt h

/-- What a world that has grown, but for the list's own block, still holds. -/
theorem Own.far {base : Nat} {w w' : World} {v : Value} {l : List (List UInt8)} (h : Own base w v l) {b : Nat} (g : w.grownBy w' (some b)) (hb : b < base) : Own base w' v l :=
  World.ownsRow.kept h g (by
    cases hv : v.ownBlock with
    | none => exact .inl rfl
    | some k => exact .inr (fun e => by have := (Own.lt h k hv).1; simp at e; omega))

theorem run_append_texts (w : World) (ty : TypeId) (base : Nat) (v1 : Value) (l1 : List (List UInt8)) (o1 : Own base w v1 l1) (base2 : Nat) (v2 : Value) (l2 : List (List UInt8)) (o2 : Own base2 w v2 l2)
    (hb : base ≤ w.heap.size) (hlen : l1.length + l2.length ≤ 1000000) :
    ∃ v' w', (Builtin.append_ #[78, 78] ty #[v1, v2]).run Tryd.prog w = .ok v' w' ∧ Own base w' v' (l1 ++ l2) ∧ w.grownBy w' v1.ownBlock := by
  obtain ⟨iS, hi, hz0, hz1, hz2⟩ := info_parts Tryd.infoStr
  rcases o2.2 with ⟨rfl, h0⟩ | ⟨g, cap, cur, rfl, -, -, hnc, -⟩
  · obtain rfl : l2 = [] := List.length_eq_zero_iff.1 h0
    exact ⟨v1, w, run_append_owned_none (P := Tryd.prog) w base 78 ty 9 iS 1 Tryd.underlying78 hi v1 l1.length (texts l1) o1, by rw [List.append_nil]; exact o1, ⟨rfl, rfl, rfl, Nat.le_refl _, fun _ _ _ => rfl⟩⟩
  · obtain ⟨v', w', hr, h2, h3, -⟩ := run_append_own (P := Tryd.prog) w base 78 ty 9 iS (.string ⟨#[]⟩) 1 16 Tryd.underlying78 hi hz0 hz1 hz2 rfl (by decide) v1 l1.length (texts l1) o1 ⟨g, 0, none⟩ l2.length cap (texts l2) (by simp [texts])
      (fun j u hj => by
        have hjl : j < l2.length := by have := (List.getElem?_eq_some_iff.1 hj).1; simpa [texts] using this
        rw [show (⟨g, 0, none⟩ : Addr).add j = ⟨g, 0 + j, none⟩ from Addr.add_lit .., Nat.zero_add, World.ownsRow.cellAt o2 j (by omega)]
        exact hj)
      (fun u hu => by simp [texts] at hu; obtain ⟨x, -, rfl⟩ := hu; rfl) (by unfold maxLen; omega) (by omega) hb
    refine ⟨v', w', hr, ?_, h3⟩
    unfold Own
    rw [List.length_append, show texts (l1 ++ l2) = texts l1 ++ texts l2 by simp [texts]]
    exact h2

theorem wpList_append_texts {ops : Array Oper} {rest : List Oper} {o : Oper} {a : Act} {w : World} {Q : Exit → Act → World → Prop} (hgd : o.guard = none) (s x : Operand)
    (ho : o.op = .call { callee := .builtin .append, args := #[s, x], argTypes := #[78, 78] })
    (base : Nat) (v1 : Value) (l1 : List (List UInt8)) (hs : a.eval s = v1) (o1 : Own base w v1 l1) (base2 : Nat) (v2 : Value) (l2 : List (List UInt8)) (hx : a.eval x = v2) (o2 : Own base2 w v2 l2)
    (hb : base ≤ w.heap.size) (hlen : l1.length + l2.length ≤ 1000000)
    (h : ∀ v' w', Own base w' v' (l1 ++ l2) → w.grownBy w' v1.ownBlock → wpList Tryd.prog ops Q rest (a.put o.dst v') w') : wpList Tryd.prog ops Q (o :: rest) a w :=
  wpList_plain hgd fun K hK => by
    obtain ⟨v', w', hr, h2, h3⟩ := run_append_texts w o.type base v1 l1 o1 base2 v2 l2 o2 hb hlen
    unfold Oper.wp execOp
    simp only [ho, resolve, invoke, builtin, Sem.run_bind, Sem.run_pure, Result.andThen_ok, List.map_toArray, List.map_cons, List.map_nil, hs, hx, hr]
    exact hK _ _ (h v' w' h2 h3)

end Go.Proofs.YtbelpcniogcfoaaDoor.fm
