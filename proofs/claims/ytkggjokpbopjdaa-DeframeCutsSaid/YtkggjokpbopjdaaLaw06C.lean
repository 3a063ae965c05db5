/-
  DeframeCuts, for whatever keeps the contracts of a deframer: what stands ahead of the walk.
-/
import Derived.Test.YtkggjokpbopjdaaLaw06F
import Derived.Sort.OwnSortedInts
namespace Go.Proofs.Ytkggjokpbopjdaa.law06
open Go.RowKit Go.Proofs.Ytkggjokpbopjdaa.fm Go.Proofs.Ytkggjokpbopjdaa.vi Go.Proofs.Ytkggjokpbopjdaa.crc
set_option linter.unusedVariables false
set_option linter.unusedSimpArgs false

theorem own_low {base B : Nat} {w w' : World} {v : Value} {l : List (List UInt8)} (h : Own base w v l) (hv : ∀ k, v.ownBlock = some k → k < B) {row : Option Nat} (g : w.grownBy w' row) (hr : ∀ k, row = some k → B ≤ k) : Own base w' v l :=
  World.ownsRow.kept h g (by
    cases hk : v.ownBlock with
    | none => exact .inl rfl
    | some k => exact .inr (fun e => by have := hv k hk; have := hr k e.symm; omega))

/-- What stands while lists grow whose blocks are B and above. -/
structure St (I : Iface) (W : World) (B a b c : Nat) (Sa Sb Sc : Nat → Prop) (L M N : List UInt8) (B0 : Nat) (v : Value) (l : List (List UInt8)) (B1 : Nat) (v1 : Value) (l1 : List (List UInt8)) (w : World) : Prop where
  da : I.Def w a Sa L
  db : I.Def w b Sb M
  dc : I.Def w c Sc N
  own : Own B0 w v l
  own1 : Own B1 w v1 l1
  gw : W.grownBy w none
  hB : B ≤ w.heap.size
  sa : ∀ k, Sa k → k < B ∧ W.heap.size ≤ k ∧ ¬ Sb k ∧ ¬ Sc k
  sb : ∀ k, Sb k → k < B ∧ W.heap.size ≤ k ∧ ¬ Sc k
  sc : ∀ k, Sc k → W.heap.size ≤ k
  hv : ∀ k, v.ownBlock = some k → k < B
  hv1 : ∀ k, v1.ownBlock = some k → k < B
  hW : W.heap.size ≤ B

section
variable {I : Iface} {W : World} {B a b c : Nat} {Sa Sb Sc : Nat → Prop} {L M N : List UInt8} {B0 : Nat} {v : Value} {l : List (List UInt8)} {B1 : Nat} {v1 : Value} {l1 : List (List UInt8)} {w w' : World}

theorem St.step (h : St I W B a b c Sa Sb Sc L M N B0 v l B1 v1 l1 w) {row : Option Nat} (g : w.grownBy w' row) (hr : ∀ k, row = some k → B ≤ k ∧ ¬ Sc k) : St I W B a b c Sa Sb Sc L M N B0 v l B1 v1 l1 w' :=
  have g' : Chg (fun k => row = some k) w w' := Chg.of_grown g (fun k e => .inl e)
  ⟨I.kept h.da g' (fun k h1 h2 => by have := (h.sa k h1).1; have := (hr k h2).1; omega), I.kept h.db g' (fun k h1 h2 => by have := (h.sb k h1).1; have := (hr k h2).1; omega), I.kept h.dc g' (fun k h1 h2 => (hr k h2).2 h1),
   own_low h.own h.hv g (fun k e => (hr k e).1), own_low h.own1 h.hv1 g (fun k e => (hr k e).1),
   below_to_none (below_of_only (below_of_none h.gw) g h.gw.size (fun k e => by have := (hr k e).1; have := h.hW; omega)), by have := g.size; have := h.hB; omega,
   h.sa, h.sb, h.sc, h.hv, h.hv1, h.hW⟩

theorem St.none (h : St I W B a b c Sa Sb Sc L M N B0 v l B1 v1 l1 w) (g : w.grownBy w' none) : St I W B a b c Sa Sb Sc L M N B0 v l B1 v1 l1 w' := h.step g (fun k e => by cases e)

theorem St.up (h : St I W B a b c Sa Sb Sc L M N B0 v l B1 v1 l1 w) {B' : Nat} (h1 : B ≤ B') (h2 : B' ≤ w.heap.size) : St I W B' a b c Sa Sb Sc L M N B0 v l B1 v1 l1 w :=
  ⟨h.da, h.db, h.dc, h.own, h.own1, h.gw, h2, fun k e => ⟨Nat.lt_of_lt_of_le (h.sa k e).1 h1, (h.sa k e).2⟩, fun k e => ⟨Nat.lt_of_lt_of_le (h.sb k e).1 h1, (h.sb k e).2⟩, h.sc, fun k e => Nat.lt_of_lt_of_le (h.hv k e) h1, fun k e => Nat.lt_of_lt_of_le (h.hv1 k e) h1, Nat.le_trans h.hW h1⟩

theorem St.stepT (h : St I W B a b c Sa Sb Sc L M N B0 v l B1 v1 l1 w) {base : Nat} {u : Value} {m : List (List UInt8)} (ho : Own base w u m) (hb : B ≤ base) (g : w.grownBy w' u.ownBlock) : St I W B a b c Sa Sb Sc L M N B0 v l B1 v1 l1 w' :=
  h.step g (fun k e => ⟨Nat.le_trans hb (Own.lt ho k e).1, Iface.far h.dc ho k e⟩)
end

/-- Integers in a row of the call's own. -/
def OwnI (base : Nat) (w : World) (v : Value) (zs : List Int) : Prop := w.ownsRow base 3 1 v zs.length (zs.map (Value.int .i64))

theorem Iface.farI {I : Iface} {w : World} {b : Nat} {S : Nat → Prop} {L : List UInt8} (h : I.Def w b S L) {base : Nat} {v : Value} {zs : List Int} (ho : OwnI base w v zs) : ∀ k, v.ownBlock = some k → ¬ S k := fun k hk hS => by
  obtain ⟨cur, t, fz, h1, -, h2⟩ := I.ty h k hS
  rcases ho.2 with ⟨rfl, _⟩ | ⟨g, cap, cur', rfl, _, hg, _⟩
  · cases hk
  · simp [Value.ownBlock] at hk
    subst hk
    rw [hg] at h1
    simp only [Option.some.injEq, Obj.cells.injEq] at h1
    exact h2 h1.2.1.symm

theorem St.stepI {I : Iface} {W : World} {B a b c : Nat} {Sa Sb Sc : Nat → Prop} {L M N : List UInt8} {B0 : Nat} {v : Value} {l : List (List UInt8)} {B1 : Nat} {v1 : Value} {l1 : List (List UInt8)} {w w' : World} (h : St I W B a b c Sa Sb Sc L M N B0 v l B1 v1 l1 w) {base : Nat} {u : Value} {zs : List Int} (ho : OwnI base w u zs) (hb : B ≤ base) (g : w.grownBy w' u.ownBlock) : St I W B a b c Sa Sb Sc L M N B0 v l B1 v1 l1 w' :=
  h.step g (fun k e => ⟨Nat.le_trans hb (World.ownsRow.lt ho k e).1, Iface.farI h.dc ho k e⟩)

/-- Three deframers that were fed the same. -/
def Tri (I : Iface) (W : World) (a b c : Nat) (L : List UInt8) (w : World) : Prop :=
  ∃ Sa Sb Sc, I.Def w a Sa L ∧ I.Def w b Sb L ∧ I.Def w c Sc L ∧ (∀ k, Sa k → ¬ Sb k) ∧ (∀ k, Sa k → ¬ Sc k) ∧ (∀ k, Sb k → ¬ Sc k) ∧ (∀ k, Sa k → W.heap.size ≤ k) ∧ (∀ k, Sb k → W.heap.size ≤ k) ∧ (∀ k, Sc k → W.heap.size ≤ k) ∧ W.grownBy w none

theorem Tri.rot {I : Iface} {W : World} {a b c : Nat} {L : List UInt8} {w : World} (h : Tri I W a b c L w) : Tri I W b c a L w := by
  obtain ⟨Sa, Sb, Sc, da, db, dc, ab, ac, bc, wa, wb, wc, g⟩ := h
  exact ⟨Sb, Sc, Sa, db, dc, da, bc, fun k h1 h2 => ab k h2 h1, fun k h1 h2 => ac k h2 h1, wb, wc, wa, g⟩
theorem Tri.drewN {I : Iface} {W : World} {a b c : Nat} {L : List UInt8} {w : World} (h : Tri I W a b c L w) (n : Nat) : Tri I W a b c L (w.drewN n) := by
  obtain ⟨Sa, Sb, Sc, da, db, dc, ab, ac, bc, wa, wb, wc, g⟩ := h
  have hg := only_drewN (only_refl w none) n
  exact ⟨Sa, Sb, Sc, Iface.none da hg, Iface.none db hg, Iface.none dc hg, ab, ac, bc, wa, wb, wc, only_trans g hg⟩
theorem tri_err {I : Iface} {W : World} {a b c : Nat} {L : List UInt8} {w : World} (h : Tri I W a b c L w) :
    Calls Try.prog 25 #[.pointer (some ⟨a, 0, none⟩)] w fun e w' => e = .returned (.int .i64 ((ofR L).2.1 : Nat)) ∧ Tri I W a b c L w' := by
  obtain ⟨Sa, Sb, Sc, da, -⟩ := id h
  exact (I.err w a Sa L da).mono fun e w' ⟨he, n, hw⟩ => ⟨he, by rw [hw]; exact h.drewN n⟩
theorem tri_count {I : Iface} {W : World} {a b c : Nat} {L : List UInt8} {w : World} (h : Tri I W a b c L w) :
    Calls Try.prog 27 #[.pointer (some ⟨a, 0, none⟩)] w fun e w' => e = .returned (.int .i64 ((ofR L).1.length : Nat)) ∧ Tri I W a b c L w' := by
  obtain ⟨Sa, Sb, Sc, da, -⟩ := id h
  exact (I.count w a Sa L da).mono fun e w' ⟨he, n, hw⟩ => ⟨he, by rw [hw]; exact h.drewN n⟩
theorem tri_waits {I : Iface} {W : World} {a b c : Nat} {L : List UInt8} {w : World} (h : Tri I W a b c L w) :
    Calls Try.prog 26 #[.pointer (some ⟨a, 0, none⟩)] w fun e w' => e = .returned (.int .i64 ((ofR L).2.2 : Nat)) ∧ Tri I W a b c L w' := by
  obtain ⟨Sa, Sb, Sc, da, db, dc, ab, ac, bc, wa, wb, wc, g⟩ := h
  exact (I.waits w a Sa L da).mono fun e w' ⟨S', he, d, hS, hg⟩ => ⟨he, S', Sb, Sc, d, I.kept db hg (fun k h1 h2 => ab k h2 h1), I.kept dc hg (fun k h1 h2 => ac k h2 h1), fun k h1 => ab k (hS k h1), fun k h1 => ac k (hS k h1), bc, fun k h1 => wa k (hS k h1), wb, wc, Chg.none_new g hg wa⟩

theorem sort_any {base : Nat} {w : World} {v : Value} {zs : List Int} (h : OwnI base w v zs) (hl : zs.length ≤ 1000) :
    Calls Try.prog 28 #[v] w fun e w' => e = .returned (.tuple #[]) ∧ OwnI base w' v (zs.mergeSort fun x y => decide (x ≤ y)) ∧ w.grownBy w' v.ownBlock := by
  rcases h.2 with ⟨rfl, h0⟩ | ⟨g, cap, cur, rfl, hb, hg, h1, h2, h3, h4⟩
  · obtain rfl : zs = [] := List.length_eq_zero_iff.1 h0
    exact (Try.slices_Sort_int_none none 0 w).mono fun e w' ⟨he, hw⟩ => ⟨he, by subst hw; rw [List.mergeSort_nil]; exact h, by subst hw; exact only_refl _ _⟩
  · have hlt : g < w.heap.size := (Array.getElem?_eq_some_iff.1 hg).1
    refine (Try.slices_Sort_int g 0 cap zs w (Go.holds_of_blockI hg (by rwa [Nat.mul_one] at h4)) hlt (by omega)).mono fun e w' ⟨he, n, os, hw⟩ => ⟨he, ?_, ?_⟩
    · subst hw
      have := Go.ownsRow_sortedI (w := w) (n := n) (os := os) (base := base) (ss := zs) (ts := zs.mergeSort fun x y => decide (x ≤ y)) (by simp) hb hg h1 h2 h3
      unfold OwnI
      rw [List.length_mergeSort]
      exact this
    · subst hw
      exact Go.grownBy_sortedI _

theorem OwnI.cell {base : Nat} {w : World} {g cap n : Nat} {zs : List Int} (h : w.ownsRow base 3 1 (.slice (some ⟨g, 0, none⟩) n cap) n (zs.map (Value.int .i64))) (hn : zs.length = n) (j : Nat) (hj : j < n) :
    w.cell? ⟨g, j, none⟩ = some (.int .i64 (zs.getD j 0)) := by
  rw [h.cellAt j (by omega)]
  simp [List.getD_eq_getElem?_getD, show j < zs.length by omega]

theorem sorted_get (zs : List Int) (m : Int) (hm : ∀ z ∈ zs, z ≤ m) (i j : Nat) (hij : i ≤ j) (hj : j ≤ zs.length) :
    ((zs.mergeSort fun x y => decide (x ≤ y)) ++ [m]).getD i 0 ≤ ((zs.mergeSort fun x y => decide (x ≤ y)) ++ [m]).getD j 0 := by
  have hp := List.pairwise_mergeSort (le := fun x y : Int => decide (x ≤ y)) (fun a b c h1 h2 => by simp at *; omega) (fun a b => by simp; omega) zs
  have hl : (zs.mergeSort fun x y => decide (x ≤ y)).length = zs.length := List.length_mergeSort _
  have hmem : ∀ z ∈ (zs.mergeSort fun x y => decide (x ≤ y)), z ≤ m := fun z hz => hm z (List.mem_mergeSort.1 hz)
  generalize (zs.mergeSort fun x y => decide (x ≤ y)) = ys at *
  have hpp : (ys ++ [m]).Pairwise (fun x y => x ≤ y) := by
    rw [List.pairwise_append]
    exact ⟨hp.imp (by simp), by simp, fun x hx y hy => by simp at hy; subst hy; exact hmem x hx⟩
  have hlen : (ys ++ [m]).length = zs.length + 1 := by simp [hl]
  rw [List.getD_eq_getElem?_getD, List.getD_eq_getElem?_getD, List.getElem?_eq_getElem (by omega), List.getElem?_eq_getElem (by omega)]
  by_cases h : i = j
  · subst h; exact Int.le_refl _
  · exact List.pairwise_iff_getElem.1 hpp i j (by omega) (by omega) (by omega)

theorem strs_of_own {base : Nat} {w : World} {a : Option Addr} {n cap : Nat} {l : List (List UInt8)} (h : w.ownsRow base 9 1 (.slice a n cap) n (texts l)) (hn : l.length = n) (hl : ∀ x ∈ l, x.length ≤ 1000000) : Strs w a n cap (l.map str) := by
  refine ⟨by simp [hn], fun x hx => ?_, ?_⟩
  · obtain ⟨y, hy, rfl⟩ := List.mem_map.1 hx
    have := hl y hy
    rw [str_size]; unfold maxLen; omega
  · by_cases h0 : n = 0
    · exact .inl h0
    · obtain ⟨g, cap', hv, -, -⟩ := h.form (by omega)
      simp only [Value.slice.injEq] at hv
      obtain ⟨rfl, -, rfl⟩ := hv
      rcases h.2 with ⟨h', _⟩ | ⟨g', cap', cur, h', _, _, hnc, hcm, _⟩
      · simp at h'
      · simp only [Value.slice.injEq, Option.some.injEq, Addr.mk.injEq, and_true, true_and] at h'
        obtain ⟨rfl, rfl⟩ := h'
        refine .inr ⟨g, 0, rfl, hnc, hcm, fun i x hx => ?_⟩
        have hi : i < n := by have := (List.getElem?_eq_some_iff.1 hx).1; simp at this; omega
        rw [Nat.zero_add, h.cellAt i (by omega)]
        rw [List.getElem?_map] at hx
        simp only [texts, List.getElem?_map]
        cases hli : l[i]? with
        | none => rw [hli] at hx; simp at hx
        | some y => rw [hli] at hx; simp at hx; simp [hx]

theorem cat_str : ∀ l : List (List UInt8), cat (l.map str) = l.flatten
  | [] => rfl
  | x :: r => by
    have := cat_str r
    simp [cat, str, this]

end Go.Proofs.Ytkggjokpbopjdaa.law06
