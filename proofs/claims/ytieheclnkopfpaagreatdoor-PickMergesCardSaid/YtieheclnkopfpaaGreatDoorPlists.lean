/-
  Rows of lists that are a call's own; lists of ones that came in.
-/
import Derived.Test.YtieheclnkopfpaaGreatDoorLaw10
import Derived.Test.YtieheclnkopfpaaGreatDoorBundT
import Derived.Maps.AppendAt
namespace Go.Proofs.YtieheclnkopfpaaGreatDoor.law10
open Go.RowKit Go.ChangeShapes Go.WideShapes Go.Deep Go.Proofs.YtieheclnkopfpaaGreatDoor.tr Go.Proofs.YtieheclnkopfpaaGreatDoor.pm Go.Proofs.YtieheclnkopfpaaGreatDoor.pp
set_option linter.unusedVariables false
set_option linter.unusedSimpArgs false

theorem Tryz.infoLf : (Tryz.prog.info? 27).map (fun i => (i.zero, i.size, i.bytes)) = some (some (.slice none 0 0), 1, 24) := by kernel_rfl

theorem Tryz.infoLr : (Tryz.prog.info? 33).map (fun i => (i.zero, i.size, i.bytes)) = some (some (.slice none 0 0), 1, 24) := by kernel_rfl

/-- A row of lists that is the call's own; the lists lie in blocks of S, and it isn't one of them. -/
def OwnS (ty : TypeId) (base : Nat) (S : Nat → Prop) (w : World) (v : Value) (Ls : List (List Tree)) : Prop :=
  ∃ us : List Value, w.ownsRow base ty 1 v Ls.length us ∧ (∀ (i : Nat) (l : List Tree), Ls[i]? = some l → ∃ u, us[i]? = some u ∧ Rd w S u l) ∧ (∀ k, S k → k < w.heap.size) ∧ (∀ k, v.ownBlock = some k → ¬ S k)

section
variable {w w' : World} {S T : Nat → Prop} {v : Value} {Ls : List (List Tree)} {ty : TypeId} {base : Nat}
theorem OwnS.nil (ty : TypeId) (base : Nat) (w : World) : OwnS ty base (fun _ => False) w (.slice none 0 0) [] :=
  ⟨[], World.ownsRow_nil _ _ _ _, fun i l h => by simp at h, fun _ e => e.elim, fun _ _ e => e⟩
theorem OwnS.lt (h : OwnS ty base S w v Ls) : ∀ k, v.ownBlock = some k → base ≤ k ∧ k < w.heap.size := by
  obtain ⟨us, h1, -⟩ := h
  exact World.ownsRow.lt h1
theorem OwnS.kept (h : OwnS ty base S w v Ls) (g : Chg T w w') (hd : ∀ k, S k → ¬ T k) (hv : ∀ k, v.ownBlock = some k → ¬ T k) : OwnS ty base S w' v Ls := by
  obtain ⟨us, h1, h2, h3, h4⟩ := h
  exact ⟨us, g.ownsRow h1 hv, fun i l e => by obtain ⟨u, k1, k2⟩ := h2 i l e; exact ⟨u, k1, k2.kept g hd⟩, fun k e => Nat.lt_of_lt_of_le (h3 k e) g.size, h4⟩
theorem OwnS.grown (h : OwnS ty base S w v Ls) (g : w.grownBy w' none) : OwnS ty base S w' v Ls :=
  h.kept (T := fun _ => False) (Chg.of_none g) (fun _ _ e => e) (fun _ _ e => e)
theorem OwnS.more (h : OwnS ty base S w v Ls) (hS : ∀ k, S k → T k) (hT : ∀ k, T k → k < w.heap.size) (hv : ∀ k, v.ownBlock = some k → ¬ T k) : OwnS ty base T w v Ls := by
  obtain ⟨us, h1, h2, h3, h4⟩ := h
  exact ⟨us, h1, fun i l e => by obtain ⟨u, k1, k2⟩ := h2 i l e; exact ⟨u, k1, k2.mono fun k _ hk => hS k hk⟩, hT, hv⟩
/-- A list more. -/
theorem OwnS.snoc {v' u : Value} {l : List Tree} (h : OwnS ty base S w v Ls) (us : List Value) (h1 : w.ownsRow base ty 1 v Ls.length us) (h2 : ∀ (i : Nat) (l : List Tree), Ls[i]? = some l → ∃ u, us[i]? = some u ∧ Rd w S u l) (hu : Rd w S u l)
    (ho : w'.ownsRow base ty 1 v' (Ls.length + 1) (us ++ [u])) (g : w.grownBy w' v.ownBlock) (hv : ∀ k, v'.ownBlock = some k → ¬ S k) : OwnS ty base S w' v' (Ls ++ [l]) := by
  obtain ⟨-, -, -, h3, h4⟩ := h
  have hc : Chg (fun k => v.ownBlock = some k) w w' := Chg.of_grown g fun k e => .inl e
  have hul : us.length = Ls.length := by have := h1.1; simpa using this
  refine ⟨us ++ [u], by rw [List.length_append]; exact ho, fun i m hm => ?_, fun k e => Nat.lt_of_lt_of_le (h3 k e) g.size, hv⟩
  by_cases hi : i < Ls.length
  · rw [List.getElem?_append_left hi] at hm
    obtain ⟨x, k1, k2⟩ := h2 i m hm
    exact ⟨x, by rw [List.getElem?_append_left (by omega)]; exact k1, k2.kept hc fun k hk e => h4 k e hk⟩
  · have hie : i = Ls.length := by have := (List.getElem?_eq_some_iff.1 hm).1; simp at this; omega
    subst hie
    simp at hm; subst hm
    exact ⟨u, by rw [← hul]; simp, hu.kept hc fun k hk e => h4 k e hk⟩
theorem OwnS.lls (h : OwnS ty base S w v Ls) (hn : Ls.length ≤ 1000) : Lls w S v Ls := by
  obtain ⟨us, h1, h2, h3, h4⟩ := h
  refine ⟨hn, ?_⟩
  rcases h1.2 with ⟨rfl, h0⟩ | ⟨g, cap, cur, rfl, hb, hg, hnc, hcm, hcs, htake⟩
  · exact ⟨none, 0, by rw [h0], .inl (List.length_eq_zero_iff.1 h0)⟩
  · refine ⟨_, cap, rfl, .inr ⟨g, 0, rfl, (Array.getElem?_eq_some_iff.1 hg).1, hnc, hcm, fun i l hl => ?_⟩⟩
    obtain ⟨u, k1, k2⟩ := h2 i l hl
    have := World.ownsRow.cells h1 (g := g) rfl i u k1
    rw [show (⟨g, 0, none⟩ : Addr).add i = ⟨g, 0 + i, none⟩ from Addr.add_lit ..] at this
    exact ⟨u, this, k2⟩
end

/-- A slice of lists of the law's ones. -/
def OnesL (B : Nat) (w : World) (a : Option Addr) (cap : Nat) (Xs : List (List OneT)) : Prop :=
  Xs = [] ∨ ∃ b off, a = some ⟨b, off, none⟩ ∧ b < B ∧ Xs.length ≤ cap ∧ cap ≤ maxLen ∧ ∀ (i : Nat) (xs : List OneT), Xs[i]? = some xs → xs.length ≤ maxLen ∧ ∃ ai ci, w.cell? ⟨b, off + i, none⟩ = some (.slice ai xs.length ci) ∧ Ones B w ai ci xs
theorem OnesL.grown {B : Nat} {w w' : World} {a : Option Addr} {cap : Nat} {Xs : List (List OneT)} (h : OnesL B w a cap Xs) (g : w.grownBy w' none) : OnesL B w' a cap Xs := by
  rcases h with h | ⟨b, off, h1, h2, h3, h4, h5⟩
  · exact .inl h
  · refine .inr ⟨b, off, h1, h2, h3, h4, fun i xs hx => ?_⟩
    obtain ⟨k1, ai, ci, k2, k3⟩ := h5 i xs hx
    exact ⟨k1, ai, ci, (Chg.of_none (S := fun _ => False) g).cell k2 (fun e => e), k3.grown g⟩

theorem onesL_of_open {H : Type} {enc : TypeId × Value → H} {W : World} {a : Option Addr} {len cap : Nat} {d : DataW H} {p : List MemPlace}
    (h : DataW.Trod enc Tryz.prog W 0 (fun _ => true) true 48 (.slice a len cap) d p) :
    ∃ Xs : List (List OneT), Xs.length = len ∧ len ≤ maxLen ∧ OnesL W.heap.size W a cap Xs := by
  have hle := slice_le Tryz.underlying48 h
  obtain ⟨fuel, hf⟩ := h
  rcases open_slice1 Tryz.underlying48 (by kernel_rfl) hf with ⟨hcs, -⟩ | ⟨ad, l, c, m, n, V, D, Pl, hcs, -, hl, hm, hmm, -, hi⟩
  · simp [Value.cells] at hcs
    exact ⟨[], hcs.2.1.symm, hle, .inl rfl⟩
  · simp [Value.cells] at hcs
    obtain ⟨rfl, rfl, rfl⟩ := hcs
    have hmm' : m = cap := by simpa using hmm
    by_cases h0 : len = 0
    · exact ⟨[], h0.symm, hle, .inl rfl⟩
    · have hc0 := (hi 0 (by omega)).1
      obtain ⟨b, off, spot⟩ := ad
      have hspot : spot = none := by simpa [Addr.add] using World.cell?_spot hc0
      subst hspot
      have key : ∀ i, i < len → ∃ xs : List OneT, xs.length ≤ maxLen ∧ ∃ ai ci, W.cell? ⟨b, off + i, none⟩ = some (.slice ai xs.length ci) ∧ Ones W.heap.size W ai ci xs := fun i hil => by
        obtain ⟨k1, k2⟩ := hi i (by omega)
        rw [show (⟨b, off, none⟩ : Addr).add i = ⟨b, off + i, none⟩ from Addr.add_lit ..] at k1
        have k2' := k2
        rcases open_slice Tryz.underlying22 k2 with ⟨e, -⟩ | ⟨ai, li, ci, mi, ni, Di, Pi, e, -⟩
        · simp at e
          rw [e] at k1 k2'
          obtain ⟨xs, e1, e2, e3⟩ := ones_of_open (enc := enc) (a := none) (len := 0) (cap := 0) ⟨_, k2'⟩
          exact ⟨xs, by omega, none, 0, by rw [e1]; exact k1, e3⟩
        · simp at e
          rw [e] at k1 k2'
          obtain ⟨xs, e1, e2, e3⟩ := ones_of_open (enc := enc) (a := some ai) (len := li) (cap := ci) ⟨_, k2'⟩
          exact ⟨xs, by omega, some ai, ci, by rw [e1]; exact k1, e3⟩
      have : Inhabited (List OneT) := ⟨[]⟩
      obtain ⟨f, hf⟩ := Go.Deep.choose_lt key
      refine ⟨(List.range len).map f, by simp, hle, .inr ⟨b, off, rfl, World.block_lt_of_cell? W _ hc0, by simpa using hl, hm, fun i xs hx => ?_⟩⟩
      have hil : i < len := by have := (List.getElem?_eq_some_iff.1 hx).1; simpa using this
      have : xs = f i := by
        rw [List.getElem?_map, List.getElem?_range hil] at hx
        simpa using hx.symm
      rw [this]
      exact hf i hil

end Go.Proofs.YtieheclnkopfpaaGreatDoor.law10
