/-
  The document's Merge.
-/
import Derived.Test.YtieheclnkopfpaaGreatDoorPref
import Derived.Test.YtieheclnkopfpaaGreatDoorBundT
import Derived.Test.YtieheclnkopfpaaGreatDoorBundF
namespace Go.Proofs.YtieheclnkopfpaaGreatDoor.pm
open Go.RowKit Go.Proofs.YtieheclnkopfpaaGreatDoor.tr
set_option linter.unusedVariables false
set_option linter.unusedSimpArgs false

/-- A slice of lists that is read. -/
def Lls (w : World) (S : Nat → Prop) (v : Value) (Ls : List (List Tree)) : Prop :=
  Ls.length ≤ 1000 ∧ ∃ a cap, v = .slice a Ls.length cap ∧ (Ls = [] ∨ ∃ b off, a = some ⟨b, off, none⟩ ∧ b < w.heap.size ∧ Ls.length ≤ cap ∧ cap ≤ maxLen ∧ ∀ i l, Ls[i]? = some l → ∃ u, w.cell? ⟨b, off + i, none⟩ = some u ∧ Rd w S u l)
theorem Lls.grown {w w' : World} {S : Nat → Prop} {v : Value} {Ls : List (List Tree)} (h : Lls w S v Ls) (g : w.grownBy w' none) : Lls w' S v Ls := by
  obtain ⟨h0, a, cap, h1, h2⟩ := h
  refine ⟨h0, a, cap, h1, ?_⟩
  rcases h2 with h2 | ⟨b, off, k1, k2, k3, k4, k5⟩
  · exact .inl h2
  · exact .inr ⟨b, off, k1, Nat.lt_of_lt_of_le k2 g.size, k3, k4, fun i l hi => by
      obtain ⟨u, j1, j2⟩ := k5 i l hi
      exact ⟨u, by rw [World.cell?_of_block (g.block b k2 (by simp))]; exact j1, j2.grown g⟩⟩
theorem Lls.at {w : World} {S : Nat → Prop} {a : Option Addr} {n cap i : Nat} {Ls : List (List Tree)} {l : List Tree} (h : Lls w S (.slice a n cap) Ls) (hl : Ls[i]? = some l) :
    n = Ls.length ∧ ∃ b off u, a = some ⟨b, off, none⟩ ∧ Ls.length ≤ cap ∧ cap ≤ maxLen ∧ w.cell? ⟨b, off + i, none⟩ = some u ∧ Rd w S u l ∧ b < w.heap.size := by
  obtain ⟨h0, a', cap', h1, h2⟩ := h
  simp only [Value.slice.injEq] at h1
  obtain ⟨rfl, rfl, rfl⟩ := h1
  refine ⟨rfl, ?_⟩
  rcases h2 with h2 | ⟨b, off, k1, k2, k3, k4, k5⟩
  · rw [h2] at hl; simp at hl
  · obtain ⟨u, j1, j2⟩ := k5 i l hl
    exact ⟨b, off, u, k1, k3, k4, j1, j2, k2⟩

def firstErr : List (List Tree) → Nat
  | [] => 0
  | l :: r => if checkL 0 0 l ≠ 0 then checkL 0 0 l else firstErr r
def mergeR (Ls : List (List Tree)) : List Tree × Nat := if firstErr Ls ≠ 0 then ([], firstErr Ls) else match insAll [] Ls.flatten with | none => ([], 14) | some o => (o, 0)

theorem firstErr_all : ∀ {Ls : List (List Tree)}, (∀ l ∈ Ls, checkL 0 0 l = 0) → firstErr Ls = 0
  | [], _ => rfl
  | l :: r, h => by rw [firstErr, if_neg (by simp [h l (by simp)]), firstErr_all fun x hx => h x (by simp [hx])]
theorem firstErr_at : ∀ {Ls : List (List Tree)} {i : Nat} {l : List Tree}, (∀ (j : Nat) (x : List Tree), j < i → Ls[j]? = some x → checkL 0 0 x = 0) → Ls[i]? = some l → checkL 0 0 l ≠ 0 → firstErr Ls = checkL 0 0 l
  | [], i, l, _, h, _ => by simp at h
  | x :: r, 0, l, _, h, hc => by simp at h; subst h; rw [firstErr, if_pos hc]
  | x :: r, i + 1, l, ha, h, hc => by
    rw [firstErr, if_neg (by simp [ha 0 x (by omega) rfl])]
    exact firstErr_at (i := i) (fun j y hj hy => ha (j + 1) y (Nat.succ_lt_succ hj) (by simpa using hy)) (by simpa using h) hc

theorem firstErr_ok : ∀ {Ls : List (List Tree)}, firstErr Ls = 0 → ∀ l ∈ Ls, checkL 0 0 l = 0
  | [], _, l, h => by simp at h
  | x :: r, h0, l, h => by
    by_cases hc : checkL 0 0 x = 0
    · rw [firstErr, if_neg (by simp [hc])] at h0
      rcases List.mem_cons.1 h with rfl | h
      · exact hc
      · exact firstErr_ok h0 l h
    · rw [firstErr, if_pos hc] at h0
      exact absurd h0 hc

set_option maxHeartbeats 4000000 in
set_option maxRecDepth 100000 in
theorem rmerge_err (Ls : List (List Tree)) (hs : ∀ l ∈ Ls, sizeL l ≤ 1000) (w : World) (S : Nat → Prop) (v : Value) (h : Lls w S v Ls) (i0 : Nat) (l0 : List Tree) (hi0 : Ls[i0]? = some l0) (hbad : checkL 0 0 l0 ≠ 0) (hbef : ∀ (j : Nat) (x : List Tree), j < i0 → Ls[j]? = some x → checkL 0 0 x = 0) :
    Calls Tryz.prog 19 #[v] w fun e w' => e = .returned (.tuple #[.slice none 0 0, .int .i64 (firstErr Ls : Nat)]) ∧ w.grownBy w' none := by
  have HL := Lib.hid h
  have HS := Lib.hid hs
  have HB := Lib.hid hbef
  have HE := Lib.hid (firstErr_at hbef hi0 hbad)
  have hn : Ls.length ≤ 1000 := h.1
  have hi1 := (List.getElem?_eq_some_iff.1 hi0).1
  have HI := Lib.hid hi0
  obtain ⟨-, a, cap, rfl, -⟩ := h
  clear hbef hi0 hs
  go_enter Tryz.func19, Tryz.ntmps19
  go_wp2_with fail
  go_loopw [16] (fun q wr => ∃ i : Nat, i ≤ i0 ∧ q = .int .i64 i ∧ w.grownBy wr none) (fun q _ => Ls.length - (intOf q).toNat)
  case atStart => exact ⟨0, Nat.zero_le _, rfl, only_refl _ _⟩
  case round =>
    obtain ⟨i, hi, rfl, hg⟩ := hrel
    have HG := Lib.hid hg
    clear hg
    obtain ⟨l, hl⟩ : ∃ l, Ls[i]? = some l := ⟨Ls[i], List.getElem?_eq_getElem (by omega)⟩
    have hsl := HS.out l (List.mem_of_getElem? hl)
    obtain ⟨-, b, off, u, rfl, h1, h2, h3, h4, h5⟩ := (HL.out.grown HG.out).at hl
    have HC := Lib.hid (rcheck_any _ l (Nat.le_refl _) 0 (by omega) wr S u h4)
    obtain ⟨ua, uc, rfl⟩ := h4.shape
    have hlt := checkL_lt _ l 0 0 (Nat.le_refl _)
    have HX := Lib.hid hl
    have hll := len_size l
    unfold maxLen at h2
    have hii : i < Ls.length := by omega
    clear hl h4
    by_cases he : i = i0
    · have hbad2 : checkL 0 0 l ≠ 0 := by
        have h6 := HX.out
        rw [he, HI.out] at h6
        simp only [Option.some.injEq] at h6
        rw [← h6]; exact hbad
      have HF : Hid (firstErr Ls = checkL 0 0 l) := by
        have h6 := HX.out
        rw [he, HI.out] at h6
        simp only [Option.some.injEq] at h6
        show _ = _
        rw [HE.out, h6]
      clear he
      generalize checkL 0 0 l = q at *
      have hqb : ((q : Int) != 0) = true := by rw [bne_iff_ne]; omega
      go_wp2_with fail
      refine HC.out.mono ?_
      rintro e w1 ⟨rfl, g1⟩
      have HG1 := Lib.hid (only_trans HG.out g1)
      clear g1
      go_wp2_with fail
      go_ret2
      exact ⟨by rw [HF.out]; rfl, HG1.out⟩
    · have hok := HB.out i l (by omega) HX.out
      rw [hok] at HC
      clear hok
      go_wp2_with fail
      refine HC.out.mono ?_
      rintro e w1 ⟨rfl, g1⟩
      have HG1 := Lib.hid (only_trans HG.out g1)
      clear g1
      go_wp2_with fail
      go_roundw
      case rel => exact ⟨i + 1, by omega, by go_num, HG1.out⟩
      case measure => simp [intOf]; omega

end Go.Proofs.YtieheclnkopfpaaGreatDoor.pm
