/-
  Plain mathematics of packed tables (layer 15): rows written one behind another, and read.
-/
import Derived.Test.YtbebdaglkjhbjaaGreatDoorBundR
namespace Go.Proofs.YtbebdaglkjhbjaaGreatDoor.pk
open Go.Proofs.YtbebdaglkjhbjaaGreatDoor.vi Go.Proofs.YtbebdaglkjhbjaaGreatDoor.um Go.Proofs.YtbebdaglkjhbjaaGreatDoor.wm Go.Proofs.YtbebdaglkjhbjaaGreatDoor.em Go.Proofs.YtbebdaglkjhbjaaGreatDoor.rm Go.Proofs.YtbebdaglkjhbjaaGreatDoor.tm
set_option linter.unusedVariables false
set_option linter.unusedSimpArgs false

/-- A row, behind a key. -/
def rowK (a : Bs) (r : Rw) : Bs := oneP a (key r) ++ enc r.n
def rowsK : Bs → List Rw → Bs
  | _, [] => []
  | a, r :: t => rowK a r ++ rowsK (key r) t
/-- A table as it is written. -/
def textK (t : List Rw) : Bs := enc t.length ++ rowsK [] t
def putK (t : List Rw) : Bs × Nat := if checkT t ≠ 0 then ([], checkT t) else (textK t, 0)
/-- So many rows that stand next. -/
def readK : Nat → Bs → Bool → Bs → List Rw × Bs × Nat
  | 0, _, _, L => ([], L, 0)
  | n + 1, a, f, L =>
    if (nextP L a f).2.2 ≠ 0 then ([], [], (nextP L a f).2.2)
    else if (parseD (nextP L a f).1).2 ≠ 0 then ([], [], (parseD (nextP L a f).1).2)
    else if (getR (nextP L a f).2.1).2.2 ≠ 0 then ([], [], (getR (nextP L a f).2.1).2.2)
    else if (getR (nextP L a f).2.1).1 = 0 then ([], [], 17)
    else if (readK n (nextP L a f).1 false ((nextP L a f).2.1.drop (getR (nextP L a f).2.1).2.1)).2.2 ≠ 0 then ([], [], (readK n (nextP L a f).1 false ((nextP L a f).2.1.drop (getR (nextP L a f).2.1).2.1)).2.2)
    else (⟨(parseD (nextP L a f).1).1, (getR (nextP L a f).2.1).1⟩ :: (readK n (nextP L a f).1 false ((nextP L a f).2.1.drop (getR (nextP L a f).2.1).2.1)).1, (readK n (nextP L a f).1 false ((nextP L a f).2.1.drop (getR (nextP L a f).2.1).2.1)).2.1, 0)
/-- The table that stands next, what is behind, the code. -/
def nextK (L : Bs) : List Rw × Bs × Nat :=
  if (getR L).2.2 ≠ 0 then ([], [], (getR L).2.2) else if 256 < (getR L).1 then ([], [], 13) else readK (getR L).1 [] true (L.drop (getR L).2.1)
def getK (L : Bs) : List Rw × Nat :=
  if (nextK L).2.2 ≠ 0 then ([], (nextK L).2.2) else if (nextK L).2.1 ≠ [] then ([], 10) else ((nextK L).1, 0)

theorem readK_err : ∀ (n : Nat) (a : Bs) (f : Bool) (L : Bs), (readK n a f L).2.2 ≠ 0 → (readK n a f L).1 = [] ∧ (readK n a f L).2.1 = []
  | 0, _, _, _, h => by simp [readK] at h
  | n + 1, a, f, L, h => by
    unfold readK at h ⊢
    split
    · exact ⟨rfl, rfl⟩
    split
    · exact ⟨rfl, rfl⟩
    split
    · exact ⟨rfl, rfl⟩
    split
    · exact ⟨rfl, rfl⟩
    split
    · exact ⟨rfl, rfl⟩
    · rename_i h1 h2 h3 h4 h5
      rw [if_neg h1, if_neg h2, if_neg h3, if_neg h4, if_neg h5] at h
      exact absurd rfl h

theorem nextK_err {L : Bs} (h : (nextK L).2.2 ≠ 0) : (nextK L).1 = [] ∧ (nextK L).2.1 = [] := by
  unfold nextK at h ⊢
  split
  · exact ⟨rfl, rfl⟩
  split
  · exact ⟨rfl, rfl⟩
  · rename_i h1 h2
    rw [if_neg h1, if_neg h2] at h
    exact readK_err _ _ _ _ h

theorem getK_err {L : Bs} (h : (getK L).2 ≠ 0) : (getK L).1 = [] := by
  unfold getK at h ⊢
  split
  · rfl
  split
  · rfl
  · rename_i h1 h2
    rw [if_neg h1, if_neg h2] at h
    exact absurd rfl h

theorem readK_put : ∀ (t : List Rw) (a : Bs) (f : Bool) (r : Bs), (∀ x ∈ t, rowE x = 0 ∧ x.n < 18446744073709551616 ∧ (key x).length < 18446744073709551616) → (f = true → a = []) → (∀ x ∈ t, f = false → lt a (key x) = true) → t.Pairwise ltR →
    readK t.length a f (rowsK a t ++ r) = (t, r, 0)
  | [], a, f, r, _, _, _, _ => by simp [readK, rowsK]
  | x :: t, a, f, r, hx, hf, hl, hp => by
    obtain ⟨h1, h2, h3⟩ := hx x (by simp)
    obtain ⟨k1, k2⟩ := rowE_pos h1
    obtain ⟨p1, p2⟩ := List.pairwise_cons.1 hp
    have hn := nextP_one (a := a) (s := key x) (first := f) (enc x.n ++ (rowsK (key x) t ++ r)) h3 hf (hl x (by simp))
    have ht : rowsK a (x :: t) ++ r = oneP a (key x) ++ (enc x.n ++ (rowsK (key x) t ++ r)) := by simp [rowsK, rowK, List.append_assoc]
    have hg := getR_enc h2 (rowsK (key x) t ++ r)
    have hq : parseD (key x) = (x.d, 0) := parseD_key k1
    have ih := readK_put t (key x) false r (fun y hy => hx y (by simp [hy])) (fun e => by cases e) (fun y hy _ => p1 y hy) p2
    rw [List.length_cons, ht]
    unfold readK
    simp only [hn]
    rw [if_neg (by simp), hq, hg]
    rw [if_neg (by simp), if_neg (by simp), if_neg (by simp; omega)]
    simp only [List.drop_left]
    rw [ih, if_neg (by simp)]

theorem readK_ok : ∀ (n : Nat) (a : Bs) (f : Bool) (L : Bs), (f = true → a = []) → (readK n a f L).2.2 = 0 →
    L = rowsK a (readK n a f L).1 ++ (readK n a f L).2.1 ∧ (readK n a f L).1.length = n ∧ (∀ x ∈ (readK n a f L).1, rowE x = 0 ∧ x.n < 18446744073709551616 ∧ (f = false → lt a (key x) = true)) ∧ (readK n a f L).1.Pairwise ltR
  | 0, a, f, L, _, _ => by simp [readK, rowsK]
  | n + 1, a, f, L, hf, h => by
    unfold readK at h ⊢
    by_cases h1 : (nextP L a f).2.2 ≠ 0
    · rw [if_pos h1] at h; exact absurd h h1
    rw [if_neg h1] at h ⊢
    by_cases h2 : (parseD (nextP L a f).1).2 ≠ 0
    · rw [if_pos h2] at h; exact absurd h h2
    rw [if_neg h2] at h ⊢
    by_cases h3 : (getR (nextP L a f).2.1).2.2 ≠ 0
    · rw [if_pos h3] at h; exact absurd h h3
    rw [if_neg h3] at h ⊢
    by_cases h4 : (getR (nextP L a f).2.1).1 = 0
    · rw [if_pos h4] at h; cases h
    rw [if_neg h4] at h ⊢
    by_cases h5 : (readK n (nextP L a f).1 false ((nextP L a f).2.1.drop (getR (nextP L a f).2.1).2.1)).2.2 ≠ 0
    · rw [if_pos h5] at h; exact absurd h h5
    rw [if_neg h5]
    obtain ⟨i1, i2, i3, i4⟩ := readK_ok n (nextP L a f).1 false ((nextP L a f).2.1.drop (getR (nextP L a f).2.1).2.1) (fun e => by cases e) (by omega)
    obtain ⟨n1, n2⟩ := nextP_ok (L := L) (a := a) (first := f) (by omega)
    obtain ⟨d1, d2⟩ := parseD_ok (L := (nextP L a f).1) (by omega)
    have he := enc_getR (L := (nextP L a f).2.1) (by omega)
    have hb := (getR_bounds (nextP L a f).2.1).1
    have ha : (if f then [] else a) = a := by cases f <;> simp at hf ⊢; exact hf
    rw [ha] at n1
    have hk : key ⟨(parseD (nextP L a f).1).1, (getR (nextP L a f).2.1).1⟩ = (nextP L a f).1 := d1
    refine ⟨?_, by simp [i2], ?_, ?_⟩
    · simp only [rowsK, rowK]
      rw [hk, he, List.append_assoc, List.append_assoc, ← i1, List.take_append_drop]
      exact n1
    · intro x hx
      rcases List.mem_cons.1 hx with rfl | hx
      · refine ⟨?_, hb, fun e => by rw [hk]; exact n2 e⟩
        unfold rowE
        rw [if_neg (by simpa using d2), if_neg h4]
      · obtain ⟨j1, j2, j3⟩ := i3 x hx
        exact ⟨j1, j2, fun e => less_trans _ _ _ (n2 e) (j3 rfl)⟩
    · refine List.pairwise_cons.2 ⟨fun y hy => ?_, i4⟩
      unfold ltR
      rw [hk]
      exact (i3 y hy).2.2 rfl

theorem nextK_text {t : List Rw} (h : checkT t = 0) (hs : ∀ x ∈ t, x.n < 18446744073709551616 ∧ (key x).length < 18446744073709551616) (r : Bs) : nextK (textK t ++ r) = (t, r, 0) := by
  obtain ⟨h1, h2, h3⟩ := (checkT_ok t).1 h
  have hg := getR_enc (n := t.length) (by omega) (rowsK [] t ++ r)
  have ht : textK t ++ r = enc t.length ++ (rowsK [] t ++ r) := by simp [textK, List.append_assoc]
  unfold nextK
  rw [ht, hg, if_neg (by simp), if_neg (by simp; omega)]
  simp only [List.drop_left]
  exact readK_put t [] true r (fun x hx => ⟨h2 x hx, hs x hx⟩) (fun _ => rfl) (fun _ _ e => by cases e) h3

theorem nextK_ok {L : Bs} (h : (nextK L).2.2 = 0) : L = textK (nextK L).1 ++ (nextK L).2.1 ∧ checkT (nextK L).1 = 0 ∧ ∀ x ∈ (nextK L).1, x.n < 18446744073709551616 := by
  unfold nextK at h ⊢
  by_cases h1 : (getR L).2.2 ≠ 0
  · rw [if_pos h1] at h; exact absurd h h1
  rw [if_neg h1] at h ⊢
  by_cases h2 : 256 < (getR L).1
  · rw [if_pos h2] at h; cases h
  rw [if_neg h2] at h ⊢
  obtain ⟨i1, i2, i3, i4⟩ := readK_ok _ _ _ _ (fun _ => rfl) h
  have he := enc_getR (L := L) (by omega)
  refine ⟨?_, (checkT_ok _).2 ⟨by omega, fun x hx => (i3 x hx).1, i4⟩, fun x hx => (i3 x hx).2.1⟩
  unfold textK
  rw [i2, he, List.append_assoc, ← i1, List.take_append_drop]

theorem getK_put {t : List Rw} (h : checkT t = 0) (hs : ∀ x ∈ t, x.n < 18446744073709551616 ∧ (key x).length < 18446744073709551616) : getK (textK t) = (t, 0) := by
  have := nextK_text h hs []
  rw [List.append_nil] at this
  unfold getK
  rw [this]
  simp

theorem getK_more {t : List Rw} (h : checkT t = 0) (hs : ∀ x ∈ t, x.n < 18446744073709551616 ∧ (key x).length < 18446744073709551616) {r : Bs} (hr : r ≠ []) : getK (textK t ++ r) = ([], 10) := by
  unfold getK
  rw [nextK_text h hs r]
  simp [hr]

theorem getK_ok {L : Bs} (h : (getK L).2 = 0) : putK (getK L).1 = (L, 0) ∧ ∀ x ∈ (getK L).1, x.n < 18446744073709551616 := by
  unfold getK at h ⊢
  by_cases h1 : (nextK L).2.2 ≠ 0
  · rw [if_pos h1] at h; exact absurd h h1
  rw [if_neg h1] at h ⊢
  by_cases h2 : (nextK L).2.1 ≠ []
  · rw [if_pos h2] at h; cases h
  rw [if_neg h2]
  obtain ⟨i1, i2, i3⟩ := nextK_ok (L := L) (by omega)
  have h3 : (nextK L).2.1 = [] := by simpa using h2
  rw [h3, List.append_nil] at i1
  refine ⟨?_, i3⟩
  unfold putK
  rw [if_neg (by simpa using i2), ← i1]

end Go.Proofs.YtbebdaglkjhbjaaGreatDoor.pk
