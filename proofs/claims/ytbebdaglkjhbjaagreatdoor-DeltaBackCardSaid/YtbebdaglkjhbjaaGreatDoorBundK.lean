/-
  Pkm, Pkref, Pkrn, Pka, Pkb
-/
import Derived.Test.YtbebdaglkjhbjaaGreatDoorBundR
import Derived.Test.YtbebdaglkjhbjaaGreatDoorBundG
import Derived.Test.YtbebdaglkjhbjaaGreatDoorBundH
import Derived.Test.YtbebdaglkjhbjaaGreatDoorBundX
import Derived.Test.YtbebdaglkjhbjaaGreatDoorBundE

/-
  Plain mathematics of packed tables (layer 15): rows written one behind another, and read.
-/
namespace Go.Proofs.YtbebdaglkjhbjaaGreatDoor.pk
open Go.Proofs.YtbebdaglkjhbjaaGreatDoor.vi Go.Proofs.YtbebdaglkjhbjaaGreatDoor.um Go.Proofs.YtbebdaglkjhbjaaGreatDoor.wm Go.Proofs.YtbebdaglkjhbjaaGreatDoor.em Go.Proofs.YtbebdaglkjhbjaaGreatDoor.rm Go.Proofs.YtbebdaglkjhbjaaGreatDoor.tm
set_option linter.unusedVariables false
set_option linter.unusedSimpArgs false

/-- A row, behind a key. -/
def rowK (a : Bs) (r : Rw) : Bs := oneP a (key r) ++ enc r.n
def rowsK : Bs → List Rw → Bs
  | _, [] => []
  | a, r :: t => rowK a r ++ rowsK (key r) t
/-- A table as it is written. -/
def textK (t : List Rw) : Bs := enc t.length ++ rowsK [] t
def putK (t : List Rw) : Bs × Nat := if checkT t ≠ 0 then ([], checkT t) else (textK t, 0)
/-- So many rows that stand next. -/
def readK : Nat → Bs → Bool → Bs → List Rw × Bs × Nat
  | 0, _, _, L => ([], L, 0)
  | n + 1, a, f, L =>
    if (nextP L a f).2.2 ≠ 0 then ([], [], (nextP L a f).2.2)
    else if (parseD (nextP L a f).1).2 ≠ 0 then ([], [], (parseD (nextP L a f).1).2)
    else if (getR (nextP L a f).2.1).2.2 ≠ 0 then ([], [], (getR (nextP L a f).2.1).2.2)
    else if (getR (nextP L a f).2.1).1 = 0 then ([], [], 17)
    else if (readK n (nextP L a f).1 false ((nextP L a f).2.1.drop (getR (nextP L a f).2.1).2.1)).2.2 ≠ 0 then ([], [], (readK n (nextP L a f).1 false ((nextP L a f).2.1.drop (getR (nextP L a f).2.1).2.1)).2.2)
    else (⟨(parseD (nextP L a f).1).1, (getR (nextP L a f).2.1).1⟩ :: (readK n (nextP L a f).1 false ((nextP L a f).2.1.drop (getR (nextP L a f).2.1).2.1)).1, (readK n (nextP L a f).1 false ((nextP L a f).2.1.drop (getR (nextP L a f).2.1).2.1)).2.1, 0)
/-- The table that stands next, what is behind, the code. -/
def nextK (L : Bs) : List Rw × Bs × Nat :=
  if (getR L).2.2 ≠ 0 then ([], [], (getR L).2.2) else if 256 < (getR L).1 then ([], [], 13) else readK (getR L).1 [] true (L.drop (getR L).2.1)
def getK (L : Bs) : List Rw × Nat :=
  if (nextK L).2.2 ≠ 0 then ([], (nextK L).2.2) else if (nextK L).2.1 ≠ [] then ([], 10) else ((nextK L).1, 0)

theorem readK_err : ∀ (n : Nat) (a : Bs) (f : Bool) (L : Bs), (readK n a f L).2.2 ≠ 0 → (readK n a f L).1 = [] ∧ (readK n a f L).2.1 = []
  | 0, _, _, _, h => by simp [readK] at h
  | n + 1, a, f, L, h => by
    unfold readK at h ⊢
    split
    · exact ⟨rfl, rfl⟩
    split
    · exact ⟨rfl, rfl⟩
    split
    · exact ⟨rfl, rfl⟩
    split
    · exact ⟨rfl, rfl⟩
    split
    · exact ⟨rfl, rfl⟩
    · rename_i h1 h2 h3 h4 h5
      rw [if_neg h1, if_neg h2, if_neg h3, if_neg h4, if_neg h5] at h
      exact absurd rfl h

theorem readK_put : ∀ (t : List Rw) (a : Bs) (f : Bool) (r : Bs), (∀ x ∈ t, rowE x = 0 ∧ x.n < 18446744073709551616 ∧ (key x).length < 18446744073709551616) → (f = true → a = []) → (∀ x ∈ t, f = false → lt a (key x) = true) → t.Pairwise ltR →
    readK t.length a f (rowsK a t ++ r) = (t, r, 0)
  | [], a, f, r, _, _, _, _ => by simp [readK, rowsK]
  | x :: t, a, f, r, hx, hf, hl, hp => by
    obtain ⟨h1, h2, h3⟩ := hx x (by simp)
    obtain ⟨k1, k2⟩ := rowE_pos h1
    obtain ⟨p1, p2⟩ := List.pairwise_cons.1 hp
    have hn := nextP_one (a := a) (s := key x) (first := f) (enc x.n ++ (rowsK (key x) t ++ r)) h3 hf (hl x (by simp))
    have ht : rowsK a (x :: t) ++ r = oneP a (key x) ++ (enc x.n ++ (rowsK (key x) t ++ r)) := by simp [rowsK, rowK, List.append_assoc]
    have hg := getR_enc h2 (rowsK (key x) t ++ r)
    have hq : parseD (key x) = (x.d, 0) := parseD_key k1
    have ih := readK_put t (key x) false r (fun y hy => hx y (by simp [hy])) (fun e => by cases e) (fun y hy _ => p1 y hy) p2
    rw [List.length_cons, ht]
    unfold readK
    simp only [hn]
    rw [if_neg (by simp), hq, hg]
    rw [if_neg (by simp), if_neg (by simp), if_neg (by simp; omega)]
    simp only [List.drop_left]
    rw [ih, if_neg (by simp)]

theorem nextK_text {t : List Rw} (h : checkT t = 0) (hs : ∀ x ∈ t, x.n < 18446744073709551616 ∧ (key x).length < 18446744073709551616) (r : Bs) : nextK (textK t ++ r) = (t, r, 0) := by
  obtain ⟨h1, h2, h3⟩ := (checkT_ok t).1 h
  have hg := getR_enc (n := t.length) (by omega) (rowsK [] t ++ r)
  have ht : textK t ++ r = enc t.length ++ (rowsK [] t ++ r) := by simp [textK, List.append_assoc]
  unfold nextK
  rw [ht, hg, if_neg (by simp), if_neg (by simp; omega)]
  simp only [List.drop_left]
  exact readK_put t [] true r (fun x hx => ⟨h2 x hx, hs x hx⟩) (fun _ => rfl) (fun _ _ e => by cases e) h3

theorem getK_put {t : List Rw} (h : checkT t = 0) (hs : ∀ x ∈ t, x.n < 18446744073709551616 ∧ (key x).length < 18446744073709551616) : getK (textK t) = (t, 0) := by
  have := nextK_text h hs []
  rw [List.append_nil] at this
  unfold getK
  rw [this]
  simp

end Go.Proofs.YtbebdaglkjhbjaaGreatDoor.pk

/-
  The document's tables as bytes (layer 15): Text, Put.
-/
namespace Go.Proofs.YtbebdaglkjhbjaaGreatDoor.kr
open Go.RowKit Go.Proofs.YtbebdaglkjhbjaaGreatDoor.vi Go.Proofs.YtbebdaglkjhbjaaGreatDoor.um Go.Proofs.YtbebdaglkjhbjaaGreatDoor.wm Go.Proofs.YtbebdaglkjhbjaaGreatDoor.tr Go.Proofs.YtbebdaglkjhbjaaGreatDoor.em Go.Proofs.YtbebdaglkjhbjaaGreatDoor.rm Go.Proofs.YtbebdaglkjhbjaaGreatDoor.law11 Go.Proofs.YtbebdaglkjhbjaaGreatDoor.dd Go.Proofs.YtbebdaglkjhbjaaGreatDoor.dr Go.Proofs.YtbebdaglkjhbjaaGreatDoor.tm Go.Proofs.YtbebdaglkjhbjaaGreatDoor.tf Go.Proofs.YtbebdaglkjhbjaaGreatDoor.rr Go.Proofs.YtbebdaglkjhbjaaGreatDoor.pk
set_option linter.unusedVariables false
set_option linter.unusedSimpArgs false

/-- The key ahead of the i-th row. -/
def pk (rs : List Rw) : Nat → Bs
  | 0 => []
  | j + 1 => ((rs[j]?).map key).getD []

theorem rowsK_next {rs : List Rw} {i : Nat} {x : Rw} (h : rs[i]? = some x) (a : Bs) : rowsK a (rs.drop i) = rowK a x ++ rowsK (pk rs (i + 1)) (rs.drop (i + 1)) := by
  have hp : pk rs (i + 1) = key x := by simp [pk, h]
  obtain ⟨hi, rfl⟩ := List.getElem?_eq_some_iff.1 h
  rw [List.drop_eq_getElem_cons hi, hp]
  rfl

theorem rowK_len (a : Bs) (x : Rw) (K : Nat) (hk : (key x).length ≤ K) (hK : K ≤ 1000000) (hn : x.n < 18446744073709551616) : (rowK a x).length ≤ K + 30 := by
  have h1 := oneP_len a (key x) (by omega)
  have h2 := enc_len_ten hn
  unfold rowK
  rw [List.length_append]
  omega

theorem pk_len (rs : List Rw) (K : Nat) (h : ∀ r ∈ rs, (key r).length ≤ K) : ∀ i, (pk rs i).length ≤ K
  | 0 => by simp [pk]
  | j + 1 => by
    rcases hj : rs[j]? with _ | x
    · simp [pk, hj]
    · have := h x (List.mem_of_getElem? hj)
      simpa [pk, hj] using this

/-! Put -/
theorem key_fit {r : Rw} (h : rowE r = 0) : (key r).length ≤ 30000 := by
  obtain ⟨h1, -⟩ := rowE_pos h
  have h2 := (checkD_ok _).1 h1
  have hs : ∀ x ∈ r.d, x.key.size ≤ 64 ∧ x.value.size ≤ 256 := fun x hx => (checkE_small (h2.2.2.1 x hx)).2
  exact law12.key_small (l := r.d) (by have := h2.2.1; omega) (fun x hx => by have := hs x hx; omega)

end Go.Proofs.YtbebdaglkjhbjaaGreatDoor.kr

/-
  The document's tables as bytes (layer 15): Next, Get.
-/
namespace Go.Proofs.YtbebdaglkjhbjaaGreatDoor.kr
open Go.RowKit Go.Proofs.YtbebdaglkjhbjaaGreatDoor.vi Go.Proofs.YtbebdaglkjhbjaaGreatDoor.um Go.Proofs.YtbebdaglkjhbjaaGreatDoor.wm Go.Proofs.YtbebdaglkjhbjaaGreatDoor.tr Go.Proofs.YtbebdaglkjhbjaaGreatDoor.em Go.Proofs.YtbebdaglkjhbjaaGreatDoor.rm Go.Proofs.YtbebdaglkjhbjaaGreatDoor.law11 Go.Proofs.YtbebdaglkjhbjaaGreatDoor.dd Go.Proofs.YtbebdaglkjhbjaaGreatDoor.dr Go.Proofs.YtbebdaglkjhbjaaGreatDoor.tm Go.Proofs.YtbebdaglkjhbjaaGreatDoor.tf Go.Proofs.YtbebdaglkjhbjaaGreatDoor.rr Go.Proofs.YtbebdaglkjhbjaaGreatDoor.pk
set_option linter.unusedVariables false
set_option linter.unusedSimpArgs false

/-- What a reading loop keeps. -/
def glK (acc : List Rw) (r : List Rw × Bs × Nat) : List Rw × Bs × Nat := if r.2.2 ≠ 0 then ([], [], r.2.2) else (acc ++ r.1, r.2.1, 0)
theorem glK_nil (r : List Rw × Bs × Nat) (h : r.2.2 ≠ 0 → r.1 = [] ∧ r.2.1 = []) : r = glK [] r := by
  unfold glK
  split
  · rename_i h0
    obtain ⟨h1, h2⟩ := h h0
    exact Prod.ext h1 (Prod.ext h2 rfl)
  · rename_i h0
    simp only [ne_eq, Decidable.not_not] at h0
    exact Prod.ext rfl (Prod.ext rfl h0)
theorem glK_zero (acc : List Rw) (a : Bs) (f : Bool) (L : Bs) : glK acc (readK 0 a f L) = (acc, L, 0) := by simp [glK, readK]
theorem glK_step (acc : List Rw) (n : Nat) (a : Bs) (f : Bool) (L : Bs) : glK acc (readK (n + 1) a f L) =
    if (nextP L a f).2.2 ≠ 0 then ([], [], (nextP L a f).2.2)
    else if (parseD (nextP L a f).1).2 ≠ 0 then ([], [], (parseD (nextP L a f).1).2)
    else if (getR (nextP L a f).2.1).2.2 ≠ 0 then ([], [], (getR (nextP L a f).2.1).2.2)
    else if (getR (nextP L a f).2.1).1 = 0 then ([], [], 17)
    else glK (acc ++ [⟨(parseD (nextP L a f).1).1, (getR (nextP L a f).2.1).1⟩]) (readK n (nextP L a f).1 false ((nextP L a f).2.1.drop (getR (nextP L a f).2.1).2.1)) := by
  rw [readK]
  by_cases h1 : (nextP L a f).2.2 ≠ 0
  · rw [if_pos h1, if_pos h1]; simp only [glK]; rw [if_pos h1]
  rw [if_neg h1, if_neg h1]
  by_cases h2 : (parseD (nextP L a f).1).2 ≠ 0
  · rw [if_pos h2, if_pos h2]; simp only [glK]; rw [if_pos h2]
  rw [if_neg h2, if_neg h2]
  by_cases h3 : (getR (nextP L a f).2.1).2.2 ≠ 0
  · rw [if_pos h3, if_pos h3]; simp only [glK]; rw [if_pos h3]
  rw [if_neg h3, if_neg h3]
  by_cases h4 : (getR (nextP L a f).2.1).1 = 0
  · rw [if_pos h4, if_pos h4]; rfl
  rw [if_neg h4, if_neg h4]
  by_cases h5 : (readK n (nextP L a f).1 false ((nextP L a f).2.1.drop (getR (nextP L a f).2.1).2.1)).2.2 ≠ 0
  · rw [if_pos h5]; simp only [glK]; rw [if_pos h5, if_pos h5]
  · rw [if_neg h5]; simp only [glK]; rw [if_neg (by simp), if_neg h5]; simp

/-- What is read is small. -/
theorem parseD_small (L : Bs) (h : (parseD L).2 = 0) : (parseD L).1.length ≤ 16 ∧ (∀ x ∈ (parseD L).1, x.key.size ≤ 64 ∧ x.value.size ≤ 256) ∧ keyD (parseD L).1 = L := by
  obtain ⟨h1, h2⟩ := parseD_ok h
  have h3 := (checkD_ok _).1 h2
  exact ⟨h3.2.1, fun x hx => (checkE_small (h3.2.2.1 x hx)).2, h1⟩
theorem parseD_lt (L : Bs) : (parseD L).2 < 64 := by
  have := nextD_lt L
  unfold parseD
  split
  · exact this
  · split <;> simp

theorem readK_lt : ∀ (n : Nat) (a : Bs) (f : Bool) (L : Bs), (readK n a f L).2.2 < 64
  | 0, _, _, _ => by simp [readK]
  | n + 1, a, f, L => by
    have h1 := nextP_code L a f
    have h2 := parseD_lt (nextP L a f).1
    have h3 := (getR_bounds (nextP L a f).2.1).2.2.2.1
    have h4 := readK_lt n (nextP L a f).1 false ((nextP L a f).2.1.drop (getR (nextP L a f).2.1).2.1)
    unfold readK
    split
    · simp only; omega
    split
    · exact h2
    split
    · simp only; omega
    split
    · simp
    split
    · exact h4
    · simp
theorem nextK_lt (L : Bs) : (nextK L).2.2 < 64 := by
  have h1 := (getR_bounds L).2.2.2.1
  unfold nextK
  split
  · simp only; omega
  split
  · simp
  · exact readK_lt _ _ _ _
theorem getK_lt (L : Bs) : (getK L).2 < 64 := by
  have := nextK_lt L
  unfold getK
  split
  · exact this
  split <;> simp

end Go.Proofs.YtbebdaglkjhbjaaGreatDoor.kr

/-
  The developers' package pack: the count, a row's number, a row.
-/
namespace Go.Proofs.YtbebdaglkjhbjaaGreatDoor.ka
open Go.RowKit Go.Proofs.YtbebdaglkjhbjaaGreatDoor.ee Go.Proofs.YtbebdaglkjhbjaaGreatDoor.vi Go.Proofs.YtbebdaglkjhbjaaGreatDoor.um Go.Proofs.YtbebdaglkjhbjaaGreatDoor.wm Go.Proofs.YtbebdaglkjhbjaaGreatDoor.tr Go.Proofs.YtbebdaglkjhbjaaGreatDoor.em Go.Proofs.YtbebdaglkjhbjaaGreatDoor.rm Go.Proofs.YtbebdaglkjhbjaaGreatDoor.crc Go.Proofs.YtbebdaglkjhbjaaGreatDoor.cur Go.Proofs.YtbebdaglkjhbjaaGreatDoor.law11 Go.Proofs.YtbebdaglkjhbjaaGreatDoor.dd Go.Proofs.YtbebdaglkjhbjaaGreatDoor.dr Go.Proofs.YtbebdaglkjhbjaaGreatDoor.tm Go.Proofs.YtbebdaglkjhbjaaGreatDoor.tf Go.Proofs.YtbebdaglkjhbjaaGreatDoor.rr Go.Proofs.YtbebdaglkjhbjaaGreatDoor.pk Go.Proofs.YtbebdaglkjhbjaaGreatDoor.kr
set_option linter.unusedVariables false
set_option linter.unusedSimpArgs false

def cntR (L : Bs) : Nat × Nat := if (getR L).2.2 ≠ 0 then (0, (getR L).2.2) else if 256 < (getR L).1 then (0, 13) else ((getR L).1, 0)
def numR (L : Bs) : Nat × Nat := if (getR L).2.2 ≠ 0 then (0, (getR L).2.2) else if (getR L).1 = 0 then (0, 17) else ((getR L).1, 0)
/-- The row that stands next. -/
def rowR (L a : Bs) (f : Bool) : Rw × Bs × Nat :=
  if (nextP L a f).2.2 ≠ 0 then (⟨[], 0⟩, [], (nextP L a f).2.2)
  else if (parseD (nextP L a f).1).2 ≠ 0 then (⟨[], 0⟩, [], (parseD (nextP L a f).1).2)
  else if (numR (nextP L a f).2.1).2 ≠ 0 then (⟨[], 0⟩, [], (numR (nextP L a f).2.1).2)
  else (⟨(parseD (nextP L a f).1).1, (numR (nextP L a f).2.1).1⟩, (nextP L a f).2.1.drop (getR (nextP L a f).2.1).2.1, 0)
theorem numR_lt (L : Bs) : (numR L).2 < 64 := by
  have := (getR_bounds L).2.2.2.1
  unfold numR
  split
  · simp only; omega
  split <;> simp
theorem rowR_lt (L a : Bs) (f : Bool) : (rowR L a f).2.2 < 64 := by
  have h1 := nextP_code L a f
  have h2 := parseD_lt (nextP L a f).1
  have h3 := numR_lt (nextP L a f).2.1
  unfold rowR
  split
  · simp only; omega
  split
  · exact h2
  split
  · exact h3
  · simp
/-- Of a row that is read: its descriptor is small, its key what was read, behind it less. -/
theorem rowR_ok {L a : Bs} {f : Bool} (h : (rowR L a f).2.2 = 0) : Fit (rowR L a f).1 ∧ (rowR L a f).1.d.length ≤ 16 ∧ (∀ x ∈ (rowR L a f).1.d, x.key.size ≤ 64 ∧ x.value.size ≤ 256) ∧ (key (rowR L a f).1).length + (rowR L a f).2.1.length ≤ a.length + L.length ∧ key (rowR L a f).1 = (nextP L a f).1 ∧ rowE (rowR L a f).1 = 0 := by
  have hb := getR_bounds (nextP L a f).2.1
  unfold rowR at h ⊢
  by_cases h1 : (nextP L a f).2.2 ≠ 0
  · rw [if_pos h1] at h; exact absurd h h1
  rw [if_neg h1] at h ⊢
  by_cases h2 : (parseD (nextP L a f).1).2 ≠ 0
  · rw [if_pos h2] at h; exact absurd h h2
  rw [if_neg h2] at h ⊢
  by_cases h3 : (numR (nextP L a f).2.1).2 ≠ 0
  · rw [if_pos h3] at h; exact absurd h h3
  rw [if_neg h3]
  obtain ⟨n1, n2⟩ := nextP_len (L := L) (a := a) (first := f) (by omega)
  obtain ⟨s1, s2, s3⟩ := parseD_small (nextP L a f).1 (by omega)
  obtain ⟨-, s4⟩ := parseD_ok (L := (nextP L a f).1) (by omega)
  have hn : (numR (nextP L a f).2.1).1 < 18446744073709551616 ∧ (numR (nextP L a f).2.1).1 ≠ 0 := by
    unfold numR at h3 ⊢
    split
    · rename_i h4; rw [if_pos h4] at h3; exact absurd h4 h3
    split
    · rename_i h4 h5; rw [if_neg h4, if_pos h5] at h3; simp at h3
    · rename_i h4 h5; exact ⟨hb.1, h5⟩
  have he : rowE ⟨(parseD (nextP L a f).1).1, (numR (nextP L a f).2.1).1⟩ = 0 := by
    unfold rowE
    rw [if_neg (by simpa using s4), if_neg hn.2]
  refine ⟨ti.fit_ok he hn.1, s1, s2, ?_, s3, he⟩
  have hk : key ⟨(parseD (nextP L a f).1).1, (numR (nextP L a f).2.1).1⟩ = (nextP L a f).1 := s3
  rw [hk, List.length_drop]
  omega
theorem glK_row (acc : List Rw) (n : Nat) (a : Bs) (f : Bool) (L : Bs) : glK acc (readK (n + 1) a f L) =
    if (rowR L a f).2.2 ≠ 0 then ([], [], (rowR L a f).2.2) else glK (acc ++ [(rowR L a f).1]) (readK n (key (rowR L a f).1) false (rowR L a f).2.1) := by
  rw [glK_step]
  have hk : (rowR L a f).2.2 = 0 → key (rowR L a f).1 = (nextP L a f).1 := fun h => (rowR_ok h).2.2.2.2.1
  unfold rowR numR at *
  by_cases h1 : (nextP L a f).2.2 ≠ 0
  · rw [if_pos h1, if_pos h1, if_pos h1]
  rw [if_neg h1] at hk
  rw [if_neg h1, if_neg h1]
  by_cases h2 : (parseD (nextP L a f).1).2 ≠ 0
  · rw [if_pos h2, if_pos h2, if_pos h2]
  rw [if_neg h2] at hk
  rw [if_neg h2, if_neg h2]
  by_cases h3 : (getR (nextP L a f).2.1).2.2 ≠ 0
  · simp only [if_pos h3]
  rw [if_neg h3] at hk
  simp only [if_neg h3] at hk ⊢
  by_cases h4 : (getR (nextP L a f).2.1).1 = 0
  · simp [h4]
  · simp only [if_neg h4] at hk ⊢
    have := hk (by simp)
    simp only [ne_eq, not_true_eq_false, if_false] at this ⊢
    rw [this]

/-! The count, a number -/
set_option maxRecDepth 100000 in
theorem count_any (w : World) (b : Nat) (s : ByteArray) (k : Nat) (hc : Cur w b s k) :
    Calls Tryz.prog 50 #[.pointer (some ⟨b, 0, none⟩)] w fun e w' => e = .returned (.tuple #[.int .u64 ((cntR (s.data.toList.drop k)).1 : Nat), .int .i64 ((cntR (s.data.toList.drop k)).2 : Nat)]) ∧ Cur w' b s (k + (getR (s.data.toList.drop k)).2.1) ∧ w.grownBy w' (some b) := by
  have HN := Lib.hid (vi.next_some hc)
  have hbd := getR_bounds (s.data.toList.drop k)
  unfold cntR
  generalize getR (s.data.toList.drop k) = r at *
  obtain ⟨x, m, E⟩ := r
  simp only at hbd HN ⊢
  obtain ⟨hx, -, -, hE, -⟩ := hbd
  clear hc
  by_cases h0 : E = 0
  · subst h0
    rw [if_neg (by simp)]
    by_cases h1 : 256 < x
    · rw [if_pos h1]
      have h1i : (256 : Int) < (x : Int) := by omega
      go_enter Tryz.func50, Tryz.ntmps50
      go_wp2_with fail
      refine HN.out.mono ?_
      rintro e w1 ⟨rfl, c1, g1⟩
      have C1 := Lib.hid c1
      have G1 := Lib.hid g1
      clear c1 g1
      go_wp2_with fail
      go_ret2
      exact ⟨rfl, C1.out, G1.out⟩
    · rw [if_neg h1]
      have h1i : ¬ (256 : Int) < (x : Int) := by omega
      go_enter Tryz.func50, Tryz.ntmps50
      go_wp2_with fail
      refine HN.out.mono ?_
      rintro e w1 ⟨rfl, c1, g1⟩
      have C1 := Lib.hid c1
      have G1 := Lib.hid g1
      clear c1 g1
      go_wp2_with fail
      go_ret2
      exact ⟨rfl, C1.out, G1.out⟩
  · rw [if_pos h0]
    have hqb : ((E : Int) != 0) = true := by rw [bne_iff_ne]; omega
    clear h0
    go_enter Tryz.func50, Tryz.ntmps50
    go_wp2_with fail
    refine HN.out.mono ?_
    rintro e w1 ⟨rfl, c1, g1⟩
    have C1 := Lib.hid c1
    have G1 := Lib.hid g1
    clear c1 g1
    go_wp2_with fail
    go_ret2
    exact ⟨rfl, C1.out, G1.out⟩

set_option maxRecDepth 100000 in
theorem number_any (w : World) (b : Nat) (s : ByteArray) (k : Nat) (hc : Cur w b s k) :
    Calls Tryz.prog 84 #[.pointer (some ⟨b, 0, none⟩)] w fun e w' => e = .returned (.tuple #[.int .u64 ((numR (s.data.toList.drop k)).1 : Nat), .int .i64 ((numR (s.data.toList.drop k)).2 : Nat)]) ∧ Cur w' b s (k + (getR (s.data.toList.drop k)).2.1) ∧ w.grownBy w' (some b) := by
  have HN := Lib.hid (vi.next_some hc)
  have hbd := getR_bounds (s.data.toList.drop k)
  unfold numR
  generalize getR (s.data.toList.drop k) = r at *
  obtain ⟨x, m, E⟩ := r
  simp only at hbd HN ⊢
  obtain ⟨hx, -, -, hE, -⟩ := hbd
  clear hc
  by_cases h0 : E = 0
  · subst h0
    rw [if_neg (by simp)]
    by_cases h1 : x = 0
    · rw [if_pos h1]
      subst h1
      go_enter Tryz.func84, Tryz.ntmps84
      go_wp2_with fail
      refine HN.out.mono ?_
      rintro e w1 ⟨rfl, c1, g1⟩
      have C1 := Lib.hid c1
      have G1 := Lib.hid g1
      clear c1 g1
      go_wp2_with fail
      go_ret2
      exact ⟨rfl, C1.out, G1.out⟩
    · rw [if_neg h1]
      have h1i : ((x : Int) == 0) = false := by rw [beq_eq_false_iff_ne]; omega
      go_enter Tryz.func84, Tryz.ntmps84
      go_wp2_with fail
      refine HN.out.mono ?_
      rintro e w1 ⟨rfl, c1, g1⟩
      have C1 := Lib.hid c1
      have G1 := Lib.hid g1
      clear c1 g1
      go_wp2_with fail
      go_ret2
      exact ⟨rfl, C1.out, G1.out⟩
  · rw [if_pos h0]
    have hqb : ((E : Int) != 0) = true := by rw [bne_iff_ne]; omega
    clear h0
    go_enter Tryz.func84, Tryz.ntmps84
    go_wp2_with fail
    refine HN.out.mono ?_
    rintro e w1 ⟨rfl, c1, g1⟩
    have C1 := Lib.hid c1
    have G1 := Lib.hid g1
    clear c1 g1
    go_wp2_with fail
    go_ret2
    exact ⟨rfl, C1.out, G1.out⟩

theorem OwnE.far {ty : TypeId} {base b : Nat} {w w' : World} {v : Value} {xs : List Ent} (h : OwnE ty base w v xs) (g : w.grownBy w' (some b)) (hb : b < base) : OwnE ty base w' v xs :=
  h.kept g (by
    cases e : v.ownBlock with
    | none => exact .inl rfl
    | some k => right; intro e2; injection e2 with e3; have := (h.lt k e).1; omega)

/-! A row -/
set_option maxHeartbeats 2000000 in
set_option maxRecDepth 100000 in
theorem row_any (W w : World) (b : Nat) (s : ByteArray) (k : Nat) (a : ByteArray) (f : Bool) (hs : s.size ≤ 450000) (ha : a.size ≤ 450000) (hT : tb.Tab W) (hW : W.grownBy w none) (hb : W.heap.size ≤ b) (hc : Cur w b s k) :
    Calls Tryz.prog 51 #[.pointer (some ⟨b, 0, none⟩), .string a, .bool f] w fun e w' => ∃ k' v, e = .returned (.tuple #[.agg #[v, .int .u64 ((rowR (s.data.toList.drop k) a.data.toList f).1.n : Nat)], .int .i64 ((rowR (s.data.toList.drop k) a.data.toList f).2.2 : Nat)]) ∧ Cur w' b s k' ∧
      OwnE 115 w.heap.size w' v (rowR (s.data.toList.drop k) a.data.toList f).1.d ∧ ((rowR (s.data.toList.drop k) a.data.toList f).2.2 = 0 → s.data.toList.drop k' = (rowR (s.data.toList.drop k) a.data.toList f).2.1) ∧ w.grownBy w' (some b) := by
  have HN := Lib.hid (fun w1 (h : Cur w1 b s k) => px.next_some w1 b s k a f h (by omega) (by omega))
  have hcd := nextP_code (s.data.toList.drop k) a.data.toList f
  have hnl := @nextP_len (s.data.toList.drop k) a.data.toList f
  have hal : a.data.toList.length = a.size := by simp
  have hsl : (s.data.toList.drop k).length ≤ s.size := by simp
  rw [hal] at hnl
  have HT := Lib.hid (fun w1 (g : w.grownBy w1 (some b)) => tb.kept hT (only_new hW g hb))
  have HX : Hid (rowR (s.data.toList.drop k) a.data.toList f = if (nextP (s.data.toList.drop k) a.data.toList f).2.2 ≠ 0 then (⟨[], 0⟩, [], (nextP (s.data.toList.drop k) a.data.toList f).2.2)
    else if (parseD (nextP (s.data.toList.drop k) a.data.toList f).1).2 ≠ 0 then (⟨[], 0⟩, [], (parseD (nextP (s.data.toList.drop k) a.data.toList f).1).2)
    else if (numR (nextP (s.data.toList.drop k) a.data.toList f).2.1).2 ≠ 0 then (⟨[], 0⟩, [], (numR (nextP (s.data.toList.drop k) a.data.toList f).2.1).2)
    else (⟨(parseD (nextP (s.data.toList.drop k) a.data.toList f).1).1, (numR (nextP (s.data.toList.drop k) a.data.toList f).2.1).1⟩, (nextP (s.data.toList.drop k) a.data.toList f).2.1.drop (getR (nextP (s.data.toList.drop k) a.data.toList f).2.1).2.1, 0)) := rfl
  have hblt : b < w.heap.size := hc.lt
  have C0 := Lib.hid (hc.kept (only_alloc (only_refl w none) (.cells #[.slice none 0 0, .int .u64 0] 80)) (by simp))
  have G0 := Lib.hid (only_alloc (only_refl w (some b)) (.cells #[.slice none 0 0, .int .u64 0] 80))
  have B0 := Lib.hid (heap_alloc_new w (.cells #[.slice none 0 0, .int .u64 0] 80))
  have hne : some w.heap.size ≠ some b := by simp; omega
  have HNE := Lib.hid hne
  clear hT hW hc hal hne
  generalize rowR (s.data.toList.drop k) a.data.toList f = R at *
  generalize nextP (s.data.toList.drop k) a.data.toList f = Q at *
  obtain ⟨t, rest, q⟩ := Q
  simp only at HN hcd hnl HX
  by_cases hq : q = 0
  · subst hq
    have hn1 := (hnl rfl).1
    have HXq1 := Lib.hid (HX.out.trans (if_neg (by simp)))
    have HPA := Lib.hid (fun w1 (h : tb.Tab w1) => dd.parse_any (txt t) w1 (by rw [txt_size]; omega) h)
    rw [txt_list] at HPA
    have hpl := parseD_lt t
    generalize parseD t = P at *
    obtain ⟨d, g⟩ := P
    simp only at HPA hpl HXq1
    clear hnl
    by_cases hg : g = 0
    · subst hg
      have HXq2 := Lib.hid (HXq1.out.trans (if_neg (by simp)))
      have HNU := Lib.hid (fun w1 k1 (h : Cur w1 b s k1) => number_any w1 b s k1 h)
      have hnl2 := numR_lt rest
      have hnb : (numR rest).1 < 18446744073709551616 := by
        have := (getR_bounds rest).1
        unfold numR
        split
        · simp
        split
        · simp
        · exact this
      by_cases hm : (numR rest).2 = 0
      · have HXq3 := Lib.hid (HXq2.out.trans (if_neg (by simp [hm])))
        have HM := Lib.hid hm
        go_enter Tryz.func51, Tryz.ntmps51
        go_wp2_with fail
        refine (HN.out _ C0.out).mono ?_
        rintro e w1 ⟨k1, rfl, c1, hk1, g1⟩
        have hd1 : s.data.toList.drop k1 = rest := by first | exact hk1 rfl | exact hk1 trivial
        have C1 := Lib.hid c1
        have G1 := Lib.hid (only_trans G0.out g1)
        have B1 := Lib.hid (heap_kept B0.out g1 HNE.out)
        clear c1 g1 hk1
        go_wp2_with fail
        refine (HPA.out _ (HT.out _ G1.out)).mono ?_
        rintro e w2 ⟨v, rfl, o2, g2⟩
        have C2 := Lib.hid (C1.out.kept g2 (by simp))
        have G2 := Lib.hid (only_trans G1.out (only_of_none g2 _))
        have B2 := Lib.hid (heap_kept B1.out g2 (by simp))
        have hw1 : w.heap.size + 1 ≤ w1.heap.size := (Array.getElem?_eq_some_iff.1 B1.out).1
        have O2 := Lib.hid (OwnE.mono (base' := w.heap.size + 1) o2 hw1)
        obtain ⟨va, vc, rfl⟩ := o2.es.shape
        clear o2 g2
        have HN3 := HNU.out _ _ C2.out
        rw [hd1] at HN3
        have HN3 := Lib.hid HN3
        have HD3 : Hid (s.data.toList.drop (k1 + (getR rest).2.1) = rest.drop (getR rest).2.1) := by show _ = _; rw [← hd1, List.drop_drop]
        clear hd1 hm
        generalize numR rest = nr at *
        obtain ⟨n, z⟩ := nr
        simp only at HN3 HXq3 HM hnl2 hnb
        obtain rfl : z = 0 := HM.out
        go_wp2_with fail
        refine HN3.out.mono ?_
        rintro e w3 ⟨rfl, c3, g3⟩
        have C3 := Lib.hid c3
        have G3 := Lib.hid (only_trans G2.out g3)
        have B3 := Lib.hid (heap_kept B2.out g3 HNE.out)
        have O3 := Lib.hid (OwnE.far O2.out g3 (by omega))
        obtain ⟨z0, z1, x0, x1⟩ := cells_of B3.out
        clear c3 g3
        go_wp2_with fail
        rw [HXq3.out]
        exact bodyPost_ret (results_cell2 rfl _ _ w.heap.size 80 #[.slice va d.length vc, .int .u64 (n : Nat)] (0, 0) _ rfl (heap_setc (heap_setc B3.out)) Tryz.underlying80 rfl (by kernel_rfl)) rfl ⟨_, .slice va d.length vc, rfl, C3.out.kept (only_setCell (only_setCell (only_refl _ (some w.heap.size)) (.inl rfl) _) (.inl rfl) _) (fun e => HNE.out e.symm), OwnE.mono (OwnE.far O3.out (only_setCell (only_setCell (only_refl _ (some w.heap.size)) (.inl rfl) _) (.inl rfl) _) (Nat.lt_succ_self _)) (Nat.le_succ _), fun _ => HD3.out, only_setCell (only_setCell G3.out (.inr (Nat.le_refl _)) _) (.inr (Nat.le_refl _)) _⟩
      · have HXq4 := Lib.hid (HXq2.out.trans (if_pos hm))
        have HM := Lib.hid hm
        go_enter Tryz.func51, Tryz.ntmps51
        go_wp2_with fail
        refine (HN.out _ C0.out).mono ?_
        rintro e w1 ⟨k1, rfl, c1, hk1, g1⟩
        have hd1 : s.data.toList.drop k1 = rest := by first | exact hk1 rfl | exact hk1 trivial
        have C1 := Lib.hid c1
        have G1 := Lib.hid (only_trans G0.out g1)
        have B1 := Lib.hid (heap_kept B0.out g1 HNE.out)
        clear c1 g1 hk1
        go_wp2_with fail
        refine (HPA.out _ (HT.out _ G1.out)).mono ?_
        rintro e w2 ⟨v, rfl, o2, g2⟩
        have C2 := Lib.hid (C1.out.kept g2 (by simp))
        have G2 := Lib.hid (only_trans G1.out (only_of_none g2 _))
        have B2 := Lib.hid (heap_kept B1.out g2 (by simp))
        have hw1 : w.heap.size + 1 ≤ w1.heap.size := (Array.getElem?_eq_some_iff.1 B1.out).1
        have O2 := Lib.hid (OwnE.mono (base' := w.heap.size + 1) o2 hw1)
        obtain ⟨va, vc, rfl⟩ := o2.es.shape
        clear o2 g2
        have HN3 := HNU.out _ _ C2.out
        rw [hd1] at HN3
        have HN3 := Lib.hid HN3
        clear hd1 hm
        generalize numR rest = nr at *
        obtain ⟨n, z⟩ := nr
        simp only at HN3 HXq4 HM hnl2 hnb
        have hqb : ((z : Int) != 0) = true := by have := HM.out; rw [bne_iff_ne]; omega
        go_wp2_with fail
        refine HN3.out.mono ?_
        rintro e w3 ⟨rfl, c3, g3⟩
        have C3 := Lib.hid c3
        have G3 := Lib.hid (only_trans G2.out g3)
        have B3 := Lib.hid (heap_kept B2.out g3 HNE.out)
        have O3 := Lib.hid (OwnE.far O2.out g3 (by omega))
        obtain ⟨z0, z1, x0, x1⟩ := cells_of B3.out
        clear c3 g3
        go_wp2_with fail
        rw [HXq4.out]
        exact bodyPost_ret (results_cell2 rfl _ _ w.heap.size 80 #[.slice none 0 0, .int .u64 0] (0, 0) _ rfl (heap_setc (heap_setc B3.out)) Tryz.underlying80 rfl (by kernel_rfl)) rfl ⟨_, .slice none 0 0, rfl, C3.out.kept (only_setCell (only_setCell (only_refl _ (some w.heap.size)) (.inl rfl) _) (.inl rfl) _) (fun e => HNE.out e.symm), OwnE.nil _ _ _, fun e => absurd e HM.out, only_setCell (only_setCell G3.out (.inr (Nat.le_refl _)) _) (.inr (Nat.le_refl _)) _⟩
    · have HXq5 := Lib.hid (HXq1.out.trans (if_pos hg))
      have hqb : ((g : Int) != 0) = true := by rw [bne_iff_ne]; omega
      have HQ := Lib.hid hg
      clear hg
      go_enter Tryz.func51, Tryz.ntmps51
      go_wp2_with fail
      refine (HN.out _ C0.out).mono ?_
      rintro e w1 ⟨k1, rfl, c1, hk1, g1⟩
      have C1 := Lib.hid c1
      have G1 := Lib.hid (only_trans G0.out g1)
      have B1 := Lib.hid (heap_kept B0.out g1 HNE.out)
      clear c1 g1 hk1
      go_wp2_with fail
      refine (HPA.out _ (HT.out _ G1.out)).mono ?_
      rintro e w2 ⟨v, rfl, o2, g2⟩
      have C2 := Lib.hid (C1.out.kept g2 (by simp))
      have G2 := Lib.hid (only_trans G1.out (only_of_none g2 _))
      have B2 := Lib.hid (heap_kept B1.out g2 (by simp))
      have hw1 : w.heap.size + 1 ≤ w1.heap.size := (Array.getElem?_eq_some_iff.1 B1.out).1
      have O2 := Lib.hid (OwnE.mono (base' := w.heap.size + 1) o2 hw1)
      obtain ⟨va, vc, rfl⟩ := o2.es.shape
      clear o2 g2
      obtain ⟨z0, z1, x0, x1⟩ := cells_of B2.out
      go_wp2_with fail
      rw [HXq5.out]
      exact bodyPost_ret (results_cell2 rfl _ _ w.heap.size 80 #[.slice none 0 0, .int .u64 0] (0, 0) _ rfl (heap_setc (heap_setc B2.out)) Tryz.underlying80 rfl (by kernel_rfl)) rfl ⟨_, .slice none 0 0, rfl, C2.out.kept (only_setCell (only_setCell (only_refl _ (some w.heap.size)) (.inl rfl) _) (.inl rfl) _) (fun e => HNE.out e.symm), OwnE.nil _ _ _, fun e => absurd e HQ.out, only_setCell (only_setCell G2.out (.inr (Nat.le_refl _)) _) (.inr (Nat.le_refl _)) _⟩
  · have HXq6 := Lib.hid (HX.out.trans (if_pos hq))
    have hqb : ((q : Int) != 0) = true := by rw [bne_iff_ne]; omega
    have HQ := Lib.hid hq
    clear hq hnl
    go_enter Tryz.func51, Tryz.ntmps51
    go_wp2_with fail
    refine (HN.out _ C0.out).mono ?_
    rintro e w1 ⟨k1, rfl, c1, hk1, g1⟩
    have C1 := Lib.hid c1
    have G1 := Lib.hid (only_trans G0.out g1)
    have B1 := Lib.hid (heap_kept B0.out g1 HNE.out)
    clear c1 g1 hk1
    obtain ⟨z0, z1, x0, x1⟩ := cells_of B1.out
    go_wp2_with fail
    rw [HXq6.out]
    exact bodyPost_ret (results_cell2 rfl _ _ w.heap.size 80 #[.slice none 0 0, .int .u64 0] (0, 0) _ rfl (heap_setc (heap_setc B1.out)) Tryz.underlying80 rfl (by kernel_rfl)) rfl ⟨_, .slice none 0 0, rfl, C1.out.kept (only_setCell (only_setCell (only_refl _ (some w.heap.size)) (.inl rfl) _) (.inl rfl) _) (fun e => HNE.out e.symm), OwnE.nil _ _ _, fun e => absurd e HQ.out, only_setCell (only_setCell G1.out (.inr (Nat.le_refl _)) _) (.inr (Nat.le_refl _)) _⟩

end Go.Proofs.YtbebdaglkjhbjaaGreatDoor.ka

/-
  The developers' package pack: Next, Get, Put.
-/
namespace Go.Proofs.YtbebdaglkjhbjaaGreatDoor.ka
open Go.RowKit Go.Proofs.YtbebdaglkjhbjaaGreatDoor.vi Go.Proofs.YtbebdaglkjhbjaaGreatDoor.um Go.Proofs.YtbebdaglkjhbjaaGreatDoor.wm Go.Proofs.YtbebdaglkjhbjaaGreatDoor.tr Go.Proofs.YtbebdaglkjhbjaaGreatDoor.em Go.Proofs.YtbebdaglkjhbjaaGreatDoor.rm Go.Proofs.YtbebdaglkjhbjaaGreatDoor.crc Go.Proofs.YtbebdaglkjhbjaaGreatDoor.cur Go.Proofs.YtbebdaglkjhbjaaGreatDoor.law11 Go.Proofs.YtbebdaglkjhbjaaGreatDoor.dd Go.Proofs.YtbebdaglkjhbjaaGreatDoor.dr Go.Proofs.YtbebdaglkjhbjaaGreatDoor.tm Go.Proofs.YtbebdaglkjhbjaaGreatDoor.tf Go.Proofs.YtbebdaglkjhbjaaGreatDoor.rr Go.Proofs.YtbebdaglkjhbjaaGreatDoor.pk Go.Proofs.YtbebdaglkjhbjaaGreatDoor.kr Go.Proofs.YtbebdaglkjhbjaaGreatDoor.bd Go.Proofs.YtbebdaglkjhbjaaGreatDoor.ti
set_option linter.unusedVariables false
set_option linter.unusedSimpArgs false

theorem OwnR.far {ty : TypeId} {base b : Nat} {S : Nat → Prop} {w w' : World} {v : Value} {rs : List Rw} (h : OwnR ty base S w v rs) (g : w.grownBy w' (some b)) (hb : b < base) (hS : ∀ k, S k → base ≤ k) : OwnR ty base S w' v rs := by
  have hlt := h.lt
  obtain ⟨uv, h1, h2, h3, h4⟩ := h
  have hc : Chg (fun k => k = b) w w' := Chg.of_grown g (fun k e => .inl (by cases e; rfl))
  refine ⟨uv, World.ownsRow.kept h1 g (by
    cases e : v.ownBlock with
    | none => exact .inl rfl
    | some k => right; intro e2; injection e2 with e3; have := (hlt k e).1; omega), fun i r hr => (h2 i r hr).kept hc (fun k hk e => by have := hS k hk; omega), fun k hk => Nat.lt_of_lt_of_le (h3 k hk) g.size, h4⟩

set_option maxHeartbeats 4000000 in
set_option maxRecDepth 100000 in
theorem next_any (W w : World) (b : Nat) (s : ByteArray) (k : Nat) (hs : s.size ≤ 450000) (hT : tb.Tab W) (hW : W.grownBy w none) (hb : W.heap.size ≤ b) (hc : Cur w b s k) :
    Calls Tryz.prog 16 #[.pointer (some ⟨b, 0, none⟩)] w fun e w' => ∃ k' v, e = .returned (.tuple #[v, .int .i64 ((nextK (s.data.toList.drop k)).2.2 : Nat)]) ∧ Cur w' b s k' ∧
      (∃ T : Nat → Prop, OwnR 80 w.heap.size T w' v (nextK (s.data.toList.drop k)).1 ∧ ∀ k, T k → w.heap.size ≤ k) ∧ ((nextK (s.data.toList.drop k)).2.2 = 0 → s.data.toList.drop k' = (nextK (s.data.toList.drop k)).2.1) ∧ w.grownBy w' (some b) := by
  have HC := Lib.hid (count_any w b s k hc)
  have hgb := getR_bounds (s.data.toList.drop k)
  have HX : Hid (nextK (s.data.toList.drop k) = if (getR (s.data.toList.drop k)).2.2 ≠ 0 then ([], [], (getR (s.data.toList.drop k)).2.2) else if 256 < (getR (s.data.toList.drop k)).1 then ([], [], 13) else readK (getR (s.data.toList.drop k)).1 [] true ((s.data.toList.drop k).drop (getR (s.data.toList.drop k)).2.1)) := rfl
  have HNIL := Lib.hid (fun (w' : World) => OwnR.nil 80 w.heap.size (fun _ => False) w' (fun k e => e.elim))
  have hblt : b < w.heap.size := hc.lt
  rw [List.drop_drop] at HX
  unfold cntR at HC
  generalize nextK (s.data.toList.drop k) = R at *
  generalize getR (s.data.toList.drop k) = r at *
  obtain ⟨x, m, E⟩ := r
  simp only at HC hgb HX
  obtain ⟨hx, -, -, hE, -⟩ := hgb
  clear hc
  have main : E = 0 → x ≤ 256 → Calls Tryz.prog 16 #[.pointer (some ⟨b, 0, none⟩)] w fun e w' => ∃ k' v, e = .returned (.tuple #[v, .int .i64 (R.2.2 : Nat)]) ∧ Cur w' b s k' ∧
      (∃ T : Nat → Prop, OwnR 80 w.heap.size T w' v R.1 ∧ ∀ k, T k → w.heap.size ≤ k) ∧ (R.2.2 = 0 → s.data.toList.drop k' = R.2.1) ∧ w.grownBy w' (some b) := by
    intro h0 h1
    subst h0
    have HXq1 := Lib.hid (HX.out.trans ((if_neg (by simp)).trans (if_neg (by omega))))
    have HXq2 := Lib.hid (HXq1.out.trans (glK_nil _ (readK_err x [] true (s.data.toList.drop (k + m)))))
    have HC2 : Hid (Calls Tryz.prog 50 #[.pointer (some ⟨b, 0, none⟩)] w fun e w' => e = .returned (.tuple #[.int .u64 (x : Nat), .int .i64 0]) ∧ Cur w' b s (k + m) ∧ w.grownBy w' (some b)) := by
      have := HC.out
      rw [if_neg (by simp), if_neg (by omega)] at this
      exact this
    have HRW := Lib.hid (fun w1 k1 A (hA : A.length ≤ 450000) (g : w.grownBy w1 (some b)) (h : Cur w1 b s k1) (f : Bool) => row_any W w1 b s k1 (txt A) f hs (by rw [txt_size]; exact hA) hT (only_new hW g hb) hb h)
    have hsl : ∀ j, (s.data.toList.drop j).length ≤ s.size := fun j => by simp
    clear HC hT hW hb
    go_enter Tryz.func16, Tryz.ntmps16
    go_wp2_with fail
    refine HC2.out.mono ?_
    rintro e w1 ⟨rfl, c1, g1⟩
    have C1 := Lib.hid c1
    have G1 := Lib.hid g1
    clear c1 g1
    go_wp2_with fail
    go_loopw [6, 7, 20] (fun vo va vi wr => ∃ (acc : List Rw) (A : Bs) (k1 : Nat) (T : Nat → Prop), acc.length ≤ x ∧ va = .string (txt A) ∧ vi = .int .u64 acc.length ∧ OwnR 80 w.heap.size T wr vo acc ∧ (∀ k, T k → w.heap.size ≤ k) ∧ Cur wr b s k1 ∧ A.length + (s.data.toList.drop k1).length ≤ s.size ∧ w.grownBy wr (some b) ∧ R = glK acc (readK (x - acc.length) A ((acc.length : Int) == 0) (s.data.toList.drop k1))) (fun _ _ vi _ => x - (intOf vi).toNat)
    case atStart => exact ⟨[], [], k + m, fun _ => False, Nat.zero_le _, rfl, rfl, HNIL.out _, fun k e => e.elim, C1.out, by simp, G1.out, HXq2.out⟩
    case round =>
      obtain ⟨acc, A, k1, T, hi, rfl, rfl, ho, hT, hc, hAL, hg, hr⟩ := hrel
      have HO := Lib.hid ho
      have HTT := Lib.hid hT
      have HGr := Lib.hid hg
      have HR := Lib.hid hr
      have HCu := Lib.hid hc
      have hwz : w.heap.size ≤ wr.heap.size := hg.size
      have hvb := ho.lt
      obtain ⟨oa, oc, rfl⟩ := ho.rd.shape
      clear ho hT hg hr hc HXq2 HC2 C1 G1
      by_cases hlt : acc.length < x
      · obtain ⟨n, hn⟩ : ∃ n, x - acc.length = n + 1 := ⟨x - acc.length - 1, by omega⟩
        have HST := Lib.hid (HR.out.trans ((congrArg (fun z => glK acc (readK z A ((acc.length : Int) == 0) (s.data.toList.drop k1))) hn).trans (glK_row acc n A ((acc.length : Int) == 0) (s.data.toList.drop k1))))
        have HROW := Lib.hid (HRW.out wr k1 A (by omega) HGr.out HCu.out ((acc.length : Int) == 0))
        rw [txt_list] at HROW
        have HOKR := Lib.hid (@rowR_ok (s.data.toList.drop k1) A ((acc.length : Int) == 0))
        have hql := rowR_lt (s.data.toList.drop k1) A ((acc.length : Int) == 0)
        clear HR
        generalize rowR (s.data.toList.drop k1) A ((acc.length : Int) == 0) = Q at *
        obtain ⟨r, L', q⟩ := Q
        simp only at HST HROW HOKR hql
        by_cases hq : q = 0
        · subst hq
          obtain ⟨⟨f1, f2, f3, f4⟩, -, -, hln, -, -⟩ := HOKR.out rfl
          have HSTq1 := Lib.hid (HST.out.trans (if_neg (by simp)))
          have hkey : key r = keyD r.d := rfl
          clear HOKR
          go_wp2_with fail
          refine HROW.out.mono ?_
          rintro e w2 ⟨k2, v, rfl, c2, o2, hk2, g2⟩
          have hd2 : s.data.toList.drop k2 = L' := by first | exact hk2 rfl | exact hk2 trivial
          have HD2 := Lib.hid hd2
          have C2 := Lib.hid c2
          have G2 := Lib.hid (only_trans HGr.out g2)
          have O2 := Lib.hid (OwnR.far HO.out g2 hblt HTT.out)
          have HE2 := Lib.hid (law13.ess_own o2)
          have hw2 : wr.heap.size ≤ w2.heap.size := g2.size
          obtain ⟨va, vc, rfl⟩ := o2.es.shape
          clear c2 o2 hk2 g2 hd2
          have GA := only_alloc (only_refl w2 none) (.cells #[.slice va r.d.length vc, .int .u64 (r.n : Nat)] 80)
          have hsa : (w2.alloc (.cells #[.slice va r.d.length vc, .int .u64 (r.n : Nat)] 80)).heap.size = w2.heap.size + 1 := by simp
          have C3 := Lib.hid (C2.out.kept GA (by simp))
          have G3 := Lib.hid (only_trans G2.out (only_of_none GA _))
          have O3 := Lib.hid (O2.out.grown GA)
          have HE3 := Lib.hid (HE2.out.grown GA)
          have D0 := Lib.hid (show (w2.alloc (.cells #[.slice va r.d.length vc, .int .u64 (r.n : Nat)] 80)).cell? ⟨w2.heap.size, 0, none⟩ = some (.slice va r.d.length vc) by rw [cell_new]; rfl)
          have D1 := Lib.hid (show (w2.alloc (.cells #[.slice va r.d.length vc, .int .u64 (r.n : Nat)] 80)).cell? ⟨w2.heap.size, 1, none⟩ = some (.int .u64 (r.n : Nat)) by rw [cell_new]; rfl)
          clear GA C2 G2 O2 HE2
          have GB := only_alloc (only_refl (w2.alloc (.cells #[.slice va r.d.length vc, .int .u64 (r.n : Nat)] 80)) none) (.cells #[.slice va r.d.length vc, .int .u64 (r.n : Nat)] 80)
          have C4 := Lib.hid (C3.out.kept GB (by simp))
          have G4 := Lib.hid (only_trans G3.out (only_of_none GB _))
          have O4 := Lib.hid (O3.out.grown GB)
          have HE4 := Lib.hid (HE3.out.grown GB)
          have E0 := Lib.hid ((Chg.of_none (S := fun _ => False) GB).cell D0.out (fun e => e))
          have hone := rs_one (w2.alloc (.cells #[.slice va r.d.length vc, .int .u64 (r.n : Nat)] 80)) _ _ r 80 HE3.out
          rw [hsa] at hone
          have HONE := Lib.hid hone
          clear GB hone
          go_wp2_with (at_builtin; refine wpList_append_rs rfl _ _ 32 80 rfl _ Tryz.underlying32 ti.Tryz.infoTR rfl w.heap.size _ _ _ acc [r] rfl O4.out _ rfl HONE.out ?c1 ?c2 ?c3 ?c4 ?_)
          case c1 => intro k hk; simp at hk ⊢; omega
          case c2 => intro k e hk; have := hvb k e; (try simp at hk); omega
          case c3 => simp; omega
          case c4 => simp; omega
          intro v5 w5 ho5 hg5
          have HO5 := Lib.hid ho5
          have hc5 : Chg (fun k => Value.ownBlock (.slice oa acc.length oc) = some k) _ w5 := Chg.of_grown hg5 (fun k e => .inl e)
          have e0 : w5.cell? ⟨w2.heap.size, 0, none⟩ = some (.slice va r.d.length vc) := hc5.cell E0.out (fun e => by have h9 : w2.heap.size < wr.heap.size := (hvb _ e).2; omega)
          have HE5 := Lib.hid (HE4.out.kept hc5 (fun k hk e => by have := hvb k e; have hk2 : wr.heap.size ≤ k ∧ k < w2.heap.size := hk; omega))
          have C5 := Lib.hid (C4.out.kept hg5 (fun e => by have := (hvb _ e.symm).1; omega))
          have G5 := Lib.hid (only_row G4.out hg5 (fun k e => (hvb k e).1))
          clear ho5 hg5 hc5
          obtain ⟨pa, pc, hv5⟩ := HO5.out.rd.shape
          obtain ⟨N, hN⟩ : ∃ N, N = (acc ++ [r]).length := ⟨_, rfl⟩
          rw [← hN] at hv5
          subst hv5
          clear hN
          have HKY := Lib.hid (fun w6 (g : w5.grownBy w6 none) => dd.key_any r.d _ w6 _ f1 f2 f3 ((HE5.out.grown g).es))
          go_wp2_with fail
          refine (HKY.out _ (only_refl _ _)).mono ?_
          rintro e w6 ⟨rfl, g6⟩
          have HO6 := Lib.hid (HO5.out.grown g6)
          have C6 := Lib.hid (C5.out.kept g6 (by simp))
          have G6 := Lib.hid (only_trans G5.out (only_of_none g6 _))
          clear g6
          go_wp2_with fail
          go_roundw
          case rel =>
            refine ⟨acc ++ [r], keyD r.d, k2, _, by simp; omega, rfl, by rw [List.length_append]; go_num, HO6.out, fun k hk => ?_, C6.out, ?_, G6.out, ?_⟩
            · rcases hk with hk | hk
              · exact HTT.out k hk
              · (try simp at hk); omega
            · rw [HD2.out]; rw [hkey] at hln; omega
            · rw [HSTq1.out, HD2.out, hkey, show x - (acc ++ [r]).length = n by simp; omega]
              congr 2
              rw [eq_comm, beq_eq_false_iff_ne]
              simp
              omega
          case measure => simp [intOf]; omega
        · have HSTq2 := Lib.hid (HST.out.trans (if_pos hq))
          have hqb : ((q : Int) != 0) = true := by rw [bne_iff_ne]; omega
          have HQ := Lib.hid hq
          clear hq HOKR
          go_wp2_with fail
          refine HROW.out.mono ?_
          rintro e w2 ⟨k2, v, rfl, c2, o2, hk2, g2⟩
          have G2 := Lib.hid (only_trans HGr.out g2)
          obtain ⟨va, vc, rfl⟩ := o2.es.shape
          have C3 := Lib.hid (c2.kept (only_alloc (only_refl w2 none) (.cells #[.slice va r.d.length vc, .int .u64 (r.n : Nat)] 80)) (by simp))
          have G3 := Lib.hid (only_alloc G2.out (.cells #[.slice va r.d.length vc, .int .u64 (r.n : Nat)] 80))
          clear c2 o2 hk2 g2
          go_wp2_with fail
          go_ret2
          rw [HSTq2.out]
          exact ⟨_, _, rfl, C3.out, ⟨_, HNIL.out _, fun k e => e.elim⟩, fun e => absurd e HQ.out, G3.out⟩
      · have hie : x - acc.length = 0 := by omega
        rw [hie, glK_zero] at HR
        go_wp2_with fail
        go_ret2
        rw [HR.out]
        exact ⟨_, _, rfl, HCu.out, ⟨T, HO.out, HTT.out⟩, fun _ => rfl, HGr.out⟩
  by_cases h0 : E = 0
  · subst h0
    by_cases h1 : 256 < x
    · have HXq3 := Lib.hid (HX.out.trans ((if_neg (by simp)).trans (if_pos h1)))
      have HC2 : Hid (Calls Tryz.prog 50 #[.pointer (some ⟨b, 0, none⟩)] w fun e w' => e = .returned (.tuple #[.int .u64 (0 : Nat), .int .i64 (13 : Nat)]) ∧ Cur w' b s (k + m) ∧ w.grownBy w' (some b)) := by
        have := HC.out
        rw [if_neg (by simp), if_pos h1] at this
        exact this
      clear HC main
      go_enter Tryz.func16, Tryz.ntmps16
      go_wp2_with fail
      refine HC2.out.mono ?_
      rintro e w1 ⟨rfl, c1, g1⟩
      have C1 := Lib.hid c1
      have G1 := Lib.hid g1
      clear c1 g1
      go_wp2_with fail
      go_ret2
      rw [HXq3.out]
      exact ⟨_, _, rfl, C1.out, ⟨_, HNIL.out _, fun k e => e.elim⟩, fun e => by simp at e, G1.out⟩
    · exact main rfl (by omega)
  · have HXq4 := Lib.hid (HX.out.trans (if_pos h0))
    have HQ := Lib.hid h0
    have HC2 : Hid (Calls Tryz.prog 50 #[.pointer (some ⟨b, 0, none⟩)] w fun e w' => e = .returned (.tuple #[.int .u64 (0 : Nat), .int .i64 (E : Nat)]) ∧ Cur w' b s (k + m) ∧ w.grownBy w' (some b)) := by
      have := HC.out
      rw [if_pos h0] at this
      exact this
    have hqb : ((E : Int) != 0) = true := by rw [bne_iff_ne]; omega
    clear HC main h0
    go_enter Tryz.func16, Tryz.ntmps16
    go_wp2_with fail
    refine HC2.out.mono ?_
    rintro e w1 ⟨rfl, c1, g1⟩
    have C1 := Lib.hid c1
    have G1 := Lib.hid g1
    clear c1 g1
    go_wp2_with fail
    go_ret2
    rw [HXq4.out]
    exact ⟨_, _, rfl, C1.out, ⟨_, HNIL.out _, fun k e => e.elim⟩, fun e => absurd e HQ.out, G1.out⟩

set_option maxRecDepth 100000 in
theorem get_any (s : ByteArray) (w : World) (hs : s.size ≤ 450000) (hT : tb.Tab w) :
    Calls Tryz.prog 13 #[.string s] w fun e w' => ∃ v, e = .returned (.tuple #[v, .int .i64 ((getK s.data.toList).2 : Nat)]) ∧ (∃ T : Nat → Prop, OwnR 80 w.heap.size T w' v (getK s.data.toList).1 ∧ ∀ k, T k → w.heap.size ≤ k) ∧ w.grownBy w' none := by
  have HO := Lib.hid (over_any s)
  have GA := only_alloc (only_refl w none) (.cells #[.string s, .int .i64 0] 100)
  have HN := Lib.hid (next_any w _ w.heap.size s 0 hs hT GA (Nat.le_refl _) (Cur.new s (by unfold maxLen; omega) w))
  rw [List.drop_zero] at HN
  have HGA := Lib.hid GA
  have hlt := nextK_lt s.data.toList
  have hl : s.data.toList.length = s.size := by simp
  have HNIL := Lib.hid (fun (w' : World) => OwnR.nil 80 w.heap.size (fun _ => False) w' (fun k e => e.elim))
  clear GA hT
  have HP : Hid (getK s.data.toList = if (nextK s.data.toList).2.2 ≠ 0 then ([], (nextK s.data.toList).2.2) else if (nextK s.data.toList).2.1 ≠ [] then ([], 10) else ((nextK s.data.toList).1, 0)) := rfl
  generalize getK s.data.toList = PP at *
  generalize nextK s.data.toList = R at *
  obtain ⟨l, rest, q⟩ := R
  simp only at HN hlt HP
  by_cases h1 : q = 0
  · subst h1
    have HPq1 := Lib.hid (HP.out.trans (if_neg (by simp)))
    go_enter Tryz.func13, Tryz.ntmps13
    go_wp2_with fail
    refine (HO.out _).mono ?_
    rintro e w1 ⟨rfl, rfl⟩
    go_wp2_with fail
    refine HN.out.mono ?_
    rintro e w2 ⟨k, v, rfl, c2, ⟨T, o2, hT2⟩, hk, g2⟩
    have hk2 : s.data.toList.drop k = rest := by first | exact hk rfl | exact hk trivial
    have hk3 := congrArg List.length hk2
    rw [List.length_drop, hl] at hk3
    have HL := Lib.hid (left_some c2)
    have O2 := Lib.hid (OwnR.mono (base' := w.heap.size) o2 (by simp))
    have HT2 := Lib.hid (fun k hk => (by have := hT2 k hk; simp at this; omega : w.heap.size ≤ k))
    have G2 := Lib.hid (only_new HGA.out g2 (Nat.le_refl _))
    obtain ⟨va, vc, rfl⟩ := o2.rd.shape
    clear c2 o2 hk g2 hk2 hT2
    by_cases h2 : rest = []
    · have HPq2 := Lib.hid (HPq1.out.trans (if_neg (by simp [h2])))
      subst h2
      rw [List.length_nil] at hk3
      rw [hk3] at HL
      go_wp2_with fail
      refine HL.out.mono ?_
      rintro e w3 ⟨rfl, n, rfl⟩
      go_wp2_with fail
      go_ret2
      rw [HPq2.out]
      exact ⟨_, rfl, ⟨_, O2.out.grown (only_drewN (only_refl _ _) _), HT2.out⟩, only_drewN G2.out _⟩
    · have HPq3 := Lib.hid (HPq1.out.trans (if_pos h2))
      have h3 : rest.length ≠ 0 := fun e => h2 (List.length_eq_zero_iff.1 e)
      rw [hk3] at HL
      generalize rest.length = m at *
      have h4 : (0 : Int) < (m : Int) := by omega
      go_wp2_with fail
      refine HL.out.mono ?_
      rintro e w3 ⟨rfl, n, rfl⟩
      go_wp2_with fail
      go_ret2
      rw [HPq3.out]
      exact ⟨_, rfl, ⟨_, HNIL.out _, fun k e => e.elim⟩, only_drewN G2.out _⟩
  · have HPq4 := Lib.hid (HP.out.trans (if_pos h1))
    have hqb : ((q : Int) != 0) = true := by rw [bne_iff_ne]; omega
    go_enter Tryz.func13, Tryz.ntmps13
    go_wp2_with fail
    refine (HO.out _).mono ?_
    rintro e w1 ⟨rfl, rfl⟩
    go_wp2_with fail
    refine HN.out.mono ?_
    rintro e w2 ⟨k, v, rfl, c2, ⟨T, o2, hT2⟩, hk, g2⟩
    have G2 := Lib.hid (only_new HGA.out g2 (Nat.le_refl _))
    obtain ⟨va, vc, rfl⟩ := o2.rd.shape
    clear c2 o2 hk g2
    go_wp2_with fail
    go_ret2
    rw [HPq4.out]
    exact ⟨_, rfl, ⟨_, HNIL.out _, fun k e => e.elim⟩, G2.out⟩

/-! Put -/
theorem textK_len : ∀ (t : List Rw) (a : Bs), (∀ r ∈ t, (key r).length ≤ 30000 ∧ r.n < 18446744073709551616) → (rowsK a t).length ≤ t.length * 30030
  | [], a, _ => by simp [rowsK]
  | x :: r, a, h => by
    have h1 := h x (by simp)
    have h2 := rowK_len a x 30000 h1.1 (by omega) h1.2
    have h3 := textK_len r (key x) fun y hy => h y (by simp [hy])
    simp only [rowsK, List.length_append, List.length_cons]
    omega

set_option maxHeartbeats 4000000 in
set_option maxRecDepth 100000 in
theorem put_any (rs : List Rw) (S : Nat → Prop) (w : World) (v : Value) (hl : rs.length ≤ maxLen) (hz : ∀ r ∈ rs, Rok r) (hT : tb.Tab w) (h : Rs S w v rs) :
    Calls Tryz.prog 10 #[v] w fun e w' => e = .returned (.tuple #[.string (txt (putK rs).1), .int .i64 ((putK rs).2 : Nat)]) ∧ w.grownBy w' none := by
  have HC := Lib.hid (ti.tcheck_any rs S w v hl hz hT h)
  have HX : Hid (putK rs = if checkT rs ≠ 0 then ([], checkT rs) else (textK rs, 0)) := rfl
  have hcl := checkT_lt rs
  have hck := checkT_ok rs
  have HS := Lib.hid h
  have HZ := Lib.hid hz
  obtain ⟨a, cap, rfl⟩ := h.shape
  generalize putK rs = R at *
  generalize checkT rs = c at *
  clear h hz
  by_cases hc : c = 0
  · subst hc
    have HX2 := Lib.hid (HX.out.trans (if_neg (by simp)))
    obtain ⟨k1, k2, k3⟩ := hck.1 rfl
    have HF := Lib.hid (fun r (hr : r ∈ rs) => ti.fit_ok (k2 r hr) (HZ.out r hr).2.2)
    have HK := Lib.hid (fun r (hr : r ∈ rs) => key_fit (k2 r hr))
    have HPL := Lib.hid (pk_len rs 30000 HK.out)
    have HP := Lib.hid (fun w => vi.put_any rs.length (by omega) w)
    have hmod : (rs.length : Int) % 18446744073709551616 = rs.length := by omega
    have HTX : Hid (textK rs = enc rs.length ++ rowsK (pk rs 0) (rs.drop 0)) := rfl
    have hel := enc_len_ten (n := rs.length) (by omega)
    have hn : (encB rs.length).size = (enc rs.length).length := by rw [encB_txt, txt_size]
    have HN : Hid ((encB rs.length).data.toList = enc rs.length) := by
      show _ = _
      rw [encB_txt, txt_list]
    have HB := Lib.hid (fun w0 (g : w.grownBy w0 none) => Bld.new w0 (fun k => w.heap.size ≤ k) g.size)
    have HGA := Lib.hid (fun w0 (g : w.grownBy w0 none) => only_alloc g (.cells #[.pointer none, .slice none 0 0] 85))
    generalize textK rs = X at *
    clear hck HX k2 k3
    go_enter Tryz.func10, Tryz.ntmps10
    go_wp2_with fail
    refine HC.out.mono ?_
    rintro e w1 ⟨rfl, g1⟩
    have G1 := Lib.hid g1
    have hsz1 := g1.size
    have HB1 := Lib.hid (HB.out w1 g1)
    have HG1 := Lib.hid (HGA.out w1 g1)
    clear g1
    go_wp2_with fail
    refine (HP.out _).mono ?_
    rintro e w2 ⟨rfl, g2⟩
    have HB2 := Lib.hid (HB1.out.kept (T := fun _ => False) (Chg.of_none g2) (fun _ _ e => e))
    have HG2 := Lib.hid (only_trans HG1.out g2)
    clear g2
    go_wp2_with fail
    refine (write_any _ _ _ _ _ HB2.out (by rw [hn]; simp; omega)).mono ?_
    rintro e w3 ⟨rfl, g3, b3⟩
    have HG3 := Lib.hid (Chg.none_new HG2.out g3 (fun k e => e))
    rw [HN.out, List.nil_append] at b3
    have HB3 := Lib.hid (b3.mono (T := fun k => w.heap.size ≤ k) (fun k _ hk => by rcases hk with hk | hk; exact hk; have := HG2.out.size; omega))
    clear g3 b3
    go_wp2_with fail
    go_loopw [6, 22] (fun va q wr => ∃ (i : Nat) (acc : Bs), i ≤ rs.length ∧ q = .int .i64 i ∧ va = .string (txt (pk rs i)) ∧ acc.length ≤ 10 + i * 30030 ∧ X = acc ++ rowsK (pk rs i) (rs.drop i) ∧ Bld wr w1.heap.size (fun k => w.heap.size ≤ k) acc ∧ w.grownBy wr none) (fun _ q _ => rs.length - (intOf q).toNat)
    case atStart => exact ⟨0, enc rs.length, Nat.zero_le _, rfl, rfl, by omega, HTX.out, HB3.out, HG3.out⟩
    case round =>
      obtain ⟨i, acc, hi, rfl, rfl, hal, hE, hb, hg⟩ := hrel
      have HG := Lib.hid hg
      have HBi := Lib.hid hb
      clear hg hb HTX HB HGA HB1 HG1 HB2 HG2 HB3 HG3 HP
      by_cases hlt : i < rs.length
      · obtain ⟨x, hx⟩ : ∃ x, rs[i]? = some x := ⟨rs[i], List.getElem?_eq_getElem hlt⟩
        rw [rowsK_next hx, ← List.append_assoc] at hE
        have HE := Lib.hid hE
        have HRi := Lib.hid (HS.out.grown HG.out)
        obtain ⟨b, off, cx, uu, hv, -, hle, hcm, c0, he, c1⟩ := HRi.out.at hx
        simp only [Value.slice.injEq, true_and] at hv
        obtain ⟨rfl, rfl⟩ := hv
        unfold maxLen at hcm
        obtain ⟨xa, xc, rfl⟩ := he.shape
        obtain ⟨z1, z2, z3, z4⟩ := HF.out x (List.mem_of_getElem? hx)
        have hkx := HK.out x (List.mem_of_getElem? hx)
        have hpl := HPL.out i
        have hol := oneP_len (pk rs i) (key x) (by omega)
        have hnl := enc_len_ten z4
        have hrk : rowK (pk rs i) x = oneP (pk rs i) (key x) ++ enc x.n := rfl
        have GA := Lib.hid (only_alloc (only_refl wr none) (.cells #[.slice xa x.d.length xc, .int .u64 (x.n : Nat)] 80))
        have F0 := Lib.hid (heap_alloc_new wr (.cells #[.slice xa x.d.length xc, .int .u64 (x.n : Nat)] 80))
        have HEA := Lib.hid (he.grown GA.out)
        have HGA := Lib.hid (only_trans HG.out GA.out)
        have HBA := Lib.hid (HBi.out.kept (T := fun _ => False) (Chg.of_none GA.out) (fun _ _ e => e))
        have HPX : Hid (pk rs (i + 1) = keyD x.d) := by show _ = _; simp [pk, hx, key]
        have HO := Lib.hid (fun w => px.one_any (txt (pk rs i)) (txt (keyD x.d)) (by rw [txt_size]; omega) (by rw [txt_size]; omega) w)
        rw [txt_list, txt_list] at HO
        have HPN := Lib.hid (fun w => vi.put_any x.n z4 w)
        have hkd : key x = keyD x.d := rfl
        rw [hkd] at hol hrk
        have HEn : Hid ((encB x.n).data.toList = enc x.n) := by show _ = _; rw [encB_txt, txt_list]
        have hen : (encB x.n).size = (enc x.n).length := by rw [encB_txt, txt_size]
        rw [hkd] at hkx
        have hal2 : (acc ++ oneP (pk rs i) (keyD x.d) ++ enc x.n).length ≤ 10 + (i + 1) * 30030 := by rw [List.length_append, List.length_append]; omega
        rw [hrk, ← List.append_assoc] at HE
        have hsw : w.heap.size ≤ wr.heap.size := HG.out.size
        clear he hx HRi GA hkd hrk
        generalize hPK : pk rs i = PI at *
        generalize hONE : oneP PI (keyD x.d) = ON at *
        clear hPK hONE
        go_wp2_with fail
        generalize wr.alloc (.cells #[.slice xa x.d.length xc, .int .u64 (x.n : Nat)] 80) = wa at *
        obtain ⟨d0, d1, -⟩ := ee.cells_of F0.out
        refine (dd.key_any x.d _ wa _ z1 z2 z3 HEA.out.es).mono ?_
        rintro e w4 ⟨rfl, g4⟩
        have G4 := Lib.hid (only_trans HGA.out g4)
        have B4 := Lib.hid (HBA.out.kept (T := fun _ => False) (Chg.of_none g4) (fun _ _ e => e))
        have F4 := Lib.hid (ee.heap_kept F0.out g4 (by simp))
        clear g4 d0 d1
        go_wp2_with fail
        refine (HO.out _).mono ?_
        rintro e w5 ⟨rfl, g5⟩
        have G5 := Lib.hid (only_trans G4.out g5)
        have B5 := Lib.hid (B4.out.kept (T := fun _ => False) (Chg.of_none g5) (fun _ _ e => e)).tight
        have F5 := Lib.hid (ee.heap_kept F4.out g5 (by simp))
        clear g5
        go_wp2_with fail
        refine (write_any _ _ _ _ _ B5.out (by rw [txt_size]; omega)).mono ?_
        rintro e w6 ⟨rfl, g6, b6⟩
        rw [txt_list] at b6
        have G6 := Lib.hid (Chg.none_new G5.out g6 (fun k e => e.1))
        have hs5 : w.heap.size ≤ w5.heap.size := G5.out.size
        have B6 := Lib.hid (b6.mono (T := fun k => w.heap.size ≤ k) (fun k _ hk => by rcases hk with hk | hk; exact hk.1; omega))
        have F6 := Lib.hid ((g6.block _ (Array.getElem?_eq_some_iff.1 F5.out).1 (fun h => by
          obtain ⟨-, cur, ty, fz, h1, h2⟩ := h
          rw [F5.out] at h1
          simp only [Option.some.injEq, Obj.cells.injEq] at h1
          obtain ⟨-, rfl, -⟩ := h1
          rcases h2 with h2 | h2 <;> exact absurd h2 (by decide))).trans F5.out)
        obtain ⟨d0, d1, -⟩ := ee.cells_of F6.out
        clear g6 b6
        go_wp2_with fail
        refine (HPN.out _).mono ?_
        rintro e w7 ⟨rfl, g7⟩
        have G7 := Lib.hid (only_trans G6.out g7)
        have B7 := Lib.hid (B6.out.kept (T := fun _ => False) (Chg.of_none g7) (fun _ _ e => e))
        clear g7 d0 d1
        go_wp2_with fail
        refine (write_any _ _ _ _ _ B7.out (by rw [hen, List.length_append]; omega)).mono ?_
        rintro e w8 ⟨rfl, g8, b8⟩
        rw [HEn.out] at b8
        have G8 := Lib.hid (Chg.none_new G7.out g8 (fun k e => e))
        have hs7 : w.heap.size ≤ w7.heap.size := G7.out.size
        have B8 := Lib.hid (b8.mono (T := fun k => w.heap.size ≤ k) (fun k _ hk => by rcases hk with hk | hk; exact hk; omega))
        clear g8 b8
        go_wp2_with fail
        go_roundw
        case rel => exact ⟨i + 1, _, by omega, by go_num, by rw [HPX.out], hal2, HE.out, B8.out, G8.out⟩
        case measure => simp [intOf]; omega
      · have hie : i = rs.length := by omega
        subst hie
        rw [List.drop_length] at hE
        have HE2 : Hid (X = acc) := by show _ = _; rw [hE]; simp [rowsK]
        clear hE
        go_wp2_with fail
        refine (string_any _ _ _ _ HBi.out).mono ?_
        rintro e w4 ⟨rfl, g4, -⟩
        have HG4 := Lib.hid (Chg.none_new HG.out g4 (fun k e => e))
        clear g4
        go_wp2_with fail
        go_ret2
        rw [HX2.out, HE2.out]
        exact ⟨rfl, HG4.out⟩
  · have HX2 := Lib.hid (HX.out.trans (if_pos hc))
    have hqb : ((c : Int) != 0) = true := by rw [bne_iff_ne]; omega
    go_enter Tryz.func10, Tryz.ntmps10
    go_wp2_with fail
    refine HC.out.mono ?_
    rintro e w1 ⟨rfl, g1⟩
    have G1 := Lib.hid g1
    clear g1
    go_wp2_with fail
    go_ret2
    rw [HX2.out]
    exact ⟨rfl, G1.out⟩

end Go.Proofs.YtbebdaglkjhbjaaGreatDoor.ka
