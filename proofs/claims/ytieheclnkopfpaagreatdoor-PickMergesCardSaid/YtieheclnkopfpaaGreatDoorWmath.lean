/-
  Mathematics of fields as bytes: how they are written (wrL), how they are read (oneW, allW, readD), and that both fit.
-/
import Derived.Test.YtieheclnkopfpaaGreatDoorBundT
import Derived.Test.YtieheclnkopfpaaGreatDoorBundA
namespace Go.Proofs.YtieheclnkopfpaaGreatDoor.wm
open Go.Proofs.YtieheclnkopfpaaGreatDoor.tr Go.Proofs.YtieheclnkopfpaaGreatDoor.vi
set_option linter.unusedVariables false
set_option linter.unusedSimpArgs false

mutual
/-- A field as it is written. -/
def wrT : Tree → List UInt8
  | .mk a ty n x l => enc (4 * a + ty.toNat) ++ (if ty = 0 then enc n else if ty = 2 then enc (wrL l).length ++ wrL l else enc x.size ++ x.data.toList)
/-- Fields as they are written. -/
def wrL : List Tree → List UInt8
  | [] => []
  | t :: r => wrT t ++ wrL r
end

theorem wr_eq (t : Tree) : wrT t = enc (4 * t.tag + t.typ.toNat) ++ (if t.typ = 0 then enc t.num else if t.typ = 2 then enc (wrL t.list).length ++ wrL t.list else enc t.text.size ++ t.text.data.toList) := by
  cases t; rw [wrT]; rfl
theorem wrL_nil : wrL [] = [] := by rw [wrL]
theorem wrL_cons (t : Tree) (r : List Tree) : wrL (t :: r) = wrT t ++ wrL r := by rw [wrL]
theorem wrL_append (a b : List Tree) : wrL (a ++ b) = wrL a ++ wrL b := by
  induction a with
  | nil => rw [List.nil_append, wrL_nil, List.nil_append]
  | cons t r ih => rw [List.cons_append, wrL_cons, wrL_cons, ih, List.append_assoc]

mutual
/-- Numbers of 64 bits alone. -/
def Tree.fits : Tree → Prop | .mk _ _ n _ l => n < 18446744073709551616 ∧ fitsL l
def fitsL : List Tree → Prop | [] => True | t :: r => Tree.fits t ∧ fitsL r
end

theorem fits_eq (t : Tree) : Tree.fits t ↔ t.num < 18446744073709551616 ∧ fitsL t.list := by cases t; rw [Tree.fits]; rfl
theorem fitsL_cons (t : Tree) (r : List Tree) : fitsL (t :: r) ↔ t.num < 18446744073709551616 ∧ fitsL t.list ∧ fitsL r := by rw [fitsL, fits_eq, and_assoc]
theorem fitsL_append (a b : List Tree) : fitsL (a ++ b) ↔ fitsL a ∧ fitsL b := by
  induction a with
  | nil => simp [fitsL]
  | cons t r ih => rw [List.cons_append, fitsL_cons, fitsL_cons, ih]; simp only [and_assoc]

mutual
/-- How many bytes all texts have. -/
def Tree.bulk : Tree → Nat | .mk _ _ _ x l => x.size + bulkL l
def bulkL : List Tree → Nat | [] => 0 | t :: r => Tree.bulk t + bulkL r
end
theorem bulk_eq (t : Tree) : Tree.bulk t = t.text.size + bulkL t.list := by cases t; rw [Tree.bulk]; rfl
theorem bulkL_cons (t : Tree) (r : List Tree) : bulkL (t :: r) = t.text.size + bulkL t.list + bulkL r := by rw [bulkL, bulk_eq]

theorem enc_small_len {n : Nat} (h : n < 18446744073709551616) : (enc n).length ≤ 10 := enc_len_ten h

/-- What may be has few bytes. -/
theorem wr_len : ∀ (m : Nat) (ts : List Tree) (d p : Nat), sizeL ts ≤ m → sizeL ts ≤ 100000 → bulkL ts ≤ 100000000 → fitsL ts → checkL d p ts = 0 → (wrL ts).length ≤ 20 * sizeL ts + bulkL ts
  | m, [], d, p, _, _, _, _, _ => by rw [wrL_nil]; simp
  | 0, t :: r, d, p, h, _, _, _, _ => by rw [sizeL_cons] at h; omega
  | m + 1, t :: r, d, p, h, hs, hb, hf, hc => by
    rw [sizeL_cons] at h hs
    rw [bulkL_cons] at hb
    obtain ⟨f1, f2, f3⟩ := (fitsL_cons t r).1 hf
    obtain ⟨h0, h1, h2, h3, h4, h5, h6⟩ := check_ok hc
    have k1 := wr_len m t.list (d + 1) 0 (by omega) (by omega) (by omega) f2 h5
    have k2 := wr_len m r d t.tag (by omega) (by omega) (by omega) f3 h6
    have hty : 0 ≤ t.typ ∧ t.typ ≤ 2 := by unfold bad at h3; omega
    have e1 := enc_small_len (n := 4 * t.tag + t.typ.toNat) (by omega)
    have e2 := enc_small_len f1
    have e3 := enc_small_len (n := (wrL t.list).length) (by omega)
    have e4 := enc_small_len (n := t.text.size) (by omega)
    rw [wrL_cons, List.length_append, wr_eq, List.length_append, sizeL_cons, bulkL_cons]
    have hx : t.text.data.toList.length = t.text.size := by simp
    split
    · omega
    · split
      · rw [List.length_append]; omega
      · rw [List.length_append]; omega

def zeroT : Tree := .mk 0 0 0 ⟨#[]⟩ []
def txt (l : List UInt8) : ByteArray := ⟨l.toArray⟩
theorem txt_list (l : List UInt8) : (txt l).data.toList = l := rfl
theorem txt_size (l : List UInt8) : (txt l).size = l.length := by show l.toArray.size = _; simp
theorem txt_of (s : ByteArray) : txt s.data.toList = s := by cases s; simp [txt]

/-- The field that bytes begin with, above a tag; sub: what reads a List's fields, if there may be one. -/
def oneW (sub : Option (List UInt8 → List Tree × Nat)) (L : List UInt8) (last : Nat) : Tree × Nat × Nat :=
  if (getR L).2.2 ≠ 0 then (zeroT, 0, (getR L).2.2)
  else if (getR L).1 / 4 = 0 ∨ 4294967296 < (getR L).1 / 4 then (zeroT, 0, 18)
  else if (getR L).1 % 4 = 3 then (zeroT, 0, 8)
  else if (getR L).1 / 4 ≤ last then (zeroT, 0, 7)
  else if (getR (L.drop (getR L).2.1)).2.2 ≠ 0 then (zeroT, 0, (getR (L.drop (getR L).2.1)).2.2)
  else if (getR L).1 % 4 = 0 then (.mk ((getR L).1 / 4) 0 (getR (L.drop (getR L).2.1)).1 ⟨#[]⟩ [], (getR L).2.1 + (getR (L.drop (getR L).2.1)).2.1, 0)
  else if L.length - ((getR L).2.1 + (getR (L.drop (getR L).2.1)).2.1) < (getR (L.drop (getR L).2.1)).1 then (zeroT, 0, 1)
  else if (getR L).1 % 4 = 1 then (.mk ((getR L).1 / 4) 1 0 (txt ((L.drop ((getR L).2.1 + (getR (L.drop (getR L).2.1)).2.1)).take (getR (L.drop (getR L).2.1)).1)) [], (getR L).2.1 + (getR (L.drop (getR L).2.1)).2.1 + (getR (L.drop (getR L).2.1)).1, 0)
  else match sub with
    | none => (zeroT, 0, 9)
    | some p =>
      if (p ((L.drop ((getR L).2.1 + (getR (L.drop (getR L).2.1)).2.1)).take (getR (L.drop (getR L).2.1)).1)).2 ≠ 0 then (zeroT, 0, (p ((L.drop ((getR L).2.1 + (getR (L.drop (getR L).2.1)).2.1)).take (getR (L.drop (getR L).2.1)).1)).2)
      else (.mk ((getR L).1 / 4) 2 0 ⟨#[]⟩ (p ((L.drop ((getR L).2.1 + (getR (L.drop (getR L).2.1)).2.1)).take (getR (L.drop (getR L).2.1)).1)).1, (getR L).2.1 + (getR (L.drop (getR L).2.1)).2.1 + (getR (L.drop (getR L).2.1)).1, 0)

/-- The ways of a field: what is true of it step by step. -/
theorem one_cases (sub : Option (List UInt8 → List Tree × Nat)) (L : List UInt8) (last : Nat) {P : Tree × Nat × Nat → Prop}
    (c1 : (getR L).2.2 ≠ 0 → P (zeroT, 0, (getR L).2.2))
    (c2 : ∀ n k, getR L = (n, k, 0) → 0 < k → k ≤ L.length → n < 18446744073709551616 → (n / 4 = 0 ∨ 4294967296 < n / 4) → P (zeroT, 0, 18))
    (c3 : ∀ n k, getR L = (n, k, 0) → 0 < k → k ≤ L.length → n < 18446744073709551616 → n / 4 ≠ 0 → n / 4 ≤ 4294967296 → n % 4 = 3 → P (zeroT, 0, 8))
    (c4 : ∀ n k, getR L = (n, k, 0) → 0 < k → k ≤ L.length → n < 18446744073709551616 → n / 4 ≠ 0 → n / 4 ≤ 4294967296 → n % 4 ≠ 3 → n / 4 ≤ last → P (zeroT, 0, 7))
    (c5 : ∀ n k, getR L = (n, k, 0) → 0 < k → k ≤ L.length → n / 4 ≠ 0 → n / 4 ≤ 4294967296 → n % 4 ≠ 3 → last < n / 4 → (getR (L.drop k)).2.2 ≠ 0 → P (zeroT, 0, (getR (L.drop k)).2.2))
    (c6 : ∀ n k m j, getR L = (n, k, 0) → 0 < k → k + j ≤ L.length → n / 4 ≠ 0 → n / 4 ≤ 4294967296 → last < n / 4 → getR (L.drop k) = (m, j, 0) → m < 18446744073709551616 → n % 4 = 0 → P (.mk (n / 4) 0 m ⟨#[]⟩ [], k + j, 0))
    (c7 : ∀ n k m j, getR L = (n, k, 0) → 0 < k → k + j ≤ L.length → n / 4 ≠ 0 → n / 4 ≤ 4294967296 → last < n / 4 → getR (L.drop k) = (m, j, 0) → m < 18446744073709551616 → (n % 4 = 1 ∨ n % 4 = 2) → L.length - (k + j) < m → P (zeroT, 0, 1))
    (c8 : ∀ n k m j, getR L = (n, k, 0) → 0 < k → k + j + m ≤ L.length → n / 4 ≠ 0 → n / 4 ≤ 4294967296 → last < n / 4 → getR (L.drop k) = (m, j, 0) → n % 4 = 1 → P (.mk (n / 4) 1 0 (txt ((L.drop (k + j)).take m)) [], k + j + m, 0))
    (c9 : ∀ n k m j, getR L = (n, k, 0) → 0 < k → k + j + m ≤ L.length → n / 4 ≠ 0 → n / 4 ≤ 4294967296 → last < n / 4 → getR (L.drop k) = (m, j, 0) → n % 4 = 2 → sub = none → P (zeroT, 0, 9))
    (c10 : ∀ n k m j p, getR L = (n, k, 0) → 0 < k → k + j + m ≤ L.length → n / 4 ≠ 0 → n / 4 ≤ 4294967296 → last < n / 4 → getR (L.drop k) = (m, j, 0) → n % 4 = 2 → sub = some p → (p ((L.drop (k + j)).take m)).2 ≠ 0 → P (zeroT, 0, (p ((L.drop (k + j)).take m)).2))
    (c11 : ∀ n k m j p, getR L = (n, k, 0) → 0 < k → k + j + m ≤ L.length → n / 4 ≠ 0 → n / 4 ≤ 4294967296 → last < n / 4 → getR (L.drop k) = (m, j, 0) → n % 4 = 2 → sub = some p → (p ((L.drop (k + j)).take m)).2 = 0 → P (.mk (n / 4) 2 0 ⟨#[]⟩ (p ((L.drop (k + j)).take m)).1, k + j + m, 0)) :
    P (oneW sub L last) := by
  have b1 := getR_bounds L
  unfold oneW
  by_cases h1 : (getR L).2.2 ≠ 0
  · rw [if_pos h1]; exact c1 h1
  rw [if_neg h1]
  obtain ⟨n, k, e0, hg⟩ : ∃ n k e, getR L = (n, k, e) := ⟨_, _, _, rfl⟩
  rw [hg] at b1 h1 ⊢
  simp only at b1 h1 ⊢
  obtain rfl : e0 = 0 := by omega
  have b2 := getR_bounds (L.drop k)
  by_cases h2 : n / 4 = 0 ∨ 4294967296 < n / 4
  · rw [if_pos h2]; exact c2 n k hg (b1.2.2.2.2 rfl) b1.2.1 b1.1 h2
  rw [if_neg h2]
  by_cases h3 : n % 4 = 3
  · rw [if_pos h3]; exact c3 n k hg (b1.2.2.2.2 rfl) b1.2.1 b1.1 (by omega) (by omega) h3
  rw [if_neg h3]
  by_cases h4 : n / 4 ≤ last
  · rw [if_pos h4]; exact c4 n k hg (b1.2.2.2.2 rfl) b1.2.1 b1.1 (by omega) (by omega) h3 h4
  rw [if_neg h4]
  by_cases h5 : (getR (L.drop k)).2.2 ≠ 0
  · rw [if_pos h5]; exact c5 n k hg (b1.2.2.2.2 rfl) b1.2.1 (by omega) (by omega) h3 (by omega) h5
  rw [if_neg h5]
  obtain ⟨m, j, e1, hg2⟩ : ∃ m j e, getR (L.drop k) = (m, j, e) := ⟨_, _, _, rfl⟩
  rw [hg2] at b2 h5 ⊢
  rw [List.length_drop] at b2
  simp only at b2 h5 ⊢
  obtain rfl : e1 = 0 := by omega
  have hk := b1.2.2.2.2 rfl
  have hkj : k + j ≤ L.length := by have := b1.2.1; have := b2.2.1; omega
  by_cases h6 : n % 4 = 0
  · rw [if_pos h6]; exact c6 n k m j hg hk hkj (by omega) (by omega) (by omega) hg2 b2.1 h6
  rw [if_neg h6]
  by_cases h7 : L.length - (k + j) < m
  · rw [if_pos h7]; exact c7 n k m j hg hk hkj (by omega) (by omega) (by omega) hg2 b2.1 (by omega) h7
  rw [if_neg h7]
  have hkm : k + j + m ≤ L.length := by omega
  by_cases h8 : n % 4 = 1
  · rw [if_pos h8]; exact c8 n k m j hg hk hkm (by omega) (by omega) (by omega) hg2 h8
  rw [if_neg h8]
  cases hs : sub with
  | none => exact c9 n k m j hg hk hkm (by omega) (by omega) (by omega) hg2 (by omega) hs
  | some p =>
    simp only
    by_cases h9 : (p ((L.drop (k + j)).take m)).2 ≠ 0
    · rw [if_pos h9]; exact c10 n k m j p hg hk hkm (by omega) (by omega) (by omega) hg2 (by omega) hs h9
    · rw [if_neg h9]; exact c11 n k m j p hg hk hkm (by omega) (by omega) (by omega) hg2 (by omega) hs (by omega)

theorem one_err (sub : Option (List UInt8 → List Tree × Nat)) (L : List UInt8) (last : Nat) : (oneW sub L last).2.2 ≠ 0 → (oneW sub L last).1 = zeroT ∧ (oneW sub L last).2.1 = 0 := by
  refine one_cases sub L last (P := fun q => q.2.2 ≠ 0 → q.1 = zeroT ∧ q.2.1 = 0) ?_ ?_ ?_ ?_ ?_ ?_ ?_ ?_ ?_ ?_ ?_
  all_goals intros
  all_goals first | exact ⟨rfl, rfl⟩ | (rename_i h; exact absurd rfl h)

theorem one_pos (sub : Option (List UInt8 → List Tree × Nat)) (L : List UInt8) (last : Nat) : (oneW sub L last).2.2 = 0 → 0 < (oneW sub L last).2.1 ∧ (oneW sub L last).2.1 ≤ L.length ∧ last < (oneW sub L last).1.tag := by
  refine one_cases sub L last (P := fun q => q.2.2 = 0 → 0 < q.2.1 ∧ q.2.1 ≤ L.length ∧ last < q.1.tag) ?_ ?_ ?_ ?_ ?_ ?_ ?_ ?_ ?_ ?_ ?_
  all_goals intros
  all_goals simp only [Tree.tag] at *
  all_goals first | omega | exact absurd (by assumption) (by assumption)

theorem one_tag (sub : Option (List UInt8 → List Tree × Nat)) (L : List UInt8) (last : Nat) : (oneW sub L last).1.tag ≤ 4294967296 ∧ (oneW sub L last).2.1 ≤ L.length := by
  refine one_cases sub L last (P := fun q => q.1.tag ≤ 4294967296 ∧ q.2.1 ≤ L.length) ?_ ?_ ?_ ?_ ?_ ?_ ?_ ?_ ?_ ?_ ?_
  all_goals intros
  all_goals simp only [Tree.tag, zeroT] at *
  all_goals omega

/-- All fields. -/
def allW (sub : Option (List UInt8 → List Tree × Nat)) (L : List UInt8) (last : Nat) : List Tree × Nat :=
  if h : L = [] then ([], 0)
  else if h2 : (oneW sub L last).2.2 ≠ 0 then ([], (oneW sub L last).2.2)
  else
    let r := allW sub (L.drop (oneW sub L last).2.1) (oneW sub L last).1.tag
    if r.2 ≠ 0 then ([], r.2) else ((oneW sub L last).1 :: r.1, 0)
termination_by L.length
decreasing_by
  have := one_pos sub L last (by simpa using h2)
  rw [List.length_drop]
  have : 0 < L.length := List.length_pos_iff.2 h
  omega

theorem allW_nil (sub : Option (List UInt8 → List Tree × Nat)) (last : Nat) : allW sub [] last = ([], 0) := by rw [allW, dif_pos rfl]
theorem allW_err {sub : Option (List UInt8 → List Tree × Nat)} {L : List UInt8} {last : Nat} (h : L ≠ []) (h2 : (oneW sub L last).2.2 ≠ 0) : allW sub L last = ([], (oneW sub L last).2.2) := by rw [allW, dif_neg h, dif_pos h2]
def glueW (acc : List Tree) (q : List Tree × Nat) : List Tree × Nat := if q.2 ≠ 0 then ([], q.2) else (acc ++ q.1, 0)
theorem allW_ok {sub : Option (List UInt8 → List Tree × Nat)} {L : List UInt8} {last : Nat} (h : L ≠ []) (h2 : (oneW sub L last).2.2 = 0) :
    allW sub L last = glueW [(oneW sub L last).1] (allW sub (L.drop (oneW sub L last).2.1) (oneW sub L last).1.tag) := by
  rw [allW, dif_neg h, dif_neg (by simp [h2])]
  unfold glueW
  simp only [List.singleton_append]
theorem glueW_glueW (a b : List Tree) (q : List Tree × Nat) : glueW a (glueW b q) = glueW (a ++ b) q := by
  unfold glueW
  by_cases h : q.2 ≠ 0
  · simp [h]
  · simp [h]
theorem glueW_nil (q : List Tree × Nat) (h : q.2 ≠ 0 → q.1 = []) : glueW [] q = q := by
  unfold glueW
  by_cases h2 : q.2 ≠ 0
  · rw [if_pos h2, ← h h2]
  · rw [if_neg h2]; simp at h2; rw [List.nil_append, ← h2]

theorem allW_good (sub : Option (List UInt8 → List Tree × Nat)) : ∀ (m : Nat) (L : List UInt8) (last : Nat), L.length ≤ m → (allW sub L last).2 ≠ 0 → (allW sub L last).1 = []
  | m, [], last, _, h => by rw [allW_nil]
  | 0, x :: r, last, h, _ => by simp at h
  | m + 1, x :: r, last, h, h2 => by
    have hne : (x :: r) ≠ [] := by simp
    by_cases h3 : (oneW sub (x :: r) last).2.2 ≠ 0
    · rw [allW_err hne h3]
    · have h4 : (oneW sub (x :: r) last).2.2 = 0 := by simpa using h3
      rw [allW_ok hne h4] at h2 ⊢
      unfold glueW at h2 ⊢
      split
      · rfl
      · rename_i h5; rw [if_neg h5] at h2; simp at h2

/-- Fields, within so many Lists that 'd' more may stand in one another. -/
def readD : Nat → List UInt8 → List Tree × Nat
  | 0, L => allW none L 0
  | d + 1, L => allW (some (readD d)) L 0
def subD : Nat → Option (List UInt8 → List Tree × Nat)
  | 0 => none
  | d + 1 => some (readD d)
theorem readD_eq (d : Nat) (L : List UInt8) : readD d L = allW (subD d) L 0 := by cases d <;> rfl

/-- The last tag, or the one ahead. -/
def lastOf (p : Nat) : List Tree → Nat
  | [] => p
  | t :: r => lastOf t.tag r

theorem oneW_wr (d p : Nat) (t : Tree) (R : List UInt8) (hd : d ≤ 8) (hc : checkL (8 - d) p [t] = 0) (hf : Tree.fits t) (hl : (wrT t).length < 18446744073709551616)
    (hsub : t.typ = 2 → ∃ e, d = e + 1 ∧ readD e (wrL t.list) = (t.list, 0)) : oneW (subD d) (wrT t ++ R) p = (t, (wrT t).length, 0) := by
  obtain ⟨h0, h1, h2, h3, h4, h5, -⟩ := check_ok hc
  have hty : 0 ≤ t.typ ∧ t.typ ≤ 2 := by unfold bad at h3; omega
  obtain ⟨f1, f2⟩ := (fits_eq t).1 hf
  obtain ⟨y, hy⟩ : ∃ y : Nat, t.typ.toNat = y := ⟨_, rfl⟩
  have hyb : y ≤ 2 ∧ (y : Int) = t.typ := by omega
  have hw := wr_eq t
  rw [hy] at hw
  have hn : 4 * t.tag + y < 18446744073709551616 := by omega
  have hdiv : (4 * t.tag + y) / 4 = t.tag := by omega
  have hmod : (4 * t.tag + y) % 4 = y := by omega
  generalize hbody : (if t.typ = 0 then enc t.num else if t.typ = 2 then enc (wrL t.list).length ++ wrL t.list else enc t.text.size ++ t.text.data.toList) = body at hw
  have hg : getR (wrT t ++ R) = (4 * t.tag + y, (enc (4 * t.tag + y)).length, 0) := by rw [hw, List.append_assoc]; exact getR_enc hn _
  have hdrop : (wrT t ++ R).drop (enc (4 * t.tag + y)).length = body ++ R := by rw [hw, List.append_assoc, List.drop_left]
  unfold oneW
  rw [hg]
  simp only [hdiv, hmod, hdrop]
  rw [if_neg (by simp), if_neg (by omega), if_neg (by omega), if_neg (by omega)]
  by_cases q0 : t.typ = 0
  · rw [if_pos q0] at hbody
    subst hbody
    rw [getR_enc f1]
    simp only
    rw [if_neg (by simp), if_pos (by omega)]
    have hx : t.text = ⟨#[]⟩ := by
      have : t.text.size = 0 := by unfold bad at h3; omega
      have h7 : t.text.data.size = 0 := this
      cases hh : t.text with | mk a => rw [hh] at h7; simp at h7; rw [h7]
    have hll : t.list = [] := List.length_eq_zero_iff.1 (by unfold bad at h3; omega)
    rw [hw, List.length_append]
    refine Prod.ext ?_ rfl
    exact tree_ext rfl q0.symm rfl hx.symm hll.symm
  · rw [if_neg q0] at hbody
    have hlen : (wrT t ++ R).length = (enc (4 * t.tag + y)).length + body.length + R.length := by rw [hw, List.length_append, List.length_append]
    have hnum : t.num = 0 := by unfold bad at h3; omega
    by_cases q2 : t.typ = 2
    · rw [if_pos q2] at hbody
      obtain ⟨e, hde, hre⟩ := hsub q2
      have hb : (wrL t.list).length < 18446744073709551616 := by rw [hw, List.length_append, ← hbody, List.length_append] at hl; omega
      have hbl : body.length = (enc (wrL t.list).length).length + (wrL t.list).length := by rw [← hbody, List.length_append]
      subst hbody
      rw [List.append_assoc, getR_enc hb]
      simp only
      rw [if_neg (by simp), if_neg (by omega), if_neg (by rw [hlen, hbl]; omega), if_neg (by omega)]
      have hd2 : (wrT t ++ R).drop ((enc (4 * t.tag + y)).length + (enc (wrL t.list).length).length) = wrL t.list ++ R := by
        rw [← List.drop_drop, hdrop, List.append_assoc, List.drop_left]
      rw [hd2, List.take_left]
      subst hde
      simp only [subD, hre]
      rw [if_neg (by simp)]
      have hx : t.text = ⟨#[]⟩ := by
        have : t.text.size = 0 := by unfold bad at h3; omega
        have h7 : t.text.data.size = 0 := this
        cases hh : t.text with | mk a => rw [hh] at h7; simp at h7; rw [h7]
      rw [hw, List.length_append, List.length_append]
      refine Prod.ext ?_ (Prod.ext ?_ rfl)
      · exact tree_ext rfl q2.symm hnum.symm hx.symm rfl
      · show _ + _ + _ = _ + (_ + _); omega
    · rw [if_neg q2] at hbody
      have hb : t.text.size < 18446744073709551616 := by rw [hw, List.length_append, ← hbody, List.length_append] at hl; simp at hl; omega
      have hbl : body.length = (enc t.text.size).length + t.text.size := by rw [← hbody, List.length_append]; simp
      subst hbody
      rw [List.append_assoc, getR_enc hb]
      simp only
      rw [if_neg (by simp), if_neg (by omega), if_neg (by rw [hlen, hbl]; omega), if_pos (by omega)]
      have hd2 : (wrT t ++ R).drop ((enc (4 * t.tag + y)).length + (enc t.text.size).length) = t.text.data.toList ++ R := by
        rw [← List.drop_drop, hdrop, List.append_assoc, List.drop_left]
      have htl : t.text.data.toList.length = t.text.size := by simp
      rw [hd2, show (t.text.data.toList ++ R).take t.text.size = t.text.data.toList by rw [← htl, List.take_left], txt_of]
      have hll : t.list = [] := List.length_eq_zero_iff.1 (by unfold bad at h3; omega)
      rw [hw, List.length_append, List.length_append, htl]
      refine Prod.ext ?_ (Prod.ext ?_ rfl)
      · exact tree_ext rfl (by show (1 : Int) = t.typ; omega) hnum.symm rfl hll.symm
      · show _ + _ + _ = _ + (_ + _); omega

/-- What is written is read, and then what stands behind it. -/
theorem all_wr : ∀ (m : Nat) (ts : List Tree) (d p : Nat) (R : List UInt8), sizeL ts ≤ m → d ≤ 8 → checkL (8 - d) p ts = 0 → fitsL ts → (wrL ts).length < 18446744073709551616 → allW (subD d) (wrL ts ++ R) p = glueW ts (allW (subD d) R (lastOf p ts))
  | m, [], d, p, R, _, _, _, _, _ => by
    rw [wrL_nil, List.nil_append, lastOf, glueW_nil _ (allW_good _ _ _ _ (Nat.le_refl _))]
  | 0, t :: r, d, p, R, h, _, _, _, _ => by rw [sizeL_cons] at h; omega
  | m + 1, t :: r, d, p, R, h, hd, hc, hf, hl => by
    rw [sizeL_cons] at h
    obtain ⟨h0, h1, h2, h3, h4, h5, h6⟩ := check_ok hc
    obtain ⟨f1, f2, f3⟩ := (fitsL_cons t r).1 hf
    rw [wrL_cons, List.length_append] at hl
    have hone := oneW_wr d p t (wrL r ++ R) hd (check_mk h0 h1 h2 h3 h4 h5 (checkL_nil _ _)) ((fits_eq t).2 ⟨f1, f2⟩) (by omega) (fun q2 => by
      have h8 : ¬ (8 - d = 8) := fun e => h4 ⟨q2, e⟩
      obtain ⟨e, he⟩ : ∃ e, d = e + 1 := ⟨d - 1, by omega⟩
      refine ⟨e, he, ?_⟩
      have hll : (wrL t.list).length < 18446744073709551616 := by
        have : (wrL t.list).length ≤ (wrT t).length := by rw [wr_eq, if_neg (by omega), if_pos q2, List.length_append, List.length_append]; omega
        omega
      have := all_wr m t.list e 0 [] (by omega) (by omega) (by rw [show 8 - e = 8 - d + 1 by omega]; exact h5) f2 hll
      rw [List.append_nil, allW_nil] at this
      rw [readD_eq, this]
      simp [glueW])
    have hpos : wrT t ≠ [] := by
      rw [wr_eq]
      intro h
      have := congrArg List.length h
      rw [List.length_append, List.length_nil] at this
      have h7 := enc_len_pos (4 * t.tag + t.typ.toNat)
      omega
    have hne : wrT t ++ (wrL r ++ R) ≠ [] := by simp [hpos]
    rw [wrL_cons, List.append_assoc, allW_ok hne (by rw [hone]), hone]
    simp only
    rw [List.drop_left, all_wr m r d t.tag R (by omega) hd h6 f3 (by omega), glueW_glueW, lastOf]
    rfl

theorem take_two (L : List UInt8) (k j : Nat) : L.take (k + j) = L.take k ++ (L.drop k).take j := List.take_add
theorem enc_of {L : List UInt8} {n k : Nat} (h : getR L = (n, k, 0)) : enc n = L.take k := by
  have := enc_getR (L := L) (by rw [h])
  rw [h] at this
  exact this

theorem oneW_rd (d p : Nat) (hd : d ≤ 8) (L : List UInt8) (hsub : ∀ e, d = e + 1 → ∀ T : List UInt8, (readD e T).2 = 0 → wrL (readD e T).1 = T ∧ checkL (8 - e) 0 (readD e T).1 = 0 ∧ fitsL (readD e T).1 ∧ sizeL (readD e T).1 ≤ T.length ∧ bulkL (readD e T).1 ≤ T.length) :
    (oneW (subD d) L p).2.2 = 0 → wrT (oneW (subD d) L p).1 = L.take (oneW (subD d) L p).2.1 ∧ checkL (8 - d) p [(oneW (subD d) L p).1] = 0 ∧ Tree.fits (oneW (subD d) L p).1 ∧ sizeL (oneW (subD d) L p).1.list + 2 ≤ (oneW (subD d) L p).2.1 ∧ Tree.bulk (oneW (subD d) L p).1 ≤ (oneW (subD d) L p).2.1 := by
  have pos2 : ∀ {M : List UInt8} {m j : Nat}, getR M = (m, j, 0) → 0 < j := fun {M m j} h => by have := (getR_bounds M).2.2.2.2 (by rw [h]); rw [h] at this; exact this
  refine one_cases (subD d) L p (P := fun q => q.2.2 = 0 → wrT q.1 = L.take q.2.1 ∧ checkL (8 - d) p [q.1] = 0 ∧ Tree.fits q.1 ∧ sizeL q.1.list + 2 ≤ q.2.1 ∧ Tree.bulk q.1 ≤ q.2.1) ?_ ?_ ?_ ?_ ?_ ?_ ?_ ?_ ?_ ?_ ?_
  · intro h h0; exact absurd h0 h
  · intro n k _ _ _ _ _ h0; cases h0
  · intro n k _ _ _ _ _ _ _ h0; cases h0
  · intro n k _ _ _ _ _ _ _ _ h0; cases h0
  · intro n k _ _ _ _ _ _ _ h h0; exact absurd h0 h
  · intro n k m j g1 hk hkj t1 t2 t3 g2 hm hn _
    have hj := pos2 g2
    refine ⟨?_, ?_, ?_, ?_, ?_⟩
    · rw [wr_eq]
      show enc (4 * (n / 4) + Int.toNat 0) ++ (if (0 : Int) = 0 then enc m else _) = _
      rw [if_pos rfl, show 4 * (n / 4) + Int.toNat 0 = n by simp; omega, enc_of g1, enc_of g2, take_two]
    · exact check_mk t1 t2 t3 (by unfold bad; simp only [Tree.typ, Tree.num, Tree.text, Tree.list, ByteArray.size]; simp) (by simp only [Tree.typ]; omega) (checkL_nil _ _) (checkL_nil _ _)
    · rw [fits_eq]; exact ⟨hm, by simp only [Tree.list]; rw [fitsL]; trivial⟩
    · simp only [Tree.list, sizeL]; omega
    · rw [bulk_eq]; simp only [Tree.text, Tree.list, bulkL, ByteArray.size]; simp
  · intro n k m j _ _ _ _ _ _ _ _ _ _ h0; cases h0
  · intro n k m j g1 hk hkj t1 t2 t3 g2 hn _
    have hj := pos2 g2
    have hlen : ((L.drop (k + j)).take m).length = m := by rw [List.length_take, List.length_drop]; omega
    refine ⟨?_, ?_, ?_, ?_, ?_⟩
    · rw [wr_eq]
      show enc (4 * (n / 4) + Int.toNat 1) ++ (if (1 : Int) = 0 then _ else if (1 : Int) = 2 then _ else enc (txt ((L.drop (k + j)).take m)).size ++ (txt ((L.drop (k + j)).take m)).data.toList) = _
      rw [if_neg (by omega), if_neg (by omega), show 4 * (n / 4) + Int.toNat 1 = n by simp; omega, txt_size, txt_list, hlen, enc_of g1, enc_of g2, take_two L (k + j) m, take_two L k j, List.append_assoc]
    · exact check_mk t1 t2 t3 (by unfold bad; simp only [Tree.typ, Tree.num, Tree.text, Tree.list]; simp) (by simp only [Tree.typ]; omega) (checkL_nil _ _) (checkL_nil _ _)
    · rw [fits_eq]; exact ⟨by simp only [Tree.num]; omega, by simp only [Tree.list]; rw [fitsL]; trivial⟩
    · simp only [Tree.list, sizeL]; omega
    · rw [bulk_eq]; simp only [Tree.text, Tree.list, bulkL]; rw [txt_size, hlen]; omega
  · intro n k m j _ _ _ _ _ _ _ _ _ h0; cases h0
  · intro n k m j q _ _ _ _ _ _ _ _ _ h h0; exact absurd h0 h
  · intro n k m j q g1 hk hkj t1 t2 t3 g2 hn hs h _
    have hj := pos2 g2
    obtain ⟨e, he, hq⟩ : ∃ e, d = e + 1 ∧ q = readD e := by
      cases d with
      | zero => cases hs
      | succ e => exact ⟨e, rfl, by simp only [subD, Option.some.injEq] at hs; exact hs.symm⟩
    subst hq
    obtain ⟨s1, s2, s3, s4, s5⟩ := hsub e he _ h
    have hlen : ((L.drop (k + j)).take m).length = m := by rw [List.length_take, List.length_drop]; omega
    rw [hlen] at s4 s5
    refine ⟨?_, ?_, ?_, ?_, ?_⟩
    · rw [wr_eq]
      show enc (4 * (n / 4) + Int.toNat 2) ++ (if (2 : Int) = 0 then _ else if (2 : Int) = 2 then enc (wrL (readD e ((L.drop (k + j)).take m)).1).length ++ wrL (readD e ((L.drop (k + j)).take m)).1 else _) = _
      rw [if_neg (by omega), if_pos rfl, show 4 * (n / 4) + Int.toNat 2 = n by simp; omega, s1, hlen, enc_of g1, enc_of g2, take_two L (k + j) m, take_two L k j, List.append_assoc]
    · refine check_mk t1 t2 t3 (by unfold bad; simp only [Tree.typ, Tree.num, Tree.text, Tree.list, ByteArray.size]; simp) (by simp only [Tree.typ]; omega) ?_ (checkL_nil _ _)
      rw [show 8 - d + 1 = 8 - e by omega]; exact s2
    · rw [fits_eq]; exact ⟨by simp only [Tree.num]; omega, s3⟩
    · simp only [Tree.list]; omega
    · rw [bulk_eq]; simp only [Tree.text, Tree.list, ByteArray.size]; simp; omega

theorem all_rd_step (d : Nat) (hd : d ≤ 8) (hsub : ∀ e, d = e + 1 → ∀ T : List UInt8, (readD e T).2 = 0 → wrL (readD e T).1 = T ∧ checkL (8 - e) 0 (readD e T).1 = 0 ∧ fitsL (readD e T).1 ∧ sizeL (readD e T).1 ≤ T.length ∧ bulkL (readD e T).1 ≤ T.length) (m : Nat)
    (ih : ∀ (L : List UInt8) (p : Nat), L.length ≤ m → (allW (subD d) L p).2 = 0 → wrL (allW (subD d) L p).1 = L ∧ checkL (8 - d) p (allW (subD d) L p).1 = 0 ∧ fitsL (allW (subD d) L p).1 ∧ sizeL (allW (subD d) L p).1 ≤ L.length ∧ bulkL (allW (subD d) L p).1 ≤ L.length) :
    ∀ (L : List UInt8) (p : Nat), L.length ≤ m + 1 → (allW (subD d) L p).2 = 0 → wrL (allW (subD d) L p).1 = L ∧ checkL (8 - d) p (allW (subD d) L p).1 = 0 ∧ fitsL (allW (subD d) L p).1 ∧ sizeL (allW (subD d) L p).1 ≤ L.length ∧ bulkL (allW (subD d) L p).1 ≤ L.length := by
  intro L p hL h
  by_cases h0 : L = []
  · subst h0
    rw [allW_nil]
    exact ⟨wrL_nil, checkL_nil _ _, by rw [fitsL]; trivial, by simp [sizeL], by simp [bulkL]⟩
  · by_cases h1 : (oneW (subD d) L p).2.2 ≠ 0
    · rw [allW_err h0 h1] at h; exact absurd h h1
    · have h1 : (oneW (subD d) L p).2.2 = 0 := by simpa using h1
      obtain ⟨k1, k2, k3⟩ := one_pos _ _ _ h1
      obtain ⟨r1, r2, r3, r4, r5⟩ := oneW_rd d p hd L hsub h1
      rw [allW_ok h0 h1] at h ⊢
      have hg : (allW (subD d) (L.drop (oneW (subD d) L p).2.1) (oneW (subD d) L p).1.tag).2 = 0 := by
        unfold glueW at h
        by_cases h2 : (allW (subD d) (L.drop (oneW (subD d) L p).2.1) (oneW (subD d) L p).1.tag).2 ≠ 0
        · rw [if_pos h2] at h; exact absurd h h2
        · simpa using h2
      obtain ⟨i1, i2, i3, i4, i5⟩ := ih _ _ (by rw [List.length_drop]; omega) hg
      rw [List.length_drop] at i4 i5
      unfold glueW
      rw [if_neg (by simp [hg])]
      generalize oneW (subD d) L p = q at *
      generalize allW (subD d) (L.drop q.2.1) q.1.tag = r at *
      obtain ⟨c0, c1, c2, c3, c4, c5, -⟩ := check_ok r2
      refine ⟨?_, ?_, ?_, ?_, ?_⟩
      · show wrL (q.1 :: r.1) = L
        rw [wrL_cons, r1, i1, List.take_append_drop]
      · exact check_mk c0 c1 c2 c3 c4 c5 i2
      · show fitsL (q.1 :: r.1)
        rw [fitsL]; exact ⟨r3, i3⟩
      · show sizeL (q.1 :: r.1) ≤ _
        rw [sizeL_cons]; omega
      · show bulkL (q.1 :: r.1) ≤ _
        rw [bulkL]; omega

/-- What is read would be written so, and may be. -/
theorem all_rd : ∀ (d : Nat), d ≤ 8 → ∀ (m : Nat) (L : List UInt8) (p : Nat), L.length ≤ m → (allW (subD d) L p).2 = 0 → wrL (allW (subD d) L p).1 = L ∧ checkL (8 - d) p (allW (subD d) L p).1 = 0 ∧ fitsL (allW (subD d) L p).1 ∧ sizeL (allW (subD d) L p).1 ≤ L.length ∧ bulkL (allW (subD d) L p).1 ≤ L.length := by
  intro d
  induction d with
  | zero =>
    intro hd m
    induction m with
    | zero =>
      intro L p h _
      obtain rfl : L = [] := List.length_eq_zero_iff.1 (by omega)
      rw [allW_nil]
      exact ⟨wrL_nil, checkL_nil _ _, by rw [fitsL]; trivial, by simp [sizeL], by simp [bulkL]⟩
    | succ m ih => exact all_rd_step 0 hd (fun e he => by omega) m ih
  | succ d ihd =>
    intro hd m
    induction m with
    | zero =>
      intro L p h _
      obtain rfl : L = [] := List.length_eq_zero_iff.1 (by omega)
      rw [allW_nil]
      exact ⟨wrL_nil, checkL_nil _ _, by rw [fitsL]; trivial, by simp [sizeL], by simp [bulkL]⟩
    | succ m ih => exact all_rd_step (d + 1) hd (fun e he T hT => by
        obtain rfl : d = e := by omega
        rw [readD_eq] at hT ⊢
        exact ihd (by omega) _ T 0 (Nat.le_refl _) hT) m ih

end Go.Proofs.YtieheclnkopfpaaGreatDoor.wm
