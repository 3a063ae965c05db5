/-
  Wmath, Wfew, Wmore, Wref, Wread, Law09, Wput, Wwrite, Wcore, Wways, Wlist
-/
import Derived.Test.YtbebdaglkjhbjaaGreatDoorBundT
import Derived.Test.YtbebdaglkjhbjaaGreatDoorBundA
import Derived.Handy
import Derived.Deep.LoopGhost
import Derived.Test.YtbebdaglkjhbjaaGreatDoorLaw08
import Derived.Test.YtbebdaglkjhbjaaGreatDoorBundC
import Derived.Test.YtbebdaglkjhbjaaGreatDoorBundF
import Derived.Test.YtbebdaglkjhbjaaGreatDoorFfi
import Derived.Laws.EntriesVeiled

/-
  Mathematics of fields as bytes: how they are written (wrL), how they are read (oneW, allW, readD), and that both fit.
-/
namespace Go.Proofs.YtbebdaglkjhbjaaGreatDoor.wm
open Go.Proofs.YtbebdaglkjhbjaaGreatDoor.tr Go.Proofs.YtbebdaglkjhbjaaGreatDoor.vi
set_option linter.unusedVariables false
set_option linter.unusedSimpArgs false

mutual
/-- A field as it is written. -/
def wrT : Tree → List UInt8
  | .mk a ty n x l => enc (4 * a + ty.toNat) ++ (if ty = 0 then enc n else if ty = 2 then enc (wrL l).length ++ wrL l else enc x.size ++ x.data.toList)
/-- Fields as they are written. -/
def wrL : List Tree → List UInt8
  | [] => []
  | t :: r => wrT t ++ wrL r
end

theorem wr_eq (t : Tree) : wrT t = enc (4 * t.tag + t.typ.toNat) ++ (if t.typ = 0 then enc t.num else if t.typ = 2 then enc (wrL t.list).length ++ wrL t.list else enc t.text.size ++ t.text.data.toList) := by
  cases t; rw [wrT]; rfl
theorem wrL_nil : wrL [] = [] := by rw [wrL]
theorem wrL_cons (t : Tree) (r : List Tree) : wrL (t :: r) = wrT t ++ wrL r := by rw [wrL]
theorem wrL_append (a b : List Tree) : wrL (a ++ b) = wrL a ++ wrL b := by
  induction a with
  | nil => rw [List.nil_append, wrL_nil, List.nil_append]
  | cons t r ih => rw [List.cons_append, wrL_cons, wrL_cons, ih, List.append_assoc]

mutual
/-- Numbers of 64 bits alone. -/
def Tree.fits : Tree → Prop | .mk _ _ n _ l => n < 18446744073709551616 ∧ fitsL l
def fitsL : List Tree → Prop | [] => True | t :: r => Tree.fits t ∧ fitsL r
end

theorem fits_eq (t : Tree) : Tree.fits t ↔ t.num < 18446744073709551616 ∧ fitsL t.list := by cases t; rw [Tree.fits]; rfl
theorem fitsL_cons (t : Tree) (r : List Tree) : fitsL (t :: r) ↔ t.num < 18446744073709551616 ∧ fitsL t.list ∧ fitsL r := by rw [fitsL, fits_eq, and_assoc]
theorem fitsL_append (a b : List Tree) : fitsL (a ++ b) ↔ fitsL a ∧ fitsL b := by
  induction a with
  | nil => simp [fitsL]
  | cons t r ih => rw [List.cons_append, fitsL_cons, fitsL_cons, ih]; simp only [and_assoc]

mutual
/-- How many bytes all texts have. -/
def Tree.bulk : Tree → Nat | .mk _ _ _ x l => x.size + bulkL l
def bulkL : List Tree → Nat | [] => 0 | t :: r => Tree.bulk t + bulkL r
end
theorem bulk_eq (t : Tree) : Tree.bulk t = t.text.size + bulkL t.list := by cases t; rw [Tree.bulk]; rfl
theorem bulkL_cons (t : Tree) (r : List Tree) : bulkL (t :: r) = t.text.size + bulkL t.list + bulkL r := by rw [bulkL, bulk_eq]

theorem enc_small_len {n : Nat} (h : n < 18446744073709551616) : (enc n).length ≤ 10 := enc_len_ten h

/-- What may be has few bytes. -/
theorem wr_len : ∀ (m : Nat) (ts : List Tree) (d p : Nat), sizeL ts ≤ m → sizeL ts ≤ 100000 → bulkL ts ≤ 100000000 → fitsL ts → checkL d p ts = 0 → (wrL ts).length ≤ 20 * sizeL ts + bulkL ts
  | m, [], d, p, _, _, _, _, _ => by rw [wrL_nil]; simp
  | 0, t :: r, d, p, h, _, _, _, _ => by rw [sizeL_cons] at h; omega
  | m + 1, t :: r, d, p, h, hs, hb, hf, hc => by
    rw [sizeL_cons] at h hs
    rw [bulkL_cons] at hb
    obtain ⟨f1, f2, f3⟩ := (fitsL_cons t r).1 hf
    obtain ⟨h0, h1, h2, h3, h4, h5, h6⟩ := check_ok hc
    have k1 := wr_len m t.list (d + 1) 0 (by omega) (by omega) (by omega) f2 h5
    have k2 := wr_len m r d t.tag (by omega) (by omega) (by omega) f3 h6
    have hty : 0 ≤ t.typ ∧ t.typ ≤ 2 := by unfold bad at h3; omega
    have e1 := enc_small_len (n := 4 * t.tag + t.typ.toNat) (by omega)
    have e2 := enc_small_len f1
    have e3 := enc_small_len (n := (wrL t.list).length) (by omega)
    have e4 := enc_small_len (n := t.text.size) (by omega)
    rw [wrL_cons, List.length_append, wr_eq, List.length_append, sizeL_cons, bulkL_cons]
    have hx : t.text.data.toList.length = t.text.size := by simp
    split
    · omega
    · split
      · rw [List.length_append]; omega
      · rw [List.length_append]; omega

def zeroT : Tree := .mk 0 0 0 ⟨#[]⟩ []
def txt (l : List UInt8) : ByteArray := ⟨l.toArray⟩
theorem txt_list (l : List UInt8) : (txt l).data.toList = l := rfl
theorem txt_size (l : List UInt8) : (txt l).size = l.length := by show l.toArray.size = _; simp
theorem txt_of (s : ByteArray) : txt s.data.toList = s := by cases s; simp [txt]

/-- The field that bytes begin with, above a tag; sub: what reads a List's fields, if there may be one. -/
def oneW (sub : Option (List UInt8 → List Tree × Nat)) (L : List UInt8) (last : Nat) : Tree × Nat × Nat :=
  if (getR L).2.2 ≠ 0 then (zeroT, 0, (getR L).2.2)
  else if (getR L).1 / 4 = 0 ∨ 4294967296 < (getR L).1 / 4 then (zeroT, 0, 18)
  else if (getR L).1 % 4 = 3 then (zeroT, 0, 8)
  else if (getR L).1 / 4 ≤ last then (zeroT, 0, 7)
  else if (getR (L.drop (getR L).2.1)).2.2 ≠ 0 then (zeroT, 0, (getR (L.drop (getR L).2.1)).2.2)
  else if (getR L).1 % 4 = 0 then (.mk ((getR L).1 / 4) 0 (getR (L.drop (getR L).2.1)).1 ⟨#[]⟩ [], (getR L).2.1 + (getR (L.drop (getR L).2.1)).2.1, 0)
  else if L.length - ((getR L).2.1 + (getR (L.drop (getR L).2.1)).2.1) < (getR (L.drop (getR L).2.1)).1 then (zeroT, 0, 1)
  else if (getR L).1 % 4 = 1 then (.mk ((getR L).1 / 4) 1 0 (txt ((L.drop ((getR L).2.1 + (getR (L.drop (getR L).2.1)).2.1)).take (getR (L.drop (getR L).2.1)).1)) [], (getR L).2.1 + (getR (L.drop (getR L).2.1)).2.1 + (getR (L.drop (getR L).2.1)).1, 0)
  else match sub with
    | none => (zeroT, 0, 9)
    | some p =>
      if (p ((L.drop ((getR L).2.1 + (getR (L.drop (getR L).2.1)).2.1)).take (getR (L.drop (getR L).2.1)).1)).2 ≠ 0 then (zeroT, 0, (p ((L.drop ((getR L).2.1 + (getR (L.drop (getR L).2.1)).2.1)).take (getR (L.drop (getR L).2.1)).1)).2)
      else (.mk ((getR L).1 / 4) 2 0 ⟨#[]⟩ (p ((L.drop ((getR L).2.1 + (getR (L.drop (getR L).2.1)).2.1)).take (getR (L.drop (getR L).2.1)).1)).1, (getR L).2.1 + (getR (L.drop (getR L).2.1)).2.1 + (getR (L.drop (getR L).2.1)).1, 0)

/-- The ways of a field: what is true of it step by step. -/
theorem one_cases (sub : Option (List UInt8 → List Tree × Nat)) (L : List UInt8) (last : Nat) {P : Tree × Nat × Nat → Prop}
    (c1 : (getR L).2.2 ≠ 0 → P (zeroT, 0, (getR L).2.2))
    (c2 : ∀ n k, getR L = (n, k, 0) → 0 < k → k ≤ L.length → n < 18446744073709551616 → (n / 4 = 0 ∨ 4294967296 < n / 4) → P (zeroT, 0, 18))
    (c3 : ∀ n k, getR L = (n, k, 0) → 0 < k → k ≤ L.length → n < 18446744073709551616 → n / 4 ≠ 0 → n / 4 ≤ 4294967296 → n % 4 = 3 → P (zeroT, 0, 8))
    (c4 : ∀ n k, getR L = (n, k, 0) → 0 < k → k ≤ L.length → n < 18446744073709551616 → n / 4 ≠ 0 → n / 4 ≤ 4294967296 → n % 4 ≠ 3 → n / 4 ≤ last → P (zeroT, 0, 7))
    (c5 : ∀ n k, getR L = (n, k, 0) → 0 < k → k ≤ L.length → n / 4 ≠ 0 → n / 4 ≤ 4294967296 → n % 4 ≠ 3 → last < n / 4 → (getR (L.drop k)).2.2 ≠ 0 → P (zeroT, 0, (getR (L.drop k)).2.2))
    (c6 : ∀ n k m j, getR L = (n, k, 0) → 0 < k → k + j ≤ L.length → n / 4 ≠ 0 → n / 4 ≤ 4294967296 → last < n / 4 → getR (L.drop k) = (m, j, 0) → m < 18446744073709551616 → n % 4 = 0 → P (.mk (n / 4) 0 m ⟨#[]⟩ [], k + j, 0))
    (c7 : ∀ n k m j, getR L = (n, k, 0) → 0 < k → k + j ≤ L.length → n / 4 ≠ 0 → n / 4 ≤ 4294967296 → last < n / 4 → getR (L.drop k) = (m, j, 0) → m < 18446744073709551616 → (n % 4 = 1 ∨ n % 4 = 2) → L.length - (k + j) < m → P (zeroT, 0, 1))
    (c8 : ∀ n k m j, getR L = (n, k, 0) → 0 < k → k + j + m ≤ L.length → n / 4 ≠ 0 → n / 4 ≤ 4294967296 → last < n / 4 → getR (L.drop k) = (m, j, 0) → n % 4 = 1 → P (.mk (n / 4) 1 0 (txt ((L.drop (k + j)).take m)) [], k + j + m, 0))
    (c9 : ∀ n k m j, getR L = (n, k, 0) → 0 < k → k + j + m ≤ L.length → n / 4 ≠ 0 → n / 4 ≤ 4294967296 → last < n / 4 → getR (L.drop k) = (m, j, 0) → n % 4 = 2 → sub = none → P (zeroT, 0, 9))
    (c10 : ∀ n k m j p, getR L = (n, k, 0) → 0 < k → k + j + m ≤ L.length → n / 4 ≠ 0 → n / 4 ≤ 4294967296 → last < n / 4 → getR (L.drop k) = (m, j, 0) → n % 4 = 2 → sub = some p → (p ((L.drop (k + j)).take m)).2 ≠ 0 → P (zeroT, 0, (p ((L.drop (k + j)).take m)).2))
    (c11 : ∀ n k m j p, getR L = (n, k, 0) → 0 < k → k + j + m ≤ L.length → n / 4 ≠ 0 → n / 4 ≤ 4294967296 → last < n / 4 → getR (L.drop k) = (m, j, 0) → n % 4 = 2 → sub = some p → (p ((L.drop (k + j)).take m)).2 = 0 → P (.mk (n / 4) 2 0 ⟨#[]⟩ (p ((L.drop (k + j)).take m)).1, k + j + m, 0)) :
    P (oneW sub L last) := by
  have b1 := getR_bounds L
  unfold oneW
  by_cases h1 : (getR L).2.2 ≠ 0
  · rw [if_pos h1]; exact c1 h1
  rw [if_neg h1]
  obtain ⟨n, k, e0, hg⟩ : ∃ n k e, getR L = (n, k, e) := ⟨_, _, _, rfl⟩
  rw [hg] at b1 h1 ⊢
  simp only at b1 h1 ⊢
  obtain rfl : e0 = 0 := by omega
  have b2 := getR_bounds (L.drop k)
  by_cases h2 : n / 4 = 0 ∨ 4294967296 < n / 4
  · rw [if_pos h2]; exact c2 n k hg (b1.2.2.2.2 rfl) b1.2.1 b1.1 h2
  rw [if_neg h2]
  by_cases h3 : n % 4 = 3
  · rw [if_pos h3]; exact c3 n k hg (b1.2.2.2.2 rfl) b1.2.1 b1.1 (by omega) (by omega) h3
  rw [if_neg h3]
  by_cases h4 : n / 4 ≤ last
  · rw [if_pos h4]; exact c4 n k hg (b1.2.2.2.2 rfl) b1.2.1 b1.1 (by omega) (by omega) h3 h4
  rw [if_neg h4]
  by_cases h5 : (getR (L.drop k)).2.2 ≠ 0
  · rw [if_pos h5]; exact c5 n k hg (b1.2.2.2.2 rfl) b1.2.1 (by omega) (by omega) h3 (by omega) h5
  rw [if_neg h5]
  obtain ⟨m, j, e1, hg2⟩ : ∃ m j e, getR (L.drop k) = (m, j, e) := ⟨_, _, _, rfl⟩
  rw [hg2] at b2 h5 ⊢
  rw [List.length_drop] at b2
  simp only at b2 h5 ⊢
  obtain rfl : e1 = 0 := by omega
  have hk := b1.2.2.2.2 rfl
  have hkj : k + j ≤ L.length := by have := b1.2.1; have := b2.2.1; omega
  by_cases h6 : n % 4 = 0
  · rw [if_pos h6]; exact c6 n k m j hg hk hkj (by omega) (by omega) (by omega) hg2 b2.1 h6
  rw [if_neg h6]
  by_cases h7 : L.length - (k + j) < m
  · rw [if_pos h7]; exact c7 n k m j hg hk hkj (by omega) (by omega) (by omega) hg2 b2.1 (by omega) h7
  rw [if_neg h7]
  have hkm : k + j + m ≤ L.length := by omega
  by_cases h8 : n % 4 = 1
  · rw [if_pos h8]; exact c8 n k m j hg hk hkm (by omega) (by omega) (by omega) hg2 h8
  rw [if_neg h8]
  cases hs : sub with
  | none => exact c9 n k m j hg hk hkm (by omega) (by omega) (by omega) hg2 (by omega) hs
  | some p =>
    simp only
    by_cases h9 : (p ((L.drop (k + j)).take m)).2 ≠ 0
    · rw [if_pos h9]; exact c10 n k m j p hg hk hkm (by omega) (by omega) (by omega) hg2 (by omega) hs h9
    · rw [if_neg h9]; exact c11 n k m j p hg hk hkm (by omega) (by omega) (by omega) hg2 (by omega) hs (by omega)

theorem one_err (sub : Option (List UInt8 → List Tree × Nat)) (L : List UInt8) (last : Nat) : (oneW sub L last).2.2 ≠ 0 → (oneW sub L last).1 = zeroT ∧ (oneW sub L last).2.1 = 0 := by
  refine one_cases sub L last (P := fun q => q.2.2 ≠ 0 → q.1 = zeroT ∧ q.2.1 = 0) ?_ ?_ ?_ ?_ ?_ ?_ ?_ ?_ ?_ ?_ ?_
  all_goals intros
  all_goals first | exact ⟨rfl, rfl⟩ | (rename_i h; exact absurd rfl h)

theorem one_pos (sub : Option (List UInt8 → List Tree × Nat)) (L : List UInt8) (last : Nat) : (oneW sub L last).2.2 = 0 → 0 < (oneW sub L last).2.1 ∧ (oneW sub L last).2.1 ≤ L.length ∧ last < (oneW sub L last).1.tag := by
  refine one_cases sub L last (P := fun q => q.2.2 = 0 → 0 < q.2.1 ∧ q.2.1 ≤ L.length ∧ last < q.1.tag) ?_ ?_ ?_ ?_ ?_ ?_ ?_ ?_ ?_ ?_ ?_
  all_goals intros
  all_goals simp only [Tree.tag] at *
  all_goals first | omega | exact absurd (by assumption) (by assumption)

theorem one_tag (sub : Option (List UInt8 → List Tree × Nat)) (L : List UInt8) (last : Nat) : (oneW sub L last).1.tag ≤ 4294967296 ∧ (oneW sub L last).2.1 ≤ L.length := by
  refine one_cases sub L last (P := fun q => q.1.tag ≤ 4294967296 ∧ q.2.1 ≤ L.length) ?_ ?_ ?_ ?_ ?_ ?_ ?_ ?_ ?_ ?_ ?_
  all_goals intros
  all_goals simp only [Tree.tag, zeroT] at *
  all_goals omega

/-- All fields. -/
def allW (sub : Option (List UInt8 → List Tree × Nat)) (L : List UInt8) (last : Nat) : List Tree × Nat :=
  if h : L = [] then ([], 0)
  else if h2 : (oneW sub L last).2.2 ≠ 0 then ([], (oneW sub L last).2.2)
  else
    let r := allW sub (L.drop (oneW sub L last).2.1) (oneW sub L last).1.tag
    if r.2 ≠ 0 then ([], r.2) else ((oneW sub L last).1 :: r.1, 0)
termination_by L.length
decreasing_by
  have := one_pos sub L last (by simpa using h2)
  rw [List.length_drop]
  have : 0 < L.length := List.length_pos_iff.2 h
  omega

theorem allW_nil (sub : Option (List UInt8 → List Tree × Nat)) (last : Nat) : allW sub [] last = ([], 0) := by rw [allW, dif_pos rfl]
theorem allW_err {sub : Option (List UInt8 → List Tree × Nat)} {L : List UInt8} {last : Nat} (h : L ≠ []) (h2 : (oneW sub L last).2.2 ≠ 0) : allW sub L last = ([], (oneW sub L last).2.2) := by rw [allW, dif_neg h, dif_pos h2]
def glueW (acc : List Tree) (q : List Tree × Nat) : List Tree × Nat := if q.2 ≠ 0 then ([], q.2) else (acc ++ q.1, 0)
theorem allW_ok {sub : Option (List UInt8 → List Tree × Nat)} {L : List UInt8} {last : Nat} (h : L ≠ []) (h2 : (oneW sub L last).2.2 = 0) :
    allW sub L last = glueW [(oneW sub L last).1] (allW sub (L.drop (oneW sub L last).2.1) (oneW sub L last).1.tag) := by
  rw [allW, dif_neg h, dif_neg (by simp [h2])]
  unfold glueW
  simp only [List.singleton_append]
theorem glueW_glueW (a b : List Tree) (q : List Tree × Nat) : glueW a (glueW b q) = glueW (a ++ b) q := by
  unfold glueW
  by_cases h : q.2 ≠ 0
  · simp [h]
  · simp [h]
theorem glueW_nil (q : List Tree × Nat) (h : q.2 ≠ 0 → q.1 = []) : glueW [] q = q := by
  unfold glueW
  by_cases h2 : q.2 ≠ 0
  · rw [if_pos h2, ← h h2]
  · rw [if_neg h2]; simp at h2; rw [List.nil_append, ← h2]

theorem allW_good (sub : Option (List UInt8 → List Tree × Nat)) : ∀ (m : Nat) (L : List UInt8) (last : Nat), L.length ≤ m → (allW sub L last).2 ≠ 0 → (allW sub L last).1 = []
  | m, [], last, _, h => by rw [allW_nil]
  | 0, x :: r, last, h, _ => by simp at h
  | m + 1, x :: r, last, h, h2 => by
    have hne : (x :: r) ≠ [] := by simp
    by_cases h3 : (oneW sub (x :: r) last).2.2 ≠ 0
    · rw [allW_err hne h3]
    · have h4 : (oneW sub (x :: r) last).2.2 = 0 := by simpa using h3
      rw [allW_ok hne h4] at h2 ⊢
      unfold glueW at h2 ⊢
      split
      · rfl
      · rename_i h5; rw [if_neg h5] at h2; simp at h2

/-- Fields, within so many Lists that 'd' more may stand in one another. -/
def readD : Nat → List UInt8 → List Tree × Nat
  | 0, L => allW none L 0
  | d + 1, L => allW (some (readD d)) L 0
def subD : Nat → Option (List UInt8 → List Tree × Nat)
  | 0 => none
  | d + 1 => some (readD d)
theorem readD_eq (d : Nat) (L : List UInt8) : readD d L = allW (subD d) L 0 := by cases d <;> rfl

/-- The last tag, or the one ahead. -/
def lastOf (p : Nat) : List Tree → Nat
  | [] => p
  | t :: r => lastOf t.tag r

theorem oneW_wr (d p : Nat) (t : Tree) (R : List UInt8) (hd : d ≤ 8) (hc : checkL (8 - d) p [t] = 0) (hf : Tree.fits t) (hl : (wrT t).length < 18446744073709551616)
    (hsub : t.typ = 2 → ∃ e, d = e + 1 ∧ readD e (wrL t.list) = (t.list, 0)) : oneW (subD d) (wrT t ++ R) p = (t, (wrT t).length, 0) := by
  obtain ⟨h0, h1, h2, h3, h4, h5, -⟩ := check_ok hc
  have hty : 0 ≤ t.typ ∧ t.typ ≤ 2 := by unfold bad at h3; omega
  obtain ⟨f1, f2⟩ := (fits_eq t).1 hf
  obtain ⟨y, hy⟩ : ∃ y : Nat, t.typ.toNat = y := ⟨_, rfl⟩
  have hyb : y ≤ 2 ∧ (y : Int) = t.typ := by omega
  have hw := wr_eq t
  rw [hy] at hw
  have hn : 4 * t.tag + y < 18446744073709551616 := by omega
  have hdiv : (4 * t.tag + y) / 4 = t.tag := by omega
  have hmod : (4 * t.tag + y) % 4 = y := by omega
  generalize hbody : (if t.typ = 0 then enc t.num else if t.typ = 2 then enc (wrL t.list).length ++ wrL t.list else enc t.text.size ++ t.text.data.toList) = body at hw
  have hg : getR (wrT t ++ R) = (4 * t.tag + y, (enc (4 * t.tag + y)).length, 0) := by rw [hw, List.append_assoc]; exact getR_enc hn _
  have hdrop : (wrT t ++ R).drop (enc (4 * t.tag + y)).length = body ++ R := by rw [hw, List.append_assoc, List.drop_left]
  unfold oneW
  rw [hg]
  simp only [hdiv, hmod, hdrop]
  rw [if_neg (by simp), if_neg (by omega), if_neg (by omega), if_neg (by omega)]
  by_cases q0 : t.typ = 0
  · rw [if_pos q0] at hbody
    subst hbody
    rw [getR_enc f1]
    simp only
    rw [if_neg (by simp), if_pos (by omega)]
    have hx : t.text = ⟨#[]⟩ := by
      have : t.text.size = 0 := by unfold bad at h3; omega
      have h7 : t.text.data.size = 0 := this
      cases hh : t.text with | mk a => rw [hh] at h7; simp at h7; rw [h7]
    have hll : t.list = [] := List.length_eq_zero_iff.1 (by unfold bad at h3; omega)
    rw [hw, List.length_append]
    refine Prod.ext ?_ rfl
    exact tree_ext rfl q0.symm rfl hx.symm hll.symm
  · rw [if_neg q0] at hbody
    have hlen : (wrT t ++ R).length = (enc (4 * t.tag + y)).length + body.length + R.length := by rw [hw, List.length_append, List.length_append]
    have hnum : t.num = 0 := by unfold bad at h3; omega
    by_cases q2 : t.typ = 2
    · rw [if_pos q2] at hbody
      obtain ⟨e, hde, hre⟩ := hsub q2
      have hb : (wrL t.list).length < 18446744073709551616 := by rw [hw, List.length_append, ← hbody, List.length_append] at hl; omega
      have hbl : body.length = (enc (wrL t.list).length).length + (wrL t.list).length := by rw [← hbody, List.length_append]
      subst hbody
      rw [List.append_assoc, getR_enc hb]
      simp only
      rw [if_neg (by simp), if_neg (by omega), if_neg (by rw [hlen, hbl]; omega), if_neg (by omega)]
      have hd2 : (wrT t ++ R).drop ((enc (4 * t.tag + y)).length + (enc (wrL t.list).length).length) = wrL t.list ++ R := by
        rw [← List.drop_drop, hdrop, List.append_assoc, List.drop_left]
      rw [hd2, List.take_left]
      subst hde
      simp only [subD, hre]
      rw [if_neg (by simp)]
      have hx : t.text = ⟨#[]⟩ := by
        have : t.text.size = 0 := by unfold bad at h3; omega
        have h7 : t.text.data.size = 0 := this
        cases hh : t.text with | mk a => rw [hh] at h7; simp at h7; rw [h7]
      rw [hw, List.length_append, List.length_append]
      refine Prod.ext ?_ (Prod.ext ?_ rfl)
      · exact tree_ext rfl q2.symm hnum.symm hx.symm rfl
      · show _ + _ + _ = _ + (_ + _); omega
    · rw [if_neg q2] at hbody
      have hb : t.text.size < 18446744073709551616 := by rw [hw, List.length_append, ← hbody, List.length_append] at hl; simp at hl; omega
      have hbl : body.length = (enc t.text.size).length + t.text.size := by rw [← hbody, List.length_append]; simp
      subst hbody
      rw [List.append_assoc, getR_enc hb]
      simp only
      rw [if_neg (by simp), if_neg (by omega), if_neg (by rw [hlen, hbl]; omega), if_pos (by omega)]
      have hd2 : (wrT t ++ R).drop ((enc (4 * t.tag + y)).length + (enc t.text.size).length) = t.text.data.toList ++ R := by
        rw [← List.drop_drop, hdrop, List.append_assoc, List.drop_left]
      have htl : t.text.data.toList.length = t.text.size := by simp
      rw [hd2, show (t.text.data.toList ++ R).take t.text.size = t.text.data.toList by rw [← htl, List.take_left], txt_of]
      have hll : t.list = [] := List.length_eq_zero_iff.1 (by unfold bad at h3; omega)
      rw [hw, List.length_append, List.length_append, htl]
      refine Prod.ext ?_ (Prod.ext ?_ rfl)
      · exact tree_ext rfl (by show (1 : Int) = t.typ; omega) hnum.symm rfl hll.symm
      · show _ + _ + _ = _ + (_ + _); omega

/-- What is written is read, and then what stands behind it. -/
theorem all_wr : ∀ (m : Nat) (ts : List Tree) (d p : Nat) (R : List UInt8), sizeL ts ≤ m → d ≤ 8 → checkL (8 - d) p ts = 0 → fitsL ts → (wrL ts).length < 18446744073709551616 → allW (subD d) (wrL ts ++ R) p = glueW ts (allW (subD d) R (lastOf p ts))
  | m, [], d, p, R, _, _, _, _, _ => by
    rw [wrL_nil, List.nil_append, lastOf, glueW_nil _ (allW_good _ _ _ _ (Nat.le_refl _))]
  | 0, t :: r, d, p, R, h, _, _, _, _ => by rw [sizeL_cons] at h; omega
  | m + 1, t :: r, d, p, R, h, hd, hc, hf, hl => by
    rw [sizeL_cons] at h
    obtain ⟨h0, h1, h2, h3, h4, h5, h6⟩ := check_ok hc
    obtain ⟨f1, f2, f3⟩ := (fitsL_cons t r).1 hf
    rw [wrL_cons, List.length_append] at hl
    have hone := oneW_wr d p t (wrL r ++ R) hd (check_mk h0 h1 h2 h3 h4 h5 (checkL_nil _ _)) ((fits_eq t).2 ⟨f1, f2⟩) (by omega) (fun q2 => by
      have h8 : ¬ (8 - d = 8) := fun e => h4 ⟨q2, e⟩
      obtain ⟨e, he⟩ : ∃ e, d = e + 1 := ⟨d - 1, by omega⟩
      refine ⟨e, he, ?_⟩
      have hll : (wrL t.list).length < 18446744073709551616 := by
        have : (wrL t.list).length ≤ (wrT t).length := by rw [wr_eq, if_neg (by omega), if_pos q2, List.length_append, List.length_append]; omega
        omega
      have := all_wr m t.list e 0 [] (by omega) (by omega) (by rw [show 8 - e = 8 - d + 1 by omega]; exact h5) f2 hll
      rw [List.append_nil, allW_nil] at this
      rw [readD_eq, this]
      simp [glueW])
    have hpos : wrT t ≠ [] := by
      rw [wr_eq]
      intro h
      have := congrArg List.length h
      rw [List.length_append, List.length_nil] at this
      have h7 := enc_len_pos (4 * t.tag + t.typ.toNat)
      omega
    have hne : wrT t ++ (wrL r ++ R) ≠ [] := by simp [hpos]
    rw [wrL_cons, List.append_assoc, allW_ok hne (by rw [hone]), hone]
    simp only
    rw [List.drop_left, all_wr m r d t.tag R (by omega) hd h6 f3 (by omega), glueW_glueW, lastOf]
    rfl

theorem take_two (L : List UInt8) (k j : Nat) : L.take (k + j) = L.take k ++ (L.drop k).take j := List.take_add
theorem enc_of {L : List UInt8} {n k : Nat} (h : getR L = (n, k, 0)) : enc n = L.take k := by
  have := enc_getR (L := L) (by rw [h])
  rw [h] at this
  exact this

theorem oneW_rd (d p : Nat) (hd : d ≤ 8) (L : List UInt8) (hsub : ∀ e, d = e + 1 → ∀ T : List UInt8, (readD e T).2 = 0 → wrL (readD e T).1 = T ∧ checkL (8 - e) 0 (readD e T).1 = 0 ∧ fitsL (readD e T).1 ∧ sizeL (readD e T).1 ≤ T.length ∧ bulkL (readD e T).1 ≤ T.length) :
    (oneW (subD d) L p).2.2 = 0 → wrT (oneW (subD d) L p).1 = L.take (oneW (subD d) L p).2.1 ∧ checkL (8 - d) p [(oneW (subD d) L p).1] = 0 ∧ Tree.fits (oneW (subD d) L p).1 ∧ sizeL (oneW (subD d) L p).1.list + 2 ≤ (oneW (subD d) L p).2.1 ∧ Tree.bulk (oneW (subD d) L p).1 ≤ (oneW (subD d) L p).2.1 := by
  have pos2 : ∀ {M : List UInt8} {m j : Nat}, getR M = (m, j, 0) → 0 < j := fun {M m j} h => by have := (getR_bounds M).2.2.2.2 (by rw [h]); rw [h] at this; exact this
  refine one_cases (subD d) L p (P := fun q => q.2.2 = 0 → wrT q.1 = L.take q.2.1 ∧ checkL (8 - d) p [q.1] = 0 ∧ Tree.fits q.1 ∧ sizeL q.1.list + 2 ≤ q.2.1 ∧ Tree.bulk q.1 ≤ q.2.1) ?_ ?_ ?_ ?_ ?_ ?_ ?_ ?_ ?_ ?_ ?_
  · intro h h0; exact absurd h0 h
  · intro n k _ _ _ _ _ h0; cases h0
  · intro n k _ _ _ _ _ _ _ h0; cases h0
  · intro n k _ _ _ _ _ _ _ _ h0; cases h0
  · intro n k _ _ _ _ _ _ _ h h0; exact absurd h0 h
  · intro n k m j g1 hk hkj t1 t2 t3 g2 hm hn _
    have hj := pos2 g2
    refine ⟨?_, ?_, ?_, ?_, ?_⟩
    · rw [wr_eq]
      show enc (4 * (n / 4) + Int.toNat 0) ++ (if (0 : Int) = 0 then enc m else _) = _
      rw [if_pos rfl, show 4 * (n / 4) + Int.toNat 0 = n by simp; omega, enc_of g1, enc_of g2, take_two]
    · exact check_mk t1 t2 t3 (by unfold bad; simp only [Tree.typ, Tree.num, Tree.text, Tree.list, ByteArray.size]; simp) (by simp only [Tree.typ]; omega) (checkL_nil _ _) (checkL_nil _ _)
    · rw [fits_eq]; exact ⟨hm, by simp only [Tree.list]; rw [fitsL]; trivial⟩
    · simp only [Tree.list, sizeL]; omega
    · rw [bulk_eq]; simp only [Tree.text, Tree.list, bulkL, ByteArray.size]; simp
  · intro n k m j _ _ _ _ _ _ _ _ _ _ h0; cases h0
  · intro n k m j g1 hk hkj t1 t2 t3 g2 hn _
    have hj := pos2 g2
    have hlen : ((L.drop (k + j)).take m).length = m := by rw [List.length_take, List.length_drop]; omega
    refine ⟨?_, ?_, ?_, ?_, ?_⟩
    · rw [wr_eq]
      show enc (4 * (n / 4) + Int.toNat 1) ++ (if (1 : Int) = 0 then _ else if (1 : Int) = 2 then _ else enc (txt ((L.drop (k + j)).take m)).size ++ (txt ((L.drop (k + j)).take m)).data.toList) = _
      rw [if_neg (by omega), if_neg (by omega), show 4 * (n / 4) + Int.toNat 1 = n by simp; omega, txt_size, txt_list, hlen, enc_of g1, enc_of g2, take_two L (k + j) m, take_two L k j, List.append_assoc]
    · exact check_mk t1 t2 t3 (by unfold bad; simp only [Tree.typ, Tree.num, Tree.text, Tree.list]; simp) (by simp only [Tree.typ]; omega) (checkL_nil _ _) (checkL_nil _ _)
    · rw [fits_eq]; exact ⟨by simp only [Tree.num]; omega, by simp only [Tree.list]; rw [fitsL]; trivial⟩
    · simp only [Tree.list, sizeL]; omega
    · rw [bulk_eq]; simp only [Tree.text, Tree.list, bulkL]; rw [txt_size, hlen]; omega
  · intro n k m j _ _ _ _ _ _ _ _ _ h0; cases h0
  · intro n k m j q _ _ _ _ _ _ _ _ _ h h0; exact absurd h0 h
  · intro n k m j q g1 hk hkj t1 t2 t3 g2 hn hs h _
    have hj := pos2 g2
    obtain ⟨e, he, hq⟩ : ∃ e, d = e + 1 ∧ q = readD e := by
      cases d with
      | zero => cases hs
      | succ e => exact ⟨e, rfl, by simp only [subD, Option.some.injEq] at hs; exact hs.symm⟩
    subst hq
    obtain ⟨s1, s2, s3, s4, s5⟩ := hsub e he _ h
    have hlen : ((L.drop (k + j)).take m).length = m := by rw [List.length_take, List.length_drop]; omega
    rw [hlen] at s4 s5
    refine ⟨?_, ?_, ?_, ?_, ?_⟩
    · rw [wr_eq]
      show enc (4 * (n / 4) + Int.toNat 2) ++ (if (2 : Int) = 0 then _ else if (2 : Int) = 2 then enc (wrL (readD e ((L.drop (k + j)).take m)).1).length ++ wrL (readD e ((L.drop (k + j)).take m)).1 else _) = _
      rw [if_neg (by omega), if_pos rfl, show 4 * (n / 4) + Int.toNat 2 = n by simp; omega, s1, hlen, enc_of g1, enc_of g2, take_two L (k + j) m, take_two L k j, List.append_assoc]
    · refine check_mk t1 t2 t3 (by unfold bad; simp only [Tree.typ, Tree.num, Tree.text, Tree.list, ByteArray.size]; simp) (by simp only [Tree.typ]; omega) ?_ (checkL_nil _ _)
      rw [show 8 - d + 1 = 8 - e by omega]; exact s2
    · rw [fits_eq]; exact ⟨by simp only [Tree.num]; omega, s3⟩
    · simp only [Tree.list]; omega
    · rw [bulk_eq]; simp only [Tree.text, Tree.list, ByteArray.size]; simp; omega

theorem all_rd_step (d : Nat) (hd : d ≤ 8) (hsub : ∀ e, d = e + 1 → ∀ T : List UInt8, (readD e T).2 = 0 → wrL (readD e T).1 = T ∧ checkL (8 - e) 0 (readD e T).1 = 0 ∧ fitsL (readD e T).1 ∧ sizeL (readD e T).1 ≤ T.length ∧ bulkL (readD e T).1 ≤ T.length) (m : Nat)
    (ih : ∀ (L : List UInt8) (p : Nat), L.length ≤ m → (allW (subD d) L p).2 = 0 → wrL (allW (subD d) L p).1 = L ∧ checkL (8 - d) p (allW (subD d) L p).1 = 0 ∧ fitsL (allW (subD d) L p).1 ∧ sizeL (allW (subD d) L p).1 ≤ L.length ∧ bulkL (allW (subD d) L p).1 ≤ L.length) :
    ∀ (L : List UInt8) (p : Nat), L.length ≤ m + 1 → (allW (subD d) L p).2 = 0 → wrL (allW (subD d) L p).1 = L ∧ checkL (8 - d) p (allW (subD d) L p).1 = 0 ∧ fitsL (allW (subD d) L p).1 ∧ sizeL (allW (subD d) L p).1 ≤ L.length ∧ bulkL (allW (subD d) L p).1 ≤ L.length := by
  intro L p hL h
  by_cases h0 : L = []
  · subst h0
    rw [allW_nil]
    exact ⟨wrL_nil, checkL_nil _ _, by rw [fitsL]; trivial, by simp [sizeL], by simp [bulkL]⟩
  · by_cases h1 : (oneW (subD d) L p).2.2 ≠ 0
    · rw [allW_err h0 h1] at h; exact absurd h h1
    · have h1 : (oneW (subD d) L p).2.2 = 0 := by simpa using h1
      obtain ⟨k1, k2, k3⟩ := one_pos _ _ _ h1
      obtain ⟨r1, r2, r3, r4, r5⟩ := oneW_rd d p hd L hsub h1
      rw [allW_ok h0 h1] at h ⊢
      have hg : (allW (subD d) (L.drop (oneW (subD d) L p).2.1) (oneW (subD d) L p).1.tag).2 = 0 := by
        unfold glueW at h
        by_cases h2 : (allW (subD d) (L.drop (oneW (subD d) L p).2.1) (oneW (subD d) L p).1.tag).2 ≠ 0
        · rw [if_pos h2] at h; exact absurd h h2
        · simpa using h2
      obtain ⟨i1, i2, i3, i4, i5⟩ := ih _ _ (by rw [List.length_drop]; omega) hg
      rw [List.length_drop] at i4 i5
      unfold glueW
      rw [if_neg (by simp [hg])]
      generalize oneW (subD d) L p = q at *
      generalize allW (subD d) (L.drop q.2.1) q.1.tag = r at *
      obtain ⟨c0, c1, c2, c3, c4, c5, -⟩ := check_ok r2
      refine ⟨?_, ?_, ?_, ?_, ?_⟩
      · show wrL (q.1 :: r.1) = L
        rw [wrL_cons, r1, i1, List.take_append_drop]
      · exact check_mk c0 c1 c2 c3 c4 c5 i2
      · show fitsL (q.1 :: r.1)
        rw [fitsL]; exact ⟨r3, i3⟩
      · show sizeL (q.1 :: r.1) ≤ _
        rw [sizeL_cons]; omega
      · show bulkL (q.1 :: r.1) ≤ _
        rw [bulkL]; omega

/-- What is read would be written so, and may be. -/
theorem all_rd : ∀ (d : Nat), d ≤ 8 → ∀ (m : Nat) (L : List UInt8) (p : Nat), L.length ≤ m → (allW (subD d) L p).2 = 0 → wrL (allW (subD d) L p).1 = L ∧ checkL (8 - d) p (allW (subD d) L p).1 = 0 ∧ fitsL (allW (subD d) L p).1 ∧ sizeL (allW (subD d) L p).1 ≤ L.length ∧ bulkL (allW (subD d) L p).1 ≤ L.length := by
  intro d
  induction d with
  | zero =>
    intro hd m
    induction m with
    | zero =>
      intro L p h _
      obtain rfl : L = [] := List.length_eq_zero_iff.1 (by omega)
      rw [allW_nil]
      exact ⟨wrL_nil, checkL_nil _ _, by rw [fitsL]; trivial, by simp [sizeL], by simp [bulkL]⟩
    | succ m ih => exact all_rd_step 0 hd (fun e he => by omega) m ih
  | succ d ihd =>
    intro hd m
    induction m with
    | zero =>
      intro L p h _
      obtain rfl : L = [] := List.length_eq_zero_iff.1 (by omega)
      rw [allW_nil]
      exact ⟨wrL_nil, checkL_nil _ _, by rw [fitsL]; trivial, by simp [sizeL], by simp [bulkL]⟩
    | succ m ih => exact all_rd_step (d + 1) hd (fun e he T hT => by
        obtain rfl : d = e := by omega
        rw [readD_eq] at hT ⊢
        exact ihd (by omega) _ T 0 (Nat.le_refl _) hT) m ih

end Go.Proofs.YtbebdaglkjhbjaaGreatDoor.wm

/-
  What is made of few ones: how many fields, bytes; numbers of 64 bits.
-/
namespace Go.Proofs.YtbebdaglkjhbjaaGreatDoor.wm
open Go.RowKit Go.Proofs.YtbebdaglkjhbjaaGreatDoor.tr Go.Proofs.YtbebdaglkjhbjaaGreatDoor.vi
set_option linter.unusedVariables false
set_option linter.unusedSimpArgs false

def bulkO : List OneT → Nat | [] => 0 | x :: r => x.text.size + bulkO r

theorem from_bulk : ∀ (n : Nat) (xs : List OneT) (d : Nat), xs.length ≤ n → bulkL (fromL xs d) + bulkO (restL xs d) = bulkO xs
  | n, [], d, _ => by rw [fromL_nil, restL_nil]; simp [bulkL]
  | 0, x :: r, d, h => by simp at h
  | n + 1, x :: r, d, h => by
    have hl : (x :: r).length = r.length + 1 := rfl
    by_cases h1 : x.deep < d
    · rw [fromL_stop h1, restL_stop h1]; simp [bulkL]
    · by_cases h2 : x.deep = 255
      · have := from_bulk n r d (by omega)
        rw [fromL_flat h1 h2, restL_flat h1 h2, bulkL_cons, bulkO]
        simp only [Tree.list, Tree.text, bulkL]
        omega
      · have h3 := from_bulk n r (x.deep + 1) (by omega)
        have h4 := restL_len r (x.deep + 1)
        have h5 := from_bulk n (restL r (x.deep + 1)) d (by omega)
        rw [fromL_deep h1 h2, restL_deep h1 h2, bulkL_cons, bulkO]
        simp only [Tree.list, Tree.text]
        omega

theorem from_fits : ∀ (n : Nat) (xs : List OneT) (d : Nat), xs.length ≤ n → (∀ x ∈ xs, x.num < 18446744073709551616) → fitsL (fromL xs d) ∧ ∀ x ∈ restL xs d, x.num < 18446744073709551616
  | n, [], d, _, _ => by rw [fromL_nil, restL_nil]; exact ⟨by rw [fitsL]; trivial, fun x h => by simp at h⟩
  | 0, x :: r, d, h, _ => by simp at h
  | n + 1, x :: r, d, h, hx => by
    have hl : (x :: r).length = r.length + 1 := rfl
    by_cases h1 : x.deep < d
    · rw [fromL_stop h1, restL_stop h1]; exact ⟨by rw [fitsL]; trivial, hx⟩
    · by_cases h2 : x.deep = 255
      · have h3 := from_fits n r d (by omega) (fun y hy => hx y (by simp [hy]))
        rw [fromL_flat h1 h2, restL_flat h1 h2, fitsL_cons]
        exact ⟨⟨hx x (by simp), by simp only [Tree.list]; rw [fitsL]; trivial, h3.1⟩, h3.2⟩
      · have h3 := from_fits n r (x.deep + 1) (by omega) (fun y hy => hx y (by simp [hy]))
        have h4 := restL_len r (x.deep + 1)
        have h5 := from_fits n (restL r (x.deep + 1)) d (by omega) h3.2
        rw [fromL_deep h1 h2, restL_deep h1 h2, fitsL_cons]
        exact ⟨⟨hx x (by simp), h3.1, h5.1⟩, h5.2⟩

theorem few_bulk {xs : List OneT} (h : ∀ x ∈ xs, x.text.size ≤ 300) : bulkO xs ≤ 300 * xs.length := by
  induction xs with
  | nil => simp [bulkO]
  | cons x r ih =>
    have h1 := h x (by simp)
    have h2 := ih (fun y hy => h y (by simp [hy]))
    rw [bulkO, List.length_cons]; omega

/-- Few ones make few fields. -/
theorem few_facts {B : Nat} {w : World} {a : Option Addr} {cap : Nat} {xs : List OneT} (hf : fewB xs = true) (h : Ones B w a cap xs) : sizeL (fromL xs 0) = xs.length ∧ xs.length ≤ 60 ∧ bulkL (fromL xs 0) ≤ 18000 ∧ fitsL (fromL xs 0) := by
  have hl := few_len hf
  have h1 := from_size _ xs 0 (Nat.le_refl _)
  have h2 := from_bulk _ xs 0 (Nat.le_refl _)
  rw [restL_zero _ xs (Nat.le_refl _)] at h1 h2
  have h3 : ∀ x ∈ xs, x.text.size ≤ 300 := fun x hx => by
    obtain ⟨i, hi⟩ := List.getElem?_of_mem hx
    by_cases hx3 : x.text.size ≤ 300
    · exact hx3
    · rw [few_at hi (by omega)] at hf; cases hf
  have h4 := few_bulk h3
  refine ⟨by simpa using h1, hl, by simp [bulkO] at h2; omega, (from_fits _ xs 0 (Nat.le_refl _) (fun x hx => (h.2.1 x hx).2.2.2)).1⟩

/-- What is written of few fields is not long. -/
theorem few_wr {B : Nat} {w : World} {a : Option Addr} {cap : Nat} {xs : List OneT} (hf : fewB xs = true) (h : Ones B w a cap xs) (d p : Nat) (hc : checkL d p (fromL xs 0) = 0) : (wrL (fromL xs 0)).length ≤ 20000 := by
  obtain ⟨h1, h2, h3, h4⟩ := few_facts hf h
  have := wr_len _ (fromL xs 0) d p (Nat.le_refl _) (by omega) (by omega) h4 hc
  omega

/-- What Put answers. -/
def putR (ts : List Tree) : List UInt8 × Nat := if checkL 0 0 ts ≠ 0 then ([], checkL 0 0 ts) else if 65536 < (wrL ts).length then ([], 4) else (wrL ts, 0)
/-- What Get answers. -/
def getW (L : List UInt8) : List Tree × Nat := if 65536 < L.length then ([], 4) else readD 8 L

end Go.Proofs.YtbebdaglkjhbjaaGreatDoor.wm

/-
  One field's reading in two steps: its first number, and what is behind it.
-/
namespace Go.Proofs.YtbebdaglkjhbjaaGreatDoor.wm
open Go.RowKit Go.Proofs.YtbebdaglkjhbjaaGreatDoor.tr Go.Proofs.YtbebdaglkjhbjaaGreatDoor.vi
set_option linter.unusedVariables false
set_option linter.unusedSimpArgs false

/-- What is read behind a field's first number: a number, bytes, fields; how many bytes that are; the error. -/
structure Body where
  num : Nat
  text : List UInt8
  list : List Tree
  len : Nat
  err : Nat

/-- Behind a List's length: its bytes, how many bytes that are with the length's own. -/
def bodyL (sub : Option (List UInt8 → List Tree × Nat)) (T : List UInt8) (j : Nat) : Body :=
  match sub with
  | none => ⟨0, [], [], 0, 9⟩
  | some p => if (p T).2 ≠ 0 then ⟨0, [], [], 0, (p T).2⟩ else ⟨0, [], (p T).1, j, 0⟩

def bodyW (sub : Option (List UInt8 → List Tree × Nat)) (y : Nat) (R : List UInt8) : Body :=
  if (getR R).2.2 ≠ 0 then ⟨0, [], [], 0, (getR R).2.2⟩
  else if y = 0 then ⟨(getR R).1, [], [], (getR R).2.1, 0⟩
  else if R.length - (getR R).2.1 < (getR R).1 then ⟨0, [], [], 0, 1⟩
  else if y = 1 then ⟨0, (R.drop (getR R).2.1).take (getR R).1, [], (getR R).2.1 + (getR R).1, 0⟩
  else bodyL sub ((R.drop (getR R).2.1).take (getR R).1) ((getR R).2.1 + (getR R).1)

/-- May a field of such a first number stand behind that tag? -/
def headE (n last : Nat) : Nat := if n / 4 = 0 ∨ 4294967296 < n / 4 then 18 else if n % 4 = 3 then 8 else if n / 4 ≤ last then 7 else 0

theorem one_split (sub : Option (List UInt8 → List Tree × Nat)) (L : List UInt8) (last : Nat) {P : Tree × Nat × Nat → Prop}
    (c1 : (getR L).2.2 ≠ 0 → P (zeroT, 0, (getR L).2.2))
    (c2 : ∀ n k, getR L = (n, k, 0) → 0 < k → k ≤ L.length → n < 18446744073709551616 → headE n last ≠ 0 → P (zeroT, 0, headE n last))
    (c3 : ∀ n k, getR L = (n, k, 0) → 0 < k → k ≤ L.length → n < 18446744073709551616 → headE n last = 0 → (bodyW sub (n % 4) (L.drop k)).err ≠ 0 → P (zeroT, 0, (bodyW sub (n % 4) (L.drop k)).err))
    (c4 : ∀ n k, getR L = (n, k, 0) → 0 < k → k ≤ L.length → n < 18446744073709551616 → headE n last = 0 → (bodyW sub (n % 4) (L.drop k)).err = 0 →
      P (.mk (n / 4) ((n % 4 : Nat) : Int) (bodyW sub (n % 4) (L.drop k)).num (txt (bodyW sub (n % 4) (L.drop k)).text) (bodyW sub (n % 4) (L.drop k)).list, k + (bodyW sub (n % 4) (L.drop k)).len, 0)) :
    P (oneW sub L last) := by
  have b1 := getR_bounds L
  unfold oneW
  by_cases h1 : (getR L).2.2 ≠ 0
  · rw [if_pos h1]; exact c1 h1
  rw [if_neg h1]
  obtain ⟨n, k, e0, hg⟩ : ∃ n k e, getR L = (n, k, e) := ⟨_, _, _, rfl⟩
  rw [hg] at b1 h1 ⊢
  simp only at b1 h1 ⊢
  obtain rfl : e0 = 0 := by omega
  have b2 := getR_bounds (L.drop k)
  have d2 := c2 n k hg (b1.2.2.2.2 rfl) b1.2.1 b1.1
  have d3 := c3 n k hg (b1.2.2.2.2 rfl) b1.2.1 b1.1
  have d4 := c4 n k hg (b1.2.2.2.2 rfl) b1.2.1 b1.1
  clear c1 c2 c3 c4
  by_cases h2 : n / 4 = 0 ∨ 4294967296 < n / 4
  · rw [if_pos h2]; have he : headE n last = 18 := by unfold headE; rw [if_pos h2]
    rw [he] at d2; exact d2 (by omega)
  rw [if_neg h2]
  by_cases h3 : n % 4 = 3
  · rw [if_pos h3]; have he : headE n last = 8 := by unfold headE; rw [if_neg h2, if_pos h3]
    rw [he] at d2; exact d2 (by omega)
  rw [if_neg h3]
  by_cases h4 : n / 4 ≤ last
  · rw [if_pos h4]; have he : headE n last = 7 := by unfold headE; rw [if_neg h2, if_neg h3, if_pos h4]
    rw [he] at d2; exact d2 (by omega)
  rw [if_neg h4]
  have he : headE n last = 0 := by unfold headE; rw [if_neg h2, if_neg h3, if_neg h4]
  replace d3 := d3 he
  replace d4 := d4 he
  by_cases h5 : (getR (L.drop k)).2.2 ≠ 0
  · rw [if_pos h5]
    have hb : bodyW sub (n % 4) (L.drop k) = ⟨0, [], [], 0, (getR (L.drop k)).2.2⟩ := by unfold bodyW; rw [if_pos h5]
    rw [hb] at d3; exact d3 h5
  rw [if_neg h5]
  by_cases h6 : n % 4 = 0
  · rw [if_pos h6]
    have hb : bodyW sub (n % 4) (L.drop k) = ⟨(getR (L.drop k)).1, [], [], (getR (L.drop k)).2.1, 0⟩ := by unfold bodyW; rw [if_neg h5, if_pos h6]
    rw [hb, h6] at d4; exact d4 rfl
  rw [if_neg h6]
  rw [List.length_drop] at b2
  have hle := b2.2.1
  by_cases h7 : L.length - (k + (getR (L.drop k)).2.1) < (getR (L.drop k)).1
  · rw [if_pos h7]
    have hb : bodyW sub (n % 4) (L.drop k) = ⟨0, [], [], 0, 1⟩ := by unfold bodyW; rw [if_neg h5, if_neg h6, if_pos (by rw [List.length_drop]; omega)]
    rw [hb] at d3; exact d3 (by simp)
  rw [if_neg h7]
  have h7' : ¬ (L.drop k).length - (getR (L.drop k)).2.1 < (getR (L.drop k)).1 := by rw [List.length_drop]; omega
  have hdd : ((L.drop k).drop (getR (L.drop k)).2.1).take (getR (L.drop k)).1 = (L.drop (k + (getR (L.drop k)).2.1)).take (getR (L.drop k)).1 := by rw [List.drop_drop]
  by_cases h8 : n % 4 = 1
  · rw [if_pos h8]
    have hb : bodyW sub (n % 4) (L.drop k) = ⟨0, (L.drop (k + (getR (L.drop k)).2.1)).take (getR (L.drop k)).1, [], (getR (L.drop k)).2.1 + (getR (L.drop k)).1, 0⟩ := by unfold bodyW; rw [if_neg h5, if_neg h6, if_neg h7', if_pos h8, hdd]
    rw [hb, h8] at d4
    rw [Nat.add_assoc]; exact d4 rfl
  rw [if_neg h8]
  have h9 : n % 4 = 2 := by omega
  cases sub with
  | none =>
    have hb : bodyW none (n % 4) (L.drop k) = ⟨0, [], [], 0, 9⟩ := by unfold bodyW; rw [if_neg h5, if_neg h6, if_neg h7', if_neg h8]; rfl
    rw [hb] at d3; exact d3 (by simp)
  | some p =>
    simp only
    by_cases h10 : (p ((L.drop (k + (getR (L.drop k)).2.1)).take (getR (L.drop k)).1)).2 ≠ 0
    · rw [if_pos h10]
      have hb : bodyW (some p) (n % 4) (L.drop k) = ⟨0, [], [], 0, (p ((L.drop (k + (getR (L.drop k)).2.1)).take (getR (L.drop k)).1)).2⟩ := by unfold bodyW; rw [if_neg h5, if_neg h6, if_neg h7', if_neg h8, hdd]; unfold bodyL; simp only; rw [if_pos h10]
      rw [hb] at d3; exact d3 h10
    · rw [if_neg h10]
      have hb : bodyW (some p) (n % 4) (L.drop k) = ⟨0, [], (p ((L.drop (k + (getR (L.drop k)).2.1)).take (getR (L.drop k)).1)).1, (getR (L.drop k)).2.1 + (getR (L.drop k)).1, 0⟩ := by unfold bodyW; rw [if_neg h5, if_neg h6, if_neg h7', if_neg h8, hdd]; unfold bodyL; simp only; rw [if_neg h10]
      rw [hb, h9] at d4
      rw [Nat.add_assoc]; exact d4 rfl

theorem body_lt (sub : Option (List UInt8 → List Tree × Nat)) (y : Nat) (R : List UInt8) : (bodyW sub y R).len ≤ R.length := by
  have b := getR_bounds R
  unfold bodyW
  split
  · simp
  split
  · exact b.2.1
  split
  · simp
  split
  · have := b.2.1; simp only; omega
  unfold bodyL
  split
  · simp
  split
  · simp
  · have := b.2.1; simp only; omega

end Go.Proofs.YtbebdaglkjhbjaaGreatDoor.wm

/-
  The document's fields as bytes: Text, Put, one, all, Get, First.
-/
namespace Go.Proofs.YtbebdaglkjhbjaaGreatDoor.wm
open Go.RowKit Go.Proofs.YtbebdaglkjhbjaaGreatDoor.tr Go.Proofs.YtbebdaglkjhbjaaGreatDoor.vi
set_option linter.unusedVariables false
set_option linter.unusedSimpArgs false

theorem encB_txt (n : Nat) : encB n = txt (enc n) := rfl
theorem txt_append (a b : List UInt8) : txt a ++ txt b = txt (a ++ b) := by
  apply ByteArray.ext
  apply Array.ext'
  simp [txt]
theorem txt_data (s : ByteArray) : s = txt s.data.toList := (txt_of s).symm

/-- A field of those that may be. -/
theorem good_at : ∀ {ts : List Tree} {d p i : Nat} {t : Tree}, checkL d p ts = 0 → fitsL ts → ts[i]? = some t → t.tag ≤ 4294967296 ∧ (0 ≤ t.typ ∧ t.typ ≤ 2) ∧ t.num < 18446744073709551616 ∧ fitsL t.list ∧ checkL (d + 1) 0 t.list = 0
  | [], d, p, i, t, _, _, h => by simp at h
  | x :: r, d, p, 0, t, hc, hf, h => by
    simp at h; subst h
    obtain ⟨h0, h1, h2, h3, h4, h5, h6⟩ := check_ok hc
    obtain ⟨f1, f2, f3⟩ := (fitsL_cons x r).1 hf
    exact ⟨h1, by unfold bad at h3; omega, f1, f2, h5⟩
  | x :: r, d, p, i + 1, t, hc, hf, h => by
    obtain ⟨h0, h1, h2, h3, h4, h5, h6⟩ := check_ok hc
    obtain ⟨f1, f2, f3⟩ := (fitsL_cons x r).1 hf
    exact good_at (i := i) h6 f3 (by simpa using h)

end Go.Proofs.YtbebdaglkjhbjaaGreatDoor.wm

/-
  The document's reading of fields: one, all, Get, First.
-/
namespace Go.Proofs.YtbebdaglkjhbjaaGreatDoor.wm
open Go.RowKit Go.Proofs.YtbebdaglkjhbjaaGreatDoor.tr Go.Proofs.YtbebdaglkjhbjaaGreatDoor.vi
set_option linter.unusedVariables false
set_option linter.unusedSimpArgs false

theorem results_cell3 {P : Program} {fn : Func} {p u v : Tmp} {ty : TypeId} (h : fn.results = #[.cell p ty, .tmp u, .tmp v]) (tmps : Array Value) (w : World) (g : Nat) (t : TypeId) (cs : Array Value) (fr : Nat × Nat) (d : TypeDesc)
    (hp : tmps.getD p undef = .pointer (some ⟨g, 0, none⟩)) (hg : w.heap[g]? = some (.cells cs t fr))
    (hu : P.underlying ty = some d) (hd : (match d with | .struct _ | .array _ _ => true | _ => false) = true) (hi : (P.info? ty).map (·.size) = some cs.size) :
    (results fn tmps).run P w = .ok (.tuple #[.agg cs, tmps.getD u undef, tmps.getD v undef]) w := by
  have hp' : tmps[p]?.getD undef = .pointer (some ⟨g, 0, none⟩) := by simpa using hp
  simp [results, h, hp', asAddr, run_loadVar_row w g t ty cs fr d hg hu hd hi]

theorem heap_setc {w : World} {b i : Nat} {v : Value} {c : Array Value} {t : TypeId} {fz : Nat × Nat} (h : w.heap[b]? = some (.cells c t fz)) : (w.setCell ⟨b, i, none⟩ v).heap[b]? = some (.cells (c.setIfInBounds i v) t fz) := by
  simp [World.setCell, Array.getElem?_modify, h]
/-- A block of five cells, written whole. -/
theorem heap_five {w : World} {g : Nat} {z0 z1 z2 z3 z4 : Value} {ty : TypeId} {fz : Nat × Nat} (h : w.heap[g]? = some (.cells #[z0, z1, z2, z3, z4] ty fz)) (a b c d e : Value) :
    (((((w.setCell ⟨g, 0, none⟩ a).setCell ⟨g, 1, none⟩ b).setCell ⟨g, 2, none⟩ c).setCell ⟨g, 3, none⟩ d).setCell ⟨g, 4, none⟩ e).heap[g]? = some (.cells #[a, b, c, d, e] ty fz) :=
  heap_setc (heap_setc (heap_setc (heap_setc (heap_setc h))))

theorem fm_ext (s : ByteArray) (a b : Nat) : (s.extract a b).data.toList = (s.data.toList.drop a).take (b - a) := by
  simp [List.take_drop]

/-- A field as a value. -/
def fv (t : Tree) (v : Value) : Value := .agg #[.int .u64 (t.tag : Nat), .int .i64 t.typ, .int .u64 (t.num : Nat), .string t.text, v]

/-- What one field's reading hands back. -/
def OneP (w : World) (q : Tree × Nat × Nat) (e : Ending) (w' : World) : Prop :=
  ∃ lv S', e = .returned (.tuple #[.agg #[.int .u64 (q.1.tag : Nat), .int .i64 q.1.typ, .int .u64 (q.1.num : Nat), .string q.1.text, lv], .int .i64 (q.2.1 : Nat), .int .i64 (q.2.2 : Nat)]) ∧ Rd w' S' lv q.1.list ∧ (∀ k, S' k → w.heap.size ≤ k ∧ k < w'.heap.size) ∧ w.grownBy w' none

/-- What the reading of all hands back. -/
def AllP (ty : TypeId) (w : World) (q : List Tree × Nat) (e : Ending) (w' : World) : Prop :=
  ∃ v S', e = .returned (.tuple #[v, .int .i64 (q.2 : Nat)]) ∧ OwnF ty w.heap.size S' w' v q.1 ∧ (∀ k, S' k → w.heap.size ≤ k) ∧ w.grownBy w' none

end Go.Proofs.YtbebdaglkjhbjaaGreatDoor.wm

/-
  The statements of layer 9, for whatever keeps the contracts of fields and of their bytes.
-/
namespace Go.Proofs.YtbebdaglkjhbjaaGreatDoor.law09
open Go.RowKit Go.Proofs.YtbebdaglkjhbjaaGreatDoor.tr Go.Proofs.YtbebdaglkjhbjaaGreatDoor.wm Go.Proofs.YtbebdaglkjhbjaaGreatDoor.vi
set_option linter.unusedVariables false
set_option linter.unusedSimpArgs false

def sizeR (ts : List Tree) : Nat := if checkL 0 0 ts ≠ 0 then 0 else (wrL ts).length

/-- What layer 9's awake asks. -/
structure WCore where
  fc : law08.FCore
  ofText : ∀ (a : Nat) (s : ByteArray) (w : World), Calls Tryz.prog 193 #[.int .u64 (a : Nat), .string s] w fun e w' => e = .returned (.agg #[.int .u64 (a : Nat), .int .i64 1, .int .u64 0, .string s, .slice none 0 0]) ∧ w.grownBy w' none
  put : ∀ (ts : List Tree) (w : World) (S : Nat → Prop) (v : Value), sizeL ts ≤ 50000 → fitsL ts → (checkL 0 0 ts = 0 → (wrL ts).length ≤ 100000) → Rd w S v ts → Calls Tryz.prog 192 #[v] w fun e w' => e = .returned (.tuple #[.string (txt (putR ts).1), .int .i64 ((putR ts).2 : Nat)]) ∧ w.grownBy w' none

theorem awake8_any (I : law08.FCore) (w : World) (hT : I.Tab w) :
    Calls Tryz.prog 194 #[] w fun e w' => e = .returned (.bool true) ∧ w.grownBy w' none := by
  go_enter Tryz.func194, Tryz.ntmps194
  go_wp2_with (go_at_call 207; refine (law08.awake_any I _ hT).mono ?_; rintro e w' ⟨rfl, g⟩)
  go_ret
  exact ⟨rfl, g⟩

/-- The example's fields. -/
def exL : List Tree := [.mk 1 0 300 ⟨#[]⟩ [], .mk 2 1 0 ⟨#[97, 98]⟩ []]
theorem ex_check : checkL 0 0 exL = 0 := by
  unfold exL
  refine check_mk (by simp [Tree.tag]) (by simp [Tree.tag]) (by simp [Tree.tag]) (by simp [bad, Tree.typ, Tree.num, Tree.text, Tree.list, ByteArray.size]) (by simp [Tree.typ]) (by simp only [Tree.list]; exact checkL_nil _ _) ?_
  exact check_mk (by simp [Tree.tag]) (by simp [Tree.tag]) (by simp [Tree.tag]) (by simp [bad, Tree.typ, Tree.num, Tree.text, Tree.list, ByteArray.size]) (by simp [Tree.typ]) (by simp only [Tree.list]; exact checkL_nil _ _) (checkL_nil _ _)
theorem wr_num (a n : Nat) (x : ByteArray) (l : List Tree) : wrT (.mk a 0 n x l) = enc (4 * a) ++ enc n := by
  rw [wr_eq, if_pos (by simp [Tree.typ])]
  rfl
theorem wr_text (a n : Nat) (x : ByteArray) (l : List Tree) : wrT (.mk a 1 n x l) = enc (4 * a + 1) ++ (enc x.size ++ x.data.toList) := by
  rw [wr_eq, if_neg (by simp [Tree.typ]), if_neg (by simp [Tree.typ])]
  rfl
theorem ex_wr : wrL exL = [4, 172, 2, 9, 2, 97, 98] := by
  have e1 : enc 4 = [4] := enc_small (by omega)
  have e2 : enc 300 = [172, 2] := by rw [enc_big (by omega), enc_small (by omega)]; rfl
  have e3 : enc 9 = [9] := enc_small (by omega)
  have e4 : enc 2 = [2] := enc_small (by omega)
  unfold exL
  rw [wrL_cons, wrL_cons, wrL_nil, wr_num, wr_text]
  show enc 4 ++ enc 300 ++ ((enc 9 ++ (enc 2 ++ [97, 98])) ++ []) = _
  rw [e1, e2, e3, e4]
  rfl
theorem ex_put : putR exL = ([4, 172, 2, 9, 2, 97, 98], 0) := by
  unfold putR
  rw [if_neg (by simp [ex_check]), ex_wr, if_neg (by simp)]
theorem ex_fits : fitsL exL := by
  unfold exL
  exact (fitsL_cons _ _).2 ⟨by simp [Tree.num], by simp only [Tree.list]; rw [fitsL]; trivial, (fitsL_cons _ _).2 ⟨by simp [Tree.num], by simp only [Tree.list]; rw [fitsL]; trivial, by rw [fitsL]; trivial⟩⟩
theorem ex_size : sizeL exL = 2 := by unfold exL; rw [sizeL_cons, sizeL_cons]; simp [Tree.list, sizeL]

/-- The example's row. -/
theorem rd_ex (w : World) (ty : TypeId) : Rd (w.alloc (.cells #[.int .u64 1, .int .i64 0, .int .u64 300, .string ⟨#[]⟩, .slice none 0 0, .int .u64 2, .int .i64 1, .int .u64 0, .string ⟨#[97, 98]⟩, .slice none 0 0] ty)) (fun _ => True) (.slice (some ⟨w.heap.size, 0, none⟩) 2 2) exL := by
  refine .row _ _ _ _ _ (fun _ => .slice none 0 0) rfl (by omega) (by omega) (by unfold maxLen; omega) trivial (fun i t ht => ?_) (fun i t ht => ?_)
  · have hi : i = 0 ∨ i = 1 := by have := (List.getElem?_eq_some_iff.1 ht).1; simp [exL] at this; omega
    rcases hi with rfl | rfl <;> (simp [exL] at ht; subst ht; exact ⟨by rw [cell_new]; rfl, by rw [cell_new]; rfl, by rw [cell_new]; rfl, by rw [cell_new]; rfl, by rw [cell_new]; rfl⟩)
  · have hi : i = 0 ∨ i = 1 := by have := (List.getElem?_eq_some_iff.1 ht).1; simp [exL] at this; omega
    rcases hi with rfl | rfl <;> (simp [exL] at ht; subst ht; exact .nil _ _)

set_option maxHeartbeats 2000000 in
set_option maxRecDepth 100000 in
theorem awake_any (I : WCore) (w : World) (hT : I.fc.Tab w) :
    Calls Tryz.prog 186 #[] w fun e w' => e = .returned (.bool true) ∧ w.grownBy w' none := by
  have HT := Lib.hid (fun w' (g : w.grownBy w' none) => awake8_any I.fc w' (I.fc.kept hT g))
  have HN := Lib.hid I.fc.ofNum
  have HX := Lib.hid I.ofText
  have HP := Lib.hid (fun w => I.put exL _ _ _ (by rw [ex_size]; omega) ex_fits (fun _ => by rw [ex_wr]; simp) (rd_ex w 222))
  rw [ex_put] at HP
  have hb : ((txt [4, 172, 2, 9, 2, 97, 98]).toList == [4, 172, 2, 9, 2, 97, 98]) = true := by rw [ByteArray.toList_eq, txt_list]; exact beq_self_eq_true _
  go_enter Tryz.func186, Tryz.ntmps186
  go_wp2_with fail
  refine (HN.out 1 300 _).mono ?_
  rintro e w1 ⟨rfl, g1⟩
  have G1 := Lib.hid g1
  clear g1
  go_wp2_with fail
  refine (HX.out 2 _ _).mono ?_
  rintro e w2 ⟨rfl, g2⟩
  have G2 := Lib.hid (only_trans G1.out g2)
  clear g2
  go_wp2_with fail
  refine (HP.out _).mono ?_
  rintro e w3 ⟨rfl, g3⟩
  have G3 := Lib.hid (only_trans (only_alloc G2.out _) g3)
  clear g3
  go_wp2_with fail
  refine (HT.out _ G3.out).mono ?_
  rintro e w4 ⟨rfl, g4⟩
  have G4 := Lib.hid (only_trans G3.out g4)
  clear g4
  go_wp2_with fail
  go_ret
  exact ⟨rfl, G4.out⟩

theorem Awake_any (I : WCore) (w : World) (hT : I.fc.Tab w) :
    Calls Tryz.prog 176 #[] w fun e w' => e = .returned (.bool true) ∧ w.grownBy w' none := by
  go_enter Tryz.func176, Tryz.ntmps176
  go_wp2_with (go_at_call 186; refine (awake_any I _ hT).mono ?_; rintro e w' ⟨rfl, g⟩)
  go_ret
  exact ⟨rfl, g⟩

end Go.Proofs.YtbebdaglkjhbjaaGreatDoor.law09

/-
  The developers' writing of fields: head, withLength, size, Size, write, Put.
-/
namespace Go.Proofs.YtbebdaglkjhbjaaGreatDoor.ww
open Go.RowKit Go.Proofs.YtbebdaglkjhbjaaGreatDoor.tr Go.Proofs.YtbebdaglkjhbjaaGreatDoor.wm Go.Proofs.YtbebdaglkjhbjaaGreatDoor.vi Go.Proofs.YtbebdaglkjhbjaaGreatDoor.bd
set_option linter.unusedVariables false
set_option linter.unusedSimpArgs false

set_option maxHeartbeats 1000000 in
set_option maxRecDepth 100000 in
theorem head_any (a y n : Nat) (x : ByteArray) (la : Option Addr) (ll lc : Nat) (ha : a ≤ 4294967296) (hy : y ≤ 2) (w : World) :
    Calls Tryz.prog 212 #[.agg #[.int .u64 (a : Nat), .int .i64 (y : Nat), .int .u64 (n : Nat), .string x, .slice la ll lc]] w fun e w' => e = .returned (.int .u64 ((4 * a + y : Nat) : Int)) ∧ w.grownBy w' none := by
  have h1 : ((a : Int) * 4) % 18446744073709551616 = 4 * (a : Int) := by omega
  have h2 : (y : Int) % 18446744073709551616 = (y : Int) := by omega
  have h3 : (4 * (a : Int) + (y : Int)) % 18446744073709551616 = ((4 * a + y : Nat) : Int) := by omega
  go_enter Tryz.func212, Tryz.ntmps212
  go_wp2_with fail
  go_ret
  exact ⟨ret1 (congrArg (Value.int .u64) (by omega)), only_alloc (only_refl _ _) _⟩

theorem with_any (n : Nat) (hn : n ≤ 2000000) (w : World) :
    Calls Tryz.prog 213 #[.int .i64 (n : Nat)] w fun e w' => e = .returned (.int .i64 (((enc n).length + n : Nat) : Int)) ∧ w = w' := by
  have hz := fun w => size_any n (by omega) w
  have h10 := enc_len_ten (n := n) (by omega)
  have h1 : (n : Int) % 18446744073709551616 = (n : Int) := by omega
  generalize (enc n).length = k at *
  go_enter Tryz.func213, Tryz.ntmps213
  go_wp2_with fail
  refine (hz _).mono ?_
  rintro e w' ⟨rfl, rfl⟩
  go_wp2_with fail
  go_ret
  exact ⟨ret1 (congrArg (Value.int .i64) (by omega)), rfl⟩

theorem var_y {w : World} {b : Nat} {t : Tree} {v : Value} (h : Var w b t v) {y : Nat} (hy : t.typ = (y : Int)) : w.cell? ⟨b, 1, none⟩ = some (.int .i64 (y : Nat)) := by
  rw [← hy]; exact h.2.1

set_option maxHeartbeats 8000000 in
set_option maxRecDepth 100000 in
theorem wsize_any : ∀ (n : Nat) (ts : List Tree), sizeL ts ≤ n → sizeL ts ≤ 100000 → ∀ (d p : Nat), checkL d p ts = 0 → fitsL ts → (wrL ts).length ≤ 1000000 → ∀ (w : World) (S : Nat → Prop) (v : Value), Rd w S v ts →
    Calls Tryz.prog 205 #[v] w fun e w' => e = .returned (.int .i64 ((wrL ts).length : Nat)) ∧ w.grownBy w' none := by
  intro n
  induction n with
  | zero =>
    intro ts hn _ d p _ _ _ w S v h
    have hl := len_size ts
    obtain rfl : ts = [] := List.length_eq_zero_iff.1 (by omega)
    obtain ⟨a, cap, rfl⟩ := h.shape
    go_enter Tryz.func205, Tryz.ntmps205
    go_wp2_with fail
    refine wp_loop_rounds 1 ?_
    rw [rounds_succ]
    go_wp2_with fail
    go_ret
    exact ⟨by rw [wrL_nil]; rfl, only_refl _ _⟩
  | succ n ih =>
    intro ts hn hb d p hc hf hw w S v h
    have hl := len_size ts
    have HR := Lib.hid h
    have IH := Lib.hid ih
    have HC := Lib.hid hc
    have HF := Lib.hid hf
    obtain ⟨a, cap, rfl⟩ := h.shape
    clear h ih hc hf
    go_enter Tryz.func205, Tryz.ntmps205
    go_wp2_with fail
    go_loopw [3, 8] (fun x q wr => ∃ i : Nat, i ≤ ts.length ∧ q = .int .i64 i ∧ x = .int .i64 ((wrL (ts.take i)).length : Nat) ∧ w.grownBy wr none) (fun _ q _ => ts.length - (intOf q).toNat)
    case atStart => exact ⟨0, by omega, rfl, by rw [List.take_zero, wrL_nil]; rfl, only_refl _ _⟩
    case round =>
      obtain ⟨i, hi, rfl, rfl, hg⟩ := hrel
      have HG := Lib.hid hg
      clear hg
      by_cases hlt : i < ts.length
      · obtain ⟨t, ht⟩ : ∃ t, ts[i]? = some t := ⟨ts[i], List.getElem?_eq_getElem hlt⟩
        have hts := size_mem ht
        obtain ⟨b, off, cap', lv, hv, h1, h2, h3, h4, hc, hr⟩ := (HR.out.grown HG.out).at ht
        simp only [Value.slice.injEq, true_and] at hv
        obtain ⟨rfl, rfl⟩ := hv
        obtain ⟨c0, c1, c2, c3, c4⟩ := hc
        obtain ⟨g0, g1, g2, g3, g4⟩ := good_at HC.out HF.out ht
        have hsn : wrL (ts.take (i + 1)) = wrL (ts.take i) ++ wrT t := by rw [take_snoc ht, wrL_append, wrL_cons, wrL_nil, List.append_nil]
        have hln : (wrL (ts.take i)).length + (wrT t).length ≤ 1000000 := by
          have h5 := congrArg List.length hsn
          have h6 := congrArg List.length (show wrL ts = wrL (ts.take (i + 1)) ++ wrL (ts.drop (i + 1)) by rw [← wrL_append, List.take_append_drop])
          rw [List.length_append] at h5 h6
          omega
        obtain ⟨y, hy⟩ : ∃ y : Nat, t.typ = (y : Int) := ⟨t.typ.toNat, by omega⟩
        have hy2 : y ≤ 2 := by omega
        have HL := Lib.hid hr
        have hle := len_size t.list
        have hD := var_new wr 222 t lv
        have HIH := Lib.hid (fun h => IH.out t.list (by omega) (by omega) (d + 1) 0 g4 g3 h)
        have HP2 := Lib.hid (fun w => size_any t.num g2 w)
        have HWL := Lib.hid with_any
        have hwt : (wrT t).length = (enc (4 * t.tag + y)).length + (if y = 0 then (enc t.num).length else if y = 2 then (enc (wrL t.list).length).length + (wrL t.list).length else (enc t.text.size).length + t.text.size) := by
          rw [wr_eq, hy]
          rcases (show y = 0 ∨ y = 1 ∨ y = 2 by omega) with h | h | h <;> rw [h] <;> simp
        have hsl := congrArg List.length hsn
        rw [List.length_append] at hsl
        have e1 : (enc (4 * t.tag + y)).length ≤ 10 := enc_len_ten (by omega)
        have e2 : (enc t.num).length ≤ 10 := enc_len_ten g2
        have HH := Lib.hid (fun la ll lc w => head_any t.tag y t.num t.text la ll lc g0 hy2 w)
        have HP1 := Lib.hid (fun w => size_any (4 * t.tag + y) (by omega) w)
        have hk1 : y = 1 → t.text.size ≤ 1000000 := fun h => by rw [if_neg (by omega), if_neg (by omega)] at hwt; omega
        have hk2 : y = 2 → (wrL t.list).length ≤ 1000000 := fun h => by rw [if_neg (by omega), if_pos h] at hwt; omega
        obtain ⟨la, lc, rfl⟩ := hr.shape
        rw [hy] at hD
        have HD := Lib.hid hD
        have HGW := Lib.hid (only_alloc (only_refl wr none) (.cells #[.int .u64 (t.tag : Nat), .int .i64 (y : Int), .int .u64 (t.num : Nat), .string t.text, .slice la t.list.length lc] 222))
        rw [hy] at c1
        have HY := Lib.hid hy
        have HSL := Lib.hid hsl
        have HWT := Lib.hid hwt
        clear ht hr hsn hD hy g3 g4 hsl hwt
        unfold maxLen at h2
        generalize (wrL (ts.take i)).length = A at *
        generalize (enc (4 * t.tag + y)).length = E1 at *
        have d1 := var_y HD.out HY.out
        have d0 := HD.out.1
        have d2 := HD.out.2.2.1
        have d3 := HD.out.2.2.2.1
        have d4 := HD.out.2.2.2.2
        go_wp2_with fail
        generalize wr.alloc (.cells #[.int .u64 (t.tag : Nat), .int .i64 (y : Int), .int .u64 (t.num : Nat), .string t.text, .slice la t.list.length lc] 222) = wa at *
        refine (HH.out _ _ _ _).mono ?_
        rintro e w1 ⟨rfl, g1⟩
        have HD1 := Lib.hid (HD.out.grown g1)
        have HG1 := Lib.hid (only_trans HGW.out g1)
        clear c0 c1 c2 c3 c4 d0 d1 d2 d3 d4 g1
        go_wp2_with fail
        refine (HP1.out _).mono ?_
        rintro e w2 ⟨rfl, rfl⟩
        have d1 := var_y HD1.out HY.out
        have d2 := HD1.out.2.2.1
        have d3 := HD1.out.2.2.2.1
        have d4 := HD1.out.2.2.2.2
        rcases (show y = 0 ∨ y = 1 ∨ y = 2 by omega) with h0 | h0 | h0
        · have hwt := HWT.out
          rw [if_pos h0] at hwt
          have hsl := HSL.out
          rw [hwt] at hsl hln
          have HE := Lib.hid hsl
          subst h0
          clear hk1 hk2 HWT hwt hsl HSL
          generalize (enc t.num).length = E2 at *
          go_wp2_with fail
          refine (HP2.out _).mono ?_
          rintro e w3 ⟨rfl, rfl⟩
          have HG2 := Lib.hid (only_trans HG.out HG1.out)
          go_wp2_with fail
          go_roundw
          case rel => exact ⟨i + 1, by omega, by go_num, congrArg (Value.int .i64) (by rw [HE.out]; omega), HG2.out⟩
          case measure => simp [intOf]; omega
        · have hwt := HWT.out
          rw [if_neg (by omega), if_neg (by omega)] at hwt
          have hsl := HSL.out
          rw [hwt] at hsl hln
          have HE := Lib.hid hsl
          have hk := hk1 h0
          subst h0
          have HP4 := Lib.hid (HWL.out t.text.size (by omega))
          have e3 : (enc t.text.size).length ≤ 10 := enc_len_ten (by omega)
          clear hk1 hk2 HWT hwt hsl HSL
          generalize (enc t.text.size).length = E2 at *
          go_wp2_with fail
          refine (HP4.out _).mono ?_
          rintro e w3 ⟨rfl, rfl⟩
          have HG2 := Lib.hid (only_trans HG.out HG1.out)
          go_wp2_with fail
          go_roundw
          case rel => exact ⟨i + 1, by omega, by go_num, congrArg (Value.int .i64) (by rw [HE.out]; omega), HG2.out⟩
          case measure => simp [intOf]; omega
        · have hwt := HWT.out
          rw [if_neg (by omega), if_pos h0] at hwt
          have hsl := HSL.out
          rw [hwt] at hsl hln
          have HE := Lib.hid hsl
          have hk := hk2 h0
          subst h0
          have HT5 := Lib.hid (HIH.out hk w1 S _ (HL.out.grown HG1.out))
          have HP4 := Lib.hid (HWL.out (wrL t.list).length (by omega))
          have e3 : (enc (wrL t.list).length).length ≤ 10 := enc_len_ten (by omega)
          clear hk1 hk2 HWT hwt hsl HSL HIH
          generalize (enc (wrL t.list).length).length = E2 at *
          generalize (wrL t.list).length = k at *
          go_wp2_with fail
          refine HT5.out.mono ?_
          rintro e w3 ⟨rfl, g3⟩
          have HG2 := Lib.hid (only_trans HG.out (only_trans HG1.out g3))
          clear g3
          go_wp2_with fail
          refine (HP4.out _).mono ?_
          rintro e w4 ⟨rfl, rfl⟩
          go_wp2_with fail
          go_roundw
          case rel => exact ⟨i + 1, by omega, by go_num, congrArg (Value.int .i64) (by rw [HE.out]; omega), HG2.out⟩
          case measure => simp [intOf]; omega
      · have hie : i = ts.length := by omega
        subst hie
        go_wp2_with fail
        go_ret
        exact ⟨by rw [List.take_length]; rfl, HG.out⟩

end Go.Proofs.YtbebdaglkjhbjaaGreatDoor.ww

/-
  The developers' write and Put, Size.
-/
namespace Go.Proofs.YtbebdaglkjhbjaaGreatDoor.ww
open Go.RowKit Go.Proofs.YtbebdaglkjhbjaaGreatDoor.tr Go.Proofs.YtbebdaglkjhbjaaGreatDoor.wm Go.Proofs.YtbebdaglkjhbjaaGreatDoor.vi Go.Proofs.YtbebdaglkjhbjaaGreatDoor.bd
set_option linter.unusedVariables false
set_option linter.unusedSimpArgs false

theorem encB_list (n : Nat) : (encB n).data.toList = enc n := rfl
theorem encB_size (n : Nat) : (encB n).size = (enc n).length := by rw [encB_txt, txt_size]

set_option maxHeartbeats 16000000 in
set_option maxRecDepth 100000 in
theorem wwrite_any : ∀ (n : Nat) (ts : List Tree), sizeL ts ≤ n → sizeL ts ≤ 100000 → ∀ (d p : Nat), checkL d p ts = 0 → fitsL ts → ∀ (l0 : List UInt8), l0.length + (wrL ts).length ≤ 900000 → ∀ (w : World) (b : Nat) (S T : Nat → Prop) (v : Value), Bld w b S l0 → Rd w T v ts → (∀ k, T k → ¬ S k) →
    Calls Tryz.prog 206 #[.pointer (some ⟨b, 0, none⟩), v] w fun e w' => e = .returned (.tuple #[]) ∧ Chg S w w' ∧ Bld w' b (fun k => S k ∨ w.heap.size ≤ k) (l0 ++ wrL ts) := by
  intro n
  induction n with
  | zero =>
    intro ts hn _ d p _ _ l0 _ w b S T v hB h _
    have hl := len_size ts
    obtain rfl : ts = [] := List.length_eq_zero_iff.1 (by omega)
    obtain ⟨a, cap, rfl⟩ := h.shape
    have HB := Lib.hid hB
    clear hB
    go_enter Tryz.func206, Tryz.ntmps206
    go_wp2_with fail
    refine wp_loop_rounds 1 ?_
    rw [rounds_succ]
    go_wp2_with fail
    go_end0
    exact ⟨rfl, Chg.refl _ _, by rw [wrL_nil, List.append_nil]; exact HB.out.mono fun k _ hk => .inl hk⟩
  | succ n ih =>
    intro ts hn hb d p hc hf l0 hw w b S T v hB h hTS
    have hl := len_size ts
    have HR := Lib.hid h.tight
    have IH := Lib.hid ih
    have HC := Lib.hid hc
    have HF := Lib.hid hf
    have HB0 := Lib.hid hB
    have HTS := Lib.hid hTS
    have hbl := hB.lt
    have hbS := Lib.hid hB.own
    obtain ⟨a, cap, rfl⟩ := h.shape
    clear h ih hc hf hB hTS
    go_enter Tryz.func206, Tryz.ntmps206
    go_wp2_with fail
    go_loopw [8] (fun q wr => ∃ i : Nat, i ≤ ts.length ∧ q = .int .i64 i ∧ Chg S w wr ∧ Bld wr b (fun k => S k ∨ w.heap.size ≤ k) (l0 ++ wrL (ts.take i))) (fun q _ => ts.length - (intOf q).toNat)
    case atStart => exact ⟨0, by omega, rfl, Chg.refl _ _, by rw [List.take_zero, wrL_nil, List.append_nil]; exact HB0.out.mono fun k _ hk => .inl hk⟩
    case round =>
      obtain ⟨i, hi, rfl, hg, hB⟩ := hrel
      have HG := Lib.hid hg
      have HB := Lib.hid hB
      have hsz := hg.size
      clear hg hB
      by_cases hlt : i < ts.length
      · obtain ⟨t, ht⟩ : ∃ t, ts[i]? = some t := ⟨ts[i], List.getElem?_eq_getElem hlt⟩
        have hts := size_mem ht
        obtain ⟨bb, off, cap', lv, hv, h1, h2, h3, h4, hc, hr⟩ := (HR.out.kept HG.out (fun k hk => HTS.out k hk.1)).at ht
        simp only [Value.slice.injEq, true_and] at hv
        obtain ⟨rfl, rfl⟩ := hv
        obtain ⟨c0, c1, c2, c3, c4⟩ := hc
        obtain ⟨g0, g1, g2, g3, g4⟩ := good_at HC.out HF.out ht
        have hsn : wrL (ts.take (i + 1)) = wrL (ts.take i) ++ wrT t := by rw [take_snoc ht, wrL_append, wrL_cons, wrL_nil, List.append_nil]
        have hln : l0.length + (wrL (ts.take i)).length + (wrT t).length ≤ 900000 := by
          have h5 := congrArg List.length hsn
          have h6 := congrArg List.length (show wrL ts = wrL (ts.take (i + 1)) ++ wrL (ts.drop (i + 1)) by rw [← wrL_append, List.take_append_drop])
          rw [List.length_append] at h5 h6
          omega
        obtain ⟨y, hy⟩ : ∃ y : Nat, t.typ = (y : Int) := ⟨t.typ.toNat, by omega⟩
        have hy2 : y ≤ 2 := by omega
        have HL := Lib.hid hr
        have hle := len_size t.list
        have hD := var_new wr 222 t lv
        have HIH := Lib.hid (IH.out t.list (by omega) (by omega) (d + 1) 0 g4 g3)
        have HSZ := Lib.hid (fun h => wsize_any _ t.list (Nat.le_refl _) (by omega) (d + 1) 0 g4 g3 h)
        have HP2 := Lib.hid (fun w => put_any t.num g2 w)
        have HWT : Hid (wrT t = enc (4 * t.tag + y) ++ (if y = 0 then enc t.num else if y = 2 then enc (wrL t.list).length ++ wrL t.list else enc t.text.size ++ t.text.data.toList)) := by
          show wrT t = _
          rw [wr_eq, hy]
          rcases (show y = 0 ∨ y = 1 ∨ y = 2 by omega) with h | h | h <;> rw [h] <;> simp
        have hwt := congrArg List.length HWT.out
        have htx : t.text.data.toList.length = t.text.size := by simp
        have HH := Lib.hid (fun la ll lc w => head_any t.tag y t.num t.text la ll lc g0 hy2 w)
        have HP1 := Lib.hid (fun w => put_any (4 * t.tag + y) (by omega) w)
        have HPN := Lib.hid (fun (k : Nat) (hk : k ≤ 1000000) w => put_any k (by omega) w)
        have HSN := Lib.hid hsn
        have e1 : (encB (4 * t.tag + y)).size = (enc (4 * t.tag + y)).length := encB_size _
        have e2 : (encB t.num).size = (enc t.num).length := encB_size _
        have hk1 : y = 1 → t.text.size ≤ 1000000 := fun h => by rw [if_neg (by omega), if_neg (by omega)] at hwt; simp only [List.length_append] at hwt; omega
        have hk2 : y = 2 → (wrL t.list).length ≤ 1000000 := fun h => by rw [if_neg (by omega), if_pos h] at hwt; simp only [List.length_append] at hwt; omega
        obtain ⟨la, lc, rfl⟩ := hr.shape
        rw [hy] at hD
        have HD := Lib.hid hD
        have HGW := Lib.hid (only_alloc (only_refl wr none) (.cells #[.int .u64 (t.tag : Nat), .int .i64 (y : Int), .int .u64 (t.num : Nat), .string t.text, .slice la t.list.length lc] 222))
        have hsa : (wr.alloc (.cells #[.int .u64 (t.tag : Nat), .int .i64 (y : Int), .int .u64 (t.num : Nat), .string t.text, .slice la t.list.length lc] 222)).heap.size = wr.heap.size + 1 := by simp
        rw [hy] at c1
        have HY := Lib.hid hy
        have HLN := Lib.hid hln
        have HWTL := Lib.hid hwt
        -- the builder's own blocks, those of this world alone
        have HB1 := Lib.hid (HB.out.mono (T := fun k => (S k ∨ w.heap.size ≤ k) ∧ k < wr.heap.size) (fun k hk hs => ⟨hs, hk⟩))
        clear ht hr hsn hD hy g3 g4 hln hwt
        unfold maxLen at h2
        have d1 := var_y HD.out HY.out
        have d0 := HD.out.1
        have d2 := HD.out.2.2.1
        have d3 := HD.out.2.2.2.1
        have d4 := HD.out.2.2.2.2
        go_wp2_with fail
        generalize wr.alloc (.cells #[.int .u64 (t.tag : Nat), .int .i64 (y : Int), .int .u64 (t.num : Nat), .string t.text, .slice la t.list.length lc] 222) = wa at *
        refine (HH.out _ _ _ _).mono ?_
        rintro e w1 ⟨rfl, g1⟩
        clear c0 c1 c2 c3 c4 d0 d1 d2 d3 d4
        have HG1 := Lib.hid (only_trans HGW.out g1)
        have HD1 := Lib.hid (HD.out.grown g1)
        clear g1
        go_wp2_with fail
        refine (HP1.out _).mono ?_
        rintro e w2 ⟨rfl, g2'⟩
        have HG2 := Lib.hid (only_trans HG1.out g2')
        have HD2 := Lib.hid (HD1.out.grown g2')
        have hs2 : wr.heap.size + 1 ≤ w2.heap.size := by have := g2'.size; have := HG1.out.size; have h0 := World.block_lt_of_cell? w1 ⟨wr.heap.size, 0, none⟩ HD1.out.1; simp only at h0; omega
        have HB2 := Lib.hid (HB1.out.kept (T := fun _ => False) (Chg.of_none HG2.out) (fun _ _ e => e))
        clear g2'
        go_wp2_with fail
        refine (write_any b _ _ (encB (4 * t.tag + y)) w2 HB2.out (by rw [List.length_append, e1]; have := HLN.out; have := HWTL.out; simp only [List.length_append] at this; omega)).mono ?_
        rintro e w3 ⟨rfl, g3, hB3⟩
        have hs3 := g3.size
        have HD3 := Lib.hid (HD2.out.kept g3 (fun hk => by omega))
        have HC3 := Lib.hid ((Chg.of_none (S := fun k => (S k ∨ w.heap.size ≤ k) ∧ k < wr.heap.size) HG2.out).trans' g3)
        have HB3 := Lib.hid (hB3.mono (T := fun k => ((S k ∨ w.heap.size ≤ k) ∧ k < wr.heap.size) ∨ (w2.heap.size ≤ k ∧ k < w3.heap.size)) (fun k hk hs => by
          rcases hs with hs | hs
          · exact .inl hs
          · exact .inr ⟨hs, hk⟩))
        rw [encB_list] at HB3
        clear g3 hB3
        have d1 := var_y HD3.out HY.out
        have d2 := HD3.out.2.2.1
        have d3 := HD3.out.2.2.2.1
        have d4 := HD3.out.2.2.2.2
        rcases (show y = 0 ∨ y = 1 ∨ y = 2 by omega) with h0 | h0 | h0
        · have HE : Hid (l0 ++ wrL (ts.take i) ++ enc (4 * t.tag + y) ++ enc t.num = l0 ++ wrL (ts.take (i + 1))) := by show _ = _; rw [HSN.out, HWT.out, if_pos h0]; simp only [List.append_assoc]
          have hlen : (l0 ++ wrL (ts.take i) ++ enc (4 * t.tag + y)).length + (encB t.num).size ≤ 1000000 := by
            have h5 := HWTL.out
            rw [if_pos h0] at h5
            simp only [List.length_append] at h5 ⊢
            have := HLN.out; omega
          have HLE := Lib.hid hlen
          subst h0
          clear hk1 hk2 HWT HWTL HIH HSZ hlen
          go_wp2_with fail
          refine (HP2.out _).mono ?_
          rintro e w4 ⟨rfl, g4⟩
          have HG4 := Lib.hid g4
          clear d1 d2 d3 d4 g4
          go_wp2_with fail
          refine (write_any b _ _ (encB t.num) w4 (HB3.out.kept (T := fun _ => False) (Chg.of_none HG4.out) (fun _ _ e => e)) (Nat.le_trans HLE.out (by omega))).mono ?_
          rintro e w5 ⟨rfl, g5, hB5⟩
          have HCE : Hid (Chg S w w5) := HG.out.trans ((HC3.out.trans (T := fun _ => False) (Chg.of_none HG4.out) (fun _ e => e.elim)).trans g5 (fun k hk => by rcases hk with hk | hk; exact .inl hk; exact .inr (by omega))) (fun k hk => hk.1)
          have HBE := Lib.hid (hB5.mono (T := fun k => S k ∨ w.heap.size ≤ k) (fun k _ hk => by have := HG4.out.size; rcases hk with (hk | hk) | hk; exact hk.1; exact .inr (by omega); exact .inr (by omega)))
          rw [encB_list, HE.out] at HBE
          clear g5 hB5
          go_wp2_with fail
          go_roundw
          case rel => exact ⟨i + 1, by omega, by go_num, HCE.out, HBE.out⟩
          case measure => simp [intOf]; omega
        · have HE : Hid (l0 ++ wrL (ts.take i) ++ enc (4 * t.tag + y) ++ enc t.text.size ++ t.text.data.toList = l0 ++ wrL (ts.take (i + 1))) := by show _ = _; rw [HSN.out, HWT.out, if_neg (by omega), if_neg (by omega)]; simp only [List.append_assoc]
          have hk := hk1 h0
          have e4 : (encB t.text.size).size = (enc t.text.size).length := encB_size _
          have hlen : (l0 ++ wrL (ts.take i) ++ enc (4 * t.tag + y)).length + (encB t.text.size).size ≤ 1000000 ∧ (l0 ++ wrL (ts.take i) ++ enc (4 * t.tag + y) ++ enc t.text.size).length + t.text.size ≤ 1000000 := by
            have h5 := HWTL.out
            rw [if_neg (by omega), if_neg (by omega)] at h5
            simp only [List.length_append] at h5 ⊢
            have := HLN.out; omega
          have HLE := Lib.hid hlen
          have HP4 := Lib.hid (HPN.out _ hk)
          subst h0
          clear hk1 hk2 HWT HWTL HIH HSZ hlen
          go_wp2_with fail
          refine (HP4.out _).mono ?_
          rintro e w4 ⟨rfl, g4⟩
          have HG4 := Lib.hid g4
          have hs4 := g4.size
          have HD4 := Lib.hid (HD3.out.grown g4)
          clear d1 d2 d3 d4 g4
          go_wp2_with fail
          refine (write_any b _ _ (encB t.text.size) w4 (HB3.out.kept (T := fun _ => False) (Chg.of_none HG4.out) (fun _ _ e => e)) (Nat.le_trans HLE.out.1 (by omega))).mono ?_
          rintro e w5 ⟨rfl, g5, hB5⟩
          have HD5 := Lib.hid (HD4.out.kept g5 (fun hk => by omega))
          have hs5 := g5.size
          have HC5 : Hid (Chg (fun k => (S k ∨ w.heap.size ≤ k) ∧ k < wr.heap.size) wr w5) := (HC3.out.trans (T := fun _ => False) (Chg.of_none HG4.out) (fun _ e => e.elim)).trans g5 (fun k hk => by rcases hk with hk | hk; exact .inl hk; exact .inr (by omega))
          have HB5 := Lib.hid hB5
          rw [encB_list] at HB5
          clear g5 hB5
          have d3 := HD5.out.2.2.2.1
          go_wp2_with fail
          refine (write_any b _ _ t.text w5 HB5.out (Nat.le_trans HLE.out.2 (by omega))).mono ?_
          rintro e w6 ⟨rfl, g6, hB6⟩
          have HCE : Hid (Chg S w w6) := HG.out.trans (HC5.out.trans g6 (fun k hk => by rcases hk with (hk | hk) | hk; exact .inl hk; exact .inr (by omega); exact .inr (by omega))) (fun k hk => hk.1)
          have HBE := Lib.hid (hB6.mono (T := fun k => S k ∨ w.heap.size ≤ k) (fun k _ hk => by rcases hk with ((hk | hk) | hk) | hk; exact hk.1; exact .inr (by omega); exact .inr (by omega); exact .inr (by omega)))
          rw [HE.out] at HBE
          clear g6 hB6 d3
          go_wp2_with fail
          go_roundw
          case rel => exact ⟨i + 1, by omega, by go_num, HCE.out, HBE.out⟩
          case measure => simp [intOf]; omega
        · have HE : Hid (l0 ++ wrL (ts.take i) ++ enc (4 * t.tag + y) ++ enc (wrL t.list).length ++ wrL t.list = l0 ++ wrL (ts.take (i + 1))) := by show _ = _; rw [HSN.out, HWT.out, if_neg (by omega), if_pos h0]; simp only [List.append_assoc]
          have hk := hk2 h0
          have e4 : (encB (wrL t.list).length).size = (enc (wrL t.list).length).length := encB_size _
          have hlen : (l0 ++ wrL (ts.take i) ++ enc (4 * t.tag + y)).length + (encB (wrL t.list).length).size ≤ 1000000 ∧ (l0 ++ wrL (ts.take i) ++ enc (4 * t.tag + y) ++ enc (wrL t.list).length).length + (wrL t.list).length ≤ 900000 := by
            have h5 := HWTL.out
            rw [if_neg (by omega), if_pos h0] at h5
            simp only [List.length_append] at h5 ⊢
            have := HLN.out; omega
          have HLE := Lib.hid hlen
          have HP4 := Lib.hid (HPN.out _ hk)
          have HL3 := Lib.hid (HL.out.kept HC3.out (fun k hk hk2 => by rcases hk2.1 with h | h; exact HTS.out k hk.1 h; have := hk.2; omega))
          have HS4 := Lib.hid (HSZ.out hk w3 _ _ HL3.out)
          have hkb : ((wrL t.list).length : Int) % 18446744073709551616 = ((wrL t.list).length : Int) := by omega
          subst h0
          clear hk1 hk2 HWT HWTL HSZ hlen
          go_wp2_with fail
          refine HS4.out.mono ?_
          rintro e w4 ⟨rfl, g4⟩
          have HG4 := Lib.hid g4
          clear g4
          go_wp2_with fail
          refine (HP4.out _).mono ?_
          rintro e w5 ⟨rfl, g5⟩
          have HG5 := Lib.hid (only_trans HG4.out g5)
          have hs5 := HG5.out.size
          have HD5 := Lib.hid (HD3.out.grown HG5.out)
          have HL5 := Lib.hid (HL3.out.grown HG5.out)
          clear d1 d2 d3 d4 g5
          go_wp2_with fail
          refine (write_any b _ _ (encB (wrL t.list).length) w5 (HB3.out.kept (T := fun _ => False) (Chg.of_none HG5.out) (fun _ _ e => e)) (Nat.le_trans HLE.out.1 (by omega))).mono ?_
          rintro e w6 ⟨rfl, g6, hB6⟩
          have HD6 := Lib.hid (HD5.out.kept g6 (fun hk => by omega))
          have hs6 := g6.size
          have HL6 := Lib.hid (HL5.out.kept g6 (fun k hk hk2 => by have := hk.2; rcases hk2 with h | h; (rcases h.1 with h | h; exact HTS.out k hk.1 h; omega); omega))
          have HC6 : Hid (Chg (fun k => (S k ∨ w.heap.size ≤ k) ∧ k < wr.heap.size) wr w6) := (HC3.out.trans (T := fun _ => False) (Chg.of_none HG5.out) (fun _ e => e.elim)).trans g6 (fun k hk => by rcases hk with hk | hk; exact .inl hk; exact .inr (by omega))
          have HB6 := Lib.hid hB6
          rw [encB_list] at HB6
          clear g6 hB6
          have d4 := HD6.out.2.2.2.2
          have HW7 := Lib.hid (HIH.out _ HLE.out.2 w6 b _ _ _ HB6.out HL6.out (fun k hk hk2 => by have := hk.2; rcases hk2 with (h | h) | h; (rcases h.1 with h | h; exact HTS.out k hk.1 h; omega); omega; omega))
          go_wp2_with fail
          refine HW7.out.mono ?_
          rintro e w7 ⟨rfl, g7, hB7⟩
          have HCE : Hid (Chg S w w7) := HG.out.trans (HC6.out.trans g7 (fun k hk => by rcases hk with (hk | hk) | hk; exact .inl hk; exact .inr (by omega); exact .inr (by omega))) (fun k hk => hk.1)
          have HBE := Lib.hid (hB7.mono (T := fun k => S k ∨ w.heap.size ≤ k) (fun k _ hk => by rcases hk with ((hk | hk) | hk) | hk; exact hk.1; exact .inr (by omega); exact .inr (by omega); exact .inr (by omega)))
          rw [HE.out] at HBE
          clear g7 hB7 d4
          go_wp2_with fail
          go_roundw
          case rel => exact ⟨i + 1, by omega, by go_num, HCE.out, HBE.out⟩
          case measure => simp [intOf]; omega
      · have hie : i = ts.length := by omega
        subst hie
        rw [List.take_length] at HB
        go_wp2_with fail
        go_end0
        exact ⟨rfl, HG.out, HB.out⟩

end Go.Proofs.YtbebdaglkjhbjaaGreatDoor.ww

/-
  Package wire: what layer 9's awake asks.
-/
namespace Go.Proofs.YtbebdaglkjhbjaaGreatDoor.ww
open Go.RowKit Go.Proofs.YtbebdaglkjhbjaaGreatDoor.tr Go.Proofs.YtbebdaglkjhbjaaGreatDoor.wm Go.Proofs.YtbebdaglkjhbjaaGreatDoor.vi Go.Proofs.YtbebdaglkjhbjaaGreatDoor.bd
set_option linter.unusedVariables false
set_option linter.unusedSimpArgs false

theorem ofText_any (a : Nat) (s : ByteArray) (w : World) : Calls Tryz.prog 193 #[.int .u64 (a : Nat), .string s] w fun e w' => e = .returned (.agg #[.int .u64 (a : Nat), .int .i64 1, .int .u64 0, .string s, .slice none 0 0]) ∧ w.grownBy w' none := by
  go_enter Tryz.func193, Tryz.ntmps193
  go_wp2_with fail
  exact bodyPost_ret (results_cell_row rfl _ _ w.heap.size 222 _ (0, 0) _ rfl (heap_alloc_new w _) Tryz.underlying222 rfl (by kernel_rfl)) rfl ⟨rfl, only_alloc (only_refl _ _) _⟩

set_option maxHeartbeats 2000000 in
set_option maxRecDepth 100000 in
theorem Put_any (ts : List Tree) (w : World) (S : Nat → Prop) (v : Value) (hs : sizeL ts ≤ 50000) (hf : fitsL ts) (hw : checkL 0 0 ts = 0 → (wrL ts).length ≤ 100000) (h : Rd w S v ts) :
    Calls Tryz.prog 192 #[v] w fun e w' => e = .returned (.tuple #[.string (txt (putR ts).1), .int .i64 ((putR ts).2 : Nat)]) ∧ w.grownBy w' none := by
  have HC := Lib.hid (ff.check_any ts w S v (by omega) h)
  have hlt := checkL_lt _ ts 0 0 (Nat.le_refl _)
  have HZ := Lib.hid (fun hc hl w1 (g : w.grownBy w1 none) => wsize_any _ ts (Nat.le_refl _) (by omega) 0 0 hc hf hl w1 S v (h.grown g))
  have HRD := Lib.hid h.tight
  obtain ⟨a, cap, rfl⟩ := h.shape
  unfold putR
  by_cases hc : checkL 0 0 ts = 0
  · rw [if_neg (by simp [hc])]
    have hwl := hw hc
    have HZ2 := Lib.hid (HZ.out hc (by omega))
    have HW := Lib.hid (fun l0 hl w b S T v hB hR hTS => wwrite_any _ ts (Nat.le_refl _) (by omega) 0 0 hc hf l0 hl w b S T v hB hR hTS)
    rw [hc] at HC
    clear h hw HZ hc hlt
    by_cases hb : 65536 < (wrL ts).length
    · rw [if_pos hb]
      generalize (wrL ts).length = n at *
      have hbi : (65536 : Int) < (n : Int) := by omega
      go_enter Tryz.func192, Tryz.ntmps192
      go_wp2_with fail
      refine HC.out.mono ?_
      rintro e w1 ⟨rfl, g1⟩
      have HG1 := Lib.hid g1
      clear g1
      go_wp2_with fail
      refine (HZ2.out w1 HG1.out).mono ?_
      rintro e w2 ⟨rfl, g2⟩
      have HG2 := Lib.hid (only_trans HG1.out g2)
      clear g2
      go_wp2_with fail
      go_ret2
      exact ⟨rfl, HG2.out⟩
    · rw [if_neg hb]
      have HW0 := Lib.hid (HW.out [] (by simp; omega))
      have hnl : [] ++ wrL ts = wrL ts := List.nil_append _
      rw [hnl] at HW0
      generalize hL : wrL ts = L at *
      generalize hn : L.length = n at *
      have hbi : ¬ (65536 : Int) < (n : Int) := by omega
      clear HW hnl
      go_enter Tryz.func192, Tryz.ntmps192
      go_wp2_with fail
      refine HC.out.mono ?_
      rintro e w1 ⟨rfl, g1⟩
      have HG1 := Lib.hid g1
      clear g1
      go_wp2_with fail
      refine (HZ2.out w1 HG1.out).mono ?_
      rintro e w2 ⟨rfl, g2⟩
      have HG2 := Lib.hid (only_trans HG1.out g2)
      have hz2 := HG2.out.size
      have HB := Lib.hid (Bld.new w2 (fun k => k = w2.heap.size) rfl)
      have HGA := Lib.hid (only_alloc (only_refl w2 none) (.cells #[.pointer none, .slice none 0 0] 85))
      clear g2
      go_wp2_with fail
      refine (HW0.out _ w2.heap.size (fun k => k = w2.heap.size) _ _ HB.out (HRD.out.grown (only_trans HG2.out HGA.out)) (fun k hk e => by have := hk.2; omega)).mono ?_
      rintro e w3 ⟨rfl, g3, hb3⟩
      have HB3 := Lib.hid hb3
      have HG3 := Lib.hid (Chg.none_new (only_trans HG2.out HGA.out) g3 (fun k e => by omega))
      clear g3 hb3
      go_wp2_with fail
      refine (string_any _ _ _ _ HB3.out).mono ?_
      rintro e w4 ⟨rfl, g4, -⟩
      have HG4 := Lib.hid (Chg.none_new HG3.out g4 (fun k hk => by have := HGA.out.size; rcases hk with hk | hk <;> omega))
      clear g4
      go_wp2_with fail
      go_ret2
      exact ⟨rfl, HG4.out⟩
  · rw [if_pos hc]
    clear h hw HZ
    generalize checkL 0 0 ts = q at *
    have hqb : ((q : Int) != 0) = true := by rw [bne_iff_ne]; omega
    clear hc
    go_enter Tryz.func192, Tryz.ntmps192
    go_wp2_with fail
    refine HC.out.mono ?_
    rintro e w1 ⟨rfl, g1⟩
    have HG1 := Lib.hid g1
    clear g1
    go_wp2_with fail
    go_ret2
    exact ⟨rfl, HG1.out⟩

def wcore : law09.WCore where
  fc := ff.core
  ofText := ofText_any
  put := fun ts w S v hs hf hw h => Put_any ts w S v hs hf hw h

end Go.Proofs.YtbebdaglkjhbjaaGreatDoor.ww

/-
  The developers' reader of fields: ways, checkHead, and how each type is read (num, text, list).
-/
namespace Go.Proofs.YtbebdaglkjhbjaaGreatDoor.ww
open Go.RowKit Go.Proofs.YtbebdaglkjhbjaaGreatDoor.tr Go.Proofs.YtbebdaglkjhbjaaGreatDoor.wm Go.Proofs.YtbebdaglkjhbjaaGreatDoor.vi Go.Proofs.YtbebdaglkjhbjaaGreatDoor.cur
set_option linter.unusedVariables false
set_option linter.unusedSimpArgs false

/-- A field's variable. -/
def Slot (w : World) (f a y n : Nat) (x : ByteArray) (lv : Value) : Prop :=
  w.heap[f]? = some (.cells #[.int .u64 (a : Nat), .int .i64 (y : Nat), .int .u64 (n : Nat), .string x, lv] 222 (0, 0))

/-- What one of the ways hands back. -/
def WayP (sub : Option (List UInt8 → List Tree × Nat)) (w : World) (c f a y : Nat) (s : ByteArray) (k : Nat) (e : Ending) (w' : World) : Prop :=
  e = .returned (.int .i64 ((bodyW sub y (s.data.toList.drop k)).err : Nat)) ∧ Chg (fun q => q = c ∨ q = f) w w' ∧
  ∃ (k' n : Nat) (x : ByteArray) (lv : Value) (S' : Nat → Prop), Cur w' c s k' ∧ Slot w' f a y n x lv ∧ (∀ q, S' q → w.heap.size ≤ q ∧ q < w'.heap.size) ∧
    ((bodyW sub y (s.data.toList.drop k)).err = 0 → k' = k + (bodyW sub y (s.data.toList.drop k)).len ∧ n = (bodyW sub y (s.data.toList.drop k)).num ∧ x = txt (bodyW sub y (s.data.toList.drop k)).text ∧ Rd w' S' lv (bodyW sub y (s.data.toList.drop k)).list)

end Go.Proofs.YtbebdaglkjhbjaaGreatDoor.ww

/-
  The developers' reader of fields: a List.
-/
namespace Go.Proofs.YtbebdaglkjhbjaaGreatDoor.ww
open Go.RowKit Go.Proofs.YtbebdaglkjhbjaaGreatDoor.tr Go.Proofs.YtbebdaglkjhbjaaGreatDoor.wm Go.Proofs.YtbebdaglkjhbjaaGreatDoor.vi Go.Proofs.YtbebdaglkjhbjaaGreatDoor.cur
set_option linter.unusedVariables false
set_option linter.unusedSimpArgs false

/-- What the reading of all that is left hands back. -/
def AllQ (w : World) (r c : Nat) (q : List Tree × Nat) (e : Ending) (w' : World) : Prop :=
  ∃ v S', e = .returned (.tuple #[v, .int .i64 (q.2 : Nat)]) ∧ OwnF 222 w.heap.size S' w' v q.1 ∧ (∀ k, S' k → w.heap.size ≤ k) ∧ Chg (fun k => k = r ∨ k = c) w w'

end Go.Proofs.YtbebdaglkjhbjaaGreatDoor.ww
