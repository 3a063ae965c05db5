/-
  Plain mathematics of the numbers by seven bits: no function of the program.
-/
import Derived.Test.YtbelpcniogcfoaaDoorBase
import Derived.Lib.BitFns
namespace Go.Proofs.YtbelpcniogcfoaaDoor.vi
set_option linter.unusedVariables false

/-- The writing of a number. -/
def enc (n : Nat) : List UInt8 := if h : n < 128 then [UInt8.ofNat n] else UInt8.ofNat (n % 128 + 128) :: enc (n / 128)
  termination_by n
  decreasing_by omega

/-- What bytes come to, seven bits of each. -/
def val : List UInt8 → Nat
  | [] => 0
  | b :: r => b.toNat % 128 + 128 * val r

theorem val_snoc (l : List UInt8) (b : UInt8) : val (l ++ [b]) = val l + b.toNat % 128 * 128 ^ l.length := by
  induction l with
  | nil => simp [val]
  | cons x r ih =>
    simp only [List.cons_append, val, ih, List.length_cons, Nat.pow_succ]
    rw [Nat.mul_add, ← Nat.add_assoc, Nat.mul_left_comm, Nat.mul_comm 128 (128 ^ r.length)]

theorem val_lt (l : List UInt8) : val l < 128 ^ l.length := by
  induction l with
  | nil => simp [val]
  | cons x r ih =>
    simp only [val, List.length_cons, Nat.pow_succ]
    omega

theorem enc_small {n : Nat} (h : n < 128) : enc n = [UInt8.ofNat n] := by rw [enc, dif_pos h]
theorem enc_big {n : Nat} (h : ¬ n < 128) : enc n = UInt8.ofNat (n % 128 + 128) :: enc (n / 128) := by rw [enc, dif_neg h]

theorem toNat_ofNat {n : Nat} (h : n < 256) : (UInt8.ofNat n).toNat = n := by simp; omega

/-- The make of a writing: bytes from 128 on, and a last one below, which is not 0 behind others; it comes to the number. -/
theorem enc_shape (n : Nat) : ∃ l b, enc n = l ++ [b] ∧ (∀ x ∈ l, 128 ≤ x.toNat) ∧ b.toNat < 128 ∧ (l ≠ [] → b.toNat ≠ 0) ∧ val (l ++ [b]) = n := by
  induction n using Nat.strongRecOn with
  | _ n ih =>
    by_cases h : n < 128
    · refine ⟨[], UInt8.ofNat n, enc_small h, by simp, by rw [toNat_ofNat (by omega)]; exact h, by simp, ?_⟩
      simp only [List.nil_append, val]
      rw [toNat_ofNat (by omega)]
      omega
    · obtain ⟨l, b, he, hl, hb, hz, hv⟩ := ih (n / 128) (by omega)
      have e1 : (UInt8.ofNat (n % 128 + 128)).toNat = n % 128 + 128 := toNat_ofNat (by omega)
      refine ⟨UInt8.ofNat (n % 128 + 128) :: l, b, by rw [enc_big h, he]; rfl, ?_, hb, fun _ h0 => ?_, ?_⟩
      · intro x hx
        rcases List.mem_cons.1 hx with rfl | hx
        · omega
        · exact hl x hx
      · by_cases hn : l = []
        · subst hn
          simp only [List.nil_append, val] at hv
          omega
        · exact hz hn h0
      · simp only [List.cons_append, val, hv]
        omega

theorem val_pos : ∀ (l : List UInt8) (b : UInt8), b.toNat < 128 → b.toNat ≠ 0 → 0 < val (l ++ [b])
  | [], b, hb, h0 => by simp only [List.nil_append, val]; omega
  | x :: r, b, hb, h0 => by
    have := val_pos r b hb h0
    simp only [List.cons_append, val]
    omega

theorem ofNat_toNat (b : UInt8) : UInt8.ofNat b.toNat = b := by simp

/-- Each number has one writing. -/
theorem enc_val : ∀ (l : List UInt8) (b : UInt8), (∀ x ∈ l, 128 ≤ x.toNat) → b.toNat < 128 → (l ≠ [] → b.toNat ≠ 0) → enc (val (l ++ [b])) = l ++ [b]
  | [], b, _, hb, _ => by
    have e : val ([] ++ [b]) = b.toNat := by simp only [List.nil_append, val]; omega
    rw [e, enc_small hb, ofNat_toNat]
    rfl
  | x :: r, b, hl, hb, hz => by
    have hx := hl x (List.mem_cons_self ..)
    have hx' := x.toNat_lt
    have h0 : b.toNat ≠ 0 := hz (by simp)
    have hp := val_pos r b hb h0
    have e : val (x :: r ++ [b]) = x.toNat % 128 + 128 * val (r ++ [b]) := rfl
    have e1 : val (x :: r ++ [b]) % 128 + 128 = x.toNat := by omega
    have e2 : val (x :: r ++ [b]) / 128 = val (r ++ [b]) := by omega
    rw [enc_big (by omega), e1, e2, ofNat_toNat, enc_val r b (fun y hy => hl y (List.mem_cons_of_mem _ hy)) hb (fun _ => h0)]
    rfl

theorem enc_len_pos (n : Nat) : 0 < (enc n).length := by
  obtain ⟨l, b, he, _⟩ := enc_shape n
  rw [he]; simp

theorem enc_len_le : ∀ (m n : Nat), n < 128 ^ (m + 1) → (enc n).length ≤ m + 1
  | 0, n, h => by rw [enc_small (by simpa using h)]; simp
  | m + 1, n, h => by
    by_cases h1 : n < 128
    · rw [enc_small h1]; simp
    · have := enc_len_le m (n / 128) (by rw [Nat.pow_succ] at h; omega)
      rw [enc_big h1]
      simp only [List.length_cons]
      omega

theorem enc_len_ge : ∀ (m n : Nat), 128 ^ m ≤ n → m < (enc n).length
  | 0, n, h => enc_len_pos n
  | m + 1, n, h => by
    have hp : 0 < 128 ^ m := Nat.pow_pos (by omega)
    have h1 : ¬ n < 128 := by rw [Nat.pow_succ] at h; omega
    have := enc_len_ge m (n / 128) (by rw [Nat.pow_succ] at h; omega)
    rw [enc_big h1]
    simp only [List.length_cons]
    omega

theorem enc_len_ten {n : Nat} (h : n < 18446744073709551616) : (enc n).length ≤ 10 := enc_len_le 9 n (by omega)

theorem pow_seven (m : Nat) : 128 ^ m = 2 ^ (7 * m) := by rw [Nat.pow_mul]

/-- How many bytes a number needs, by its bits. -/
theorem len_bits {n : Nat} (h : n < 18446744073709551616) : (Lib.bitLen (n ||| 1) + 6) / 7 = (enc n).length := by
  have hpos := enc_len_pos n
  have h10 := enc_len_ten h
  obtain ⟨l, hl⟩ : ∃ l, (enc n).length = l + 1 := ⟨(enc n).length - 1, by omega⟩
  have hlt : n < 2 ^ (7 * (l + 1)) := by
    rw [← pow_seven]
    apply Nat.lt_of_not_le
    intro hc
    have := enc_len_ge _ _ hc
    omega
  have hor : n ||| 1 < 2 ^ (7 * (l + 1)) := Nat.or_lt_two_pow hlt (Nat.one_lt_two_pow (by omega))
  have h64 : n ||| 1 < 2 ^ 64 := Nat.or_lt_two_pow h (by decide)
  have hle : n ≤ n ||| 1 := Nat.left_le_or
  have hup : Lib.bitLen (n ||| 1) ≤ 7 * (l + 1) := by
    by_cases hc : 7 * (l + 1) ≤ 64
    · exact Lib.bitLen_le _ _ hc hor
    · have := Lib.bitLen_le _ 64 (Nat.le_refl _) h64
      omega
  have hlo : 7 * l < Lib.bitLen (n ||| 1) := by
    have hge : 2 ^ (7 * l) ≤ n ||| 1 := by
      rcases Nat.eq_zero_or_pos l with rfl | hp
      · have : 1 ≤ n ||| 1 := Nat.right_le_or
        simpa using this
      · refine Nat.le_trans (Nat.le_of_not_lt fun hc => ?_) hle
        obtain ⟨l', rfl⟩ : ∃ l', l = l' + 1 := ⟨l - 1, by omega⟩
        rw [← pow_seven] at hc
        have := enc_len_le l' n hc
        omega
    rw [Lib.bitLen_shift (7 * l) _ hge h64]
    have : 1 ≤ (n ||| 1) / 2 ^ (7 * l) := (Nat.le_div_iff_mul_le (Nat.two_pow_pos _)).2 (by omega)
    have hne : (n ||| 1) / 2 ^ (7 * l) ≠ 0 := by omega
    rw [Lib.bitLen_half _ hne (Nat.lt_of_le_of_lt (Nat.div_le_self _ _) h64)]
    omega
  omega

/-! Reading -/
def lastErr (b : UInt8) (k : Nat) : Nat := if k = 10 ∧ 1 < b.toNat then 3 else if 1 < k ∧ b.toNat = 0 then 2 else 0

/-- The number that bytes begin with, in how many, and the error. -/
def getR (L : List UInt8) : Nat × Nat × Nat :=
  let i := L.findIdx (fun b => decide (b.toNat < 128))
  if i < L.length ∧ i < 10 then
    if lastErr (L.getD i 0) (i + 1) = 0 then (val (L.take (i + 1)), i + 1, 0) else (0, 0, lastErr (L.getD i 0) (i + 1))
  else if 10 ≤ L.length then (0, 0, 3) else (0, 0, 1)

theorem findIdx_at {L : List UInt8} {k : Nat} (hk : k < L.length) (hall : ∀ j, j < k → 128 ≤ (L.getD j 0).toNat) (hlow : (L.getD k 0).toNat < 128) :
    L.findIdx (fun b => decide (b.toNat < 128)) = k := by
  rw [List.findIdx_eq hk]
  have e : ∀ j (h : j < L.length), L.getD j 0 = L[j] := fun j h => by rw [List.getD_eq_getElem?_getD, List.getElem?_eq_getElem h]; rfl
  refine ⟨by rw [← e k hk]; simpa using hlow, fun j hj => ?_⟩
  have := hall j hj
  rw [e j (by omega)] at this
  simpa using this

theorem getR_at {L : List UInt8} {k : Nat} (hk : k < L.length) (h10 : k < 10) (hall : ∀ j, j < k → 128 ≤ (L.getD j 0).toNat) (hlow : (L.getD k 0).toNat < 128) :
    getR L = if lastErr (L.getD k 0) (k + 1) = 0 then (val (L.take (k + 1)), k + 1, 0) else (0, 0, lastErr (L.getD k 0) (k + 1)) := by
  have e := findIdx_at hk hall hlow
  simp only [getR, e]
  rw [if_pos ⟨hk, h10⟩]

theorem findIdx_ge {L : List UInt8} {m : Nat} (hm : m ≤ L.length) (hall : ∀ j, j < m → 128 ≤ (L.getD j 0).toNat) : m ≤ L.findIdx (fun b => decide (b.toNat < 128)) := by
  refine Nat.le_of_not_lt fun hlt => ?_
  have hw : L.findIdx (fun b => decide (b.toNat < 128)) < L.length := by omega
  have h1 := List.findIdx_getElem (w := hw)
  have h2 := hall _ hlt
  rw [List.getD_eq_getElem?_getD, List.getElem?_eq_getElem hw] at h2
  simp at h1 h2
  omega

theorem getR_long {L : List UInt8} (h : 10 ≤ L.length) (hall : ∀ j, j < 10 → 128 ≤ (L.getD j 0).toNat) : getR L = (0, 0, 3) := by
  have := findIdx_ge h hall
  simp only [getR]
  rw [if_neg (by omega), if_pos h]

theorem getR_short {L : List UInt8} (h : L.length < 10) (hall : ∀ j, j < L.length → 128 ≤ (L.getD j 0).toNat) : getR L = (0, 0, 1) := by
  have := findIdx_ge (Nat.le_refl L.length) hall
  simp only [getR]
  rw [if_neg (by omega), if_neg (by omega)]

theorem getR_cases (L : List UInt8) : (∃ k, k < L.length ∧ k < 10 ∧ (∀ j, j < k → 128 ≤ (L.getD j 0).toNat) ∧ (L.getD k 0).toNat < 128) ∨ (10 ≤ L.length ∧ ∀ j, j < 10 → 128 ≤ (L.getD j 0).toNat) ∨ (L.length < 10 ∧ ∀ j, j < L.length → 128 ≤ (L.getD j 0).toNat) := by
  have key : ∀ m, (∃ k, k < m ∧ (∀ j, j < k → 128 ≤ (L.getD j 0).toNat) ∧ (L.getD k 0).toNat < 128) ∨ ∀ j, j < m → 128 ≤ (L.getD j 0).toNat := by
    intro m
    induction m with
    | zero => exact .inr fun j hj => by omega
    | succ m ih =>
      rcases ih with ⟨k, hk, h1, h2⟩ | h
      · exact .inl ⟨k, by omega, h1, h2⟩
      · by_cases hm : (L.getD m 0).toNat < 128
        · exact .inl ⟨m, by omega, h, hm⟩
        · right
          intro j hj
          by_cases hjm : j = m
          · subst hjm; omega
          · exact h j (by omega)
  by_cases hl : 10 ≤ L.length
  · rcases key 10 with ⟨k, hk, h1, h2⟩ | h
    · exact .inl ⟨k, by omega, hk, h1, h2⟩
    · exact .inr (.inl ⟨hl, h⟩)
  · rcases key L.length with ⟨k, hk, h1, h2⟩ | h
    · exact .inl ⟨k, hk, by omega, h1, h2⟩
    · exact .inr (.inr ⟨by omega, h⟩)

theorem lastErr_lt (b : UInt8) (k : Nat) : lastErr b k < 4 := by unfold lastErr; split <;> (try split) <;> omega

theorem getR_err {L : List UInt8} (h : (getR L).2.2 ≠ 0) : (getR L).1 = 0 ∧ (getR L).2.1 = 0 := by
  rcases getR_cases L with ⟨k, hk, h10, hall, hlow⟩ | ⟨hl, hall⟩ | ⟨hl, hall⟩
  · rw [getR_at hk h10 hall hlow] at h ⊢
    split at h
    · exact absurd rfl h
    · rename_i h0
      rw [if_neg h0]
      exact ⟨rfl, rfl⟩
  · rw [getR_long hl hall]; exact ⟨rfl, rfl⟩
  · rw [getR_short hl hall]; exact ⟨rfl, rfl⟩

theorem getR_ok {L : List UInt8} (h : (getR L).2.2 = 0) : ∃ k, k < L.length ∧ k < 10 ∧ (∀ j, j < k → 128 ≤ (L.getD j 0).toNat) ∧ (L.getD k 0).toNat < 128 ∧ lastErr (L.getD k 0) (k + 1) = 0 ∧ getR L = (val (L.take (k + 1)), k + 1, 0) := by
  rcases getR_cases L with ⟨k, hk, h10, hall, hlow⟩ | ⟨hl, hall⟩ | ⟨hl, hall⟩
  · have e := getR_at hk h10 hall hlow
    rw [e] at h
    split at h
    · rename_i h0
      rw [if_pos h0] at e
      exact ⟨k, hk, h10, hall, hlow, h0, e⟩
    · exact absurd h (by assumption)
  · rw [getR_long hl hall] at h; simp at h
  · rw [getR_short hl hall] at h; simp at h

theorem getR_bounds (L : List UInt8) : (getR L).1 < 18446744073709551616 ∧ (getR L).2.1 ≤ L.length ∧ (getR L).2.1 ≤ 10 ∧ (getR L).2.2 < 4 ∧ ((getR L).2.2 = 0 → 0 < (getR L).2.1) := by
  by_cases h : (getR L).2.2 = 0
  · obtain ⟨k, hk, h10, hall, hlow, h0, e⟩ := getR_ok h
    rw [e]
    refine ⟨?_, by simp; omega, by simp; omega, by simp, by simp⟩
    show val (L.take (k + 1)) < _
    have e1 : L.take (k + 1) = L.take k ++ [L.getD k 0] := by
      rw [List.take_succ_eq_append_getElem hk, List.getD_eq_getElem?_getD, List.getElem?_eq_getElem hk]; rfl
    have hv := val_lt (L.take (k + 1))
    by_cases h8 : k ≤ 8
    · have h1 : 128 ^ (L.take (k + 1)).length ≤ 128 ^ 9 := Nat.pow_le_pow_right (by omega) (by simp; omega)
      omega
    · have hk9 : k = 9 := by omega
      subst hk9
      rw [e1, val_snoc]
      have h1 : (L.take 9).length = 9 := by simp; omega
      have h2 := val_lt (L.take 9)
      rw [h1] at h2 ⊢
      unfold lastErr at h0
      by_cases hc : 1 < (L.getD 9 0).toNat
      · rw [if_pos ⟨rfl, hc⟩] at h0; omega
      · have h3 : (L.getD 9 0).toNat % 128 * 128 ^ 9 ≤ 1 * 128 ^ 9 := Nat.mul_le_mul (by omega) (Nat.le_refl _)
        omega
  · obtain ⟨h1, h2⟩ := getR_err h
    rw [h1, h2]
    refine ⟨by omega, by omega, by omega, ?_, fun h0 => absurd h0 h⟩
    rcases getR_cases L with ⟨k, hk, h10, hall, hlow⟩ | ⟨hl, hall⟩ | ⟨hl, hall⟩
    · rw [getR_at hk h10 hall hlow]
      split
      · simp
      · exact lastErr_lt _ _
    · rw [getR_long hl hall]; simp
    · rw [getR_short hl hall]; simp

/-- The numbers of a text, or the first error. -/
def allR (L : List UInt8) : List Nat × Nat :=
  if h : L = [] then ([], 0)
  else if h2 : (getR L).2.2 = 0 then
    if (allR (L.drop (getR L).2.1)).2 = 0 then ((getR L).1 :: (allR (L.drop (getR L).2.1)).1, 0) else ([], (allR (L.drop (getR L).2.1)).2)
  else ([], (getR L).2.2)
  termination_by L.length
  decreasing_by
  all_goals
    have := (getR_bounds L).2.2.2.2 h2
    have hl : 0 < L.length := List.length_pos_iff.2 h
    simp
    omega

/-- What was read, and what the rest comes to. -/
def glue (acc : List Nat) (q : List Nat × Nat) : List Nat × Nat := if q.2 = 0 then (acc ++ q.1, 0) else ([], q.2)

theorem allR_nil : allR [] = ([], 0) := by rw [allR, dif_pos rfl]
theorem allR_err {L : List UInt8} (h : L ≠ []) (h2 : (getR L).2.2 ≠ 0) : allR L = ([], (getR L).2.2) := by rw [allR, dif_neg h, dif_neg h2]
theorem allR_ok {L : List UInt8} (h : L ≠ []) (h2 : (getR L).2.2 = 0) : allR L = glue [(getR L).1] (allR (L.drop (getR L).2.1)) := by
  rw [allR, dif_neg h, dif_pos h2]
  rfl
theorem glue_glue (a b : List Nat) (q : List Nat × Nat) : glue a (glue b q) = glue (a ++ b) q := by
  unfold glue
  by_cases h : q.2 = 0
  · simp [h]
  · simp [h]
theorem glue_nil (q : List Nat × Nat) (h : q.2 ≠ 0 → q.1 = []) : glue [] q = q := by
  unfold glue
  obtain ⟨a, b⟩ := q
  by_cases hb : b = 0
  · subst hb; simp
  · simp only at h ⊢
    rw [if_neg hb, h hb]
theorem allR_good (L : List UInt8) : (allR L).2 ≠ 0 → (allR L).1 = [] := by
  intro h
  by_cases hL : L = []
  · subst hL; rw [allR_nil]
  · by_cases h2 : (getR L).2.2 = 0
    · rw [allR_ok hL h2] at h ⊢
      unfold glue at h ⊢
      split at h
      · exact absurd rfl h
      · rename_i hq; rw [if_neg hq]
    · rw [allR_err hL h2]

/-! What is written is read, and the other way round -/
theorem getD_append_left {l r : List UInt8} {j : Nat} (h : j < l.length) : (l ++ r).getD j 0 = l.getD j 0 := by
  simp [List.getD, List.getElem?_append_left h]

theorem getR_enc {n : Nat} (hn : n < 18446744073709551616) (t : List UInt8) : getR (enc n ++ t) = (n, (enc n).length, 0) := by
  have h10 := enc_len_ten hn
  obtain ⟨l, b, he, hl, hb, hz, hv⟩ := enc_shape n
  have hlen : (enc n).length = l.length + 1 := by rw [he]; simp
  have hget : ∀ j, j < l.length → ((enc n ++ t).getD j 0).toNat = (l.getD j 0).toNat := fun j hj => by
    rw [getD_append_left (by omega), he, getD_append_left hj]
  have hlast : (enc n ++ t).getD l.length 0 = b := by
    rw [getD_append_left (by omega), he]
    simp [List.getD]
  have e := getR_at (L := enc n ++ t) (k := l.length) (by simp; omega) (by omega) (fun j hj => by
      rw [hget j hj, List.getD_eq_getElem?_getD, List.getElem?_eq_getElem hj]
      exact hl _ (List.getElem_mem hj)) (by rw [hlast]; exact hb)
  rw [hlast] at e
  have h0 : lastErr b (l.length + 1) = 0 := by
    unfold lastErr
    rw [if_neg, if_neg]
    · rintro ⟨h1, h2⟩
      exact hz (by rintro rfl; simp at h1) h2
    · rintro ⟨h1, h2⟩
      have h9 : l.length = 9 := by omega
      rw [val_snoc, h9] at hv
      have h3 : b.toNat % 128 * 128 ^ 9 ≥ 2 * 128 ^ 9 := Nat.mul_le_mul (by omega) (Nat.le_refl _)
      omega
  rw [if_pos h0] at e
  have ht : (enc n ++ t).take (l.length + 1) = enc n := by rw [← hlen]; simp
  rw [e, ht, hlen]
  rw [he, hv]

theorem getR_cut {n : Nat} (hn : n < 18446744073709551616) (c : Nat) (hc : c < (enc n).length) : getR ((enc n).take c) = (0, 0, 1) := by
  have h10 := enc_len_ten hn
  obtain ⟨l, b, he, hl, hb, hz, hv⟩ := enc_shape n
  have hlen : (enc n).length = l.length + 1 := by rw [he]; simp
  refine getR_short (by simp; omega) (fun j hj => ?_)
  simp only [List.length_take] at hj
  have e : ((enc n).take c).getD j 0 = l.getD j 0 := by
    rw [he]
    simp only [List.getD, List.getElem?_take]
    rw [if_pos (by omega), List.getElem?_append_left (by omega)]
  rw [e, List.getD_eq_getElem?_getD, List.getElem?_eq_getElem (show j < l.length by omega)]
  exact hl _ (List.getElem_mem _)

theorem enc_getR {L : List UInt8} (h : (getR L).2.2 = 0) : enc (getR L).1 = L.take (getR L).2.1 := by
  obtain ⟨k, hk, h10, hall, hlow, h0, e⟩ := getR_ok h
  rw [e]
  have e1 : L.take (k + 1) = L.take k ++ [L.getD k 0] := by
    rw [List.take_succ_eq_append_getElem hk, List.getD_eq_getElem?_getD, List.getElem?_eq_getElem hk]; rfl
  show enc (val (L.take (k + 1))) = L.take (k + 1)
  rw [e1]
  refine enc_val _ _ (fun x hx => ?_) hlow (fun hne hz => ?_)
  · obtain ⟨j, hj, rfl⟩ := List.mem_iff_getElem.1 hx
    simp only [List.length_take] at hj
    have := hall j (by omega)
    rw [List.getD_eq_getElem?_getD, List.getElem?_eq_getElem (by omega)] at this
    simpa using this
  · have hkp : 0 < k := by
      rcases Nat.eq_zero_or_pos k with rfl | hp
      · simp at hne
      · exact hp
    unfold lastErr at h0
    rw [if_neg (by omega), if_pos ⟨by omega, hz⟩] at h0
    omega

end Go.Proofs.YtbelpcniogcfoaaDoor.vi
