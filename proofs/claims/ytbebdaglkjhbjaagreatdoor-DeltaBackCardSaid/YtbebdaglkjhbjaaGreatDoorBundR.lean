/-
  Prm, Tbm, Rws, Prref, Prnx, Prall, Plib, Tref, Tchk, Tsame
-/
import Derived.Test.YtbebdaglkjhbjaaGreatDoorBundE
import Derived.Test.YtbebdaglkjhbjaaGreatDoorBundG
import Derived.Test.YtbebdaglkjhbjaaGreatDoorBundC
import Derived.Test.YtbebdaglkjhbjaaGreatDoorBundB
import Derived.Test.YtbebdaglkjhbjaaGreatDoorBundD

/-
  Plain mathematics of texts that rise (layer 14): what two share, one behind another one, all of them, and what is read.
-/
namespace Go.Proofs.YtbebdaglkjhbjaaGreatDoor.rm
open Go.Proofs.YtbebdaglkjhbjaaGreatDoor.vi Go.Proofs.YtbebdaglkjhbjaaGreatDoor.um Go.Proofs.YtbebdaglkjhbjaaGreatDoor.wm Go.Proofs.YtbebdaglkjhbjaaGreatDoor.em
set_option linter.unusedVariables false
set_option linter.unusedSimpArgs false

abbrev Bs := List UInt8

/-- How many bytes both share from the front on. -/
def com : Bs → Bs → Nat
  | a :: x, b :: y => if a = b then com x y + 1 else 0
  | _, _ => 0
theorem com_le : ∀ a b : Bs, com a b ≤ a.length ∧ com a b ≤ b.length
  | [], _ => by simp [com]
  | _ :: _, [] => by simp [com]
  | a :: x, b :: y => by
    have := com_le x y
    unfold com
    split <;> simp <;> omega
theorem com_take : ∀ a b : Bs, a.take (com a b) = b.take (com a b)
  | [], _ => by simp [com]
  | _ :: _, [] => by simp [com]
  | a :: x, b :: y => by
    have := com_take x y
    unfold com
    split
    · rename_i h; subst h; simp [this]
    · simp
theorem com_nil (a : Bs) : com [] a = 0 := by cases a <;> rfl
theorem com_self : ∀ a : Bs, com a a = a.length
  | [] => rfl
  | a :: x => by unfold com; rw [if_pos rfl, com_self x]; rfl
/-- A text, behind another one. -/
def oneP (a s : Bs) : Bs := enc (com a s) ++ enc (s.length - com a s) ++ s.drop (com a s)
/-- Is one less? -/
def lt (a b : Bs) : Bool := Op.bytesLess a b
/-- All of them, behind one. -/
def putP : Option Bs → List Bs → Bs × Nat
  | _, [] => ([], 0)
  | none, s :: r => if (putP (some s) r).2 ≠ 0 then ([], (putP (some s) r).2) else (oneP [] s ++ (putP (some s) r).1, 0)
  | some a, s :: r => if lt a s = false then ([], 7) else if (putP (some s) r).2 ≠ 0 then ([], (putP (some s) r).2) else (oneP a s ++ (putP (some s) r).1, 0)
def textP (k : Nat) (a m : Bs) : Bs := a.take k ++ m
/-- The text that stands next, what is behind, the code. -/
def nextP (L a : Bs) (first : Bool) : Bs × Bs × Nat :=
  if (getR L).2.2 ≠ 0 then ([], [], (getR L).2.2)
  else if (first = true ∧ (getR L).1 ≠ 0) ∨ a.length < (getR L).1 then ([], [], 23)
  else if (getR (L.drop (getR L).2.1)).2.2 ≠ 0 then ([], [], (getR (L.drop (getR L).2.1)).2.2)
  else if L.length - ((getR L).2.1 + (getR (L.drop (getR L).2.1)).2.1) < (getR (L.drop (getR L).2.1)).1 then ([], [], 1)
  else if first = false ∧ lt a (a.take (getR L).1 ++ (L.drop ((getR L).2.1 + (getR (L.drop (getR L).2.1)).2.1)).take (getR (L.drop (getR L).2.1)).1) = false then ([], [], 7)
  else if first = false ∧ com a (a.take (getR L).1 ++ (L.drop ((getR L).2.1 + (getR (L.drop (getR L).2.1)).2.1)).take (getR (L.drop (getR L).2.1)).1) ≠ (getR L).1 then ([], [], 23)
  else (a.take (getR L).1 ++ (L.drop ((getR L).2.1 + (getR (L.drop (getR L).2.1)).2.1)).take (getR (L.drop (getR L).2.1)).1, L.drop ((getR L).2.1 + (getR (L.drop (getR L).2.1)).2.1 + (getR (L.drop (getR L).2.1)).1), 0)

/-- What is read was written so. -/
theorem nextP_ok {L a : Bs} {first : Bool} (h : (nextP L a first).2.2 = 0) :
    L = oneP (if first then [] else a) (nextP L a first).1 ++ (nextP L a first).2.1 ∧ (first = false → lt a (nextP L a first).1 = true) := by
  have hb := getR_bounds L
  have hb2 := getR_bounds (L.drop (getR L).2.1)
  have he := @enc_getR L
  have he2 := @enc_getR (L.drop (getR L).2.1)
  generalize hN : nextP L a first = N at *
  unfold nextP at hN
  generalize hg : getR L = r at *
  obtain ⟨k, i, e⟩ := r
  simp only at *
  generalize hg2 : getR (L.drop i) = r2 at *
  obtain ⟨n, j, e2⟩ := r2
  simp only at *
  by_cases h1 : e = 0
  · rw [if_neg (fun hh => hh h1)] at hN
    by_cases h2 : (first = true ∧ k ≠ 0) ∨ a.length < k
    · rw [if_pos h2] at hN; subst hN; simp at h
    · rw [if_neg h2] at hN
      by_cases h3 : e2 = 0
      · rw [if_neg (fun hh => hh h3)] at hN
        by_cases h4 : L.length - (i + j) < n
        · rw [if_pos h4] at hN; subst hN; simp at h
        · rw [if_neg h4] at hN
          generalize hm : (L.drop (i + j)).take n = m at *
          have hml : m.length = n := by rw [← hm]; simp; omega
          have hE := he h1
          have hE2 := he2 h3
          have hL : L = enc k ++ enc n ++ m ++ L.drop (i + j + n) := by
            rw [hE, hE2, ← hm, ← List.drop_drop (i := n), ← List.drop_drop (i := j), List.append_assoc, List.append_assoc, List.take_append_drop, List.take_append_drop, List.take_append_drop]
          by_cases h5 : first = false ∧ lt a (a.take k ++ m) = false
          · rw [if_pos h5] at hN; subst hN; simp at h
          · rw [if_neg h5] at hN
            by_cases h6 : first = false ∧ com a (a.take k ++ m) ≠ k
            · rw [if_pos h6] at hN; subst hN; simp at h
            · rw [if_neg h6] at hN
              subst hN
              cases first with
              | true =>
                have hk0 : k = 0 := by
                  by_cases hk : k = 0
                  · exact hk
                  · exact absurd (.inl ⟨rfl, hk⟩) h2
                subst hk0
                refine ⟨?_, fun e => by cases e⟩
                show L = oneP [] ([] ++ m) ++ L.drop (i + j + n)
                rw [List.nil_append]
                unfold oneP
                rw [com_nil, Nat.sub_zero, hml, List.drop_zero]
                exact hL
              | false =>
                have hc : com a (a.take k ++ m) = k := by
                  by_cases hc : com a (a.take k ++ m) = k
                  · exact hc
                  · exact absurd ⟨rfl, hc⟩ h6
                have hlt : lt a (a.take k ++ m) = true := by
                  cases hl : lt a (a.take k ++ m) with
                  | true => rfl
                  | false => exact absurd ⟨rfl, hl⟩ h5
                refine ⟨?_, fun _ => hlt⟩
                have hka : k ≤ a.length := by omega
                show L = oneP a (a.take k ++ m) ++ L.drop (i + j + n)
                unfold oneP
                rw [hc]
                have hd : (a.take k ++ m).drop k = m := by
                  rw [List.drop_append_of_le_length (by simp; omega), List.drop_of_length_le (by simp; omega), List.nil_append]
                have hl2 : (a.take k ++ m).length - k = n := by simp; omega
                rw [hd, hl2]
                exact hL
      · rw [if_pos h3] at hN; subst hN; exact absurd h h3
  · rw [if_pos h1] at hN; subst hN; exact absurd h h1

/-- What is written is read. -/
theorem nextP_one {a s : Bs} {first : Bool} (r : Bs) (hs : s.length < 18446744073709551616) (hf : first = true → a = []) (hl : first = false → lt a s = true) :
    nextP (oneP a s ++ r) a first = (s, r, 0) := by
  obtain ⟨hc1, hc2⟩ := com_le a s
  have hg : getR (oneP a s ++ r) = (com a s, (enc (com a s)).length, 0) := by
    unfold oneP
    rw [List.append_assoc, List.append_assoc]
    exact getR_enc (by omega) _
  have hd : (oneP a s ++ r).drop (enc (com a s)).length = enc (s.length - com a s) ++ (s.drop (com a s) ++ r) := by
    unfold oneP
    rw [List.append_assoc, List.append_assoc, List.drop_left]
  have hg2 : getR ((oneP a s ++ r).drop (enc (com a s)).length) = (s.length - com a s, (enc (s.length - com a s)).length, 0) := by
    rw [hd]
    exact getR_enc (by omega) _
  have hd2 : (oneP a s ++ r).drop ((enc (com a s)).length + (enc (s.length - com a s)).length) = s.drop (com a s) ++ r := by
    rw [← List.drop_drop, hd, List.drop_left]
  have hlen : (oneP a s ++ r).length = (enc (com a s)).length + (enc (s.length - com a s)).length + (s.length - com a s) + r.length := by
    unfold oneP
    simp only [List.length_append, List.length_drop]
  have ht : a.take (com a s) ++ (s.drop (com a s) ++ r).take (s.length - com a s) = s := by
    have h1 : (s.drop (com a s) ++ r).take (s.length - com a s) = s.drop (com a s) := by
      have : (s.drop (com a s)).length = s.length - com a s := by simp
      rw [← this, List.take_left]
    rw [h1, com_take, List.take_append_drop]
  have hr : (oneP a s ++ r).drop ((enc (com a s)).length + (enc (s.length - com a s)).length + (s.length - com a s)) = r := by
    rw [← List.drop_drop, hd2]
    have : (s.drop (com a s)).length = s.length - com a s := by simp
    rw [← this, List.drop_left]
  unfold nextP
  rw [hg]
  simp only
  rw [hg2]
  simp only
  rw [hd2, ht, hr]
  rw [if_neg (by simp), if_neg (by
    rintro (⟨h1, h2⟩ | h)
    · rw [hf h1, com_nil] at h2; exact h2 rfl
    · omega), if_neg (by simp), if_neg (by rw [hlen]; omega)]
  rw [if_neg (by rintro ⟨h1, h2⟩; rw [hl h1] at h2; cases h2), if_neg (by rintro ⟨h1, h2⟩; exact h2 rfl)]

/-- All texts of some bytes. -/
def allP : Nat → Option Bs → Bs → List Bs × Nat
  | 0, _, _ => ([], 0)
  | n + 1, p, L =>
    if L = [] then ([], 0)
    else if (nextP L (p.getD []) p.isNone).2.2 ≠ 0 then ([], (nextP L (p.getD []) p.isNone).2.2)
    else if (allP n (some (nextP L (p.getD []) p.isNone).1) (nextP L (p.getD []) p.isNone).2.1).2 ≠ 0 then ([], (allP n (some (nextP L (p.getD []) p.isNone).1) (nextP L (p.getD []) p.isNone).2.1).2)
    else ((nextP L (p.getD []) p.isNone).1 :: (allP n (some (nextP L (p.getD []) p.isNone).1) (nextP L (p.getD []) p.isNone).2.1).1, 0)

theorem oneP_pos (a s : Bs) : 0 < (oneP a s).length := by
  have : 0 < (enc (com a s)).length := enc_len_pos _
  unfold oneP
  simp only [List.length_append]
  omega

theorem allP_nil (n : Nat) (p : Option Bs) : allP n p [] = ([], 0) := by cases n <;> simp [allP]
theorem putP_cons (p : Option Bs) (s : Bs) (r : List Bs) : putP p (s :: r) =
    if p.any (fun a => lt a s == false) = true then ([], 7) else if (putP (some s) r).2 ≠ 0 then ([], (putP (some s) r).2) else (oneP (p.getD []) s ++ (putP (some s) r).1, 0) := by
  cases p with
  | none => simp [putP]
  | some a =>
    cases h : lt a s <;> simp [putP, h]
theorem putP_err : ∀ (l : List Bs) (p : Option Bs), (putP p l).2 ≠ 0 → (putP p l).1 = []
  | [], p, h => by cases p <;> simp [putP] at h
  | s :: r, p, h => by
    rw [putP_cons] at h ⊢
    split
    · rfl
    · rename_i h1
      rw [if_neg h1] at h
      split
      · rfl
      · rename_i h2
        rw [if_neg h2] at h
        exact absurd rfl h
theorem putP_lt64 : ∀ (l : List Bs) (p : Option Bs), (putP p l).2 = 0 ∨ (putP p l).2 = 7
  | [], p => by cases p <;> simp [putP]
  | s :: r, p => by
    have := putP_lt64 r (some s)
    rw [putP_cons]
    split
    · exact .inr rfl
    · split
      · exact this
      · exact .inl rfl
theorem putP_len : ∀ (l : List Bs) (p : Option Bs) (m : Nat), (∀ s ∈ l, s.length ≤ m) → m < 18446744073709551616 → (putP p l).1.length ≤ l.length * (m + 20)
  | [], p, m, _, _ => by cases p <;> simp [putP]
  | s :: r, p, m, h, hm => by
    have ih := putP_len r (some s) m (fun x hx => h x (by simp [hx])) hm
    have hs := h s (by simp)
    have hc := (com_le (p.getD []) s).2
    have e1 : (enc (com (p.getD []) s)).length ≤ 10 := enc_len_ten (by omega)
    have e2 : (enc (s.length - com (p.getD []) s)).length ≤ 10 := enc_len_ten (by omega)
    have ho : (oneP (p.getD []) s).length ≤ m + 20 := by
      unfold oneP
      simp only [List.length_append, List.length_drop]
      omega
    rw [putP_cons]
    split
    · simp
    · split
      · simp
      · simp only [List.length_append, List.length_cons, Nat.add_mul]
        omega

theorem allP_put : ∀ (l : List Bs) (p : Option Bs) (n : Nat), (∀ s ∈ l, s.length < 18446744073709551616) → (putP p l).2 = 0 → (putP p l).1.length ≤ n → allP n p (putP p l).1 = (l, 0)
  | [], p, n, _, _, _ => by
    have : (putP p []).1 = [] := by cases p <;> rfl
    rw [this]; exact allP_nil n p
  | s :: r, p, n, h, h0, hn => by
    have hs := h s (by simp)
    rw [putP_cons] at h0 hn ⊢
    by_cases h1 : p.any (fun a => lt a s == false) = true
    · rw [if_pos h1] at h0; simp at h0
    · rw [if_neg h1] at h0 hn ⊢
      by_cases h2 : (putP (some s) r).2 = 0
      · rw [if_neg (by simp [h2])] at hn ⊢
        simp only at hn ⊢
        have ho := oneP_pos (p.getD []) s
        have hn : (oneP (p.getD []) s).length + (putP (some s) r).1.length ≤ n := by rw [← List.length_append]; exact hn
        obtain ⟨m, rfl⟩ : ∃ m, n = m + 1 := ⟨n - 1, by omega⟩
        have hne : oneP (p.getD []) s ++ (putP (some s) r).1 ≠ [] := fun e => by
          have h3 := congrArg List.length e
          rw [List.length_append, List.length_nil] at h3
          omega
        have hx := nextP_one (a := p.getD []) (s := s) (first := p.isNone) (putP (some s) r).1 hs (fun e => by cases p <;> simp at e ⊢) (fun e => by
          cases p with
          | none => simp at e
          | some a =>
            cases hl : lt a s with
            | true => exact hl
            | false => simp [hl] at h1)
        have ih := allP_put r (some s) m (fun x hx => h x (by simp [hx])) h2 (by omega)
        unfold allP
        rw [if_neg hne, hx]
        simp only
        rw [ih]
        simp
      · rw [if_pos h2] at h0; exact absurd h0 h2
theorem allP_ok : ∀ (n : Nat) (p : Option Bs) (L : Bs), L.length ≤ n → (allP n p L).2 = 0 → putP p (allP n p L).1 = (L, 0)
  | 0, p, L, h, _ => by
    have : L = [] := List.length_eq_zero_iff.1 (by omega)
    subst this
    cases p <;> rfl
  | n + 1, p, L, h, h0 => by
    by_cases hL : L = []
    · subst hL
      rw [allP_nil]
      cases p <;> rfl
    · unfold allP at h0 ⊢
      rw [if_neg hL] at h0 ⊢
      by_cases h1 : (nextP L (p.getD []) p.isNone).2.2 = 0
      · rw [if_neg (by simp [h1])] at h0 ⊢
        by_cases h2 : (allP n (some (nextP L (p.getD []) p.isNone).1) (nextP L (p.getD []) p.isNone).2.1).2 = 0
        · rw [if_neg (by simp [h2])]
          simp only
          obtain ⟨k1, k2⟩ := nextP_ok h1
          generalize nextP L (p.getD []) p.isNone = R at *
          obtain ⟨t, rest, q⟩ := R
          simp only at *
          have hp : (if p.isNone = true then [] else p.getD []) = p.getD [] := by cases p <;> simp
          rw [hp] at k1
          have hpos := oneP_pos (p.getD []) t
          have hlen := congrArg List.length k1
          rw [List.length_append] at hlen
          have ih := allP_ok n (some t) rest (by omega) h2
          rw [putP_cons, ih]
          rw [if_neg (by
            cases p with
            | none => simp
            | some a => have := k2 rfl; simp at this; simp [this])]
          rw [if_neg (by simp)]
          simp only
          rw [← k1]
        · rw [if_pos h2] at h0; exact absurd h0 h2
      · rw [if_pos h1] at h0; exact absurd h0 h1
theorem allP_err : ∀ (n : Nat) (p : Option Bs) (L : Bs), (allP n p L).2 ≠ 0 → (allP n p L).1 = []
  | 0, _, _, h => by simp [allP] at h
  | n + 1, p, L, h => by
    unfold allP at h ⊢
    split
    · rfl
    · rename_i h0
      rw [if_neg h0] at h
      split
      · rfl
      · rename_i h1
        rw [if_neg h1] at h
        split
        · rfl
        · rename_i h2
          rw [if_neg h2] at h
          exact absurd rfl h
/-- What may be written rises. -/
theorem putP_rise : ∀ (l : List Bs) (p : Option Bs), (putP p l).2 = 0 → (p.toList ++ l).Pairwise (fun a b => lt a b = true)
  | [], p, _ => by cases p <;> simp
  | s :: r, p, h => by
    rw [putP_cons] at h
    by_cases h1 : p.any (fun a => lt a s == false) = true
    · rw [if_pos h1] at h; simp at h
    · rw [if_neg h1] at h
      by_cases h2 : (putP (some s) r).2 = 0
      · have ih := putP_rise r (some s) h2
        cases p with
        | none => simpa using ih
        | some a =>
          have has : lt a s = true := by
            cases hl : lt a s with
            | true => rfl
            | false => simp [hl] at h1
          have ih2 : (s :: r).Pairwise (fun a b => lt a b = true) := by simpa using ih
          show (a :: s :: r).Pairwise _
          refine List.pairwise_cons.2 ⟨fun y hy => ?_, ih2⟩
          rcases List.mem_cons.1 hy with rfl | hy
          · exact has
          · exact less_trans _ _ _ has ((List.pairwise_cons.1 ih2).1 y hy)
      · rw [if_pos h2] at h; exact absurd h h2

end Go.Proofs.YtbebdaglkjhbjaaGreatDoor.rm

/-
  Plain mathematics of tables (layer 13): rows by their keys; which may be; what comes of any; at least.
-/
namespace Go.Proofs.YtbebdaglkjhbjaaGreatDoor.tm
open Go.Proofs.YtbebdaglkjhbjaaGreatDoor.vi Go.Proofs.YtbebdaglkjhbjaaGreatDoor.um Go.Proofs.YtbebdaglkjhbjaaGreatDoor.wm Go.Proofs.YtbebdaglkjhbjaaGreatDoor.em Go.Proofs.YtbebdaglkjhbjaaGreatDoor.rm
set_option linter.unusedVariables false
set_option linter.unusedSimpArgs false

/-- A row. -/
structure Rw where
  d : List Ent
  n : Nat
deriving DecidableEq

def key (r : Rw) : Bs := keyD r.d
def rowE (r : Rw) : Nat := if checkD r.d ≠ 0 then checkD r.d else if r.n = 0 then 18 else 0
def behT : Option Rw → Rw → Nat
  | none, _ => 0
  | some a, r => if key a = key r then 14 else if lt (key a) (key r) = true then 0 else 7
def walkT : Option Rw → List Rw → Nat
  | _, [] => 0
  | p, x :: r => if rowE x ≠ 0 then rowE x else if behT p x ≠ 0 then behT p x else walkT (some x) r
def checkT (l : List Rw) : Nat := if 256 < l.length then 13 else walkT none l
def firstT : List Rw → Nat
  | [] => 0
  | x :: r => if rowE x ≠ 0 then rowE x else firstT r
def insT (x : Rw) : List Rw → Option (List Rw)
  | [] => some [x]
  | t :: r => if lt (key t) (key x) = true then (insT x r).map (t :: ·) else if key t = key x then none else some (x :: t :: r)
def insAllT : List Rw → List Rw → Option (List Rw)
  | out, [] => some out
  | out, x :: r => (insT x out).bind fun o => insAllT o r
def ofT (l : List Rw) : List Rw × Nat :=
  if 256 < l.length then ([], 13) else if firstT l ≠ 0 then ([], firstT l) else match insAllT [] l with
    | none => ([], 14)
    | some o => (o, 0)
def getT (d : List Ent) : List Rw → Nat
  | [] => 0
  | r :: t => if key r = keyD d then r.n else getT d t
def atT (t b : List Rw) : Bool := b.all fun r => decide (r.n ≤ getT r.d t)

theorem rowE_lt (r : Rw) : rowE r < 64 := by unfold rowE; split; exact checkD_lt _; split <;> simp
theorem behT_lt (p : Option Rw) (r : Rw) : behT p r < 64 := by unfold behT; split; simp; split; simp; split <;> simp
theorem walkT_lt : ∀ (l : List Rw) (p : Option Rw), walkT p l < 64
  | [], _ => by simp [walkT]
  | x :: r, p => by
    unfold walkT
    split
    · exact rowE_lt x
    · split
      · exact behT_lt _ _
      · exact walkT_lt r _
theorem checkT_lt (l : List Rw) : checkT l < 64 := by unfold checkT; split; simp; exact walkT_lt _ _
theorem firstT_lt : ∀ l : List Rw, firstT l < 64
  | [] => by simp [firstT]
  | x :: r => by unfold firstT; split; exact rowE_lt x; exact firstT_lt r
theorem ofT_lt (l : List Rw) : (ofT l).2 < 64 := by
  unfold ofT
  split
  · simp
  · split
    · exact firstT_lt _
    · split <;> simp
theorem ofT_err {l : List Rw} (h : (ofT l).2 ≠ 0) : (ofT l).1 = [] := by
  unfold ofT at h ⊢
  split
  · rfl
  · rename_i h1
    rw [if_neg h1] at h
    split
    · rfl
    · rename_i h2
      rw [if_neg h2] at h
      split
      · rfl
      · rename_i o h3
        rw [h3] at h
        exact absurd rfl h

/-! Rising -/
def ltR (a b : Rw) : Prop := lt (key a) (key b) = true
theorem ltR_trans {a b c : Rw} (h1 : ltR a b) (h2 : ltR b c) : ltR a c := less_trans _ _ _ h1 h2
theorem ltR_ne {a b : Rw} (h : ltR a b) : key a ≠ key b := fun e => by unfold ltR lt at h; rw [e, less_irrefl] at h; cases h
theorem ltR_asymm {a b : Rw} (h : ltR a b) : ¬ ltR b a := fun h2 => by
  have := less_asymm h
  unfold ltR lt at h2
  rw [this] at h2; cases h2
theorem behT_zero (a r : Rw) : behT (some a) r = 0 ↔ ltR a r := by
  show (if key a = key r then 14 else if lt (key a) (key r) = true then 0 else 7) = 0 ↔ lt (key a) (key r) = true
  by_cases h : key a = key r
  · rw [if_pos h, h]; simp [lt, less_irrefl]
  · rw [if_neg h]
    by_cases h2 : lt (key a) (key r) = true <;> simp [h2]
theorem walkT_ok : ∀ (l : List Rw) (p : Option Rw), walkT p l = 0 ↔ ((∀ x ∈ l, rowE x = 0) ∧ (p.toList ++ l).Pairwise ltR)
  | [], p => by cases p <;> simp [walkT]
  | x :: r, p => by
    have ih := walkT_ok r (some x)
    unfold walkT
    by_cases h1 : rowE x = 0
    · rw [if_neg (by simp [h1])]
      by_cases h2 : behT p x = 0
      · rw [if_neg (by simp [h2]), ih]
        have hp : ∀ a, p = some a → ltR a x := fun a e => by subst e; exact (behT_zero a x).1 h2
        constructor
        · rintro ⟨k1, k2⟩
          refine ⟨fun y hy => ?_, ?_⟩
          · rcases List.mem_cons.1 hy with rfl | hy
            · exact h1
            · exact k1 y hy
          · cases p with
            | none => simpa using k2
            | some a =>
              have ha := hp a rfl
              have k3 := List.pairwise_cons.1 (by simpa using k2 : (x :: r).Pairwise ltR)
              refine List.pairwise_cons.2 ⟨fun y hy => ?_, List.pairwise_cons.2 k3⟩
              rcases List.mem_cons.1 (by simpa using hy : y ∈ x :: r) with rfl | hy
              · exact ha
              · exact ltR_trans ha (k3.1 y hy)
        · rintro ⟨k1, k2⟩
          refine ⟨fun y hy => k1 y (List.mem_cons_of_mem _ hy), ?_⟩
          cases p with
          | none => simpa using k2
          | some a => exact (List.pairwise_cons.1 k2).2
      · rw [if_pos h2]
        constructor
        · intro e; exact absurd e h2
        · rintro ⟨k1, k2⟩
          cases p with
          | none => simp [behT] at h2
          | some a => exact absurd ((behT_zero a x).2 ((List.pairwise_cons.1 k2).1 x (by simp))) h2
    · rw [if_pos h1]
      exact ⟨fun e => absurd e h1, fun k => absurd (k.1 x (by simp)) h1⟩
/-- A table that may be. -/
def Good (l : List Rw) : Prop := l.length ≤ 256 ∧ (∀ x ∈ l, rowE x = 0) ∧ l.Pairwise ltR
theorem checkT_ok (l : List Rw) : checkT l = 0 ↔ Good l := by
  have := walkT_ok l none
  unfold checkT Good
  by_cases h : 256 < l.length
  · rw [if_pos h]; simp; omega
  · rw [if_neg h, this]; simp; omega
theorem firstT_zero : ∀ l : List Rw, firstT l = 0 ↔ ∀ x ∈ l, rowE x = 0
  | [] => by simp [firstT]
  | x :: r => by
    have ih := firstT_zero r
    unfold firstT
    by_cases h : rowE x = 0
    · rw [if_neg (by simp [h]), ih]; simp [h]
    · rw [if_pos h]
      exact ⟨fun e => absurd e h, fun k => absurd (k x (by simp)) h⟩

/-! Put in one by one -/
theorem insT_some : ∀ (l : List Rw) (x : Rw) (o : List Rw), insT x l = some o → l.Pairwise ltR → o.Perm (x :: l) ∧ o.Pairwise ltR
  | [], x, o, h, _ => by simp [insT] at h; subst h; exact ⟨List.Perm.refl _, List.pairwise_singleton _ _⟩
  | t :: r, x, o, h, hl => by
    obtain ⟨h1, h2⟩ := List.pairwise_cons.1 hl
    unfold insT at h
    by_cases hlt : lt (key t) (key x) = true
    · rw [if_pos hlt] at h
      obtain ⟨o', ho', rfl⟩ := Option.map_eq_some_iff.1 h
      obtain ⟨k1, k2⟩ := insT_some r x o' ho' h2
      refine ⟨(k1.cons t).trans (List.Perm.swap x t r), List.pairwise_cons.2 ⟨fun y hy => ?_, k2⟩⟩
      rcases List.mem_cons.1 (k1.mem_iff.1 hy) with rfl | hy
      · exact hlt
      · exact h1 y hy
    · rw [if_neg hlt] at h
      by_cases hk : key t = key x
      · rw [if_pos hk] at h; cases h
      · rw [if_neg hk] at h
        cases h
        have hxt : ltR x t := by
          rcases less_tri (key t) (key x) with h | h | h
          · exact absurd h hlt
          · exact absurd h hk
          · exact h
        refine ⟨List.Perm.refl _, List.pairwise_cons.2 ⟨fun y hy => ?_, hl⟩⟩
        rcases List.mem_cons.1 hy with rfl | hy
        · exact hxt
        · exact ltR_trans hxt (h1 y hy)
theorem insT_none : ∀ (l : List Rw) (x : Rw), insT x l = none → ∃ t ∈ l, key t = key x
  | [], x, h => by simp [insT] at h
  | t :: r, x, h => by
    unfold insT at h
    by_cases hlt : lt (key t) (key x) = true
    · rw [if_pos hlt] at h
      obtain ⟨u, hu, he⟩ := insT_none r x (by simpa using h)
      exact ⟨u, by simp [hu], he⟩
    · rw [if_neg hlt] at h
      by_cases hk : key t = key x
      · exact ⟨t, by simp, hk⟩
      · rw [if_neg hk] at h; cases h
theorem insAllT_some : ∀ (l out o : List Rw), insAllT out l = some o → out.Pairwise ltR → o.Perm (out ++ l) ∧ o.Pairwise ltR
  | [], out, o, h, ho => by simp [insAllT] at h; subst h; exact ⟨by simp, ho⟩
  | x :: r, out, o, h, ho => by
    unfold insAllT at h
    obtain ⟨o1, h1, h2⟩ := Option.bind_eq_some_iff.1 h
    obtain ⟨k1, k2⟩ := insT_some out x o1 h1 ho
    obtain ⟨j1, j2⟩ := insAllT_some r o1 o h2 k2
    refine ⟨j1.trans ?_, j2⟩
    exact (k1.append_right r).trans (by simpa using (List.perm_middle (a := x) (l₁ := out) (l₂ := r)).symm)
/-- Which are put in: just those whose keys are all apart. -/
theorem insAllT_iff : ∀ (l out : List Rw), out.Pairwise ltR → ((insAllT out l).isSome = true ↔ ((out ++ l).map key).Nodup)
  | [], out, ho => by
    simp only [insAllT, Option.isSome_some, List.append_nil, true_iff]
    rw [List.Nodup, List.pairwise_map]
    exact ho.imp fun h => ltR_ne h
  | x :: r, out, ho => by
    unfold insAllT
    cases hi : insT x out with
    | none =>
      obtain ⟨t, ht, he⟩ := insT_none out x hi
      simp only [Option.bind_none, Option.isSome_none, Bool.false_eq_true, false_iff]
      intro hn
      rw [List.map_append, List.nodup_append] at hn
      exact hn.2.2 (key t) (List.mem_map.2 ⟨t, ht, rfl⟩) (key x) (by simp) he
    | some o =>
      obtain ⟨k1, k2⟩ := insT_some out x o hi ho
      show (insAllT o r).isSome = true ↔ _
      rw [insAllT_iff r o k2]
      have hp : (o ++ r).Perm (out ++ x :: r) := (k1.append_right r).trans (by simpa using (List.perm_middle (a := x) (l₁ := out) (l₂ := r)).symm)
      exact (hp.map key).nodup_iff
theorem sorted_eq {a b : List Rw} (ha : a.Pairwise ltR) (hb : b.Pairwise ltR) (h : a.Perm b) : a = b :=
  h.eq_of_pairwise (fun x y _ _ h1 h2 => absurd h2 (ltR_asymm h1)) ha hb
theorem ofT_ok {l : List Rw} (h : (ofT l).2 = 0) : Good (ofT l).1 ∧ (ofT l).1.Perm l := by
  unfold ofT at h ⊢
  by_cases h1 : 256 < l.length
  · rw [if_pos h1] at h; simp at h
  · rw [if_neg h1] at h ⊢
    by_cases h2 : firstT l = 0
    · rw [if_neg (by simp [h2])] at h ⊢
      cases hi : insAllT [] l with
      | none => rw [hi] at h; simp at h
      | some o =>
        obtain ⟨k1, k2⟩ := insAllT_some l [] o hi List.Pairwise.nil
        rw [List.nil_append] at k1
        exact ⟨⟨by rw [k1.length_eq]; omega, fun x hx => (firstT_zero l).1 h2 x (k1.mem_iff.1 hx), k2⟩, k1⟩
    · rw [if_pos h2] at h; exact absurd h h2
theorem ofT_perm {a b : List Rw} (h : a.Perm b) (h0 : (ofT a).2 = 0) : ofT b = ((ofT a).1, 0) := by
  obtain ⟨⟨g1, g2, g3⟩, gp⟩ := ofT_ok h0
  have hb1 : ¬ 256 < b.length := by rw [← h.length_eq, ← gp.length_eq]; omega
  have hb2 : firstT b = 0 := (firstT_zero b).2 fun x hx => g2 x (gp.mem_iff.2 (h.mem_iff.2 hx))
  have hn : ((([] : List Rw) ++ b).map key).Nodup := by
    rw [List.nil_append]
    refine ((gp.trans h).map key).nodup_iff.1 ?_
    rw [List.Nodup, List.pairwise_map]
    exact g3.imp fun h => ltR_ne h
  have hs := (insAllT_iff b [] List.Pairwise.nil).2 hn
  obtain ⟨o, ho⟩ := Option.isSome_iff_exists.1 hs
  obtain ⟨k1, k2⟩ := insAllT_some b [] o ho List.Pairwise.nil
  rw [List.nil_append] at k1
  have : o = (ofT a).1 := sorted_eq k2 g3 (k1.trans (gp.trans h).symm)
  have e : ofT b = (o, 0) := by
    unfold ofT
    rw [if_neg hb1, if_neg (by simp [hb2]), ho]
  rw [e, this]
/-- What the developers may do: sort, and look. -/
theorem ofT_sorted {l o : List Rw} (hl : ¬ 256 < l.length) (hf : firstT l = 0) (hp : o.Perm l) (hs : o.Pairwise fun a b => ¬ ltR b a) : ofT l = if checkT o = 0 then (o, 0) else ([], 14) := by
  by_cases hc : checkT o = 0
  · rw [if_pos hc]
    have g := (checkT_ok o).1 hc
    have h0 : (ofT o).2 = 0 := by
      unfold ofT
      rw [if_neg (by have := g.1; omega), if_neg (by simp [(firstT_zero o).2 g.2.1])]
      have hn : ((([] : List Rw) ++ o).map key).Nodup := by
        rw [List.nil_append, List.Nodup, List.pairwise_map]
        exact g.2.2.imp fun h => ltR_ne h
      obtain ⟨u, hu⟩ := Option.isSome_iff_exists.1 ((insAllT_iff o [] List.Pairwise.nil).2 hn)
      rw [hu]
    rw [ofT_perm hp h0]
    obtain ⟨⟨_, _, k3⟩, k4⟩ := ofT_ok h0
    rw [sorted_eq k3 g.2.2 k4]
  · rw [if_neg hc]
    unfold ofT
    rw [if_neg hl, if_neg (by simp [hf])]
    cases hi : insAllT [] l with
    | none => rfl
    | some u =>
      exfalso
      obtain ⟨k1, k2⟩ := insAllT_some l [] u hi List.Pairwise.nil
      rw [List.nil_append] at k1
      have hn : (o.map key).Nodup := ((k1.trans hp.symm).map key).nodup_iff.1 (by rw [List.Nodup, List.pairwise_map]; exact k2.imp fun h => ltR_ne h)
      apply hc
      refine (checkT_ok o).2 ⟨by rw [hp.length_eq]; omega, fun x hx => (firstT_zero l).1 hf x (hp.mem_iff.1 hx), ?_⟩
      rw [List.Nodup, List.pairwise_map] at hn
      refine (hs.and hn).imp fun {a b} h => ?_
      rcases less_tri (key a) (key b) with k | k | k
      · exact k
      · exact absurd k h.2
      · exact absurd k h.1

/-! Get, AtLeast -/
theorem getT_mem : ∀ {t : List Rw} {d : List Ent}, getT d t ≠ 0 → ∃ r ∈ t, key r = keyD d ∧ r.n = getT d t
  | [], d, h => by simp [getT] at h
  | r :: t, d, h => by
    unfold getT at h ⊢
    by_cases hk : key r = keyD d
    · rw [if_pos hk]; exact ⟨r, by simp, hk, rfl⟩
    · rw [if_neg hk] at h ⊢
      obtain ⟨u, hu, h1, h2⟩ := getT_mem h
      exact ⟨u, by simp [hu], h1, h2⟩
theorem getT_of : ∀ {t : List Rw} {r : Rw}, t.Pairwise ltR → r ∈ t → ∀ {d : List Ent}, keyD d = key r → getT d t = r.n
  | u :: t, r, h, hr, d, hd => by
    obtain ⟨h1, h2⟩ := List.pairwise_cons.1 h
    unfold getT
    rcases List.mem_cons.1 hr with rfl | hr
    · rw [if_pos hd.symm]
    · rw [if_neg (by rw [hd]; exact ltR_ne (h1 r hr))]
      exact getT_of h2 hr hd
theorem atT_iff (t b : List Rw) : atT t b = true ↔ ∀ r ∈ b, r.n ≤ getT r.d t := by
  unfold atT
  simp [List.all_eq_true]
theorem rowE_pos {r : Rw} (h : rowE r = 0) : checkD r.d = 0 ∧ 1 ≤ r.n := by
  unfold rowE at h
  by_cases h1 : checkD r.d = 0
  · rw [if_neg (by simp [h1])] at h
    by_cases h2 : r.n = 0
    · rw [if_pos h2] at h; simp at h
    · exact ⟨h1, by omega⟩
  · rw [if_pos h1] at h; exact absurd h h1
theorem at_refl {x : List Rw} (h : Good x) : atT x x = true := (atT_iff x x).2 fun r hr => by rw [getT_of h.2.2 hr rfl]; omega
theorem at_nil (x : List Rw) : atT x [] = true := rfl
theorem nil_at {x : List Rw} (h : Good x) : atT [] x = decide (x = []) := by
  cases x with
  | nil => rfl
  | cons r t =>
    have := (rowE_pos (h.2.1 r (by simp))).2
    have h2 : ¬ atT [] (r :: t) = true := fun e => by
      have := (atT_iff [] (r :: t)).1 e r (by simp)
      simp [getT] at this
      omega
    simp at h2 ⊢
    exact h2
theorem at_trans {x y z : List Rw} (hz : Good z) (h1 : atT x y = true) (h2 : atT y z = true) : atT x z = true := (atT_iff x z).2 fun r hr => by
  have k := (atT_iff y z).1 h2 r hr
  have hp := (rowE_pos (hz.2.1 r hr)).2
  obtain ⟨u, hu, hk, hn⟩ := getT_mem (t := y) (d := r.d) (by omega)
  have k2 := (atT_iff x y).1 h1 u hu
  have : ∀ t : List Rw, getT u.d t = getT r.d t := fun t => by
    induction t with
    | nil => rfl
    | cons w t ih => unfold getT; rw [ih, show keyD u.d = keyD r.d from hk]
  rw [this] at k2
  omega
theorem at_sub {x y : List Rw} (hx : Good x) (hy : Good y) (h1 : atT x y = true) (h2 : atT y x = true) : ∀ r ∈ y, r ∈ x := fun r hr => by
  have k := (atT_iff x y).1 h1 r hr
  obtain ⟨c1, c2⟩ := rowE_pos (hy.2.1 r hr)
  obtain ⟨u, hu, hk, hn⟩ := getT_mem (t := x) (d := r.d) (by omega)
  obtain ⟨c3, c4⟩ := rowE_pos (hx.2.1 u hu)
  have hd : r.d = u.d := (key_apart c1 c3 (r := []) (by rw [List.append_nil]; exact hk)).1
  have k2 := (atT_iff y x).1 h2 u hu
  rw [getT_of hy.2.2 hr (show keyD u.d = key r from hk)] at k2
  have : r = u := by cases r; cases u; simp at *; exact ⟨hd, by omega⟩
  rw [this]; exact hu
theorem at_same {x y : List Rw} (hx : Good x) (hy : Good y) (h1 : atT x y = true) (h2 : atT y x = true) : x = y := by
  refine sorted_eq hx.2.2 hy.2.2 ?_
  have nx : x.Nodup := hx.2.2.imp fun h e => by subst e; exact ltR_ne h rfl
  have ny : y.Nodup := hy.2.2.imp fun h e => by subst e; exact ltR_ne h rfl
  exact (List.perm_ext_iff_of_nodup nx ny).2 fun r => ⟨at_sub hy hx h2 h1 r, at_sub hx hy h1 h2 r⟩

end Go.Proofs.YtbebdaglkjhbjaaGreatDoor.tm

/-
  Rows of a table in memory: a slice of rows that is read, one of the call's own, append. (A row: a slice of entries, and a number: two cells. ty: the rows' type; for both the developers' and the document's.)
-/
namespace Go.Proofs.YtbebdaglkjhbjaaGreatDoor.tm
open Go.RowKit Go.Proofs.YtbebdaglkjhbjaaGreatDoor.tr Go.Proofs.YtbebdaglkjhbjaaGreatDoor.em
set_option linter.unusedVariables false
set_option linter.unusedSimpArgs false

instance : Inhabited Rw := ⟨⟨[], 0⟩⟩

/-- A slice of entries that is read, in a block of S. -/
def EsS (S : Nat → Prop) (w : World) (v : Value) (xs : List Ent) : Prop :=
  ∃ a cap, v = .slice a xs.length cap ∧ (xs = [] ∨ ∃ b off, a = some ⟨b, off, none⟩ ∧ S b ∧ xs.length ≤ cap ∧ cap ≤ maxLen ∧ ∀ (i : Nat) (x : Ent), xs[i]? = some x → w.cell? ⟨b, off + i * 2, none⟩ = some (.string x.key) ∧ w.cell? ⟨b, off + i * 2 + 1, none⟩ = some (.string x.value))

section
variable {S T : Nat → Prop} {w w' : World} {v : Value} {xs : List Ent}
theorem EsS.of {B : Nat} (h : Es B w v xs) : EsS (fun k => k < B) w v xs := h
theorem EsS.es (h : EsS S w v xs) : Es w.heap.size w v xs := by
  obtain ⟨a, cap, e, h⟩ := h
  refine ⟨a, cap, e, ?_⟩
  rcases h with h | ⟨b, off, h1, h2, h3, h4, h5⟩
  · exact .inl h
  · cases xs with
    | nil => exact .inl rfl
    | cons x r => exact .inr ⟨b, off, h1, World.block_lt_of_cell? w _ (h5 0 x rfl).1, h3, h4, h5⟩
theorem EsS.shape (h : EsS S w v xs) : ∃ a cap, v = .slice a xs.length cap := by obtain ⟨a, cap, e, -⟩ := h; exact ⟨a, cap, e⟩
theorem EsS.one (h : EsS S w v xs) : v.oneCell' = true := by obtain ⟨a, cap, rfl⟩ := h.shape; rfl
theorem EsS.kept (h : EsS S w v xs) (g : Chg T w w') (hT : ∀ k, S k → ¬ T k) : EsS S w' v xs := by
  obtain ⟨a, cap, e, h⟩ := h
  refine ⟨a, cap, e, ?_⟩
  rcases h with h | ⟨b, off, h1, h2, h3, h4, h5⟩
  · exact .inl h
  · exact .inr ⟨b, off, h1, h2, h3, h4, fun i x hx => ⟨g.cell (h5 i x hx).1 (hT b h2), g.cell (h5 i x hx).2 (hT b h2)⟩⟩
theorem EsS.grown (h : EsS S w v xs) (g : w.grownBy w' none) : EsS S w' v xs := h.kept (T := fun _ => False) (Chg.of_none g) (fun _ _ e => e)
theorem EsS.mono (h : EsS S w v xs) (hS : ∀ k, k < w.heap.size → S k → T k) : EsS T w v xs := by
  have hl := h.es
  obtain ⟨a, cap, e, h⟩ := h
  refine ⟨a, cap, e, ?_⟩
  rcases h with h | ⟨b, off, h1, h2, h3, h4, h5⟩
  · exact .inl h
  · cases xs with
    | nil => exact .inl rfl
    | cons x r => exact .inr ⟨b, off, h1, hS b (World.block_lt_of_cell? w _ (h5 0 x rfl).1) h2, h3, h4, h5⟩
end

/-- A slice of rows that is read: it, and all that stands in its rows, in blocks of S. -/
def Rs (S : Nat → Prop) (w : World) (v : Value) (rs : List Rw) : Prop :=
  ∃ a cap, v = .slice a rs.length cap ∧ (rs = [] ∨ ∃ b off, a = some ⟨b, off, none⟩ ∧ S b ∧ rs.length ≤ cap ∧ cap ≤ maxLen ∧ ∀ (i : Nat) (r : Rw), rs[i]? = some r → ∃ u, w.cell? ⟨b, off + i * 2, none⟩ = some u ∧ EsS S w u r.d ∧ w.cell? ⟨b, off + i * 2 + 1, none⟩ = some (.int .u64 (r.n : Nat)))

section
variable {S T : Nat → Prop} {w w' : World} {v : Value} {rs : List Rw}
theorem Rs.shape (h : Rs S w v rs) : ∃ a cap, v = .slice a rs.length cap := by obtain ⟨a, cap, e, -⟩ := h; exact ⟨a, cap, e⟩
theorem Rs.nil (S : Nat → Prop) (w : World) (a : Option Addr) (cap : Nat) : Rs S w (.slice a 0 cap) [] := ⟨a, cap, rfl, .inl rfl⟩
theorem Rs.kept (h : Rs S w v rs) (g : Chg T w w') (hT : ∀ k, S k → ¬ T k) : Rs S w' v rs := by
  obtain ⟨a, cap, e, h⟩ := h
  refine ⟨a, cap, e, ?_⟩
  rcases h with h | ⟨b, off, h1, h2, h3, h4, h5⟩
  · exact .inl h
  · exact .inr ⟨b, off, h1, h2, h3, h4, fun i r hr => by
      obtain ⟨u, k1, k2, k3⟩ := h5 i r hr
      exact ⟨u, g.cell k1 (hT b h2), k2.kept g hT, g.cell k3 (hT b h2)⟩⟩
theorem Rs.grown (h : Rs S w v rs) (g : w.grownBy w' none) : Rs S w' v rs := h.kept (T := fun _ => False) (Chg.of_none g) (fun _ _ e => e)
theorem Rs.low (h : Rs S w v rs) : Rs (fun k => k < w.heap.size) w v rs := by
  obtain ⟨a, cap, e, h⟩ := h
  refine ⟨a, cap, e, ?_⟩
  rcases h with h | ⟨b, off, h1, h2, h3, h4, h5⟩
  · exact .inl h
  · cases rs with
    | nil => exact .inl rfl
    | cons r t =>
      refine .inr ⟨b, off, h1, ?_, h3, h4, fun i r hr => ?_⟩
      · obtain ⟨u, k1, -, -⟩ := h5 0 r rfl
        exact World.block_lt_of_cell? w _ k1
      · obtain ⟨u, k1, k2, k3⟩ := h5 i r hr
        exact ⟨u, k1, EsS.of k2.es, k3⟩
theorem Rs.mono (h : Rs S w v rs) (hS : ∀ k, k < w.heap.size → S k → T k) : Rs T w v rs := by
  obtain ⟨a, cap, e, h⟩ := h
  refine ⟨a, cap, e, ?_⟩
  rcases h with h | ⟨b, off, h1, h2, h3, h4, h5⟩
  · exact .inl h
  · cases rs with
    | nil => exact .inl rfl
    | cons r t =>
      refine .inr ⟨b, off, h1, ?_, h3, h4, fun i r hr => ?_⟩
      · obtain ⟨u, k1, -, -⟩ := h5 0 r rfl
        exact hS b (World.block_lt_of_cell? w _ k1) h2
      · obtain ⟨u, k1, k2, k3⟩ := h5 i r hr
        exact ⟨u, k1, k2.mono hS, k3⟩
theorem Rs.at (h : Rs S w v rs) {i : Nat} {r : Rw} (hr : rs[i]? = some r) : ∃ b off cap u, v = .slice (some ⟨b, off, none⟩) rs.length cap ∧ S b ∧ rs.length ≤ cap ∧ cap ≤ maxLen ∧
    w.cell? ⟨b, off + i * 2, none⟩ = some u ∧ EsS S w u r.d ∧ w.cell? ⟨b, off + i * 2 + 1, none⟩ = some (.int .u64 (r.n : Nat)) := by
  obtain ⟨a, cap, e, h⟩ := h
  rcases h with rfl | ⟨b, off, rfl, h2, h3, h4, h5⟩
  · simp at hr
  · obtain ⟨u, k1, k2, k3⟩ := h5 i r hr
    exact ⟨b, off, cap, u, e, h2, h3, h4, k1, k2, k3⟩
theorem Rs.take {a : Option Addr} {n cap : Nat} (h : Rs S w (.slice a n cap) rs) (i : Nat) (hi : i ≤ n) : Rs S w (.slice a i cap) (rs.take i) := by
  obtain ⟨a', cap', e, h⟩ := h
  simp only [Value.slice.injEq] at e
  obtain ⟨rfl, rfl, rfl⟩ := e
  have hl : (rs.take i).length = i := by simp; omega
  refine ⟨a, cap, by rw [hl], ?_⟩
  rcases h with rfl | ⟨b, off, h1, h2, h3, h4, h5⟩
  · exact .inl (by simp)
  · refine .inr ⟨b, off, h1, h2, by omega, h4, fun j x hx => ?_⟩
    have hj : j < i := by have := (List.getElem?_eq_some_iff.1 hx).1; omega
    rw [List.getElem?_take, if_pos hj] at hx
    exact h5 j x hx
theorem Rs.drop {a : Option Addr} {n cap : Nat} (h : Rs S w (.slice a n cap) rs) (k : Nat) (hk : k ≤ n) (q : Option Addr) (hq : ∀ g off, a = some ⟨g, off, none⟩ → k < n → q = some ⟨g, off + k * 2, none⟩) : Rs S w (.slice q (n - k) (cap - k)) (rs.drop k) := by
  obtain ⟨a', cap', e, h⟩ := h
  simp only [Value.slice.injEq] at e
  obtain ⟨rfl, rfl, rfl⟩ := e
  refine ⟨q, cap - k, by rw [List.length_drop], ?_⟩
  rcases h with rfl | ⟨b, off, h1, h2, h3, h4, h5⟩
  · exact .inl (by simp)
  · by_cases hlt : k < rs.length
    · refine .inr ⟨b, off + k * 2, hq b off h1 hlt, h2, by rw [List.length_drop]; omega, by omega, fun j x hx => ?_⟩
      rw [List.getElem?_drop] at hx
      have := h5 _ _ hx
      rw [show off + (k + j) * 2 = off + k * 2 + j * 2 by omega] at this
      exact this
    · exact .inl (List.drop_eq_nil_of_le (by omega))
end

/-! The call's own -/
def flatR : List Rw → (Nat → Value) → List Value
  | [], _ => []
  | r :: t, uv => uv 0 :: .int .u64 (r.n : Nat) :: flatR t (fun i => uv (i + 1))
theorem flatR_len : ∀ (l : List Rw) (uv : Nat → Value), (flatR l uv).length = l.length * 2
  | [], _ => rfl
  | x :: r, uv => by simp [flatR, flatR_len r]; omega
theorem flatR_get : ∀ (l : List Rw) (uv : Nat → Value) (i : Nat) (x : Rw), l[i]? = some x → (flatR l uv)[i * 2]? = some (uv i) ∧ (flatR l uv)[i * 2 + 1]? = some (.int .u64 (x.n : Nat))
  | [], _, i, x, h => by simp at h
  | y :: r, uv, 0, x, h => by simp at h; subst h; exact ⟨rfl, rfl⟩
  | y :: r, uv, i + 1, x, h => by
    have := flatR_get r (fun i => uv (i + 1)) i x (by simpa using h)
    rw [show (i + 1) * 2 = i * 2 + 1 + 1 by omega]
    simpa [flatR] using this
theorem flatR_mem : ∀ (l : List Rw) (uv : Nat → Value) (j : Nat) (u : Value), (flatR l uv)[j]? = some u → ∃ i x, l[i]? = some x ∧ (j = i * 2 ∧ u = uv i ∨ j = i * 2 + 1 ∧ u = .int .u64 (x.n : Nat))
  | [], _, j, u, h => by simp [flatR] at h
  | y :: r, uv, 0, u, h => by simp [flatR] at h; exact ⟨0, y, rfl, .inl ⟨rfl, h.symm⟩⟩
  | y :: r, uv, 1, u, h => by simp [flatR] at h; exact ⟨0, y, rfl, .inr ⟨rfl, h.symm⟩⟩
  | y :: r, uv, j + 2, u, h => by
    obtain ⟨i, x, h1, h2⟩ := flatR_mem r (fun i => uv (i + 1)) j u (by simpa [flatR] using h)
    refine ⟨i + 1, x, by simpa using h1, ?_⟩
    rcases h2 with ⟨h2, h3⟩ | ⟨h2, h3⟩
    · exact .inl ⟨by omega, h3⟩
    · exact .inr ⟨by omega, h3⟩
theorem flatR_congr : ∀ (l : List Rw) (uv uv' : Nat → Value), (∀ i, i < l.length → uv i = uv' i) → flatR l uv = flatR l uv'
  | [], _, _, _ => rfl
  | x :: r, uv, uv', h => by
    simp only [flatR]
    rw [h 0 (by simp), flatR_congr r (fun i => uv (i + 1)) (fun i => uv' (i + 1)) (fun i hi => h (i + 1) (by simp; omega))]
theorem flatR_app : ∀ (a b : List Rw) (uv : Nat → Value), flatR (a ++ b) uv = flatR a uv ++ flatR b (fun i => uv (a.length + i))
  | [], b, uv => by simp [flatR]
  | x :: r, b, uv => by
    simp only [List.cons_append, flatR]
    rw [flatR_app r b (fun i => uv (i + 1))]
    congr 3
    exact flatR_congr b _ _ fun i _ => by rw [List.length_cons, show r.length + i + 1 = r.length + 1 + i by omega]

/-- Rows of the call's own; what stands in them lies in blocks of S, which are none of its own row. -/
def OwnR (ty : TypeId) (base : Nat) (S : Nat → Prop) (w : World) (v : Value) (rs : List Rw) : Prop :=
  ∃ uv : Nat → Value, w.ownsRow base ty 2 v rs.length (flatR rs uv) ∧ (∀ i r, rs[i]? = some r → EsS S w (uv i) r.d) ∧ (∀ k, S k → k < w.heap.size) ∧ (∀ k, v.ownBlock = some k → ¬ S k)

section
variable {ty : TypeId} {base : Nat} {S T : Nat → Prop} {w w' : World} {v : Value} {rs : List Rw}
theorem OwnR.nil (ty : TypeId) (base : Nat) (S : Nat → Prop) (w : World) (hS : ∀ k, S k → k < w.heap.size) : OwnR ty base S w (.slice none 0 0) [] :=
  ⟨fun _ => .nilIface, World.ownsRow_nil w base ty 2, fun i r h => by simp at h, hS, fun k e => by simp [Value.ownBlock] at e⟩
theorem OwnR.lt (h : OwnR ty base S w v rs) : ∀ k, v.ownBlock = some k → base ≤ k ∧ k < w.heap.size := by obtain ⟨uv, h1, -⟩ := h; exact World.ownsRow.lt h1
theorem OwnR.rd (h : OwnR ty base S w v rs) : Rs (fun k => S k ∨ v.ownBlock = some k) w v rs := by
  obtain ⟨uv, h1, h2, h3, h4⟩ := h
  rcases h1.2 with ⟨e, h0⟩ | ⟨g, cap, cur, e, hb, hg, hnc, hcm, hcs, htake⟩
  · have : rs = [] := List.length_eq_zero_iff.1 h0
    subst this e
    exact ⟨none, 0, rfl, .inl rfl⟩
  · subst e
    have hc := World.ownsRow.cells h1 (g := g) rfl
    have ha : ∀ j, (⟨g, 0, none⟩ : Addr).add j = ⟨g, 0 + j, none⟩ := fun j => Addr.add_lit ..
    simp only [ha] at hc
    refine ⟨_, _, rfl, .inr ⟨g, 0, rfl, .inr rfl, hnc, hcm, fun i r hr => ⟨uv i, hc _ _ (flatR_get rs uv i r hr).1, (h2 i r hr).mono fun k _ hk => .inl hk, by rw [Nat.add_assoc]; exact hc _ _ (flatR_get rs uv i r hr).2⟩⟩⟩
theorem OwnR.mono {base' : Nat} (h : OwnR ty base S w v rs) (hb : base' ≤ base) : OwnR ty base' S w v rs := by
  obtain ⟨uv, h1, h2⟩ := h; exact ⟨uv, World.ownsRow.mono h1 hb, h2⟩
theorem OwnR.grown (h : OwnR ty base S w v rs) (g : w.grownBy w' none) : OwnR ty base S w' v rs := by
  obtain ⟨uv, h1, h2, h3, h4⟩ := h
  exact ⟨uv, World.ownsRow.kept h1 g (by cases v.ownBlock <;> simp), fun i r hr => (h2 i r hr).grown g, fun k hk => Nat.lt_of_lt_of_le (h3 k hk) g.size, h4⟩
theorem OwnR.more (h : OwnR ty base S w v rs) (hS : ∀ k, S k → T k) (hT : ∀ k, T k → k < w.heap.size) (hv : ∀ k, v.ownBlock = some k → ¬ T k) : OwnR ty base T w v rs := by
  obtain ⟨uv, h1, h2, h3, h4⟩ := h
  exact ⟨uv, h1, fun i r hr => (h2 i r hr).mono fun k _ hk => hS k hk, hT, hv⟩
end

section
variable {P : Program}

/-- 'append(v, s...)' of rows that are read. -/
theorem run_append_rs (w : World) (sl ty tr : TypeId) (z : Value) (ht : P.underlying sl = some (.slice ty)) (hinfo : (P.info? ty).map (fun i => (i.zero, i.size, i.bytes)) = some (some z, 2, 32)) (hz2 : z.cells.size = 2)
    (base : Nat) (S S2 : Nat → Prop) (v : Value) (ts us : List Rw) (hown : OwnR ty base S w v ts) (x : Value) (hr : Rs S2 w x us) (hS2 : ∀ k, S2 k → k < w.heap.size) (hv2 : ∀ k, v.ownBlock = some k → ¬ S2 k) (hlen : ts.length + us.length ≤ 1000000) (hbase : base ≤ w.heap.size) :
    ∃ v' w', (Builtin.append_ #[sl, sl] tr #[v, x]).run P w = .ok v' w' ∧ OwnR ty base (fun k => S k ∨ S2 k) w' v' (ts ++ us) ∧ w.grownBy w' v.ownBlock := by
  obtain ⟨i, hi, hz, hsize, hby⟩ := info_parts hinfo
  have hown0 := hown
  obtain ⟨uv, h1, h2, h3, h4⟩ := hown
  obtain ⟨a, c, rfl, h⟩ := hr
  cases a with
  | none =>
    obtain rfl : us = [] := by
      rcases h with h | ⟨b, off, h, -⟩
      · exact h
      · cases h
    refine ⟨v, w, run_append_none (P := P) w base sl tr ty i 2 c ht hi v _ _ h1, ?_, ⟨rfl, rfl, rfl, Nat.le_refl _, fun _ _ _ => rfl⟩⟩
    rw [List.append_nil]
    exact hown0.more (fun k hk => .inl hk) (fun k hk => by rcases hk with hk | hk; exact h3 k hk; exact hS2 k hk) (fun k e hk => by rcases hk with hk | hk; exact h4 k e hk; exact hv2 k e hk)
  | some a =>
    -- what stands in the cells of the rows to be appended
    obtain ⟨uw, huw⟩ : ∃ uw : Nat → Value, ∀ k r, us[k]? = some r → w.cell? (a.add (k * 2)) = some (uw k) ∧ EsS S2 w (uw k) r.d ∧ w.cell? (a.add (k * 2 + 1)) = some (.int .u64 (r.n : Nat)) := by
      refine ⟨fun k => (w.cell? (a.add (k * 2))).getD undef, fun k r hk => ?_⟩
      rcases h with h | ⟨b, off, hb, -, -, -, h5⟩
      · rw [h] at hk; simp at hk
      · cases hb
        obtain ⟨u, k1, k2, k3⟩ := h5 k r hk
        have e0 : (⟨b, off, none⟩ : Addr).add (k * 2) = ⟨b, off + k * 2, none⟩ := Addr.add_lit ..
        have e1 : (⟨b, off, none⟩ : Addr).add (k * 2 + 1) = ⟨b, off + (k * 2 + 1), none⟩ := Addr.add_lit ..
        have e2 : (fun k => (w.cell? ((⟨b, off, none⟩ : Addr).add (k * 2))).getD undef) k = u := by
          show (w.cell? ((⟨b, off, none⟩ : Addr).add (k * 2))).getD undef = u
          rw [e0, k1]; rfl
        rw [e2, e0, e1]
        exact ⟨k1, k2, by rw [← Nat.add_assoc]; exact k3⟩
    obtain ⟨v', w', hrun, ho', g, _, hat⟩ := run_append_own_at (P := P) w base sl tr ty i z 2 32 ht hi hz hsize hby hz2 (by omega) v ts.length (flatR ts uv) h1 a us.length c (flatR us uw) (flatR_len us uw)
      (fun j u hj => by
        obtain ⟨k, r, k1, k2⟩ := flatR_mem us uw j u hj
        obtain ⟨m1, m2, m3⟩ := huw k r k1
        rcases k2 with ⟨rfl, rfl⟩ | ⟨rfl, rfl⟩
        · exact m1
        · exact m3)
      (fun u hu => by
        obtain ⟨j, hj⟩ := List.getElem?_of_mem hu
        obtain ⟨k, r, k1, k2⟩ := flatR_mem us uw j u hj
        rcases k2 with ⟨-, rfl⟩ | ⟨-, rfl⟩
        · exact (huw k r k1).2.1.one
        · rfl) (by unfold maxLen; omega) (by omega) hbase
    have hc : Chg (fun k => v.ownBlock = some k) w w' := Chg.of_grown g (fun k e => .inl e)
    refine ⟨v', w', hrun, ⟨fun k => if k < ts.length then uv k else uw (k - ts.length), ?_, ?_, ?_, ?_⟩, g⟩
    · rw [flatR_app, List.length_append, flatR_congr ts (fun k => if k < ts.length then uv k else uw (k - ts.length)) uv (fun k hk => if_pos hk), flatR_congr us (fun k => if ts.length + k < ts.length then uv (ts.length + k) else uw (ts.length + k - ts.length)) uw (fun k hk => by rw [if_neg (by omega), Nat.add_sub_cancel_left])]
      exact ho'
    · intro k r hk
      by_cases hkl : k < ts.length
      · rw [List.getElem?_append_left hkl] at hk
        show EsS _ w' (if k < ts.length then uv k else uw (k - ts.length)) _
        rw [if_pos hkl]
        exact ((h2 k r hk).kept hc (fun j hj e => h4 j e hj)).mono fun j _ hj => .inl hj
      · rw [List.getElem?_append_right (by omega)] at hk
        show EsS _ w' (if k < ts.length then uv k else uw (k - ts.length)) _
        rw [if_neg hkl]
        exact ((huw _ r hk).2.1.kept hc (fun j hj e => hv2 j e hj)).mono fun j _ hj => .inr hj
    · intro k hk
      have := g.size
      rcases hk with hk | hk
      · have := h3 k hk; omega
      · have := hS2 k hk; omega
    · intro k e hk
      rcases hat with hat | hat
      · rw [hat] at e
        rcases hk with hk | hk
        · exact h4 k e hk
        · exact hv2 k e hk
      · rw [hat] at e
        simp at e
        rcases hk with hk | hk
        · have := h3 k hk; omega
        · have := hS2 k hk; omega

/-- One row, in a block of its own. -/
theorem rs_one (w : World) (S : Nat → Prop) (u : Value) (r : Rw) (ty : TypeId) (h : EsS S w u r.d) : Rs (fun k => S k ∨ k = w.heap.size) (w.alloc (.cells #[u, .int .u64 (r.n : Nat)] ty)) (.slice (some ⟨w.heap.size, 0, none⟩) 1 1) [r] :=
  ⟨_, _, rfl, .inr ⟨w.heap.size, 0, rfl, .inr rfl, by simp, by unfold maxLen; omega, fun i y hy => by
    have : i = 0 := by have := (List.getElem?_eq_some_iff.1 hy).1; simp at this; omega
    subst this
    simp at hy; subst hy
    exact ⟨u, by rw [cell_new]; rfl, (h.grown (only_alloc (only_refl _ _) _)).mono fun k _ hk => .inl hk, by rw [cell_new]; rfl⟩⟩⟩

theorem wpList_append_rs {ops : Array Oper} {rest : List Oper} {o : Oper} {a : Act} {w : World} {Q : Exit → Act → World → Prop} (hgd : o.guard = none) (s x : Operand) (sl ty : TypeId)
    (ho : o.op = .call { callee := .builtin .append, args := #[s, x], argTypes := #[sl, sl] }) (z : Value) (ht : P.underlying sl = some (.slice ty)) (hinfo : (P.info? ty).map (fun i => (i.zero, i.size, i.bytes)) = some (some z, 2, 32)) (hz2 : z.cells.size = 2)
    (base : Nat) (S S2 : Nat → Prop) (v : Value) (ts us : List Rw) (hs : a.eval s = v) (hown : OwnR ty base S w v ts) (u : Value) (hx : a.eval x = u) (hr : Rs S2 w u us) (hS2 : ∀ k, S2 k → k < w.heap.size) (hv2 : ∀ k, v.ownBlock = some k → ¬ S2 k)
    (hlen : ts.length + us.length ≤ 1000000) (hbase : base ≤ w.heap.size)
    (h : ∀ v' w', OwnR ty base (fun k => S k ∨ S2 k) w' v' (ts ++ us) → w.grownBy w' v.ownBlock → wpList P ops Q rest (a.put o.dst v') w') :
    wpList P ops Q (o :: rest) a w :=
  wpList_plain hgd fun K hK => by
    obtain ⟨v', w', hr', h2, h3⟩ := run_append_rs (P := P) w sl ty o.type z ht hinfo hz2 base S S2 v ts us hown u hr hS2 hv2 hlen hbase
    unfold Oper.wp execOp
    simp only [ho, resolve, invoke, builtin, Sem.run_bind, Sem.run_pure, Result.andThen_ok, List.map_toArray, List.map_cons, List.map_nil, hs, hx, hr']
    exact hK _ _ (h v' w' h2 h3)

theorem step_append_rs {ops : Array Oper} {o : Oper} {a : Act} {w : World} {K : Act → World → Prop} {Q : Exit → Act → World → Prop} {E : Prop} (hgd : o.guard = none) (s x : Operand) (sl ty : TypeId)
    (ho : o.op = .call { callee := .builtin .append, args := #[s, x], argTypes := #[sl, sl] }) (z : Value) (ht : P.underlying sl = some (.slice ty)) (hinfo : (P.info? ty).map (fun i => (i.zero, i.size, i.bytes)) = some (some z, 2, 32)) (hz2 : z.cells.size = 2)
    (base : Nat) (S S2 : Nat → Prop) (v : Value) (ts us : List Rw) (hs : a.eval s = v) (hown : OwnR ty base S w v ts) (u : Value) (hx : a.eval x = u) (hr : Rs S2 w u us) (hS2 : ∀ k, S2 k → k < w.heap.size) (hv2 : ∀ k, v.ownBlock = some k → ¬ S2 k)
    (hlen : ts.length + us.length ≤ 1000000) (hbase : base ≤ w.heap.size)
    (h : ∀ v' w', OwnR ty base (fun k => S k ∨ S2 k) w' v' (ts ++ us) → w.grownBy w' v.ownBlock → K (a.put o.dst v') w') :
    if Region.wanted o (yielded ops a.tmps) = true then Oper.wp P o a w K Q else E := by
  have hw : Region.wanted o (yielded ops a.tmps) = true := by simp [Region.wanted, hgd]
  rw [if_pos hw]
  obtain ⟨v', w', hr', h2, h3⟩ := run_append_rs (P := P) w sl ty o.type z ht hinfo hz2 base S S2 v ts us hown u hr hS2 hv2 hlen hbase
  unfold Oper.wp execOp
  simp only [ho, resolve, invoke, builtin, Sem.run_bind, Sem.run_pure, Result.andThen_ok, List.map_toArray, List.map_cons, List.map_nil, hs, hx, hr']
  exact h v' w' h2 h3
end

end Go.Proofs.YtbebdaglkjhbjaaGreatDoor.tm

/-
  The document's texts that rise (layer 14): Common, One, Put, Next, All.
-/
namespace Go.Proofs.YtbebdaglkjhbjaaGreatDoor.rr
open Go.RowKit Go.Proofs.YtbebdaglkjhbjaaGreatDoor.vi Go.Proofs.YtbebdaglkjhbjaaGreatDoor.um Go.Proofs.YtbebdaglkjhbjaaGreatDoor.wm Go.Proofs.YtbebdaglkjhbjaaGreatDoor.tr Go.Proofs.YtbebdaglkjhbjaaGreatDoor.em Go.Proofs.YtbebdaglkjhbjaaGreatDoor.rm Go.Proofs.YtbebdaglkjhbjaaGreatDoor.fm Go.Proofs.YtbebdaglkjhbjaaGreatDoor.crc
set_option linter.unusedVariables false
set_option linter.unusedSimpArgs false

theorem com_drop (s t : ByteArray) (i : Nat) (hs : i < s.size) (ht : i < t.size) : com (s.data.toList.drop i) (t.data.toList.drop i) = if s[i] = t[i] then com (s.data.toList.drop (i + 1)) (t.data.toList.drop (i + 1)) + 1 else 0 := by
  rw [List.drop_eq_getElem_cons (i := i) (by simpa using hs), List.drop_eq_getElem_cons (i := i) (by simpa using ht)]
  rfl

set_option maxRecDepth 100000 in
theorem rcom_any (s t : ByteArray) (h1 : s.size ≤ 1000000) (h2 : t.size ≤ 1000000) (w : World) :
    Calls Tryz.prog 85 #[.string s, .string t] w fun e w' => e = .returned (.int .i64 (com s.data.toList t.data.toList : Nat)) ∧ w.grownBy w' none := by
  go_enter Tryz.func85, Tryz.ntmps85
  have H1 := Lib.hid (show s.data.toList.length = s.size by simp)
  have H2 := Lib.hid (show t.data.toList.length = t.size by simp)
  go_wp2_with fail
  go_loopw [5] (fun q wr => ∃ i : Nat, i ≤ s.size ∧ i ≤ t.size ∧ q = .int .i64 i ∧ com s.data.toList t.data.toList = i + com (s.data.toList.drop i) (t.data.toList.drop i) ∧ ∃ n, wr = w.drewN n) (fun q _ => s.size - (intOf q).toNat)
  case atStart => exact ⟨0, Nat.zero_le _, Nat.zero_le _, rfl, by simp, 0, rfl⟩
  case round =>
    obtain ⟨i, hi1, hi2, rfl, hL, n0, rfl⟩ := hrel
    by_cases hlt1 : i < s.size
    · by_cases hlt2 : i < t.size
      · have HD := Lib.hid (hL.trans (congrArg (i + ·) (com_drop s t i hlt1 hlt2)))
        clear hL
        have hc1 : (i : Int) < (s.size : Int) := by omega
        have hc2 : (i : Int) < (t.size : Int) := by omega
        by_cases hq : s[i] = t[i]
        · have HD2 : Hid (com s.data.toList t.data.toList = i + 1 + com (s.data.toList.drop (i + 1)) (t.data.toList.drop (i + 1))) := by
            show _ = _
            rw [HD.out, if_pos hq]; omega
          have hqi : (s[i].toNat : Int) = (t[i].toNat : Int) := by rw [hq]
          clear HD hq
          go_wp2_with fail
          go_quiet (fail)
          go_wp2_with fail
          go_roundw
          case rel => exact ⟨i + 1, by omega, by omega, by go_num, HD2.out, _, rfl⟩
          case measure => simp [intOf]; omega
        · have hqi : ¬ (s[i].toNat : Int) = (t[i].toNat : Int) := fun e => hq (UInt8.toNat_inj.1 (by omega))
          have HD2 : Hid (com s.data.toList t.data.toList = i) := by
            show _ = _
            rw [HD.out, if_neg hq]; rfl
          clear HD hq
          go_wp2_with fail
          go_quiet (fail)
          go_wp2_with fail
          go_ret
          rw [HD2.out]
          exact ⟨rfl, only_drewN (only_drewN (only_refl _ _) _) _⟩
      · have hie : i = t.size := by omega
        have HD : Hid (com s.data.toList t.data.toList = i) := by
          show _ = _
          rw [hL, show t.data.toList.drop i = [] from List.drop_eq_nil_of_le (by rw [H2.out]; omega)]
          cases s.data.toList.drop i <;> rfl
        have hc1 : (i : Int) < (s.size : Int) := by omega
        have hc2 : ¬ (i : Int) < (t.size : Int) := by omega
        have hmin : min (s.size : Int) (t.size : Int) = (i : Int) := by omega
        clear hL
        subst hie
        go_wp2_with fail
        go_ret
        rw [HD.out]
        exact ⟨rfl, only_drewN (only_refl _ _) _⟩
    · have hie : i = s.size := by omega
      have HD : Hid (com s.data.toList t.data.toList = i) := by
        show _ = _
        rw [hL, show s.data.toList.drop i = [] from List.drop_eq_nil_of_le (by rw [H1.out]; omega)]
        cases t.data.toList.drop i <;> rfl
      have hc1 : ¬ (i : Int) < (s.size : Int) := by omega
      have hmin : min (s.size : Int) (t.size : Int) = (i : Int) := by omega
      clear hL
      subst hie
      go_wp2_with fail
      go_ret
      rw [HD.out]
      exact ⟨rfl, only_drewN (only_refl _ _) _⟩

theorem oneP_txt (s : ByteArray) (a : List UInt8) : encB (com a s.data.toList) ++ encB (s.size - com a s.data.toList) ++ s.extract (com a s.data.toList) s.size = txt (oneP a s.data.toList) := by
  rw [← txt_rest]
  apply ByteArray.ext
  simp [oneP, txt, encB_txt]

set_option maxHeartbeats 1000000 in
set_option maxRecDepth 100000 in
theorem rone_any (a s : ByteArray) (h1 : a.size ≤ 1000000) (h2 : s.size ≤ 1000000) (w : World) :
    Calls Tryz.prog 80 #[.string a, .string s] w fun e w' => e = .returned (.string (txt (oneP a.data.toList s.data.toList))) ∧ w.grownBy w' none := by
  have HC := Lib.hid (fun w => rcom_any a s h1 h2 w)
  have HT := Lib.hid (oneP_txt s a.data.toList)
  have hk := (com_le a.data.toList s.data.toList).2
  have hl : s.data.toList.length = s.size := by simp
  rw [hl] at hk
  clear hl
  generalize com a.data.toList s.data.toList = k at *
  have HK := Lib.hid (fun w1 => rput_any k (by omega) w1)
  have HV := Lib.hid (fun w1 => rput_any (s.size - k) (by omega) w1)
  have hz1 : (encB k).size ≤ 10 := by rw [encB_txt, txt_size]; exact enc_len_ten (by omega)
  have hz2 : (encB (s.size - k)).size ≤ 10 := by rw [encB_txt, txt_size]; exact enc_len_ten (by omega)
  have hsub : (s.size : Int) - (k : Int) = ((s.size - k : Nat) : Int) := by omega
  generalize encB k = E1 at *
  generalize encB (s.size - k) = E2 at *
  go_enter Tryz.func80, Tryz.ntmps80
  go_wp2_with fail
  refine (HC.out _).mono ?_
  rintro e w1 ⟨rfl, g1⟩
  have G1 := Lib.hid g1
  clear g1
  go_wp2_with fail
  refine wp_region_gw w1 none (by kernel_rfl) (by kernel_rfl) (only_refl _ _) ?_
  repeat (go_big_quiet_step ((go_at_call 79; first | with_reducible exact calls_gw (HK.out _) | with_reducible exact calls_gw (HV.out _))))
  refine wpQuiet_nil ?_
  rintro _ ⟨⟨w', hw'⟩, rfl⟩
  go_wp2_with fail
  go_ret
  exact ⟨ret1 (congrArg Value.string HT.out), only_trans G1.out hw'⟩

theorem lt_dec (a b : ByteArray) : decide (cmpB a b < 0) = lt a.data.toList b.data.toList := by
  unfold lt
  cases h : Op.bytesLess a.data.toList b.data.toList with
  | true => exact decide_eq_true ((cmpB_lt a b).2 h)
  | false => exact decide_eq_false fun e => by rw [(cmpB_lt a b).1 e] at h; cases h

/-- Texts as lists of bytes. -/
def ls (xs : List ByteArray) : List Bs := xs.map fun x => x.data.toList
def glP (acc : Bs) (r : Bs × Nat) : Bs × Nat := if r.2 ≠ 0 then ([], r.2) else (acc ++ r.1, 0)
theorem glP_nil (r : Bs × Nat) (h : r.2 ≠ 0 → r.1 = []) : r = glP [] r := by
  obtain ⟨a, b⟩ := r
  unfold glP
  simp only at *
  split
  · rename_i h0; rw [h h0]
  · rename_i h0
    have : b = 0 := by omega
    subst this; rfl
theorem glP_step (acc : Bs) (p : Option Bs) (s : Bs) (r : List Bs) : glP acc (putP p (s :: r)) = if p.any (fun a => lt a s == false) = true then ([], 7) else glP (acc ++ oneP (p.getD []) s) (putP (some s) r) := by
  rw [putP_cons]
  by_cases h1 : p.any (fun a => lt a s == false) = true
  · rw [if_pos h1, if_pos h1]; rfl
  · rw [if_neg h1, if_neg h1]
    by_cases h2 : (putP (some s) r).2 = 0 <;> simp [glP, h2]

def prv (xs : List ByteArray) : Nat → Option Bs
  | 0 => none
  | j + 1 => (xs[j]?).map fun x => x.data.toList
theorem ls_drop {xs : List ByteArray} {i : Nat} {x : ByteArray} (h : xs[i]? = some x) : ls (xs.drop i) = x.data.toList :: ls (xs.drop (i + 1)) := by
  obtain ⟨hi, rfl⟩ := List.getElem?_eq_some_iff.1 h
  rw [List.drop_eq_getElem_cons hi]; rfl
theorem oneP_len (a s : Bs) (hs : s.length ≤ 1000000) : (oneP a s).length ≤ s.length + 20 := by
  have hc := (com_le a s).2
  have e1 : (enc (com a s)).length ≤ 10 := enc_len_ten (by omega)
  have e2 : (enc (s.length - com a s)).length ≤ 10 := enc_len_ten (by omega)
  unfold oneP
  simp only [List.length_append, List.length_drop]
  omega

end Go.Proofs.YtbebdaglkjhbjaaGreatDoor.rr

/-
  The document's texts that rise: what stands next (layer 14).
-/
namespace Go.Proofs.YtbebdaglkjhbjaaGreatDoor.rr
open Go.RowKit Go.Proofs.YtbebdaglkjhbjaaGreatDoor.vi Go.Proofs.YtbebdaglkjhbjaaGreatDoor.um Go.Proofs.YtbebdaglkjhbjaaGreatDoor.wm Go.Proofs.YtbebdaglkjhbjaaGreatDoor.tr Go.Proofs.YtbebdaglkjhbjaaGreatDoor.em Go.Proofs.YtbebdaglkjhbjaaGreatDoor.rm Go.Proofs.YtbebdaglkjhbjaaGreatDoor.fm Go.Proofs.YtbebdaglkjhbjaaGreatDoor.crc
set_option linter.unusedVariables false
set_option linter.unusedSimpArgs false

theorem nextP_eq (s a : ByteArray) (first : Bool) {k i e n j e2 : Nat} (h1 : getR s.data.toList = (k, i, e)) (h2 : getR (s.data.toList.drop i) = (n, j, e2)) : nextP s.data.toList a.data.toList first =
    if e ≠ 0 then ([], [], e)
    else if (first = true ∧ k ≠ 0) ∨ a.size < k then ([], [], 23)
    else if e2 ≠ 0 then ([], [], e2)
    else if s.size - (i + j) < n then ([], [], 1)
    else if first = false ∧ lt a.data.toList (a.data.toList.take k ++ (s.data.toList.drop (i + j)).take n) = false then ([], [], 7)
    else if first = false ∧ com a.data.toList (a.data.toList.take k ++ (s.data.toList.drop (i + j)).take n) ≠ k then ([], [], 23)
    else (a.data.toList.take k ++ (s.data.toList.drop (i + j)).take n, s.data.toList.drop (i + j + n), 0) := by
  have l1 : s.data.toList.length = s.size := by simp
  have l2 : a.data.toList.length = a.size := by simp
  unfold nextP
  rw [h1]
  simp only
  rw [h2]
  simp only [l1, l2]

set_option maxHeartbeats 4000000 in
set_option maxRecDepth 100000 in
theorem rnext_more (s a : ByteArray) (hs : s.size ≤ 1000000) (ha : a.size ≤ 1000000) (hsa : s.size + a.size ≤ 1000000) (w : World) :
    Calls Tryz.prog 53 #[.string s, .string a, .bool false] w fun e w' => e = .returned (.tuple #[.string (txt (nextP s.data.toList a.data.toList false).1), .string (txt (nextP s.data.toList a.data.toList false).2.1), .int .i64 ((nextP s.data.toList a.data.toList false).2.2 : Nat)]) ∧ w.grownBy w' none := by
  have HG := Lib.hid (rget_any s (by unfold maxLen; omega) w)
  have hb := getR_bounds s.data.toList
  have hl : s.data.toList.length = s.size := by simp
  cases hr : getR s.data.toList with
  | mk k r =>
  obtain ⟨i, e⟩ := r
  rw [hr] at hb HG
  unfold getV at HG
  simp only at hb HG
  rw [hl] at hb
  obtain ⟨hk, hi, hi10, hE, -⟩ := hb
  have HG2 : Hid (∀ w, Calls Tryz.prog 52 #[.string (s.extract i s.size)] w fun e w' => e = .returned (getV (getR (s.data.toList.drop i))) ∧ w = w') := by
    show ∀ w, _
    intro w
    rw [← txt_rest]
    exact rget_any (txt (s.data.toList.drop i)) (by rw [txt_size]; simp; unfold maxLen; omega) w
  have hb2 := getR_bounds (s.data.toList.drop i)
  cases hr2 : getR (s.data.toList.drop i) with
  | mk n r2 =>
  obtain ⟨j, e2⟩ := r2
  rw [hr2] at hb2 HG2
  unfold getV at HG2
  simp only at hb2 HG2
  rw [List.length_drop, hl] at hb2
  obtain ⟨hn, hj, hj10, hE2, -⟩ := hb2
  have HR := Lib.hid (nextP_eq s a false hr hr2)
  generalize nextP s.data.toList a.data.toList false = R at *
  clear hl hr hr2
  by_cases h0 : e = 0
  · subst h0
    have HR0 := Lib.hid (HR.out.trans (if_neg (by simp)))
    clear HR
    by_cases h1 : a.size < k
    · have HR1 := Lib.hid (HR0.out.trans (if_pos (.inr h1)))
      clear HR0
      go_enter Tryz.func53, Tryz.ntmps53
      go_wp2_with fail
      refine HG.out.mono ?_
      rintro e w1 ⟨rfl, rfl⟩
      go_wp2_with fail
      go_ret3
      rw [HR1.out]
      exact ⟨rfl, only_refl _ _⟩
    · have HR1 := Lib.hid (HR0.out.trans (if_neg (by simp [h1])))
      clear HR0
      by_cases h2 : e2 = 0
      · subst h2
        have HR2 := Lib.hid (HR1.out.trans (if_neg (by simp)))
        clear HR1
        by_cases h3 : s.size - (i + j) < n
        · have HR3 := Lib.hid (HR2.out.trans (if_pos h3))
          clear HR2
          have hi3 : (s.size : Int) - ((i : Int) + j) < n := by omega
          have hij : (i : Int) + j ≤ s.size := by omega
          go_enter Tryz.func53, Tryz.ntmps53
          go_wp2_with fail
          refine HG.out.mono ?_
          rintro e w1 ⟨rfl, rfl⟩
          go_wp2_with fail
          refine (HG2.out _).mono ?_
          rintro e w1 ⟨rfl, rfl⟩
          go_wp2_with fail
          go_ret3
          rw [HR3.out]
          exact ⟨rfl, only_refl _ _⟩
        · have HR3 := Lib.hid (HR2.out.trans (if_neg h3))
          clear HR2
          have hi3 : ¬ (s.size : Int) - ((i : Int) + j) < n := by omega
          have hij : (i : Int) + j ≤ s.size := by omega
          go_enter Tryz.func53, Tryz.ntmps53
          go_wp2_with fail
          refine HG.out.mono ?_
          rintro e w1 ⟨rfl, rfl⟩
          go_wp2_with fail
          refine (HG2.out _).mono ?_
          rintro e w1 ⟨rfl, rfl⟩
          go_wp2_with fail
          rw [show (i : Int) + (j : Int) = ((i + j : Nat) : Int) from rfl]
          have HM : Hid (a.extract 0 k ++ s.extract (i + j) (i + j + n) = txt (a.data.toList.take k ++ (s.data.toList.drop (i + j)).take n)) := by
            show _ = _
            rw [← txt_append, txt_ext s (i + j) n]
            exact congrArg (· ++ _) (by have := txt_ext a 0 k; rw [List.drop_zero, Nat.zero_add] at this; exact this.symm)
          have HZ := Lib.hid (txt_rest s (i + j + n))
          have hpq : i + j + n ≤ s.size := by omega
          have hml : (a.data.toList.take k ++ (s.data.toList.drop (i + j)).take n).length ≤ 1000000 := by
            have e1 : a.data.toList.length = a.size := by simp
            have e2 : s.data.toList.length = s.size := by simp
            rw [List.length_append, List.length_take, List.length_take, List.length_drop]; omega
          have hz1 : (a.extract 0 k).size ≤ 1000000 := by rw [ByteArray.size_extract]; omega
          have hz2 : (s.extract (i + j) (i + j + n)).size ≤ 1000000 := by rw [ByteArray.size_extract]; omega
          generalize a.data.toList.take k ++ (s.data.toList.drop (i + j)).take n = M at *
          have hka : (k : Int) ≤ a.size := by omega
          generalize s.data.toList.drop (i + j + n) = Z at *
          generalize i + j = p at *
          have f1 : (0 : Int) ≤ (p : Int) + (n : Int) := by omega
          have f2 : (p : Int) + (n : Int) ≤ (s.size : Int) := by omega
          have f3 : (p : Int) ≤ (p : Int) + (n : Int) := by omega
          have f4 : ((p : Int) + (n : Int)).toNat = p + n := by omega
          have HL := Lib.hid (fun w => dr.rless12_any a (txt M) (by omega) (by rw [txt_size]; omega) w)
          rw [lt_dec] at HL
          have HCM := Lib.hid (fun w => rcom_any a (txt M) (by omega) (by rw [txt_size]; omega) w)
          have HL2 : Hid (∀ w, Calls Tryz.prog 78 #[.string a, .string (txt M)] w fun e w' => e = .returned (.bool (lt a.data.toList M)) ∧ w.grownBy w' none) := HL.out
          have HCM2 : Hid (∀ w, Calls Tryz.prog 85 #[.string a, .string (txt M)] w fun e w' => e = .returned (.int .i64 (com a.data.toList M : Nat)) ∧ w.grownBy w' none) := HCM.out
          clear HL HCM
          have hcl := (com_le a.data.toList M).1
          have hal : a.data.toList.length = a.size := by simp
          rw [hal] at hcl
          clear hal
          have hws : IntKind.i64.wrap ((p : Int) + (n : Int)) = (p : Int) + (n : Int) := by rw [IntKind.wrap_i64]; omega
          have hwn : IntKind.i64.wrap (n : Int) = (n : Int) := by rw [IntKind.wrap_i64]; omega
          have hcc : ¬ 9223372036854775807 < min k a.size + n := by omega
          have hwk : IntKind.i64.wrap (k : Int) = (k : Int) := by rw [IntKind.wrap_i64]; omega
          go_quiet (fail)
          clear hwn hws hwk hcc
          rw [HM.out]
          go_wp2_with fail
          cases hlt : lt a.data.toList M with
          | false =>
            have HR4 := Lib.hid (HR3.out.trans (if_pos (by simp [hlt])))
            rw [hlt] at HL2
            refine (HL2.out _).mono ?_
            rintro e w1 ⟨rfl, g1⟩
            go_wp2_with fail
            go_ret3
            rw [HR4.out]
            exact ⟨rfl, only_trans (only_drewN (only_refl _ _) _) g1⟩
          | true =>
            have HR4 := Lib.hid (HR3.out.trans (if_neg (by simp [hlt])))
            rw [hlt] at HL2
            refine (HL2.out _).mono ?_
            rintro e w1 ⟨rfl, g1⟩
            have G1 := Lib.hid (only_trans (only_drewN (only_refl w none) nq) g1)
            clear g1 hlt HR3
            by_cases hq : com a.data.toList M = k
            · have HR5 := Lib.hid (HR4.out.trans (if_neg (by simp [hq])))
              generalize com a.data.toList M = c at *
              subst hq
              have hwk : IntKind.i64.wrap (c : Int) = (c : Int) := by rw [IntKind.wrap_i64]; omega
              go_wp2_with fail
              refine (HCM2.out _).mono ?_
              rintro e wb ⟨rfl, g2⟩
              have HW := Lib.hid (only_trans G1.out g2)
              clear g2
              go_wp2_with fail
              clear hwk
              have hws : IntKind.i64.wrap ((p : Int) + (n : Int)) = (p : Int) + (n : Int) := by rw [IntKind.wrap_i64]; omega
              have hwn : IntKind.i64.wrap (n : Int) = (n : Int) := by rw [IntKind.wrap_i64]; omega
              go_quiet (fail)
              clear hws hwn
              go_wp2_with fail
              go_ret3
              rw [HR5.out]
              exact ⟨ret3 rfl (congrArg Value.string HZ.out.symm) rfl, only_drewN HW.out _⟩
            · have HR5 := Lib.hid (HR4.out.trans (if_pos (by simp [hq])))
              generalize com a.data.toList M = c at *
              have hne : ((c : Int) != (k : Int)) = true := by rw [bne_iff_ne]; omega
              have hwk : IntKind.i64.wrap (k : Int) = (k : Int) := by rw [IntKind.wrap_i64]; omega
              go_wp2_with fail
              refine (HCM2.out _).mono ?_
              rintro e wb ⟨rfl, g2⟩
              have HW := Lib.hid (only_trans G1.out g2)
              clear g2 hwk
              go_wp2_with fail
              go_ret3
              rw [HR5.out]
              exact ⟨rfl, HW.out⟩
      · have HR2 := Lib.hid (HR1.out.trans (if_pos h2))
        clear HR1
        have hqb : ((e2 : Int) != 0) = true := by rw [bne_iff_ne]; omega
        go_enter Tryz.func53, Tryz.ntmps53
        go_wp2_with fail
        refine HG.out.mono ?_
        rintro e w1 ⟨rfl, rfl⟩
        go_wp2_with fail
        refine (HG2.out _).mono ?_
        rintro e w1 ⟨rfl, rfl⟩
        go_wp2_with fail
        go_ret3
        rw [HR2.out]
        exact ⟨rfl, only_refl _ _⟩
  · have HR1 := Lib.hid (HR.out.trans (if_pos h0))
    clear HR
    have hqb : ((e : Int) != 0) = true := by rw [bne_iff_ne]; omega
    clear h0
    go_enter Tryz.func53, Tryz.ntmps53
    go_wp2_with fail
    refine HG.out.mono ?_
    rintro e w1 ⟨rfl, rfl⟩
    go_wp2_with fail
    go_ret3
    rw [HR1.out]
    exact ⟨rfl, only_refl _ _⟩

set_option maxHeartbeats 4000000 in
set_option maxRecDepth 100000 in
theorem rnext_first (s a : ByteArray) (hs : s.size ≤ 1000000) (ha : a.size ≤ 1000000) (hsa : s.size + a.size ≤ 1000000) (w : World) :
    Calls Tryz.prog 53 #[.string s, .string a, .bool true] w fun e w' => e = .returned (.tuple #[.string (txt (nextP s.data.toList a.data.toList true).1), .string (txt (nextP s.data.toList a.data.toList true).2.1), .int .i64 ((nextP s.data.toList a.data.toList true).2.2 : Nat)]) ∧ w.grownBy w' none := by
  have HG := Lib.hid (rget_any s (by unfold maxLen; omega) w)
  have hb := getR_bounds s.data.toList
  have hl : s.data.toList.length = s.size := by simp
  cases hr : getR s.data.toList with
  | mk k r =>
  obtain ⟨i, e⟩ := r
  rw [hr] at hb HG
  unfold getV at HG
  simp only at hb HG
  rw [hl] at hb
  obtain ⟨hk, hi, hi10, hE, -⟩ := hb
  have HG2 : Hid (∀ w, Calls Tryz.prog 52 #[.string (s.extract i s.size)] w fun e w' => e = .returned (getV (getR (s.data.toList.drop i))) ∧ w = w') := by
    show ∀ w, _
    intro w
    rw [← txt_rest]
    exact rget_any (txt (s.data.toList.drop i)) (by rw [txt_size]; simp; unfold maxLen; omega) w
  have hb2 := getR_bounds (s.data.toList.drop i)
  cases hr2 : getR (s.data.toList.drop i) with
  | mk n r2 =>
  obtain ⟨j, e2⟩ := r2
  rw [hr2] at hb2 HG2
  unfold getV at HG2
  simp only at hb2 HG2
  rw [List.length_drop, hl] at hb2
  obtain ⟨hn, hj, hj10, hE2, -⟩ := hb2
  have HR := Lib.hid (nextP_eq s a true hr hr2)
  generalize nextP s.data.toList a.data.toList true = R at *
  clear hl hr hr2
  by_cases h0 : e = 0
  · subst h0
    have HR0 := Lib.hid (HR.out.trans (if_neg (by simp)))
    clear HR
    by_cases h1 : k ≠ 0
    · have HR1 := Lib.hid (HR0.out.trans (if_pos (.inl ⟨rfl, h1⟩)))
      clear HR0
      have hqb : ((k : Int) != 0) = true := by rw [bne_iff_ne]; omega
      go_enter Tryz.func53, Tryz.ntmps53
      go_wp2_with fail
      refine HG.out.mono ?_
      rintro e w1 ⟨rfl, rfl⟩
      go_wp2_with fail
      go_ret3
      rw [HR1.out]
      exact ⟨rfl, only_refl _ _⟩
    · obtain rfl : k = 0 := by omega
      clear h1
      have HR1 := Lib.hid (HR0.out.trans (if_neg (by simp)))
      clear HR0
      by_cases h2 : e2 = 0
      · subst h2
        have HR2 := Lib.hid (HR1.out.trans (if_neg (by simp)))
        clear HR1
        by_cases h3 : s.size - (i + j) < n
        · have HR3 := Lib.hid (HR2.out.trans (if_pos h3))
          clear HR2
          have hi3 : (s.size : Int) - ((i : Int) + j) < n := by omega
          have hij : (i : Int) + j ≤ s.size := by omega
          go_enter Tryz.func53, Tryz.ntmps53
          go_wp2_with fail
          refine HG.out.mono ?_
          rintro e w1 ⟨rfl, rfl⟩
          go_wp2_with fail
          refine (HG2.out _).mono ?_
          rintro e w1 ⟨rfl, rfl⟩
          go_wp2_with fail
          go_ret3
          rw [HR3.out]
          exact ⟨rfl, only_refl _ _⟩
        · have HR3 := Lib.hid (HR2.out.trans (if_neg h3))
          clear HR2
          have hi3 : ¬ (s.size : Int) - ((i : Int) + j) < n := by omega
          have hij : (i : Int) + j ≤ s.size := by omega
          have HR4 := Lib.hid (HR3.out.trans (if_neg (by simp)))
          have HR5 := Lib.hid (HR4.out.trans (if_neg (by simp)))
          clear HR3 HR4
          go_enter Tryz.func53, Tryz.ntmps53
          go_wp2_with fail
          refine HG.out.mono ?_
          rintro e w1 ⟨rfl, rfl⟩
          go_wp2_with fail
          refine (HG2.out _).mono ?_
          rintro e w1 ⟨rfl, rfl⟩
          go_wp2_with fail
          rw [show (i : Int) + (j : Int) = ((i + j : Nat) : Int) from rfl]
          have HM : Hid (s.extract (i + j) (i + j + n) = txt (a.data.toList.take 0 ++ (s.data.toList.drop (i + j)).take n)) := by
            show _ = _
            rw [List.take_zero, List.nil_append, txt_ext s (i + j) n]
          have HZ := Lib.hid (txt_rest s (i + j + n))
          have hpq : i + j + n ≤ s.size := by omega
          have hml : (a.data.toList.take 0 ++ (s.data.toList.drop (i + j)).take n).length ≤ 1000000 := by
            have e1 : a.data.toList.length = a.size := by simp
            have e2 : s.data.toList.length = s.size := by simp
            rw [List.length_append, List.length_take, List.length_take, List.length_drop]; omega
          have hz1 : (a.extract 0 0).size ≤ 1000000 := by rw [ByteArray.size_extract]; omega
          have hz2 : (s.extract (i + j) (i + j + n)).size ≤ 1000000 := by rw [ByteArray.size_extract]; omega
          generalize a.data.toList.take 0 ++ (s.data.toList.drop (i + j)).take n = M at *
          generalize s.data.toList.drop (i + j + n) = Z at *
          generalize i + j = p at *
          have f1 : (0 : Int) ≤ (p : Int) + (n : Int) := by omega
          have f2 : (p : Int) + (n : Int) ≤ (s.size : Int) := by omega
          have f3 : (p : Int) ≤ (p : Int) + (n : Int) := by omega
          have f4 : ((p : Int) + (n : Int)).toNat = p + n := by omega
          have hcc : ¬ 9223372036854775807 < n := by omega
          have hws : IntKind.i64.wrap ((p : Int) + (n : Int)) = (p : Int) + (n : Int) := by rw [IntKind.wrap_i64]; omega
          have hwn : IntKind.i64.wrap (n : Int) = (n : Int) := by rw [IntKind.wrap_i64]; omega
          have hw0 : IntKind.i64.wrap 0 = 0 := by rw [IntKind.wrap_i64]; omega
          go_quiet (fail)
          clear hcc
          go_wp2_with fail
          go_quiet (fail)
          clear hwn hws hw0
          go_wp2_with fail
          go_ret3
          rw [HR5.out]
          exact ⟨ret3 (congrArg Value.string HM.out) (congrArg Value.string HZ.out.symm) rfl, by first | exact only_drewN (only_refl _ _) _ | exact only_drewN (only_drewN (only_refl _ _) _) _⟩
      · have HR2 := Lib.hid (HR1.out.trans (if_pos h2))
        clear HR1
        have hqb : ((e2 : Int) != 0) = true := by rw [bne_iff_ne]; omega
        go_enter Tryz.func53, Tryz.ntmps53
        go_wp2_with fail
        refine HG.out.mono ?_
        rintro e w1 ⟨rfl, rfl⟩
        go_wp2_with fail
        refine (HG2.out _).mono ?_
        rintro e w1 ⟨rfl, rfl⟩
        go_wp2_with fail
        go_ret3
        rw [HR2.out]
        exact ⟨rfl, only_refl _ _⟩
  · have HR1 := Lib.hid (HR.out.trans (if_pos h0))
    clear HR
    have hqb : ((e : Int) != 0) = true := by rw [bne_iff_ne]; omega
    clear h0
    go_enter Tryz.func53, Tryz.ntmps53
    go_wp2_with fail
    refine HG.out.mono ?_
    rintro e w1 ⟨rfl, rfl⟩
    go_wp2_with fail
    go_ret3
    rw [HR1.out]
    exact ⟨rfl, only_refl _ _⟩

end Go.Proofs.YtbebdaglkjhbjaaGreatDoor.rr

/-
  The document's texts that rise: all of them (layer 14).
-/
namespace Go.Proofs.YtbebdaglkjhbjaaGreatDoor.rr
open Go.RowKit Go.Proofs.YtbebdaglkjhbjaaGreatDoor.vi Go.Proofs.YtbebdaglkjhbjaaGreatDoor.um Go.Proofs.YtbebdaglkjhbjaaGreatDoor.wm Go.Proofs.YtbebdaglkjhbjaaGreatDoor.tr Go.Proofs.YtbebdaglkjhbjaaGreatDoor.em Go.Proofs.YtbebdaglkjhbjaaGreatDoor.rm Go.Proofs.YtbebdaglkjhbjaaGreatDoor.fm Go.Proofs.YtbebdaglkjhbjaaGreatDoor.crc
set_option linter.unusedVariables false
set_option linter.unusedSimpArgs false

theorem rnext_txt (L A : Bs) (f : Bool) (h : L.length + A.length ≤ 1000000) (w : World) :
    Calls Tryz.prog 53 #[.string (txt L), .string (txt A), .bool f] w fun e w' => e = .returned (.tuple #[.string (txt (nextP L A f).1), .string (txt (nextP L A f).2.1), .int .i64 ((nextP L A f).2.2 : Nat)]) ∧ w.grownBy w' none := by
  cases f with
  | false => exact rnext_more (txt L) (txt A) (by rw [txt_size]; omega) (by rw [txt_size]; omega) (by rw [txt_size, txt_size]; omega) w
  | true => exact rnext_first (txt L) (txt A) (by rw [txt_size]; omega) (by rw [txt_size]; omega) (by rw [txt_size, txt_size]; omega) w

theorem nextP_len {L a : Bs} {first : Bool} (h : (nextP L a first).2.2 = 0) : (nextP L a first).1.length + (nextP L a first).2.1.length ≤ a.length + L.length ∧ (nextP L a first).2.1.length < L.length := by
  have h1 := congrArg List.length (nextP_ok h).1
  rw [List.length_append] at h1
  have h2 := oneP_pos (if first then [] else a) (nextP L a first).1
  have h3 : (nextP L a first).1.length ≤ (oneP (if first then [] else a) (nextP L a first).1).length + a.length := by
    have hc := (com_le (if first then [] else a) (nextP L a first).1).1
    have ha : (if first = true then [] else a).length ≤ a.length := by split <;> simp
    unfold oneP
    simp only [List.length_append, List.length_drop]
    omega
  omega

theorem nextP_code (L a : Bs) (first : Bool) : (nextP L a first).2.2 ≤ 23 := by
  have h1 := getR_bounds L
  have h2 := getR_bounds (L.drop (getR L).2.1)
  unfold nextP
  split
  · simp only; omega
  · split
    · simp
    · split
      · simp only; omega
      · split
        · simp
        · split
          · simp
          · split <;> simp

/-- How many texts are read, and how long they are. -/
theorem allP_small : ∀ (n : Nat) (p : Option Bs) (L : Bs), (allP n p L).1.length ≤ L.length ∧ ∀ t ∈ (allP n p L).1, t.length ≤ (p.getD []).length + L.length
  | 0, _, _ => by simp [allP]
  | n + 1, p, L => by
    rw [allP]
    split
    · simp
    · split
      · simp
      · rename_i h1
        have hn := @nextP_len L (p.getD []) p.isNone (by omega)
        split
        · simp
        · have ih := allP_small n (some (nextP L (p.getD []) p.isNone).1) (nextP L (p.getD []) p.isNone).2.1
          generalize nextP L (p.getD []) p.isNone = Q at *
          obtain ⟨t, r, q⟩ := Q
          simp only [Option.getD_some] at hn ih
          refine ⟨by simp only [List.length_cons]; omega, fun z hz => ?_⟩
          rcases List.mem_cons.1 hz with rfl | hz
          · omega
          · have := ih.2 z hz; omega

def glA (l : List Bs) (r : List Bs × Nat) : List Bs × Nat := if r.2 ≠ 0 then ([], r.2) else (l ++ r.1, 0)
theorem glA_nil (r : List Bs × Nat) (h : r.2 ≠ 0 → r.1 = []) : r = glA [] r := by
  obtain ⟨a, b⟩ := r
  unfold glA
  simp only at *
  split
  · rename_i h0; rw [h h0]
  · rename_i h0
    have : b = 0 := by omega
    subst this; rfl
theorem glA_step (l : List Bs) (n : Nat) (p : Option Bs) (L : Bs) (hL : L ≠ []) : glA l (allP (n + 1) p L) = if (nextP L (p.getD []) p.isNone).2.2 ≠ 0 then ([], (nextP L (p.getD []) p.isNone).2.2) else glA (l ++ [(nextP L (p.getD []) p.isNone).1]) (allP n (some (nextP L (p.getD []) p.isNone).1) (nextP L (p.getD []) p.isNone).2.1) := by
  rw [allP, if_neg hL]
  generalize nextP L (p.getD []) p.isNone = R
  by_cases h1 : R.2.2 = 0
  · have hn : ¬ R.2.2 ≠ 0 := fun h => h h1
    rw [if_neg hn, if_neg hn]
    by_cases h2 : (allP n (some R.1) R.2.1).2 = 0 <;> simp [glA, h2]
  · have hn : R.2.2 ≠ 0 := h1
    rw [if_pos hn, if_pos hn]
    simp [glA, h1]

theorem own_shape {base : Nat} {w : World} {v : Value} {l : List Bs} (h : Own base w v l) : ∃ a c, v = .slice a l.length c := by
  rcases h.2 with ⟨rfl, h0⟩ | ⟨g, cap, cur, rfl, -⟩
  · rw [h0]; exact ⟨_, _, rfl⟩
  · exact ⟨_, _, rfl⟩

end Go.Proofs.YtbebdaglkjhbjaaGreatDoor.rr

/-
  Go's slices of texts: IsSorted, Compact, Clone, where what comes in rises (layer 14).
-/
namespace Go.Proofs.YtbebdaglkjhbjaaGreatDoor.pl
open Go.RowKit Go.Proofs.YtbebdaglkjhbjaaGreatDoor.vi Go.Proofs.YtbebdaglkjhbjaaGreatDoor.um Go.Proofs.YtbebdaglkjhbjaaGreatDoor.wm Go.Proofs.YtbebdaglkjhbjaaGreatDoor.tr Go.Proofs.YtbebdaglkjhbjaaGreatDoor.em Go.Proofs.YtbebdaglkjhbjaaGreatDoor.rm Go.Proofs.YtbebdaglkjhbjaaGreatDoor.fm Go.Proofs.YtbebdaglkjhbjaaGreatDoor.crc Go.Proofs.YtbebdaglkjhbjaaGreatDoor.rr
set_option linter.unusedVariables false
set_option linter.unusedSimpArgs false

end Go.Proofs.YtbebdaglkjhbjaaGreatDoor.pl

/-
  The document's tables (layer 13): a row, Get, AtLeast.
-/
namespace Go.Proofs.YtbebdaglkjhbjaaGreatDoor.tf
open Go.RowKit Go.Proofs.YtbebdaglkjhbjaaGreatDoor.vi Go.Proofs.YtbebdaglkjhbjaaGreatDoor.um Go.Proofs.YtbebdaglkjhbjaaGreatDoor.wm Go.Proofs.YtbebdaglkjhbjaaGreatDoor.tr Go.Proofs.YtbebdaglkjhbjaaGreatDoor.em Go.Proofs.YtbebdaglkjhbjaaGreatDoor.rm Go.Proofs.YtbebdaglkjhbjaaGreatDoor.law11 Go.Proofs.YtbebdaglkjhbjaaGreatDoor.dd Go.Proofs.YtbebdaglkjhbjaaGreatDoor.dr Go.Proofs.YtbebdaglkjhbjaaGreatDoor.tm
set_option linter.unusedVariables false
set_option linter.unusedSimpArgs false

/-- What the document's functions ask of a row. -/
def Fit (r : Rw) : Prop := r.d.length ≤ 1000 ∧ (∀ x ∈ r.d, x.key.size ≤ 1000 ∧ x.value.size ≤ 1000) ∧ (keyD r.d).length ≤ 1000000 ∧ r.n < 18446744073709551616

set_option maxHeartbeats 2000000 in
set_option maxRecDepth 100000 in
theorem rrow_any (r : Rw) (S : Nat → Prop) (w : World) (u : Value) (hr : Fit r) (h : EsS S w u r.d) :
    Calls Tryz.prog 76 #[.agg #[u, .int .u64 (r.n : Nat)]] w fun e w' => e = .returned (.int .i64 (rowE r : Nat)) ∧ w.grownBy w' none := by
  obtain ⟨h1, h2, h3, h4⟩ := hr
  have GA := Lib.hid (only_alloc (only_refl w none) (.cells #[u, .int .u64 (r.n : Nat)] 97))
  have HC := Lib.hid (rcheckD_any r.d _ _ u h1 (fun x hx => by have := h2 x hx; omega) ((h.grown GA.out).es))
  have HR : Hid (rowE r = if checkD r.d ≠ 0 then checkD r.d else if r.n = 0 then 18 else 0) := rfl
  have hcl := checkD_lt r.d
  have c1 : ∀ w', (w.alloc (.cells #[u, .int .u64 (r.n : Nat)] 97)).grownBy w' none → w'.cell? ⟨w.heap.size, 1, none⟩ = some (.int .u64 (r.n : Nat)) := fun w' g => (Chg.of_none (S := fun _ => False) g).cell (by rw [cell_new]; rfl) (fun e => e)
  have HC1 := Lib.hid c1
  obtain ⟨ua, uc, rfl⟩ := h.shape
  clear c1 h
  generalize rowE r = E at *
  generalize checkD r.d = c at *
  generalize hn : r.n = n at *
  clear hn
  go_enter Tryz.func76, Tryz.ntmps76
  go_wp2_with fail
  refine HC.out.mono ?_
  rintro e w1 ⟨rfl, g1⟩
  have G1 := Lib.hid (only_trans GA.out g1)
  have d1 := HC1.out w1 g1
  clear g1
  by_cases hc : c = 0
  · subst hc
    by_cases h0 : n = 0
    · subst h0
      go_wp2_with fail
      go_ret
      rw [HR.out]
      exact ⟨rfl, G1.out⟩
    · have h0b : ((n : Int) == 0) = false := by simpa using h0
      go_wp2_with fail
      go_ret
      rw [HR.out, if_neg (by simp), if_neg h0]
      exact ⟨rfl, G1.out⟩
  · have hcb : ((c : Int) == 0) = false := by simpa using hc
    go_wp2_with fail
    go_ret
    rw [HR.out, if_pos hc]
    exact ⟨rfl, G1.out⟩

theorem beqk (a b : Bs) : ((txt a).toList == (txt b).toList) = decide (a = b) := by
  rw [beq_bytes]
  by_cases h : a = b
  · subst h; simp
  · rw [decide_eq_false h]
    exact decide_eq_false fun e => h (congrArg (fun x : ByteArray => x.data.toList) e)
theorem getT_next (d : List Ent) (rs : List Rw) (i : Nat) (x : Rw) (h : rs[i]? = some x) : getT d (rs.drop i) = if key x = keyD d then x.n else getT d (rs.drop (i + 1)) := by
  obtain ⟨hi, rfl⟩ := List.getElem?_eq_some_iff.1 h
  rw [List.drop_eq_getElem_cons hi]; rfl

set_option maxHeartbeats 4000000 in
set_option maxRecDepth 100000 in
theorem rgetT_any (rs : List Rw) (d : List Ent) (S : Nat → Prop) (B : Nat) (w : World) (v u : Value) (hl : rs.length ≤ 100000) (hz : ∀ r ∈ rs, Fit r) (hd : d.length ≤ 1000 ∧ (∀ x ∈ d, x.key.size ≤ 1000 ∧ x.value.size ≤ 1000) ∧ (keyD d).length ≤ 1000000) (h : Rs S w v rs) (he : Es B w u d) :
    Calls Tryz.prog 68 #[v, u] w fun e w' => e = .returned (.int .u64 (getT d rs : Nat)) ∧ w.grownBy w' none := by
  have HS := Lib.hid h
  have HE := Lib.hid he
  have HZ := Lib.hid hz
  obtain ⟨a, cap, rfl⟩ := h.shape
  obtain ⟨ua, uc, rfl⟩ := he.shape
  clear h he hz
  go_enter Tryz.func68, Tryz.ntmps68
  go_wp2_with fail
  obtain ⟨hd1, hd2, hd3⟩ := hd
  go_loopw [9] (fun q wr => ∃ i : Nat, i ≤ rs.length ∧ q = .int .i64 i ∧ w.grownBy wr none ∧ getT d rs = getT d (rs.drop i)) (fun q _ => rs.length - (intOf q).toNat)
  case atStart => exact ⟨0, Nat.zero_le _, rfl, only_refl _ _, rfl⟩
  case round =>
    obtain ⟨i, hi, rfl, hg, hR⟩ := hrel
    have HG := Lib.hid hg
    have HR := Lib.hid hR
    clear hg hR
    by_cases hlt : i < rs.length
    · obtain ⟨x, hx⟩ : ∃ x, rs[i]? = some x := ⟨rs[i], List.getElem?_eq_getElem hlt⟩
      obtain ⟨b, off, cx, uu, hv, -, hle, hcm, c0, he, c1⟩ := (HS.out.grown HG.out).at hx
      simp only [Value.slice.injEq, true_and] at hv
      obtain ⟨rfl, rfl⟩ := hv
      unfold maxLen at hcm
      obtain ⟨xa, xc, rfl⟩ := he.shape
      obtain ⟨z1, z2, z3, z4⟩ := HZ.out x (List.mem_of_getElem? hx)
      have HRN := Lib.hid (HR.out.trans (getT_next d rs i x hx))
      have hkb := beqk (key x) (keyD d)
      have GA := Lib.hid (only_alloc (only_refl wr none) (.cells #[.slice xa x.d.length xc, .int .u64 (x.n : Nat)] 97))
      have hb0 : wr.heap.size = wr.heap.size := rfl
      have d0 : (wr.alloc (.cells #[.slice xa x.d.length xc, .int .u64 (x.n : Nat)] 97)).cell? ⟨wr.heap.size, 0, none⟩ = some (.slice xa x.d.length xc) := by rw [cell_new]; rfl
      have d1 : (wr.alloc (.cells #[.slice xa x.d.length xc, .int .u64 (x.n : Nat)] 97)).cell? ⟨wr.heap.size, 1, none⟩ = some (.int .u64 (x.n : Nat)) := by rw [cell_new]; rfl
      have HEA := Lib.hid (he.grown GA.out)
      have HDA := Lib.hid ((HE.out.grown HG.out).grown GA.out)
      have HGA := Lib.hid (only_trans HG.out GA.out)
      have D0 := Lib.hid d0
      have D1 := Lib.hid d1
      clear d0 d1 hb0 he hx
      go_wp2_with fail
      generalize wr.alloc (.cells #[.slice xa x.d.length xc, .int .u64 (x.n : Nat)] 97) = wa at *
      have HK1 := Lib.hid (rkeyD_any x.d _ wa _ z1 z2 z3 HEA.out.es)
      have HK2 := Lib.hid (fun w2 (g : wa.grownBy w2 none) => rkeyD_any d _ w2 _ hd1 hd2 hd3 (HDA.out.grown g))
      have HKX : Hid (key x = keyD x.d) := rfl
      refine HK1.out.mono ?_
      rintro e w3 ⟨rfl, g3⟩
      have G3 := Lib.hid g3
      clear g3
      go_wp2_with fail
      refine (HK2.out _ G3.out).mono ?_
      rintro e w4 ⟨rfl, g4⟩
      have G4 := Lib.hid (only_trans G3.out g4)
      have e1 : w4.cell? ⟨wr.heap.size, 1, none⟩ = some (.int .u64 (x.n : Nat)) := (Chg.of_none (S := fun _ => False) G4.out).cell D1.out (fun e => e)
      clear g4
      by_cases hk : key x = keyD d
      · have HRR := Lib.hid (HRN.out.trans (if_pos hk))
        have hkb2 : ((txt (keyD x.d)).toList == (txt (keyD d)).toList) = true := by rw [← HKX.out]; rw [hkb]; simp [hk]
        clear hkb hk
        generalize txt (keyD x.d) = k1 at *
        generalize txt (keyD d) = k2 at *
        go_wp2_with fail
        go_ret
        rw [HRR.out]
        exact ⟨rfl, only_trans HGA.out G4.out⟩
      · have HRR := Lib.hid (HRN.out.trans (if_neg hk))
        have hkb2 : ((txt (keyD x.d)).toList == (txt (keyD d)).toList) = false := by rw [← HKX.out]; rw [hkb]; simp [hk]
        clear hkb hk
        generalize txt (keyD x.d) = k1 at *
        generalize txt (keyD d) = k2 at *
        go_wp2_with fail
        go_roundw
        case rel => exact ⟨i + 1, by omega, by go_num, only_trans HGA.out G4.out, HRR.out⟩
        case measure => simp [intOf]; omega
    · have hie : i = rs.length := by omega
      subst hie
      rw [List.drop_length] at HR
      go_wp2_with fail
      go_ret
      rw [HR.out]
      exact ⟨rfl, HG.out⟩

theorem getT_lt : ∀ (rs : List Rw) (d : List Ent), (∀ r ∈ rs, r.n < 18446744073709551616) → getT d rs < 18446744073709551616
  | [], _, _ => by simp [getT]
  | x :: r, d, h => by
    unfold getT
    split
    · exact h x (by simp)
    · exact getT_lt r d fun y hy => h y (by simp [hy])
theorem atT_next {t rs : List Rw} {i : Nat} {x : Rw} (h : rs[i]? = some x) : atT t (rs.drop i) = (decide (x.n ≤ getT x.d t) && atT t (rs.drop (i + 1))) := by
  obtain ⟨hi, rfl⟩ := List.getElem?_eq_some_iff.1 h
  rw [List.drop_eq_getElem_cons hi]; rfl

set_option maxHeartbeats 4000000 in
set_option maxRecDepth 100000 in
theorem ratleast_any (ts rs : List Rw) (S T : Nat → Prop) (w : World) (v u : Value) (hl : ts.length ≤ 100000) (hl2 : rs.length ≤ 100000) (hz : ∀ r ∈ ts, Fit r) (hz2 : ∀ r ∈ rs, Fit r) (h : Rs S w v ts) (he : Rs T w u rs) :
    Calls Tryz.prog 67 #[v, u] w fun e w' => e = .returned (.bool (atT ts rs)) ∧ w.grownBy w' none := by
  have HT := Lib.hid h
  have HS := Lib.hid he
  have HZT := Lib.hid hz
  have HZ := Lib.hid hz2
  obtain ⟨ta, tc, rfl⟩ := h.shape
  obtain ⟨a, cap, rfl⟩ := he.shape
  clear h he hz hz2
  go_enter Tryz.func67, Tryz.ntmps67
  go_wp2_with fail
  go_loopw [9] (fun q wr => ∃ i : Nat, i ≤ rs.length ∧ q = .int .i64 i ∧ w.grownBy wr none ∧ atT ts rs = atT ts (rs.drop i)) (fun q _ => rs.length - (intOf q).toNat)
  case atStart => exact ⟨0, Nat.zero_le _, rfl, only_refl _ _, rfl⟩
  case round =>
    obtain ⟨i, hi, rfl, hg, hR⟩ := hrel
    have HG := Lib.hid hg
    have HR := Lib.hid hR
    clear hg hR
    by_cases hlt : i < rs.length
    · obtain ⟨x, hx⟩ : ∃ x, rs[i]? = some x := ⟨rs[i], List.getElem?_eq_getElem hlt⟩
      obtain ⟨b, off, cx, uu, hv, -, hle, hcm, c0, he, c1⟩ := (HS.out.grown HG.out).at hx
      simp only [Value.slice.injEq, true_and] at hv
      obtain ⟨rfl, rfl⟩ := hv
      unfold maxLen at hcm
      obtain ⟨xa, xc, rfl⟩ := he.shape
      have HXF := Lib.hid (HZ.out x (List.mem_of_getElem? hx))
      have HRN := Lib.hid (HR.out.trans (atT_next hx))
      have GA := Lib.hid (only_alloc (only_refl wr none) (.cells #[.slice xa x.d.length xc, .int .u64 (x.n : Nat)] 97))
      have d0 : (wr.alloc (.cells #[.slice xa x.d.length xc, .int .u64 (x.n : Nat)] 97)).cell? ⟨wr.heap.size, 0, none⟩ = some (.slice xa x.d.length xc) := by rw [cell_new]; rfl
      have d1 : (wr.alloc (.cells #[.slice xa x.d.length xc, .int .u64 (x.n : Nat)] 97)).cell? ⟨wr.heap.size, 1, none⟩ = some (.int .u64 (x.n : Nat)) := by rw [cell_new]; rfl
      have HEA := Lib.hid (he.grown GA.out)
      have HTA := Lib.hid ((HT.out.grown HG.out).grown GA.out)
      have HGA := Lib.hid (only_trans HG.out GA.out)
      have D0 := Lib.hid d0
      have D1 := Lib.hid d1
      clear d0 d1 he hx
      go_wp2_with fail
      generalize wr.alloc (.cells #[.slice xa x.d.length xc, .int .u64 (x.n : Nat)] 97) = wa at *
      have hf := HXF.out
      have HK := Lib.hid (fun g : GW wa none => rgetT_any ts x.d _ _ g.world _ _ hl HZT.out ⟨hf.1, hf.2.1, hf.2.2.1⟩ (HTA.out.grown g.ok) ((HEA.out.grown g.ok).es))
      have hg0 : getT x.d ts < 18446744073709551616 := getT_lt ts x.d (fun r hr => (HZT.out r hr).2.2.2)
      have e0 : ∀ g : GW wa none, g.world.cell? ⟨wr.heap.size, 0, none⟩ = some (.slice xa x.d.length xc) := fun g => (Chg.of_none (S := fun _ => False) g.ok).cell D0.out (fun e => e)
      have e1 : ∀ g : GW wa none, g.world.cell? ⟨wr.heap.size, 1, none⟩ = some (.int .u64 (x.n : Nat)) := fun g => (Chg.of_none (S := fun _ => False) g.ok).cell D1.out (fun e => e)
      clear hf
      generalize getT x.d ts = q at *
      refine wp_region_gw wa none (by kernel_rfl) (by kernel_rfl) (only_refl _ _) ?_
      repeat (go_big_quiet_step ((go_at_call 68; exact calls_gw (HK.out _))))
      refine wpQuiet_nil ?_
      rintro wb ⟨⟨_, hwb⟩, rfl⟩
      have HW := Lib.hid hwb
      clear hwb
      by_cases hc : x.n ≤ q
      · have hci : ¬ (q : Int) < (x.n : Int) := by omega
        have HRR : Hid (atT ts rs = atT ts (rs.drop (i + 1))) := by show _ = _; rw [HRN.out]; simp [hc]
        go_wp2_with fail
        go_roundw
        case rel => exact ⟨i + 1, by omega, by go_num, only_trans HGA.out HW.out, HRR.out⟩
        case measure => simp [intOf]; omega
      · have hci : (q : Int) < (x.n : Int) := by omega
        have HRR : Hid (atT ts rs = false) := by show _ = _; rw [HRN.out]; simp; omega
        go_wp2_with fail
        go_ret
        rw [HRR.out]
        exact ⟨rfl, only_trans HGA.out HW.out⟩
    · have hie : i = rs.length := by omega
      subst hie
      rw [List.drop_length] at HR
      have HR2 : Hid (atT ts rs = true) := HR.out
      go_wp2_with fail
      go_ret
      rw [HR2.out]
      exact ⟨rfl, HG.out⟩

end Go.Proofs.YtbebdaglkjhbjaaGreatDoor.tf

/-
  The document's tables (layer 13): Check.
-/
namespace Go.Proofs.YtbebdaglkjhbjaaGreatDoor.tf
open Go.RowKit Go.Proofs.YtbebdaglkjhbjaaGreatDoor.vi Go.Proofs.YtbebdaglkjhbjaaGreatDoor.um Go.Proofs.YtbebdaglkjhbjaaGreatDoor.wm Go.Proofs.YtbebdaglkjhbjaaGreatDoor.tr Go.Proofs.YtbebdaglkjhbjaaGreatDoor.em Go.Proofs.YtbebdaglkjhbjaaGreatDoor.rm Go.Proofs.YtbebdaglkjhbjaaGreatDoor.law11 Go.Proofs.YtbebdaglkjhbjaaGreatDoor.dd Go.Proofs.YtbebdaglkjhbjaaGreatDoor.dr Go.Proofs.YtbebdaglkjhbjaaGreatDoor.tm
set_option linter.unusedVariables false
set_option linter.unusedSimpArgs false

theorem snocT {α : Type} {l : List α} {i : Nat} {x : α} (h : l[i]? = some x) : (l.take (i + 1)).getLast? = some x := by
  rw [List.take_add_one, h]; simp
theorem walkT_next {rs : List Rw} {i : Nat} {x : Rw} (h : rs[i]? = some x) : walkT ((rs.take i).getLast?) (rs.drop i) = if rowE x ≠ 0 then rowE x else if behT (rs.take i).getLast? x ≠ 0 then behT (rs.take i).getLast? x else walkT ((rs.take (i + 1)).getLast?) (rs.drop (i + 1)) := by
  rw [snocT h]
  obtain ⟨hi, rfl⟩ := List.getElem?_eq_some_iff.1 h
  rw [List.drop_eq_getElem_cons hi]; rfl

set_option maxHeartbeats 4000000 in
set_option maxRecDepth 100000 in
theorem rcheckT_any (rs : List Rw) (S : Nat → Prop) (w : World) (v : Value) (hl : rs.length ≤ 100000) (hz : ∀ r ∈ rs, Fit r) (h : Rs S w v rs) :
    Calls Tryz.prog 46 #[v] w fun e w' => e = .returned (.int .i64 (checkT rs : Nat)) ∧ w.grownBy w' none := by
  have HS := Lib.hid h
  have HZ := Lib.hid hz
  obtain ⟨a, cap, rfl⟩ := h.shape
  clear h hz
  by_cases hbig : 256 < rs.length
  · have HR : Hid (checkT rs = 13) := by show _ = _; unfold checkT; rw [if_pos hbig]
    go_enter Tryz.func46, Tryz.ntmps46
    go_wp2_with fail
    go_ret
    rw [HR.out]
    exact ⟨rfl, only_refl _ _⟩
  · have HR : Hid (checkT rs = walkT ((rs.take 0).getLast?) (rs.drop 0)) := by show _ = _; unfold checkT; rw [if_neg hbig]; rfl
    go_enter Tryz.func46, Tryz.ntmps46
    go_wp2_with fail
    go_loopw [10] (fun q wr => ∃ i : Nat, i ≤ rs.length ∧ q = .int .i64 i ∧ w.grownBy wr none ∧ checkT rs = walkT ((rs.take i).getLast?) (rs.drop i)) (fun q _ => rs.length - (intOf q).toNat)
    case atStart => exact ⟨0, Nat.zero_le _, rfl, only_refl _ _, HR.out⟩
    case round =>
      obtain ⟨i, hi, rfl, hg, hw⟩ := hrel
      have HG := Lib.hid hg
      have HW := Lib.hid hw
      clear hg hw HR
      by_cases hlt : i < rs.length
      · obtain ⟨x, hx⟩ : ∃ x, rs[i]? = some x := ⟨rs[i], List.getElem?_eq_getElem hlt⟩
        obtain ⟨b, off, cx, uu, hv, -, hle, hcm, c0, he, c1⟩ := (HS.out.grown HG.out).at hx
        simp only [Value.slice.injEq, true_and] at hv
        obtain ⟨rfl, rfl⟩ := hv
        unfold maxLen at hcm
        have HWN := Lib.hid (HW.out.trans (walkT_next hx))
        have HRW := Lib.hid (fun w2 (g : wr.grownBy w2 none) => rrow_any x S w2 uu (HZ.out x (List.mem_of_getElem? hx)) (he.grown g))
        have hrl := rowE_lt x
        obtain ⟨xa, xc, rfl⟩ := he.shape
        have HX := Lib.hid hx
        have HE := Lib.hid he
        clear hx he HW
        go_wp2_with fail
        refine (HRW.out _ (only_refl _ _)).mono ?_
        rintro e w1 ⟨rfl, g1⟩
        have G1 := Lib.hid g1
        clear g1
        by_cases h0 : rowE x = 0
        · have HW2 := Lib.hid (HWN.out.trans (if_neg (by simp [h0])))
          rw [h0]
          clear HWN
          by_cases hi0 : i = 0
          · subst hi0
            have HW3 : Hid (checkT rs = walkT ((rs.take 1).getLast?) (rs.drop 1)) := HW2.out
            go_wp2_with fail
            refine wp_region_gw w1 none (by kernel_rfl) (by kernel_rfl) (only_refl _ _) ?_
            repeat (go_big_quiet_step (fail))
            refine wpQuiet_nil ?_
            rintro wa ⟨⟨_, hwwa⟩, rfl⟩
            have GA := Lib.hid (only_trans G1.out hwwa)
            clear hwwa
            go_wp2_with fail
            refine wp_region_gw wa none (by kernel_rfl) (by kernel_rfl) (only_refl _ _) ?_
            repeat (go_big_quiet_step (fail))
            refine wpQuiet_nil ?_
            rintro wb ⟨⟨_, hwwb⟩, rfl⟩
            have GB := Lib.hid (only_trans GA.out hwwb)
            clear hwwb
            go_wp2_with fail
            go_roundw
            case rel => exact ⟨1, by omega, by go_num, only_trans HG.out GB.out, HW3.out⟩
            case measure => simp [intOf]; omega
          · obtain ⟨j, rfl⟩ : ∃ j, i = j + 1 := ⟨i - 1, by omega⟩
            obtain ⟨y, hy⟩ : ∃ y, rs[j]? = some y := ⟨rs[j], List.getElem?_eq_getElem (by omega)⟩
            obtain ⟨b2, off2, cy, vu, hv2, -, -, -, k0, hye, -⟩ := (HS.out.grown HG.out).at hy
            simp only [Value.slice.injEq, Option.some.injEq, Addr.mk.injEq, and_true, true_and] at hv2
            obtain ⟨⟨rfl, rfl⟩, rfl⟩ := hv2
            obtain ⟨ya, yc, rfl⟩ := hye.shape
            have HYE := Lib.hid hye
            have FX := HZ.out x (List.mem_of_getElem? HX.out)
            have FY := HZ.out y (List.mem_of_getElem? hy)
            rw [snocT hy] at HW2
            have hsub : ((j + 1 : Nat) : Int) - 1 = (j : Int) := by omega
            have hpos : (0 : Int) < ((j + 1 : Nat) : Int) := by omega
            have HKY := Lib.hid (fun w2 (g : wr.grownBy w2 none) => rkeyD_any y.d _ w2 _ FY.1 FY.2.1 FY.2.2.1 ((HYE.out.grown g).es))
            have HKX := Lib.hid (fun w2 (g : wr.grownBy w2 none) => rkeyD_any x.d _ w2 _ FX.1 FX.2.1 FX.2.2.1 ((HE.out.grown g).es))
            have HLL := Lib.hid (fun w2 => rless12_any (txt (keyD y.d)) (txt (keyD x.d)) (by rw [txt_size]; exact FY.2.2.1) (by rw [txt_size]; exact FX.2.2.1) w2)
            rw [rr.lt_dec] at HLL
            have HLL2 : Hid (∀ w2, Calls Tryz.prog 78 #[.string (txt (keyD y.d)), .string (txt (keyD x.d))] w2 fun e w' => e = .returned (.bool (lt (keyD y.d) (keyD x.d))) ∧ w2.grownBy w' none) := HLL.out
            clear HLL
            have HCX := Lib.hid (fun w2 (g : wr.grownBy w2 none) => (Chg.of_none (S := fun _ => False) g).cell c0 (fun e => e))
            have HCY := Lib.hid (fun w2 (g : wr.grownBy w2 none) => (Chg.of_none (S := fun _ => False) g).cell k0 (fun e => e))
            have hkb := beqk (keyD y.d) (keyD x.d)
            have HBE : Hid (behT (some y) x = if keyD y.d = keyD x.d then 14 else if lt (keyD y.d) (keyD x.d) = true then 0 else 7) := rfl
            rw [HBE.out] at HW2
            have HK1a := Lib.hid (fun g : GW w1 none => HKY.out g.world (only_trans G1.out g.ok))
            have HK2a := Lib.hid (fun g : GW w1 none => HKX.out g.world (only_trans G1.out g.ok))
            have x0 : ∀ g : GW w1 none, g.world.cell? ⟨b, off + (j + 1) * 2, none⟩ = some (.slice xa x.d.length xc) := fun g => HCX.out g.world (only_trans G1.out g.ok)
            have y0 : ∀ g : GW w1 none, g.world.cell? ⟨b, off + j * 2, none⟩ = some (.slice ya y.d.length yc) := fun g => HCY.out g.world (only_trans G1.out g.ok)
            clear hye FX FY hy c0 k0 c1
            generalize hKY : keyD y.d = ky at *
            generalize hKX : keyD x.d = kx at *
            clear hKY hKX
            by_cases hk : ky = kx
            · have HRR : Hid (checkT rs = 14) := by show _ = _; rw [HW2.out, if_pos hk]; rfl
              have hkb2 : ((txt ky).toList == (txt kx).toList) = true := by rw [hkb]; simp [hk]
              clear hkb hk HW2
              generalize txt ky = k1 at *
              generalize txt kx = k2 at *
              go_wp2_with fail
              refine wp_region_gw w1 none (by kernel_rfl) (by kernel_rfl) (only_refl _ _) ?_
              repeat (go_big_quiet_step ((go_at_call 77; first | with_reducible exact calls_gw (HK1a.out _) | with_reducible exact calls_gw (HK2a.out _))))
              refine wpQuiet_nil ?_
              rintro wa ⟨⟨_, hwwa⟩, rfl⟩
              have GA := Lib.hid (only_trans G1.out hwwa)
              clear hwwa
              go_wp2_with fail
              refine wp_region_gw wa none (by kernel_rfl) (by kernel_rfl) (only_refl _ _) ?_
              repeat (go_big_quiet_step (fail))
              refine wpQuiet_nil ?_
              rintro wb ⟨⟨_, hwwb⟩, rfl⟩
              have GB := Lib.hid (only_trans GA.out hwwb)
              clear hwwb
              go_wp2_with fail
              go_ret
              rw [HRR.out]
              exact ⟨rfl, only_trans HG.out GB.out⟩
            · have HW3 := Lib.hid (HW2.out.trans (by rw [if_neg hk]))
              have hkb2 : ((txt ky).toList == (txt kx).toList) = false := by rw [hkb]; simp [hk]
              clear hkb hk HW2
              cases hlt3 : lt ky kx with
              | true =>
                rw [hlt3] at HLL2
                have HRR : Hid (checkT rs = walkT ((rs.take (j + 2)).getLast?) (rs.drop (j + 2))) := by show _ = _; rw [HW3.out, hlt3]; rfl
                clear HW3 hlt3
                generalize txt ky = k1 at *
                generalize txt kx = k2 at *
                go_wp2_with fail
                refine wp_region_gw w1 none (by kernel_rfl) (by kernel_rfl) (only_refl _ _) ?_
                repeat (go_big_quiet_step ((go_at_call 77; first | with_reducible exact calls_gw (HK1a.out _) | with_reducible exact calls_gw (HK2a.out _))))
                refine wpQuiet_nil ?_
                rintro wa ⟨⟨_, hwwa⟩, rfl⟩
                have GA := Lib.hid (only_trans G1.out hwwa)
                clear hwwa
                go_wp2_with fail
                have HK1b := Lib.hid (fun g : GW wa none => HKY.out g.world (only_trans GA.out g.ok))
                have HK2b := Lib.hid (fun g : GW wa none => HKX.out g.world (only_trans GA.out g.ok))
                have HLb := Lib.hid (fun g : GW wa none => HLL2.out g.world)
                have x1 : ∀ g : GW wa none, g.world.cell? ⟨b, off + (j + 1) * 2, none⟩ = some (.slice xa x.d.length xc) := fun g => HCX.out g.world (only_trans GA.out g.ok)
                have y1 : ∀ g : GW wa none, g.world.cell? ⟨b, off + j * 2, none⟩ = some (.slice ya y.d.length yc) := fun g => HCY.out g.world (only_trans GA.out g.ok)
                clear x0 y0 HK1a HK2a
                refine wp_region_gw wa none (by kernel_rfl) (by kernel_rfl) (only_refl _ _) ?_
                repeat (go_big_quiet_step ((first | (go_at_call 77; first | with_reducible exact calls_gw (HK1b.out _) | with_reducible exact calls_gw (HK2b.out _)) | (go_at_call 78; exact calls_gw (HLb.out _)))))
                refine wpQuiet_nil ?_
                rintro wb ⟨⟨_, hwwb⟩, rfl⟩
                have GB := Lib.hid (only_trans GA.out hwwb)
                clear hwwb
                go_wp2_with fail
                go_roundw
                case rel => exact ⟨j + 2, by omega, by go_num, only_trans HG.out GB.out, HRR.out⟩
                case measure => simp [intOf]; omega
              | false =>
                rw [hlt3] at HLL2
                have HRR : Hid (checkT rs = 7) := by show _ = _; rw [HW3.out, hlt3]; rfl
                clear HW3 hlt3
                generalize txt ky = k1 at *
                generalize txt kx = k2 at *
                go_wp2_with fail
                refine wp_region_gw w1 none (by kernel_rfl) (by kernel_rfl) (only_refl _ _) ?_
                repeat (go_big_quiet_step ((go_at_call 77; first | with_reducible exact calls_gw (HK1a.out _) | with_reducible exact calls_gw (HK2a.out _))))
                refine wpQuiet_nil ?_
                rintro wa ⟨⟨_, hwwa⟩, rfl⟩
                have GA := Lib.hid (only_trans G1.out hwwa)
                clear hwwa
                go_wp2_with fail
                have HK1b := Lib.hid (fun g : GW wa none => HKY.out g.world (only_trans GA.out g.ok))
                have HK2b := Lib.hid (fun g : GW wa none => HKX.out g.world (only_trans GA.out g.ok))
                have HLb := Lib.hid (fun g : GW wa none => HLL2.out g.world)
                have x1 : ∀ g : GW wa none, g.world.cell? ⟨b, off + (j + 1) * 2, none⟩ = some (.slice xa x.d.length xc) := fun g => HCX.out g.world (only_trans GA.out g.ok)
                have y1 : ∀ g : GW wa none, g.world.cell? ⟨b, off + j * 2, none⟩ = some (.slice ya y.d.length yc) := fun g => HCY.out g.world (only_trans GA.out g.ok)
                clear x0 y0 HK1a HK2a
                refine wp_region_gw wa none (by kernel_rfl) (by kernel_rfl) (only_refl _ _) ?_
                repeat (go_big_quiet_step ((first | (go_at_call 77; first | with_reducible exact calls_gw (HK1b.out _) | with_reducible exact calls_gw (HK2b.out _)) | (go_at_call 78; exact calls_gw (HLb.out _)))))
                refine wpQuiet_nil ?_
                rintro wb ⟨⟨_, hwwb⟩, rfl⟩
                have GB := Lib.hid (only_trans GA.out hwwb)
                clear hwwb
                go_wp2_with fail
                go_ret
                rw [HRR.out]
                exact ⟨rfl, only_trans HG.out GB.out⟩
        · have hrb : ((rowE x : Int) == 0) = false := by simpa using h0
          have HRR := Lib.hid (HWN.out.trans (if_pos h0))
          generalize rowE x = q at *
          have hqn : ((q : Int) != 0) = true := by rw [bne_iff_ne]; omega
          go_wp2_with fail
          refine wp_region_gw w1 none (by kernel_rfl) (by kernel_rfl) (only_refl _ _) ?_
          repeat (go_big_quiet_step (fail))
          refine wpQuiet_nil ?_
          rintro wa ⟨⟨_, hwwa⟩, rfl⟩
          have GA := Lib.hid (only_trans G1.out hwwa)
          clear hwwa
          go_wp2_with fail
          refine wp_region_gw wa none (by kernel_rfl) (by kernel_rfl) (only_refl _ _) ?_
          repeat (go_big_quiet_step (fail))
          refine wpQuiet_nil ?_
          rintro wb ⟨⟨_, hwwb⟩, rfl⟩
          have GB := Lib.hid (only_trans GA.out hwwb)
          clear hwwb
          go_wp2_with fail
          go_ret
          rw [HRR.out]
          exact ⟨rfl, only_trans HG.out GB.out⟩
      · have hie : i = rs.length := by omega
        subst hie
        rw [List.drop_length] at HW
        have HR2 : Hid (checkT rs = 0) := by show _ = _; rw [HW.out]; cases (rs.take rs.length).getLast? <;> rfl
        go_wp2_with fail
        go_ret
        rw [HR2.out]
        exact ⟨rfl, HG.out⟩

end Go.Proofs.YtbebdaglkjhbjaaGreatDoor.tf

/-
  The document's tables (layer 13): Same.
-/
namespace Go.Proofs.YtbebdaglkjhbjaaGreatDoor.tf
open Go.RowKit Go.Proofs.YtbebdaglkjhbjaaGreatDoor.vi Go.Proofs.YtbebdaglkjhbjaaGreatDoor.um Go.Proofs.YtbebdaglkjhbjaaGreatDoor.wm Go.Proofs.YtbebdaglkjhbjaaGreatDoor.tr Go.Proofs.YtbebdaglkjhbjaaGreatDoor.em Go.Proofs.YtbebdaglkjhbjaaGreatDoor.rm Go.Proofs.YtbebdaglkjhbjaaGreatDoor.law11 Go.Proofs.YtbebdaglkjhbjaaGreatDoor.dd Go.Proofs.YtbebdaglkjhbjaaGreatDoor.dr Go.Proofs.YtbebdaglkjhbjaaGreatDoor.tm
set_option linter.unusedVariables false
set_option linter.unusedSimpArgs false

theorem take_step {α : Type} {l m : List α} {i : Nat} {x y : α} (hx : l[i]? = some x) (hy : m[i]? = some y) (h : l.take i = m.take i) (e : x = y) : l.take (i + 1) = m.take (i + 1) := by
  rw [List.take_add_one, List.take_add_one, hx, hy, h, e]

set_option maxHeartbeats 4000000 in
set_option maxRecDepth 100000 in
theorem rsame_any (ps qs : List Rw) (S T : Nat → Prop) (w : World) (v u : Value) (hl : ps.length ≤ 100000) (hl2 : qs.length ≤ 100000) (hz : ∀ r ∈ ps, r.d.length ≤ 100000) (hz2 : ∀ r ∈ qs, r.d.length ≤ 100000) (h : Rs S w v ps) (he : Rs T w u qs) :
    Calls Tryz.prog 18 #[v, u] w fun e w' => ∃ q : Bool, e = .returned (.bool q) ∧ (q = true ↔ ps = qs) ∧ w.grownBy w' none := by
  have HA := Lib.hid h
  have HB := Lib.hid he
  have HZ := Lib.hid hz
  have HZ2 := Lib.hid hz2
  obtain ⟨aa, ac, rfl⟩ := h.shape
  obtain ⟨ba, bc, rfl⟩ := he.shape
  clear h he hz hz2
  by_cases hn : ps.length = qs.length
  · have HN := Lib.hid hn
    rw [← hn]
    rw [← hn] at hl2
    clear hn
    go_enter Tryz.func18, Tryz.ntmps18
    go_wp2_with fail
    go_loopw [14] (fun q wr => ∃ i : Nat, i ≤ ps.length ∧ q = .int .i64 i ∧ w.grownBy wr none ∧ ps.take i = qs.take i) (fun q _ => ps.length - (intOf q).toNat)
    case atStart => exact ⟨0, Nat.zero_le _, rfl, only_refl _ _, rfl⟩
    case round =>
      obtain ⟨i, hi, rfl, hg, hR⟩ := hrel
      have HG := Lib.hid hg
      have HR := Lib.hid hR
      clear hg hR
      by_cases hlt : i < ps.length
      · obtain ⟨x, hx⟩ : ∃ x, ps[i]? = some x := ⟨ps[i], List.getElem?_eq_getElem hlt⟩
        obtain ⟨y, hy⟩ : ∃ y, qs[i]? = some y := ⟨qs[i]'(by rw [← HN.out]; exact hlt), List.getElem?_eq_getElem (by rw [← HN.out]; exact hlt)⟩
        obtain ⟨b, off, cx, uu, hv, -, hle, hcm, c0, hex, c1⟩ := (HA.out.grown HG.out).at hx
        obtain ⟨b2, off2, cx2, uu2, hv2, -, hle2, hcm2, d0, hey, d1⟩ := (HB.out.grown HG.out).at hy
        rw [← HN.out] at hv2 hle2
        simp only [Value.slice.injEq, true_and] at hv hv2
        obtain ⟨rfl, rfl⟩ := hv
        obtain ⟨rfl, rfl⟩ := hv2
        unfold maxLen at hcm hcm2
        have HX := Lib.hid (HZ.out x (List.mem_of_getElem? hx))
        have HY := Lib.hid (HZ2.out y (List.mem_of_getElem? hy))
        have HXI := Lib.hid hx
        have HYI := Lib.hid hy
        obtain ⟨xa, xc, rfl⟩ := hex.shape
        obtain ⟨ya, yc, rfl⟩ := hey.shape
        have HEX := Lib.hid hex
        have HEY := Lib.hid hey
        clear hx hy hex hey
        by_cases hq : x.n = y.n
        · by_cases hdl : x.d.length = y.d.length
          · rw [hq] at c1
            rw [← hdl] at d0
            go_wp2_with fail
            go_quiet (fail)
            go_wp2_with fail
            go_loopw [49] (fun q wz => ∃ k : Nat, k ≤ x.d.length ∧ q = .int .i64 k ∧ wr.grownBy wz none ∧ x.d.take k = y.d.take k) (fun q _ => x.d.length - (intOf q).toNat)
            case atStart => exact ⟨0, Nat.zero_le _, rfl, only_drewN (only_refl _ _) _, rfl⟩
            case round =>
              obtain ⟨k, hk, rfl, hgk, hE⟩ := hrel
              have HK := Lib.hid hgk
              have HE := Lib.hid hE
              have C0 := (Chg.of_none (S := fun _ => False) hgk).cell c0 (fun e => e)
              have D0 := (Chg.of_none (S := fun _ => False) hgk).cell d0 (fun e => e)
              clear hgk hE
              by_cases hkl : k < x.d.length
              · obtain ⟨p, hp⟩ : ∃ p, x.d[k]? = some p := ⟨x.d[k], List.getElem?_eq_getElem hkl⟩
                obtain ⟨r, hr⟩ : ∃ r, y.d[k]? = some r := ⟨y.d[k]'(by omega), List.getElem?_eq_getElem (by omega)⟩
                obtain ⟨b3, off3, cx3, hv3, -, hle3, hcm3, m0, m1⟩ := (HEX.out.grown HK.out).es.at hp
                obtain ⟨b4, off4, cx4, hv4, -, hle4, hcm4, n0, n1⟩ := (HEY.out.grown HK.out).es.at hr
                simp only [Value.slice.injEq, true_and] at hv3 hv4
                obtain ⟨rfl, rfl⟩ := hv3
                obtain ⟨rfl, rfl⟩ := hv4
                rw [← hdl] at hle4
                unfold maxLen at hcm3 hcm4
                have HPI := Lib.hid hp
                have HRI := Lib.hid hr
                have b1 := beq_bytes p.key r.key
                have b2' := beq_bytes p.value r.value
                clear hp hr c0 d0
                by_cases e1 : p.key = r.key
                · by_cases e2 : p.value = r.value
                  · have HPR : Hid (p = r) := by show _ = _; cases p; cases r; simp_all
                    have HNX := Lib.hid (take_step HPI.out HRI.out HE.out HPR.out)
                    rw [decide_eq_true e1] at b1
                    rw [decide_eq_true e2] at b2'
                    clear e1 e2
                    go_wp2_with fail
                    go_quiet (fail)
                    go_wp2_with fail
                    go_roundw
                    case rel => exact ⟨k + 1, by omega, by go_num, only_drewN HK.out _, HNX.out⟩
                    case measure => simp [intOf]; omega
                  · have HNE : Hid (¬ ps = qs) := fun e => by
                      have h1 := HXI.out
                      rw [e, HYI.out] at h1
                      have h2 := HPI.out
                      rw [← Option.some.inj h1, HRI.out] at h2
                      exact e2 (by rw [Option.some.inj h2])
                    rw [decide_eq_true e1] at b1
                    rw [decide_eq_false e2] at b2'
                    clear e1 e2
                    go_wp2_with fail
                    go_quiet (fail)
                    go_wp2_with fail
                    go_ret
                    exact ⟨false, rfl, ⟨fun e => (by cases e), fun e => (HNE.out e).elim⟩, only_drewN (only_trans HG.out HK.out) _⟩
                · have HNE : Hid (¬ ps = qs) := fun e => by
                    have h1 := HXI.out
                    rw [e, HYI.out] at h1
                    have h2 := HPI.out
                    rw [← Option.some.inj h1, HRI.out] at h2
                    exact e1 (by rw [Option.some.inj h2])
                  rw [decide_eq_false e1] at b1
                  clear e1 b2'
                  go_wp2_with fail
                  go_quiet (fail)
                  go_wp2_with fail
                  go_ret
                  exact ⟨false, rfl, ⟨fun e => (by cases e), fun e => (HNE.out e).elim⟩, only_drewN (only_trans HG.out HK.out) _⟩
              · have hke : k = x.d.length := by omega
                subst hke
                have HXY : Hid (x = y) := by
                  show _ = _
                  have h1 := HE.out
                  rw [List.take_length] at h1
                  rw [hdl, List.take_length] at h1
                  cases x; cases y; simp_all
                have HNX := Lib.hid (take_step HXI.out HYI.out HR.out HXY.out)
                clear c0 d0
                go_wp2_with fail
                go_roundw
                case rel => exact ⟨i + 1, by omega, by go_num, only_trans HG.out HK.out, HNX.out⟩
                case measure => simp [intOf]; omega
          · have hne : ¬ (x.d.length : Int) = (y.d.length : Int) := by omega
            have hnb : ((x.d.length : Int) != (y.d.length : Int)) = true := by rw [bne_iff_ne]; exact hne
            have HNE : Hid (¬ ps = qs) := fun e => by have h1 := HXI.out; rw [e, HYI.out] at h1; exact hdl (by rw [Option.some.inj h1])
            rw [hq] at c1
            go_wp2_with fail
            go_quiet (fail)
            go_wp2_with fail
            go_ret
            exact ⟨false, rfl, ⟨fun e => (by cases e), fun e => (HNE.out e).elim⟩, only_drewN HG.out _⟩
        · have hnb : ((x.n : Int) != (y.n : Int)) = true := by rw [bne_iff_ne]; omega
          have HNE : Hid (¬ ps = qs) := fun e => by have h1 := HXI.out; rw [e, HYI.out] at h1; exact hq (by rw [Option.some.inj h1])
          go_wp2_with fail
          go_quiet (fail)
          go_wp2_with fail
          go_ret
          exact ⟨false, rfl, ⟨fun e => (by cases e), fun e => (HNE.out e).elim⟩, only_drewN HG.out _⟩
      · have hie : i = ps.length := by omega
        subst hie
        have HE : Hid (ps = qs) := by
          show _ = _
          have := HR.out
          rw [List.take_length] at this
          rw [HN.out, List.take_length] at this
          exact this
        go_wp2_with fail
        go_ret
        exact ⟨true, rfl, ⟨fun _ => HE.out, fun _ => rfl⟩, HG.out⟩
  · have hne : ¬ ps = qs := fun e => hn (congrArg List.length e)
    have hnb : ((ps.length : Int) != (qs.length : Int)) = true := by rw [bne_iff_ne]; omega
    have HNE := Lib.hid hne
    clear hne
    go_enter Tryz.func18, Tryz.ntmps18
    go_wp2_with fail
    go_ret
    exact ⟨false, rfl, ⟨fun e => (by cases e), fun e => (HNE.out e).elim⟩, only_refl _ _⟩

end Go.Proofs.YtbebdaglkjhbjaaGreatDoor.tf
