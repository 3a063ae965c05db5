/-
  Plain mathematics of descriptors: which may be, their order, their key, and what is read of it.
-/
import Derived.Test.YtiolkedmpjjojaaGreatDoorEmath
namespace Go.Proofs.YtiolkedmpjjojaaGreatDoor.em
open Go.Proofs.YtiolkedmpjjojaaGreatDoor.vi Go.Proofs.YtiolkedmpjjojaaGreatDoor.um Go.Proofs.YtiolkedmpjjojaaGreatDoor.wm
set_option linter.unusedVariables false
set_option linter.unusedSimpArgs false

def countE (n : Nat) : Nat := if n = 0 then 12 else if 16 < n then 13 else 0
def behindE (a b : Ent) : Nat := if a.key = b.key then 14 else if 0 < cmpE a b then 7 else 0
def behindO (p : Option Ent) (b : Ent) : Nat := p.elim 0 fun a => behindE a b
/-- Entry by entry. -/
def walkE : Option Ent → List Ent → Nat
  | _, [] => 0
  | p, x :: r => if checkE x ≠ 0 then checkE x else if behindO p x ≠ 0 then behindO p x else walkE (some x) r
def checkD (l : List Ent) : Nat := if countE l.length ≠ 0 then countE l.length else walkE none l
def firstE : List Ent → Nat
  | [] => 0
  | x :: r => if checkE x ≠ 0 then checkE x else firstE r
def insE (x : Ent) : List Ent → List Ent
  | [] => [x]
  | t :: r => if cmpE t x < 0 then t :: insE x r else x :: t :: r
def sortE (l : List Ent) : List Ent := l.foldl (fun out x => insE x out) []
def twiceE : List Ent → Bool
  | [] => false
  | [_] => false
  | a :: b :: r => decide (a.key = b.key) || twiceE (b :: r)
def ofD (l : List Ent) : List Ent × Nat :=
  if countE l.length ≠ 0 then ([], countE l.length) else if firstE l ≠ 0 then ([], firstE l) else if twiceE (sortE l) = true then ([], 14) else (sortE l, 0)
def keyD (l : List Ent) : List UInt8 := enc l.length ++ (l.map putE).flatten
/-- So many entries, behind another one, what is behind, the code. -/
def readE : Nat → Option Ent → List UInt8 → List Ent × List UInt8 × Nat
  | 0, _, L => ([], L, 0)
  | n + 1, p, L =>
    if (nextE L).2.2 ≠ 0 then ([], [], (nextE L).2.2)
    else if behindO p (nextE L).1 ≠ 0 then ([], [], behindO p (nextE L).1)
    else if (readE n (some (nextE L).1) (nextE L).2.1).2.2 ≠ 0 then ([], [], (readE n (some (nextE L).1) (nextE L).2.1).2.2)
    else ((nextE L).1 :: (readE n (some (nextE L).1) (nextE L).2.1).1, (readE n (some (nextE L).1) (nextE L).2.1).2.1, 0)
def nextD (L : List UInt8) : List Ent × List UInt8 × Nat :=
  if (getR L).2.2 ≠ 0 then ([], [], (getR L).2.2) else if countE (getR L).1 ≠ 0 then ([], [], countE (getR L).1) else readE (getR L).1 none (L.drop (getR L).2.1)
def parseD (L : List UInt8) : List Ent × Nat :=
  if (nextD L).2.2 ≠ 0 then ([], (nextD L).2.2) else if (nextD L).2.1 ≠ [] then ([], 10) else ((nextD L).1, 0)
def getD (key : ByteArray) : List Ent → ByteArray × Bool
  | [] => (ByteArray.empty, false)
  | x :: r => if x.key = key then (x.value, true) else getD key r

theorem countE_lt (n : Nat) : countE n < 64 := by unfold countE; split <;> (try split) <;> omega
theorem behindE_lt (a b : Ent) : behindE a b < 64 := by unfold behindE; split <;> (try split) <;> omega
theorem behindO_lt (p : Option Ent) (b : Ent) : behindO p b < 64 := by cases p <;> simp [behindO, behindE_lt]
theorem walkE_lt : ∀ (l : List Ent) (p : Option Ent), walkE p l < 64
  | [], _ => by simp [walkE]
  | x :: r, p => by
    unfold walkE
    split
    · exact checkE_lt x
    · split
      · exact behindO_lt _ _
      · exact walkE_lt r _
theorem checkD_lt (l : List Ent) : checkD l < 64 := by unfold checkD; split; exact countE_lt _; exact walkE_lt _ _
theorem firstE_lt : ∀ l : List Ent, firstE l < 64
  | [] => by simp [firstE]
  | x :: r => by unfold firstE; split; exact checkE_lt x; exact firstE_lt r
theorem ofD_lt (l : List Ent) : (ofD l).2 < 64 := by
  unfold ofD
  split
  · exact countE_lt _
  · split
    · exact firstE_lt _
    · split <;> simp
theorem readE_lt : ∀ (n : Nat) (p : Option Ent) (L : List UInt8), (readE n p L).2.2 < 64
  | 0, _, _ => by simp [readE]
  | n + 1, p, L => by
    unfold readE
    split
    · exact nextE_lt _
    · split
      · exact behindO_lt _ _
      · split
        · exact readE_lt n _ _
        · simp
theorem nextD_lt (L : List UInt8) : (nextD L).2.2 < 64 := by
  have := getR_bounds L
  unfold nextD
  split
  · show (getR L).2.2 < 64; omega
  · split
    · exact countE_lt _
    · exact readE_lt _ _ _
theorem readE_err : ∀ (n : Nat) (p : Option Ent) (L : List UInt8), (readE n p L).2.2 ≠ 0 → (readE n p L).1 = [] ∧ (readE n p L).2.1 = []
  | 0, _, _, h => by simp [readE] at h
  | n + 1, p, L, h => by
    unfold readE at h ⊢
    split
    · exact ⟨rfl, rfl⟩
    · rename_i h1
      rw [if_neg h1] at h
      split
      · exact ⟨rfl, rfl⟩
      · rename_i h2
        rw [if_neg h2] at h
        split
        · exact ⟨rfl, rfl⟩
        · rename_i h3
          rw [if_neg h3] at h
          exact absurd rfl h
theorem nextD_err {L : List UInt8} (h : (nextD L).2.2 ≠ 0) : (nextD L).1 = [] ∧ (nextD L).2.1 = [] := by
  unfold nextD at h ⊢
  split
  · exact ⟨rfl, rfl⟩
  · rename_i h1
    rw [if_neg h1] at h
    split
    · exact ⟨rfl, rfl⟩
    · rename_i h2
      rw [if_neg h2] at h
      exact readE_err _ _ _ h
theorem parseD_err {L : List UInt8} (h : (parseD L).2 ≠ 0) : (parseD L).1 = [] := by
  unfold parseD at h ⊢
  split
  · rfl
  · rename_i h1
    rw [if_neg h1] at h
    split
    · rfl
    · rename_i h2
      rw [if_neg h2] at h
      exact absurd rfl h

/-! Rising keys -/
def lessE (a b : Ent) : Prop := Op.bytesLess a.key.data.toList b.key.data.toList = true
def RisE (l : List Ent) : Prop := l.Pairwise lessE
theorem lessE_trans {a b c : Ent} (h1 : lessE a b) (h2 : lessE b c) : lessE a c := less_trans _ _ _ h1 h2
theorem lessE_ne {a b : Ent} (h : lessE a b) : a.key ≠ b.key := fun e => by unfold lessE at h; rw [e, less_irrefl] at h; cases h
theorem behindE_zero (a b : Ent) : behindE a b = 0 ↔ lessE a b := by
  unfold behindE lessE
  by_cases h : a.key = b.key
  · rw [if_pos h]
    simp [h, less_irrefl]
  · rw [if_neg h]
    have hc : cmpE a b = cmpB a.key b.key := if_neg h
    rw [hc, ← cmpB_lt]
    have h0 : cmpB a.key b.key ≠ 0 := fun e => h ((cmpB_zero _ _).1 e)
    rcases cmpB_cases a.key b.key with e | e | e
    · rw [e]; simp
    · exact absurd e h0
    · rw [e]; simp
theorem walkE_ok : ∀ (l : List Ent) (p : Option Ent), walkE p l = 0 ↔ ((∀ x ∈ l, checkE x = 0) ∧ RisE (p.toList ++ l))
  | [], p => by cases p <;> simp [walkE, RisE]
  | x :: r, p => by
    have ih := walkE_ok r (some x)
    unfold walkE
    by_cases h1 : checkE x = 0
    · rw [if_neg (by simp [h1])]
      by_cases h2 : behindO p x = 0
      · rw [if_neg (by simp [h2]), ih]
        have hp : ∀ a, p = some a → lessE a x := fun a e => by subst e; exact (behindE_zero a x).1 (by simpa [behindO] using h2)
        constructor
        · rintro ⟨k1, k2⟩
          refine ⟨fun y hy => ?_, ?_⟩
          · rcases List.mem_cons.1 hy with rfl | hy
            · exact h1
            · exact k1 y hy
          · cases p with
            | none => simpa using k2
            | some a =>
              have ha := hp a rfl
              have k3 := List.pairwise_cons.1 (by simpa using k2 : RisE (x :: r))
              refine List.pairwise_cons.2 ⟨fun y hy => ?_, List.pairwise_cons.2 k3⟩
              rcases List.mem_cons.1 (by simpa using hy : y ∈ x :: r) with rfl | hy
              · exact ha
              · exact lessE_trans ha (k3.1 y hy)
        · rintro ⟨k1, k2⟩
          refine ⟨fun y hy => k1 y (List.mem_cons_of_mem _ hy), ?_⟩
          cases p with
          | none => simpa using k2
          | some a => exact (List.pairwise_cons.1 k2).2
      · rw [if_pos h2]
        constructor
        · intro e; exact absurd e h2
        · rintro ⟨k1, k2⟩
          cases p with
          | none => simp [behindO] at h2
          | some a =>
            have := (List.pairwise_cons.1 k2).1 x (by simp)
            exact absurd ((behindE_zero a x).2 this) (by simpa [behindO] using h2)
    · rw [if_pos h1]
      exact ⟨fun e => absurd e h1, fun k => absurd (k.1 x (by simp)) h1⟩
theorem checkD_ok (l : List Ent) : checkD l = 0 ↔ (1 ≤ l.length ∧ l.length ≤ 16 ∧ (∀ x ∈ l, checkE x = 0) ∧ RisE l) := by
  have := walkE_ok l none
  unfold checkD
  by_cases h : countE l.length = 0
  · rw [if_neg (by simp [h]), this]
    unfold countE at h
    split at h
    · omega
    · split at h
      · omega
      · exact ⟨fun k => ⟨by omega, by omega, k.1, by simpa using k.2⟩, fun k => ⟨k.2.2.1, by simpa using k.2.2.2⟩⟩
  · rw [if_pos h]
    constructor
    · intro e; exact absurd e h
    · rintro ⟨h1, h2, -⟩
      exact absurd (by unfold countE; rw [if_neg (by omega), if_neg (by omega)]) h

/-! Written and read -/
theorem readE_put : ∀ (l : List Ent) (p : Option Ent) (r : List UInt8), walkE p l = 0 → readE l.length p ((l.map putE).flatten ++ r) = (l, r, 0)
  | [], _, r, _ => by simp [readE]
  | x :: l, p, r, h => by
    unfold walkE at h
    by_cases h1 : checkE x = 0
    · rw [if_neg (by simp [h1])] at h
      by_cases h2 : behindO p x = 0
      · rw [if_neg (by simp [h2])] at h
        have hs := checkE_small h1
        have hn := nextE_put x (by omega) (by omega) ((l.map putE).flatten ++ r)
        rw [if_neg (by simp [h1])] at hn
        have ih := readE_put l (some x) r h
        show readE (l.length + 1) p _ = _
        rw [List.map_cons, List.flatten_cons, List.append_assoc]
        unfold readE
        rw [hn]
        simp only
        rw [ih]
        simp [h2]
      · rw [if_pos h2] at h; exact absurd h h2
    · rw [if_pos h1] at h; exact absurd h h1
theorem readE_ok : ∀ (n : Nat) (p : Option Ent) (L : List UInt8), (readE n p L).2.2 = 0 → L = ((readE n p L).1.map putE).flatten ++ (readE n p L).2.1 ∧ (readE n p L).1.length = n ∧ walkE p (readE n p L).1 = 0
  | 0, p, L, _ => by simp [readE, walkE]
  | n + 1, p, L, h => by
    by_cases h1 : (nextE L).2.2 = 0
    · by_cases h2 : behindO p (nextE L).1 = 0
      · by_cases h3 : (readE n (some (nextE L).1) (nextE L).2.1).2.2 = 0
        · have e : readE (n + 1) p L = ((nextE L).1 :: (readE n (some (nextE L).1) (nextE L).2.1).1, (readE n (some (nextE L).1) (nextE L).2.1).2.1, 0) := by
            rw [readE, if_neg (by simp [h1]), if_neg (by simp [h2]), if_neg (by simp [h3])]
          rw [e]
          obtain ⟨i1, i2, i3⟩ := readE_ok n (some (nextE L).1) (nextE L).2.1 h3
          obtain ⟨j1, j2⟩ := nextE_ok h1
          refine ⟨?_, by simp [i2], ?_⟩
          · simp only [List.map_cons, List.flatten_cons]
            rw [List.append_assoc, ← i1, ← j1]
          · unfold walkE
            rw [if_neg (by simp [j2]), if_neg (by simp [h2]), i3]
        · rw [readE, if_neg (by simp [h1]), if_neg (by simp [h2]), if_pos h3] at h
          exact absurd h h3
      · rw [readE, if_neg (by simp [h1]), if_pos h2] at h
        exact absurd h h2
    · rw [readE, if_pos h1] at h
      exact absurd h h1

theorem nextD_key {l : List Ent} (h : checkD l = 0) (r : List UInt8) : nextD (keyD l ++ r) = (l, r, 0) := by
  have hl := (checkD_ok l).1 h
  have hw : walkE none l = 0 := (walkE_ok l none).2 ⟨hl.2.2.1, by simpa using hl.2.2.2⟩
  have hg : getR (keyD l ++ r) = (l.length, (enc l.length).length, 0) := by
    unfold keyD
    rw [List.append_assoc]
    exact getR_enc (by omega) _
  have hc : countE l.length = 0 := by unfold countE; rw [if_neg (by omega), if_neg (by omega)]
  unfold nextD
  rw [hg]
  rw [if_neg (by simp), if_neg (by simp [hc])]
  simp only
  unfold keyD
  rw [List.append_assoc, List.drop_left]
  exact readE_put l none r hw
theorem nextD_ok {L : List UInt8} (h : (nextD L).2.2 = 0) : L = keyD (nextD L).1 ++ (nextD L).2.1 ∧ checkD (nextD L).1 = 0 := by
  by_cases h1 : (getR L).2.2 = 0
  · by_cases h2 : countE (getR L).1 = 0
    · have e : nextD L = readE (getR L).1 none (L.drop (getR L).2.1) := by
        unfold nextD
        rw [if_neg (by simp [h1]), if_neg (by simp [h2])]
      rw [e] at h ⊢
      obtain ⟨i1, i2, i3⟩ := readE_ok _ _ _ h
      refine ⟨?_, ?_⟩
      · unfold keyD
        rw [i2, List.append_assoc, ← i1, enc_getR h1, List.take_append_drop]
      · unfold checkD
        rw [i2, if_neg (by simp [h2]), i3]
    · unfold nextD at h
      rw [if_neg (by simp [h1]), if_pos h2] at h
      exact absurd h h2
  · unfold nextD at h
    rw [if_pos h1] at h
    exact absurd h h1
theorem parseD_key {l : List Ent} (h : checkD l = 0) : parseD (keyD l) = (l, 0) := by
  have := nextD_key h []
  rw [List.append_nil] at this
  unfold parseD
  rw [this]
  simp
theorem parseD_ok {L : List UInt8} (h : (parseD L).2 = 0) : keyD (parseD L).1 = L ∧ checkD (parseD L).1 = 0 := by
  by_cases h1 : (nextD L).2.2 = 0
  · by_cases h2 : (nextD L).2.1 = []
    · have e : parseD L = ((nextD L).1, 0) := by unfold parseD; rw [if_neg (by simp [h1]), if_neg (by simp [h2])]
      obtain ⟨i1, i2⟩ := nextD_ok h1
      rw [h2, List.append_nil] at i1
      rw [e]
      exact ⟨i1.symm, i2⟩
    · unfold parseD at h
      rw [if_neg (by simp [h1]), if_pos h2] at h
      simp at h
  · unfold parseD at h
    rw [if_pos h1] at h
    exact absurd h h1
/-- Neither key is the beginning of another one's. -/
theorem key_apart {x y : List Ent} (hx : checkD x = 0) (hy : checkD y = 0) {r : List UInt8} (h : keyD y = keyD x ++ r) : x = y ∧ r = [] := by
  have h1 := nextD_key hx r
  have h2 := nextD_key hy []
  rw [List.append_nil, h, h1] at h2
  simp at h2
  exact h2

/-! In order -/
theorem insE_perm (x : Ent) : ∀ l : List Ent, (insE x l).Perm (x :: l)
  | [] => List.Perm.refl _
  | t :: r => by
    unfold insE
    split
    · exact ((insE_perm x r).cons t).trans (List.Perm.swap x t r)
    · exact List.Perm.refl _
theorem sort_perm (l : List Ent) : (sortE l).Perm l := by
  unfold sortE
  suffices h : ∀ out : List Ent, (l.foldl (fun o x => insE x o) out).Perm (out ++ l) by simpa using h []
  induction l with
  | nil => intro out; simp
  | cons x r ih =>
    intro out
    refine (ih (insE x out)).trans ?_
    have := (insE_perm x out).append_right r
    exact this.trans (by simpa using (List.perm_middle (a := x) (l₁ := out) (l₂ := r)).symm)
def leE (a b : Ent) : Prop := cmpE a b ≤ 0
theorem leE_trans {a b c : Ent} (h1 : leE a b) (h2 : leE b c) : leE a c := by
  unfold leE at *
  by_cases e1 : cmpE a b = 0
  · rw [(cmpE_zero a b).1 e1]; exact h2
  · by_cases e2 : cmpE b c = 0
    · rw [← (cmpE_zero b c).1 e2]; exact h1
    · have := cmpE_trans (a := a) (b := b) (c := c) (by omega) (by omega)
      omega
theorem insE_sorted (x : Ent) : ∀ l : List Ent, l.Pairwise leE → (insE x l).Pairwise leE
  | [], _ => List.pairwise_singleton _ _
  | t :: r, h => by
    obtain ⟨h1, h2⟩ := List.pairwise_cons.1 h
    unfold insE
    split
    · rename_i hc
      refine List.pairwise_cons.2 ⟨fun y hy => ?_, insE_sorted x r h2⟩
      rcases List.mem_cons.1 ((insE_perm x r).mem_iff.1 hy) with rfl | hy
      · unfold leE; omega
      · exact h1 y hy
    · rename_i hc
      have hxt : leE x t := by unfold leE; rw [cmpE_neg]; omega
      refine List.pairwise_cons.2 ⟨fun y hy => ?_, h⟩
      rcases List.mem_cons.1 hy with rfl | hy
      · exact hxt
      · exact leE_trans hxt (h1 y hy)
theorem sort_sorted (l : List Ent) : (sortE l).Pairwise leE := by
  unfold sortE
  suffices h : ∀ out : List Ent, out.Pairwise leE → (l.foldl (fun o x => insE x o) out).Pairwise leE by exact h [] List.Pairwise.nil
  induction l with
  | nil => intro out h; exact h
  | cons x r ih => intro out h; exact ih _ (insE_sorted x out h)
theorem sorted_same {a b : List Ent} (ha : a.Pairwise leE) (hb : b.Pairwise leE) (h : a.Perm b) : a = b := by
  refine h.eq_of_pairwise (fun x y _ _ h1 h2 => ?_) ha hb
  unfold leE at h1 h2
  rw [cmpE_neg] at h2
  exact (cmpE_zero x y).1 (by omega)
theorem sort_of_perm {a b : List Ent} (h : a.Perm b) : sortE a = sortE b := sorted_same (sort_sorted a) (sort_sorted b) ((sort_perm a).trans (h.trans (sort_perm b).symm))
theorem twice_rise : ∀ {l : List Ent}, l.Pairwise leE → (twiceE l = false ↔ RisE l)
  | [], _ => by simp [twiceE, RisE]
  | [x], _ => by simp [twiceE, RisE]
  | x :: y :: r, h => by
    obtain ⟨h1, h2⟩ := List.pairwise_cons.1 h
    have ih := twice_rise h2
    have hxy := h1 y (by simp)
    have hk : x.key ≠ y.key → lessE x y := fun hne => by
      unfold leE at hxy
      have hc : cmpE x y = cmpB x.key y.key := if_neg hne
      rw [hc] at hxy
      have h0 : cmpB x.key y.key ≠ 0 := fun e => hne ((cmpB_zero _ _).1 e)
      exact (cmpB_lt _ _).1 (by omega)
    unfold twiceE
    rw [Bool.or_eq_false_iff, decide_eq_false_iff_not, ih]
    constructor
    · rintro ⟨k1, k2⟩
      refine List.pairwise_cons.2 ⟨fun z hz => ?_, k2⟩
      rcases List.mem_cons.1 hz with rfl | hz
      · exact hk k1
      · exact lessE_trans (hk k1) ((List.pairwise_cons.1 k2).1 z hz)
    · intro k
      obtain ⟨k1, k2⟩ := List.pairwise_cons.1 k
      exact ⟨lessE_ne (k1 y (by simp)), k2⟩
theorem firstE_zero : ∀ l : List Ent, firstE l = 0 ↔ ∀ x ∈ l, checkE x = 0
  | [] => by simp [firstE]
  | x :: r => by
    have ih := firstE_zero r
    unfold firstE
    by_cases h : checkE x = 0
    · rw [if_neg (by simp [h]), ih]; simp [h]
    · rw [if_pos h]
      exact ⟨fun e => absurd e h, fun k => absurd (k x (by simp)) h⟩
/-- What comes of any entries may be. -/
theorem ofD_ok {l : List Ent} (h : (ofD l).2 = 0) : (ofD l).1 = sortE l ∧ checkD (sortE l) = 0 := by
  unfold ofD at h ⊢
  by_cases h1 : countE l.length = 0
  · rw [if_neg (by simp [h1])] at h ⊢
    by_cases h2 : firstE l = 0
    · rw [if_neg (by simp [h2])] at h ⊢
      by_cases h3 : twiceE (sortE l) = true
      · rw [if_pos h3] at h; simp at h
      · rw [if_neg h3]
        have hp := sort_perm l
        have hc := (firstE_zero l).1 h2
        refine ⟨rfl, (checkD_ok _).2 ?_⟩
        rw [hp.length_eq]
        unfold countE at h1
        split at h1
        · omega
        · split at h1
          · omega
          · exact ⟨by omega, by omega, fun x hx => hc x (hp.mem_iff.1 hx), (twice_rise (sort_sorted l)).1 (by simpa using h3)⟩
    · rw [if_pos h2] at h; exact absurd h h2
  · rw [if_pos h1] at h; exact absurd h h1
theorem firstE_perm {a b : List Ent} (h : a.Perm b) (h0 : firstE a = 0) : firstE b = 0 := (firstE_zero b).2 fun x hx => (firstE_zero a).1 h0 x (h.mem_iff.2 hx)
theorem ofD_perm {a b : List Ent} (h : a.Perm b) (h0 : (ofD a).2 = 0) : ofD b = ((ofD a).1, 0) := by
  obtain ⟨h1, h2⟩ := ofD_ok h0
  rw [h1]
  have hl := h.length_eq
  have hs := sort_of_perm h
  unfold ofD at h0 ⊢
  by_cases k1 : countE a.length = 0
  · rw [if_neg (by simp [k1])] at h0
    by_cases k2 : firstE a = 0
    · rw [if_neg (by simp [k2])] at h0
      by_cases k3 : twiceE (sortE a) = true
      · rw [if_pos k3] at h0; simp at h0
      · rw [if_neg (by rw [← hl]; simp [k1]), if_neg (by simp [firstE_perm h k2]), if_neg (by rw [← hs]; exact k3), hs]
    · rw [if_pos k2] at h0; exact absurd h0 k2
  · rw [if_pos k1] at h0; exact absurd h0 k1

end Go.Proofs.YtiolkedmpjjojaaGreatDoor.em
