/-
  Plain mathematics of entries: as they are written, read, and in which order they stand.
-/
import Derived.Test.YtiolkedmpjjojaaGreatDoorBundW
import Derived.Test.YtiolkedmpjjojaaGreatDoorBundU
import Derived.Sort.Walk0
namespace Go.Proofs.YtiolkedmpjjojaaGreatDoor.em
open Go.Proofs.YtiolkedmpjjojaaGreatDoor.vi Go.Proofs.YtiolkedmpjjojaaGreatDoor.um Go.Proofs.YtiolkedmpjjojaaGreatDoor.wm
set_option linter.unusedVariables false
set_option linter.unusedSimpArgs false

/-- An entry. -/
structure Ent where
  key : ByteArray
  value : ByteArray
deriving DecidableEq

def zeroE : Ent := ⟨ByteArray.empty, ByteArray.empty⟩
def checkE (x : Ent) : Nat := if checkN x.key 1 64 ≠ 0 then checkN x.key 1 64 else checkN x.value 0 256
/-- A text, its length ahead. -/
def tw (s : ByteArray) : List UInt8 := enc s.size ++ s.data.toList
def putE (x : Ent) : List UInt8 := tw x.key ++ tw x.value
/-- The text that stands next, what is behind, the code. -/
def textW (L : List UInt8) : List UInt8 × List UInt8 × Nat :=
  if (getR L).2.2 ≠ 0 then ([], [], (getR L).2.2)
  else if L.length - (getR L).2.1 < (getR L).1 then ([], [], 1)
  else ((L.drop (getR L).2.1).take (getR L).1, L.drop ((getR L).2.1 + (getR L).1), 0)
/-- The entry that stands next, what is behind, the code. -/
def nextE (L : List UInt8) : Ent × List UInt8 × Nat :=
  if (textW L).2.2 ≠ 0 then (zeroE, [], (textW L).2.2)
  else if (textW (textW L).2.1).2.2 ≠ 0 then (zeroE, [], (textW (textW L).2.1).2.2)
  else if checkE ⟨txt (textW L).1, txt (textW (textW L).2.1).1⟩ ≠ 0 then (zeroE, [], checkE ⟨txt (textW L).1, txt (textW (textW L).2.1).1⟩)
  else (⟨txt (textW L).1, txt (textW (textW L).2.1).1⟩, (textW (textW L).2.1).2.1, 0)

theorem checkN_lt (s : ByteArray) (a b : Int) : checkN s a b < 64 := by unfold checkN; split <;> (try split) <;> omega
theorem checkE_lt (x : Ent) : checkE x < 64 := by unfold checkE; split <;> exact checkN_lt _ _ _
theorem checkE_small {x : Ent} (h : checkE x = 0) : 1 ≤ x.key.size ∧ x.key.size ≤ 64 ∧ x.value.size ≤ 256 := by
  unfold checkE at h
  by_cases h1 : checkN x.key 1 64 = 0
  · rw [if_neg (by simp [h1])] at h
    unfold checkN at h h1
    split at h1
    · omega
    · split at h
      · omega
      · omega
  · rw [if_pos h1] at h; exact absurd h h1
theorem textW_err {L : List UInt8} (h : (textW L).2.2 ≠ 0) : (textW L).1 = [] ∧ (textW L).2.1 = [] := by
  unfold textW at h ⊢
  split
  · exact ⟨rfl, rfl⟩
  · rename_i h1
    rw [if_neg h1] at h
    split
    · exact ⟨rfl, rfl⟩
    · rename_i h2
      rw [if_neg h2] at h
      exact absurd rfl h
theorem textW_lt (L : List UInt8) : (textW L).2.2 < 64 := by
  have := getR_bounds L
  unfold textW
  split
  · show (getR L).2.2 < 64; omega
  · split <;> simp
theorem nextE_lt (L : List UInt8) : (nextE L).2.2 < 64 := by
  unfold nextE
  split
  · exact textW_lt _
  · split
    · exact textW_lt _
    · split
      · exact checkE_lt _
      · simp
theorem nextE_err {L : List UInt8} (h : (nextE L).2.2 ≠ 0) : (nextE L).1 = zeroE ∧ (nextE L).2.1 = [] := by
  unfold nextE at h ⊢
  split
  · exact ⟨rfl, rfl⟩
  · rename_i h1
    rw [if_neg h1] at h
    split
    · exact ⟨rfl, rfl⟩
    · rename_i h2
      rw [if_neg h2] at h
      split
      · exact ⟨rfl, rfl⟩
      · rename_i h3
        rw [if_neg h3] at h
        exact absurd rfl h

theorem tw_len (s : ByteArray) : (tw s).length = (enc s.size).length + s.size := by unfold tw; rw [List.length_append]; simp
/-- What is written is read. -/
theorem textW_put (t : ByteArray) (h : t.size < 18446744073709551616) (r : List UInt8) : textW (tw t ++ r) = (t.data.toList, r, 0) := by
  have hg : getR (tw t ++ r) = (t.size, (enc t.size).length, 0) := by
    unfold tw
    rw [List.append_assoc]
    exact getR_enc h _
  have hl : t.data.toList.length = t.size := by simp
  have hd : (tw t ++ r).drop (enc t.size).length = t.data.toList ++ r := by
    unfold tw
    rw [List.append_assoc, List.drop_left]
  unfold textW
  rw [hg]
  rw [if_neg (by simp), if_neg (by simp only [List.length_append, tw_len]; omega)]
  simp only
  rw [← List.drop_drop, hd, ← hl, List.take_left, List.drop_left]
/-- What is read was written so. -/
theorem textW_ok {L : List UInt8} (h : (textW L).2.2 = 0) : L = tw (txt (textW L).1) ++ (textW L).2.1 ∧ (textW L).1.length < 18446744073709551616 := by
  have hb := getR_bounds L
  by_cases h1 : (getR L).2.2 = 0
  · by_cases h2 : L.length - (getR L).2.1 < (getR L).1
    · unfold textW at h
      rw [if_neg (by simp [h1]), if_pos h2] at h
      simp at h
    · have e := enc_getR h1
      have ht : textW L = ((L.drop (getR L).2.1).take (getR L).1, L.drop ((getR L).2.1 + (getR L).1), 0) := by
        unfold textW
        rw [if_neg (by simp [h1]), if_neg h2]
      rw [ht]
      have hl : ((L.drop (getR L).2.1).take (getR L).1).length = (getR L).1 := by simp; omega
      refine ⟨?_, by simp only; omega⟩
      simp only
      unfold tw
      rw [txt_size, txt_list, hl, e, List.append_assoc, ← List.drop_drop, List.take_append_drop, List.take_append_drop]
  · unfold textW at h
    rw [if_pos h1] at h
    exact absurd h h1

theorem nextE_put (x : Ent) (h1 : x.key.size < 18446744073709551616) (h2 : x.value.size < 18446744073709551616) (r : List UInt8) :
    nextE (putE x ++ r) = if checkE x ≠ 0 then (zeroE, [], checkE x) else (x, r, 0) := by
  have e1 : textW (putE x ++ r) = (x.key.data.toList, tw x.value ++ r, 0) := by
    unfold putE
    rw [List.append_assoc]
    exact textW_put _ h1 _
  unfold nextE
  rw [e1]
  simp only
  rw [textW_put _ h2, if_neg (by simp), if_neg (by simp), txt_of, txt_of]
theorem nextE_ok {L : List UInt8} (h : (nextE L).2.2 = 0) : L = putE (nextE L).1 ++ (nextE L).2.1 ∧ checkE (nextE L).1 = 0 := by
  by_cases h1 : (textW L).2.2 = 0
  · by_cases h2 : (textW (textW L).2.1).2.2 = 0
    · by_cases h3 : checkE ⟨txt (textW L).1, txt (textW (textW L).2.1).1⟩ = 0
      · have e : nextE L = (⟨txt (textW L).1, txt (textW (textW L).2.1).1⟩, (textW (textW L).2.1).2.1, 0) := by
          unfold nextE
          rw [if_neg (by simp [h1]), if_neg (by simp [h2]), if_neg (by simp [h3])]
        rw [e]
        refine ⟨?_, h3⟩
        have a1 := (textW_ok h1).1
        have a2 := (textW_ok h2).1
        simp only
        unfold putE
        rw [List.append_assoc, ← a2]
        exact a1
      · unfold nextE at h
        rw [if_neg (by simp [h1]), if_neg (by simp [h2]), if_pos h3] at h
        exact absurd h h3
    · unfold nextE at h
      rw [if_neg (by simp [h1]), if_pos h2] at h
      exact absurd h h2
  · unfold nextE at h
    rw [if_pos h1] at h
    exact absurd h h1

/-! In which order -/
theorem less_irrefl : ∀ a : List UInt8, Op.bytesLess a a = false
  | [] => rfl
  | a :: x => by
    unfold Op.bytesLess
    rw [less_irrefl x]
    simp [UInt8.lt_irrefl]
theorem less_trans : ∀ a b c : List UInt8, Op.bytesLess a b = true → Op.bytesLess b c = true → Op.bytesLess a c = true
  | a, [], _, h, _ => by cases a <;> simp [Op.bytesLess] at h
  | _, _ :: _, [], _, h => by simp [Op.bytesLess] at h
  | [], _ :: _, _ :: _, _, _ => rfl
  | a :: x, b :: y, c :: z, h1, h2 => by
    simp only [Op.bytesLess, Bool.or_eq_true, decide_eq_true_eq, Bool.and_eq_true, beq_iff_eq] at h1 h2 ⊢
    rcases h1 with h1 | ⟨rfl, h1⟩ <;> rcases h2 with h2 | ⟨rfl, h2⟩
    · exact .inl (UInt8.lt_trans h1 h2)
    · exact .inl h1
    · exact .inl h2
    · exact .inr ⟨rfl, less_trans x y z h1 h2⟩
theorem less_tri : ∀ a b : List UInt8, Op.bytesLess a b = true ∨ a = b ∨ Op.bytesLess b a = true
  | [], [] => .inr (.inl rfl)
  | [], _ :: _ => .inl rfl
  | _ :: _, [] => .inr (.inr rfl)
  | a :: x, b :: y => by
    simp only [Op.bytesLess, Bool.or_eq_true, decide_eq_true_eq, Bool.and_eq_true, beq_iff_eq, List.cons.injEq]
    rcases (show a < b ∨ a = b ∨ b < a by simp only [UInt8.lt_iff_toNat_lt, ← UInt8.toNat_inj]; omega) with h | rfl | h
    · exact .inl (.inl h)
    · rcases less_tri x y with h | rfl | h
      · exact .inl (.inr ⟨rfl, h⟩)
      · exact .inr (.inl ⟨rfl, rfl⟩)
      · exact .inr (.inr (.inr ⟨rfl, h⟩))
    · exact .inr (.inr (.inl h))
theorem less_asymm {a b : List UInt8} (h : Op.bytesLess a b = true) : Op.bytesLess b a = false := by
  cases h2 : Op.bytesLess b a with
  | false => rfl
  | true => have := less_trans a b a h h2; rw [less_irrefl] at this; cases this

/-- How two texts stand. -/
def cmpB (a b : ByteArray) : Int := if Op.bytesLess a.data.toList b.data.toList = true then -1 else if a = b then 0 else 1
theorem bytes_inj {a b : ByteArray} (h : a.data.toList = b.data.toList) : a = b := by cases a; cases b; simp at h; rw [h]
theorem cmpB_neg (a b : ByteArray) : cmpB a b = -cmpB b a := by
  unfold cmpB
  rcases less_tri a.data.toList b.data.toList with h | h | h
  · have h1 := less_asymm h
    have : ¬ b = a := fun e => by rw [e, less_irrefl] at h; cases h
    simp [h, h1, this]
  · have := bytes_inj h
    subst this
    simp [less_irrefl]
  · have h1 := less_asymm h
    have : ¬ a = b := fun e => by rw [e, less_irrefl] at h; cases h
    simp [h, h1, this]
theorem cmpB_zero (a b : ByteArray) : cmpB a b = 0 ↔ a = b := by
  unfold cmpB
  constructor
  · intro h
    split at h
    · omega
    · split at h
      · assumption
      · omega
  · rintro rfl
    simp [less_irrefl]
theorem cmpB_lt (a b : ByteArray) : cmpB a b < 0 ↔ Op.bytesLess a.data.toList b.data.toList = true := by
  unfold cmpB
  split
  · rename_i h; simp [h]
  · rename_i h
    split
    · rename_i e; subst e; simp [less_irrefl]
    · simp [h]
theorem cmpB_trans {a b c : ByteArray} (h1 : cmpB a b < 0) (h2 : cmpB b c < 0) : cmpB a c < 0 := by
  rw [cmpB_lt] at *
  exact less_trans _ _ _ h1 h2
theorem cmpB_cases (a b : ByteArray) : cmpB a b = -1 ∨ cmpB a b = 0 ∨ cmpB a b = 1 := by
  unfold cmpB; split <;> (try split) <;> simp

/-- How two entries stand. -/
def cmpE (a b : Ent) : Int := if a.key = b.key then cmpB a.value b.value else cmpB a.key b.key
theorem cmpE_cases (a b : Ent) : cmpE a b = -1 ∨ cmpE a b = 0 ∨ cmpE a b = 1 := by
  unfold cmpE; split <;> exact cmpB_cases _ _
theorem cmpE_neg (a b : Ent) : cmpE a b = -cmpE b a := by
  unfold cmpE
  by_cases h : a.key = b.key
  · rw [if_pos h, if_pos h.symm, cmpB_neg]
  · rw [if_neg h, if_neg (fun e => h e.symm), cmpB_neg]
theorem cmpE_zero (a b : Ent) : cmpE a b = 0 ↔ a = b := by
  unfold cmpE
  by_cases h : a.key = b.key
  · rw [if_pos h, cmpB_zero]
    obtain ⟨k, v⟩ := a; obtain ⟨k', v'⟩ := b
    simp at h ⊢
    simp [h]
  · rw [if_neg h, cmpB_zero]
    exact ⟨fun e => absurd e h, fun e => absurd (by rw [e]) h⟩
theorem cmpE_trans {a b c : Ent} (h1 : cmpE a b < 0) (h2 : cmpE b c < 0) : cmpE a c < 0 := by
  unfold cmpE at *
  by_cases e1 : a.key = b.key
  · rw [if_pos e1] at h1
    by_cases e2 : b.key = c.key
    · rw [if_pos e2] at h2
      rw [if_pos (e1.trans e2)]
      exact cmpB_trans h1 h2
    · rw [if_neg e2] at h2
      rw [if_neg (by rw [e1]; exact e2), e1]
      exact h2
  · rw [if_neg e1] at h1
    by_cases e2 : b.key = c.key
    · rw [if_pos e2] at h2
      rw [if_neg (by rw [← e2]; exact e1), ← e2]
      exact h1
    · rw [if_neg e2] at h2
      have h3 := cmpB_trans h1 h2
      have : ¬ a.key = c.key := fun e => by rw [e, (cmpB_zero _ _).2 rfl] at h3; omega
      rw [if_neg this]
      exact h3

end Go.Proofs.YtiolkedmpjjojaaGreatDoor.em
