/-
  Fmath, Texts, AppT, Fref, Frall, Bld, Frame, Fparse, Law05
-/
import Derived.Test.YtbebdaglkjhbjaaGreatDoorBundB
import Derived.Test.YtbebdaglkjhbjaaGreatDoorBundA
import Derived.Deep.AppendLies
import Derived.Test.YtbebdaglkjhbjaaGreatDoorShelf
import Derived.Lib.FrozenHead
import Derived.Lib.UnsafeStr
import Derived.Shelf.Strings.Builder1

/-
  Plain mathematics of frames and of streams of frames: no function of the program.
-/
namespace Go.Proofs.YtbebdaglkjhbjaaGreatDoor.fm
open Go.RowKit Go.Proofs.YtbebdaglkjhbjaaGreatDoor.vi Go.Proofs.YtbebdaglkjhbjaaGreatDoor.crcm
set_option linter.unusedVariables false
set_option linter.unusedSimpArgs false

/-- What stands ahead of a payload of n bytes. -/
def hd (n : Nat) : List UInt8 := 81 :: 70 :: enc n
/-- The frame of some bytes. -/
def fr (p : List UInt8) : List UInt8 := hd p.length ++ (p ++ put4 (sumN p))

theorem hd_len (n : Nat) : (hd n).length = 2 + (enc n).length := by simp [hd]; omega
theorem fr_len (p : List UInt8) : (fr p).length = 2 + (enc p.length).length + p.length + 4 := by
  simp [fr, hd_len, put4]; omega

/-- Behind the mark. -/
def bodyR (R : List UInt8) : List UInt8 × Nat × Nat :=
  if (getR R).2.2 ≠ 0 then ([], 0, (getR R).2.2)
  else if 65536 < (getR R).1 then ([], 0, 4)
  else if R.length < (getR R).2.1 + (getR R).1 + 4 then ([], 0, 1)
  else if num ((R.drop ((getR R).2.1 + (getR R).1)).take 4) ≠ sumN ((R.drop (getR R).2.1).take (getR R).1) then ([], 0, 6)
  else ((R.drop (getR R).2.1).take (getR R).1, 2 + (getR R).2.1 + (getR R).1 + 4, 0)

/-- The frame that bytes begin with: payload, how many bytes, error. -/
def parseR (L : List UInt8) : List UInt8 × Nat × Nat :=
  if (0 < L.length ∧ L.getD 0 0 ≠ 81) ∨ (1 < L.length ∧ L.getD 1 0 ≠ 70) then ([], 0, 5)
  else if L.length < 2 then ([], 0, 1)
  else bodyR (L.drop 2)

theorem parseR_mark (R : List UInt8) : parseR (81 :: 70 :: R) = bodyR R := by
  unfold parseR
  rw [if_neg (by simp), if_neg (by simp)]
  rfl

theorem mark_of {L : List UInt8} (h1 : ¬ ((0 < L.length ∧ L.getD 0 0 ≠ 81) ∨ (1 < L.length ∧ L.getD 1 0 ≠ 70))) (h2 : ¬ L.length < 2) : ∃ R, L = 81 :: 70 :: R := by
  match L, h2 with
  | a :: b :: R, _ =>
    have ha : a = 81 := by
      by_cases h : a = 81
      · exact h
      · exact absurd (.inl ⟨by simp, by simpa using h⟩) h1
    have hb : b = 70 := by
      by_cases h : b = 70
      · exact h
      · exact absurd (.inr ⟨by simp, by simpa using h⟩) h1
    exact ⟨R, by rw [ha, hb]⟩
  | [], h2 => simp at h2
  | [a], h2 => simp at h2

theorem getR_mono (L M : List UInt8) (h : (getR L).2.2 ≠ 1) : getR (L ++ M) = getR L := by
  have hD : ∀ j, j < L.length → (L ++ M).getD j 0 = L.getD j 0 := fun j hj => getD_append_left hj
  rcases getR_cases L with ⟨k, hk, h10, hall, hlow⟩ | ⟨hlen, hall⟩ | ⟨hlen, hall⟩
  · rw [getR_at hk h10 hall hlow, getR_at (L := L ++ M) (k := k) (by simp; omega) h10 (fun j hj => by rw [hD j (by omega)]; exact hall j hj) (by rw [hD k hk]; exact hlow)]
    rw [hD k hk]
    have : (L ++ M).take (k + 1) = L.take (k + 1) := List.take_append_of_le_length (by omega)
    rw [this]
  · rw [getR_long hlen hall, getR_long (L := L ++ M) (by simp; omega) (fun j hj => by rw [hD j (by omega)]; exact hall j hj)]
  · exact absurd (by rw [getR_short hlen hall]) h

/-- A head, so many bytes, and four more. -/
theorem parse_at (n : Nat) (hn : n ≤ 65536) (N t : List UInt8) (hN : N.length = n + 4) :
    parseR (hd n ++ (N ++ t)) = if num (N.drop n) = sumN (N.take n) then (N.take n, 2 + (enc n).length + n + 4, 0) else ([], 0, 6) := by
  have hg := getR_enc (n := n) (by omega) (N ++ t)
  show parseR (81 :: 70 :: (enc n ++ (N ++ t))) = _
  rw [parseR_mark]
  unfold bodyR
  rw [hg]
  simp only [ne_eq, not_true, if_false]
  rw [if_neg (by omega), if_neg (by simp; omega)]
  have e1 : ((enc n ++ (N ++ t)).drop ((enc n).length + n)).take 4 = N.drop n := by
    rw [← List.drop_drop, List.drop_left, List.drop_append_of_le_length (by omega), List.take_append_of_le_length (by simp; omega), List.take_of_length_le (by simp; omega)]
  have e2 : ((enc n ++ (N ++ t)).drop (enc n).length).take n = N.take n := by
    rw [List.drop_left, List.take_append_of_le_length (by omega)]
  rw [e1, e2]
  by_cases h : num (N.drop n) = sumN (N.take n)
  · rw [if_neg (fun h' => h' h), if_pos h]
  · rw [if_pos h, if_neg h]

theorem parse_fr (p t : List UInt8) (hp : p.length ≤ 65536) : parseR (fr p ++ t) = (p, (fr p).length, 0) := by
  have h := parse_at p.length hp (p ++ put4 (sumN p)) t (by simp [put4])
  rw [fr, List.append_assoc]
  rw [h, List.drop_left, List.take_left]
  have hl : sumN p < 4294967296 := by unfold sumN; omega
  rw [if_pos (num_put4 hl)]
  have := fr_len p
  unfold fr at this
  rw [this]

/-- What is read would be framed so. -/
theorem parse_ok {L : List UInt8} (h : (parseR L).2.2 = 0) : L.take (parseR L).2.1 = fr (parseR L).1 ∧ (parseR L).1.length ≤ 65536 ∧ (parseR L).2.1 = (fr (parseR L).1).length ∧ (parseR L).2.1 ≤ L.length := by
  unfold parseR at h ⊢
  split at h
  · simp at h
  · split at h
    · simp at h
    · rename_i h1 h2
      rw [if_neg h1, if_neg h2]
      obtain ⟨R, rfl⟩ := mark_of h1 h2
      have e : (81 :: 70 :: R : List UInt8).drop 2 = R := rfl
      rw [e] at h ⊢
      unfold bodyR at h ⊢
      by_cases h3 : (getR R).2.2 ≠ 0
      · rw [if_pos h3] at h; exact absurd h h3
      · rw [if_neg h3] at h ⊢
        have h0 : (getR R).2.2 = 0 := by simpa using h3
        by_cases h4 : 65536 < (getR R).1
        · rw [if_pos h4] at h; simp at h
        · rw [if_neg h4] at h ⊢
          by_cases h5 : R.length < (getR R).2.1 + (getR R).1 + 4
          · rw [if_pos h5] at h; simp at h
          · rw [if_neg h5] at h ⊢
            by_cases h6 : num ((R.drop ((getR R).2.1 + (getR R).1)).take 4) ≠ sumN ((R.drop (getR R).2.1).take (getR R).1)
            · rw [if_pos h6] at h; simp at h
            · rw [if_neg h6]
              have henc := enc_getR h0
              have hb := getR_bounds R
              obtain ⟨hb1, hb2, hb3, hb4, hb5⟩ := hb
              have hx : num ((R.drop ((getR R).2.1 + (getR R).1)).take 4) = sumN ((R.drop (getR R).2.1).take (getR R).1) := by
                by_cases hx : num ((R.drop ((getR R).2.1 + (getR R).1)).take 4) = sumN ((R.drop (getR R).2.1).take (getR R).1)
                · exact hx
                · exact absurd hx h6
              generalize getR R = r at *
              obtain ⟨n, k, E⟩ := r
              simp only at *
              have hpl : ((R.drop k).take n).length = n := by simp; omega
              have hlen : (fr ((R.drop k).take n)).length = 2 + k + n + 4 := by
                rw [fr_len, hpl, henc]; simp; omega
              have h4l : ((R.drop (k + n)).take 4).length = 4 := by simp; omega
              have hlt : sumN ((R.drop k).take n) < 4294967296 := by unfold sumN; omega
              have hput : put4 (sumN ((R.drop k).take n)) = (R.drop (k + n)).take 4 := num_inj _ _ (by rw [h4l]; rfl) (by rw [num_put4 hlt, hx])
              refine ⟨?_, by omega, hlen.symm, by simp; omega⟩
              rw [fr, hd, hpl, henc, hput, show 2 + k + n + 4 = (k + n + 4) + 2 by omega]
              show 81 :: 70 :: R.take (k + n + 4) = 81 :: 70 :: (R.take k ++ ((R.drop k).take n ++ (R.drop (k + n)).take 4))
              congr 2
              rw [show k + n + 4 = k + (n + 4) by omega, List.take_add, List.take_add, List.drop_drop]

theorem parse_err {L : List UInt8} (h : (parseR L).2.2 ≠ 0) : (parseR L).1 = [] ∧ (parseR L).2.1 = 0 := by
  unfold parseR at h ⊢
  split
  · exact ⟨rfl, rfl⟩
  · split
    · exact ⟨rfl, rfl⟩
    · rename_i h1 h2
      rw [if_neg h1, if_neg h2] at h
      unfold bodyR at h ⊢
      split
      · exact ⟨rfl, rfl⟩
      · split
        · exact ⟨rfl, rfl⟩
        · split
          · exact ⟨rfl, rfl⟩
          · split
            · exact ⟨rfl, rfl⟩
            · rename_i h3 h4 h5 h6
              rw [if_neg h3, if_neg h4, if_neg h5, if_neg h6] at h
              exact absurd rfl h

theorem parse_lt (L : List UInt8) : (parseR L).2.2 < 7 := by
  have hb := getR_bounds (L.drop 2)
  unfold parseR
  split
  · simp
  · split
    · simp
    · unfold bodyR
      split
      · simp only; omega
      · split
        · simp
        · split
          · simp
          · split <;> simp

theorem parse_nil : parseR [] = ([], 0, 1) := by simp [parseR]

theorem parse_pos {L : List UInt8} (h : (parseR L).2.2 = 0) : 0 < (parseR L).2.1 := by
  rw [(parse_ok h).2.2.1, fr_len]; omega

/-- What isn't too short stays as it is, whatever comes behind. -/
theorem parse_mono (L M : List UInt8) (h : (parseR L).2.2 ≠ 1) : parseR (L ++ M) = parseR L := by
  by_cases h0 : (parseR L).2.2 = 0
  · obtain ⟨h1, h2, h3, h4⟩ := parse_ok h0
    have hsplit : L = fr (parseR L).1 ++ L.drop (parseR L).2.1 := by rw [← h1, List.take_append_drop]
    have := parse_fr (parseR L).1 (L.drop (parseR L).2.1 ++ M) h2
    rw [← List.append_assoc, ← hsplit] at this
    rw [this]
    apply Prod.ext
    · rfl
    · apply Prod.ext
      · exact h3.symm
      · exact h0.symm
  · have hD : ∀ j, j < L.length → (L ++ M).getD j 0 = L.getD j 0 := fun j hj => getD_append_left hj
    by_cases h1 : (0 < L.length ∧ L.getD 0 0 ≠ 81) ∨ (1 < L.length ∧ L.getD 1 0 ≠ 70)
    · unfold parseR
      rw [if_pos h1, if_pos]
      rcases h1 with ⟨h2, h3⟩ | ⟨h2, h3⟩
      · exact .inl ⟨by simp; omega, by rw [hD 0 h2]; exact h3⟩
      · exact .inr ⟨by simp; omega, by rw [hD 1 h2]; exact h3⟩
    · by_cases h2 : L.length < 2
      · unfold parseR at h
        rw [if_neg h1, if_pos h2] at h
        exact absurd rfl h
      · obtain ⟨R, rfl⟩ := mark_of h1 h2
        rw [parseR_mark] at h h0
        show parseR (81 :: 70 :: (R ++ M)) = _
        rw [parseR_mark, parseR_mark]
        have hne : (getR R).2.2 ≠ 1 := by
          intro he
          unfold bodyR at h
          rw [if_pos (by omega)] at h
          exact h he
        have hm := getR_mono R M hne
        have hb := getR_bounds R
        unfold bodyR at h h0 ⊢
        rw [hm]
        by_cases h3 : (getR R).2.2 ≠ 0
        · rw [if_pos h3, if_pos h3]
        · rw [if_neg h3] at h h0 ⊢
          rw [if_neg h3]
          by_cases h4 : 65536 < (getR R).1
          · rw [if_pos h4, if_pos h4]
          · rw [if_neg h4] at h h0 ⊢
            rw [if_neg h4]
            by_cases h5 : R.length < (getR R).2.1 + (getR R).1 + 4
            · rw [if_pos h5] at h; exact absurd rfl h
            · rw [if_neg h5] at h h0 ⊢
              rw [if_neg (by simp; omega)]
              have e1 : ((R ++ M).drop ((getR R).2.1 + (getR R).1)).take 4 = (R.drop ((getR R).2.1 + (getR R).1)).take 4 := by
                rw [List.drop_append_of_le_length (by omega), List.take_append_of_le_length (by simp; omega)]
              have e2 : ((R ++ M).drop (getR R).2.1).take (getR R).1 = (R.drop (getR R).2.1).take (getR R).1 := by
                rw [List.drop_append_of_le_length (by omega), List.take_append_of_le_length (by simp; omega)]
              rw [e1, e2]

/-- Cut a frame is too short. -/
theorem parse_cut (p : List UInt8) (hp : p.length ≤ 65536) (c : Nat) (hc : c < (fr p).length) : parseR ((fr p).take c) = ([], 0, 1) := by
  have key : (parseR ((fr p).take c)).2.2 = 1 := by
    by_cases h : (parseR ((fr p).take c)).2.2 = 1
    · exact h
    · exfalso
      have hm := parse_mono _ ((fr p).drop c) h
      rw [List.take_append_drop] at hm
      have hf := parse_fr p [] hp
      rw [List.append_nil] at hf
      rw [hf] at hm
      have h0 : (parseR ((fr p).take c)).2.2 = 0 := by rw [← hm]
      have := (parse_ok h0).2.2.2
      rw [← hm] at this
      simp at this
      omega
  have he := parse_err (L := (fr p).take c) (by omega)
  apply Prod.ext
  · exact he.1
  · apply Prod.ext
    · exact he.2
    · exact key

/-- The ways that a text is read, one by one. -/
theorem parse_cases (L : List UInt8) :
    (0 < L.length ∧ L.getD 0 0 ≠ 81 ∧ parseR L = ([], 0, 5)) ∨
    (1 < L.length ∧ L.getD 0 0 = 81 ∧ L.getD 1 0 ≠ 70 ∧ parseR L = ([], 0, 5)) ∨
    (L.length = 0 ∧ parseR L = ([], 0, 1)) ∨
    (L.length = 1 ∧ L.getD 0 0 = 81 ∧ parseR L = ([], 0, 1)) ∨
    (2 ≤ L.length ∧ L.getD 0 0 = 81 ∧ L.getD 1 0 = 70 ∧
      (((getR (L.drop 2)).2.2 ≠ 0 ∧ parseR L = ([], 0, (getR (L.drop 2)).2.2)) ∨
       ((getR (L.drop 2)).2.2 = 0 ∧ 65536 < (getR (L.drop 2)).1 ∧ parseR L = ([], 0, 4)) ∨
       ((getR (L.drop 2)).2.2 = 0 ∧ (getR (L.drop 2)).1 ≤ 65536 ∧ L.length < 2 + (getR (L.drop 2)).2.1 + (getR (L.drop 2)).1 + 4 ∧ parseR L = ([], 0, 1)) ∨
       ((getR (L.drop 2)).2.2 = 0 ∧ (getR (L.drop 2)).1 ≤ 65536 ∧ 2 + (getR (L.drop 2)).2.1 + (getR (L.drop 2)).1 + 4 ≤ L.length ∧
         (((L.drop (2 + (getR (L.drop 2)).2.1 + (getR (L.drop 2)).1)).take 4 = put4 (sumN ((L.drop (2 + (getR (L.drop 2)).2.1)).take (getR (L.drop 2)).1)) ∧
            L.take (2 + (getR (L.drop 2)).2.1 + (getR (L.drop 2)).1 + 4) = fr ((L.drop (2 + (getR (L.drop 2)).2.1)).take (getR (L.drop 2)).1) ∧
            parseR L = ((L.drop (2 + (getR (L.drop 2)).2.1)).take (getR (L.drop 2)).1, 2 + (getR (L.drop 2)).2.1 + (getR (L.drop 2)).1 + 4, 0)) ∨
         ((L.drop (2 + (getR (L.drop 2)).2.1 + (getR (L.drop 2)).1)).take 4 ≠ put4 (sumN ((L.drop (2 + (getR (L.drop 2)).2.1)).take (getR (L.drop 2)).1)) ∧
            L.take (2 + (getR (L.drop 2)).2.1 + (getR (L.drop 2)).1 + 4) ≠ fr ((L.drop (2 + (getR (L.drop 2)).2.1)).take (getR (L.drop 2)).1) ∧
            parseR L = ([], 0, 6)))))) := by
  by_cases h1 : 0 < L.length ∧ L.getD 0 0 ≠ 81
  · exact .inl ⟨h1.1, h1.2, by unfold parseR; rw [if_pos (.inl h1)]⟩
  by_cases h2 : 1 < L.length ∧ L.getD 1 0 ≠ 70
  · refine .inr (.inl ⟨h2.1, ?_, h2.2, by unfold parseR; rw [if_pos (.inr h2)]⟩)
    by_cases h : L.getD 0 0 = 81
    · exact h
    · exact absurd ⟨by omega, h⟩ h1
  have h12 : ¬ ((0 < L.length ∧ L.getD 0 0 ≠ 81) ∨ (1 < L.length ∧ L.getD 1 0 ≠ 70)) := fun h => h.elim h1 h2
  by_cases h3 : L.length < 2
  · have hp : parseR L = ([], 0, 1) := by unfold parseR; rw [if_neg h12, if_pos h3]
    by_cases h0 : L.length = 0
    · exact .inr (.inr (.inl ⟨h0, hp⟩))
    · refine .inr (.inr (.inr (.inl ⟨by omega, ?_, hp⟩)))
      by_cases h : L.getD 0 0 = 81
      · exact h
      · exact absurd ⟨by omega, h⟩ h1
  obtain ⟨R, rfl⟩ := mark_of h12 h3
  refine .inr (.inr (.inr (.inr ⟨by simp, rfl, rfl, ?_⟩)))
  have e : (81 :: 70 :: R : List UInt8).drop 2 = R := rfl
  have hd : ∀ j, (81 :: 70 :: R : List UInt8).drop (2 + j) = R.drop j := fun j => by rw [← List.drop_drop]; rfl
  rw [e, parseR_mark]
  by_cases h4 : (getR R).2.2 ≠ 0
  · exact .inl ⟨h4, by unfold bodyR; rw [if_pos h4]⟩
  have h0 : (getR R).2.2 = 0 := by simpa using h4
  by_cases h5 : 65536 < (getR R).1
  · exact .inr (.inl ⟨h0, h5, by unfold bodyR; rw [if_neg h4, if_pos h5]⟩)
  by_cases h6 : R.length < (getR R).2.1 + (getR R).1 + 4
  · exact .inr (.inr (.inl ⟨h0, by omega, by simp only [List.length_cons]; omega, by unfold bodyR; rw [if_neg h4, if_neg h5, if_pos h6]⟩))
  refine .inr (.inr (.inr ⟨h0, by omega, by simp only [List.length_cons]; omega, ?_⟩))
  rw [show 2 + (getR R).2.1 + (getR R).1 = 2 + ((getR R).2.1 + (getR R).1) by omega, hd, hd]
  have hlt : sumN ((R.drop (getR R).2.1).take (getR R).1) < 4294967296 := by unfold sumN; omega
  have h4l : ((R.drop ((getR R).2.1 + (getR R).1)).take 4).length = 4 := by simp; omega
  by_cases h7 : num ((R.drop ((getR R).2.1 + (getR R).1)).take 4) = sumN ((R.drop (getR R).2.1).take (getR R).1)
  · have hput : (R.drop ((getR R).2.1 + (getR R).1)).take 4 = put4 (sumN ((R.drop (getR R).2.1).take (getR R).1)) := num_inj _ _ (by rw [h4l]; rfl) (by rw [num_put4 hlt, h7])
    have hp : parseR (81 :: 70 :: R) = ((R.drop (getR R).2.1).take (getR R).1, 2 + (getR R).2.1 + (getR R).1 + 4, 0) := by
      rw [parseR_mark]
      unfold bodyR
      rw [if_neg h4, if_neg h5, if_neg h6, if_neg (fun h' => h' h7)]
    have hk := parse_ok (L := (81 :: 70 :: R)) (by rw [hp])
    rw [hp] at hk
    refine .inl ⟨hput, ?_, ?_⟩
    · rw [show 2 + ((getR R).2.1 + (getR R).1) + 4 = 2 + (getR R).2.1 + (getR R).1 + 4 by omega]
      exact hk.1
    · rw [← parseR_mark, hp, show 2 + ((getR R).2.1 + (getR R).1) + 4 = 2 + (getR R).2.1 + (getR R).1 + 4 by omega]
  · refine .inr ⟨fun h => h7 (by rw [h, num_put4 hlt]), fun h => h7 ?_, ?_⟩
    · have h8 := congrArg (List.drop (2 + ((getR R).2.1 + (getR R).1))) h
      rw [List.drop_take, hd, show 2 + ((getR R).2.1 + (getR R).1) + 4 - (2 + ((getR R).2.1 + (getR R).1)) = 4 by omega] at h8
      have hpl : ((R.drop (getR R).2.1).take (getR R).1).length = (getR R).1 := by simp; omega
      have henc : (enc (getR R).1).length = (getR R).2.1 := by
        rw [enc_getR h0]
        have := (getR_bounds R).2.1
        simp; omega
      have hfl : (fm.hd (getR R).1 ++ (R.drop (getR R).2.1).take (getR R).1).length = 2 + ((getR R).2.1 + (getR R).1) := by
        rw [List.length_append, hd_len, henc, hpl]; omega
      have hfr : fr ((R.drop (getR R).2.1).take (getR R).1) = (fm.hd (getR R).1 ++ (R.drop (getR R).2.1).take (getR R).1) ++ put4 (sumN ((R.drop (getR R).2.1).take (getR R).1)) := by
        rw [fr, hpl, List.append_assoc]
      rw [hfr, List.drop_left' hfl] at h8
      rw [h8, num_put4 hlt]
    · unfold bodyR
      rw [if_neg h4, if_neg h5, if_neg h6, if_pos h7]

/-! All frames of some bytes. -/
def framesR (L : List UInt8) : List (List UInt8) × Nat :=
  if hL : L = [] then ([], 0)
  else if h : (parseR L).2.2 ≠ 0 then ([], (parseR L).2.2)
  else if (framesR (L.drop (parseR L).2.1)).2 = 0 then ((parseR L).1 :: (framesR (L.drop (parseR L).2.1)).1, 0)
  else ([], (framesR (L.drop (parseR L).2.1)).2)
termination_by L.length
decreasing_by
  all_goals
    have h0 : (parseR L).2.2 = 0 := by simpa using h
    have := parse_pos h0
    have : 0 < L.length := List.length_pos_iff.2 hL
    simp only [List.length_drop]
    omega

/-- Texts that are there already, and those that come. -/
def glueF (acc : List (List UInt8)) (q : List (List UInt8) × Nat) : List (List UInt8) × Nat := if q.2 = 0 then (acc ++ q.1, 0) else ([], q.2)

theorem framesR_nil : framesR [] = ([], 0) := by rw [framesR, dif_pos rfl]
theorem framesR_err {L : List UInt8} (h : L ≠ []) (h2 : (parseR L).2.2 ≠ 0) : framesR L = ([], (parseR L).2.2) := by rw [framesR, dif_neg h, dif_pos h2]
theorem framesR_ok {L : List UInt8} (h : L ≠ []) (h2 : (parseR L).2.2 = 0) : framesR L = glueF [(parseR L).1] (framesR (L.drop (parseR L).2.1)) := by
  rw [framesR, dif_neg h, dif_neg (by simpa using h2)]
  unfold glueF
  split <;> simp_all

theorem glueF_glueF (a b : List (List UInt8)) (q : List (List UInt8) × Nat) : glueF a (glueF b q) = glueF (a ++ b) q := by
  unfold glueF
  by_cases h : q.2 = 0
  · simp [h]
  · simp [h]

/-! A stream of frames: what was delivered, the error, how many bytes wait. -/
def ofR (L : List UInt8) : List (List UInt8) × Nat × Nat :=
  if (parseR L).2.2 = 1 then ([], 0, L.length)
  else if h : (parseR L).2.2 ≠ 0 then ([], (parseR L).2.2, 0)
  else ((parseR L).1 :: (ofR (L.drop (parseR L).2.1)).1, (ofR (L.drop (parseR L).2.1)).2)
termination_by L.length
decreasing_by
  all_goals
    have h0 : (parseR L).2.2 = 0 := by simpa using h
    have := parse_pos h0
    have := (parse_ok h0).2.2.2
    simp only [List.length_drop]
    omega

theorem ofR_short {L : List UInt8} (h : (parseR L).2.2 = 1) : ofR L = ([], 0, L.length) := by rw [ofR, if_pos h]
theorem ofR_bad {L : List UInt8} (h : (parseR L).2.2 ≠ 1) (h2 : (parseR L).2.2 ≠ 0) : ofR L = ([], (parseR L).2.2, 0) := by rw [ofR, if_neg h, dif_pos h2]
theorem ofR_ok {L : List UInt8} (h : (parseR L).2.2 = 0) : ofR L = ((parseR L).1 :: (ofR (L.drop (parseR L).2.1)).1, (ofR (L.drop (parseR L).2.1)).2) := by
  rw [ofR, if_neg (by omega), dif_neg (by simpa using h)]

theorem ofR_nil : ofR [] = ([], 0, 0) := by rw [ofR_short (by rw [parse_nil])]; rfl

theorem ofR_bounds : ∀ (m : Nat) (L : List UInt8), L.length ≤ m → (ofR L).2.2 ≤ L.length ∧ (ofR L).1.length ≤ L.length ∧ (ofR L).2.1 < 7 ∧ ((ofR L).2.1 ≠ 0 → (ofR L).2.2 = 0) ∧ (ofR L).2.1 ≠ 1 := by
  intro m
  induction m with
  | zero =>
    intro L hm
    have : L = [] := List.length_eq_zero_iff.1 (by omega)
    subst this
    rw [ofR_nil]
    simp
  | succ m ih =>
    intro L hm
    by_cases h1 : (parseR L).2.2 = 1
    · rw [ofR_short h1]; simp
    · by_cases h0 : (parseR L).2.2 = 0
      · have hp := parse_pos h0
        have hl := (parse_ok h0).2.2.2
        have := ih (L.drop (parseR L).2.1) (by simp; omega)
        rw [ofR_ok h0]
        simp only [List.length_drop, List.length_cons] at this ⊢
        omega
      · rw [ofR_bad h1 h0]
        have := parse_lt L
        simp
        omega

/-- What waits of a stream. -/
def restR (L : List UInt8) : List UInt8 := L.drop (L.length - (ofR L).2.2)

theorem restR_def (L : List UInt8) : restR L = L.drop (L.length - (ofR L).2.2) := rfl
theorem restR_len (L : List UInt8) : (restR L).length = (ofR L).2.2 := by
  have := (ofR_bounds _ L (Nat.le_refl _)).1
  simp [restR]; omega

theorem restR_short {L : List UInt8} (h : (parseR L).2.2 = 1) : restR L = L := by
  unfold restR
  rw [ofR_short h]
  simp

theorem restR_ok {L : List UInt8} (h : (parseR L).2.2 = 0) : restR L = restR (L.drop (parseR L).2.1) := by
  have hl := (parse_ok h).2.2.2
  have hb := (ofR_bounds _ (L.drop (parseR L).2.1) (Nat.le_refl _)).1
  unfold restR
  rw [ofR_ok h]
  simp only [List.length_drop, List.drop_drop] at hb ⊢
  congr 1
  omega

/-- How a stream is cut plays no part. -/
theorem ofR_append : ∀ (m : Nat) (L M : List UInt8), L.length ≤ m →
    ofR (L ++ M) = if (ofR L).2.1 ≠ 0 then ofR L else ((ofR L).1 ++ (ofR (restR L ++ M)).1, (ofR (restR L ++ M)).2) := by
  intro m
  induction m with
  | zero =>
    intro L M hm
    have : L = [] := List.length_eq_zero_iff.1 (by omega)
    subst this
    rw [restR_short (by rw [parse_nil]), ofR_nil]
    simp
  | succ m ih =>
    intro L M hm
    by_cases h1 : (parseR L).2.2 = 1
    · rw [restR_short h1, ofR_short h1]; simp
    · have hmo := parse_mono L M h1
      by_cases h0 : (parseR L).2.2 = 0
      · have hp := parse_pos h0
        have hl := (parse_ok h0).2.2.2
        have hi := ih (L.drop (parseR L).2.1) M (by simp; omega)
        have hd : (L ++ M).drop (parseR L).2.1 = L.drop (parseR L).2.1 ++ M := List.drop_append_of_le_length hl
        rw [ofR_ok (L := L ++ M) (by rw [hmo]; exact h0), hmo, hd, hi, restR_ok h0, ofR_ok h0]
        by_cases hz : (ofR (L.drop (parseR L).2.1)).2.1 ≠ 0
        · simp [hz]
        · simp at hz
          simp [hz]
      · rw [ofR_bad (L := L ++ M) (by rw [hmo]; exact h1) (by rw [hmo]; exact h0), hmo, ofR_bad h1 h0]
        simp [h0]

theorem ofR_app (L M : List UInt8) : ofR (L ++ M) = if (ofR L).2.1 ≠ 0 then ofR L else ((ofR L).1 ++ (ofR (restR L ++ M)).1, (ofR (restR L ++ M)).2) := ofR_append _ L M (Nat.le_refl _)

theorem restR_app (L M : List UInt8) (h : (ofR L).2.1 = 0) : restR (L ++ M) = restR (restR L ++ M) := by
  have h1 := restR_len (restR L ++ M)
  have h2 := ofR_app L M
  rw [if_neg (by simpa using h)] at h2
  have hb := (ofR_bounds _ L (Nat.le_refl _)).1
  have hb2 := (ofR_bounds _ (restR L ++ M) (Nat.le_refl _)).1
  have hr := restR_len L
  have hL : L = L.take (L.length - (ofR L).2.2) ++ restR L := by unfold restR; rw [List.take_append_drop]
  have e : (ofR (L ++ M)).2.2 = (ofR (restR L ++ M)).2.2 := by rw [h2]
  rw [restR_def (L ++ M), restR_def (restR L ++ M)]
  rw [e]
  have e2 : L ++ M = L.take (L.length - (ofR L).2.2) ++ (restR L ++ M) := by rw [← List.append_assoc, ← hL]
  generalize (ofR (restR L ++ M)).2.2 = k at *
  rw [e2]
  rw [List.drop_append]
  have hlen : (L.take (L.length - (ofR L).2.2) ++ (restR L ++ M)).length - k = (L.take (L.length - (ofR L).2.2)).length + ((restR L ++ M).length - k) := by
    simp only [List.length_append] at hb2 ⊢
    omega
  rw [hlen]
  rw [List.drop_eq_nil_of_le (by omega)]
  simp

end Go.Proofs.YtbebdaglkjhbjaaGreatDoor.fm

/-
  Rows of texts: what holds them, and slices.Equal of two that hold the same.
-/
namespace Go.Proofs.YtbebdaglkjhbjaaGreatDoor.fm
open Go.RowKit Go.Proofs.YtbebdaglkjhbjaaGreatDoor.vi
set_option linter.unusedVariables false
set_option linter.unusedSimpArgs false

/-- Bytes as a text. -/
def str (l : List UInt8) : ByteArray := ⟨l.toArray⟩
theorem str_list (l : List UInt8) : (str l).data.toList = l := rfl
theorem str_size (l : List UInt8) : (str l).size = l.length := size_of_list l
theorem str_of (s : ByteArray) : str s.data.toList = s := by cases s; simp [str]

def texts (l : List (List UInt8)) : List Value := l.map fun x => .string (str x)

theorem Tryz.infoStr : (Tryz.prog.info? 9).map (fun i => (i.zero, i.size, i.bytes)) = some (some (.string ⟨#[]⟩), 1, 16) := by kernel_rfl

/-- A list of texts that is the call's own. -/
def Own (base : Nat) (w : World) (v : Value) (l : List (List UInt8)) : Prop := w.ownsRow base 9 1 v l.length (texts l)

theorem Own.nil (base : Nat) (w : World) : Own base w (.slice none 0 0) [] := World.ownsRow_nil _ _ _ _
theorem Own.kept {base : Nat} {w w' : World} {v : Value} {l : List (List UInt8)} (h : Own base w v l) (g : w.grownBy w' none) : Own base w' v l := law02.row_kept h g
theorem Own.mono {base base' : Nat} {w : World} {v : Value} {l : List (List UInt8)} (h : Own base w v l) (hb : base' ≤ base) : Own base' w v l := World.ownsRow.mono h hb

theorem own_cell {base : Nat} {w : World} {g c : Nat} {l : List (List UInt8)} (h : w.ownsRow base 9 1 (.slice (some ⟨g, 0, none⟩) l.length c) l.length (texts l)) (j : Nat) (hj : j < l.length) :
    w.cell? ⟨g, 0 + j, none⟩ = some (.string ((l.map str).getD j ByteArray.empty)) := by
  rw [Nat.zero_add, h.cellAt j (by omega)]
  simp [texts, List.getD_eq_getElem?_getD, hj]

end Go.Proofs.YtbebdaglkjhbjaaGreatDoor.fm

/-
  append of texts to the call's own list.
-/
namespace Go.Proofs.YtbebdaglkjhbjaaGreatDoor.fm
open Go.RowKit Go.Proofs.YtbebdaglkjhbjaaGreatDoor.vi
set_option linter.unusedVariables false
set_option linter.unusedSimpArgs false

theorem Own.one (w : World) (x : List UInt8) : Own w.heap.size (w.alloc (.cells #[.string (str x)] 9)) (.slice (some ⟨w.heap.size, 0, none⟩) 1 1) [x] :=
  World.ownsRow_lit w #[.string (str x)] 1 (Nat.le_refl _) (by unfold maxLen; omega) rfl

theorem Own.lt {base : Nat} {w : World} {v : Value} {l : List (List UInt8)} (h : Own base w v l) : ∀ k, v.ownBlock = some k → base ≤ k ∧ k < w.heap.size := World.ownsRow.lt h

/-- What a world that has grown, but for the list's own block, still holds. -/
theorem Own.far {base : Nat} {w w' : World} {v : Value} {l : List (List UInt8)} (h : Own base w v l) {b : Nat} (g : w.grownBy w' (some b)) (hb : b < base) : Own base w' v l :=
  World.ownsRow.kept h g (by
    cases hv : v.ownBlock with
    | none => exact .inl rfl
    | some k => exact .inr (fun e => by have := (Own.lt h k hv).1; simp at e; omega))

theorem run_append_texts (w : World) (ty : TypeId) (base : Nat) (v1 : Value) (l1 : List (List UInt8)) (o1 : Own base w v1 l1) (base2 : Nat) (v2 : Value) (l2 : List (List UInt8)) (o2 : Own base2 w v2 l2)
    (hb : base ≤ w.heap.size) (hlen : l1.length + l2.length ≤ 1000000) :
    ∃ v' w', (Builtin.append_ #[169, 169] ty #[v1, v2]).run Tryz.prog w = .ok v' w' ∧ Own base w' v' (l1 ++ l2) ∧ w.grownBy w' v1.ownBlock := by
  obtain ⟨iS, hi, hz0, hz1, hz2⟩ := info_parts Tryz.infoStr
  rcases o2.2 with ⟨rfl, h0⟩ | ⟨g, cap, cur, rfl, -, -, hnc, -⟩
  · obtain rfl : l2 = [] := List.length_eq_zero_iff.1 h0
    exact ⟨v1, w, run_append_owned_none (P := Tryz.prog) w base 169 ty 9 iS 1 Tryz.underlying169 hi v1 l1.length (texts l1) o1, by rw [List.append_nil]; exact o1, ⟨rfl, rfl, rfl, Nat.le_refl _, fun _ _ _ => rfl⟩⟩
  · obtain ⟨v', w', hr, h2, h3, -⟩ := run_append_own (P := Tryz.prog) w base 169 ty 9 iS (.string ⟨#[]⟩) 1 16 Tryz.underlying169 hi hz0 hz1 hz2 rfl (by decide) v1 l1.length (texts l1) o1 ⟨g, 0, none⟩ l2.length cap (texts l2) (by simp [texts])
      (fun j u hj => by
        have hjl : j < l2.length := by have := (List.getElem?_eq_some_iff.1 hj).1; simpa [texts] using this
        rw [show (⟨g, 0, none⟩ : Addr).add j = ⟨g, 0 + j, none⟩ from Addr.add_lit .., Nat.zero_add, World.ownsRow.cellAt o2 j (by omega)]
        exact hj)
      (fun u hu => by simp [texts] at hu; obtain ⟨x, -, rfl⟩ := hu; rfl) (by unfold maxLen; omega) (by omega) hb
    refine ⟨v', w', hr, ?_, h3⟩
    unfold Own
    rw [List.length_append, show texts (l1 ++ l2) = texts l1 ++ texts l2 by simp [texts]]
    exact h2

theorem wpList_append_texts {ops : Array Oper} {rest : List Oper} {o : Oper} {a : Act} {w : World} {Q : Exit → Act → World → Prop} (hgd : o.guard = none) (s x : Operand)
    (ho : o.op = .call { callee := .builtin .append, args := #[s, x], argTypes := #[169, 169] })
    (base : Nat) (v1 : Value) (l1 : List (List UInt8)) (hs : a.eval s = v1) (o1 : Own base w v1 l1) (base2 : Nat) (v2 : Value) (l2 : List (List UInt8)) (hx : a.eval x = v2) (o2 : Own base2 w v2 l2)
    (hb : base ≤ w.heap.size) (hlen : l1.length + l2.length ≤ 1000000)
    (h : ∀ v' w', Own base w' v' (l1 ++ l2) → w.grownBy w' v1.ownBlock → wpList Tryz.prog ops Q rest (a.put o.dst v') w') : wpList Tryz.prog ops Q (o :: rest) a w :=
  wpList_plain hgd fun K hK => by
    obtain ⟨v', w', hr, h2, h3⟩ := run_append_texts w o.type base v1 l1 o1 base2 v2 l2 o2 hb hlen
    unfold Oper.wp execOp
    simp only [ho, resolve, invoke, builtin, Sem.run_bind, Sem.run_pure, Result.andThen_ok, List.map_toArray, List.map_cons, List.map_nil, hs, hx, hr]
    exact hK _ _ (h v' w' h2 h3)

end Go.Proofs.YtbebdaglkjhbjaaGreatDoor.fm

/-
  The document's frames: Text, Wrap, Parse.
-/
namespace Go.Proofs.YtbebdaglkjhbjaaGreatDoor.fm
open Go.RowKit Go.Proofs.YtbebdaglkjhbjaaGreatDoor.vi Go.Proofs.YtbebdaglkjhbjaaGreatDoor.crcm
set_option linter.unusedVariables false
set_option linter.unusedSimpArgs false

theorem fr_text (p : ByteArray) : (⟨#[81, 70]⟩ ++ encB p.size ++ p ++ crc.putB (sumN p.data.toList) : ByteArray) = str (fr p.data.toList) := by
  apply ByteArray.ext
  apply Array.ext'
  simp [str, fr, hd, encB, crc.putB]

def parseV (r : List UInt8 × Nat × Nat) : Value := .tuple #[.string (str r.1), .int .i64 r.2.1, .int .i64 r.2.2]

theorem beq_list (a b : ByteArray) : (a.toList == b.toList) = decide (a.data.toList = b.data.toList) := by
  rw [ByteArray.toList_eq, ByteArray.toList_eq]
  by_cases h : a.data.toList = b.data.toList
  · rw [decide_eq_true h, h]; simp
  · rw [decide_eq_false h]; simpa using h

theorem ext_list (s : ByteArray) (a b : Nat) : (s.extract a b).data.toList = (s.data.toList.drop a).take (b - a) := by
  simp [List.take_drop]

theorem at_ne (s : ByteArray) (j : Nat) (h : j < s.size) (b : UInt8) (B : Int) (hB : B = (b.toNat : Int)) (hb : s.data.toList.getD j 0 ≠ b) : ((s[j].toNat : Int) != B) = true := by
  subst hB
  rw [getD_bytes s j h] at hb
  have : s[j].toNat ≠ b.toNat := fun e => hb (UInt8.toNat_inj.1 e)
  simp; omega
theorem at_eq (s : ByteArray) (j : Nat) (h : j < s.size) (b : UInt8) (B : Int) (hB : B = (b.toNat : Int)) (hb : s.data.toList.getD j 0 = b) : ((s[j].toNat : Int) != B) = false := by
  subst hB
  rw [getD_bytes s j h] at hb
  rw [hb]
  simp

end Go.Proofs.YtbebdaglkjhbjaaGreatDoor.fm

/-
  The document's All.
-/
namespace Go.Proofs.YtbebdaglkjhbjaaGreatDoor.fm
open Go.RowKit Go.Proofs.YtbebdaglkjhbjaaGreatDoor.vi Go.Proofs.YtbebdaglkjhbjaaGreatDoor.cur
set_option linter.unusedVariables false
set_option linter.unusedSimpArgs false

/-- What All answers: its slice is the call's own. -/
def AllPost (w : World) (q : List (List UInt8) × Nat) (e : Ending) (w' : World) : Prop :=
  ∃ v, e = .returned (.tuple #[v, .int .i64 (q.2 : Int)]) ∧ w.grownBy w' none ∧ Own w.heap.size w' v q.1

theorem framesR_good : ∀ (m : Nat) (L : List UInt8), L.length ≤ m → ((framesR L).2 ≠ 0 → (framesR L).1 = []) ∧ (framesR L).1.length ≤ L.length ∧ (framesR L).2 < 7 := by
  intro m
  induction m with
  | zero =>
    intro L hm
    have : L = [] := List.length_eq_zero_iff.1 (by omega)
    subst this
    rw [framesR_nil]; simp
  | succ m ih =>
    intro L hm
    by_cases hL : L = []
    · subst hL; rw [framesR_nil]; simp
    · by_cases h2 : (parseR L).2.2 = 0
      · have hp := parse_pos h2
        have hl := (parse_ok h2).2.2.2
        have := ih (L.drop (parseR L).2.1) (by simp; omega)
        rw [framesR_ok hL h2]
        unfold glueF
        split
        · rename_i hz
          simp at this ⊢
          omega
        · rename_i hz
          exact ⟨fun _ => rfl, by simp, this.2.2⟩
      · rw [framesR_err hL h2]
        have := parse_lt L
        exact ⟨fun _ => rfl, by simp, this⟩

theorem glueF_nil (q : List (List UInt8) × Nat) (h : q.2 ≠ 0 → q.1 = []) : glueF [] q = q := by
  unfold glueF
  obtain ⟨a, b⟩ := q
  by_cases hb : b = 0
  · simp [hb]
  · simp at h; simp [hb, h hb]

end Go.Proofs.YtbebdaglkjhbjaaGreatDoor.fm

/-
  WriteString, String.
-/
namespace Go.Proofs.YtbebdaglkjhbjaaGreatDoor.bd
open Go.RowKit
set_option linter.unusedVariables false
set_option linter.unusedSimpArgs false
theorem Tryz.infoByteB : (Tryz.prog.info? 5).map (fun i => (i.zero, i.size, i.bytes)) = some (some (.int .u8 0), 1, 1) := by kernel_rfl

theorem Tryz.cellsByteB : Tryz.prog.cellsOf 5 = 1 := by kernel_rfl

theorem Tryz.sizeBuilderB : (Tryz.prog.info? 85).map (·.size) = some 2 := by kernel_rfl

theorem Tryz.liesBuilderB : liesAt Tryz.prog Tryz.prog.depth 85 (2 / Tryz.prog.cellsOf 85) 0 85 1 = true := by kernel_rfl

/-- A builder at the block b that holds the bytes l; of S are the blocks that are its own. -/
def Bld (w : World) (b : Nat) (S : Nat → Prop) (l : List UInt8) : Prop :=
  ∃ p v, (p = .pointer none ∨ p = .pointer (some ⟨b, 0, none⟩)) ∧ w.heap[b]? = some (.cells #[p, v] 85 (0, 0)) ∧ w.ownsRowF 0 5 1 v l.length (Lib.byteCells l) ∧ v.ownBlock ≠ some b ∧
    S b ∧ (∀ k, v.ownBlock = some k → S k) ∧ (l = [] → v = .slice none 0 0)

theorem Bld.lt {w : World} {b : Nat} {S : Nat → Prop} {l : List UInt8} (h : Bld w b S l) : b < w.heap.size := by
  obtain ⟨p, v, -, hb, -⟩ := h
  exact (Array.getElem?_eq_some_iff.1 hb).1
theorem Bld.own {w : World} {b : Nat} {S : Nat → Prop} {l : List UInt8} (h : Bld w b S l) : S b := by
  obtain ⟨p, v, -, -, -, -, hs, -⟩ := h
  exact hs
theorem Bld.mono {w : World} {b : Nat} {S T : Nat → Prop} {l : List UInt8} (h : Bld w b S l) (hT : ∀ k, k < w.heap.size → S k → T k) : Bld w b T l := by
  have hlt := h.lt
  obtain ⟨p, v, h1, h2, h3, h4, h5, h6, h7⟩ := h
  exact ⟨p, v, h1, h2, h3, h4, hT b hlt h5, fun k e => hT k (h3.lt k e).2 (h6 k e), h7⟩
theorem Bld.kept {w w' : World} {b : Nat} {S T : Nat → Prop} {l : List UInt8} (h : Bld w b S l) (g : Chg T w w') (hT : ∀ k, S k → ¬ T k) : Bld w' b S l := by
  have hlt := h.lt
  obtain ⟨p, v, h1, h2, h3, h4, h5, h6, h7⟩ := h
  exact ⟨p, v, h1, by rw [g.block b hlt (hT b h5)]; exact h2, g.ownsRowF h3 (fun k e => hT k (h6 k e)), h4, h5, h6, h7⟩
theorem Bld.new (w : World) (S : Nat → Prop) (hS : S w.heap.size) : Bld (w.alloc (.cells #[.pointer none, .slice none 0 0] 85)) w.heap.size S [] :=
  ⟨.pointer none, .slice none 0 0, .inl rfl, heap_alloc_new w _, World.ownsRowF_nil _ _ _ _, by simp [Value.ownBlock], hS, (fun k e => by simp [Value.ownBlock] at e), (fun _ => rfl)⟩

set_option maxHeartbeats 1000000 in
set_option maxRecDepth 100000 in
theorem bcheck_used (b : Nat) (w : World) (h0 : w.cell? ⟨b, 0, none⟩ = some (.pointer (some ⟨b, 0, none⟩))) :
    Calls Tryz.prog 73 #[.pointer (some ⟨b, 0, none⟩)] w fun e w' => e = .returned (.tuple #[]) ∧ w' = w := by
  obtain ⟨j, hj, -⟩ := Option.map_eq_some_iff.1 Tryz.sizeBuilderB
  go_enter Tryz.func73, Tryz.ntmps73
  go_wp2
  rw [Lib.run_neq_ptr_same w _ Tryz.underlying82 hj]
  go_wp2
  go_end0
  exact ⟨rfl, rfl⟩

set_option maxHeartbeats 1000000 in
set_option maxRecDepth 100000 in
theorem bcheck_fresh (b : Nat) (w : World) (h0 : w.cell? ⟨b, 0, none⟩ = some (.pointer none)) (hsh : w.shape? b = some (85, 2)) (hfz : w.frozen? ⟨b, 0, none⟩ = false) :
    Calls Tryz.prog 73 #[.pointer (some ⟨b, 0, none⟩)] w fun e w' => e = .returned (.tuple #[]) ∧ w' = w.setCell ⟨b, 0, none⟩ (.pointer (some ⟨b, 0, none⟩)) := by
  obtain ⟨j, hj, hjs⟩ := Option.map_eq_some_iff.1 Tryz.sizeBuilderB
  go_enter Tryz.func73, Tryz.ntmps73
  go_wp2
  rw [Lib.run_to_unsafe w ⟨b, 0, none⟩ Tryz.underlying82 Tryz.underlying151 hj (by rw [hjs]; decide) hsh (Nat.zero_lt_succ 1)]
  simp only [Result.andThen]
  rw [Oper.upon_value]
  go_wp2
  rw [run_callFunc_extern Tryz.func100 (by kernel_rfl) (by kernel_rfl) (by kernel_rfl) (e := Extern.AbiNoEscape.same) (by kernel_rfl)]
  rw [Lib.run_noEscape]
  simp only [Result.andThen]
  rw [Oper.upon_value]
  go_wp2
  rw [Lib.run_from_unsafe w ⟨b, 0, none⟩ Tryz.underlying151 Tryz.underlying82 hj hsh Tryz.liesBuilderB]
  simp only [Result.andThen]
  rw [Oper.upon_value]
  go_wp2
  go_end0
  exact ⟨rfl, rfl⟩

theorem bcheck_any (b : Nat) (S : Nat → Prop) (l : List UInt8) (w : World) (h : Bld w b S l) :
    Calls Tryz.prog 73 #[.pointer (some ⟨b, 0, none⟩)] w fun e w' => e = .returned (.tuple #[]) ∧ ∃ v, w'.heap[b]? = some (.cells #[.pointer (some ⟨b, 0, none⟩), v] 85 (0, 0)) ∧ w'.ownsRowF 0 5 1 v l.length (Lib.byteCells l) ∧ v.ownBlock ≠ some b ∧
    (∀ k, v.ownBlock = some k → S k) ∧ (l = [] → v = .slice none 0 0) ∧ Chg S w w' ∧ w.drawn ≤ w'.drawn := by
  obtain ⟨p, v, hp, hb, ho, hne, hs, hv, hn⟩ := h
  rcases hp with rfl | rfl
  · refine (bcheck_fresh b w (by simp [World.cell?, hb]) (by simp [World.shape?, hb]) (by simp [World.frozen?, hb])).mono ?_
    rintro e w' ⟨rfl, rfl⟩
    refine ⟨rfl, v, by simp [World.setCell, Array.getElem?_modify, hb], ?_, hne, hv, hn, (Chg.refl S w).setCell (p := ⟨b, 0, none⟩) (.inl hs) _, Nat.le_refl _⟩
    have g : Chg (fun k => k = b) w (w.setCell ⟨b, 0, none⟩ (.pointer (some ⟨b, 0, none⟩))) := Chg.set_one w b 0 _
    exact g.ownsRowF ho (fun k e h => hne (by rw [e, h]))
  · refine (bcheck_used b w (by simp [World.cell?, hb])).mono ?_
    rintro e w' ⟨rfl, rfl⟩
    exact ⟨rfl, v, hb, ho, hne, hv, hn, Chg.refl S _, Nat.le_refl _⟩

/-- A block that a builder may have for its own. -/
def Tyd (w : World) (k : Nat) : Prop := ∃ cur t fz, w.heap[k]? = some (.cells cur t fz) ∧ (t = 85 ∨ t = 5)

theorem Bld.tight {w : World} {b : Nat} {S : Nat → Prop} {l : List UInt8} (h : Bld w b S l) : Bld w b (fun k => S k ∧ Tyd w k) l := by
  obtain ⟨p, v, h1, h2, h3, h4, h5, h6, h7⟩ := h
  refine ⟨p, v, h1, h2, h3, h4, ⟨h5, _, _, _, h2, .inl rfl⟩, fun k e => ⟨h6 k e, ?_⟩, h7⟩
  rcases h3.2 with ⟨rfl, _⟩ | ⟨g, cap, cur, fz, rfl, _, hg, _⟩
  · cases e
  · simp [Value.ownBlock] at e
    subst e
    exact ⟨cur, _, fz, hg, .inr rfl⟩
theorem Bld.kept' {w w' : World} {b : Nat} {S U : Nat → Prop} {l : List UInt8} (h : Bld w b S l) (g : Chg U w w') (hU : ∀ k, S k → Tyd w k → ¬ U k) : Bld w' b S l :=
  (h.tight.kept g (fun k hk => hU k hk.1 hk.2)).mono fun k _ hk => hk.1

theorem run_append_place (w : World) (ty : TypeId) (v : Value) (n : Nat) (xs : List Value) (hown : w.ownsRowF 0 5 1 v n xs) (s : ByteArray) (hn : n + s.size ≤ 100000000) :
    ∃ v' w', (Builtin.append_ #[83, 9] ty #[v, .string s]).run Tryz.prog w = .ok v' w' ∧ w'.ownsRowF 0 5 1 v' (n + s.size) (xs ++ Lib.strCells s) ∧ w.grownBy w' v.ownBlock ∧
      (v' = .slice none 0 0 ↔ v = .slice none 0 0 ∧ s.size = 0) ∧ (∀ k, v'.ownBlock = some k → v.ownBlock = some k ∨ w.heap.size ≤ k) ∧ w.drawn ≤ w'.drawn := by
  obtain ⟨iB, hi, hz0, hz1, hz2⟩ := info_parts Tryz.infoByteB
  obtain ⟨v', w', hr, h2, h3, h4⟩ := Lib.run_append_own_stringF (P := Tryz.prog) w 0 83 9 ty 5 iB Tryz.underlying83 Tryz.underlying9 hi hz0 hz1 hz2 v n xs hown s (by unfold maxLen; omega) (by omega) (by omega)
  refine ⟨v', w', hr, h2, h3, h4, ?_, run_drawn _ hr⟩
  rcases hown.2 with ⟨rfl, rfl⟩ | ⟨g, cap, cur, fz, rfl, hbg, hg, hfz, hnc, hcm, hcs, htake⟩
  · obtain ⟨v2, w2, hr2, k2, -, -⟩ := Lib.run_append_own_stringF (P := Tryz.prog) w w.heap.size 83 9 ty 5 iB Tryz.underlying83 Tryz.underlying9 hi hz0 hz1 hz2 _ _ xs ⟨hown.1, .inl ⟨rfl, rfl⟩⟩ s (by unfold maxLen; omega) (by omega) (Nat.le_refl _)
    rw [hr] at hr2
    injection hr2 with e1 e2
    subst e1 e2
    exact fun k e => .inr (k2.lt k e).1
  · have hxl : xs.length = n := by simpa using hown.1
    by_cases hroom : n + s.size ≤ cap
    · have hr2 := Lib.run_append_room_stringF (P := Tryz.prog) w 83 9 ty 5 iB Tryz.underlying83 Tryz.underlying9 hi hz1 g n cap cur fz hg (by simpa using hfz) s hroom (by omega)
      rw [hr] at hr2
      injection hr2 with e1 e2
      subst e1
      exact fun k e => .inl e
    · have hr2 := Lib.run_append_grow_string (P := Tryz.prog) w 83 9 ty 5 iB (.int .u8 0) Tryz.underlying83 Tryz.underlying9 hi hz0 ⟨g, 0, none⟩ n cap xs (by rw [hz1]; simpa using hxl) (hown.cells (g := g) rfl) s (by omega) (by omega) (by rw [hz2]; exact growslice_fits (by omega) (by omega))
      rw [hr] at hr2
      injection hr2 with e1 e2
      subst e1
      exact fun k e => .inr (by simp [Value.ownBlock] at e; omega)

theorem wpList_append_place {ops : Array Oper} {rest : List Oper} {o : Oper} {a : Act} {w : World} {Q : Exit → Act → World → Prop} (hgd : o.guard = none) (sl x : Operand)
    (ho : o.op = .call { callee := .builtin .append, args := #[sl, x], argTypes := #[83, 9] })
    (v : Value) (n : Nat) (xs : List Value) (hs : a.eval sl = v) (hown : w.ownsRowF 0 5 1 v n xs) (s : ByteArray) (hx : a.eval x = .string s) (hn : n + s.size ≤ 100000000)
    (h : ∀ v' w', w'.ownsRowF 0 5 1 v' (n + s.size) (xs ++ Lib.strCells s) → w.grownBy w' v.ownBlock → (v' = .slice none 0 0 ↔ v = .slice none 0 0 ∧ s.size = 0) → (∀ k, v'.ownBlock = some k → v.ownBlock = some k ∨ w.heap.size ≤ k) → w.drawn ≤ w'.drawn →
      wpList Tryz.prog ops Q rest (a.put o.dst v') w') : wpList Tryz.prog ops Q (o :: rest) a w :=
  wpList_plain hgd fun K hK => by
    obtain ⟨v', w', hr, h2, h3, h4, h5, h6⟩ := run_append_place w o.type v n xs hown s hn
    unfold Oper.wp execOp
    simp only [ho, resolve, invoke, builtin, Sem.run_bind, Sem.run_pure, Result.andThen_ok, List.map_toArray, List.map_cons, List.map_nil, hs, hx, hr]
    exact hK _ _ (h v' w' h2 h3 h4 h5 h6)

set_option maxHeartbeats 2000000 in
set_option maxRecDepth 100000 in
theorem writeD_any (b : Nat) (S : Nat → Prop) (l : List UInt8) (s : ByteArray) (w : World) (h : Bld w b S l) (hlen : l.length + s.size ≤ 100000000) :
    Calls Tryz.prog 42 #[.pointer (some ⟨b, 0, none⟩), .string s] w fun e w' => e = .returned (.tuple #[.int .i64 s.size, .nilIface]) ∧ Chg S w w' ∧ Bld w' b (fun k => S k ∨ w.heap.size ≤ k) (l ++ s.data.toList) ∧ w.drawn ≤ w'.drawn := by
  have hS := h.own
  go_enter Tryz.func42, Tryz.ntmps42
  go_wp2_with fail
  refine (bcheck_any b S l _ h).mono ?_
  rintro e w1 ⟨rfl, v, hbk, hown, hne, hv, hn, hg1, hd1⟩
  have c0 : w1.cell? ⟨b, 0, none⟩ = some (.pointer (some ⟨b, 0, none⟩)) := by simp [World.cell?, hbk]
  have c1 : w1.cell? ⟨b, 1, none⟩ = some v := by simp [World.cell?, hbk]
  have Hnil := Lib.hid hn
  have Hv := Lib.hid hv
  clear hn hv
  go_wp2_with (at_builtin; refine wpList_append_place rfl _ _ rfl _ _ _ rfl hown s rfl ?c3 ?_)
  case c3 => exact hlen
  intro v' w2 hown' hgrow hnil hpl hd2
  have HD2 : Hid (w.drawn ≤ w2.drawn) := Nat.le_trans hd1 hd2
  clear hd1 hd2
  have hlt1 : b < w1.heap.size := (Array.getElem?_eq_some_iff.1 hbk).1
  have hb2 : w2.heap[b]? = some (.cells #[.pointer (some ⟨b, 0, none⟩), v] 85 (0, 0)) := by
    rw [hgrow.block b hlt1 (fun e => hne e.symm)]
    exact hbk
  have d0 : w2.cell? ⟨b, 0, none⟩ = some (.pointer (some ⟨b, 0, none⟩)) := by simp [World.cell?, hb2]
  have d1 : w2.cell? ⟨b, 1, none⟩ = some v := by simp [World.cell?, hb2]
  have f1 : w2.frozen? ⟨b, 1, none⟩ = false := by simp [World.frozen?, hb2]
  obtain ⟨ao, n', cap, hsh⟩ : ∃ ao n' cap, v' = .slice ao n' cap := by
    rcases hown'.2 with ⟨hv, _⟩ | ⟨g, cap, cur, fz, hv, _⟩
    · exact ⟨_, _, _, hv⟩
    · exact ⟨_, _, _, hv⟩
  have hsz2 := hgrow.size
  have hsz1 := hg1.size
  have HG2 : Hid (Chg S w w2) := hg1.trans (T := S) (Chg.of_grown hgrow (fun k e => .inl (Hv.out k e))) (fun _ h => .inl h)
  have HV2 : Hid (∀ k, v'.ownBlock = some k → S k ∨ w.heap.size ≤ k) := fun k e => by
    rcases hpl k e with h | h
    · exact .inl (Hv.out k h)
    · exact .inr (by omega)
  have hne2 : v'.ownBlock ≠ some b := fun e => by
    rcases hpl b e with h | h
    · exact hne h
    · omega
  have HN2 : Hid (l ++ s.data.toList = [] → v' = .slice none 0 0) := fun e => by
    have e1 := List.append_eq_nil_iff.1 e
    exact hnil.2 ⟨Hnil.out e1.1, by have := congrArg List.length e1.2; simpa using this⟩
  have HO2 := Lib.hid hown'
  have HB2 := Lib.hid hb2
  have HNE := Lib.hid hne2
  subst hsh
  clear hnil hpl hown' hb2 hne2 hown hbk hne c0 c1 h
  go_wp2
  go_ret2
  refine ⟨rfl, HG2.out.setCell (p := ⟨b, 1, none⟩) (.inl hS) _, ⟨.pointer (some ⟨b, 0, none⟩), _, .inr rfl, by simp [World.setCell, Array.getElem?_modify, HB2.out], ?_, HNE.out, .inl hS, HV2.out, HN2.out⟩, HD2.out⟩
  have g : Chg (fun k => k = b) w2 (w2.setCell ⟨b, 1, none⟩ (.slice ao n' cap)) := Chg.set_one w2 b 1 _
  have := g.ownsRowF HO2.out (fun k e h => HNE.out (by rw [e, h]))
  rw [List.length_append, Lib.byteCells_append]
  simpa [Lib.strCells_eq] using this

theorem write_any (b : Nat) (S : Nat → Prop) (l : List UInt8) (s : ByteArray) (w : World) (h : Bld w b S l) (hlen : l.length + s.size ≤ 100000000) :
    Calls Tryz.prog 42 #[.pointer (some ⟨b, 0, none⟩), .string s] w fun e w' => e = .returned (.tuple #[.int .i64 s.size, .nilIface]) ∧ Chg S w w' ∧ Bld w' b (fun k => S k ∨ w.heap.size ≤ k) (l ++ s.data.toList) :=
  (writeD_any b S l s w h hlen).mono fun _ _ ⟨h1, h2, h3, _⟩ => ⟨h1, h2, h3⟩

set_option maxHeartbeats 2000000 in
set_option maxRecDepth 100000 in
theorem string_some (b : Nat) (S : Nat → Prop) (l : List UInt8) (w : World) (h : Bld w b S l) (h0 : l ≠ []) :
    Calls Tryz.prog 45 #[.pointer (some ⟨b, 0, none⟩)] w fun e w' => e = .returned (.string ⟨l.toArray⟩) ∧ Chg S w w' ∧ Bld w' b S l ∧ w.drawn ≤ w'.drawn := by
  obtain ⟨p, v, hp, hbk, hown, hne, hS, hv, hnil⟩ := h
  have hl0 : l.length ≠ 0 := by simpa using h0
  have hown0 := hown
  obtain ⟨g, cap, cur, fz, rfl, hbg, hg, hfz, hnc, hcm, hcs, htake⟩ : ∃ g cap cur fz, v = .slice (some ⟨g, 0, none⟩) l.length cap ∧ 0 ≤ g ∧ w.heap[g]? = some (.cells cur 5 fz) ∧ fz.2 ≤ l.length * 1 ∧ l.length ≤ cap ∧ cap ≤ maxLen ∧ cur.size = cap * 1 ∧ cur.toList.take (l.length * 1) = Lib.byteCells l := by
    rcases hown.2 with ⟨_, hz⟩ | r
    · exact absurd hz hl0
    · exact r
  have c1 : w.drew.cell? ⟨b, 1, none⟩ = some (.slice (some ⟨g, 0, none⟩) l.length cap) := by
    have : w.drew.heap[b]? = some (.cells #[p, .slice (some ⟨g, 0, none⟩) l.length cap] 85 (0, 0)) := hbk
    simp [World.cell?, this]
  have hSD : (Builtin.unsafeSliceData_ #[83] 130 #[.slice (some ⟨g, 0, none⟩) l.length cap]).run Tryz.prog w.drew = .ok (.pointer (some ⟨g, 0, none⟩)) w.drew :=
    Lib.run_unsafeSliceData_row _ _ _ _ _ _ (by omega)
  have hUS : (Builtin.unsafeString_ #[130, 3] 9 #[.pointer (some ⟨g, 0, none⟩), .int .i64 l.length]).run Tryz.prog w.drew = .ok (.string ⟨l.toArray⟩) (w.drew.freeze ⟨g, 0, none⟩ l.length) := by
    refine Lib.run_unsafeString_row w.drew 130 3 9 5 Tryz.underlying130 Tryz.cellsByteB g cur.size (by have hg' : w.drew.heap[g]? = some (.cells cur 5 fz) := hg; simp [World.shape?, hg']) l h0 (by omega) (by unfold maxLen at hcm; omega) ?_
    intro j x hx
    have := hown.cells (g := g) rfl j (.int .u8 x.toNat) (by simp [Lib.byteCells, hx])
    exact this
  have hkeep : Hid (Bld (w.drew.freeze ⟨g, 0, none⟩ l.length) b S l) := by
    have hA : Lib.BuilderAtF 85 5 0 b p (Lib.byteCells l) w.drew := ⟨Nat.zero_le _, _, hbk, by rw [Lib.byteCells_length]; exact hown0, hne⟩
    have hF := hA.froze (g := g) (cap := cap) (by rw [Lib.byteCells_length]; exact c1)
    rw [Lib.byteCells_length] at hF
    obtain ⟨-, v2, k1, k2, k3⟩ := hF
    have hgb : g ≠ b := fun e => hne (by simp [Value.ownBlock, e])
    have e2 : (w.drew.freeze ⟨g, 0, none⟩ l.length).heap[b]? = w.heap[b]? := (Chg.freeze (S := fun k => k = g) (Chg.drew (Chg.refl _ w)) (p := ⟨g, 0, none⟩) (.inl rfl) l.length).block b (Array.getElem?_eq_some_iff.1 hbk).1 (fun e => hgb e.symm)
    rw [e2, hbk] at k1
    simp at k1
    subst k1
    rw [Lib.byteCells_length] at k2
    exact ⟨p, _, hp, by rw [e2, hbk], k2, k3, hS, hv, fun e => absurd e h0⟩
  have HDR : Hid (w.drawn ≤ (w.drew.freeze ⟨g, 0, none⟩ l.length).drawn) := by show _ ≤ _; rw [drawn_freeze]; exact Nat.le_succ _
  have HG : Hid (Chg S w (w.drew.freeze ⟨g, 0, none⟩ l.length)) := Chg.freeze (Chg.drew (Chg.refl S w)) (p := ⟨g, 0, none⟩) (.inl (hv g rfl)) l.length
  clear hown hown0 hg htake hv hnil hne hp hbk
  go_enter Tryz.func45, Tryz.ntmps45
  go_wp2
  go_region
  all_goals (go_wp2; go_ret; exact ⟨rfl, HG.out, hkeep.out, HDR.out⟩)

set_option maxHeartbeats 2000000 in
set_option maxRecDepth 100000 in
theorem string_none (b : Nat) (S : Nat → Prop) (w : World) (h : Bld w b S []) :
    Calls Tryz.prog 45 #[.pointer (some ⟨b, 0, none⟩)] w fun e w' => e = .returned (.string ⟨#[]⟩) ∧ Chg S w w' ∧ Bld w' b S [] ∧ w.drawn ≤ w'.drawn := by
  have hkeep := Lib.hid h
  obtain ⟨p, v, hp, hbk, hown, hne, hS, hv, hnil⟩ := h
  obtain rfl := hnil rfl
  have hUS : ∀ (W : World) (q : Option Addr), (Builtin.unsafeString_ #[130, 3] 9 #[.pointer q, .int .i64 0]).run Tryz.prog W = .ok (.string .empty) W := fun W q => Lib.run_unsafeString_none W _ _ _ q
  have c1 : w.drew.cell? ⟨b, 1, none⟩ = some (.slice none 0 0) := by
    have : w.drew.heap[b]? = some (.cells #[p, .slice none 0 0] 85 (0, 0)) := hbk
    simp [World.cell?, this]
  have hSD : (Builtin.unsafeSliceData_ #[83] 130 #[.slice none 0 0]).run Tryz.prog w.drew = .ok (.pointer none) w.drew := rfl
  clear hown hv hnil hne hp hbk
  go_enter Tryz.func45, Tryz.ntmps45
  go_wp2
  go_region
  all_goals (go_wp2; go_ret; exact ⟨rfl, Chg.drew (Chg.refl S w), hkeep.out.kept (Chg.drew (Chg.refl (fun _ => False) w)) (fun _ _ e => e), Nat.le_succ _⟩)

theorem stringD_any (b : Nat) (S : Nat → Prop) (l : List UInt8) (w : World) (h : Bld w b S l) :
    Calls Tryz.prog 45 #[.pointer (some ⟨b, 0, none⟩)] w fun e w' => e = .returned (.string ⟨l.toArray⟩) ∧ Chg S w w' ∧ Bld w' b S l ∧ w.drawn ≤ w'.drawn := by
  by_cases h0 : l = []
  · subst h0; exact string_none b S w h
  · exact string_some b S l w h h0

theorem string_any (b : Nat) (S : Nat → Prop) (l : List UInt8) (w : World) (h : Bld w b S l) :
    Calls Tryz.prog 45 #[.pointer (some ⟨b, 0, none⟩)] w fun e w' => e = .returned (.string ⟨l.toArray⟩) ∧ Chg S w w' ∧ Bld w' b S l :=
  (stringD_any b S l w h).mono fun _ _ ⟨h1, h2, h3, _⟩ => ⟨h1, h2, h3⟩

end Go.Proofs.YtbebdaglkjhbjaaGreatDoor.bd

/-
  The contracts of package frame.
-/
namespace Go.Proofs.YtbebdaglkjhbjaaGreatDoor.fm
open Go.RowKit Go.Proofs.YtbebdaglkjhbjaaGreatDoor.vi Go.Proofs.YtbebdaglkjhbjaaGreatDoor.crcm Go.Proofs.YtbebdaglkjhbjaaGreatDoor.cur
set_option linter.unusedVariables false
set_option linter.unusedSimpArgs false

/-- How many bytes a frame of n has. -/
def sizeN (n : Int) : Nat := if 0 ≤ n ∧ n ≤ 65536 then 2 + (enc n.toNat).length + n.toNat + 4 else 0

theorem wrap_ok (p : ByteArray) (hp : p.size ≤ 65536) (w : World) :
    Calls Tryz.prog 229 #[.string p] w fun e w' => e = .returned (.tuple #[.string (str (fr p.data.toList)), .int .i64 0]) ∧ w.grownBy w' none := by
  have h1 := fun w => put_any p.size (by omega) w
  have h2 := fun w => crc.sum_one p (by unfold maxLen; omega) w
  have hS : sumN p.data.toList < 4294967296 := by unfold sumN; omega
  have h3 := fun w => crc.put_any (sumN p.data.toList) hS w
  have HF := Lib.hid (fr_text p)
  have h10 : (encB p.size).size ≤ 10 := by rw [show (encB p.size).size = (enc p.size).length from size_of_list _]; exact enc_len_ten (by omega)
  have h4 : (crc.putB (sumN p.data.toList)).size = 4 := rfl
  generalize encB p.size = E at *
  generalize crc.putB (sumN p.data.toList) = P at *
  generalize sumN p.data.toList = S at *
  go_enter Tryz.func229, Tryz.ntmps229
  go_wp2_with fail
  refine (h1 _).mono ?_
  rintro e w1 ⟨rfl, g1⟩
  go_wp2_with fail
  refine (h2 _).mono ?_
  rintro e w2 ⟨rfl, g2⟩
  go_wp2_with fail
  refine (h3 _).mono ?_
  rintro e w3 ⟨rfl, g3⟩
  go_wp2_with fail
  go_ret2
  exact ⟨ret2 (congrArg Value.string HF.out) rfl, only_trans (only_trans g1 g2) g3⟩

theorem wrap_long (p : ByteArray) (hp : 65536 < p.size) (hp2 : p.size ≤ maxLen) (w : World) :
    Calls Tryz.prog 229 #[.string p] w fun e w' => e = .returned (.tuple #[.string ⟨#[]⟩, .int .i64 4]) ∧ w.grownBy w' none := by
  unfold maxLen at hp2
  go_enter Tryz.func229, Tryz.ntmps229
  go_wp2_with fail
  go_ret2
  exact ⟨rfl, only_refl _ _⟩

end Go.Proofs.YtbebdaglkjhbjaaGreatDoor.fm

/-
  The contract of frame.Parse, and of frame.All.
-/
namespace Go.Proofs.YtbebdaglkjhbjaaGreatDoor.fm
open Go.RowKit Go.Proofs.YtbebdaglkjhbjaaGreatDoor.vi Go.Proofs.YtbebdaglkjhbjaaGreatDoor.crcm Go.Proofs.YtbebdaglkjhbjaaGreatDoor.cur
set_option linter.unusedVariables false
set_option linter.unusedSimpArgs false

/-- The mark's bytes, as the walk spells them. -/
theorem mk_ne (s : ByteArray) (j : Nat) (h : j < s.size) (hj : j < (⟨#[81, 70]⟩ : ByteArray).size) (hb : s.data.toList.getD j 0 ≠ (⟨#[81, 70]⟩ : ByteArray)[j]) : ((s[j].toNat : Int) != ((⟨#[81, 70]⟩ : ByteArray)[j].toNat : Int)) = true := at_ne s j h _ _ rfl hb
theorem mk_eq (s : ByteArray) (j : Nat) (h : j < s.size) (hj : j < (⟨#[81, 70]⟩ : ByteArray).size) (hb : s.data.toList.getD j 0 = (⟨#[81, 70]⟩ : ByteArray)[j]) : ((s[j].toNat : Int) != ((⟨#[81, 70]⟩ : ByteArray)[j].toNat : Int)) = false := at_eq s j h _ _ rfl hb

/-- What checkMark answers. -/
def markN (L : List UInt8) : Nat := if (0 < L.length ∧ L.getD 0 0 ≠ 81) ∨ (1 < L.length ∧ L.getD 1 0 ≠ 70) then 5 else if L.length < 2 then 1 else 0

set_option maxHeartbeats 4000000 in
set_option maxRecDepth 100000 in
theorem mark_any (s : ByteArray) (hs : s.size ≤ 1000000) (w : World) :
    Calls Tryz.prog 231 #[.string s] w fun e w' => e = .returned (.int .i64 (markN s.data.toList : Nat)) ∧ w.grownBy w' none := by
  have hlen : s.data.toList.length = s.size := by simp
  have hM : markN s.data.toList = if (0 < s.size ∧ s.data.toList.getD 0 0 ≠ 81) ∨ (1 < s.size ∧ s.data.toList.getD 1 0 ≠ 70) then 5 else if s.size < 2 then 1 else 0 := by unfold markN; rw [hlen]
  have HM := Lib.hid hM
  clear hM
  by_cases h0 : 0 < s.size
  · by_cases h2 : s.data.toList.getD 0 0 = 81
    · by_cases h1 : 1 < s.size
      · by_cases h3 : s.data.toList.getD 1 0 = 70
        · have e0 := mk_eq s 0 h0 (by decide) h2
          have e1 := mk_eq s 1 h1 (by decide) h3
          have h1i : (1 : Int) < (s.size : Int) := by omega
          have hm : min (s.size : Int) 2 = 2 := by omega
          rw [HM.out, if_neg (by rintro (h | h); exact h.2 h2; exact h.2 h3), if_neg (by omega)]
          clear h2 h3
          go_enter Tryz.func231, Tryz.ntmps231
          go_wp2_with fail
          refine wp_loop_rounds 3 ?_
          rw [rounds_succ]
          go_wp2_with fail
          go_quiet (fail)
          go_wp2_with fail
          rw [rounds_succ]
          go_wp2_with fail
          go_quiet (fail)
          go_wp2_with fail
          rw [rounds_succ]
          go_wp2_with fail
          go_ret
          exact ⟨rfl, by first | exact only_drewN (only_refl _ _) _ | exact only_drewN (only_drewN (only_refl _ _) _) _⟩
        · have e0 := mk_eq s 0 h0 (by decide) h2
          have e1 := mk_ne s 1 h1 (by decide) h3
          have h1i : (1 : Int) < (s.size : Int) := by omega
          have hm : min (s.size : Int) 2 = 2 := by omega
          rw [HM.out, if_pos (.inr ⟨h1, h3⟩)]
          clear h2 h3
          go_enter Tryz.func231, Tryz.ntmps231
          go_wp2_with fail
          refine wp_loop_rounds 2 ?_
          rw [rounds_succ]
          go_wp2_with fail
          go_quiet (fail)
          go_wp2_with fail
          rw [rounds_succ]
          go_wp2_with fail
          go_quiet (fail)
          go_wp2_with fail
          go_ret
          exact ⟨rfl, by first | exact only_drewN (only_refl _ _) _ | exact only_drewN (only_drewN (only_refl _ _) _) _⟩
      · have e0 := mk_eq s 0 h0 (by decide) h2
        have hm : min (s.size : Int) 2 = 1 := by omega
        rw [HM.out, if_neg (by rintro (h | h); exact h.2 h2; exact h1 h.1), if_pos (by omega)]
        clear h2
        go_enter Tryz.func231, Tryz.ntmps231
        go_wp2_with fail
        refine wp_loop_rounds 2 ?_
        rw [rounds_succ]
        go_wp2_with fail
        go_quiet (fail)
        go_wp2_with fail
        rw [rounds_succ]
        go_wp2_with fail
        go_ret
        exact ⟨rfl, by first | exact only_drewN (only_refl _ _) _ | exact only_drewN (only_drewN (only_refl _ _) _) _⟩
    · have e0 := mk_ne s 0 h0 (by decide) h2
      obtain ⟨m, hm, hm1⟩ : ∃ m : Nat, min (s.size : Int) 2 = (m : Int) ∧ 0 < m := ⟨min s.size 2, by omega, by omega⟩
      rw [HM.out, if_pos (.inl ⟨h0, h2⟩)]
      clear h2
      go_enter Tryz.func231, Tryz.ntmps231
      go_wp2_with fail
      refine wp_loop_rounds 1 ?_
      rw [rounds_succ]
      go_wp2_with fail
      go_quiet (fail)
      go_wp2_with fail
      go_ret
      exact ⟨rfl, by first | exact only_drewN (only_refl _ _) _ | exact only_drewN (only_drewN (only_refl _ _) _) _⟩
  · have hm : min (s.size : Int) 2 = 0 := by omega
    rw [HM.out, if_neg (by omega), if_pos (by omega)]
    go_enter Tryz.func231, Tryz.ntmps231
    go_wp2_with fail
    refine wp_loop_rounds 1 ?_
    rw [rounds_succ]
    go_wp2_with fail
    go_ret
    exact ⟨rfl, only_refl _ _⟩

theorem clone_any (s : ByteArray) (hs : s.size ≤ 1000000) (w : World) :
    Calls Tryz.prog 233 #[.string s] w fun e w' => e = .returned (.string s) ∧ w.grownBy w' none := by
  go_enter Tryz.func233, Tryz.ntmps233
  go_wp2_with fail
  refine (Tryz.stringslite_Clone s _ (by omega)).mono ?_
  rintro e w1 ⟨rfl, g⟩
  go_wp2_with fail
  go_ret
  exact ⟨rfl, below_to_none g⟩

set_option maxHeartbeats 4000000 in
set_option maxRecDepth 100000 in
theorem parse_any (s : ByteArray) (hs : s.size ≤ 1000000) (w : World) :
    Calls Tryz.prog 226 #[.string s] w fun e w' => e = .returned (parseV (parseR s.data.toList)) ∧ w.grownBy w' none := by
  have hlen : s.data.toList.length = s.size := by simp
  have hg := fun w => get_any (s.extract 2 s.size) (by simp; unfold maxLen; omega) w
  rw [bytes_drop] at hg
  unfold getV at hg
  have hb := getR_bounds (s.data.toList.drop 2)
  have hc := parse_cases s.data.toList
  have hx := ext_list s
  have hk := fun w => mark_any s hs w
  unfold markN at hk
  rw [hlen] at hc hk
  rcases hc with ⟨h1, h2, hp⟩ | ⟨h1, h2, h3, hp⟩ | ⟨h1, hp⟩ | ⟨h1, h2, hp⟩ | ⟨h1, h2, h3, hc⟩
  · rw [hp]
    rw [if_pos (.inl ⟨h1, h2⟩)] at hk
    clear hp h2 hb hg hx
    go_enter Tryz.func226, Tryz.ntmps226
    go_wp2_with fail
    refine (hk _).mono ?_
    rintro e w1 ⟨rfl, g1⟩
    go_wp2_with fail
    go_ret3
    exact ⟨rfl, g1⟩
  · rw [hp]
    rw [if_pos (.inr ⟨h1, h3⟩)] at hk
    clear hp h2 h3 hb hg hx
    go_enter Tryz.func226, Tryz.ntmps226
    go_wp2_with fail
    refine (hk _).mono ?_
    rintro e w1 ⟨rfl, g1⟩
    go_wp2_with fail
    go_ret3
    exact ⟨rfl, g1⟩
  · rw [hp]
    rw [if_neg (by omega), if_pos (by omega)] at hk
    clear hp hb hg hx
    go_enter Tryz.func226, Tryz.ntmps226
    go_wp2_with fail
    refine (hk _).mono ?_
    rintro e w1 ⟨rfl, g1⟩
    go_wp2_with fail
    go_ret3
    exact ⟨rfl, g1⟩
  · rw [hp]
    rw [if_neg (by rintro (h | h); exact h.2 h2; omega), if_pos (by omega)] at hk
    clear hp h2 hb hg hx
    go_enter Tryz.func226, Tryz.ntmps226
    go_wp2_with fail
    refine (hk _).mono ?_
    rintro e w1 ⟨rfl, g1⟩
    go_wp2_with fail
    go_ret3
    exact ⟨rfl, g1⟩
  · have h01 : 1 < s.size := by omega
    rw [if_neg (by rintro (h | h); exact h.2 h2; exact h.2 h3), if_neg (by omega)] at hk
    clear h2 h3
    generalize getR (s.data.toList.drop 2) = r at *
    obtain ⟨n, k, E⟩ := r
    simp only at hc hg hb
    obtain ⟨hb1, -, hb3, hb4, hb5⟩ := hb
    rcases hc with ⟨h4, hp⟩ | ⟨rfl, h5, hp⟩ | ⟨rfl, h5, h6, hp⟩ | ⟨rfl, h5, h6, hc⟩
    · have e2 : ((E : Int) != 0) = true := by simp; omega
      have e3 : ((E : Int) == 0) = false := by simp; omega
      rw [hp]
      clear hp hx
      go_enter Tryz.func226, Tryz.ntmps226
      go_wp2_with fail
      refine (hk _).mono ?_
      rintro e w1 ⟨rfl, g1⟩
      go_wp2_with fail
      refine (hg _).mono ?_
      rintro e w' ⟨rfl, rfl⟩
      go_wp2_with fail
      go_ret3
      exact ⟨rfl, g1⟩
    · rw [hp]
      clear hp hx
      go_enter Tryz.func226, Tryz.ntmps226
      go_wp2_with fail
      refine (hk _).mono ?_
      rintro e w1 ⟨rfl, g1⟩
      go_wp2_with fail
      refine (hg _).mono ?_
      rintro e w' ⟨rfl, rfl⟩
      go_wp2_with fail
      go_ret3
      exact ⟨rfl, g1⟩
    · rw [hp]
      clear hp hx
      go_enter Tryz.func226, Tryz.ntmps226
      go_wp2_with fail
      refine (hk _).mono ?_
      rintro e w1 ⟨rfl, g1⟩
      go_wp2_with fail
      refine (hg _).mono ?_
      rintro e w' ⟨rfl, rfl⟩
      go_wp2_with fail
      go_ret3
      exact ⟨rfl, g1⟩
    · obtain ⟨f, hf⟩ : ∃ f, f = 2 + k := ⟨_, rfl⟩
      obtain ⟨t, ht⟩ : ∃ t, t = f + n := ⟨_, rfl⟩
      obtain ⟨u, hu⟩ : ∃ u, u = t + 4 := ⟨_, rfl⟩
      have he1 : (2 : Int) + (k : Int) = (f : Int) := by omega
      have he2 : (f : Int) + (n : Int) = (t : Int) := by omega
      have he3 : (t : Int) + 4 = (u : Int) := by omega
      have hx1 := hx f t
      have hx2 := hx t u
      rw [show t - f = n by omega] at hx1
      rw [show u - t = 4 by omega] at hx2
      rw [show 2 + k + n + 4 = u by omega, show 2 + k + n = t by omega, show 2 + k = f by omega, ← hx1, ← hx2] at hc
      have hfu : u ≤ s.size := by omega
      have hck := fun w => crc.check_any (s.extract f t) (s.extract t u) (by simp; unfold maxLen; omega) (by simp; unfold maxLen; omega) w
      have hcl := fun w => clone_any (s.extract f t) (by simp; omega) w
      have hps : str (s.extract f t).data.toList = s.extract f t := str_of _
      have HP := Lib.hid hps
      have hsl := fun w => run_slice_string (P := Tryz.prog) (w := w) 9 s .i64 .i64 (f : Int) (t : Int) Tryz.underlying9 (by omega) (by omega) (by omega)
      have hsl2 := fun w => run_slice_string (P := Tryz.prog) (w := w) 9 s .i64 .i64 (t : Int) (u : Int) Tryz.underlying9 (by omega) (by omega) (by omega)
      rw [Int.toNat_natCast, Int.toNat_natCast] at hsl hsl2
      have hft : f ≤ t := by omega
      have htu : t ≤ u := by omega
      have hu4 : 4 ≤ u := by omega
      clear hf ht hu
      rcases hc with ⟨h7, -, hp⟩ | ⟨h7, -, hp⟩
      · rw [hp]
        have hcmp : decide (s.extract t u = crc.putB (sumN (s.extract f t).data.toList)) = true := decide_eq_true (by
          rw [crc.putB, ← h7])
        rw [hcmp] at hck
        clear hp hx hx1 hx2 h7 hps hcmp
        go_enter Tryz.func226, Tryz.ntmps226
        go_wp2_with fail
        refine (hk _).mono ?_
        rintro e w1 ⟨rfl, g1⟩
        go_wp2_with fail
        refine (hg _).mono ?_
        rintro e w' ⟨rfl, rfl⟩
        go_wp2_with fail
        refine (hck _).mono ?_
        rintro e w2 ⟨rfl, g2⟩
        go_wp2_with fail
        refine (hcl _).mono ?_
        rintro e w3 ⟨rfl, g3⟩
        go_wp2_with fail
        go_ret3
        exact ⟨ret3 (congrArg Value.string HP.out.symm) rfl rfl, only_trans (only_trans g1 g2) g3⟩
      · rw [hp]
        have hcmp : decide (s.extract t u = crc.putB (sumN (s.extract f t).data.toList)) = false := decide_eq_false (fun h => h7 (by rw [h]; rfl))
        rw [hcmp] at hck
        clear hp hx hx1 hx2 h7 hps hcmp hcl
        go_enter Tryz.func226, Tryz.ntmps226
        go_wp2_with fail
        refine (hk _).mono ?_
        rintro e w1 ⟨rfl, g1⟩
        go_wp2_with fail
        refine (hg _).mono ?_
        rintro e w' ⟨rfl, rfl⟩
        go_wp2_with fail
        refine (hck _).mono ?_
        rintro e w2 ⟨rfl, g2⟩
        go_wp2_with fail
        go_ret3
        exact ⟨rfl, only_trans g1 g2⟩

end Go.Proofs.YtbebdaglkjhbjaaGreatDoor.fm

/-
  FrameReads: for any bytes, any text and any number.
-/
namespace Go.Proofs.YtbebdaglkjhbjaaGreatDoor.law05
open Go.RowKit Go.Proofs.YtbebdaglkjhbjaaGreatDoor.fm Go.Proofs.YtbebdaglkjhbjaaGreatDoor.crcm Go.Proofs.YtbebdaglkjhbjaaGreatDoor.vi
set_option linter.unusedVariables false
set_option linter.unusedSimpArgs false

theorem Awake04_any (w : World) :
    Calls Tryz.prog 230 #[] w fun e w' => e = .returned (.bool true) ∧ w.grownBy w' none := by
  go_enter Tryz.func230, Tryz.ntmps230
  go_wp2_with (go_at_call 236; refine (law04.awake_any _).mono ?_; rintro e w' ⟨rfl, g⟩)
  go_ret
  exact ⟨rfl, g⟩

theorem fr_nil : str (fr []) = ⟨#[81, 70, 0, 0, 0, 0, 0]⟩ := by
  have h1 : enc 0 = [0] := by rw [enc_small (by decide)]; rfl
  have h2 : sumN [] = 0 := by simp [sumN, fold]
  unfold fr hd
  rw [List.length_nil, h1, h2]
  rfl

theorem awake_any (w : World) :
    Calls Tryz.prog 224 #[] w fun e w' => e = .returned (.bool true) ∧ w.grownBy w' none := by
  have h1 := fun w => wrap_ok ⟨#[]⟩ (by decide) w
  rw [show str (fr (⟨#[]⟩ : ByteArray).data.toList) = ⟨#[81, 70, 0, 0, 0, 0, 0]⟩ from fr_nil] at h1
  go_enter Tryz.func224, Tryz.ntmps224
  go_wp2_with fail
  refine (h1 _).mono ?_
  rintro e w1 ⟨rfl, g1⟩
  go_wp2_with fail
  refine (Awake04_any _).mono ?_
  rintro e w2 ⟨rfl, g2⟩
  go_wp2_with fail
  go_ret
  exact ⟨rfl, only_trans g1 g2⟩

end Go.Proofs.YtbebdaglkjhbjaaGreatDoor.law05
