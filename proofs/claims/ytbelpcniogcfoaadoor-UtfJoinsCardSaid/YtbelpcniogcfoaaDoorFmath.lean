/-
  Plain mathematics of frames and of streams of frames: no function of the program.
-/
import Derived.Test.YtbelpcniogcfoaaDoorCmath
import Derived.Test.YtbelpcniogcfoaaDoorVmath
namespace Go.Proofs.YtbelpcniogcfoaaDoor.fm
open Go.RowKit Go.Proofs.YtbelpcniogcfoaaDoor.vi Go.Proofs.YtbelpcniogcfoaaDoor.crcm
set_option linter.unusedVariables false
set_option linter.unusedSimpArgs false

/-- What stands ahead of a payload of n bytes. -/
def hd (n : Nat) : List UInt8 := 81 :: 70 :: enc n
/-- The frame of some bytes. -/
def fr (p : List UInt8) : List UInt8 := hd p.length ++ (p ++ put4 (sumN p))

theorem hd_len (n : Nat) : (hd n).length = 2 + (enc n).length := by simp [hd]; omega
theorem fr_len (p : List UInt8) : (fr p).length = 2 + (enc p.length).length + p.length + 4 := by
  simp [fr, hd_len, put4]; omega

/-- Behind the mark. -/
def bodyR (R : List UInt8) : List UInt8 × Nat × Nat :=
  if (getR R).2.2 ≠ 0 then ([], 0, (getR R).2.2)
  else if 65536 < (getR R).1 then ([], 0, 4)
  else if R.length < (getR R).2.1 + (getR R).1 + 4 then ([], 0, 1)
  else if num ((R.drop ((getR R).2.1 + (getR R).1)).take 4) ≠ sumN ((R.drop (getR R).2.1).take (getR R).1) then ([], 0, 6)
  else ((R.drop (getR R).2.1).take (getR R).1, 2 + (getR R).2.1 + (getR R).1 + 4, 0)

/-- The frame that bytes begin with: payload, how many bytes, error. -/
def parseR (L : List UInt8) : List UInt8 × Nat × Nat :=
  if (0 < L.length ∧ L.getD 0 0 ≠ 81) ∨ (1 < L.length ∧ L.getD 1 0 ≠ 70) then ([], 0, 5)
  else if L.length < 2 then ([], 0, 1)
  else bodyR (L.drop 2)

theorem parseR_mark (R : List UInt8) : parseR (81 :: 70 :: R) = bodyR R := by
  unfold parseR
  rw [if_neg (by simp), if_neg (by simp)]
  rfl

theorem mark_of {L : List UInt8} (h1 : ¬ ((0 < L.length ∧ L.getD 0 0 ≠ 81) ∨ (1 < L.length ∧ L.getD 1 0 ≠ 70))) (h2 : ¬ L.length < 2) : ∃ R, L = 81 :: 70 :: R := by
  match L, h2 with
  | a :: b :: R, _ =>
    have ha : a = 81 := by
      by_cases h : a = 81
      · exact h
      · exact absurd (.inl ⟨by simp, by simpa using h⟩) h1
    have hb : b = 70 := by
      by_cases h : b = 70
      · exact h
      · exact absurd (.inr ⟨by simp, by simpa using h⟩) h1
    exact ⟨R, by rw [ha, hb]⟩
  | [], h2 => simp at h2
  | [a], h2 => simp at h2

theorem getR_mono (L M : List UInt8) (h : (getR L).2.2 ≠ 1) : getR (L ++ M) = getR L := by
  have hD : ∀ j, j < L.length → (L ++ M).getD j 0 = L.getD j 0 := fun j hj => getD_append_left hj
  rcases getR_cases L with ⟨k, hk, h10, hall, hlow⟩ | ⟨hlen, hall⟩ | ⟨hlen, hall⟩
  · rw [getR_at hk h10 hall hlow, getR_at (L := L ++ M) (k := k) (by simp; omega) h10 (fun j hj => by rw [hD j (by omega)]; exact hall j hj) (by rw [hD k hk]; exact hlow)]
    rw [hD k hk]
    have : (L ++ M).take (k + 1) = L.take (k + 1) := List.take_append_of_le_length (by omega)
    rw [this]
  · rw [getR_long hlen hall, getR_long (L := L ++ M) (by simp; omega) (fun j hj => by rw [hD j (by omega)]; exact hall j hj)]
  · exact absurd (by rw [getR_short hlen hall]) h

/-- A head, so many bytes, and four more. -/
theorem parse_at (n : Nat) (hn : n ≤ 65536) (N t : List UInt8) (hN : N.length = n + 4) :
    parseR (hd n ++ (N ++ t)) = if num (N.drop n) = sumN (N.take n) then (N.take n, 2 + (enc n).length + n + 4, 0) else ([], 0, 6) := by
  have hg := getR_enc (n := n) (by omega) (N ++ t)
  show parseR (81 :: 70 :: (enc n ++ (N ++ t))) = _
  rw [parseR_mark]
  unfold bodyR
  rw [hg]
  simp only [ne_eq, not_true, if_false]
  rw [if_neg (by omega), if_neg (by simp; omega)]
  have e1 : ((enc n ++ (N ++ t)).drop ((enc n).length + n)).take 4 = N.drop n := by
    rw [← List.drop_drop, List.drop_left, List.drop_append_of_le_length (by omega), List.take_append_of_le_length (by simp; omega), List.take_of_length_le (by simp; omega)]
  have e2 : ((enc n ++ (N ++ t)).drop (enc n).length).take n = N.take n := by
    rw [List.drop_left, List.take_append_of_le_length (by omega)]
  rw [e1, e2]
  by_cases h : num (N.drop n) = sumN (N.take n)
  · rw [if_neg (fun h' => h' h), if_pos h]
  · rw [if_pos h, if_neg h]

theorem parse_fr (p t : List UInt8) (hp : p.length ≤ 65536) : parseR (fr p ++ t) = (p, (fr p).length, 0) := by
  have h := parse_at p.length hp (p ++ put4 (sumN p)) t (by simp [put4])
  rw [fr, List.append_assoc]
  rw [h, List.drop_left, List.take_left]
  have hl : sumN p < 4294967296 := by unfold sumN; omega
  rw [if_pos (num_put4 hl)]
  have := fr_len p
  unfold fr at this
  rw [this]

/-- What is read would be framed so. -/
theorem parse_ok {L : List UInt8} (h : (parseR L).2.2 = 0) : L.take (parseR L).2.1 = fr (parseR L).1 ∧ (parseR L).1.length ≤ 65536 ∧ (parseR L).2.1 = (fr (parseR L).1).length ∧ (parseR L).2.1 ≤ L.length := by
  unfold parseR at h ⊢
  split at h
  · simp at h
  · split at h
    · simp at h
    · rename_i h1 h2
      rw [if_neg h1, if_neg h2]
      obtain ⟨R, rfl⟩ := mark_of h1 h2
      have e : (81 :: 70 :: R : List UInt8).drop 2 = R := rfl
      rw [e] at h ⊢
      unfold bodyR at h ⊢
      by_cases h3 : (getR R).2.2 ≠ 0
      · rw [if_pos h3] at h; exact absurd h h3
      · rw [if_neg h3] at h ⊢
        have h0 : (getR R).2.2 = 0 := by simpa using h3
        by_cases h4 : 65536 < (getR R).1
        · rw [if_pos h4] at h; simp at h
        · rw [if_neg h4] at h ⊢
          by_cases h5 : R.length < (getR R).2.1 + (getR R).1 + 4
          · rw [if_pos h5] at h; simp at h
          · rw [if_neg h5] at h ⊢
            by_cases h6 : num ((R.drop ((getR R).2.1 + (getR R).1)).take 4) ≠ sumN ((R.drop (getR R).2.1).take (getR R).1)
            · rw [if_pos h6] at h; simp at h
            · rw [if_neg h6]
              have henc := enc_getR h0
              have hb := getR_bounds R
              obtain ⟨hb1, hb2, hb3, hb4, hb5⟩ := hb
              have hx : num ((R.drop ((getR R).2.1 + (getR R).1)).take 4) = sumN ((R.drop (getR R).2.1).take (getR R).1) := by
                by_cases hx : num ((R.drop ((getR R).2.1 + (getR R).1)).take 4) = sumN ((R.drop (getR R).2.1).take (getR R).1)
                · exact hx
                · exact absurd hx h6
              generalize getR R = r at *
              obtain ⟨n, k, E⟩ := r
              simp only at *
              have hpl : ((R.drop k).take n).length = n := by simp; omega
              have hlen : (fr ((R.drop k).take n)).length = 2 + k + n + 4 := by
                rw [fr_len, hpl, henc]; simp; omega
              have h4l : ((R.drop (k + n)).take 4).length = 4 := by simp; omega
              have hlt : sumN ((R.drop k).take n) < 4294967296 := by unfold sumN; omega
              have hput : put4 (sumN ((R.drop k).take n)) = (R.drop (k + n)).take 4 := num_inj _ _ (by rw [h4l]; rfl) (by rw [num_put4 hlt, hx])
              refine ⟨?_, by omega, hlen.symm, by simp; omega⟩
              rw [fr, hd, hpl, henc, hput, show 2 + k + n + 4 = (k + n + 4) + 2 by omega]
              show 81 :: 70 :: R.take (k + n + 4) = 81 :: 70 :: (R.take k ++ ((R.drop k).take n ++ (R.drop (k + n)).take 4))
              congr 2
              rw [show k + n + 4 = k + (n + 4) by omega, List.take_add, List.take_add, List.drop_drop]

theorem parse_err {L : List UInt8} (h : (parseR L).2.2 ≠ 0) : (parseR L).1 = [] ∧ (parseR L).2.1 = 0 := by
  unfold parseR at h ⊢
  split
  · exact ⟨rfl, rfl⟩
  · split
    · exact ⟨rfl, rfl⟩
    · rename_i h1 h2
      rw [if_neg h1, if_neg h2] at h
      unfold bodyR at h ⊢
      split
      · exact ⟨rfl, rfl⟩
      · split
        · exact ⟨rfl, rfl⟩
        · split
          · exact ⟨rfl, rfl⟩
          · split
            · exact ⟨rfl, rfl⟩
            · rename_i h3 h4 h5 h6
              rw [if_neg h3, if_neg h4, if_neg h5, if_neg h6] at h
              exact absurd rfl h

theorem parse_lt (L : List UInt8) : (parseR L).2.2 < 7 := by
  have hb := getR_bounds (L.drop 2)
  unfold parseR
  split
  · simp
  · split
    · simp
    · unfold bodyR
      split
      · simp only; omega
      · split
        · simp
        · split
          · simp
          · split <;> simp

theorem parse_nil : parseR [] = ([], 0, 1) := by simp [parseR]

theorem parse_pos {L : List UInt8} (h : (parseR L).2.2 = 0) : 0 < (parseR L).2.1 := by
  rw [(parse_ok h).2.2.1, fr_len]; omega

/-- What isn't too short stays as it is, whatever comes behind. -/
theorem parse_mono (L M : List UInt8) (h : (parseR L).2.2 ≠ 1) : parseR (L ++ M) = parseR L := by
  by_cases h0 : (parseR L).2.2 = 0
  · obtain ⟨h1, h2, h3, h4⟩ := parse_ok h0
    have hsplit : L = fr (parseR L).1 ++ L.drop (parseR L).2.1 := by rw [← h1, List.take_append_drop]
    have := parse_fr (parseR L).1 (L.drop (parseR L).2.1 ++ M) h2
    rw [← List.append_assoc, ← hsplit] at this
    rw [this]
    apply Prod.ext
    · rfl
    · apply Prod.ext
      · exact h3.symm
      · exact h0.symm
  · have hD : ∀ j, j < L.length → (L ++ M).getD j 0 = L.getD j 0 := fun j hj => getD_append_left hj
    by_cases h1 : (0 < L.length ∧ L.getD 0 0 ≠ 81) ∨ (1 < L.length ∧ L.getD 1 0 ≠ 70)
    · unfold parseR
      rw [if_pos h1, if_pos]
      rcases h1 with ⟨h2, h3⟩ | ⟨h2, h3⟩
      · exact .inl ⟨by simp; omega, by rw [hD 0 h2]; exact h3⟩
      · exact .inr ⟨by simp; omega, by rw [hD 1 h2]; exact h3⟩
    · by_cases h2 : L.length < 2
      · unfold parseR at h
        rw [if_neg h1, if_pos h2] at h
        exact absurd rfl h
      · obtain ⟨R, rfl⟩ := mark_of h1 h2
        rw [parseR_mark] at h h0
        show parseR (81 :: 70 :: (R ++ M)) = _
        rw [parseR_mark, parseR_mark]
        have hne : (getR R).2.2 ≠ 1 := by
          intro he
          unfold bodyR at h
          rw [if_pos (by omega)] at h
          exact h he
        have hm := getR_mono R M hne
        have hb := getR_bounds R
        unfold bodyR at h h0 ⊢
        rw [hm]
        by_cases h3 : (getR R).2.2 ≠ 0
        · rw [if_pos h3, if_pos h3]
        · rw [if_neg h3] at h h0 ⊢
          rw [if_neg h3]
          by_cases h4 : 65536 < (getR R).1
          · rw [if_pos h4, if_pos h4]
          · rw [if_neg h4] at h h0 ⊢
            rw [if_neg h4]
            by_cases h5 : R.length < (getR R).2.1 + (getR R).1 + 4
            · rw [if_pos h5] at h; exact absurd rfl h
            · rw [if_neg h5] at h h0 ⊢
              rw [if_neg (by simp; omega)]
              have e1 : ((R ++ M).drop ((getR R).2.1 + (getR R).1)).take 4 = (R.drop ((getR R).2.1 + (getR R).1)).take 4 := by
                rw [List.drop_append_of_le_length (by omega), List.take_append_of_le_length (by simp; omega)]
              have e2 : ((R ++ M).drop (getR R).2.1).take (getR R).1 = (R.drop (getR R).2.1).take (getR R).1 := by
                rw [List.drop_append_of_le_length (by omega), List.take_append_of_le_length (by simp; omega)]
              rw [e1, e2]

/-- Cut a frame is too short. -/
theorem parse_cut (p : List UInt8) (hp : p.length ≤ 65536) (c : Nat) (hc : c < (fr p).length) : parseR ((fr p).take c) = ([], 0, 1) := by
  have key : (parseR ((fr p).take c)).2.2 = 1 := by
    by_cases h : (parseR ((fr p).take c)).2.2 = 1
    · exact h
    · exfalso
      have hm := parse_mono _ ((fr p).drop c) h
      rw [List.take_append_drop] at hm
      have hf := parse_fr p [] hp
      rw [List.append_nil] at hf
      rw [hf] at hm
      have h0 : (parseR ((fr p).take c)).2.2 = 0 := by rw [← hm]
      have := (parse_ok h0).2.2.2
      rw [← hm] at this
      simp at this
      omega
  have he := parse_err (L := (fr p).take c) (by omega)
  apply Prod.ext
  · exact he.1
  · apply Prod.ext
    · exact he.2
    · exact key

/-- The ways that a text is read, one by one. -/
theorem parse_cases (L : List UInt8) :
    (0 < L.length ∧ L.getD 0 0 ≠ 81 ∧ parseR L = ([], 0, 5)) ∨
    (1 < L.length ∧ L.getD 0 0 = 81 ∧ L.getD 1 0 ≠ 70 ∧ parseR L = ([], 0, 5)) ∨
    (L.length = 0 ∧ parseR L = ([], 0, 1)) ∨
    (L.length = 1 ∧ L.getD 0 0 = 81 ∧ parseR L = ([], 0, 1)) ∨
    (2 ≤ L.length ∧ L.getD 0 0 = 81 ∧ L.getD 1 0 = 70 ∧
      (((getR (L.drop 2)).2.2 ≠ 0 ∧ parseR L = ([], 0, (getR (L.drop 2)).2.2)) ∨
       ((getR (L.drop 2)).2.2 = 0 ∧ 65536 < (getR (L.drop 2)).1 ∧ parseR L = ([], 0, 4)) ∨
       ((getR (L.drop 2)).2.2 = 0 ∧ (getR (L.drop 2)).1 ≤ 65536 ∧ L.length < 2 + (getR (L.drop 2)).2.1 + (getR (L.drop 2)).1 + 4 ∧ parseR L = ([], 0, 1)) ∨
       ((getR (L.drop 2)).2.2 = 0 ∧ (getR (L.drop 2)).1 ≤ 65536 ∧ 2 + (getR (L.drop 2)).2.1 + (getR (L.drop 2)).1 + 4 ≤ L.length ∧
         (((L.drop (2 + (getR (L.drop 2)).2.1 + (getR (L.drop 2)).1)).take 4 = put4 (sumN ((L.drop (2 + (getR (L.drop 2)).2.1)).take (getR (L.drop 2)).1)) ∧
            L.take (2 + (getR (L.drop 2)).2.1 + (getR (L.drop 2)).1 + 4) = fr ((L.drop (2 + (getR (L.drop 2)).2.1)).take (getR (L.drop 2)).1) ∧
            parseR L = ((L.drop (2 + (getR (L.drop 2)).2.1)).take (getR (L.drop 2)).1, 2 + (getR (L.drop 2)).2.1 + (getR (L.drop 2)).1 + 4, 0)) ∨
         ((L.drop (2 + (getR (L.drop 2)).2.1 + (getR (L.drop 2)).1)).take 4 ≠ put4 (sumN ((L.drop (2 + (getR (L.drop 2)).2.1)).take (getR (L.drop 2)).1)) ∧
            L.take (2 + (getR (L.drop 2)).2.1 + (getR (L.drop 2)).1 + 4) ≠ fr ((L.drop (2 + (getR (L.drop 2)).2.1)).take (getR (L.drop 2)).1) ∧
            parseR L = ([], 0, 6)))))) := by
  by_cases h1 : 0 < L.length ∧ L.getD 0 0 ≠ 81
  · exact .inl ⟨h1.1, h1.2, by unfold parseR; rw [if_pos (.inl h1)]⟩
  by_cases h2 : 1 < L.length ∧ L.getD 1 0 ≠ 70
  · refine .inr (.inl ⟨h2.1, ?_, h2.2, by unfold parseR; rw [if_pos (.inr h2)]⟩)
    by_cases h : L.getD 0 0 = 81
    · exact h
    · exact absurd ⟨by omega, h⟩ h1
  have h12 : ¬ ((0 < L.length ∧ L.getD 0 0 ≠ 81) ∨ (1 < L.length ∧ L.getD 1 0 ≠ 70)) := fun h => h.elim h1 h2
  by_cases h3 : L.length < 2
  · have hp : parseR L = ([], 0, 1) := by unfold parseR; rw [if_neg h12, if_pos h3]
    by_cases h0 : L.length = 0
    · exact .inr (.inr (.inl ⟨h0, hp⟩))
    · refine .inr (.inr (.inr (.inl ⟨by omega, ?_, hp⟩)))
      by_cases h : L.getD 0 0 = 81
      · exact h
      · exact absurd ⟨by omega, h⟩ h1
  obtain ⟨R, rfl⟩ := mark_of h12 h3
  refine .inr (.inr (.inr (.inr ⟨by simp, rfl, rfl, ?_⟩)))
  have e : (81 :: 70 :: R : List UInt8).drop 2 = R := rfl
  have hd : ∀ j, (81 :: 70 :: R : List UInt8).drop (2 + j) = R.drop j := fun j => by rw [← List.drop_drop]; rfl
  rw [e, parseR_mark]
  by_cases h4 : (getR R).2.2 ≠ 0
  · exact .inl ⟨h4, by unfold bodyR; rw [if_pos h4]⟩
  have h0 : (getR R).2.2 = 0 := by simpa using h4
  by_cases h5 : 65536 < (getR R).1
  · exact .inr (.inl ⟨h0, h5, by unfold bodyR; rw [if_neg h4, if_pos h5]⟩)
  by_cases h6 : R.length < (getR R).2.1 + (getR R).1 + 4
  · exact .inr (.inr (.inl ⟨h0, by omega, by simp only [List.length_cons]; omega, by unfold bodyR; rw [if_neg h4, if_neg h5, if_pos h6]⟩))
  refine .inr (.inr (.inr ⟨h0, by omega, by simp only [List.length_cons]; omega, ?_⟩))
  rw [show 2 + (getR R).2.1 + (getR R).1 = 2 + ((getR R).2.1 + (getR R).1) by omega, hd, hd]
  have hlt : sumN ((R.drop (getR R).2.1).take (getR R).1) < 4294967296 := by unfold sumN; omega
  have h4l : ((R.drop ((getR R).2.1 + (getR R).1)).take 4).length = 4 := by simp; omega
  by_cases h7 : num ((R.drop ((getR R).2.1 + (getR R).1)).take 4) = sumN ((R.drop (getR R).2.1).take (getR R).1)
  · have hput : (R.drop ((getR R).2.1 + (getR R).1)).take 4 = put4 (sumN ((R.drop (getR R).2.1).take (getR R).1)) := num_inj _ _ (by rw [h4l]; rfl) (by rw [num_put4 hlt, h7])
    have hp : parseR (81 :: 70 :: R) = ((R.drop (getR R).2.1).take (getR R).1, 2 + (getR R).2.1 + (getR R).1 + 4, 0) := by
      rw [parseR_mark]
      unfold bodyR
      rw [if_neg h4, if_neg h5, if_neg h6, if_neg (fun h' => h' h7)]
    have hk := parse_ok (L := (81 :: 70 :: R)) (by rw [hp])
    rw [hp] at hk
    refine .inl ⟨hput, ?_, ?_⟩
    · rw [show 2 + ((getR R).2.1 + (getR R).1) + 4 = 2 + (getR R).2.1 + (getR R).1 + 4 by omega]
      exact hk.1
    · rw [← parseR_mark, hp, show 2 + ((getR R).2.1 + (getR R).1) + 4 = 2 + (getR R).2.1 + (getR R).1 + 4 by omega]
  · refine .inr ⟨fun h => h7 (by rw [h, num_put4 hlt]), fun h => h7 ?_, ?_⟩
    · have h8 := congrArg (List.drop (2 + ((getR R).2.1 + (getR R).1))) h
      rw [List.drop_take, hd, show 2 + ((getR R).2.1 + (getR R).1) + 4 - (2 + ((getR R).2.1 + (getR R).1)) = 4 by omega] at h8
      have hpl : ((R.drop (getR R).2.1).take (getR R).1).length = (getR R).1 := by simp; omega
      have henc : (enc (getR R).1).length = (getR R).2.1 := by
        rw [enc_getR h0]
        have := (getR_bounds R).2.1
        simp; omega
      have hfl : (fm.hd (getR R).1 ++ (R.drop (getR R).2.1).take (getR R).1).length = 2 + ((getR R).2.1 + (getR R).1) := by
        rw [List.length_append, hd_len, henc, hpl]; omega
      have hfr : fr ((R.drop (getR R).2.1).take (getR R).1) = (fm.hd (getR R).1 ++ (R.drop (getR R).2.1).take (getR R).1) ++ put4 (sumN ((R.drop (getR R).2.1).take (getR R).1)) := by
        rw [fr, hpl, List.append_assoc]
      rw [hfr, List.drop_left' hfl] at h8
      rw [h8, num_put4 hlt]
    · unfold bodyR
      rw [if_neg h4, if_neg h5, if_neg h6, if_pos h7]

/-! All frames of some bytes. -/
def framesR (L : List UInt8) : List (List UInt8) × Nat :=
  if hL : L = [] then ([], 0)
  else if h : (parseR L).2.2 ≠ 0 then ([], (parseR L).2.2)
  else if (framesR (L.drop (parseR L).2.1)).2 = 0 then ((parseR L).1 :: (framesR (L.drop (parseR L).2.1)).1, 0)
  else ([], (framesR (L.drop (parseR L).2.1)).2)
termination_by L.length
decreasing_by
  all_goals
    have h0 : (parseR L).2.2 = 0 := by simpa using h
    have := parse_pos h0
    have : 0 < L.length := List.length_pos_iff.2 hL
    simp only [List.length_drop]
    omega

/-- Texts that are there already, and those that come. -/
def glueF (acc : List (List UInt8)) (q : List (List UInt8) × Nat) : List (List UInt8) × Nat := if q.2 = 0 then (acc ++ q.1, 0) else ([], q.2)

theorem framesR_nil : framesR [] = ([], 0) := by rw [framesR, dif_pos rfl]
theorem framesR_err {L : List UInt8} (h : L ≠ []) (h2 : (parseR L).2.2 ≠ 0) : framesR L = ([], (parseR L).2.2) := by rw [framesR, dif_neg h, dif_pos h2]
theorem framesR_ok {L : List UInt8} (h : L ≠ []) (h2 : (parseR L).2.2 = 0) : framesR L = glueF [(parseR L).1] (framesR (L.drop (parseR L).2.1)) := by
  rw [framesR, dif_neg h, dif_neg (by simpa using h2)]
  unfold glueF
  split <;> simp_all

theorem glueF_glueF (a b : List (List UInt8)) (q : List (List UInt8) × Nat) : glueF a (glueF b q) = glueF (a ++ b) q := by
  unfold glueF
  by_cases h : q.2 = 0
  · simp [h]
  · simp [h]

/-! A stream of frames: what was delivered, the error, how many bytes wait. -/
def ofR (L : List UInt8) : List (List UInt8) × Nat × Nat :=
  if (parseR L).2.2 = 1 then ([], 0, L.length)
  else if h : (parseR L).2.2 ≠ 0 then ([], (parseR L).2.2, 0)
  else ((parseR L).1 :: (ofR (L.drop (parseR L).2.1)).1, (ofR (L.drop (parseR L).2.1)).2)
termination_by L.length
decreasing_by
  all_goals
    have h0 : (parseR L).2.2 = 0 := by simpa using h
    have := parse_pos h0
    have := (parse_ok h0).2.2.2
    simp only [List.length_drop]
    omega

theorem ofR_short {L : List UInt8} (h : (parseR L).2.2 = 1) : ofR L = ([], 0, L.length) := by rw [ofR, if_pos h]
theorem ofR_bad {L : List UInt8} (h : (parseR L).2.2 ≠ 1) (h2 : (parseR L).2.2 ≠ 0) : ofR L = ([], (parseR L).2.2, 0) := by rw [ofR, if_neg h, dif_pos h2]
theorem ofR_ok {L : List UInt8} (h : (parseR L).2.2 = 0) : ofR L = ((parseR L).1 :: (ofR (L.drop (parseR L).2.1)).1, (ofR (L.drop (parseR L).2.1)).2) := by
  rw [ofR, if_neg (by omega), dif_neg (by simpa using h)]

theorem ofR_nil : ofR [] = ([], 0, 0) := by rw [ofR_short (by rw [parse_nil])]; rfl

theorem ofR_bounds : ∀ (m : Nat) (L : List UInt8), L.length ≤ m → (ofR L).2.2 ≤ L.length ∧ (ofR L).1.length ≤ L.length ∧ (ofR L).2.1 < 7 ∧ ((ofR L).2.1 ≠ 0 → (ofR L).2.2 = 0) ∧ (ofR L).2.1 ≠ 1 := by
  intro m
  induction m with
  | zero =>
    intro L hm
    have : L = [] := List.length_eq_zero_iff.1 (by omega)
    subst this
    rw [ofR_nil]
    simp
  | succ m ih =>
    intro L hm
    by_cases h1 : (parseR L).2.2 = 1
    · rw [ofR_short h1]; simp
    · by_cases h0 : (parseR L).2.2 = 0
      · have hp := parse_pos h0
        have hl := (parse_ok h0).2.2.2
        have := ih (L.drop (parseR L).2.1) (by simp; omega)
        rw [ofR_ok h0]
        simp only [List.length_drop, List.length_cons] at this ⊢
        omega
      · rw [ofR_bad h1 h0]
        have := parse_lt L
        simp
        omega

/-- What waits of a stream. -/
def restR (L : List UInt8) : List UInt8 := L.drop (L.length - (ofR L).2.2)

theorem restR_def (L : List UInt8) : restR L = L.drop (L.length - (ofR L).2.2) := rfl
theorem restR_len (L : List UInt8) : (restR L).length = (ofR L).2.2 := by
  have := (ofR_bounds _ L (Nat.le_refl _)).1
  simp [restR]; omega

theorem restR_short {L : List UInt8} (h : (parseR L).2.2 = 1) : restR L = L := by
  unfold restR
  rw [ofR_short h]
  simp

theorem restR_ok {L : List UInt8} (h : (parseR L).2.2 = 0) : restR L = restR (L.drop (parseR L).2.1) := by
  have hl := (parse_ok h).2.2.2
  have hb := (ofR_bounds _ (L.drop (parseR L).2.1) (Nat.le_refl _)).1
  unfold restR
  rw [ofR_ok h]
  simp only [List.length_drop, List.drop_drop] at hb ⊢
  congr 1
  omega

/-- How a stream is cut plays no part. -/
theorem ofR_append : ∀ (m : Nat) (L M : List UInt8), L.length ≤ m →
    ofR (L ++ M) = if (ofR L).2.1 ≠ 0 then ofR L else ((ofR L).1 ++ (ofR (restR L ++ M)).1, (ofR (restR L ++ M)).2) := by
  intro m
  induction m with
  | zero =>
    intro L M hm
    have : L = [] := List.length_eq_zero_iff.1 (by omega)
    subst this
    rw [restR_short (by rw [parse_nil]), ofR_nil]
    simp
  | succ m ih =>
    intro L M hm
    by_cases h1 : (parseR L).2.2 = 1
    · rw [restR_short h1, ofR_short h1]; simp
    · have hmo := parse_mono L M h1
      by_cases h0 : (parseR L).2.2 = 0
      · have hp := parse_pos h0
        have hl := (parse_ok h0).2.2.2
        have hi := ih (L.drop (parseR L).2.1) M (by simp; omega)
        have hd : (L ++ M).drop (parseR L).2.1 = L.drop (parseR L).2.1 ++ M := List.drop_append_of_le_length hl
        rw [ofR_ok (L := L ++ M) (by rw [hmo]; exact h0), hmo, hd, hi, restR_ok h0, ofR_ok h0]
        by_cases hz : (ofR (L.drop (parseR L).2.1)).2.1 ≠ 0
        · simp [hz]
        · simp at hz
          simp [hz]
      · rw [ofR_bad (L := L ++ M) (by rw [hmo]; exact h1) (by rw [hmo]; exact h0), hmo, ofR_bad h1 h0]
        simp [h0]

theorem ofR_app (L M : List UInt8) : ofR (L ++ M) = if (ofR L).2.1 ≠ 0 then ofR L else ((ofR L).1 ++ (ofR (restR L ++ M)).1, (ofR (restR L ++ M)).2) := ofR_append _ L M (Nat.le_refl _)

theorem restR_app (L M : List UInt8) (h : (ofR L).2.1 = 0) : restR (L ++ M) = restR (restR L ++ M) := by
  have h1 := restR_len (restR L ++ M)
  have h2 := ofR_app L M
  rw [if_neg (by simpa using h)] at h2
  have hb := (ofR_bounds _ L (Nat.le_refl _)).1
  have hb2 := (ofR_bounds _ (restR L ++ M) (Nat.le_refl _)).1
  have hr := restR_len L
  have hL : L = L.take (L.length - (ofR L).2.2) ++ restR L := by unfold restR; rw [List.take_append_drop]
  have e : (ofR (L ++ M)).2.2 = (ofR (restR L ++ M)).2.2 := by rw [h2]
  rw [restR_def (L ++ M), restR_def (restR L ++ M)]
  rw [e]
  have e2 : L ++ M = L.take (L.length - (ofR L).2.2) ++ (restR L ++ M) := by rw [← List.append_assoc, ← hL]
  generalize (ofR (restR L ++ M)).2.2 = k at *
  rw [e2]
  rw [List.drop_append]
  have hlen : (L.take (L.length - (ofR L).2.2) ++ (restR L ++ M)).length - k = (L.take (L.length - (ofR L).2.2)).length + ((restR L ++ M).length - k) := by
    simp only [List.length_append] at hb2 ⊢
    omega
  rw [hlen]
  rw [List.drop_eq_nil_of_le (by omega)]
  simp

end Go.Proofs.YtbelpcniogcfoaaDoor.fm
