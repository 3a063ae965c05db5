/-
  Plain mathematics of snapshots and deltas (layer 16): may they be, what became of one, what comes of it, two together.
-/
import Derived.Test.YtbebdaglkjhbjaaGreatDoorDlm
namespace Go.Proofs.YtbebdaglkjhbjaaGreatDoor.dl
open Go.Proofs.YtbebdaglkjhbjaaGreatDoor.vi Go.Proofs.YtbebdaglkjhbjaaGreatDoor.um Go.Proofs.YtbebdaglkjhbjaaGreatDoor.wm Go.Proofs.YtbebdaglkjhbjaaGreatDoor.em Go.Proofs.YtbebdaglkjhbjaaGreatDoor.rm Go.Proofs.YtbebdaglkjhbjaaGreatDoor.tm
set_option linter.unusedVariables false
set_option linter.unusedSimpArgs false

structure Sn where
  e : Nat
  t : List Rw
structure Dt where
  b : Nat
  e : Nat
  t : List Rw
def sn0 : Sn := ⟨0, []⟩
def dt0 : Dt := ⟨0, 0, []⟩
def checkX (d : Dt) : Nat := if d.e ≤ d.b then 20 else checkT d.t
def firstX (a b : Nat) : Nat := if a ≠ 0 then a else b
def diffX (a b : Sn) : Dt × Nat :=
  if firstX (checkT a.t) (checkT b.t) ≠ 0 then (dt0, firstX (checkT a.t) (checkT b.t))
  else if b.e ≤ a.e then (dt0, 20)
  else if atT b.t a.t = false then (dt0, 21)
  else (⟨a.e, b.e, diffT a.t b.t⟩, 0)
def applyX (s : Sn) (d : Dt) : Sn × Nat :=
  if firstX (checkT s.t) (checkX d) ≠ 0 then (sn0, firstX (checkT s.t) (checkX d))
  else if s.e ≠ d.b then (sn0, 19)
  else if (sumT s.t d.t).2 ≠ 0 then (sn0, (sumT s.t d.t).2)
  else (⟨d.e, (sumT s.t d.t).1⟩, 0)
def joinX (a b : Dt) : Dt × Nat :=
  if firstX (checkX a) (checkX b) ≠ 0 then (dt0, firstX (checkX a) (checkX b))
  else if b.b ≠ a.e then (dt0, 19)
  else if (sumT a.t b.t).2 ≠ 0 then (dt0, (sumT a.t b.t).2)
  else (⟨a.b, b.e, (sumT a.t b.t).1⟩, 0)

theorem sum_over {a b : List Rw} (h : overT a b = true) : sumT a b = ([], 3) := by unfold sumT; rw [if_pos h]
theorem sum_fine {a b : List Rw} (h : overT a b = false) : sumT a b = ofT (bothT a b) := by unfold sumT; rw [if_neg (by simp [h])]
theorem firstX_zero {a b : Nat} : firstX a b = 0 ↔ a = 0 ∧ b = 0 := by
  unfold firstX
  split
  · rename_i h; exact ⟨fun e => absurd e h, fun e => e.1⟩
  · rename_i h; simp only [ne_eq, Decidable.not_not] at h; exact ⟨fun e => ⟨h, e⟩, fun e => e.2⟩
theorem firstX_lt {a b : Nat} (ha : a < 64) (hb : b < 64) : firstX a b < 64 := by unfold firstX; split <;> assumption
theorem checkX_lt (d : Dt) : checkX d < 64 := by unfold checkX; split; simp; exact checkT_lt _
theorem sumT_lt (a b : List Rw) : (sumT a b).2 < 64 := by unfold sumT; split; simp; exact ofT_lt _
theorem checkX_zero {d : Dt} : checkX d = 0 ↔ d.b < d.e ∧ tm.Good d.t := by
  unfold checkX
  split
  · exact ⟨fun e => (by cases e), fun e => (by omega)⟩
  · rw [checkT_ok]; exact ⟨fun e => ⟨by omega, e⟩, fun e => e.2⟩
theorem diffX_lt (a b : Sn) : (diffX a b).2 < 64 := by
  have := firstX_lt (checkT_lt a.t) (checkT_lt b.t)
  unfold diffX
  split
  · exact this
  split
  · simp
  split <;> simp
theorem applyX_lt (s : Sn) (d : Dt) : (applyX s d).2 < 64 := by
  have := firstX_lt (checkT_lt s.t) (checkX_lt d)
  have h2 := sumT_lt s.t d.t
  unfold applyX
  split
  · exact this
  split
  · simp
  split
  · exact h2
  · simp
theorem joinX_lt (a b : Dt) : (joinX a b).2 < 64 := by
  have := firstX_lt (checkX_lt a) (checkX_lt b)
  have h2 := sumT_lt a.t b.t
  unfold joinX
  split
  · exact this
  split
  · simp
  split
  · exact h2
  · simp

theorem diffX_ok {a b : Sn} (h : (diffX a b).2 = 0) : tm.Good a.t ∧ tm.Good b.t ∧ a.e < b.e ∧ atT b.t a.t = true ∧ (diffX a b).1 = ⟨a.e, b.e, diffT a.t b.t⟩ := by
  unfold diffX at h ⊢
  by_cases h1 : firstX (checkT a.t) (checkT b.t) ≠ 0
  · rw [if_pos h1] at h; exact absurd h h1
  rw [if_neg h1] at h ⊢
  by_cases h2 : b.e ≤ a.e
  · rw [if_pos h2] at h; cases h
  rw [if_neg h2] at h ⊢
  by_cases h3 : atT b.t a.t = false
  · rw [if_pos h3] at h; cases h
  rw [if_neg h3]
  simp only [ne_eq, Decidable.not_not] at h1
  obtain ⟨k1, k2⟩ := firstX_zero.1 h1
  exact ⟨(checkT_ok _).1 k1, (checkT_ok _).1 k2, by omega, by simpa using h3, rfl⟩
theorem diffX_eq {a b : Sn} (ha : tm.Good a.t) (hb : tm.Good b.t) (he : a.e < b.e) (h : atT b.t a.t = true) : diffX a b = (⟨a.e, b.e, diffT a.t b.t⟩, 0) := by
  unfold diffX
  rw [if_neg (by rw [ne_eq, Decidable.not_not]; exact firstX_zero.2 ⟨(checkT_ok _).2 ha, (checkT_ok _).2 hb⟩), if_neg (by omega), if_neg (by simp [h])]
theorem applyX_ok {s : Sn} {d : Dt} (h : (applyX s d).2 = 0) : tm.Good s.t ∧ tm.Good d.t ∧ d.b < d.e ∧ s.e = d.b ∧ (sumT s.t d.t).2 = 0 ∧ (applyX s d).1 = ⟨d.e, (sumT s.t d.t).1⟩ := by
  unfold applyX at h ⊢
  by_cases h1 : firstX (checkT s.t) (checkX d) ≠ 0
  · rw [if_pos h1] at h; exact absurd h h1
  rw [if_neg h1] at h ⊢
  by_cases h2 : s.e ≠ d.b
  · rw [if_pos h2] at h; cases h
  rw [if_neg h2] at h ⊢
  by_cases h3 : (sumT s.t d.t).2 ≠ 0
  · rw [if_pos h3] at h; exact absurd h h3
  rw [if_neg h3]
  simp only [ne_eq, Decidable.not_not] at h1 h2 h3
  obtain ⟨k1, k2⟩ := firstX_zero.1 h1
  obtain ⟨k3, k4⟩ := checkX_zero.1 k2
  exact ⟨(checkT_ok _).1 k1, k4, k3, h2, h3, rfl⟩
theorem applyX_eq {s : Sn} {d : Dt} (hs : tm.Good s.t) (hd : tm.Good d.t) (he : d.b < d.e) (hb : s.e = d.b) (h : (sumT s.t d.t).2 = 0) : applyX s d = (⟨d.e, (sumT s.t d.t).1⟩, 0) := by
  unfold applyX
  rw [if_neg (by rw [ne_eq, Decidable.not_not]; exact firstX_zero.2 ⟨(checkT_ok _).2 hs, checkX_zero.2 ⟨he, hd⟩⟩), if_neg (by simp [hb]), if_neg (by simp [h])]
theorem joinX_ok {a b : Dt} (h : (joinX a b).2 = 0) : tm.Good a.t ∧ tm.Good b.t ∧ a.b < a.e ∧ b.b < b.e ∧ b.b = a.e ∧ (sumT a.t b.t).2 = 0 ∧ (joinX a b).1 = ⟨a.b, b.e, (sumT a.t b.t).1⟩ := by
  unfold joinX at h ⊢
  by_cases h1 : firstX (checkX a) (checkX b) ≠ 0
  · rw [if_pos h1] at h; exact absurd h h1
  rw [if_neg h1] at h ⊢
  by_cases h2 : b.b ≠ a.e
  · rw [if_pos h2] at h; cases h
  rw [if_neg h2] at h ⊢
  by_cases h3 : (sumT a.t b.t).2 ≠ 0
  · rw [if_pos h3] at h; exact absurd h h3
  rw [if_neg h3]
  simp only [ne_eq, Decidable.not_not] at h1 h2 h3
  obtain ⟨k1, k2⟩ := firstX_zero.1 h1
  obtain ⟨k3, k4⟩ := checkX_zero.1 k1
  obtain ⟨k5, k6⟩ := checkX_zero.1 k2
  exact ⟨k4, k6, k3, k5, h2, h3, rfl⟩
theorem joinX_eq {a b : Dt} (ha : tm.Good a.t) (hb : tm.Good b.t) (h1 : a.b < a.e) (h2 : b.b < b.e) (h3 : b.b = a.e) (h : (sumT a.t b.t).2 = 0) : joinX a b = (⟨a.b, b.e, (sumT a.t b.t).1⟩, 0) := by
  unfold joinX
  rw [if_neg (by rw [ne_eq, Decidable.not_not]; exact firstX_zero.2 ⟨checkX_zero.2 ⟨h1, ha⟩, checkX_zero.2 ⟨h2, hb⟩⟩), if_neg (by simp [h3]), if_neg (by simp [h])]

def N64 (t : List Rw) : Prop := ∀ r ∈ t, r.n < 18446744073709551616
theorem get_64 : ∀ (t : List Rw) (d : List Ent), N64 t → getT d t ≤ 18446744073709551615
  | [], _, _ => by simp [getT]
  | x :: r, d, h => by
    unfold getT
    split
    · have := h x (by simp); omega
    · exact get_64 r d fun y hy => h y (by simp [hy])
theorem diff_64 {a b : List Rw} (h : N64 b) : N64 (diffT a b) := fun x hx => by
  unfold diffT at hx
  obtain ⟨r, hr, rfl⟩ := List.mem_map.1 hx
  have := h r (List.mem_filter.1 hr).1
  show r.n - _ < _
  omega
theorem both_64 {a b : List Rw} (h : overT a b = false) (hb : N64 b) : N64 (bothT a b) := fun x hx => by
  unfold bothT at hx
  rcases List.mem_append.1 hx with hx | hx
  · obtain ⟨r, hr, rfl⟩ := List.mem_map.1 hx
    have h2 := (List.any_eq_false.1 h) r hr
    simp at h2
    show r.n + getT r.d b < _
    omega
  · exact hb x (List.mem_filter.1 hx).1
theorem sum_64 {a b : List Rw} (hb : N64 b) : N64 (sumT a b).1 := fun x hx => by
  unfold sumT at hx
  split at hx
  · simp at hx
  · rename_i h
    by_cases h0 : (ofT (bothT a b)).2 = 0
    · exact both_64 (by simpa using h) hb x ((ofT_ok h0).2.mem_iff.1 hx)
    · rw [ofT_err h0] at hx; simp at hx

/-- What is applied of a difference is what was to come. -/
theorem apply_diff {a b : Sn} (h : (diffX a b).2 = 0) (hn : N64 b.t) : applyX a (diffX a b).1 = (b, 0) ∧ checkX (diffX a b).1 = 0 := by
  obtain ⟨h1, h2, h3, h4, h5⟩ := diffX_ok h
  obtain ⟨g1, g2⟩ := diff_get h1 h2 h4
  have hs := sum_diff h1 h2 h4 (fun d => get_64 b.t d hn)
  rw [h5]
  refine ⟨?_, checkX_zero.2 ⟨h3, g1⟩⟩
  rw [applyX_eq (s := a) (d := ⟨a.e, b.e, diffT a.t b.t⟩) h1 g1 h3 rfl (by simp only; rw [hs])]
  simp only
  rw [hs]
/-- What a delta leads to differs from where it came from by just that delta. -/
theorem diff_apply {a : Sn} {c : Dt} (h : (applyX a c).2 = 0) : diffX a (applyX a c).1 = (c, 0) ∧ atT (applyX a c).1.t a.t = true ∧ checkT (applyX a c).1.t = 0 := by
  obtain ⟨h1, h2, h3, h4, h5, h6⟩ := applyX_ok h
  obtain ⟨g, -⟩ := sum_get h1 h2 h5
  obtain ⟨k1, k2⟩ := diff_sum h1 h2 h5
  rw [h6]
  refine ⟨?_, k1, (checkT_ok _).2 g⟩
  rw [diffX_eq (a := a) (b := ⟨c.e, (sumT a.t c.t).1⟩) h1 g (by simp only; omega) k1]
  simp only
  rw [k2, h4]

/-- Two deltas joined lead where both do. -/
theorem apply_join {a : Sn} {c d : Dt} (h : (applyX a c).2 = 0) (k : (applyX (applyX a c).1 d).2 = 0) : (joinX c d).2 = 0 ∧ applyX a (joinX c d).1 = applyX (applyX a c).1 d := by
  obtain ⟨h1, h2, h3, h4, h5, h6⟩ := applyX_ok h
  rw [h6] at k ⊢
  obtain ⟨k1, k2, k3, k4, k5, k6⟩ := applyX_ok k
  simp only at k1 k4 k5 k6
  obtain ⟨g, e⟩ := sum_get h1 h2 h5
  obtain ⟨g3, e3⟩ := sum_get g k2 k5
  -- the sum of both deltas is there
  have ho : overT c.t d.t = false := by
    cases ho : overT c.t d.t with
    | false => rfl
    | true =>
      obtain ⟨z, z1, z2⟩ := (over_iff h2).1 ho
      have : overT (sumT a.t c.t).1 d.t = true := (over_iff g).2 ⟨z, by rw [e]; omega, by rw [e]; omega⟩
      rw [sum_over this] at k5; cases k5
  have hlen : (bothT c.t d.t).length ≤ 256 := by
    have h7 : (bothT (sumT a.t c.t).1 d.t).length ≤ 256 := by
      have := sum_code g k2
      rw [k5] at this
      split at this
      · cases this
      split at this
      · cases this
      · omega
    have hsub : ((bothT c.t d.t).map key).length ≤ ((bothT (sumT a.t c.t).1 d.t).map key).length := (both_nodup h2 k2).length_le_of_subset fun x hx => by
      rw [both_mem h2 k2] at hx
      rw [both_mem g k2, sum_mem h1 h2 h5]
      rcases hx with hx | hx
      · exact .inl (.inr hx)
      · exact .inr hx
    simp only [List.length_map] at hsub
    omega
  have hc : (sumT c.t d.t).2 = 0 := by rw [sum_code h2 k2, ho, if_neg (by simp), if_neg (by omega)]
  have hj := joinX_eq (a := c) (b := d) h2 k2 h3 k3 k4.symm hc
  obtain ⟨g4, -⟩ := sum_get h2 k2 hc
  have hass := sum_assoc h1 h2 k2 h5 hc
  rw [hj]
  refine ⟨rfl, ?_⟩
  rw [applyX_eq (s := a) (d := ⟨c.b, d.e, (sumT c.t d.t).1⟩) h1 g4 (by simp only; omega) h4 (by simp only; rw [← hass]; exact k5), applyX_eq (s := ⟨c.e, (sumT a.t c.t).1⟩) (d := d) g k2 k3 k4 k5]
  simp only
  rw [hass]

/-- It plays no part which two are joined first. -/
theorem join_join {a b c : Dt} (h : (joinX a b).2 = 0) (k : (joinX b c).2 = 0) : joinX (joinX a b).1 c = joinX a (joinX b c).1 := by
  obtain ⟨h1, h2, h3, h4, h5, h6, h7⟩ := joinX_ok h
  obtain ⟨k1, k2, k3, k4, k5, k6, k7⟩ := joinX_ok k
  obtain ⟨g1, -⟩ := sum_get h1 h2 h6
  obtain ⟨g2, -⟩ := sum_get k1 k2 k6
  have hass := sum_assoc h1 h2 k2 h6 k6
  have z1 : firstX (checkX (joinX a b).1) (checkX c) = 0 := firstX_zero.2 ⟨checkX_zero.2 (by rw [h7]; exact ⟨by simp only; omega, g1⟩), checkX_zero.2 ⟨k4, k2⟩⟩
  have z2 : firstX (checkX a) (checkX (joinX b c).1) = 0 := firstX_zero.2 ⟨checkX_zero.2 ⟨h3, h1⟩, checkX_zero.2 (by rw [k7]; exact ⟨by simp only; omega, g2⟩)⟩
  have hl : joinX (joinX a b).1 c = if (sumT (sumT a.t b.t).1 c.t).2 ≠ 0 then (dt0, (sumT (sumT a.t b.t).1 c.t).2) else (⟨a.b, c.e, (sumT (sumT a.t b.t).1 c.t).1⟩, 0) := by
    rw [joinX, if_neg (by rw [z1]; simp), h7]
    simp only
    rw [if_neg (by simp [k5])]
  have hr : joinX a (joinX b c).1 = if (sumT a.t (sumT b.t c.t).1).2 ≠ 0 then (dt0, (sumT a.t (sumT b.t c.t).1).2) else (⟨a.b, c.e, (sumT a.t (sumT b.t c.t).1).1⟩, 0) := by
    rw [joinX, if_neg (by rw [z2]; simp), k7]
    simp only
    rw [if_neg (by simp [h5])]
  rw [hl, hr, hass]

end Go.Proofs.YtbebdaglkjhbjaaGreatDoor.dl
