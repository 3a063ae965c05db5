/-
  Dlm, Dls, Dlr, Dlt, Dla, Dlj
-/
import Derived.Test.YtbebdaglkjhbjaaGreatDoorBundR
import Derived.Test.YtbebdaglkjhbjaaGreatDoorLaw13L
import Derived.Test.YtbebdaglkjhbjaaGreatDoorBundH
import Derived.Test.YtbebdaglkjhbjaaGreatDoorTgt
import Derived.Test.YtbebdaglkjhbjaaGreatDoorTal

/-
  Plain mathematics of differences (layer 16): two tables together, what became of one.
-/
namespace Go.Proofs.YtbebdaglkjhbjaaGreatDoor.dl
open Go.Proofs.YtbebdaglkjhbjaaGreatDoor.vi Go.Proofs.YtbebdaglkjhbjaaGreatDoor.um Go.Proofs.YtbebdaglkjhbjaaGreatDoor.wm Go.Proofs.YtbebdaglkjhbjaaGreatDoor.em Go.Proofs.YtbebdaglkjhbjaaGreatDoor.rm Go.Proofs.YtbebdaglkjhbjaaGreatDoor.tm
set_option linter.unusedVariables false
set_option linter.unusedSimpArgs false

def plusR (b : List Rw) (r : Rw) : Rw := ⟨r.d, r.n + getT r.d b⟩
def overT (a b : List Rw) : Bool := a.any fun r => decide (18446744073709551615 < r.n + getT r.d b)
def bothT (a b : List Rw) : List Rw := a.map (plusR b) ++ b.filter fun r => decide (getT r.d a = 0)
/-- Two tables together, the code. -/
def sumT (a b : List Rw) : List Rw × Nat := if overT a b = true then ([], 3) else ofT (bothT a b)
/-- What b is more than a. -/
def diffT (a b : List Rw) : List Rw := (b.filter fun r => decide (r.n ≠ getT r.d a)).map fun r => ⟨r.d, r.n - getT r.d a⟩

theorem getT_key {d e : List Ent} (h : keyD d = keyD e) : ∀ t : List Rw, getT d t = getT e t
  | [] => rfl
  | w :: t => by unfold getT; rw [getT_key h t, h]
theorem key_plus (b : List Rw) (r : Rw) : key (plusR b r) = key r := rfl
/-- Tables that may be, and hold the same numbers, are one. -/
theorem ext_get {x y : List Rw} (hx : tm.Good x) (hy : tm.Good y) (h : ∀ d, getT d x = getT d y) : x = y :=
  at_same hx hy ((atT_iff x y).2 fun r hr => by rw [h, getT_of hy.2.2 hr rfl]; omega) ((atT_iff y x).2 fun r hr => by rw [← h, getT_of hx.2.2 hr rfl]; omega)

theorem both_row {a b : List Rw} (ha : tm.Good a) (hb : tm.Good b) : ∀ x ∈ bothT a b, rowE x = 0 := fun x hx => by
  unfold bothT at hx
  rcases List.mem_append.1 hx with h | h
  · obtain ⟨r, hr, rfl⟩ := List.mem_map.1 h
    obtain ⟨c1, c2⟩ := rowE_pos (ha.2.1 r hr)
    unfold rowE plusR
    rw [if_neg (by simpa using c1), if_neg (by simp; omega)]
  · exact hb.2.1 x (List.mem_filter.1 h).1
theorem both_nodup {a b : List Rw} (ha : tm.Good a) (hb : tm.Good b) : ((bothT a b).map key).Nodup := by
  have key_nodup : ∀ {t : List Rw}, t.Pairwise ltR → (t.map key).Nodup := fun h => by
    rw [List.Nodup, List.pairwise_map]
    exact h.imp fun h => ltR_ne h
  unfold bothT
  rw [List.map_append, List.nodup_append]
  refine ⟨?_, key_nodup (hb.2.2.filter _), fun x hx y hy e => ?_⟩
  · rw [List.map_map, show (key ∘ plusR b) = key from rfl]
    exact key_nodup ha.2.2
  · rw [List.map_map, show (key ∘ plusR b) = key from rfl] at hx
    obtain ⟨r, hr, rfl⟩ := List.mem_map.1 hx
    obtain ⟨u, hu, rfl⟩ := List.mem_map.1 hy
    obtain ⟨hu1, hu2⟩ := List.mem_filter.1 hu
    have h0 : getT u.d a = 0 := by simpa using hu2
    rw [getT_of ha.2.2 hr (show keyD u.d = key r from e.symm)] at h0
    have := (rowE_pos (ha.2.1 r hr)).2
    omega
/-- Of two tables that may be: only how many rows there are may stand against it. -/
theorem of_both {a b : List Rw} (ha : tm.Good a) (hb : tm.Good b) : (ofT (bothT a b)).2 = if 256 < (bothT a b).length then 13 else 0 := by
  unfold ofT
  by_cases h : 256 < (bothT a b).length
  · rw [if_pos h, if_pos h]
  · rw [if_neg h, if_neg h, if_neg (by simpa using (firstT_zero _).2 (both_row ha hb))]
    have := (insAllT_iff (bothT a b) [] List.Pairwise.nil).2 (by simpa using both_nodup ha hb)
    obtain ⟨o, ho⟩ := Option.isSome_iff_exists.1 this
    rw [ho]
theorem sum_code {a b : List Rw} (ha : tm.Good a) (hb : tm.Good b) : (sumT a b).2 = if overT a b = true then 3 else if 256 < (bothT a b).length then 13 else 0 := by
  unfold sumT
  split
  · rfl
  · exact of_both ha hb
theorem sum_err {a b : List Rw} (h : (sumT a b).2 ≠ 0) : (sumT a b).1 = [] := by
  unfold sumT at h ⊢
  split
  · rfl
  · rename_i h1; rw [if_neg h1] at h; exact ofT_err h
/-- The numbers of both together. -/
theorem sum_get {a b : List Rw} (ha : tm.Good a) (hb : tm.Good b) (h : (sumT a b).2 = 0) : tm.Good (sumT a b).1 ∧ ∀ d, getT d (sumT a b).1 = getT d a + getT d b := by
  have h1 : ¬ overT a b = true := fun e => by unfold sumT at h; rw [if_pos e] at h; cases h
  unfold sumT at h ⊢
  rw [if_neg h1] at h ⊢
  obtain ⟨g, p⟩ := ofT_ok h
  refine ⟨g, fun d => ?_⟩
  by_cases hda : getT d a = 0
  · by_cases hdb : getT d b = 0
    · rw [hda, hdb]
      refine Classical.byContradiction fun hne => ?_
      obtain ⟨r, hr, hk, hn⟩ := getT_mem hne
      rcases List.mem_append.1 (p.mem_iff.1 hr) with hr | hr
      · obtain ⟨u, hu, rfl⟩ := List.mem_map.1 hr
        rw [getT_of ha.2.2 hu (show keyD d = key u from hk.symm)] at hda
        have := (rowE_pos (ha.2.1 u hu)).2
        omega
      · have hrb := (List.mem_filter.1 hr).1
        rw [getT_of hb.2.2 hrb (show keyD d = key r from hk.symm)] at hdb
        have := (rowE_pos (hb.2.1 r hrb)).2
        omega
    · obtain ⟨r, hr, hk, hn⟩ := getT_mem hdb
      have hm : r ∈ bothT a b := List.mem_append_right _ (List.mem_filter.2 ⟨hr, by rw [getT_key (show keyD r.d = keyD d from hk)]; simpa using hda⟩)
      rw [getT_of g.2.2 (p.mem_iff.2 hm) (show keyD d = key r from hk.symm), hda, ← hn]
      omega
  · obtain ⟨r, hr, hk, hn⟩ := getT_mem hda
    have hm : plusR b r ∈ bothT a b := List.mem_append_left _ (List.mem_map.2 ⟨r, hr, rfl⟩)
    rw [getT_of g.2.2 (p.mem_iff.2 hm) (show keyD d = key (plusR b r) from hk.symm), ← hn]
    show r.n + getT r.d b = _
    rw [getT_key (show keyD r.d = keyD d from hk)]

theorem over_iff {a b : List Rw} (ha : tm.Good a) : overT a b = true ↔ ∃ d, getT d a ≠ 0 ∧ 18446744073709551615 < getT d a + getT d b := by
  unfold overT
  rw [List.any_eq_true]
  constructor
  · rintro ⟨r, hr, h⟩
    refine ⟨r.d, ?_, ?_⟩
    · rw [getT_of ha.2.2 hr rfl]; have := (rowE_pos (ha.2.1 r hr)).2; omega
    · rw [getT_of ha.2.2 hr rfl]; simpa using h
  · rintro ⟨d, h0, h⟩
    obtain ⟨r, hr, hk, hn⟩ := getT_mem h0
    exact ⟨r, hr, by rw [getT_key (show keyD r.d = keyD d from hk), hn]; simpa using h⟩

/-- What became of a table: it may be, and holds what was added. -/
theorem diff_get {a b : List Rw} (ha : tm.Good a) (hb : tm.Good b) (h : atT b a = true) : tm.Good (diffT a b) ∧ ∀ d, getT d (diffT a b) + getT d a = getT d b := by
  have hle : ∀ d, getT d a ≤ getT d b := fun d => by
    by_cases h0 : getT d a = 0
    · omega
    · obtain ⟨r, hr, hk, hn⟩ := getT_mem h0
      have := (atT_iff b a).1 h r hr
      rw [getT_key (show keyD r.d = keyD d from hk)] at this
      omega
  have hg : tm.Good (diffT a b) := by
    refine ⟨?_, fun x hx => ?_, ?_⟩
    · unfold diffT
      rw [List.length_map]
      exact Nat.le_trans (List.length_filter_le _ _) hb.1
    · obtain ⟨r, hr, rfl⟩ := List.mem_map.1 hx
      obtain ⟨h1, h2⟩ := List.mem_filter.1 hr
      obtain ⟨c1, c2⟩ := rowE_pos (hb.2.1 r h1)
      have h3 : r.n ≠ getT r.d a := by simpa using h2
      have h4 := hle r.d
      rw [getT_of hb.2.2 h1 rfl] at h4
      unfold rowE
      rw [if_neg (by simpa using c1), if_neg (by simp; omega)]
    · unfold diffT
      rw [List.pairwise_map]
      exact hb.2.2.filter _
  refine ⟨hg, fun d => ?_⟩
  have hl := hle d
  by_cases h0 : getT d (diffT a b) = 0
  · rw [h0]
    by_cases hb0 : getT d b = 0
    · omega
    · obtain ⟨r, hr, hk, hn⟩ := getT_mem hb0
      refine Classical.byContradiction fun hne => ?_
      have hd : getT r.d a = getT d a := getT_key (show keyD r.d = keyD d from hk) a
      have hm : (⟨r.d, r.n - getT r.d a⟩ : Rw) ∈ diffT a b := List.mem_map.2 ⟨r, List.mem_filter.2 ⟨hr, by simp; omega⟩, rfl⟩
      rw [getT_of hg.2.2 hm (show keyD d = key ⟨r.d, r.n - getT r.d a⟩ from hk.symm)] at h0
      simp at h0
      omega
  · obtain ⟨x, hx, hk, hn⟩ := getT_mem h0
    obtain ⟨r, hr, rfl⟩ := List.mem_map.1 hx
    obtain ⟨h1, h2⟩ := List.mem_filter.1 hr
    rw [← hn]
    have hd : getT r.d a = getT d a := getT_key (show keyD r.d = keyD d from hk) a
    have hb1 : getT d b = r.n := getT_of hb.2.2 h1 (show keyD d = key r from hk.symm)
    show r.n - getT r.d a + _ = _
    omega

/-! Which two are joined first plays no part. -/
theorem both_mem {a b : List Rw} (ha : tm.Good a) (hb : tm.Good b) (k : Bs) : k ∈ (bothT a b).map key ↔ k ∈ a.map key ∨ k ∈ b.map key := by
  unfold bothT
  rw [List.map_append, List.mem_append, List.map_map, show (key ∘ plusR b) = key from rfl]
  constructor
  · rintro (h | h)
    · exact .inl h
    · obtain ⟨u, hu, rfl⟩ := List.mem_map.1 h
      exact .inr (List.mem_map.2 ⟨u, (List.mem_filter.1 hu).1, rfl⟩)
  · rintro (h | h)
    · exact .inl h
    · obtain ⟨u, hu, rfl⟩ := List.mem_map.1 h
      by_cases h0 : getT u.d a = 0
      · exact .inr (List.mem_map.2 ⟨u, List.mem_filter.2 ⟨hu, by simpa using h0⟩, rfl⟩)
      · obtain ⟨r, hr, hk, -⟩ := getT_mem h0
        exact .inl (List.mem_map.2 ⟨r, hr, hk⟩)
theorem sum_mem {a b : List Rw} (ha : tm.Good a) (hb : tm.Good b) (h : (sumT a b).2 = 0) (k : Bs) : k ∈ (sumT a b).1.map key ↔ k ∈ a.map key ∨ k ∈ b.map key := by
  have h1 : ¬ overT a b = true := fun e => by unfold sumT at h; rw [if_pos e] at h; cases h
  unfold sumT at h ⊢
  rw [if_neg h1] at h ⊢
  rw [← both_mem ha hb]
  exact ((ofT_ok h).2.map key).mem_iff
theorem both_len {a b c e : List Rw} (ha : tm.Good a) (hb : tm.Good b) (hc : tm.Good c) (he : tm.Good e) (h : ∀ k, (k ∈ a.map key ∨ k ∈ b.map key) ↔ (k ∈ c.map key ∨ k ∈ e.map key)) : (bothT a b).length = (bothT c e).length := by
  have hp : ((bothT a b).map key).Perm ((bothT c e).map key) := (List.perm_ext_iff_of_nodup (both_nodup ha hb) (both_nodup hc he)).2 fun k => by rw [both_mem ha hb, both_mem hc he]; exact h k
  simpa using hp.length_eq
theorem sum_assoc {a b c : List Rw} (ha : tm.Good a) (hb : tm.Good b) (hc : tm.Good c) (h1 : (sumT a b).2 = 0) (h2 : (sumT b c).2 = 0) : sumT (sumT a b).1 c = sumT a (sumT b c).1 := by
  obtain ⟨g1, e1⟩ := sum_get ha hb h1
  obtain ⟨g2, e2⟩ := sum_get hb hc h2
  have hov : overT b c = false := by
    cases ho : overT b c with
    | false => rfl
    | true => unfold sumT at h2; rw [if_pos ho] at h2; cases h2
  have ho : overT (sumT a b).1 c = overT a (sumT b c).1 := by
    rw [Bool.eq_iff_iff, over_iff g1, over_iff ha]
    constructor
    · rintro ⟨d, k1, k2⟩
      rw [e1] at k1 k2
      refine ⟨d, fun h0 => ?_, by rw [e2]; omega⟩
      have : overT b c = true := (over_iff hb).2 ⟨d, by omega, by omega⟩
      rw [hov] at this; cases this
    · rintro ⟨d, k1, k2⟩
      rw [e2] at k2
      exact ⟨d, by rw [e1]; omega, by rw [e1]; omega⟩
  have hl : (bothT (sumT a b).1 c).length = (bothT a (sumT b c).1).length := both_len g1 hc ha g2 fun k => by rw [sum_mem ha hb h1, sum_mem hb hc h2, or_assoc]
  have hcode : (sumT (sumT a b).1 c).2 = (sumT a (sumT b c).1).2 := by rw [sum_code g1 hc, sum_code ha g2, ho, hl]
  refine Prod.ext ?_ hcode
  by_cases h0 : (sumT (sumT a b).1 c).2 = 0
  · obtain ⟨g3, e3⟩ := sum_get g1 hc h0
    obtain ⟨g4, e4⟩ := sum_get ha g2 (by rw [← hcode]; exact h0)
    exact ext_get g3 g4 fun d => by rw [e3, e4, e1, e2]; omega
  · rw [sum_err h0, sum_err (by rw [← hcode]; exact h0)]
/-- What is added to a table and taken away again. -/
theorem sum_diff {a b : List Rw} (ha : tm.Good a) (hb : tm.Good b) (h : atT b a = true) (hn : ∀ d, getT d b ≤ 18446744073709551615) : sumT a (diffT a b) = (b, 0) := by
  obtain ⟨g, e⟩ := diff_get ha hb h
  have ho : overT a (diffT a b) = false := by
    cases ho : overT a (diffT a b) with
    | false => rfl
    | true =>
      obtain ⟨d, -, k⟩ := (over_iff ha).1 ho
      have := e d; have := hn d
      omega
  have hsub : (bothT a (diffT a b)).length = (bothT b []).length := both_len ha g hb ⟨by simp, by simp, List.Pairwise.nil⟩ fun k => by
    simp only [List.map_nil, List.not_mem_nil, or_false]
    constructor
    · rintro (h' | h')
      · obtain ⟨r, hr, rfl⟩ := List.mem_map.1 h'
        have h0 := e r.d
        have hp := (rowE_pos (ha.2.1 r hr)).2
        rw [getT_of ha.2.2 hr rfl] at h0
        obtain ⟨u, hu, hk, -⟩ := getT_mem (t := b) (d := r.d) (by omega)
        exact List.mem_map.2 ⟨u, hu, hk⟩
      · obtain ⟨r, hr, rfl⟩ := List.mem_map.1 h'
        have h0 := e r.d
        have hp := (rowE_pos (g.2.1 r hr)).2
        rw [getT_of g.2.2 hr rfl] at h0
        obtain ⟨u, hu, hk, -⟩ := getT_mem (t := b) (d := r.d) (by omega)
        exact List.mem_map.2 ⟨u, hu, hk⟩
    · intro h'
      obtain ⟨r, hr, rfl⟩ := List.mem_map.1 h'
      have h0 := e r.d
      have hp := (rowE_pos (hb.2.1 r hr)).2
      rw [getT_of hb.2.2 hr rfl] at h0
      by_cases hz : getT r.d a = 0
      · obtain ⟨u, hu, hk, -⟩ := getT_mem (t := diffT a b) (d := r.d) (by omega)
        exact .inr (List.mem_map.2 ⟨u, hu, hk⟩)
      · obtain ⟨u, hu, hk, -⟩ := getT_mem hz
        exact .inl (List.mem_map.2 ⟨u, hu, hk⟩)
  have hlb : (bothT b []).length = b.length := by simp [bothT]
  have hc : (sumT a (diffT a b)).2 = 0 := by
    rw [sum_code ha g, ho, hsub, hlb, if_neg (by simp), if_neg (by have := hb.1; omega)]
  obtain ⟨g3, e3⟩ := sum_get ha g hc
  exact Prod.ext (ext_get g3 hb fun d => by rw [e3, ← e d]; omega) hc
/-- And the other way. -/
theorem diff_sum {a c : List Rw} (ha : tm.Good a) (hc : tm.Good c) (h : (sumT a c).2 = 0) : atT (sumT a c).1 a = true ∧ diffT a (sumT a c).1 = c := by
  obtain ⟨g, e⟩ := sum_get ha hc h
  have hat : atT (sumT a c).1 a = true := (atT_iff _ _).2 fun r hr => by rw [e, getT_of ha.2.2 hr rfl]; omega
  obtain ⟨g2, e2⟩ := diff_get ha g hat
  exact ⟨hat, ext_get g2 hc fun d => by have := e2 d; rw [e] at this; omega⟩

end Go.Proofs.YtbebdaglkjhbjaaGreatDoor.dl

/-
  Plain mathematics of snapshots and deltas (layer 16): may they be, what became of one, what comes of it, two together.
-/
namespace Go.Proofs.YtbebdaglkjhbjaaGreatDoor.dl
open Go.Proofs.YtbebdaglkjhbjaaGreatDoor.vi Go.Proofs.YtbebdaglkjhbjaaGreatDoor.um Go.Proofs.YtbebdaglkjhbjaaGreatDoor.wm Go.Proofs.YtbebdaglkjhbjaaGreatDoor.em Go.Proofs.YtbebdaglkjhbjaaGreatDoor.rm Go.Proofs.YtbebdaglkjhbjaaGreatDoor.tm
set_option linter.unusedVariables false
set_option linter.unusedSimpArgs false

structure Sn where
  e : Nat
  t : List Rw
structure Dt where
  b : Nat
  e : Nat
  t : List Rw
def sn0 : Sn := ⟨0, []⟩
def dt0 : Dt := ⟨0, 0, []⟩
def checkX (d : Dt) : Nat := if d.e ≤ d.b then 20 else checkT d.t
def firstX (a b : Nat) : Nat := if a ≠ 0 then a else b
def diffX (a b : Sn) : Dt × Nat :=
  if firstX (checkT a.t) (checkT b.t) ≠ 0 then (dt0, firstX (checkT a.t) (checkT b.t))
  else if b.e ≤ a.e then (dt0, 20)
  else if atT b.t a.t = false then (dt0, 21)
  else (⟨a.e, b.e, diffT a.t b.t⟩, 0)
def applyX (s : Sn) (d : Dt) : Sn × Nat :=
  if firstX (checkT s.t) (checkX d) ≠ 0 then (sn0, firstX (checkT s.t) (checkX d))
  else if s.e ≠ d.b then (sn0, 19)
  else if (sumT s.t d.t).2 ≠ 0 then (sn0, (sumT s.t d.t).2)
  else (⟨d.e, (sumT s.t d.t).1⟩, 0)
def joinX (a b : Dt) : Dt × Nat :=
  if firstX (checkX a) (checkX b) ≠ 0 then (dt0, firstX (checkX a) (checkX b))
  else if b.b ≠ a.e then (dt0, 19)
  else if (sumT a.t b.t).2 ≠ 0 then (dt0, (sumT a.t b.t).2)
  else (⟨a.b, b.e, (sumT a.t b.t).1⟩, 0)

theorem sum_over {a b : List Rw} (h : overT a b = true) : sumT a b = ([], 3) := by unfold sumT; rw [if_pos h]
theorem sum_fine {a b : List Rw} (h : overT a b = false) : sumT a b = ofT (bothT a b) := by unfold sumT; rw [if_neg (by simp [h])]
theorem firstX_zero {a b : Nat} : firstX a b = 0 ↔ a = 0 ∧ b = 0 := by
  unfold firstX
  split
  · rename_i h; exact ⟨fun e => absurd e h, fun e => e.1⟩
  · rename_i h; simp only [ne_eq, Decidable.not_not] at h; exact ⟨fun e => ⟨h, e⟩, fun e => e.2⟩
theorem firstX_lt {a b : Nat} (ha : a < 64) (hb : b < 64) : firstX a b < 64 := by unfold firstX; split <;> assumption
theorem checkX_lt (d : Dt) : checkX d < 64 := by unfold checkX; split; simp; exact checkT_lt _
theorem sumT_lt (a b : List Rw) : (sumT a b).2 < 64 := by unfold sumT; split; simp; exact ofT_lt _
theorem checkX_zero {d : Dt} : checkX d = 0 ↔ d.b < d.e ∧ tm.Good d.t := by
  unfold checkX
  split
  · exact ⟨fun e => (by cases e), fun e => (by omega)⟩
  · rw [checkT_ok]; exact ⟨fun e => ⟨by omega, e⟩, fun e => e.2⟩
theorem diffX_lt (a b : Sn) : (diffX a b).2 < 64 := by
  have := firstX_lt (checkT_lt a.t) (checkT_lt b.t)
  unfold diffX
  split
  · exact this
  split
  · simp
  split <;> simp
theorem applyX_lt (s : Sn) (d : Dt) : (applyX s d).2 < 64 := by
  have := firstX_lt (checkT_lt s.t) (checkX_lt d)
  have h2 := sumT_lt s.t d.t
  unfold applyX
  split
  · exact this
  split
  · simp
  split
  · exact h2
  · simp
theorem joinX_lt (a b : Dt) : (joinX a b).2 < 64 := by
  have := firstX_lt (checkX_lt a) (checkX_lt b)
  have h2 := sumT_lt a.t b.t
  unfold joinX
  split
  · exact this
  split
  · simp
  split
  · exact h2
  · simp

theorem diffX_ok {a b : Sn} (h : (diffX a b).2 = 0) : tm.Good a.t ∧ tm.Good b.t ∧ a.e < b.e ∧ atT b.t a.t = true ∧ (diffX a b).1 = ⟨a.e, b.e, diffT a.t b.t⟩ := by
  unfold diffX at h ⊢
  by_cases h1 : firstX (checkT a.t) (checkT b.t) ≠ 0
  · rw [if_pos h1] at h; exact absurd h h1
  rw [if_neg h1] at h ⊢
  by_cases h2 : b.e ≤ a.e
  · rw [if_pos h2] at h; cases h
  rw [if_neg h2] at h ⊢
  by_cases h3 : atT b.t a.t = false
  · rw [if_pos h3] at h; cases h
  rw [if_neg h3]
  simp only [ne_eq, Decidable.not_not] at h1
  obtain ⟨k1, k2⟩ := firstX_zero.1 h1
  exact ⟨(checkT_ok _).1 k1, (checkT_ok _).1 k2, by omega, by simpa using h3, rfl⟩
theorem diffX_eq {a b : Sn} (ha : tm.Good a.t) (hb : tm.Good b.t) (he : a.e < b.e) (h : atT b.t a.t = true) : diffX a b = (⟨a.e, b.e, diffT a.t b.t⟩, 0) := by
  unfold diffX
  rw [if_neg (by rw [ne_eq, Decidable.not_not]; exact firstX_zero.2 ⟨(checkT_ok _).2 ha, (checkT_ok _).2 hb⟩), if_neg (by omega), if_neg (by simp [h])]
theorem applyX_ok {s : Sn} {d : Dt} (h : (applyX s d).2 = 0) : tm.Good s.t ∧ tm.Good d.t ∧ d.b < d.e ∧ s.e = d.b ∧ (sumT s.t d.t).2 = 0 ∧ (applyX s d).1 = ⟨d.e, (sumT s.t d.t).1⟩ := by
  unfold applyX at h ⊢
  by_cases h1 : firstX (checkT s.t) (checkX d) ≠ 0
  · rw [if_pos h1] at h; exact absurd h h1
  rw [if_neg h1] at h ⊢
  by_cases h2 : s.e ≠ d.b
  · rw [if_pos h2] at h; cases h
  rw [if_neg h2] at h ⊢
  by_cases h3 : (sumT s.t d.t).2 ≠ 0
  · rw [if_pos h3] at h; exact absurd h h3
  rw [if_neg h3]
  simp only [ne_eq, Decidable.not_not] at h1 h2 h3
  obtain ⟨k1, k2⟩ := firstX_zero.1 h1
  obtain ⟨k3, k4⟩ := checkX_zero.1 k2
  exact ⟨(checkT_ok _).1 k1, k4, k3, h2, h3, rfl⟩
theorem applyX_eq {s : Sn} {d : Dt} (hs : tm.Good s.t) (hd : tm.Good d.t) (he : d.b < d.e) (hb : s.e = d.b) (h : (sumT s.t d.t).2 = 0) : applyX s d = (⟨d.e, (sumT s.t d.t).1⟩, 0) := by
  unfold applyX
  rw [if_neg (by rw [ne_eq, Decidable.not_not]; exact firstX_zero.2 ⟨(checkT_ok _).2 hs, checkX_zero.2 ⟨he, hd⟩⟩), if_neg (by simp [hb]), if_neg (by simp [h])]
theorem joinX_ok {a b : Dt} (h : (joinX a b).2 = 0) : tm.Good a.t ∧ tm.Good b.t ∧ a.b < a.e ∧ b.b < b.e ∧ b.b = a.e ∧ (sumT a.t b.t).2 = 0 ∧ (joinX a b).1 = ⟨a.b, b.e, (sumT a.t b.t).1⟩ := by
  unfold joinX at h ⊢
  by_cases h1 : firstX (checkX a) (checkX b) ≠ 0
  · rw [if_pos h1] at h; exact absurd h h1
  rw [if_neg h1] at h ⊢
  by_cases h2 : b.b ≠ a.e
  · rw [if_pos h2] at h; cases h
  rw [if_neg h2] at h ⊢
  by_cases h3 : (sumT a.t b.t).2 ≠ 0
  · rw [if_pos h3] at h; exact absurd h h3
  rw [if_neg h3]
  simp only [ne_eq, Decidable.not_not] at h1 h2 h3
  obtain ⟨k1, k2⟩ := firstX_zero.1 h1
  obtain ⟨k3, k4⟩ := checkX_zero.1 k1
  obtain ⟨k5, k6⟩ := checkX_zero.1 k2
  exact ⟨k4, k6, k3, k5, h2, h3, rfl⟩
theorem joinX_eq {a b : Dt} (ha : tm.Good a.t) (hb : tm.Good b.t) (h1 : a.b < a.e) (h2 : b.b < b.e) (h3 : b.b = a.e) (h : (sumT a.t b.t).2 = 0) : joinX a b = (⟨a.b, b.e, (sumT a.t b.t).1⟩, 0) := by
  unfold joinX
  rw [if_neg (by rw [ne_eq, Decidable.not_not]; exact firstX_zero.2 ⟨checkX_zero.2 ⟨h1, ha⟩, checkX_zero.2 ⟨h2, hb⟩⟩), if_neg (by simp [h3]), if_neg (by simp [h])]

def N64 (t : List Rw) : Prop := ∀ r ∈ t, r.n < 18446744073709551616
theorem get_64 : ∀ (t : List Rw) (d : List Ent), N64 t → getT d t ≤ 18446744073709551615
  | [], _, _ => by simp [getT]
  | x :: r, d, h => by
    unfold getT
    split
    · have := h x (by simp); omega
    · exact get_64 r d fun y hy => h y (by simp [hy])
theorem diff_64 {a b : List Rw} (h : N64 b) : N64 (diffT a b) := fun x hx => by
  unfold diffT at hx
  obtain ⟨r, hr, rfl⟩ := List.mem_map.1 hx
  have := h r (List.mem_filter.1 hr).1
  show r.n - _ < _
  omega
theorem both_64 {a b : List Rw} (h : overT a b = false) (hb : N64 b) : N64 (bothT a b) := fun x hx => by
  unfold bothT at hx
  rcases List.mem_append.1 hx with hx | hx
  · obtain ⟨r, hr, rfl⟩ := List.mem_map.1 hx
    have h2 := (List.any_eq_false.1 h) r hr
    simp at h2
    show r.n + getT r.d b < _
    omega
  · exact hb x (List.mem_filter.1 hx).1
theorem sum_64 {a b : List Rw} (hb : N64 b) : N64 (sumT a b).1 := fun x hx => by
  unfold sumT at hx
  split at hx
  · simp at hx
  · rename_i h
    by_cases h0 : (ofT (bothT a b)).2 = 0
    · exact both_64 (by simpa using h) hb x ((ofT_ok h0).2.mem_iff.1 hx)
    · rw [ofT_err h0] at hx; simp at hx

/-- What is applied of a difference is what was to come. -/
theorem apply_diff {a b : Sn} (h : (diffX a b).2 = 0) (hn : N64 b.t) : applyX a (diffX a b).1 = (b, 0) ∧ checkX (diffX a b).1 = 0 := by
  obtain ⟨h1, h2, h3, h4, h5⟩ := diffX_ok h
  obtain ⟨g1, g2⟩ := diff_get h1 h2 h4
  have hs := sum_diff h1 h2 h4 (fun d => get_64 b.t d hn)
  rw [h5]
  refine ⟨?_, checkX_zero.2 ⟨h3, g1⟩⟩
  rw [applyX_eq (s := a) (d := ⟨a.e, b.e, diffT a.t b.t⟩) h1 g1 h3 rfl (by simp only; rw [hs])]
  simp only
  rw [hs]
/-- What a delta leads to differs from where it came from by just that delta. -/
theorem diff_apply {a : Sn} {c : Dt} (h : (applyX a c).2 = 0) : diffX a (applyX a c).1 = (c, 0) ∧ atT (applyX a c).1.t a.t = true ∧ checkT (applyX a c).1.t = 0 := by
  obtain ⟨h1, h2, h3, h4, h5, h6⟩ := applyX_ok h
  obtain ⟨g, -⟩ := sum_get h1 h2 h5
  obtain ⟨k1, k2⟩ := diff_sum h1 h2 h5
  rw [h6]
  refine ⟨?_, k1, (checkT_ok _).2 g⟩
  rw [diffX_eq (a := a) (b := ⟨c.e, (sumT a.t c.t).1⟩) h1 g (by simp only; omega) k1]
  simp only
  rw [k2, h4]

/-- Two deltas joined lead where both do. -/
theorem apply_join {a : Sn} {c d : Dt} (h : (applyX a c).2 = 0) (k : (applyX (applyX a c).1 d).2 = 0) : (joinX c d).2 = 0 ∧ applyX a (joinX c d).1 = applyX (applyX a c).1 d := by
  obtain ⟨h1, h2, h3, h4, h5, h6⟩ := applyX_ok h
  rw [h6] at k ⊢
  obtain ⟨k1, k2, k3, k4, k5, k6⟩ := applyX_ok k
  simp only at k1 k4 k5 k6
  obtain ⟨g, e⟩ := sum_get h1 h2 h5
  obtain ⟨g3, e3⟩ := sum_get g k2 k5
  -- the sum of both deltas is there
  have ho : overT c.t d.t = false := by
    cases ho : overT c.t d.t with
    | false => rfl
    | true =>
      obtain ⟨z, z1, z2⟩ := (over_iff h2).1 ho
      have : overT (sumT a.t c.t).1 d.t = true := (over_iff g).2 ⟨z, by rw [e]; omega, by rw [e]; omega⟩
      rw [sum_over this] at k5; cases k5
  have hlen : (bothT c.t d.t).length ≤ 256 := by
    have h7 : (bothT (sumT a.t c.t).1 d.t).length ≤ 256 := by
      have := sum_code g k2
      rw [k5] at this
      split at this
      · cases this
      split at this
      · cases this
      · omega
    have hsub : ((bothT c.t d.t).map key).length ≤ ((bothT (sumT a.t c.t).1 d.t).map key).length := (both_nodup h2 k2).length_le_of_subset fun x hx => by
      rw [both_mem h2 k2] at hx
      rw [both_mem g k2, sum_mem h1 h2 h5]
      rcases hx with hx | hx
      · exact .inl (.inr hx)
      · exact .inr hx
    simp only [List.length_map] at hsub
    omega
  have hc : (sumT c.t d.t).2 = 0 := by rw [sum_code h2 k2, ho, if_neg (by simp), if_neg (by omega)]
  have hj := joinX_eq (a := c) (b := d) h2 k2 h3 k3 k4.symm hc
  obtain ⟨g4, -⟩ := sum_get h2 k2 hc
  have hass := sum_assoc h1 h2 k2 h5 hc
  rw [hj]
  refine ⟨rfl, ?_⟩
  rw [applyX_eq (s := a) (d := ⟨c.b, d.e, (sumT c.t d.t).1⟩) h1 g4 (by simp only; omega) h4 (by simp only; rw [← hass]; exact k5), applyX_eq (s := ⟨c.e, (sumT a.t c.t).1⟩) (d := d) g k2 k3 k4 k5]
  simp only
  rw [hass]

end Go.Proofs.YtbebdaglkjhbjaaGreatDoor.dl

/-
  Snapshots and deltas in memory (layer 16); the document's Check, Same, SameDelta, Sum.
-/
namespace Go.Proofs.YtbebdaglkjhbjaaGreatDoor.dz
open Go.RowKit Go.Proofs.YtbebdaglkjhbjaaGreatDoor.vi Go.Proofs.YtbebdaglkjhbjaaGreatDoor.um Go.Proofs.YtbebdaglkjhbjaaGreatDoor.wm Go.Proofs.YtbebdaglkjhbjaaGreatDoor.tr Go.Proofs.YtbebdaglkjhbjaaGreatDoor.em Go.Proofs.YtbebdaglkjhbjaaGreatDoor.rm Go.Proofs.YtbebdaglkjhbjaaGreatDoor.law11 Go.Proofs.YtbebdaglkjhbjaaGreatDoor.dd Go.Proofs.YtbebdaglkjhbjaaGreatDoor.dr Go.Proofs.YtbebdaglkjhbjaaGreatDoor.tm Go.Proofs.YtbebdaglkjhbjaaGreatDoor.tf Go.Proofs.YtbebdaglkjhbjaaGreatDoor.dl
set_option linter.unusedVariables false
set_option linter.unusedSimpArgs false

/-- A snapshot, a delta, as values. -/
def snV (s : Sn) (u : Value) : Value := .agg #[.int .u64 (s.e : Nat), u]
def dtV (d : Dt) (u : Value) : Value := .agg #[.int .u64 (d.b : Nat), .int .u64 (d.e : Nat), u]
/-- What is asked of tables. -/
def Tok (t : List Rw) : Prop := t.length ≤ 1000 ∧ ∀ r ∈ t, Fit r

theorem heap_kept {w w' : World} {n : Nat} {o : Obj} {row : Option Nat} (h : w.heap[n]? = some o) (g : w.grownBy w' row) (hr : some n ≠ row) : w'.heap[n]? = some o :=
  (g.block _ (Array.getElem?_eq_some_iff.1 h).1 hr).trans h
theorem cells2 {w : World} {n : Nat} {v0 v1 : Value} {ty : TypeId} (h : w.heap[n]? = some (.cells #[v0, v1] ty (0, 0))) : w.cell? ⟨n, 0, none⟩ = some v0 ∧ w.cell? ⟨n, 1, none⟩ = some v1 ∧ w.frozen? ⟨n, 0, none⟩ = false ∧ w.frozen? ⟨n, 1, none⟩ = false := by
  simp [World.cell?, World.frozen?, h]
theorem cells3 {w : World} {n : Nat} {v0 v1 v2 : Value} {ty : TypeId} (h : w.heap[n]? = some (.cells #[v0, v1, v2] ty (0, 0))) : w.cell? ⟨n, 0, none⟩ = some v0 ∧ w.cell? ⟨n, 1, none⟩ = some v1 ∧ w.cell? ⟨n, 2, none⟩ = some v2 ∧ w.frozen? ⟨n, 0, none⟩ = false ∧ w.frozen? ⟨n, 1, none⟩ = false ∧ w.frozen? ⟨n, 2, none⟩ = false := by
  simp [World.cell?, World.frozen?, h]
/-- Blocks made at a call's start. -/
theorem made1 (w : World) (A : Obj) : (w.alloc A).heap[w.heap.size]? = some A ∧ w.grownBy (w.alloc A) none ∧ (w.alloc A).heap.size = w.heap.size + 1 := ⟨heap_alloc_new w A, only_alloc (only_refl w none) A, by simp⟩
theorem made2 (w : World) (A B : Obj) : ((w.alloc A).alloc B).heap[w.heap.size]? = some A ∧ ((w.alloc A).alloc B).heap[w.heap.size + 1]? = some B ∧ w.grownBy ((w.alloc A).alloc B) none ∧ ((w.alloc A).alloc B).heap.size = w.heap.size + 1 + 1 := by
  obtain ⟨h1, h2, h3⟩ := made1 w A
  have h4 := heap_alloc_new (w.alloc A) B
  rw [h3] at h4
  exact ⟨heap_kept h1 (only_alloc (only_refl _ none) B) (by simp), h4, only_alloc h2 B, by simp⟩
theorem made3 (w : World) (A B C : Obj) : (((w.alloc A).alloc B).alloc C).heap[w.heap.size]? = some A ∧ (((w.alloc A).alloc B).alloc C).heap[w.heap.size + 1]? = some B ∧ (((w.alloc A).alloc B).alloc C).heap[w.heap.size + 1 + 1]? = some C ∧ w.grownBy (((w.alloc A).alloc B).alloc C) none ∧ (((w.alloc A).alloc B).alloc C).heap.size = w.heap.size + 1 + 1 + 1 := by
  obtain ⟨h1, h2, h3, h4⟩ := made2 w A B
  have h5 := heap_alloc_new ((w.alloc A).alloc B) C
  rw [h4] at h5
  have g := only_alloc (only_refl ((w.alloc A).alloc B) none) C
  exact ⟨heap_kept h1 g (by simp), heap_kept h2 g (by simp), h5, only_alloc h3 C, by simp⟩

/-- Rows lie in no block whose cells are other things. -/
theorem rs_off {w w' : World} {g : Nat} {v : Value} {rs : List Rw} {cs : Array Value} {ty : TypeId} (h : Rs (fun k => k < w.heap.size) w v rs) (hb : w.heap[g]? = some (.cells cs ty (0, 0))) (hg : w.grownBy w' (some g))
    (n1 : ∀ (i : Nat) (s : ByteArray), cs[i]? ≠ some (.string s)) (n2 : ∀ (i : Nat) (a : Option Addr) (n c : Nat) (m : Int), cs[i]? = some (.slice a n c) → cs[i + 1]? ≠ some (.int .u64 m)) : Rs (fun k => k < w'.heap.size) w' v rs := by
  have hcell : ∀ i, w.cell? ⟨g, i, none⟩ = cs[i]? := fun i => by simp [World.cell?, hb]
  have h9 : Rs (fun k => k ≠ g) w v rs := by
    obtain ⟨a, cap, e, h⟩ := h
    refine ⟨a, cap, e, ?_⟩
    rcases h with h | ⟨b, off, h1, h2, h3, h4, h5⟩
    · exact .inl h
    · cases rs with
      | nil => exact .inl rfl
      | cons r t =>
        have hne : b ≠ g := fun e => by
          obtain ⟨u, k1, k2, k3⟩ := h5 0 r rfl
          obtain ⟨ua, uc, rfl⟩ := k2.shape
          rw [e, hcell] at k1 k3
          exact n2 _ _ _ _ _ k1 k3
        refine .inr ⟨b, off, h1, hne, h3, h4, fun i x hx => ?_⟩
        obtain ⟨u, k1, k2, k3⟩ := h5 i x hx
        refine ⟨u, k1, ?_, k3⟩
        obtain ⟨a', cap', e', k2⟩ := k2
        refine ⟨a', cap', e', ?_⟩
        rcases k2 with k2 | ⟨b2, off2, j1, j2, j3, j4, j5⟩
        · exact .inl k2
        · by_cases hd : x.d = []
          · exact .inl hd
          · obtain ⟨y, l, hy⟩ := List.exists_cons_of_ne_nil hd
            refine .inr ⟨b2, off2, j1, fun e => ?_, j3, j4, j5⟩
            have := (j5 0 y (by rw [hy]; rfl)).1
            rw [e, hcell] at this
            exact n1 _ _ this
  exact (h9.kept (T := fun k => k = g) (Chg.of_grown hg (fun k e => .inl (by cases e; rfl))) (fun k hk e => hk e)).low
theorem rs_off2 {w w' : World} {g : Nat} {v : Value} {rs : List Rw} {p : Int} {ty : TypeId} (h : Rs (fun k => k < w.heap.size) w v rs) (hb : w.heap[g]? = some (.cells #[.int .u64 p, .slice none 0 0] ty (0, 0))) (hg : w.grownBy w' (some g)) : Rs (fun k => k < w'.heap.size) w' v rs :=
  rs_off h hb hg (fun i s => by match i with | 0 => simp | 1 => simp | k + 2 => simp) (fun i a n c m => by match i with | 0 => simp | 1 => simp | k + 2 => simp)
theorem rs_off3 {w w' : World} {g : Nat} {v : Value} {rs : List Rw} {p q : Int} {ty : TypeId} (h : Rs (fun k => k < w.heap.size) w v rs) (hb : w.heap[g]? = some (.cells #[.int .u64 p, .int .u64 q, .slice none 0 0] ty (0, 0))) (hg : w.grownBy w' (some g)) : Rs (fun k => k < w'.heap.size) w' v rs :=
  rs_off h hb hg (fun i s => by match i with | 0 => simp | 1 => simp | 2 => simp | k + 3 => simp) (fun i a n c m => by match i with | 0 => simp | 1 => simp | 2 => simp | k + 3 => simp)

/-! Check -/
set_option maxRecDepth 100000 in
theorem rcheckX_any (d : Dt) (S : Nat → Prop) (w : World) (u : Value) (hd : Tok d.t) (h : Rs S w u d.t) :
    Calls Tryz.prog 34 #[dtV d u] w fun e w' => e = .returned (.int .i64 (checkX d : Nat)) ∧ w.grownBy w' none := by
  have HC := Lib.hid (fun w1 (g : w.grownBy w1 none) => rcheckT_any d.t S w1 u (by have := hd.1; omega) hd.2 (h.grown g))
  have HX : Hid (checkX d = if d.e ≤ d.b then 20 else checkT d.t) := rfl
  obtain ⟨ua, uc, rfl⟩ := h.shape
  obtain ⟨m1, m2, m3⟩ := made1 w (.cells #[.int .u64 (d.b : Nat), .int .u64 (d.e : Nat), .slice ua d.t.length uc] 55)
  have M2 := Lib.hid m2
  clear hd h m1 m2 m3
  unfold dtV
  generalize checkX d = R at *
  generalize checkT d.t = c at *
  obtain ⟨p, q, t⟩ := d
  simp only at *
  by_cases h0 : q ≤ p
  · have HX2 := Lib.hid (HX.out.trans (if_pos h0))
    have h0i : (q : Int) ≤ (p : Int) := by omega
    go_enter Tryz.func34, Tryz.ntmps34
    go_wp2_with fail
    go_ret
    rw [HX2.out]
    exact ⟨rfl, M2.out⟩
  · have HX2 := Lib.hid (HX.out.trans (if_neg h0))
    have h0i : ¬ (q : Int) ≤ (p : Int) := by omega
    go_enter Tryz.func34, Tryz.ntmps34
    go_wp2_with fail
    refine (HC.out _ M2.out).mono ?_
    rintro e w1 ⟨rfl, g1⟩
    go_wp2_with fail
    go_ret
    rw [HX2.out]
    exact ⟨rfl, only_trans M2.out g1⟩

/-! Same -/
def sameX (a b : Sn) : Bool := decide (a.e = b.e) && decide (a.t = b.t)
def sameD (a b : Dt) : Bool := decide (a.b = b.b) && decide (a.e = b.e) && decide (a.t = b.t)

/-! Sum -/
theorem over_next {a b : List Rw} {i : Nat} {x : Rw} (h : a[i]? = some x) : overT (a.drop i) b = (decide (18446744073709551615 < x.n + getT x.d b) || overT (a.drop (i + 1)) b) := by
  obtain ⟨hi, rfl⟩ := List.getElem?_eq_some_iff.1 h
  rw [List.drop_eq_getElem_cons hi]; rfl
theorem map_next {a : List Rw} {i : Nat} {x : Rw} (h : a[i]? = some x) (f : Rw → Rw) : (a.take (i + 1)).map f = (a.take i).map f ++ [f x] := by
  rw [List.take_add_one, h]; simp
theorem filter_next {a : List Rw} {i : Nat} {x : Rw} (h : a[i]? = some x) (f : Rw → Bool) : (a.take (i + 1)).filter f = (a.take i).filter f ++ if f x = true then [x] else [] := by
  rw [List.take_add_one, h]
  simp only [Option.toList, List.filter_append]
  congr 1
  cases hf : f x <;> simp [hf]
theorem both_fit {a b : List Rw} (ho : overT a b = false) (ha : ∀ r ∈ a, Fit r) (hb : ∀ r ∈ b, Fit r) : ∀ r ∈ bothT a b, Fit r := fun x hx => by
  have h64 := both_64 ho (fun r hr => (hb r hr).2.2.2) x hx
  unfold bothT at hx
  rcases List.mem_append.1 hx with hx | hx
  · obtain ⟨r, hr, rfl⟩ := List.mem_map.1 hx
    exact ⟨(ha r hr).1, (ha r hr).2.1, (ha r hr).2.2.1, h64⟩
  · exact hb x (List.mem_filter.1 hx).1
theorem both_len2 (a b : List Rw) : (bothT a b).length ≤ a.length + b.length := by
  unfold bothT
  rw [List.length_append, List.length_map]
  have := List.length_filter_le (fun r => decide (getT r.d a = 0)) b
  omega

end Go.Proofs.YtbebdaglkjhbjaaGreatDoor.dz

/-
  The developers' package delta: two tables together.
-/
namespace Go.Proofs.YtbebdaglkjhbjaaGreatDoor.da
open Go.RowKit Go.Proofs.YtbebdaglkjhbjaaGreatDoor.vi Go.Proofs.YtbebdaglkjhbjaaGreatDoor.um Go.Proofs.YtbebdaglkjhbjaaGreatDoor.wm Go.Proofs.YtbebdaglkjhbjaaGreatDoor.tr Go.Proofs.YtbebdaglkjhbjaaGreatDoor.em Go.Proofs.YtbebdaglkjhbjaaGreatDoor.rm Go.Proofs.YtbebdaglkjhbjaaGreatDoor.law11 Go.Proofs.YtbebdaglkjhbjaaGreatDoor.dd Go.Proofs.YtbebdaglkjhbjaaGreatDoor.dr Go.Proofs.YtbebdaglkjhbjaaGreatDoor.tm Go.Proofs.YtbebdaglkjhbjaaGreatDoor.tf Go.Proofs.YtbebdaglkjhbjaaGreatDoor.dl Go.Proofs.YtbebdaglkjhbjaaGreatDoor.dz Go.Proofs.YtbebdaglkjhbjaaGreatDoor.ti
set_option linter.unusedVariables false
set_option linter.unusedSimpArgs false

/-- A table that may be. -/
def Gk (t : List Rw) : Prop := tm.Good t ∧ N64 t
theorem Gk.tok {t : List Rw} (h : Gk t) : Tok t := ⟨by have := h.1.1; omega, fun r hr => fit_ok (h.1.2.1 r hr) (h.2 r hr)⟩
theorem fit_rok {r : Rw} (h : Fit r) : Rok r := ⟨by have := h.1; omega, fun x hx => by have := h.2.1 x hx; unfold maxLen; omega, h.2.2.2⟩

set_option maxHeartbeats 500000 in
set_option maxRecDepth 100000 in
theorem sum_any (a b : List Rw) (SA SB : Nat → Prop) (w : World) (va vb : Value) (hA : Gk a) (hB : Gk b) (hT : tb.Tab w) (h : Rs SA w va a) (h2 : Rs SB w vb b) :
    Calls Tryz.prog 69 #[va, vb] w fun e w' => ∃ v, e = .returned (.tuple #[v, .int .i64 ((sumT a b).2 : Nat)]) ∧ Rs (fun k => k < w'.heap.size) w' v (sumT a b).1 ∧ w.grownBy w' none := by
  have HA := Lib.hid h.low
  have HB := Lib.hid h2.low
  obtain ⟨la, fa⟩ := hA.tok
  obtain ⟨lb, fb⟩ := hB.tok
  have sa := hA.1.2.2
  have sb := hB.1.2.2
  have FA := Lib.hid fa
  have FB := Lib.hid fb
  have HGB := Lib.hid (fun w1 u (g : w.grownBy w1 none) (x : Rw) (hx : Fit x) (he : EsS (fun k => k < w.heap.size) w1 u x.d) => ti.get_any b x.d _ _ w1 vb u (by omega) fb sb ⟨hx.1, hx.2.1, hx.2.2.1⟩ (h2.grown g) he.es)
  have HGA := Lib.hid (fun w1 u (g : w.grownBy w1 none) (x : Rw) (hx : Fit x) (he : EsS (fun k => k < w.heap.size) w1 u x.d) => ti.get_any a x.d _ _ w1 va u (by omega) fa sa ⟨hx.1, hx.2.1, hx.2.2.1⟩ (h.grown g) he.es)
  have HOF := Lib.hid (fun (ho : overT a b = false) S w1 (g : w.grownBy w1 none) v (h : Rs S w1 v (bothT a b)) => ti.of_any (bothT a b) S w1 v (by have := both_len2 a b; unfold maxLen; omega) (fun r hr => fit_rok (both_fit ho fa fb r hr)) (tb.kept hT g) h)
  have HNIL := Lib.hid (OwnR.nil 80 w.heap.size (fun _ => False) w (fun k e => e.elim))
  obtain ⟨aa, ac, rfl⟩ := h.shape
  obtain ⟨ba, bc, rfl⟩ := h2.shape
  clear h h2 fa fb sa sb hA hB hT
  go_enter Tryz.func69, Tryz.ntmps69
  go_wp2_with fail
  go_loopw [6, 14] (fun vo q wr => ∃ (i : Nat) (T : Nat → Prop), i ≤ a.length ∧ q = .int .i64 i ∧ OwnR 80 w.heap.size T wr vo ((a.take i).map (plusR b)) ∧ overT a b = overT (a.drop i) b ∧ w.grownBy wr none) (fun _ q _ => a.length - (intOf q).toNat)
  case atStart => exact ⟨0, fun _ => False, Nat.zero_le _, rfl, HNIL.out, rfl, only_refl _ _⟩
  case round =>
    obtain ⟨i, T, hi, rfl, ho, hov, hg⟩ := hrel
    have HO := Lib.hid ho
    have HG := Lib.hid hg
    have HOV := Lib.hid hov
    have hvb := ho.lt
    have hwz : w.heap.size ≤ wr.heap.size := hg.size
    obtain ⟨oa, oc, rfl⟩ := ho.rd.shape
    clear ho hg hov
    by_cases hlt : i < a.length
    · obtain ⟨x, hx⟩ : ∃ x, a[i]? = some x := ⟨a[i], List.getElem?_eq_getElem hlt⟩
      have HON := Lib.hid (HOV.out.trans (over_next hx))
      have HMN := Lib.hid (map_next hx (plusR b))
      obtain ⟨bk, off, cx, uu, hv, hbk, hle, hcm, c0, he, c1⟩ := (HA.out.grown HG.out).at hx
      simp only [Value.slice.injEq, true_and] at hv
      obtain ⟨rfl, rfl⟩ := hv
      unfold maxLen at hcm
      obtain ⟨xa, xc, rfl⟩ := he.shape
      have hfx := FA.out x (List.mem_of_getElem? hx)
      have HFX := Lib.hid hfx
      have hxn := hfx.2.2.2
      have GA := Lib.hid (only_alloc (only_refl wr none) (.cells #[.slice xa x.d.length xc, .int .u64 (x.n : Nat)] 80))
      have F0 := Lib.hid (heap_alloc_new wr (.cells #[.slice xa x.d.length xc, .int .u64 (x.n : Nat)] 80))
      have HEA := Lib.hid (he.grown GA.out)
      have G0 := Lib.hid (only_trans HG.out GA.out)
      have O0 := Lib.hid (HO.out.grown GA.out)
      have hwa := GA.out.size
      have htl : ((a.take i).map (plusR b)).length ≤ 1000 := by rw [List.length_map, List.length_take]; omega
      have hg64 := getT_lt b x.d (fun r hr => (FB.out r hr).2.2.2)
      have hpd : (plusR b x).d = x.d := rfl
      have hpn : (plusR b x).n = x.n + getT x.d b := rfl
      clear he hx hfx GA HO
      generalize (a.take i).map (plusR b) = acc at *
      generalize plusR b x = y at *
      obtain ⟨yd, yn⟩ := y
      simp only at hpd hpn
      subst hpd
      go_wp2_with fail
      generalize wr.alloc (.cells #[.slice xa x.d.length xc, .int .u64 (x.n : Nat)] 80) = wa at *
      obtain ⟨d0, d1, -⟩ := cells2 F0.out
      have HGX := Lib.hid (fun g : GW wa none => HGB.out g.world _ (only_trans G0.out g.ok) x HFX.out (HEA.out.grown g.ok))
      have hx0 : ∀ g : GW wa none, g.world.cell? ⟨wr.heap.size, 0, none⟩ = some (.slice xa x.d.length xc) := fun g => (cells2 (heap_kept F0.out g.ok (by simp))).1
      have hx1 : ∀ g : GW wa none, g.world.cell? ⟨wr.heap.size, 1, none⟩ = some (.int .u64 (x.n : Nat)) := fun g => (cells2 (heap_kept F0.out g.ok (by simp))).2.1
      generalize getT x.d b = n at *
      have hwr : IntKind.u64.wrap ((x.n : Int) + (n : Int)) = if 18446744073709551615 < x.n + n then (x.n : Int) + (n : Int) - 18446744073709551616 else (x.n : Int) + (n : Int) := by
        rw [IntKind.wrap_u64]
        split <;> omega
      have HWR := Lib.hid hwr
      clear hwr d0 d1
      go_wp2_with fail
      refine wp_region_gw wa none (by kernel_rfl) (by kernel_rfl) (only_refl _ _) ?_
      repeat (go_big_quiet_step ((go_at_call 64; exact calls_gw (HGX.out _))))
      refine wpQuiet_nil ?_
      rintro w2 ⟨⟨_, g2⟩, rfl⟩
      have G2 := Lib.hid (only_trans G0.out g2)
      have O2 := Lib.hid (O0.out.grown g2)
      have HE2 := Lib.hid (HEA.out.grown g2)
      have F2 := Lib.hid (heap_kept F0.out g2 (by simp))
      have hsz2 : wa.heap.size ≤ w2.heap.size := g2.size
      obtain ⟨e0, e1, -⟩ := cells2 F2.out
      clear g2 hx0 hx1 HGX
      generalize IntKind.u64.wrap ((x.n : Int) + (n : Int)) = W at *
      by_cases hc : 18446744073709551615 < x.n + n
      · have HOT : Hid (overT a b = true) := by show _ = _; rw [HON.out]; simp [hc]
        have hW := HWR.out.trans (if_pos hc)
        have hci : W < (x.n : Int) := by omega
        clear hW
        go_wp2_with fail
        go_ret2
        rw [sum_over HOT.out]
        exact ⟨_, rfl, Rs.nil _ _ _ _, G2.out⟩
      · have HON2 : Hid (overT a b = overT (a.drop (i + 1)) b) := by show _ = _; rw [HON.out]; simp [hc]
        have hW := HWR.out.trans (if_neg hc)
        subst hW
        have hci : ¬ ((x.n : Int) + (n : Int) < (x.n : Int)) := by omega
        obtain rfl : yn = x.n + n := hpn
        have GB := only_alloc (only_refl w2 none) (.cells #[.slice xa x.d.length xc, .int .u64 ((x.n : Int) + (n : Int))] 80)
        have O3 := Lib.hid (O2.out.grown GB)
        have G3 := Lib.hid (only_trans G2.out GB)
        have HONE : Hid (Rs (fun k => (k < w.heap.size) ∨ k = w2.heap.size) (w2.alloc (.cells #[.slice xa x.d.length xc, .int .u64 ((x.n : Int) + (n : Int))] 80)) (.slice (some ⟨w2.heap.size, 0, none⟩) 1 1) [(⟨x.d, x.n + n⟩ : Rw)]) := rs_one w2 _ _ (⟨x.d, x.n + n⟩ : Rw) 80 HE2.out
        clear GB
        go_wp2_with (at_builtin; refine wpList_append_rs rfl _ _ 22 80 rfl _ Tryz.underlying22 ti.Tryz.infoTR rfl w.heap.size _ _ _ acc [(⟨x.d, x.n + n⟩ : Rw)] rfl O3.out _ rfl HONE.out ?c1 ?c2 ?c3 ?c4 ?_)
        case c1 => intro k hk; (try simp at hk ⊢); omega
        case c2 => intro k e; have := hvb k e; first | (constructor <;> omega) | (intro hk; (try simp at hk); omega)
        case c3 => first | omega | (simp; omega)
        case c4 => first | omega | (simp; omega)
        intro v5 w5 ho5 hg5
        have HO5 := Lib.hid ho5
        have G5 := Lib.hid (only_row G3.out hg5 (fun k e => (hvb k e).1))
        clear ho5 hg5
        go_wp2_with fail
        go_roundw
        case rel => exact ⟨i + 1, _, by omega, by go_num, by rw [HMN.out]; exact HO5.out, HON2.out, G5.out⟩
        case measure => simp [intOf]; omega
    · have hie : i = a.length := by omega
      subst hie
      rw [List.take_length] at HO
      rw [List.drop_length] at HOV
      have HOT : Hid (overT a b = false) := HOV.out
      have HG1 := Lib.hid HG.out
      clear HOV
      go_wp2_with fail
      go_loopw [6, 39] (fun vo q w2 => ∃ (i : Nat) (T : Nat → Prop), i ≤ b.length ∧ q = .int .i64 i ∧ OwnR 80 w.heap.size T w2 vo (a.map (plusR b) ++ (b.take i).filter (fun r => decide (getT r.d a = 0))) ∧ w.grownBy w2 none) (fun _ q _ => b.length - (intOf q).toNat)
      case atStart => exact ⟨0, T, Nat.zero_le _, rfl, by simpa using HO.out, HG1.out⟩
      case round =>
        rename World => wq
        obtain ⟨i, T2, hi, rfl, ho, hg⟩ := hrel
        clear HO HG HG1
        have HO := Lib.hid ho
        have HG := Lib.hid hg
        have hvb := ho.lt
        have hwz : w.heap.size ≤ wq.heap.size := hg.size
        obtain ⟨oa, oc, hvo⟩ := ho.rd.shape
        obtain ⟨N, hN⟩ : ∃ N, N = (a.map (plusR b) ++ (b.take i).filter (fun r => decide (getT r.d a = 0))).length := ⟨_, rfl⟩
        rw [← hN] at hvo
        subst hvo
        clear ho hg hN
        by_cases hlt : i < b.length
        · obtain ⟨x, hx⟩ : ∃ x, b[i]? = some x := ⟨b[i], List.getElem?_eq_getElem hlt⟩
          have HFN := Lib.hid (filter_next hx (fun r => decide (getT r.d a = 0)))
          obtain ⟨bk, off, cx, uu, hv, hbk, hle, hcm, c0, he, c1⟩ := (HB.out.grown HG.out).at hx
          simp only [Value.slice.injEq, true_and] at hv
          obtain ⟨rfl, rfl⟩ := hv
          unfold maxLen at hcm
          obtain ⟨xa, xc, rfl⟩ := he.shape
          have hfx := FB.out x (List.mem_of_getElem? hx)
          have HFX := Lib.hid hfx
          have GA := Lib.hid (only_alloc (only_refl wq none) (.cells #[.slice xa x.d.length xc, .int .u64 (x.n : Nat)] 80))
          have F0 := Lib.hid (heap_alloc_new wq (.cells #[.slice xa x.d.length xc, .int .u64 (x.n : Nat)] 80))
          have HEA := Lib.hid (he.grown GA.out)
          have G0 := Lib.hid (only_trans HG.out GA.out)
          have O0 := Lib.hid (HO.out.grown GA.out)
          have hwa := GA.out.size
          have htl : (a.map (plusR b) ++ (b.take i).filter (fun r => decide (getT r.d a = 0))).length ≤ 2000 := by
            have := List.length_filter_le (fun r => decide (getT r.d a = 0)) (b.take i)
            rw [List.length_append, List.length_map]
            rw [List.length_take] at this
            omega
          clear he hx hfx GA HO
          have HAP : Hid (a.map (plusR b) ++ (b.take (i + 1)).filter (fun r => decide (getT r.d a = 0)) = (a.map (plusR b) ++ (b.take i).filter (fun r => decide (getT r.d a = 0))) ++ if decide (getT x.d a = 0) = true then [x] else []) := by show _ = _; rw [HFN.out, List.append_assoc]
          clear HFN
          generalize a.map (plusR b) ++ (b.take i).filter (fun r => decide (getT r.d a = 0)) = acc at *
          go_wp2_with fail
          generalize wq.alloc (.cells #[.slice xa x.d.length xc, .int .u64 (x.n : Nat)] 80) = wa at *
          obtain ⟨d0, d1, -⟩ := cells2 F0.out
          have HGX := Lib.hid (HGA.out wa _ G0.out x HFX.out HEA.out)
          generalize getT x.d a = n at *
          refine HGX.out.mono ?_
          rintro e w2 ⟨rfl, g2⟩
          have G2 := Lib.hid (only_trans G0.out g2)
          have O2 := Lib.hid (O0.out.grown g2)
          have HE2 := Lib.hid (HEA.out.grown g2)
          have F2 := Lib.hid (heap_kept F0.out g2 (by simp))
          have hsz2 : wa.heap.size ≤ w2.heap.size := g2.size
          obtain ⟨e0, e1, -⟩ := cells2 F2.out
          clear g2 d0 d1
          by_cases hc : n = 0
          · subst hc
            have HAP2 := Lib.hid (HAP.out.trans (congrArg (fun z => acc ++ z) (if_pos (by simp))))
            have GB := only_alloc (only_refl w2 none) (.cells #[.slice xa x.d.length xc, .int .u64 (x.n : Nat)] 80)
            have O3 := Lib.hid (O2.out.grown GB)
            have G3 := Lib.hid (only_trans G2.out GB)
            have HONE := Lib.hid (rs_one w2 _ _ x 80 HE2.out)
            clear GB HAP
            go_wp2_with (at_builtin; refine wpList_append_rs rfl _ _ 22 80 rfl _ Tryz.underlying22 ti.Tryz.infoTR rfl w.heap.size _ _ _ acc [x] rfl O3.out _ rfl HONE.out ?c1 ?c2 ?c3 ?c4 ?_)
            case c1 => intro k hk; (try simp at hk ⊢); omega
            case c2 => intro k e; have := hvb k e; first | (constructor <;> omega) | (intro hk; (try simp at hk); omega)
            case c3 => first | omega | (simp; omega)
            case c4 => first | omega | (simp; omega)
            intro v5 w5 ho5 hg5
            have HO5 := Lib.hid ho5
            have G5 := Lib.hid (only_row G3.out hg5 (fun k e => (hvb k e).1))
            clear ho5 hg5
            go_wp2_with fail
            go_roundw
            case rel => exact ⟨i + 1, _, by omega, by go_num, by rw [HAP2.out]; exact HO5.out, G5.out⟩
            case measure => simp [intOf]; omega
          · have HAP2 := Lib.hid (HAP.out.trans ((congrArg (fun z => acc ++ z) (if_neg (by simpa using hc))).trans (List.append_nil acc)))
            have hcb : ((n : Int) == 0) = false := by rw [beq_eq_false_iff_ne]; omega
            clear HAP
            go_wp2_with fail
            go_roundw
            case rel => exact ⟨i + 1, _, by omega, by go_num, by rw [HAP2.out]; exact O2.out, G2.out⟩
            case measure => simp [intOf]; omega
        · have hie : i = b.length := by omega
          subst hie
          rw [List.take_length] at HO
          have HFI := Lib.hid (HOF.out HOT.out _ wq HG.out _ (show Rs _ wq _ (bothT a b) from HO.out.rd))
          have HLB : Hid ((a.map (plusR b) ++ b.filter (fun r => decide (getT r.d a = 0))).length = (bothT a b).length) := rfl
          have HSF := Lib.hid (sum_fine HOT.out)
          generalize ofT (bothT a b) = R at *
          go_wp2_with fail
          refine HFI.out.mono ?_
          rintro e w3 ⟨v3, rfl, r3, g3⟩
          have R3 := Lib.hid r3
          have G3 := Lib.hid (only_trans HG.out g3)
          obtain ⟨ra, rc, rfl⟩ := r3.shape
          clear r3 g3
          go_wp2_with fail
          go_ret2
          rw [HSF.out]
          exact ⟨_, rfl, R3.out, G3.out⟩

end Go.Proofs.YtbebdaglkjhbjaaGreatDoor.da

/-
  The developers' package delta: may it be, the first of two checks.
-/
namespace Go.Proofs.YtbebdaglkjhbjaaGreatDoor.da
open Go.RowKit Go.Proofs.YtbebdaglkjhbjaaGreatDoor.vi Go.Proofs.YtbebdaglkjhbjaaGreatDoor.um Go.Proofs.YtbebdaglkjhbjaaGreatDoor.wm Go.Proofs.YtbebdaglkjhbjaaGreatDoor.tr Go.Proofs.YtbebdaglkjhbjaaGreatDoor.em Go.Proofs.YtbebdaglkjhbjaaGreatDoor.rm Go.Proofs.YtbebdaglkjhbjaaGreatDoor.law11 Go.Proofs.YtbebdaglkjhbjaaGreatDoor.dd Go.Proofs.YtbebdaglkjhbjaaGreatDoor.dr Go.Proofs.YtbebdaglkjhbjaaGreatDoor.tm Go.Proofs.YtbebdaglkjhbjaaGreatDoor.tf Go.Proofs.YtbebdaglkjhbjaaGreatDoor.dl Go.Proofs.YtbebdaglkjhbjaaGreatDoor.dz Go.Proofs.YtbebdaglkjhbjaaGreatDoor.ti
set_option linter.unusedVariables false
set_option linter.unusedSimpArgs false

theorem Gk.of {t : List Rw} (h : checkT t = 0) (hk : Tok t) : Gk t := ⟨(checkT_ok t).1 h, fun r hr => (hk.2 r hr).2.2.2⟩
theorem made4 (w : World) (A B C D : Obj) : ((((w.alloc A).alloc B).alloc C).alloc D).heap[w.heap.size]? = some A ∧ ((((w.alloc A).alloc B).alloc C).alloc D).heap[w.heap.size + 1]? = some B ∧ ((((w.alloc A).alloc B).alloc C).alloc D).heap[w.heap.size + 1 + 1]? = some C ∧ ((((w.alloc A).alloc B).alloc C).alloc D).heap[w.heap.size + 1 + 1 + 1]? = some D ∧ w.grownBy ((((w.alloc A).alloc B).alloc C).alloc D) none := by
  obtain ⟨h1, h2, h3, h4, h5⟩ := made3 w A B C
  have h6 := heap_alloc_new (((w.alloc A).alloc B).alloc C) D
  rw [h5] at h6
  have g := only_alloc (only_refl (((w.alloc A).alloc B).alloc C) none) D
  exact ⟨heap_kept h1 g (by simp), heap_kept h2 g (by simp), heap_kept h3 g (by simp), h6, only_alloc h4 D⟩

/-! Check -/
set_option maxRecDepth 100000 in
theorem scheck_any (s : Sn) (S : Nat → Prop) (w : World) (u : Value) (hs : Tok s.t) (hT : tb.Tab w) (h : Rs S w u s.t) :
    Calls Tryz.prog 35 #[snV s u] w fun e w' => e = .returned (.int .i64 (checkT s.t : Nat)) ∧ w.grownBy w' none := by
  have HC := Lib.hid (fun w1 (g : w.grownBy w1 none) => tcheck_any s.t S w1 u (by have := hs.1; unfold maxLen; omega) (fun r hr => fit_rok (hs.2 r hr)) (tb.kept hT g) (h.grown g))
  obtain ⟨ua, uc, rfl⟩ := h.shape
  have M2 := Lib.hid (made1 w (.cells #[.int .u64 (s.e : Nat), .slice ua s.t.length uc] 49)).2.1
  clear hs h hT
  unfold snV
  generalize checkT s.t = c at *
  go_enter Tryz.func35, Tryz.ntmps35
  go_wp2_with fail
  refine (HC.out _ M2.out).mono ?_
  rintro e w1 ⟨rfl, g1⟩
  go_wp2_with fail
  go_ret
  exact ⟨rfl, only_trans M2.out g1⟩

set_option maxRecDepth 100000 in
theorem dcheck_any (d : Dt) (S : Nat → Prop) (w : World) (u : Value) (hd : Tok d.t) (hT : tb.Tab w) (h : Rs S w u d.t) :
    Calls Tryz.prog 33 #[dtV d u] w fun e w' => e = .returned (.int .i64 (checkX d : Nat)) ∧ w.grownBy w' none := by
  have HC := Lib.hid (fun w1 (g : w.grownBy w1 none) => tcheck_any d.t S w1 u (by have := hd.1; unfold maxLen; omega) (fun r hr => fit_rok (hd.2 r hr)) (tb.kept hT g) (h.grown g))
  have HX : Hid (checkX d = if d.e ≤ d.b then 20 else checkT d.t) := rfl
  obtain ⟨ua, uc, rfl⟩ := h.shape
  have M2 := Lib.hid (made1 w (.cells #[.int .u64 (d.b : Nat), .int .u64 (d.e : Nat), .slice ua d.t.length uc] 51)).2.1
  clear hd h hT
  unfold dtV
  generalize checkX d = R at *
  generalize checkT d.t = c at *
  obtain ⟨p, q, t⟩ := d
  simp only at *
  by_cases h0 : q ≤ p
  · have HX2 := Lib.hid (HX.out.trans (if_pos h0))
    have h0i : (q : Int) ≤ (p : Int) := by omega
    go_enter Tryz.func33, Tryz.ntmps33
    go_wp2_with fail
    go_ret
    rw [HX2.out]
    exact ⟨rfl, M2.out⟩
  · have HX2 := Lib.hid (HX.out.trans (if_neg h0))
    have h0i : ¬ (q : Int) ≤ (p : Int) := by omega
    go_enter Tryz.func33, Tryz.ntmps33
    go_wp2_with fail
    refine (HC.out _ M2.out).mono ?_
    rintro e w1 ⟨rfl, g1⟩
    go_wp2_with fail
    go_ret
    rw [HX2.out]
    exact ⟨rfl, only_trans M2.out g1⟩

set_option maxRecDepth 100000 in
theorem first_ss (w : World) (a1 a2 : Value) (c1 c2 : Nat) (b : Nat) (ty : TypeId) (H1 : ∀ w1, w.grownBy w1 none → Calls Tryz.prog 35 #[a1] w1 fun e w' => e = .returned (.int .i64 (c1 : Nat)) ∧ w1.grownBy w' none)
    (H2 : ∀ w1, w.grownBy w1 none → Calls Tryz.prog 35 #[a2] w1 fun e w' => e = .returned (.int .i64 (c2 : Nat)) ∧ w1.grownBy w' none) (hb : w.heap[b]? = some (.cells #[.func (.func 35) #[a1] #[], .func (.func 35) #[a2] #[]] ty (0, 0))) :
    Calls Tryz.prog 62 #[.slice (some ⟨b, 0, none⟩) 2 2] w fun e w' => e = .returned (.int .i64 (firstX c1 c2 : Nat)) ∧ w.grownBy w' none := by
  have HH1 := Lib.hid H1
  have HH2 := Lib.hid H2
  have HB := Lib.hid hb
  clear H1 H2 hb
  go_enter Tryz.func62, Tryz.ntmps62
  go_wp2_with fail
  go_loopw [8] (fun q wr => ∃ (i : Nat), i ≤ 2 ∧ q = .int .i64 i ∧ (0 < i → c1 = 0) ∧ (1 < i → c2 = 0) ∧ w.grownBy wr none) (fun q _ => 2 - (intOf q).toNat)
  case atStart => exact ⟨0, by omega, rfl, fun h => by omega, fun h => by omega, only_refl _ _⟩
  case round =>
    obtain ⟨i, hi, rfl, hc1, hc2, hg⟩ := hrel
    have HG := Lib.hid hg
    obtain ⟨d0, d1, -⟩ := cells2 (heap_kept HB.out hg (by simp))
    clear hg
    rcases (show i = 0 ∨ i = 1 ∨ i = 2 by omega) with rfl | rfl | rfl
    · clear hc1 hc2
      go_wp2_with fail
      refine (HH1.out _ HG.out).mono ?_
      rintro e w1 ⟨rfl, g1⟩
      have G1 := Lib.hid (only_trans HG.out g1)
      clear g1
      by_cases h0 : c1 = 0
      · subst h0
        go_wp2_with fail
        go_roundw
        case rel => exact ⟨1, by omega, by go_num, fun _ => by first | rfl | trivial, fun h => by omega, G1.out⟩
        case measure => simp [intOf]
      · have hqb : ((c1 : Int) != 0) = true := by rw [bne_iff_ne]; omega
        have HF : Hid (firstX c1 c2 = c1) := by show _ = _; unfold firstX; rw [if_pos h0]
        go_wp2_with fail
        go_ret
        rw [HF.out]
        exact ⟨rfl, G1.out⟩
    · obtain rfl := hc1 (by omega)
      clear hc1 hc2
      go_wp2_with fail
      refine (HH2.out _ HG.out).mono ?_
      rintro e w1 ⟨rfl, g1⟩
      have G1 := Lib.hid (only_trans HG.out g1)
      clear g1
      by_cases h0 : c2 = 0
      · subst h0
        go_wp2_with fail
        go_roundw
        case rel => exact ⟨2, by omega, by go_num, fun _ => by first | rfl | trivial, fun _ => by first | rfl | trivial, G1.out⟩
        case measure => simp [intOf]
      · have hqb : ((c2 : Int) != 0) = true := by rw [bne_iff_ne]; omega
        have HF : Hid (firstX 0 c2 = c2) := rfl
        go_wp2_with fail
        go_ret
        rw [HF.out]
        exact ⟨rfl, G1.out⟩
    · obtain rfl := hc1 (by omega)
      obtain rfl := hc2 (by omega)
      clear hc1 hc2
      have HF : Hid (firstX 0 0 = 0) := rfl
      go_wp2_with fail
      go_ret
      rw [HF.out]
      exact ⟨rfl, HG.out⟩

set_option maxRecDepth 100000 in
theorem first_sd (w : World) (a1 a2 : Value) (c1 c2 : Nat) (b : Nat) (ty : TypeId) (H1 : ∀ w1, w.grownBy w1 none → Calls Tryz.prog 35 #[a1] w1 fun e w' => e = .returned (.int .i64 (c1 : Nat)) ∧ w1.grownBy w' none)
    (H2 : ∀ w1, w.grownBy w1 none → Calls Tryz.prog 33 #[a2] w1 fun e w' => e = .returned (.int .i64 (c2 : Nat)) ∧ w1.grownBy w' none) (hb : w.heap[b]? = some (.cells #[.func (.func 35) #[a1] #[], .func (.func 33) #[a2] #[]] ty (0, 0))) :
    Calls Tryz.prog 62 #[.slice (some ⟨b, 0, none⟩) 2 2] w fun e w' => e = .returned (.int .i64 (firstX c1 c2 : Nat)) ∧ w.grownBy w' none := by
  have HH1 := Lib.hid H1
  have HH2 := Lib.hid H2
  have HB := Lib.hid hb
  clear H1 H2 hb
  go_enter Tryz.func62, Tryz.ntmps62
  go_wp2_with fail
  go_loopw [8] (fun q wr => ∃ (i : Nat), i ≤ 2 ∧ q = .int .i64 i ∧ (0 < i → c1 = 0) ∧ (1 < i → c2 = 0) ∧ w.grownBy wr none) (fun q _ => 2 - (intOf q).toNat)
  case atStart => exact ⟨0, by omega, rfl, fun h => by omega, fun h => by omega, only_refl _ _⟩
  case round =>
    obtain ⟨i, hi, rfl, hc1, hc2, hg⟩ := hrel
    have HG := Lib.hid hg
    obtain ⟨d0, d1, -⟩ := cells2 (heap_kept HB.out hg (by simp))
    clear hg
    rcases (show i = 0 ∨ i = 1 ∨ i = 2 by omega) with rfl | rfl | rfl
    · clear hc1 hc2
      go_wp2_with fail
      refine (HH1.out _ HG.out).mono ?_
      rintro e w1 ⟨rfl, g1⟩
      have G1 := Lib.hid (only_trans HG.out g1)
      clear g1
      by_cases h0 : c1 = 0
      · subst h0
        go_wp2_with fail
        go_roundw
        case rel => exact ⟨1, by omega, by go_num, fun _ => by first | rfl | trivial, fun h => by omega, G1.out⟩
        case measure => simp [intOf]
      · have hqb : ((c1 : Int) != 0) = true := by rw [bne_iff_ne]; omega
        have HF : Hid (firstX c1 c2 = c1) := by show _ = _; unfold firstX; rw [if_pos h0]
        go_wp2_with fail
        go_ret
        rw [HF.out]
        exact ⟨rfl, G1.out⟩
    · obtain rfl := hc1 (by omega)
      clear hc1 hc2
      go_wp2_with fail
      refine (HH2.out _ HG.out).mono ?_
      rintro e w1 ⟨rfl, g1⟩
      have G1 := Lib.hid (only_trans HG.out g1)
      clear g1
      by_cases h0 : c2 = 0
      · subst h0
        go_wp2_with fail
        go_roundw
        case rel => exact ⟨2, by omega, by go_num, fun _ => by first | rfl | trivial, fun _ => by first | rfl | trivial, G1.out⟩
        case measure => simp [intOf]
      · have hqb : ((c2 : Int) != 0) = true := by rw [bne_iff_ne]; omega
        have HF : Hid (firstX 0 c2 = c2) := rfl
        go_wp2_with fail
        go_ret
        rw [HF.out]
        exact ⟨rfl, G1.out⟩
    · obtain rfl := hc1 (by omega)
      obtain rfl := hc2 (by omega)
      clear hc1 hc2
      have HF : Hid (firstX 0 0 = 0) := rfl
      go_wp2_with fail
      go_ret
      rw [HF.out]
      exact ⟨rfl, HG.out⟩

set_option maxRecDepth 100000 in
theorem first_dd (w : World) (a1 a2 : Value) (c1 c2 : Nat) (b : Nat) (ty : TypeId) (H1 : ∀ w1, w.grownBy w1 none → Calls Tryz.prog 33 #[a1] w1 fun e w' => e = .returned (.int .i64 (c1 : Nat)) ∧ w1.grownBy w' none)
    (H2 : ∀ w1, w.grownBy w1 none → Calls Tryz.prog 33 #[a2] w1 fun e w' => e = .returned (.int .i64 (c2 : Nat)) ∧ w1.grownBy w' none) (hb : w.heap[b]? = some (.cells #[.func (.func 33) #[a1] #[], .func (.func 33) #[a2] #[]] ty (0, 0))) :
    Calls Tryz.prog 62 #[.slice (some ⟨b, 0, none⟩) 2 2] w fun e w' => e = .returned (.int .i64 (firstX c1 c2 : Nat)) ∧ w.grownBy w' none := by
  have HH1 := Lib.hid H1
  have HH2 := Lib.hid H2
  have HB := Lib.hid hb
  clear H1 H2 hb
  go_enter Tryz.func62, Tryz.ntmps62
  go_wp2_with fail
  go_loopw [8] (fun q wr => ∃ (i : Nat), i ≤ 2 ∧ q = .int .i64 i ∧ (0 < i → c1 = 0) ∧ (1 < i → c2 = 0) ∧ w.grownBy wr none) (fun q _ => 2 - (intOf q).toNat)
  case atStart => exact ⟨0, by omega, rfl, fun h => by omega, fun h => by omega, only_refl _ _⟩
  case round =>
    obtain ⟨i, hi, rfl, hc1, hc2, hg⟩ := hrel
    have HG := Lib.hid hg
    obtain ⟨d0, d1, -⟩ := cells2 (heap_kept HB.out hg (by simp))
    clear hg
    rcases (show i = 0 ∨ i = 1 ∨ i = 2 by omega) with rfl | rfl | rfl
    · clear hc1 hc2
      go_wp2_with fail
      refine (HH1.out _ HG.out).mono ?_
      rintro e w1 ⟨rfl, g1⟩
      have G1 := Lib.hid (only_trans HG.out g1)
      clear g1
      by_cases h0 : c1 = 0
      · subst h0
        go_wp2_with fail
        go_roundw
        case rel => exact ⟨1, by omega, by go_num, fun _ => by first | rfl | trivial, fun h => by omega, G1.out⟩
        case measure => simp [intOf]
      · have hqb : ((c1 : Int) != 0) = true := by rw [bne_iff_ne]; omega
        have HF : Hid (firstX c1 c2 = c1) := by show _ = _; unfold firstX; rw [if_pos h0]
        go_wp2_with fail
        go_ret
        rw [HF.out]
        exact ⟨rfl, G1.out⟩
    · obtain rfl := hc1 (by omega)
      clear hc1 hc2
      go_wp2_with fail
      refine (HH2.out _ HG.out).mono ?_
      rintro e w1 ⟨rfl, g1⟩
      have G1 := Lib.hid (only_trans HG.out g1)
      clear g1
      by_cases h0 : c2 = 0
      · subst h0
        go_wp2_with fail
        go_roundw
        case rel => exact ⟨2, by omega, by go_num, fun _ => by first | rfl | trivial, fun _ => by first | rfl | trivial, G1.out⟩
        case measure => simp [intOf]
      · have hqb : ((c2 : Int) != 0) = true := by rw [bne_iff_ne]; omega
        have HF : Hid (firstX 0 c2 = c2) := rfl
        go_wp2_with fail
        go_ret
        rw [HF.out]
        exact ⟨rfl, G1.out⟩
    · obtain rfl := hc1 (by omega)
      obtain rfl := hc2 (by omega)
      clear hc1 hc2
      have HF : Hid (firstX 0 0 = 0) := rfl
      go_wp2_with fail
      go_ret
      rw [HF.out]
      exact ⟨rfl, HG.out⟩

end Go.Proofs.YtbebdaglkjhbjaaGreatDoor.da

/-
  The developers' package delta: Apply, Join.
-/
namespace Go.Proofs.YtbebdaglkjhbjaaGreatDoor.da
open Go.RowKit Go.Proofs.YtbebdaglkjhbjaaGreatDoor.vi Go.Proofs.YtbebdaglkjhbjaaGreatDoor.um Go.Proofs.YtbebdaglkjhbjaaGreatDoor.wm Go.Proofs.YtbebdaglkjhbjaaGreatDoor.tr Go.Proofs.YtbebdaglkjhbjaaGreatDoor.em Go.Proofs.YtbebdaglkjhbjaaGreatDoor.rm Go.Proofs.YtbebdaglkjhbjaaGreatDoor.law11 Go.Proofs.YtbebdaglkjhbjaaGreatDoor.dd Go.Proofs.YtbebdaglkjhbjaaGreatDoor.dr Go.Proofs.YtbebdaglkjhbjaaGreatDoor.tm Go.Proofs.YtbebdaglkjhbjaaGreatDoor.tf Go.Proofs.YtbebdaglkjhbjaaGreatDoor.dl Go.Proofs.YtbebdaglkjhbjaaGreatDoor.dz Go.Proofs.YtbebdaglkjhbjaaGreatDoor.ti
set_option linter.unusedVariables false
set_option linter.unusedSimpArgs false

set_option maxHeartbeats 4000000 in
set_option maxRecDepth 100000 in
theorem apply_any (x : Sn) (y : Dt) (SA SB : Nat → Prop) (w : World) (u v : Value) (hx : Tok x.t) (hy : Tok y.t) (hT : tb.Tab w) (h : Rs SA w u x.t) (h2 : Rs SB w v y.t) :
    Calls Tryz.prog 26 #[snV x u, dtV y v] w fun e w' => ∃ u', e = .returned (.tuple #[snV (applyX x y).1 u', .int .i64 ((applyX x y).2 : Nat)]) ∧ Rs (fun k => k < w'.heap.size) w' u' (applyX x y).1.t ∧ w.grownBy w' none := by
  obtain ⟨ua, uc, rfl⟩ := h.shape
  obtain ⟨ya, yc, rfl⟩ := h2.shape
  have HCA := Lib.hid (fun w1 (g : w.grownBy w1 none) => scheck_any x SA w1 (.slice ua x.t.length uc) hx (tb.kept hT g) (h.grown g))
  have HCB := Lib.hid (fun w1 (g : w.grownBy w1 none) => dcheck_any y SB w1 (.slice ya y.t.length yc) hy (tb.kept hT g) (h2.grown g))
  have HSU := Lib.hid (fun (k1 : Gk x.t) (k2 : Gk y.t) w1 (g : w.grownBy w1 none) => sum_any x.t y.t SA SB w1 (.slice ua x.t.length uc) (.slice ya y.t.length yc) k1 k2 (tb.kept hT g) (h.grown g) (h2.grown g))
  have HX : Hid (applyX x y = if firstX (checkT x.t) (checkX y) ≠ 0 then (sn0, firstX (checkT x.t) (checkX y)) else if x.e ≠ y.b then (sn0, 19) else if (sumT x.t y.t).2 ≠ 0 then (sn0, (sumT x.t y.t).2) else (⟨y.e, (sumT x.t y.t).1⟩, 0)) := rfl
  have hal : checkT x.t < 64 := checkT_lt _
  have hbl : checkX y < 64 := checkX_lt _
  have hsl := sumT_lt x.t y.t
  obtain ⟨m1, m2, m3, m5, m4⟩ := made4 w (.cells #[.int .u64 (x.e : Nat), .slice ua x.t.length uc] 49) (.cells #[.int .u64 (y.b : Nat), .int .u64 (y.e : Nat), .slice ya y.t.length yc] 51) (.cells #[.int .u64 0, .slice none 0 0] 49) (.cells #[.func (.func 35) #[(.agg #[.int .u64 (x.e : Nat), .slice ua x.t.length uc])] #[], .func (.func 33) #[(.agg #[.int .u64 (y.b : Nat), .int .u64 (y.e : Nat), .slice ya y.t.length yc])] #[]] 46)
  have HFI := Lib.hid (first_sd _ (.agg #[.int .u64 (x.e : Nat), .slice ua x.t.length uc]) (.agg #[.int .u64 (y.b : Nat), .int .u64 (y.e : Nat), .slice ya y.t.length yc]) (checkT x.t) (checkX y) _ _ (fun w1 g => HCA.out w1 (only_trans m4 g)) (fun w1 g => HCB.out w1 (only_trans m4 g)) m5)
  have HKA := Lib.hid (fun (e : firstX (checkT x.t) (checkX y) = 0) => (⟨Gk.of ((firstX_zero.1 e).1) hx, ⟨(checkX_zero.1 (firstX_zero.1 e).2).2, fun r hr => (hy.2 r hr).2.2.2⟩⟩ : Gk x.t ∧ Gk y.t))
  clear HCA HCB m5
  have M1 := Lib.hid m1
  have M2 := Lib.hid m2
  have M3 := Lib.hid m3
  have M4 := Lib.hid m4
  clear hx hy h h2 m1 m2 m3 m4 hT
  unfold snV dtV
  generalize applyX x y = R at *
  have hfl := firstX_lt hal hbl
  clear hal hbl
  generalize firstX (checkT x.t) (checkX y) = fc at *
  generalize sumT x.t y.t = SU at *
  obtain ⟨S1, sq⟩ := SU
  simp only at HSU HX hsl
  by_cases h2 : fc = 0
  · subst h2
    by_cases h3 : x.e ≠ y.b
    · have HX3 := Lib.hid (HX.out.trans ((if_neg (by simp)).trans (if_pos h3)))
      have hbi : ((x.e : Int) != (y.b : Int)) = true := by rw [bne_iff_ne]; omega
      go_enter Tryz.func26, Tryz.ntmps26
      go_wp2_with fail
      refine HFI.out.mono ?_
      rintro e w2 ⟨rfl, g2⟩
      have G2 := Lib.hid (only_trans M4.out g2)
      have A2 := Lib.hid (heap_kept M1.out g2 (by simp))
      have B2 := Lib.hid (heap_kept M2.out g2 (by simp))
      have C2 := Lib.hid (heap_kept M3.out g2 (by simp))
      clear g2
      obtain ⟨a0, a1, af0, af1⟩ := cells2 A2.out
      obtain ⟨b0, b1, b2, bf0, bf1, bf2⟩ := cells3 B2.out
      obtain ⟨c0, c1, cf0, cf1⟩ := cells2 C2.out
      go_wp2_with fail
      rw [HX3.out]
      exact bodyPost_ret (ee.results_cell2 rfl _ _ (w.heap.size + 1 + 1) 49 #[.int .u64 0, .slice none 0 0] (0, 0) _ rfl (wm.heap_setc (wm.heap_setc C2.out)) Tryz.underlying49 rfl (by kernel_rfl)) rfl ⟨.slice none 0 0, rfl, Rs.nil _ _ _ _, (only_setCell (only_setCell G2.out (.inr (by show w.heap.size ≤ w.heap.size + 1 + 1; omega)) _) (.inr (by show w.heap.size ≤ w.heap.size + 1 + 1; omega)) _)⟩
    · have hbi : ((x.e : Int) != (y.b : Int)) = false := by rw [bne_eq_false_iff_eq]; omega
      by_cases h4 : sq = 0
      · subst h4
        have HX5 := Lib.hid (HX.out.trans ((if_neg (by simp)).trans ((if_neg h3).trans (if_neg (by simp)))))
        obtain ⟨GA, GB⟩ := HKA.out (by first | rfl | trivial)
        go_enter Tryz.func26, Tryz.ntmps26
        go_wp2_with fail
        refine HFI.out.mono ?_
        rintro e w2 ⟨rfl, g2⟩
        have G2 := Lib.hid (only_trans M4.out g2)
        have A2 := Lib.hid (heap_kept M1.out g2 (by simp))
        have B2 := Lib.hid (heap_kept M2.out g2 (by simp))
        have C2 := Lib.hid (heap_kept M3.out g2 (by simp))
        clear g2
        obtain ⟨a0, a1, af0, af1⟩ := cells2 A2.out
        obtain ⟨b0, b1, b2, bf0, bf1, bf2⟩ := cells3 B2.out
        obtain ⟨c0, c1, cf0, cf1⟩ := cells2 C2.out
        go_wp2_with fail
        refine (HSU.out GA GB _ G2.out).mono ?_
        rintro e w3 ⟨v3, rfl, r3, g3⟩
        have G3 := Lib.hid (only_trans G2.out g3)
        have A3 := Lib.hid (heap_kept A2.out g3 (by simp))
        have B3 := Lib.hid (heap_kept B2.out g3 (by simp))
        have C3 := Lib.hid (heap_kept C2.out g3 (by simp))
        have R3 := Lib.hid r3
        obtain ⟨va, vc, rfl⟩ := r3.shape
        clear r3
        clear g3 a0 a1 af0 af1 b0 b1 b2 bf0 bf1 bf2 c0 c1 cf0 cf1
        obtain ⟨a0, a1, af0, af1⟩ := cells2 A3.out
        obtain ⟨b0, b1, b2, bf0, bf1, bf2⟩ := cells3 B3.out
        obtain ⟨c0, c1, cf0, cf1⟩ := cells2 C3.out
        go_wp2_with fail
        rw [HX5.out]
        exact bodyPost_ret (ee.results_cell2 rfl _ _ (w.heap.size + 1 + 1) 49 #[.int .u64 (y.e : Nat), .slice va S1.length vc] (0, 0) _ rfl (wm.heap_setc (wm.heap_setc C3.out)) Tryz.underlying49 rfl (by kernel_rfl)) rfl ⟨.slice va S1.length vc, rfl, rs_off2 R3.out C3.out (only_setCell (only_setCell (only_refl _ (some (w.heap.size + 1 + 1))) (.inl rfl) _) (.inl rfl) _), (only_setCell (only_setCell G3.out (.inr (by show w.heap.size ≤ w.heap.size + 1 + 1; omega)) _) (.inr (by show w.heap.size ≤ w.heap.size + 1 + 1; omega)) _)⟩
      · have HX4 := Lib.hid (HX.out.trans ((if_neg (by simp)).trans ((if_neg h3).trans (if_pos h4))))
        have hqb : ((sq : Int) != 0) = true := by rw [bne_iff_ne]; omega
        obtain ⟨GA, GB⟩ := HKA.out (by first | rfl | trivial)
        go_enter Tryz.func26, Tryz.ntmps26
        go_wp2_with fail
        refine HFI.out.mono ?_
        rintro e w2 ⟨rfl, g2⟩
        have G2 := Lib.hid (only_trans M4.out g2)
        have A2 := Lib.hid (heap_kept M1.out g2 (by simp))
        have B2 := Lib.hid (heap_kept M2.out g2 (by simp))
        have C2 := Lib.hid (heap_kept M3.out g2 (by simp))
        clear g2
        obtain ⟨a0, a1, af0, af1⟩ := cells2 A2.out
        obtain ⟨b0, b1, b2, bf0, bf1, bf2⟩ := cells3 B2.out
        obtain ⟨c0, c1, cf0, cf1⟩ := cells2 C2.out
        go_wp2_with fail
        refine (HSU.out GA GB _ G2.out).mono ?_
        rintro e w3 ⟨v3, rfl, r3, g3⟩
        have G3 := Lib.hid (only_trans G2.out g3)
        have A3 := Lib.hid (heap_kept A2.out g3 (by simp))
        have B3 := Lib.hid (heap_kept B2.out g3 (by simp))
        have C3 := Lib.hid (heap_kept C2.out g3 (by simp))
        have R3 := Lib.hid r3
        obtain ⟨va, vc, rfl⟩ := r3.shape
        clear r3
        clear g3 a0 a1 af0 af1 b0 b1 b2 bf0 bf1 bf2 c0 c1 cf0 cf1
        obtain ⟨a0, a1, af0, af1⟩ := cells2 A3.out
        obtain ⟨b0, b1, b2, bf0, bf1, bf2⟩ := cells3 B3.out
        obtain ⟨c0, c1, cf0, cf1⟩ := cells2 C3.out
        go_wp2_with fail
        rw [HX4.out]
        exact bodyPost_ret (ee.results_cell2 rfl _ _ (w.heap.size + 1 + 1) 49 #[.int .u64 0, .slice none 0 0] (0, 0) _ rfl (wm.heap_setc (wm.heap_setc C3.out)) Tryz.underlying49 rfl (by kernel_rfl)) rfl ⟨.slice none 0 0, rfl, Rs.nil _ _ _ _, (only_setCell (only_setCell G3.out (.inr (by show w.heap.size ≤ w.heap.size + 1 + 1; omega)) _) (.inr (by show w.heap.size ≤ w.heap.size + 1 + 1; omega)) _)⟩
  · have HX2 : Hid (R = (sn0, fc)) := by show _ = _; rw [HX.out, if_pos h2]
    have hqb : ((fc : Int) != 0) = true := by rw [bne_iff_ne]; omega
    go_enter Tryz.func26, Tryz.ntmps26
    go_wp2_with fail
    refine HFI.out.mono ?_
    rintro e w2 ⟨rfl, g2⟩
    have G2 := Lib.hid (only_trans M4.out g2)
    have A2 := Lib.hid (heap_kept M1.out g2 (by simp))
    have B2 := Lib.hid (heap_kept M2.out g2 (by simp))
    have C2 := Lib.hid (heap_kept M3.out g2 (by simp))
    clear g2
    obtain ⟨a0, a1, af0, af1⟩ := cells2 A2.out
    obtain ⟨b0, b1, b2, bf0, bf1, bf2⟩ := cells3 B2.out
    obtain ⟨c0, c1, cf0, cf1⟩ := cells2 C2.out
    go_wp2_with fail
    rw [HX2.out]
    exact bodyPost_ret (ee.results_cell2 rfl _ _ (w.heap.size + 1 + 1) 49 #[.int .u64 0, .slice none 0 0] (0, 0) _ rfl (wm.heap_setc (wm.heap_setc C2.out)) Tryz.underlying49 rfl (by kernel_rfl)) rfl ⟨.slice none 0 0, rfl, Rs.nil _ _ _ _, (only_setCell (only_setCell G2.out (.inr (by show w.heap.size ≤ w.heap.size + 1 + 1; omega)) _) (.inr (by show w.heap.size ≤ w.heap.size + 1 + 1; omega)) _)⟩

set_option maxHeartbeats 4000000 in
set_option maxRecDepth 100000 in
theorem join_any (x : Dt) (y : Dt) (SA SB : Nat → Prop) (w : World) (u v : Value) (hx : Tok x.t) (hy : Tok y.t) (hT : tb.Tab w) (h : Rs SA w u x.t) (h2 : Rs SB w v y.t) :
    Calls Tryz.prog 29 #[dtV x u, dtV y v] w fun e w' => ∃ u', e = .returned (.tuple #[dtV (joinX x y).1 u', .int .i64 ((joinX x y).2 : Nat)]) ∧ Rs (fun k => k < w'.heap.size) w' u' (joinX x y).1.t ∧ w.grownBy w' none := by
  obtain ⟨ua, uc, rfl⟩ := h.shape
  obtain ⟨ya, yc, rfl⟩ := h2.shape
  have HCA := Lib.hid (fun w1 (g : w.grownBy w1 none) => dcheck_any x SA w1 (.slice ua x.t.length uc) hx (tb.kept hT g) (h.grown g))
  have HCB := Lib.hid (fun w1 (g : w.grownBy w1 none) => dcheck_any y SB w1 (.slice ya y.t.length yc) hy (tb.kept hT g) (h2.grown g))
  have HSU := Lib.hid (fun (k1 : Gk x.t) (k2 : Gk y.t) w1 (g : w.grownBy w1 none) => sum_any x.t y.t SA SB w1 (.slice ua x.t.length uc) (.slice ya y.t.length yc) k1 k2 (tb.kept hT g) (h.grown g) (h2.grown g))
  have HX : Hid (joinX x y = if firstX (checkX x) (checkX y) ≠ 0 then (dt0, firstX (checkX x) (checkX y)) else if y.b ≠ x.e then (dt0, 19) else if (sumT x.t y.t).2 ≠ 0 then (dt0, (sumT x.t y.t).2) else (⟨x.b, y.e, (sumT x.t y.t).1⟩, 0)) := rfl
  have hal : checkX x < 64 := checkX_lt _
  have hbl : checkX y < 64 := checkX_lt _
  have hsl := sumT_lt x.t y.t
  obtain ⟨m1, m2, m3, m5, m4⟩ := made4 w (.cells #[.int .u64 (x.b : Nat), .int .u64 (x.e : Nat), .slice ua x.t.length uc] 51) (.cells #[.int .u64 (y.b : Nat), .int .u64 (y.e : Nat), .slice ya y.t.length yc] 51) (.cells #[.int .u64 0, .int .u64 0, .slice none 0 0] 51) (.cells #[.func (.func 33) #[(.agg #[.int .u64 (x.b : Nat), .int .u64 (x.e : Nat), .slice ua x.t.length uc])] #[], .func (.func 33) #[(.agg #[.int .u64 (y.b : Nat), .int .u64 (y.e : Nat), .slice ya y.t.length yc])] #[]] 46)
  have HFI := Lib.hid (first_dd _ (.agg #[.int .u64 (x.b : Nat), .int .u64 (x.e : Nat), .slice ua x.t.length uc]) (.agg #[.int .u64 (y.b : Nat), .int .u64 (y.e : Nat), .slice ya y.t.length yc]) (checkX x) (checkX y) _ _ (fun w1 g => HCA.out w1 (only_trans m4 g)) (fun w1 g => HCB.out w1 (only_trans m4 g)) m5)
  have HKA := Lib.hid (fun (e : firstX (checkX x) (checkX y) = 0) => (⟨⟨(checkX_zero.1 (firstX_zero.1 e).1).2, fun r hr => (hx.2 r hr).2.2.2⟩, ⟨(checkX_zero.1 (firstX_zero.1 e).2).2, fun r hr => (hy.2 r hr).2.2.2⟩⟩ : Gk x.t ∧ Gk y.t))
  clear HCA HCB m5
  have M1 := Lib.hid m1
  have M2 := Lib.hid m2
  have M3 := Lib.hid m3
  have M4 := Lib.hid m4
  clear hx hy h h2 m1 m2 m3 m4 hT
  unfold dtV
  generalize joinX x y = R at *
  have hfl := firstX_lt hal hbl
  clear hal hbl
  generalize firstX (checkX x) (checkX y) = fc at *
  generalize sumT x.t y.t = SU at *
  obtain ⟨S1, sq⟩ := SU
  simp only at HSU HX hsl
  by_cases h2 : fc = 0
  · subst h2
    by_cases h3 : y.b ≠ x.e
    · have HX3 := Lib.hid (HX.out.trans ((if_neg (by simp)).trans (if_pos h3)))
      have hbi : ((y.b : Int) != (x.e : Int)) = true := by rw [bne_iff_ne]; omega
      go_enter Tryz.func29, Tryz.ntmps29
      go_wp2_with fail
      refine HFI.out.mono ?_
      rintro e w2 ⟨rfl, g2⟩
      have G2 := Lib.hid (only_trans M4.out g2)
      have A2 := Lib.hid (heap_kept M1.out g2 (by simp))
      have B2 := Lib.hid (heap_kept M2.out g2 (by simp))
      have C2 := Lib.hid (heap_kept M3.out g2 (by simp))
      clear g2
      obtain ⟨a0, a1, a2, af0, af1, af2⟩ := cells3 A2.out
      obtain ⟨b0, b1, b2, bf0, bf1, bf2⟩ := cells3 B2.out
      obtain ⟨c0, c1, c2, cf0, cf1, cf2⟩ := cells3 C2.out
      go_wp2_with fail
      rw [HX3.out]
      exact bodyPost_ret (ee.results_cell2 rfl _ _ (w.heap.size + 1 + 1) 51 #[.int .u64 0, .int .u64 0, .slice none 0 0] (0, 0) _ rfl (wm.heap_setc (wm.heap_setc (wm.heap_setc C2.out))) Tryz.underlying51 rfl (by kernel_rfl)) rfl ⟨.slice none 0 0, rfl, Rs.nil _ _ _ _, (only_setCell (only_setCell (only_setCell G2.out (.inr (by show w.heap.size ≤ w.heap.size + 1 + 1; omega)) _) (.inr (by show w.heap.size ≤ w.heap.size + 1 + 1; omega)) _) (.inr (by show w.heap.size ≤ w.heap.size + 1 + 1; omega)) _)⟩
    · have hbi : ((y.b : Int) != (x.e : Int)) = false := by rw [bne_eq_false_iff_eq]; omega
      by_cases h4 : sq = 0
      · subst h4
        have HX5 := Lib.hid (HX.out.trans ((if_neg (by simp)).trans ((if_neg h3).trans (if_neg (by simp)))))
        obtain ⟨GA, GB⟩ := HKA.out (by first | rfl | trivial)
        go_enter Tryz.func29, Tryz.ntmps29
        go_wp2_with fail
        refine HFI.out.mono ?_
        rintro e w2 ⟨rfl, g2⟩
        have G2 := Lib.hid (only_trans M4.out g2)
        have A2 := Lib.hid (heap_kept M1.out g2 (by simp))
        have B2 := Lib.hid (heap_kept M2.out g2 (by simp))
        have C2 := Lib.hid (heap_kept M3.out g2 (by simp))
        clear g2
        obtain ⟨a0, a1, a2, af0, af1, af2⟩ := cells3 A2.out
        obtain ⟨b0, b1, b2, bf0, bf1, bf2⟩ := cells3 B2.out
        obtain ⟨c0, c1, c2, cf0, cf1, cf2⟩ := cells3 C2.out
        go_wp2_with fail
        refine (HSU.out GA GB _ G2.out).mono ?_
        rintro e w3 ⟨v3, rfl, r3, g3⟩
        have G3 := Lib.hid (only_trans G2.out g3)
        have A3 := Lib.hid (heap_kept A2.out g3 (by simp))
        have B3 := Lib.hid (heap_kept B2.out g3 (by simp))
        have C3 := Lib.hid (heap_kept C2.out g3 (by simp))
        have R3 := Lib.hid r3
        obtain ⟨va, vc, rfl⟩ := r3.shape
        clear r3
        clear g3 a0 a1 a2 af0 af1 af2 b0 b1 b2 bf0 bf1 bf2 c0 c1 c2 cf0 cf1 cf2
        obtain ⟨a0, a1, a2, af0, af1, af2⟩ := cells3 A3.out
        obtain ⟨b0, b1, b2, bf0, bf1, bf2⟩ := cells3 B3.out
        obtain ⟨c0, c1, c2, cf0, cf1, cf2⟩ := cells3 C3.out
        go_wp2_with fail
        rw [HX5.out]
        exact bodyPost_ret (ee.results_cell2 rfl _ _ (w.heap.size + 1 + 1) 51 #[.int .u64 (x.b : Nat), .int .u64 (y.e : Nat), .slice va S1.length vc] (0, 0) _ rfl (wm.heap_setc (wm.heap_setc (wm.heap_setc C3.out))) Tryz.underlying51 rfl (by kernel_rfl)) rfl ⟨.slice va S1.length vc, rfl, rs_off3 R3.out C3.out (only_setCell (only_setCell (only_setCell (only_refl _ (some (w.heap.size + 1 + 1))) (.inl rfl) _) (.inl rfl) _) (.inl rfl) _), (only_setCell (only_setCell (only_setCell G3.out (.inr (by show w.heap.size ≤ w.heap.size + 1 + 1; omega)) _) (.inr (by show w.heap.size ≤ w.heap.size + 1 + 1; omega)) _) (.inr (by show w.heap.size ≤ w.heap.size + 1 + 1; omega)) _)⟩
      · have HX4 := Lib.hid (HX.out.trans ((if_neg (by simp)).trans ((if_neg h3).trans (if_pos h4))))
        have hqb : ((sq : Int) != 0) = true := by rw [bne_iff_ne]; omega
        obtain ⟨GA, GB⟩ := HKA.out (by first | rfl | trivial)
        go_enter Tryz.func29, Tryz.ntmps29
        go_wp2_with fail
        refine HFI.out.mono ?_
        rintro e w2 ⟨rfl, g2⟩
        have G2 := Lib.hid (only_trans M4.out g2)
        have A2 := Lib.hid (heap_kept M1.out g2 (by simp))
        have B2 := Lib.hid (heap_kept M2.out g2 (by simp))
        have C2 := Lib.hid (heap_kept M3.out g2 (by simp))
        clear g2
        obtain ⟨a0, a1, a2, af0, af1, af2⟩ := cells3 A2.out
        obtain ⟨b0, b1, b2, bf0, bf1, bf2⟩ := cells3 B2.out
        obtain ⟨c0, c1, c2, cf0, cf1, cf2⟩ := cells3 C2.out
        go_wp2_with fail
        refine (HSU.out GA GB _ G2.out).mono ?_
        rintro e w3 ⟨v3, rfl, r3, g3⟩
        have G3 := Lib.hid (only_trans G2.out g3)
        have A3 := Lib.hid (heap_kept A2.out g3 (by simp))
        have B3 := Lib.hid (heap_kept B2.out g3 (by simp))
        have C3 := Lib.hid (heap_kept C2.out g3 (by simp))
        have R3 := Lib.hid r3
        obtain ⟨va, vc, rfl⟩ := r3.shape
        clear r3
        clear g3 a0 a1 a2 af0 af1 af2 b0 b1 b2 bf0 bf1 bf2 c0 c1 c2 cf0 cf1 cf2
        obtain ⟨a0, a1, a2, af0, af1, af2⟩ := cells3 A3.out
        obtain ⟨b0, b1, b2, bf0, bf1, bf2⟩ := cells3 B3.out
        obtain ⟨c0, c1, c2, cf0, cf1, cf2⟩ := cells3 C3.out
        go_wp2_with fail
        rw [HX4.out]
        exact bodyPost_ret (ee.results_cell2 rfl _ _ (w.heap.size + 1 + 1) 51 #[.int .u64 0, .int .u64 0, .slice none 0 0] (0, 0) _ rfl (wm.heap_setc (wm.heap_setc (wm.heap_setc C3.out))) Tryz.underlying51 rfl (by kernel_rfl)) rfl ⟨.slice none 0 0, rfl, Rs.nil _ _ _ _, (only_setCell (only_setCell (only_setCell G3.out (.inr (by show w.heap.size ≤ w.heap.size + 1 + 1; omega)) _) (.inr (by show w.heap.size ≤ w.heap.size + 1 + 1; omega)) _) (.inr (by show w.heap.size ≤ w.heap.size + 1 + 1; omega)) _)⟩
  · have HX2 : Hid (R = (dt0, fc)) := by show _ = _; rw [HX.out, if_pos h2]
    have hqb : ((fc : Int) != 0) = true := by rw [bne_iff_ne]; omega
    go_enter Tryz.func29, Tryz.ntmps29
    go_wp2_with fail
    refine HFI.out.mono ?_
    rintro e w2 ⟨rfl, g2⟩
    have G2 := Lib.hid (only_trans M4.out g2)
    have A2 := Lib.hid (heap_kept M1.out g2 (by simp))
    have B2 := Lib.hid (heap_kept M2.out g2 (by simp))
    have C2 := Lib.hid (heap_kept M3.out g2 (by simp))
    clear g2
    obtain ⟨a0, a1, a2, af0, af1, af2⟩ := cells3 A2.out
    obtain ⟨b0, b1, b2, bf0, bf1, bf2⟩ := cells3 B2.out
    obtain ⟨c0, c1, c2, cf0, cf1, cf2⟩ := cells3 C2.out
    go_wp2_with fail
    rw [HX2.out]
    exact bodyPost_ret (ee.results_cell2 rfl _ _ (w.heap.size + 1 + 1) 51 #[.int .u64 0, .int .u64 0, .slice none 0 0] (0, 0) _ rfl (wm.heap_setc (wm.heap_setc (wm.heap_setc C2.out))) Tryz.underlying51 rfl (by kernel_rfl)) rfl ⟨.slice none 0 0, rfl, Rs.nil _ _ _ _, (only_setCell (only_setCell (only_setCell G2.out (.inr (by show w.heap.size ≤ w.heap.size + 1 + 1; omega)) _) (.inr (by show w.heap.size ≤ w.heap.size + 1 + 1; omega)) _) (.inr (by show w.heap.size ≤ w.heap.size + 1 + 1; omega)) _)⟩

end Go.Proofs.YtbebdaglkjhbjaaGreatDoor.da
