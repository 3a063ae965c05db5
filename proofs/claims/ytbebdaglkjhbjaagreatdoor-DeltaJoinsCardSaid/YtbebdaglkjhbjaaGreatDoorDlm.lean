/-
  Plain mathematics of differences (layer 16): two tables together, what became of one.
-/
import Derived.Test.YtbebdaglkjhbjaaGreatDoorBundR
namespace Go.Proofs.YtbebdaglkjhbjaaGreatDoor.dl
open Go.Proofs.YtbebdaglkjhbjaaGreatDoor.vi Go.Proofs.YtbebdaglkjhbjaaGreatDoor.um Go.Proofs.YtbebdaglkjhbjaaGreatDoor.wm Go.Proofs.YtbebdaglkjhbjaaGreatDoor.em Go.Proofs.YtbebdaglkjhbjaaGreatDoor.rm Go.Proofs.YtbebdaglkjhbjaaGreatDoor.tm
set_option linter.unusedVariables false
set_option linter.unusedSimpArgs false

def plusR (b : List Rw) (r : Rw) : Rw := ⟨r.d, r.n + getT r.d b⟩
def overT (a b : List Rw) : Bool := a.any fun r => decide (18446744073709551615 < r.n + getT r.d b)
def bothT (a b : List Rw) : List Rw := a.map (plusR b) ++ b.filter fun r => decide (getT r.d a = 0)
/-- Two tables together, the code. -/
def sumT (a b : List Rw) : List Rw × Nat := if overT a b = true then ([], 3) else ofT (bothT a b)
/-- What b is more than a. -/
def diffT (a b : List Rw) : List Rw := (b.filter fun r => decide (r.n ≠ getT r.d a)).map fun r => ⟨r.d, r.n - getT r.d a⟩

theorem getT_key {d e : List Ent} (h : keyD d = keyD e) : ∀ t : List Rw, getT d t = getT e t
  | [] => rfl
  | w :: t => by unfold getT; rw [getT_key h t, h]
theorem key_plus (b : List Rw) (r : Rw) : key (plusR b r) = key r := rfl
/-- Tables that may be, and hold the same numbers, are one. -/
theorem ext_get {x y : List Rw} (hx : tm.Good x) (hy : tm.Good y) (h : ∀ d, getT d x = getT d y) : x = y :=
  at_same hx hy ((atT_iff x y).2 fun r hr => by rw [h, getT_of hy.2.2 hr rfl]; omega) ((atT_iff y x).2 fun r hr => by rw [← h, getT_of hx.2.2 hr rfl]; omega)

theorem both_row {a b : List Rw} (ha : tm.Good a) (hb : tm.Good b) : ∀ x ∈ bothT a b, rowE x = 0 := fun x hx => by
  unfold bothT at hx
  rcases List.mem_append.1 hx with h | h
  · obtain ⟨r, hr, rfl⟩ := List.mem_map.1 h
    obtain ⟨c1, c2⟩ := rowE_pos (ha.2.1 r hr)
    unfold rowE plusR
    rw [if_neg (by simpa using c1), if_neg (by simp; omega)]
  · exact hb.2.1 x (List.mem_filter.1 h).1
theorem both_nodup {a b : List Rw} (ha : tm.Good a) (hb : tm.Good b) : ((bothT a b).map key).Nodup := by
  have key_nodup : ∀ {t : List Rw}, t.Pairwise ltR → (t.map key).Nodup := fun h => by
    rw [List.Nodup, List.pairwise_map]
    exact h.imp fun h => ltR_ne h
  unfold bothT
  rw [List.map_append, List.nodup_append]
  refine ⟨?_, key_nodup (hb.2.2.filter _), fun x hx y hy e => ?_⟩
  · rw [List.map_map, show (key ∘ plusR b) = key from rfl]
    exact key_nodup ha.2.2
  · rw [List.map_map, show (key ∘ plusR b) = key from rfl] at hx
    obtain ⟨r, hr, rfl⟩ := List.mem_map.1 hx
    obtain ⟨u, hu, rfl⟩ := List.mem_map.1 hy
    obtain ⟨hu1, hu2⟩ := List.mem_filter.1 hu
    have h0 : getT u.d a = 0 := by simpa using hu2
    rw [getT_of ha.2.2 hr (show keyD u.d = key r from e.symm)] at h0
    have := (rowE_pos (ha.2.1 r hr)).2
    omega
/-- Of two tables that may be: only how many rows there are may stand against it. -/
theorem of_both {a b : List Rw} (ha : tm.Good a) (hb : tm.Good b) : (ofT (bothT a b)).2 = if 256 < (bothT a b).length then 13 else 0 := by
  unfold ofT
  by_cases h : 256 < (bothT a b).length
  · rw [if_pos h, if_pos h]
  · rw [if_neg h, if_neg h, if_neg (by simpa using (firstT_zero _).2 (both_row ha hb))]
    have := (insAllT_iff (bothT a b) [] List.Pairwise.nil).2 (by simpa using both_nodup ha hb)
    obtain ⟨o, ho⟩ := Option.isSome_iff_exists.1 this
    rw [ho]
theorem sum_code {a b : List Rw} (ha : tm.Good a) (hb : tm.Good b) : (sumT a b).2 = if overT a b = true then 3 else if 256 < (bothT a b).length then 13 else 0 := by
  unfold sumT
  split
  · rfl
  · exact of_both ha hb
theorem sum_err {a b : List Rw} (h : (sumT a b).2 ≠ 0) : (sumT a b).1 = [] := by
  unfold sumT at h ⊢
  split
  · rfl
  · rename_i h1; rw [if_neg h1] at h; exact ofT_err h
/-- The numbers of both together. -/
theorem sum_get {a b : List Rw} (ha : tm.Good a) (hb : tm.Good b) (h : (sumT a b).2 = 0) : tm.Good (sumT a b).1 ∧ ∀ d, getT d (sumT a b).1 = getT d a + getT d b := by
  have h1 : ¬ overT a b = true := fun e => by unfold sumT at h; rw [if_pos e] at h; cases h
  unfold sumT at h ⊢
  rw [if_neg h1] at h ⊢
  obtain ⟨g, p⟩ := ofT_ok h
  refine ⟨g, fun d => ?_⟩
  by_cases hda : getT d a = 0
  · by_cases hdb : getT d b = 0
    · rw [hda, hdb]
      refine Classical.byContradiction fun hne => ?_
      obtain ⟨r, hr, hk, hn⟩ := getT_mem hne
      rcases List.mem_append.1 (p.mem_iff.1 hr) with hr | hr
      · obtain ⟨u, hu, rfl⟩ := List.mem_map.1 hr
        rw [getT_of ha.2.2 hu (show keyD d = key u from hk.symm)] at hda
        have := (rowE_pos (ha.2.1 u hu)).2
        omega
      · have hrb := (List.mem_filter.1 hr).1
        rw [getT_of hb.2.2 hrb (show keyD d = key r from hk.symm)] at hdb
        have := (rowE_pos (hb.2.1 r hrb)).2
        omega
    · obtain ⟨r, hr, hk, hn⟩ := getT_mem hdb
      have hm : r ∈ bothT a b := List.mem_append_right _ (List.mem_filter.2 ⟨hr, by rw [getT_key (show keyD r.d = keyD d from hk)]; simpa using hda⟩)
      rw [getT_of g.2.2 (p.mem_iff.2 hm) (show keyD d = key r from hk.symm), hda, ← hn]
      omega
  · obtain ⟨r, hr, hk, hn⟩ := getT_mem hda
    have hm : plusR b r ∈ bothT a b := List.mem_append_left _ (List.mem_map.2 ⟨r, hr, rfl⟩)
    rw [getT_of g.2.2 (p.mem_iff.2 hm) (show keyD d = key (plusR b r) from hk.symm), ← hn]
    show r.n + getT r.d b = _
    rw [getT_key (show keyD r.d = keyD d from hk)]

theorem over_iff {a b : List Rw} (ha : tm.Good a) : overT a b = true ↔ ∃ d, getT d a ≠ 0 ∧ 18446744073709551615 < getT d a + getT d b := by
  unfold overT
  rw [List.any_eq_true]
  constructor
  · rintro ⟨r, hr, h⟩
    refine ⟨r.d, ?_, ?_⟩
    · rw [getT_of ha.2.2 hr rfl]; have := (rowE_pos (ha.2.1 r hr)).2; omega
    · rw [getT_of ha.2.2 hr rfl]; simpa using h
  · rintro ⟨d, h0, h⟩
    obtain ⟨r, hr, hk, hn⟩ := getT_mem h0
    exact ⟨r, hr, by rw [getT_key (show keyD r.d = keyD d from hk), hn]; simpa using h⟩

/-- What became of a table: it may be, and holds what was added. -/
theorem diff_get {a b : List Rw} (ha : tm.Good a) (hb : tm.Good b) (h : atT b a = true) : tm.Good (diffT a b) ∧ ∀ d, getT d (diffT a b) + getT d a = getT d b := by
  have hle : ∀ d, getT d a ≤ getT d b := fun d => by
    by_cases h0 : getT d a = 0
    · omega
    · obtain ⟨r, hr, hk, hn⟩ := getT_mem h0
      have := (atT_iff b a).1 h r hr
      rw [getT_key (show keyD r.d = keyD d from hk)] at this
      omega
  have hg : tm.Good (diffT a b) := by
    refine ⟨?_, fun x hx => ?_, ?_⟩
    · unfold diffT
      rw [List.length_map]
      exact Nat.le_trans (List.length_filter_le _ _) hb.1
    · obtain ⟨r, hr, rfl⟩ := List.mem_map.1 hx
      obtain ⟨h1, h2⟩ := List.mem_filter.1 hr
      obtain ⟨c1, c2⟩ := rowE_pos (hb.2.1 r h1)
      have h3 : r.n ≠ getT r.d a := by simpa using h2
      have h4 := hle r.d
      rw [getT_of hb.2.2 h1 rfl] at h4
      unfold rowE
      rw [if_neg (by simpa using c1), if_neg (by simp; omega)]
    · unfold diffT
      rw [List.pairwise_map]
      exact hb.2.2.filter _
  refine ⟨hg, fun d => ?_⟩
  have hl := hle d
  by_cases h0 : getT d (diffT a b) = 0
  · rw [h0]
    by_cases hb0 : getT d b = 0
    · omega
    · obtain ⟨r, hr, hk, hn⟩ := getT_mem hb0
      refine Classical.byContradiction fun hne => ?_
      have hd : getT r.d a = getT d a := getT_key (show keyD r.d = keyD d from hk) a
      have hm : (⟨r.d, r.n - getT r.d a⟩ : Rw) ∈ diffT a b := List.mem_map.2 ⟨r, List.mem_filter.2 ⟨hr, by simp; omega⟩, rfl⟩
      rw [getT_of hg.2.2 hm (show keyD d = key ⟨r.d, r.n - getT r.d a⟩ from hk.symm)] at h0
      simp at h0
      omega
  · obtain ⟨x, hx, hk, hn⟩ := getT_mem h0
    obtain ⟨r, hr, rfl⟩ := List.mem_map.1 hx
    obtain ⟨h1, h2⟩ := List.mem_filter.1 hr
    rw [← hn]
    have hd : getT r.d a = getT d a := getT_key (show keyD r.d = keyD d from hk) a
    have hb1 : getT d b = r.n := getT_of hb.2.2 h1 (show keyD d = key r from hk.symm)
    show r.n - getT r.d a + _ = _
    omega

/-! Which two are joined first plays no part. -/
theorem both_mem {a b : List Rw} (ha : tm.Good a) (hb : tm.Good b) (k : Bs) : k ∈ (bothT a b).map key ↔ k ∈ a.map key ∨ k ∈ b.map key := by
  unfold bothT
  rw [List.map_append, List.mem_append, List.map_map, show (key ∘ plusR b) = key from rfl]
  constructor
  · rintro (h | h)
    · exact .inl h
    · obtain ⟨u, hu, rfl⟩ := List.mem_map.1 h
      exact .inr (List.mem_map.2 ⟨u, (List.mem_filter.1 hu).1, rfl⟩)
  · rintro (h | h)
    · exact .inl h
    · obtain ⟨u, hu, rfl⟩ := List.mem_map.1 h
      by_cases h0 : getT u.d a = 0
      · exact .inr (List.mem_map.2 ⟨u, List.mem_filter.2 ⟨hu, by simpa using h0⟩, rfl⟩)
      · obtain ⟨r, hr, hk, -⟩ := getT_mem h0
        exact .inl (List.mem_map.2 ⟨r, hr, hk⟩)
theorem sum_mem {a b : List Rw} (ha : tm.Good a) (hb : tm.Good b) (h : (sumT a b).2 = 0) (k : Bs) : k ∈ (sumT a b).1.map key ↔ k ∈ a.map key ∨ k ∈ b.map key := by
  have h1 : ¬ overT a b = true := fun e => by unfold sumT at h; rw [if_pos e] at h; cases h
  unfold sumT at h ⊢
  rw [if_neg h1] at h ⊢
  rw [← both_mem ha hb]
  exact ((ofT_ok h).2.map key).mem_iff
theorem both_len {a b c e : List Rw} (ha : tm.Good a) (hb : tm.Good b) (hc : tm.Good c) (he : tm.Good e) (h : ∀ k, (k ∈ a.map key ∨ k ∈ b.map key) ↔ (k ∈ c.map key ∨ k ∈ e.map key)) : (bothT a b).length = (bothT c e).length := by
  have hp : ((bothT a b).map key).Perm ((bothT c e).map key) := (List.perm_ext_iff_of_nodup (both_nodup ha hb) (both_nodup hc he)).2 fun k => by rw [both_mem ha hb, both_mem hc he]; exact h k
  simpa using hp.length_eq
theorem sum_assoc {a b c : List Rw} (ha : tm.Good a) (hb : tm.Good b) (hc : tm.Good c) (h1 : (sumT a b).2 = 0) (h2 : (sumT b c).2 = 0) : sumT (sumT a b).1 c = sumT a (sumT b c).1 := by
  obtain ⟨g1, e1⟩ := sum_get ha hb h1
  obtain ⟨g2, e2⟩ := sum_get hb hc h2
  have hov : overT b c = false := by
    cases ho : overT b c with
    | false => rfl
    | true => unfold sumT at h2; rw [if_pos ho] at h2; cases h2
  have ho : overT (sumT a b).1 c = overT a (sumT b c).1 := by
    rw [Bool.eq_iff_iff, over_iff g1, over_iff ha]
    constructor
    · rintro ⟨d, k1, k2⟩
      rw [e1] at k1 k2
      refine ⟨d, fun h0 => ?_, by rw [e2]; omega⟩
      have : overT b c = true := (over_iff hb).2 ⟨d, by omega, by omega⟩
      rw [hov] at this; cases this
    · rintro ⟨d, k1, k2⟩
      rw [e2] at k2
      exact ⟨d, by rw [e1]; omega, by rw [e1]; omega⟩
  have hl : (bothT (sumT a b).1 c).length = (bothT a (sumT b c).1).length := both_len g1 hc ha g2 fun k => by rw [sum_mem ha hb h1, sum_mem hb hc h2, or_assoc]
  have hcode : (sumT (sumT a b).1 c).2 = (sumT a (sumT b c).1).2 := by rw [sum_code g1 hc, sum_code ha g2, ho, hl]
  refine Prod.ext ?_ hcode
  by_cases h0 : (sumT (sumT a b).1 c).2 = 0
  · obtain ⟨g3, e3⟩ := sum_get g1 hc h0
    obtain ⟨g4, e4⟩ := sum_get ha g2 (by rw [← hcode]; exact h0)
    exact ext_get g3 g4 fun d => by rw [e3, e4, e1, e2]; omega
  · rw [sum_err h0, sum_err (by rw [← hcode]; exact h0)]
/-- What is added to a table and taken away again. -/
theorem sum_diff {a b : List Rw} (ha : tm.Good a) (hb : tm.Good b) (h : atT b a = true) (hn : ∀ d, getT d b ≤ 18446744073709551615) : sumT a (diffT a b) = (b, 0) := by
  obtain ⟨g, e⟩ := diff_get ha hb h
  have ho : overT a (diffT a b) = false := by
    cases ho : overT a (diffT a b) with
    | false => rfl
    | true =>
      obtain ⟨d, -, k⟩ := (over_iff ha).1 ho
      have := e d; have := hn d
      omega
  have hsub : (bothT a (diffT a b)).length = (bothT b []).length := both_len ha g hb ⟨by simp, by simp, List.Pairwise.nil⟩ fun k => by
    simp only [List.map_nil, List.not_mem_nil, or_false]
    constructor
    · rintro (h' | h')
      · obtain ⟨r, hr, rfl⟩ := List.mem_map.1 h'
        have h0 := e r.d
        have hp := (rowE_pos (ha.2.1 r hr)).2
        rw [getT_of ha.2.2 hr rfl] at h0
        obtain ⟨u, hu, hk, -⟩ := getT_mem (t := b) (d := r.d) (by omega)
        exact List.mem_map.2 ⟨u, hu, hk⟩
      · obtain ⟨r, hr, rfl⟩ := List.mem_map.1 h'
        have h0 := e r.d
        have hp := (rowE_pos (g.2.1 r hr)).2
        rw [getT_of g.2.2 hr rfl] at h0
        obtain ⟨u, hu, hk, -⟩ := getT_mem (t := b) (d := r.d) (by omega)
        exact List.mem_map.2 ⟨u, hu, hk⟩
    · intro h'
      obtain ⟨r, hr, rfl⟩ := List.mem_map.1 h'
      have h0 := e r.d
      have hp := (rowE_pos (hb.2.1 r hr)).2
      rw [getT_of hb.2.2 hr rfl] at h0
      by_cases hz : getT r.d a = 0
      · obtain ⟨u, hu, hk, -⟩ := getT_mem (t := diffT a b) (d := r.d) (by omega)
        exact .inr (List.mem_map.2 ⟨u, hu, hk⟩)
      · obtain ⟨u, hu, hk, -⟩ := getT_mem hz
        exact .inl (List.mem_map.2 ⟨u, hu, hk⟩)
  have hlb : (bothT b []).length = b.length := by simp [bothT]
  have hc : (sumT a (diffT a b)).2 = 0 := by
    rw [sum_code ha g, ho, hsub, hlb, if_neg (by simp), if_neg (by have := hb.1; omega)]
  obtain ⟨g3, e3⟩ := sum_get ha g hc
  exact Prod.ext (ext_get g3 hb fun d => by rw [e3, ← e d]; omega) hc
/-- And the other way. -/
theorem diff_sum {a c : List Rw} (ha : tm.Good a) (hc : tm.Good c) (h : (sumT a c).2 = 0) : atT (sumT a c).1 a = true ∧ diffT a (sumT a c).1 = c := by
  obtain ⟨g, e⟩ := sum_get ha hc h
  have hat : atT (sumT a c).1 a = true := (atT_iff _ _).2 fun r hr => by rw [e, getT_of ha.2.2 hr rfl]; omega
  obtain ⟨g2, e2⟩ := diff_get ha g hat
  exact ⟨hat, ext_get g2 hc fun d => by have := e2 d; rw [e] at this; omega⟩

end Go.Proofs.YtbebdaglkjhbjaaGreatDoor.dl
