/-
  Finner, Fcheck, Flevel, Fmid, Fcl
-/
import Derived.Test.YtbebdaglkjhbjaaGreatDoorBundT
import Derived.Deep.Onto
import Derived.Handy
import Derived.Deep.LoopGhost
import Derived.Lib.SliceRun

/-
  Fields level by level (the developers' package field): inner, hasList, alike, slices.ContainsFunc, slices.EqualFunc; Count, Depth, Same.
-/
namespace Go.Proofs.YtbebdaglkjhbjaaGreatDoor.ff
open Go.RowKit Go.Proofs.YtbebdaglkjhbjaaGreatDoor.tr
set_option linter.unusedVariables false
set_option linter.unusedSimpArgs false

theorem Tryz.infoF : (Tryz.prog.info? 222).map (fun i => (i.zero, i.size, i.bytes)) = some (some (.agg #[.int .u64 0, .int .i64 0, .int .u64 0, .string ⟨#[]⟩, .slice none 0 0]), 5, 64) := by kernel_rfl

/-- What stands in the lists of some fields. -/
def innerL : List Tree → List Tree
  | [] => []
  | t :: r => t.list ++ innerL r

theorem inner_append (a b : List Tree) : innerL (a ++ b) = innerL a ++ innerL b := by
  induction a with
  | nil => rfl
  | cons t r ih => simp [innerL, ih]

theorem inner_size (ts : List Tree) : sizeL ts = ts.length + sizeL (innerL ts) := by
  induction ts with
  | nil => simp [innerL, sizeL]
  | cons t r ih => rw [sizeL_cons, innerL, sizeL_append, List.length_cons]; omega

theorem inner_snoc {ts : List Tree} {i : Nat} {t : Tree} (h : ts[i]? = some t) : innerL (ts.take (i + 1)) = innerL (ts.take i) ++ t.list := by
  rw [take_snoc h, inner_append]; simp [innerL]

def hasT (t : Tree) : Bool := decide (t.typ = 2 ∨ 0 < t.list.length)

theorem has_not {t : Tree} (h : hasT t = false) : t.list = [] := by
  unfold hasT at h
  have := of_decide_eq_false h
  exact List.length_eq_zero_iff.1 (by omega)

theorem depth_level : ∀ ts : List Tree, (depthL ts = if ts.any hasT = true then 1 + depthL (innerL ts) else 0) ∧ (ts.any hasT = false → depthL (innerL ts) = 0)
  | [] => by simp [depthL, innerL]
  | t :: r => by
    obtain ⟨h1, h2⟩ := depth_level r
    have h3 : t.depth = if hasT t = true then 1 + depthL t.list else 0 := by
      rw [depth_eq]
      unfold hasT
      by_cases h : t.typ = 2 ∨ 0 < t.list.length
      · rw [if_pos h, if_pos (decide_eq_true h)]
      · rw [if_neg h, if_neg (by simp [h])]
    have h4 : hasT t = false → depthL t.list = 0 := fun h => by rw [has_not h]; simp [depthL]
    rw [depthL, h3, h1, innerL, depthL_append, List.any_cons]
    cases hh : hasT t <;> cases hr : r.any hasT <;> rw [hh] at h4 <;> rw [hr] at h2 <;> simp at h2 h4 ⊢ <;> omega

theorem depth_more {ts : List Tree} (h : ts.any hasT = true) : depthL ts = 1 + depthL (innerL ts) := by rw [(depth_level ts).1, if_pos h]
theorem depth_none {ts : List Tree} (h : ts.any hasT = false) : depthL ts = 0 := by rw [(depth_level ts).1, if_neg (by simp [h])]

def alikeT (t u : Tree) : Bool := decide (t.tag = u.tag ∧ t.typ = u.typ ∧ t.num = u.num ∧ t.text = u.text ∧ t.list.length = u.list.length)

def alikeL (a b : List Tree) : Prop := a.length = b.length ∧ ∀ (i : Nat) (t u : Tree), a[i]? = some t → b[i]? = some u → alikeT t u = true

theorem same_level : ∀ (a b : List Tree), (a = b ↔ alikeL a b ∧ innerL a = innerL b)
  | [], [] => by simp [alikeL, innerL]
  | [], _ :: _ => by simp [alikeL]
  | _ :: _, [] => by simp [alikeL]
  | t :: r, u :: s => by
    constructor
    · intro h
      rw [h]
      refine ⟨⟨rfl, fun i x y hx hy => ?_⟩, rfl⟩
      rw [hx] at hy
      simp only [Option.some.injEq] at hy
      subst hy
      simp [alikeT]
    · rintro ⟨⟨h1, h2⟩, h3⟩
      have h0 := h2 0 t u rfl rfl
      unfold alikeT at h0
      obtain ⟨k0, k1, k2, k3, k4⟩ := of_decide_eq_true h0
      simp only [innerL] at h3
      obtain ⟨h5, h6⟩ := List.append_inj h3 k4
      have h7 := (same_level r s).2 ⟨⟨by simpa using h1, fun i x y hx hy => h2 (i + 1) x y (by simpa using hx) (by simpa using hy)⟩, h6⟩
      rw [tree_ext k0 k1 k2 k3 h5, h7]

theorem same_step {a b : List Tree} (h : alikeL a b) : sameL a b = sameL (innerL a) (innerL b) := by
  rw [Bool.eq_iff_iff, sameL_iff _ a b (Nat.le_refl _), sameL_iff _ _ _ (Nat.le_refl _)]
  exact ⟨fun e => ((same_level a b).1 e).2, fun e => (same_level a b).2 ⟨h, e⟩⟩
theorem same_stop {a b : List Tree} (h : ¬ alikeL a b) : sameL a b = false := same_not fun e => h ((same_level a b).1 e).1

section
variable {P : Program}

/-- 'append(v, s...)' of any list that is read. -/
theorem run_append_any (w : World) (sl ty tr : TypeId) (z : Value) (ht : P.underlying sl = some (.slice ty)) (hinfo : (P.info? ty).map (fun i => (i.zero, i.size, i.bytes)) = some (some z, 5, 64)) (hz5 : z.cells.size = 5)
    (base : Nat) (S S2 : Nat → Prop) (v : Value) (ts us : List Tree) (hown : OwnF ty base S w v ts) (x : Value) (hr : Rd w S2 x us) (hS2 : ∀ k, S2 k → k < w.heap.size) (hv : ∀ k, v.ownBlock = some k → ¬ S2 k)
    (hlen : ts.length + us.length ≤ 1000000) (hbase : base ≤ w.heap.size) :
    ∃ v' w', (Builtin.append_ #[sl, sl] tr #[v, x]).run P w = .ok v' w' ∧ OwnF ty base (fun k => S k ∨ S2 k) w' v' (ts ++ us) ∧ w.grownBy w' v.ownBlock := by
  obtain ⟨a, c, rfl⟩ := hr.shape
  cases a with
  | some a => exact run_append_part w sl ty tr z ht hinfo hz5 base S S2 v ts us hown a c hr hS2 hv hlen hbase
  | none =>
    obtain rfl : us = [] := by
      generalize hx : (Value.slice none us.length c) = x at hr
      cases hr with
      | nil a cap => rfl
      | row => cases hx
    obtain ⟨i, hi, hz, hsize, hby⟩ := info_parts hinfo
    have ho := hown
    obtain ⟨lv, h1, h2, h3, h4⟩ := hown
    refine ⟨v, w, run_append_owned_none (P := P) w base sl tr ty i 5 ht hi v ts.length (flat ts lv) h1, ?_, ⟨rfl, rfl, rfl, Nat.le_refl _, fun _ _ _ => rfl⟩⟩
    rw [List.append_nil]
    refine ho.more (fun k hk => .inl hk) (fun k hk => ?_) (fun k e hk => ?_)
    · rcases hk with hk | hk
      · exact h3 k hk
      · exact hS2 k hk
    · rcases hk with hk | hk
      · exact h4 k e hk
      · exact hv k e hk

theorem wpList_append_any {ops : Array Oper} {rest : List Oper} {o : Oper} {a : Act} {w : World} {Q : Exit → Act → World → Prop} (hgd : o.guard = none) (s x : Operand) (sl ty : TypeId)
    (ho : o.op = .call { callee := .builtin .append, args := #[s, x], argTypes := #[sl, sl] }) (z : Value) (ht : P.underlying sl = some (.slice ty)) (hinfo : (P.info? ty).map (fun i => (i.zero, i.size, i.bytes)) = some (some z, 5, 64)) (hz5 : z.cells.size = 5)
    (base : Nat) (S S2 : Nat → Prop) (v : Value) (ts us : List Tree) (hs : a.eval s = v) (hown : OwnF ty base S w v ts) (u : Value) (hx : a.eval x = u) (hr : Rd w S2 u us) (hS2 : ∀ k, S2 k → k < w.heap.size) (hv : ∀ k, v.ownBlock = some k → ¬ S2 k)
    (hlen : ts.length + us.length ≤ 1000000) (hbase : base ≤ w.heap.size)
    (h : ∀ v' w', OwnF ty base (fun k => S k ∨ S2 k) w' v' (ts ++ us) → w.grownBy w' v.ownBlock → wpList P ops Q rest (a.put o.dst v') w') : wpList P ops Q (o :: rest) a w :=
  wpList_plain hgd fun K hK => by
    obtain ⟨v', w', hr', h2, h3⟩ := run_append_any (P := P) w sl ty o.type z ht hinfo hz5 base S S2 v ts us hown u hr hS2 hv hlen hbase
    unfold Oper.wp execOp
    simp only [ho, resolve, invoke, builtin, Sem.run_bind, Sem.run_pure, Result.andThen_ok, List.map_toArray, List.map_cons, List.map_nil, hs, hx, hr']
    exact hK _ _ (h v' w' h2 h3)
end

end Go.Proofs.YtbebdaglkjhbjaaGreatDoor.ff

/-
  The developers' package field: typed, checkOne, checkWithin, Check.
-/
namespace Go.Proofs.YtbebdaglkjhbjaaGreatDoor.ff
open Go.RowKit Go.Proofs.YtbebdaglkjhbjaaGreatDoor.tr
set_option linter.unusedVariables false
set_option linter.unusedSimpArgs false

set_option maxHeartbeats 2000000 in
set_option maxRecDepth 100000 in
theorem typed_any (t : Tree) (la : Option Addr) (lc : Nat) (w : World) (hl : t.list.length ≤ 1000000) :
    Calls Tryz.prog 208 #[.agg #[.int .u64 (t.tag : Nat), .int .i64 t.typ, .int .u64 (t.num : Nat), .string t.text, .slice la t.list.length lc]] w fun e w' => e = .returned (.bool (decide (¬ bad t))) ∧ w.grownBy w' none := by
  obtain ⟨B, hB⟩ : ∃ B, decide (¬ bad t) = B := ⟨_, rfl⟩
  rw [hB]
  have HB := Lib.hid hB
  clear hB
  rcases (show t.typ = 0 ∨ t.typ = 1 ∨ t.typ = 2 ∨ (t.typ ≠ 0 ∧ t.typ ≠ 1 ∧ t.typ ≠ 2) by omega) with q0 | q0 | q0 | ⟨q0, q1, q2⟩
  · by_cases qx : t.text.size = 0
    · have h_x := text_empty qx
      by_cases ql : t.list.length = 0
      · have h_l : ((t.list.length : Int) == 0) = true := by simp [ql]
        have hb : true = B := by rw [← HB.out]; symm; apply decide_eq_true; unfold bad; omega
        subst hb
        go_enter Tryz.func208, Tryz.ntmps208
        go_wp2_with fail
        go_ret
        exact ⟨rfl, only_alloc (only_refl _ _) _⟩
      · have h_l : ((t.list.length : Int) == 0) = false := by rw [beq_eq_false_iff_ne]; omega
        have hb : false = B := by rw [← HB.out]; symm; apply decide_eq_false; unfold bad; omega
        subst hb
        go_enter Tryz.func208, Tryz.ntmps208
        go_wp2_with fail
        go_ret
        exact ⟨rfl, only_alloc (only_refl _ _) _⟩
    · have h_x := text_full qx
      have hb : false = B := by rw [← HB.out]; symm; apply decide_eq_false; unfold bad; omega
      subst hb
      go_enter Tryz.func208, Tryz.ntmps208
      go_wp2_with fail
      go_ret
      exact ⟨rfl, only_alloc (only_refl _ _) _⟩
  · by_cases qn : t.num = 0
    · have h_n : ((t.num : Int) == 0) = true := by simp [qn]
      by_cases ql : t.list.length = 0
      · have h_l : ((t.list.length : Int) == 0) = true := by simp [ql]
        have hb : true = B := by rw [← HB.out]; symm; apply decide_eq_true; unfold bad; omega
        subst hb
        go_enter Tryz.func208, Tryz.ntmps208
        go_wp2_with fail
        go_ret
        exact ⟨rfl, only_alloc (only_refl _ _) _⟩
      · have h_l : ((t.list.length : Int) == 0) = false := by rw [beq_eq_false_iff_ne]; omega
        have hb : false = B := by rw [← HB.out]; symm; apply decide_eq_false; unfold bad; omega
        subst hb
        go_enter Tryz.func208, Tryz.ntmps208
        go_wp2_with fail
        go_ret
        exact ⟨rfl, only_alloc (only_refl _ _) _⟩
    · have h_n : ((t.num : Int) == 0) = false := by simp; omega
      have hb : false = B := by rw [← HB.out]; symm; apply decide_eq_false; unfold bad; omega
      subst hb
      go_enter Tryz.func208, Tryz.ntmps208
      go_wp2_with fail
      go_ret
      exact ⟨rfl, only_alloc (only_refl _ _) _⟩
  · by_cases qn : t.num = 0
    · have h_n : ((t.num : Int) == 0) = true := by simp [qn]
      by_cases qx : t.text.size = 0
      · have h_x := text_empty qx
        have hb : true = B := by rw [← HB.out]; symm; apply decide_eq_true; unfold bad; omega
        subst hb
        go_enter Tryz.func208, Tryz.ntmps208
        go_wp2_with fail
        go_ret
        exact ⟨rfl, only_alloc (only_refl _ _) _⟩
      · have h_x := text_full qx
        have hb : false = B := by rw [← HB.out]; symm; apply decide_eq_false; unfold bad; omega
        subst hb
        go_enter Tryz.func208, Tryz.ntmps208
        go_wp2_with fail
        go_ret
        exact ⟨rfl, only_alloc (only_refl _ _) _⟩
    · have h_n : ((t.num : Int) == 0) = false := by simp; omega
      have hb : false = B := by rw [← HB.out]; symm; apply decide_eq_false; unfold bad; omega
      subst hb
      go_enter Tryz.func208, Tryz.ntmps208
      go_wp2_with fail
      go_ret
      exact ⟨rfl, only_alloc (only_refl _ _) _⟩
  · have h0 : (t.typ == 0) = false := by simp [q0]
    have h1 : (t.typ == 1) = false := by simp [q1]
    have h2 : (t.typ == 2) = false := by simp [q2]
    have hb : false = B := by rw [← HB.out]; symm; apply decide_eq_false; unfold bad; omega
    subst hb
    go_enter Tryz.func208, Tryz.ntmps208
    go_wp2_with fail
    go_ret
    exact ⟨rfl, only_alloc (only_refl _ _) _⟩

/-- What one field is found to be, but for what stands in it. -/
def oneE (deep prev : Nat) (t : Tree) : Nat := if t.tag = 0 ∨ 4294967296 < t.tag then 18 else if t.tag ≤ prev then 7 else if bad t then 8 else if t.typ = 2 ∧ 8 ≤ deep then 9 else 0

theorem check_one {deep prev : Nat} {t : Tree} {r : List Tree} (hd : deep ≤ 8) : checkL deep prev (t :: r) = if oneE deep prev t ≠ 0 then oneE deep prev t else if checkL (deep + 1) 0 t.list ≠ 0 then checkL (deep + 1) 0 t.list else checkL deep t.tag r := by
  rw [checkL_cons]
  unfold oneE
  by_cases q0 : t.tag = 0 ∨ 4294967296 < t.tag
  · simp [q0]
  by_cases q1 : t.tag ≤ prev
  · simp [q0, q1]
  by_cases q2 : bad t
  · simp [q0, q1, q2]
  by_cases q3 : t.typ = 2 ∧ deep = 8
  · have q4 : t.typ = 2 ∧ 8 ≤ deep := by omega
    simp only [q0, q1, q2, q3, q4, if_true, if_false]; simp
  · have q4 : ¬ (t.typ = 2 ∧ 8 ≤ deep) := by omega
    simp only [q0, q1, q2, q3, q4, if_true, if_false]; simp

theorem one_in {deep prev : Nat} {t : Tree} (h : oneE deep prev t = 0) : t.list = [] ∨ deep + 1 ≤ 8 := by
  unfold oneE at h
  by_cases q0 : t.tag = 0 ∨ 4294967296 < t.tag
  · rw [if_pos q0] at h; cases h
  rw [if_neg q0] at h
  by_cases q1 : t.tag ≤ prev
  · rw [if_pos q1] at h; cases h
  rw [if_neg q1] at h
  by_cases q2 : bad t
  · rw [if_pos q2] at h; cases h
  rw [if_neg q2] at h
  by_cases q3 : t.typ = 2 ∧ 8 ≤ deep
  · rw [if_pos q3] at h; cases h
  by_cases q4 : t.typ = 2
  · right; omega
  · left; exact not_bad_list q2 q4

set_option maxHeartbeats 2000000 in
set_option maxRecDepth 100000 in
theorem one_any (t : Tree) (deep prev : Nat) (la : Option Addr) (lc : Nat) (w : World) (hl : t.list.length ≤ 1000000) :
    Calls Tryz.prog 195 #[.agg #[.int .u64 (t.tag : Nat), .int .i64 t.typ, .int .u64 (t.num : Nat), .string t.text, .slice la t.list.length lc], .int .u64 (prev : Nat), .int .i64 (deep : Nat)] w fun e w' => e = .returned (.int .i64 (oneE deep prev t : Nat)) ∧ w.grownBy w' none := by
  unfold oneE
  have HT := Lib.hid (fun w' => typed_any t la lc w' hl)
  by_cases q0 : t.tag = 0
  · rw [if_pos (.inl q0)]
    have h0 : ((t.tag : Int) == 0) = true := by simp [q0]
    go_enter Tryz.func195, Tryz.ntmps195
    go_wp2_with fail
    go_ret
    exact ⟨rfl, only_alloc (only_refl _ _) _⟩
  have h0 : ((t.tag : Int) == 0) = false := by simp; omega
  by_cases q1 : 4294967296 < t.tag
  · rw [if_pos (.inr q1)]
    have h1 : (4294967296 : Int) < (t.tag : Int) := by omega
    go_enter Tryz.func195, Tryz.ntmps195
    go_wp2_with fail
    go_ret
    exact ⟨rfl, only_alloc (only_refl _ _) _⟩
  have h1 : ¬ (4294967296 : Int) < (t.tag : Int) := by omega
  rw [if_neg (by omega)]
  by_cases q2 : t.tag ≤ prev
  · rw [if_pos q2]
    have h2 : (t.tag : Int) ≤ (prev : Int) := by omega
    go_enter Tryz.func195, Tryz.ntmps195
    go_wp2_with fail
    go_ret
    exact ⟨rfl, only_alloc (only_refl _ _) _⟩
  have h2 : ¬ (t.tag : Int) ≤ (prev : Int) := by omega
  rw [if_neg q2]
  by_cases q3 : bad t
  · rw [if_pos q3]
    rw [decide_eq_false (by simpa using q3)] at HT
    go_enter Tryz.func195, Tryz.ntmps195
    go_wp2_with fail
    refine (HT.out _).mono ?_
    rintro e w5 ⟨rfl, g5⟩
    have G5 := Lib.hid (only_trans (only_alloc (only_refl w none) (.cells #[.int .u64 (t.tag : Nat), .int .i64 t.typ, .int .u64 (t.num : Nat), .string t.text, .slice la t.list.length lc] 222)) g5)
    clear g5
    go_wp2_with fail
    go_ret
    exact ⟨rfl, G5.out⟩
  rw [if_neg q3]
  rw [decide_eq_true q3] at HT
  by_cases q4 : t.typ = 2
  · have h4 : (t.typ == 2) = true := by simp [q4]
    by_cases q5 : 8 ≤ deep
    · rw [if_pos ⟨q4, q5⟩]
      have h5 : (deep : Int) ≥ 8 := by omega
      clear q4
      go_enter Tryz.func195, Tryz.ntmps195
      go_wp2_with fail
      refine (HT.out _).mono ?_
      rintro e w5 ⟨rfl, g5⟩
      have d1 := (var_new w 222 t (.slice la t.list.length lc)).grown g5
      obtain ⟨c0, c1, c2, c3, c4⟩ := d1
      have G5 := Lib.hid (only_trans (only_alloc (only_refl w none) (.cells #[.int .u64 (t.tag : Nat), .int .i64 t.typ, .int .u64 (t.num : Nat), .string t.text, .slice la t.list.length lc] 222)) g5)
      clear g5
      go_wp2_with fail
      go_ret
      exact ⟨rfl, G5.out⟩
    · rw [if_neg (by omega)]
      have h5 : ¬ (deep : Int) ≥ 8 := by omega
      clear q4
      go_enter Tryz.func195, Tryz.ntmps195
      go_wp2_with fail
      refine (HT.out _).mono ?_
      rintro e w5 ⟨rfl, g5⟩
      have d1 := (var_new w 222 t (.slice la t.list.length lc)).grown g5
      obtain ⟨c0, c1, c2, c3, c4⟩ := d1
      have G5 := Lib.hid (only_trans (only_alloc (only_refl w none) (.cells #[.int .u64 (t.tag : Nat), .int .i64 t.typ, .int .u64 (t.num : Nat), .string t.text, .slice la t.list.length lc] 222)) g5)
      clear g5
      go_wp2_with fail
      go_ret
      exact ⟨rfl, G5.out⟩
  · have h4 : (t.typ == 2) = false := by simp [q4]
    rw [if_neg (by omega)]
    go_enter Tryz.func195, Tryz.ntmps195
    go_wp2_with fail
    refine (HT.out _).mono ?_
    rintro e w5 ⟨rfl, g5⟩
    have d1 := (var_new w 222 t (.slice la t.list.length lc)).grown g5
    obtain ⟨c0, c1, c2, c3, c4⟩ := d1
    have G5 := Lib.hid (only_trans (only_alloc (only_refl w none) (.cells #[.int .u64 (t.tag : Nat), .int .i64 t.typ, .int .u64 (t.num : Nat), .string t.text, .slice la t.list.length lc] 222)) g5)
    clear g5
    go_wp2_with fail
    go_ret
    exact ⟨rfl, G5.out⟩

theorem one_lt (deep prev : Nat) (t : Tree) : oneE deep prev t < 19 := by
  unfold oneE
  split; omega
  split; omega
  split; omega
  split <;> omega

set_option maxHeartbeats 8000000 in
set_option maxRecDepth 100000 in
theorem within_any : ∀ (n : Nat) (ts : List Tree), sizeL ts ≤ n → sizeL ts ≤ 100000 → ∀ (deep : Nat), (ts = [] ∨ deep ≤ 8) → deep ≤ 9 → ∀ (w : World) (S : Nat → Prop) (v : Value), Rd w S v ts →
    Calls Tryz.prog 187 #[.int .i64 (deep : Nat), v] w fun e w' => e = .returned (.int .i64 (checkL deep 0 ts : Nat)) ∧ w.grownBy w' none := by
  intro n
  induction n with
  | zero =>
    intro ts hn _ deep _ _ w S v h
    have hl := len_size ts
    obtain rfl : ts = [] := List.length_eq_zero_iff.1 (by omega)
    obtain ⟨a, cap, rfl⟩ := h.shape
    rw [checkL_nil]
    go_enter Tryz.func187, Tryz.ntmps187
    go_wp2_with fail
    refine wp_loop_rounds 1 ?_
    rw [rounds_succ]
    go_wp2_with fail
    go_ret
    exact ⟨rfl, only_refl _ _⟩
  | succ n ih =>
    intro ts hn hb deep hd hd9 w S v h
    have hl := len_size ts
    have HR := Lib.hid h
    have IH := Lib.hid ih
    obtain ⟨a, cap, rfl⟩ := h.shape
    clear h ih
    go_enter Tryz.func187, Tryz.ntmps187
    go_wp2_with fail
    go_loopw [5, 12] (fun v q wr => ∃ (i prev : Nat), i ≤ ts.length ∧ q = .int .i64 i ∧ v = .int .u64 (prev : Nat) ∧ checkL deep 0 ts = checkL deep prev (ts.drop i) ∧ w.grownBy wr none) (fun _ q _ => ts.length - (intOf q).toNat)
    case atStart => exact ⟨0, 0, by omega, rfl, rfl, by simp, only_refl _ _⟩
    case round =>
      obtain ⟨i, prev, hi, rfl, rfl, hck, hg⟩ := hrel
      have HG := Lib.hid hg
      have HCK := Lib.hid hck
      clear hck hg
      by_cases hlt : i < ts.length
      · obtain ⟨t, ht⟩ : ∃ t, ts[i]? = some t := ⟨ts[i], List.getElem?_eq_getElem hlt⟩
        have hts := size_mem ht
        have hd8 : deep ≤ 8 := by
          rcases hd with rfl | hd
          · simp at hlt
          · exact hd
        obtain ⟨b, off, cap', lv, hv, h1, h2, h3, h4, hc, hr⟩ := (HR.out.grown HG.out).at ht
        simp only [Value.slice.injEq, true_and] at hv
        obtain ⟨rfl, rfl⟩ := hv
        obtain ⟨c0, c1, c2, c3, c4⟩ := hc
        have HL := Lib.hid hr
        have hle := len_size t.list
        obtain ⟨la, lc, rfl⟩ := hr.shape
        have hck := HCK.out
        rw [drop_cons' ht, check_one hd8] at hck
        have HCX := Lib.hid hck
        have hl1 := one_lt deep prev t
        have hl2 := checkL_lt _ t.list (deep + 1) 0 (Nat.le_refl _)
        have HIH := Lib.hid (fun h => IH.out t.list (by omega) (by omega) (deep + 1) h (by omega))
        have HIN : Hid (oneE deep prev t = 0 → (t.list = [] ∨ deep + 1 ≤ 8)) := fun h => one_in h
        have HO := Lib.hid (fun w' => one_any t deep prev la lc w' (by omega))
        have hk0 : (0 : Int) ≤ (deep : Int) := Int.natCast_nonneg _
        have HD := Lib.hid (var_new wr 222 t (.slice la t.list.length lc))
        have HGA := Lib.hid (only_alloc (only_refl wr none) (.cells #[.int .u64 (t.tag : Nat), .int .i64 t.typ, .int .u64 (t.num : Nat), .string t.text, .slice la t.list.length lc] 222))
        clear hck ht hr hd
        unfold maxLen at h2
        generalize oneE deep prev t = q at *
        generalize checkL (deep + 1) 0 t.list = q' at *
        go_wp2_with fail
        generalize wr.alloc (.cells #[.int .u64 (t.tag : Nat), .int .i64 t.typ, .int .u64 (t.num : Nat), .string t.text, .slice la t.list.length lc] 222) = wa at *
        clear c0 c1 c2 c3 c4
        refine (HO.out wa).mono ?_
        rintro e w5 ⟨rfl, g5⟩
        obtain ⟨c0, c1, c2, c3, c4⟩ := HD.out.grown g5
        have HG5 := Lib.hid (only_trans HGA.out g5)
        clear g5
        by_cases hq : q = 0
        · subst hq
          rw [if_neg (by simp)] at HCX
          have HIH5 := Lib.hid (HIH.out (HIN.out rfl) w5 S _ (HL.out.grown HG5.out))
          go_wp2_with fail
          refine HIH5.out.mono ?_
          rintro e w6 ⟨rfl, g6⟩
          obtain ⟨d0, d1, d2, d3, d4⟩ := (show Var w5 wr.heap.size t (.slice la t.list.length lc) from ⟨c0, c1, c2, c3, c4⟩).grown g6
          have HG6 := Lib.hid (only_trans (only_trans HG.out HG5.out) g6)
          clear g6 c0 c1 c2 c3 c4
          by_cases hq' : q' = 0
          · subst hq'
            rw [if_neg (by simp)] at HCX
            go_wp2_with fail
            go_roundw
            case rel => exact ⟨i + 1, t.tag, by omega, by go_num, rfl, HCX.out, HG6.out⟩
            case measure => simp [intOf]; omega
          · have hqb : ((q' : Int) != 0) = true := by rw [bne_iff_ne]; omega
            rw [if_pos hq'] at HCX
            go_wp2_with fail
            go_ret
            rw [HCX.out]
            exact ⟨rfl, HG6.out⟩
        · have hqb : ((q : Int) != 0) = true := by rw [bne_iff_ne]; omega
          rw [if_pos hq] at HCX
          go_wp2_with fail
          go_ret
          rw [HCX.out]
          exact ⟨rfl, only_trans HG.out HG5.out⟩
      · have hie : i = ts.length := by omega
        subst hie
        rw [List.drop_length, checkL_nil] at HCK
        go_wp2_with fail
        go_ret
        rw [HCK.out]
        exact ⟨rfl, HG.out⟩

theorem check_any (ts : List Tree) (w : World) (S : Nat → Prop) (v : Value) (hs : sizeL ts ≤ 100000) (h : Rd w S v ts) :
    Calls Tryz.prog 180 #[v] w fun e w' => e = .returned (.int .i64 (checkL 0 0 ts : Nat)) ∧ w.grownBy w' none := by
  have HW := Lib.hid (within_any _ ts (Nat.le_refl _) hs 0 (.inr (by omega)) (by omega) w S v h)
  obtain ⟨a, cap, rfl⟩ := h.shape
  generalize checkL 0 0 ts = q at *
  go_enter Tryz.func180, Tryz.ntmps180
  go_wp2_with fail
  refine HW.out.mono ?_
  rintro e w5 ⟨rfl, g5⟩
  have HG5 := Lib.hid g5
  clear g5
  go_wp2_with fail
  go_ret
  exact ⟨rfl, HG5.out⟩

end Go.Proofs.YtbebdaglkjhbjaaGreatDoor.ff

/-
  The developers' package field, level by level: inner, hasList, alike, the library's ContainsFunc and EqualFunc at fields; Count, Depth, Same.
-/
namespace Go.Proofs.YtbebdaglkjhbjaaGreatDoor.ff
open Go.RowKit Go.Proofs.YtbebdaglkjhbjaaGreatDoor.tr
set_option linter.unusedVariables false
set_option linter.unusedSimpArgs false

end Go.Proofs.YtbebdaglkjhbjaaGreatDoor.ff

/-
  Cloning with a list of what is left: the rows that are new, done and not yet done (package field's Clone).
-/
namespace Go.Proofs.YtbebdaglkjhbjaaGreatDoor.ff
open Go.RowKit Go.Proofs.YtbebdaglkjhbjaaGreatDoor.tr
set_option linter.unusedVariables false
set_option linter.unusedSimpArgs false

/-- A row's own cells make it readable. -/
theorem row_rd {w : World} {S : Nat → Prop} {ty : TypeId} {base : Nat} {v : Value} {ts : List Tree} {lv : Nat → Value} (h1 : w.ownsRow base ty 5 v ts.length (flat ts lv)) (h2 : ∀ i t, ts[i]? = some t → Rd w S (lv i) t.list) (hS : ∀ k, v.ownBlock = some k → S k) : Rd w S v ts := by
  rcases h1.2 with ⟨rfl, h0⟩ | ⟨g, cap, cur, rfl, hb, hg, hnc, hcm, hcs, htake⟩
  · obtain rfl : ts = [] := List.length_eq_zero_iff.1 h0
    exact .nil _ _
  · by_cases h0 : ts.length = 0
    · obtain rfl : ts = [] := List.length_eq_zero_iff.1 h0
      exact .nil _ _
    · refine .row g 0 ts.length cap ts lv rfl (by omega) hnc hcm (hS g rfl) (fun i t ht => ?_) h2
      obtain ⟨f0, f1, f2, f3, f4⟩ := flat_get ts lv i t ht
      have hc := fun j u (hj : (flat ts lv)[j]? = some u) => World.ownsRow.cells h1 (g := g) rfl j u hj
      have ha : ∀ j, (⟨g, 0, none⟩ : Addr).add j = ⟨g, j, none⟩ := fun j => by rw [show (⟨g, 0, none⟩ : Addr).add j = ⟨g, 0 + j, none⟩ from Addr.add_lit .., Nat.zero_add]
      simp only [ha] at hc
      exact ⟨by rw [Nat.zero_add]; exact hc _ _ f0, by rw [Nat.zero_add]; exact hc _ _ f1, by rw [Nat.zero_add]; exact hc _ _ f2, by rw [Nat.zero_add]; exact hc _ _ f3, by rw [Nat.zero_add]; exact hc _ _ f4⟩

/-- Rows of different types lie apart. -/
theorem rows_apart {w : World} {b b' : Nat} {e e' : TypeId} {s s' n n' : Nat} {v v' : Value} {xs xs' : List Value} (h : w.ownsRow b e s v n xs) (h' : w.ownsRow b' e' s' v' n' xs') (hne : e ≠ e') : ∀ k, v.ownBlock = some k → v'.ownBlock ≠ some k := by
  intro k hk hk'
  rcases h.2 with ⟨rfl, -⟩ | ⟨g, cap, cur, rfl, -, hg, -⟩
  · cases hk
  rcases h'.2 with ⟨rfl, -⟩ | ⟨g', cap', cur', rfl, -, hg', -⟩
  · cases hk'
  simp only [Value.ownBlock, Option.some.injEq] at hk hk'
  rw [hk] at hg
  rw [hk', hg] at hg'
  simp only [Option.some.injEq, Obj.cells.injEq] at hg'
  exact hne hg'.2.1

theorem row_less {w : World} {b : Nat} {e : TypeId} {s n g cap : Nat} {xs : List Value} (h : w.ownsRow b e s (.slice (some ⟨g, 0, none⟩) n cap) n xs) (m : Nat) (hm : m ≤ n) : w.ownsRow b e s (.slice (some ⟨g, 0, none⟩) m cap) m (xs.take (m * s)) := by
  obtain ⟨h0, h1⟩ := h
  have hms : m * s ≤ n * s := Nat.mul_le_mul_right _ hm
  refine ⟨by rw [List.length_take, h0]; omega, ?_⟩
  rcases h1 with ⟨h2, -⟩ | ⟨g', cap', cur, h2, h3, h4, h5, h6, h7, h8⟩
  · cases h2
  · simp only [Value.slice.injEq, Option.some.injEq, Addr.mk.injEq, and_true, true_and] at h2
    obtain ⟨rfl, rfl⟩ := h2
    refine .inr ⟨g, cap, cur, rfl, h3, h4, by omega, h6, h7, ?_⟩
    rw [← h8, List.take_take, Nat.min_eq_left hms]

theorem row_block {w : World} {b : Nat} {e : TypeId} {s n : Nat} {v : Value} {xs : List Value} (h : w.ownsRow b e s v n xs) (k : Nat) (hk : v.ownBlock = some k) : ∃ cap, v = .slice (some ⟨k, 0, none⟩) n cap := by
  rcases h.2 with ⟨rfl, -⟩ | ⟨g, cap, cur, rfl, -⟩
  · cases hk
  · simp only [Value.ownBlock, Option.some.injEq] at hk
    exact ⟨cap, by rw [hk]⟩

theorem row_frozen {w : World} {b : Nat} {e : TypeId} {s n : Nat} {v : Value} {xs : List Value} (h : w.ownsRow b e s v n xs) (k : Nat) (hk : v.ownBlock = some k) (j : Nat) : w.frozen? ⟨k, j, none⟩ = false := by
  obtain ⟨cap, rfl⟩ := row_block h k hk
  exact h.frozenAt j

theorem flat_set : ∀ (ts : List Tree) (lv : Nat → Value) (i : Nat) (u : Value), i < ts.length → (flat ts lv).set (i * 5 + 4) u = flat ts (fun j => if j = i then u else lv j)
  | [], lv, i, u, h => by simp at h
  | t :: r, lv, 0, u, _ => by
    simp only [flat, Nat.zero_mul, Nat.zero_add, List.cons_append, List.nil_append, List.set_cons_succ, List.set_cons_zero, if_true]
    rw [flat_congr r (fun i => if i + 1 = 0 then u else lv (i + 1)) (fun i => lv (i + 1)) (fun i _ => if_neg (by omega))]
  | t :: r, lv, i + 1, u, h => by
    simp only [flat]
    rw [show (i + 1) * 5 + 4 = 5 + (i * 5 + 4) by omega, List.set_append_right _ _ (by simp), if_neg (by omega)]
    congr 1
    have := flat_set r (fun i => lv (i + 1)) i u (by simpa using h)
    simp only [List.length_cons, List.length_nil, Nat.add_sub_cancel_left] at this ⊢
    rw [this]
    exact flat_congr r _ _ fun j _ => by
      by_cases hj : j = i
      · rw [if_pos hj, if_pos (by omega)]
      · rw [if_neg hj, if_neg (by omega)]

/-- A field's list, cloned: nothing, or one of the rows that are known. -/
def Kid (L : List (Value × List Tree)) (B1 : Nat) (u : Value) (l : List Tree) : Prop := (l = [] ∧ ∃ a c, u = .slice a 0 c) ∨ ((u, l) ∈ L ∧ ∀ k, u.ownBlock = some k → B1 ≤ k)

/-- A new row of which the first i fields have their lists cloned. -/
def Part (w : World) (B B1 : Nat) (L : List (Value × List Tree)) (v : Value) (us : List Tree) (i : Nat) : Prop :=
  ∃ lv : Nat → Value, w.ownsRow B 222 5 v us.length (flat us lv) ∧ (∀ j t, us[j]? = some t → j < i → Kid L B1 (lv j) t.list) ∧ (∀ j t, us[j]? = some t → i ≤ j → Rd w (fun k => k < B) (lv j) t.list)

section
variable {w w' : World} {B B1 : Nat} {L L' : List (Value × List Tree)} {v : Value} {us : List Tree} {i : Nat} {T : Nat → Prop}

theorem Part.kept (h : Part w B B1 L v us i) (g : Chg T w w') (hT : ∀ k, T k → B ≤ k) (hv : ∀ k, v.ownBlock = some k → ¬ T k) (hL : ∀ x ∈ L, x ∈ L') : Part w' B B1 L' v us i := by
  obtain ⟨lv, h1, h2, h3⟩ := h
  refine ⟨lv, g.ownsRow h1 hv, fun j t hj hi => ?_, fun j t hj hi => (h3 j t hj hi).kept g (fun k hk e => by have := hT k e; omega)⟩
  rcases h2 j t hj hi with k1 | ⟨k1, k2⟩
  · exact .inl k1
  · exact .inr ⟨hL _ k1, k2⟩
theorem Part.of_own {S : Nat → Prop} (h : OwnF 222 B S w v us) (hS : ∀ k, S k → k < B) : Part w B B1 L v us 0 := by
  obtain ⟨lv, h1, h2, -, -⟩ := h
  exact ⟨lv, h1, fun j t _ hi => by omega, fun j t hj _ => (h2 j t hj).mono fun k _ hk => hS k hk⟩
theorem Part.lt (h : Part w B B1 L v us i) : ∀ k, v.ownBlock = some k → B ≤ k ∧ k < w.heap.size := by
  obtain ⟨lv, h1, -⟩ := h
  exact World.ownsRow.lt h1
end

def Far (p q : Value × List Tree) : Prop := ∀ k, p.1.ownBlock = some k → q.1.ownBlock ≠ some k
theorem Far.symm {p q : Value × List Tree} (h : Far p q) : Far q p := fun k hq hp => h k hp hq

structure Sta (w : World) (B B1 : Nat) (ps ds : List (Value × List Tree)) : Prop where
  pend : ∀ x ∈ ps, Part w B B1 (ps ++ ds) x.1 x.2 0
  done : ∀ x ∈ ds, Part w B B1 (ps ++ ds) x.1 x.2 x.2.length
  far : (ps ++ ds).Pairwise Far

structure Mid (w : World) (B B1 : Nat) (qs ds : List (Value × List Tree)) (v : Value) (us : List Tree) (i : Nat) : Prop where
  pend : ∀ x ∈ qs, Part w B B1 (qs ++ (v, us) :: ds) x.1 x.2 0
  cur : Part w B B1 (qs ++ (v, us) :: ds) v us i
  done : ∀ x ∈ ds, Part w B B1 (qs ++ (v, us) :: ds) x.1 x.2 x.2.length
  far : (qs ++ (v, us) :: ds).Pairwise Far

section
variable {w w' w5 : World} {B B1 : Nat} {qs ps ds : List (Value × List Tree)} {v : Value} {us : List Tree} {i : Nat} {T : Nat → Prop}

theorem Sta.mid (h : Sta w B B1 (qs ++ [(v, us)]) ds) : Mid w B B1 qs ds v us 0 := by
  have e : qs ++ [(v, us)] ++ ds = qs ++ (v, us) :: ds := by simp
  obtain ⟨h1, h2, h3⟩ := h
  rw [e] at h1 h2 h3
  exact ⟨fun x hx => h1 x (by simp [hx]), h1 (v, us) (by simp), h2, h3⟩
theorem Mid.sta (h : Mid w B B1 qs ds v us us.length) : Sta w B B1 qs ((v, us) :: ds) :=
  ⟨h.pend, fun x hx => by
    rcases List.mem_cons.1 hx with rfl | hx
    · exact h.cur
    · exact h.done x hx, h.far⟩

theorem Mid.lt (h : Mid w B B1 qs ds v us i) : ∀ x ∈ qs ++ (v, us) :: ds, ∀ k, x.1.ownBlock = some k → B ≤ k ∧ k < w.heap.size := fun x hx => by
  rcases List.mem_append.1 hx with hx | hx
  · exact (h.pend x hx).lt
  · rcases List.mem_cons.1 hx with rfl | hx
    · exact h.cur.lt
    · exact (h.done x hx).lt
theorem Mid.row (h : Mid w B B1 qs ds v us i) : ∀ x ∈ qs ++ (v, us) :: ds, ∃ xs, w.ownsRow B 222 5 x.1 x.2.length xs := fun x hx => by
  rcases List.mem_append.1 hx with hx | hx
  · obtain ⟨lv, h1, -⟩ := h.pend x hx; exact ⟨_, h1⟩
  · rcases List.mem_cons.1 hx with rfl | hx
    · obtain ⟨lv, h1, -⟩ := h.cur; exact ⟨_, h1⟩
    · obtain ⟨lv, h1, -⟩ := h.done x hx; exact ⟨_, h1⟩
theorem Mid.kept (h : Mid w B B1 qs ds v us i) (g : Chg T w w') (hT : ∀ k, T k → B ≤ k) (hf : ∀ x ∈ qs ++ (v, us) :: ds, ∀ k, x.1.ownBlock = some k → ¬ T k) : Mid w' B B1 qs ds v us i :=
  ⟨fun x hx => (h.pend x hx).kept g hT (hf x (by simp [hx])) (fun _ k => k), h.cur.kept g hT (hf (v, us) (by simp)) (fun _ k => k), fun x hx => (h.done x hx).kept g hT (hf x (by simp [hx])) (fun _ k => k), h.far⟩
theorem Mid.grown (h : Mid w B B1 qs ds v us i) (g : w.grownBy w' none) : Mid w' B B1 qs ds v us i :=
  h.kept (T := fun _ => False) (Chg.of_none g) (fun _ e => e.elim) (fun _ _ _ _ e => e)

/-- What the i-th field's list is. -/
theorem Mid.at (h : Mid w B B1 qs ds v us i) {t : Tree} (ht : us[i]? = some t) : ∃ b cap lvi, v = .slice (some ⟨b, 0, none⟩) us.length cap ∧ us.length ≤ cap ∧ cap ≤ maxLen ∧ Rd w (fun k => k < B) lvi t.list ∧ w.cell? ⟨b, i * 5 + 4, none⟩ = some lvi ∧ w.frozen? ⟨b, i * 5 + 4, none⟩ = false ∧ B ≤ b ∧ b < w.heap.size := by
  obtain ⟨lv, h1, h2, h3⟩ := h.cur
  have hi : i < us.length := (List.getElem?_eq_some_iff.1 ht).1
  have hx := h1
  rcases hx.2 with ⟨rfl, h0⟩ | ⟨g, cap, cur, rfl, k1, k2, k3, k4, k5, k6⟩
  · omega
  · refine ⟨g, cap, lv i, rfl, k3, k4, h3 i t ht (Nat.le_refl _), ?_, h1.frozenAt _, k1, (h1.lt g rfl).2⟩
    rw [h1.cellAt _ (by omega)]
    exact (flat_get us lv i t ht).2.2.2.2

/-- The i-th field's list is cloned and put there. -/
theorem Mid.step (h : Mid w B B1 qs ds v us i) {t : Tree} (ht : us[i]? = some t) {b cap : Nat} (hv : v = .slice (some ⟨b, 0, none⟩) us.length cap) (g : w.grownBy w5 none) {u : Value} {S : Nat → Prop} (ho : OwnF 222 w.heap.size S w5 u t.list) (hS : ∀ k, S k → k < B) (hB : B ≤ w.heap.size) (hB1 : B1 ≤ w.heap.size) :
    (t.list = [] → Mid (w5.setCell ⟨b, i * 5 + 4, none⟩ u) B B1 qs ds v us (i + 1)) ∧ Mid (w5.setCell ⟨b, i * 5 + 4, none⟩ u) B B1 (qs ++ [(u, t.list)]) ds v us (i + 1) := by
  have hlt := h.lt
  have h5 := h.grown g
  have hi : i < us.length := (List.getElem?_eq_some_iff.1 ht).1
  have hb : B ≤ b ∧ b < w.heap.size := hlt (v, us) (by simp) b (by rw [hv]; rfl)
  have gs : Chg (fun k => k = b) w5 (w5.setCell ⟨b, i * 5 + 4, none⟩ u) := Chg.set_one w5 b _ u
  have hT : ∀ k, k = b → B ≤ k := fun k e => by omega
  have hown : v.ownBlock = some b := by rw [hv]; rfl
  have hfq : ∀ x ∈ qs, ∀ k, x.1.ownBlock = some k → ¬ k = b := fun x hx k hk e => by
    have := (List.pairwise_append.1 h5.far).2.2 x hx (v, us) (by simp) k hk
    exact this (by rw [e]; exact hown)
  have hfd : ∀ x ∈ ds, ∀ k, x.1.ownBlock = some k → ¬ k = b := fun x hx k hk e => by
    have h1 := (List.pairwise_append.1 h5.far).2.1
    have := (List.pairwise_cons.1 h1).1 x hx b hown
    exact this (by rw [← e]; exact hk)
  have hucur : ∀ (L : List (Value × List Tree)), (∀ x ∈ qs ++ (v, us) :: ds, x ∈ L) → Kid L B1 u t.list → Part (w5.setCell ⟨b, i * 5 + 4, none⟩ u) B B1 L v us (i + 1) := fun L hL hk => by
    obtain ⟨lv, h1, h2, h3⟩ := h5.cur
    rw [hv] at h1
    have h1' := (World.ownsRow.stored h1 (i * 5 + 4) u).1
    rw [flat_set us lv i u hi, ← hv] at h1'
    refine ⟨_, h1', fun j x hj hji => ?_, fun j x hj hji => ?_⟩
    · show Kid L B1 (if j = i then u else lv j) x.list
      by_cases e : j = i
      · subst e
        rw [ht] at hj
        simp only [Option.some.injEq] at hj
        subst hj
        rw [if_pos rfl]; exact hk
      · rw [if_neg e]
        rcases h2 j x hj (by omega) with k1 | ⟨k1, k2⟩
        · exact .inl k1
        · exact .inr ⟨hL _ k1, k2⟩
    · show Rd _ _ (if j = i then u else lv j) x.list
      rw [if_neg (by omega)]
      exact (h3 j x hj (by omega)).kept gs (fun k hk e => by omega)
  have hub : ∀ k, u.ownBlock = some k → w.heap.size ≤ k := fun k hk => (ho.lt k hk).1
  constructor
  · intro h0
    refine ⟨fun x hx => (h5.pend x hx).kept gs hT (hfq x hx) (fun _ k => k), hucur _ (fun _ k => k) (.inl ⟨h0, ?_⟩), fun x hx => (h5.done x hx).kept gs hT (hfd x hx) (fun _ k => k), h5.far⟩
    have := ho.rd.shape
    rw [h0] at this
    exact this
  · have hLL : ∀ x ∈ qs ++ (v, us) :: ds, x ∈ (qs ++ [(u, t.list)]) ++ (v, us) :: ds := fun x hx => by
      rcases List.mem_append.1 hx with hx | hx
      · simp [hx]
      · exact List.mem_append.2 (.inr hx)
    have hnew : Part (w5.setCell ⟨b, i * 5 + 4, none⟩ u) B B1 ((qs ++ [(u, t.list)]) ++ (v, us) :: ds) u t.list 0 := by
      have ho2 := ho.kept gs (fun k hk e => by have := hS k hk; omega) (fun k hk e => by have := hub k hk; omega)
      obtain ⟨lv, k1, k2, k3, k4⟩ := ho2
      exact ⟨lv, World.ownsRow.mono k1 hB, fun j x _ hj => by omega, fun j x hj _ => (k2 j x hj).mono fun k _ hk => hS k hk⟩
    have hfar : ∀ x ∈ qs ++ (v, us) :: ds, Far x (u, t.list) := fun x hx k hk hk' => by
      have h1 := (hlt x hx k hk).2
      have h2 := hub k hk'
      omega
    refine ⟨fun x hx => ?_, hucur _ hLL (.inr ⟨by simp, fun k hk => by have := hub k hk; omega⟩), fun x hx => (h5.done x hx).kept gs hT (hfd x hx) hLL, ?_⟩
    · rcases List.mem_append.1 hx with hx | hx
      · exact (h5.pend x hx).kept gs hT (hfq x hx) hLL
      · obtain rfl : x = (u, t.list) := by simpa using hx
        exact hnew
    · obtain ⟨p1, p2, p3⟩ := List.pairwise_append.1 h5.far
      refine List.pairwise_append.2 ⟨List.pairwise_append.2 ⟨p1, List.pairwise_singleton _ _, fun x hx y hy => ?_⟩, p2, fun x hx y hy => ?_⟩
      · obtain rfl : y = (u, t.list) := by simpa using hy
        exact hfar x (by simp [hx])
      · rcases List.mem_append.1 hx with hx | hx
        · exact p3 x hx y hy
        · obtain rfl : x = (u, t.list) := by simpa using hx
          exact (hfar y (List.mem_append.2 (.inr hy))).symm

/-- At the end all that the clone reaches is new. -/
theorem Sta.final (h : Sta w B B1 [] ds) {cv : Value} {ts : List Tree} (hm : (cv, ts) ∈ ds) (hc : ∀ k, cv.ownBlock = some k → k < B1) (hB : B ≤ B1) :
    ∃ S', OwnF 222 B S' w cv ts ∧ (∀ k, S' k → B ≤ k) ∧ (∀ k, S' k → ∀ j, w.frozen? ⟨k, j, none⟩ = false) := by
  have hd := h.done
  rw [List.nil_append] at hd
  have key : ∀ (n : Nat) (u : Value) (l : List Tree), sizeL l ≤ n → (u, l) ∈ ds → (∀ k, u.ownBlock = some k → B1 ≤ k) → Rd w (fun k => B1 ≤ k ∧ k < w.heap.size ∧ ∀ j, w.frozen? ⟨k, j, none⟩ = false) u l := by
    intro n
    induction n with
    | zero =>
      intro u l hs hu hk
      obtain ⟨lv, h1, h2, -⟩ := hd _ hu
      exact row_rd h1 (fun i t ht => by have := size_mem ht; omega) (fun k e => ⟨hk k e, (h1.lt k e).2, row_frozen h1 k e⟩)
    | succ n ih =>
      intro u l hs hu hk
      obtain ⟨lv, h1, h2, -⟩ := hd _ hu
      refine row_rd h1 (fun i t ht => ?_) (fun k e => ⟨hk k e, (h1.lt k e).2, row_frozen h1 k e⟩)
      have h3 := size_mem ht
      rcases h2 i t ht (List.getElem?_eq_some_iff.1 ht).1 with ⟨k1, a, c, k2⟩ | ⟨k1, k2⟩
      · rw [k1, k2]; exact .nil a c
      · exact ih _ _ (by omega) k1 k2
  obtain ⟨lv, h1, h2, -⟩ := hd _ hm
  refine ⟨fun k => B1 ≤ k ∧ k < w.heap.size ∧ ∀ j, w.frozen? ⟨k, j, none⟩ = false, ⟨lv, h1, fun i t ht => ?_, fun k hk => hk.2.1, fun k hk hs => ?_⟩, fun k hk => by omega, fun k hk => hk.2.2⟩
  · rcases h2 i t ht (List.getElem?_eq_some_iff.1 ht).1 with ⟨k1, a, c, k2⟩ | ⟨k1, k2⟩
    · rw [k1, k2]; exact .nil a c
    · exact key _ _ _ (Nat.le_refl _) k1 k2
  · have := hc k hk
    omega
end

/-- What is still to do. -/
def wt : List (Value × List Tree) → Nat
  | [] => 0
  | p :: r => 1 + sizeL p.2 + wt r
theorem wt_append (a b : List (Value × List Tree)) : wt (a ++ b) = wt a + wt b := by
  induction a with
  | nil => simp [wt]
  | cons p r ih => rw [List.cons_append, wt, wt, ih]; omega
theorem wt_len (a : List (Value × List Tree)) : a.length ≤ wt a := by
  induction a with
  | nil => simp
  | cons p r ih => rw [List.length_cons, wt]; omega

end Go.Proofs.YtbebdaglkjhbjaaGreatDoor.ff

/-
  The library's slices.Clone of fields; package field's Clone, OfNum, OfList.
-/
namespace Go.Proofs.YtbebdaglkjhbjaaGreatDoor.ff
open Go.RowKit Go.Proofs.YtbebdaglkjhbjaaGreatDoor.tr
set_option linter.unusedVariables false
set_option linter.unusedSimpArgs false

theorem Tryz.infoL : (Tryz.prog.info? 218).map (fun i => (i.zero, i.size, i.bytes)) = some (some (.slice none 0 0), 1, 24) := by kernel_rfl

/-- An empty row that is there, of the call's own. -/
theorem OwnF_made (w : World) (ty : TypeId) (S : Nat → Prop) (base : Nat) (hb : base ≤ w.heap.size) (hS : ∀ k, S k → k < w.heap.size) : OwnF ty base S (w.alloc (.cells #[] ty)) (.slice (some ⟨w.heap.size, 0, none⟩) 0 0) [] :=
  ⟨fun _ => .nilIface, by have := World.ownsRow_made (base := base) (size := 5) (e := ty) w #[] 0 hb (Nat.zero_le _) (by simp); simpa [flat] using this, fun i t h => by simp at h, fun k hk => by have := hS k hk; simp; omega, fun k e hk => by simp [Value.ownBlock] at e; have := hS k hk; omega⟩

set_option maxHeartbeats 2000000 in
set_option maxRecDepth 100000 in
theorem sclone_any (ts : List Tree) (w : World) (S : Nat → Prop) (v : Value) (hs : sizeL ts ≤ 100000) (h : Rd w S v ts) (hS : ∀ k, S k → k < w.heap.size) :
    Calls Tryz.prog 191 #[v] w fun e w' => ∃ v', e = .returned v' ∧ OwnF 222 w.heap.size S w' v' ts ∧ w.grownBy w' none := by
  have hl := len_size ts
  have HR := Lib.hid h
  have q22 : ∀ (w : World) (a : Option Addr) (n c n' c' : Nat), (binOp .eql 218 (.slice a n c) (.slice none n' c')).run Tryz.prog w = .ok (.bool a.isNone) w := fun w a n c n' c' => Lib.run_eql_slice_nil w _ _ a n c n' c' Tryz.underlying218
  obtain ⟨a, cap, rfl⟩ := h.shape
  clear h
  cases a with
  | none =>
    have h0 : ts = [] := by
      generalize hx : (Value.slice none ts.length cap) = x at HR
      cases HR.out with
      | nil a cap => rfl
      | row => cases hx
    have HSH := Lib.hid hS
    clear hS
    subst h0
    go_enter Tryz.func191, Tryz.ntmps191
    go_wp2_with fail
    go_ret
    exact ⟨_, rfl, (OwnF.nil _ _ _).more (fun k e => e.elim) HSH.out (fun k e => by simp [Value.ownBlock] at e), only_refl _ _⟩
  | some ad =>
    have HSH := Lib.hid hS
    have HOM := Lib.hid (OwnF_made w 222 S w.heap.size (Nat.le_refl _) hS)
    have HRA := Lib.hid (HR.out.grown (only_alloc (only_refl w none) (.cells #[] 222)))
    clear hS
    go_enter Tryz.func191, Tryz.ntmps191
    go_wp2_with (at_builtin; refine wpList_append_any rfl _ _ _ _ rfl _ Tryz.underlying218 Tryz.infoF rfl w.heap.size S S _ [] ts rfl HOM.out _ rfl HRA.out ?c1 ?c2 ?c3 ?c4 ?_)
    case c1 => intro k hk; have := HSH.out k hk; simp; omega
    case c2 => intro k hk hk2; have h1 := HSH.out k hk2; have h2 : w.heap.size = k := Option.some.inj hk; omega
    case c3 => simp; omega
    case c4 => simp
    intro v5 w5 ho5 hg5
    have HG5 := Lib.hid (below_to_none (below_of_only (below_of_none (only_alloc (only_refl w none) (.cells #[] 222))) hg5 (by simp) (fun k e => by simp [Value.ownBlock] at e; omega)))
    have HO5 := Lib.hid (ho5.more (T := S) (fun k hk => by first | exact hk | exact Or.elim hk id id) (fun k hk => by have h1 := HG5.out.size; have h2 := HSH.out k hk; omega) (fun k e hk => by have h1 := (ho5.lt k e).1; have h2 := HSH.out k hk; omega))
    try rw [List.nil_append] at HO5
    clear ho5 hg5
    go_wp2_with fail
    go_ret
    exact ⟨_, rfl, HO5.out, HG5.out⟩

set_option maxHeartbeats 2000000 in
set_option maxRecDepth 100000 in
theorem clone_any (ts : List Tree) (w : World) (S : Nat → Prop) (v : Value) (hs : sizeL ts ≤ 100000) (h : Rd w S v ts) :
    Calls Tryz.prog 185 #[v] w fun e w' => ∃ v' S', e = .returned v' ∧ OwnF 222 w.heap.size S' w' v' ts ∧ (∀ k, S' k → w.heap.size ≤ k) ∧ (∀ k, S' k → ∀ j, w'.frozen? ⟨k, j, none⟩ = false) ∧ w.grownBy w' none := by
  have HC := Lib.hid (sclone_any ts w (fun k => k < w.heap.size) v hs (h.tight.mono (fun k _ hk => hk.2)) (fun k hk => hk))
  obtain ⟨a, cap, rfl⟩ := h.shape
  clear h
  go_enter Tryz.func185, Tryz.ntmps185
  go_wp2_with fail
  refine HC.out.mono ?_
  rintro e w1 ⟨cv, rfl, o1, g1⟩
  obtain ⟨ca, cc, rfl⟩ := o1.rd.shape
  have HO1 := Lib.hid o1
  have HG1 := Lib.hid g1
  clear o1 g1
  go_wp2_with fail
  have hB1 : w.heap.size ≤ w1.heap.size := HG1.out.size
  obtain ⟨iL, hi0, hx⟩ := Option.map_eq_some_iff.1 Tryz.infoL
  simp only [Prod.mk.injEq] at hx
  obtain ⟨hi1, hi2, hi3⟩ := hx
  have HCB : Hid (∀ k, (Value.slice ca ts.length cc).ownBlock = some k → k < w1.heap.size) := fun k hk => (HO1.out.lt k hk).2
  go_loopg [4] (1 + sizeL ts) (fun gg lf wr => ∃ ps ds : List (Value × List Tree), wt ps ≤ gg ∧ wt ps ≤ 1 + sizeL ts ∧ wr.ownsRow w.heap.size 218 1 lf ps.length (ps.map Prod.fst) ∧ Sta wr w.heap.size w1.heap.size ps ds ∧ (Value.slice ca ts.length cc, ts) ∈ ps ++ ds ∧ w1.heap.size ≤ wr.heap.size ∧ w.grownBy wr none)
  case atStart =>
    refine ⟨[(.slice ca ts.length cc, ts)], [], by simp [wt], by simp [wt], World.ownsRow_lit w1 #[.slice ca ts.length cc] 1 hB1 (by unfold maxLen; omega) rfl, ⟨fun x hx => ?_, fun x hx => by simp at hx, List.pairwise_singleton _ _⟩, by simp, by simp, only_alloc HG1.out _⟩
    obtain rfl : x = (Value.slice ca ts.length cc, ts) := by simpa using hx
    exact Part.of_own (HO1.out.grown (only_alloc (only_refl w1 none) _)) (fun k hk => hk)
  case round =>
    obtain ⟨ps, ds, hgk, hwt, hown, hst, hmem, hz1, hg⟩ := hrel
    have HL := Lib.hid hown
    have HST := Lib.hid hst
    have HME := Lib.hid hmem
    have HG := Lib.hid hg
    clear hown hst hmem hg
    rcases List.eq_nil_or_concat ps with h0 | ⟨qs, ⟨v, us⟩, h0⟩
    · subst h0
      obtain ⟨la, lc, hlf⟩ : ∃ a c, u4 = .slice a 0 c := by
        rcases HL.out.2 with ⟨h1, -⟩ | ⟨g, cap, cur, h1, -⟩
        · exact ⟨_, _, h1⟩
        · exact ⟨_, _, h1⟩
      subst hlf
      go_wp2_with fail
      go_ret
      obtain ⟨S', k1, k2, k3⟩ := HST.out.final (by simpa using HME.out) HCB.out hB1
      exact ⟨_, S', rfl, k1, k2, k3, HG.out⟩
    · rw [List.concat_eq_append] at h0
      subst h0
      have hpl : (qs ++ [(v, us)]).length = qs.length + 1 := by simp
      have hql := wt_len qs
      have hwq : wt (qs ++ [(v, us)]) = wt qs + (1 + sizeL us) := by rw [wt_append]; simp [wt]
      have hL1 : wr.ownsRow w.heap.size 218 1 u4 (qs.length + 1) (qs.map Prod.fst ++ [v]) := by have := HL.out; rw [hpl] at this; simpa using this
      obtain ⟨g, cap2, rfl, hg1, hcap1, hcap2⟩ : ∃ g cap, u4 = .slice (some ⟨g, 0, none⟩) (qs.length + 1) cap ∧ w.heap.size ≤ g ∧ qs.length + 1 ≤ cap ∧ cap ≤ maxLen := by
        rcases hL1.2 with ⟨-, h1⟩ | ⟨g', cap', cur, h1, h2, -, h3, h4, -⟩
        · omega
        · exact ⟨g', cap', h1, h2, h3, h4⟩
      have hcell : wr.cell? ⟨g, qs.length, none⟩ = some v := by
        rw [hL1.cellAt qs.length (by omega), List.getElem?_append_right (by simp)]
        simp
      have hL2 := row_less hL1 qs.length (by omega)
      rw [Nat.mul_one, List.take_append_of_le_length (by simp), List.take_of_length_le (by simp)] at hL2
      have hM0 := HST.out.mid
      have HM0 := Lib.hid hM0
      have HL2 := Lib.hid hL2
      have HME0 : Hid ((Value.slice ca ts.length cc, ts) ∈ qs ++ (v, us) :: ds) := by have := HME.out; simp only [List.append_assoc, List.cons_append, List.nil_append] at this; exact this
      obtain ⟨va, vc, hv⟩ : ∃ a c, v = .slice a us.length c := by
        obtain ⟨lv, h1, -⟩ := hM0.cur
        rcases h1.2 with ⟨h1, h2⟩ | ⟨g', cap', cur, h1, -⟩
        · exact ⟨none, 0, by rw [h1, h2]⟩
        · exact ⟨_, _, h1⟩
      subst hv
      have hq1 : qs.length ≤ 100000 := by omega
      have hu1 : sizeL us ≤ 100000 := by omega
      have hul := len_size us
      clear hM0 hL2 hL1 hpl HST HL HME
      unfold maxLen at hcap2
      have hq0 : (0 : Int) ≤ (qs.length : Int) := Int.natCast_nonneg _
      rw [hwq] at hgk hwt
      clear hwq
      go_wp2_with fail
      go_loopg [4, 27] us.length (fun gg lf q wq => ∃ (i : Nat) (rs : List (Value × List Tree)), i ≤ us.length ∧ us.length - i ≤ gg ∧ q = .int .i64 i ∧ wq.ownsRow w.heap.size 218 1 lf rs.length (rs.map Prod.fst) ∧ Mid wq w.heap.size w1.heap.size rs ds (.slice va us.length vc) us i ∧
        wt rs ≤ wt qs + sizeL (us.take i) ∧ (Value.slice ca ts.length cc, ts) ∈ rs ++ (Value.slice va us.length vc, us) :: ds ∧ w1.heap.size ≤ wq.heap.size ∧ w.grownBy wq none)
      case atStart => exact ⟨0, qs, Nat.zero_le _, by omega, rfl, HL2.out, HM0.out, by simp [sizeL], HME0.out, hz1, HG.out⟩
      case round =>
        clear HL2 HM0 HME0 HG hcell hz1
        obtain ⟨i, rs, hi, hgi, rfl, hown, hmid, hw, hme, hz1, hg⟩ := hrel
        have HL := Lib.hid hown
        have HM := Lib.hid hmid
        have HE := Lib.hid hme
        have HG := Lib.hid hg
        have HW := Lib.hid hw
        have hsz := hg.size
        clear hown hme hg
        by_cases hlt : i < us.length
        · obtain ⟨t, ht⟩ : ∃ t, us[i]? = some t := ⟨us[i], List.getElem?_eq_getElem hlt⟩
          have hts := size_mem ht
          have hle := len_size t.list
          have hsn : sizeL (us.take (i + 1)) = sizeL (us.take i) + (sizeL t.list + 1) := by rw [take_snoc ht, sizeL_append, sizeL_cons]; simp [sizeL]
          have hs2 := sizeL_take (ts := us) (i + 1)
          have hrl := wt_len rs
          have hrs : rs.length ≤ 300000 := by omega
          obtain ⟨b, bc, lvi, hv, hb1, hb2, hrd, hcl, hfz, hbB, hbs⟩ := hmid.at ht
          simp only [Value.slice.injEq, true_and] at hv
          obtain ⟨rfl, rfl⟩ := hv
          have HC5 := Lib.hid (sclone_any t.list wr (fun k => k < w.heap.size) lvi (by omega) hrd (fun k hk => by omega))
          obtain ⟨ia, ic, rfl⟩ := hrd.shape
          have HT := Lib.hid ht
          have HSN := Lib.hid hsn
          clear hmid hrd ht hsn hw
          unfold maxLen at hb2
          have hw := HW.out
          go_wp2_with fail
          refine HC5.out.mono ?_
          rintro e w5 ⟨u, rfl, o5, g5⟩
          have c5 : w5.cell? ⟨b, i * 5 + 4, none⟩ = some (.slice ia t.list.length ic) := by rw [World.cell?_of_block (g5.block b hbs (by simp))]; exact hcl
          have f5 : w5.frozen? ⟨b, i * 5 + 4, none⟩ = false := (World.frozen?_of_block (g5.block b hbs (by simp))).trans hfz
          have hst := HM.out.step HT.out rfl g5 o5 (fun k hk => hk) hsz hz1
          have hap : ∀ k, u4.ownBlock = some k → k ≠ b := fun k hk e => by
            obtain ⟨xs, hx⟩ := HM.out.row (Value.slice (some ⟨b, 0, none⟩) us.length vc, us) (by simp)
            exact rows_apart HL.out hx (by decide) k hk (by rw [e]; rfl)
          have HL6 := Lib.hid ((Chg.set_one w5 b (i * 5 + 4) u).ownsRow ((Chg.of_none (S := fun _ => False) g5).ownsRow HL.out (fun _ _ e => e)) hap)
          have HG6 := Lib.hid (only_setCell (only_trans HG.out g5) (p := ⟨b, i * 5 + 4, none⟩) (.inr hbB) u)
          have hz5 := g5.size
          obtain ⟨xa, xc, rfl⟩ := o5.rd.shape
          have c6 : (w5.setCell ⟨b, i * 5 + 4, none⟩ (.slice xa t.list.length xc)).cell? ⟨b, i * 5 + 4, none⟩ = some (.slice xa t.list.length xc) := by apply World.cell?_setCell_same; exact c5
          have HST := Lib.hid hst
          clear hst o5 g5 hcl hfz hap
          by_cases h0 : 0 < t.list.length
          · have h1 : (t.list.length : Int) > 0 := by omega
            have HLa := Lib.hid (World.ownsRow.alloc HL6.out (.cells #[.slice xa t.list.length xc] 218))
            have HGa := Lib.hid (only_alloc HG6.out (.cells #[.slice xa t.list.length xc] 218))
            have HMa := Lib.hid (HST.out.2.grown (only_alloc (only_refl _ none) (.cells #[.slice xa t.list.length xc] 218)))
            go_wp2_with (at_builtin; refine wpList_append_own _ rfl _ _ 228 rfl w.heap.size 218 iL (.slice none 0 0) 1 24 Tryz.underlying228 hi0 hi1 hi2 hi3 rfl (by decide) _ rs.length (rs.map Prod.fst) rfl HLa.out ⟨w5.heap.size, 0, none⟩ 1 1 [.slice xa t.list.length xc] rfl rfl ?c1 ?c2 ?c3 ?c4 ?c5 ?_)
            case c1 =>
              intro j u hj
              have e : (⟨w5.heap.size, 0, none⟩ : Addr).add j = ⟨(w5.setCell ⟨b, i * 5 + 4, none⟩ (.slice xa t.list.length xc)).heap.size, j, none⟩ := by
                rw [show (⟨w5.heap.size, 0, none⟩ : Addr).add j = ⟨w5.heap.size, 0 + j, none⟩ from Addr.add_lit .., Nat.zero_add]
                simp [World.setCell]
              rw [e, cell_new]
              simpa using hj
            case c2 =>
              intro u hu
              obtain rfl : u = Value.slice xa t.list.length xc := by simpa using hu
              rfl
            case c3 => unfold maxLen; omega
            case c4 => omega
            case c5 => simp; omega
            intro v7 w7 ho7 hg7 _
            have HC7 : Hid (Chg (fun k => u4.ownBlock = some k) _ w7) := Chg.of_grown hg7 (fun k e => .inl e)
            have HO7 : Hid (w7.ownsRow w.heap.size 218 1 v7 (rs ++ [(Value.slice xa t.list.length xc, t.list)]).length ((rs ++ [(Value.slice xa t.list.length xc, t.list)]).map Prod.fst)) := by
              show w7.ownsRow _ _ _ _ _ _
              have := ho7
              simpa using this
            have HM7 := Lib.hid (HMa.out.kept HC7.out (fun k hk => (HLa.out.lt k hk).1) (fun x hx k hk e => by
              obtain ⟨xs, hx2⟩ := HMa.out.row x hx
              exact rows_apart HLa.out hx2 (by decide) k e hk))
            have HG7 := Lib.hid (below_to_none (below_of_only (below_of_none HGa.out) hg7 HGa.out.size (fun k e => (HLa.out.lt k e).1)))
            have hz7 := hg7.size
            clear ho7 hg7
            go_wp2_with fail
            go_roundg (us.length - (i + 1))
            case measure => omega
            case rel =>
              exact ⟨i + 1, rs ++ [(Value.slice xa t.list.length xc, t.list)], by omega, by omega, by go_num, HO7.out, HM7.out, by rw [HSN.out, wt_append]; have := HW.out; simp [wt]; omega, by
                have := HE.out
                rcases List.mem_append.1 this with h | h
                · simp [h]
                · exact List.mem_append.2 (.inr h), by simp [World.setCell] at hz7; omega, HG7.out⟩
          · have h1 : ¬ (t.list.length : Int) > 0 := by omega
            go_wp2_with fail
            go_roundg (us.length - (i + 1))
            case measure => omega
            case rel =>
              have h2 : t.list = [] := List.length_eq_zero_iff.1 (by omega)
              exact ⟨i + 1, rs, by omega, by omega, by go_num, HL6.out, HST.out.1 h2, by rw [HSN.out]; have := HW.out; omega, HE.out, by simp [World.setCell]; omega, HG6.out⟩
        · have hie : i = us.length := by omega
          subst hie
          rw [List.take_length] at HW
          have hw := HW.out
          go_wp2_with fail
          go_roundg (wt rs)
          case measure => omega
          case rel => exact ⟨rs, (Value.slice va us.length vc, us) :: ds, Nat.le_refl _, by omega, HL.out, HM.out.sta, HE.out, hz1, HG.out⟩

theorem heap_set {w : World} {b i : Nat} {v : Value} {c : Array Value} {t : TypeId} {fz : Nat × Nat} (h : w.heap[b]? = some (.cells c t fz)) : (w.setCell ⟨b, i, none⟩ v).heap[b]? = some (.cells (c.setIfInBounds i v) t fz) := by
  simp [World.setCell, Array.getElem?_modify, h]

theorem _root_.Go.Proofs.YtbebdaglkjhbjaaGreatDoor.tr.OwnF.lower {w : World} {S : Nat → Prop} {ty : TypeId} {base base' : Nat} {v : Value} {ts : List Tree} (h : OwnF ty base S w v ts) (hb : base' ≤ base) : OwnF ty base' S w v ts := by
  obtain ⟨lv, ⟨h0, h1⟩, h2⟩ := h
  refine ⟨lv, ⟨h0, ?_⟩, h2⟩
  rcases h1 with h1 | ⟨g, cap, cur, h3, h4, h5⟩
  · exact .inl h1
  · exact .inr ⟨g, cap, cur, h3, Nat.le_trans hb h4, h5⟩

theorem num_any (a b : Nat) (w : World) : Calls Tryz.prog 175 #[.int .u64 (a : Nat), .int .u64 (b : Nat)] w fun e w' => e = .returned (.agg #[.int .u64 (a : Nat), .int .i64 0, .int .u64 (b : Nat), .string ⟨#[]⟩, .slice none 0 0]) ∧ w.grownBy w' none := by
  go_enter Tryz.func175, Tryz.ntmps175
  go_wp2_with fail
  exact bodyPost_ret (results_cell_row rfl _ _ w.heap.size 222 #[.int .u64 (a : Nat), .int .i64 0, .int .u64 (b : Nat), .string ⟨#[]⟩, .slice none 0 0] (0, 0) _ rfl (heap_alloc_new _ _) Tryz.underlying222 rfl (by kernel_rfl)) rfl ⟨rfl, only_alloc (only_refl _ _) _⟩

end Go.Proofs.YtbebdaglkjhbjaaGreatDoor.ff
