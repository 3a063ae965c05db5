/-
  Dle, Dlf, Dlg, Dlh, Dlk
-/
import Derived.Test.YtbebdaglkjhbjaaGreatDoorBundL
import Derived.Lib.SliceRun

/-
  Rows of the call's own that are written on; Go's slices.IndexFunc, slices.DeleteFunc at rows, and the closure that tells what stayed the same.
-/
namespace Go.Proofs.YtbebdaglkjhbjaaGreatDoor.da
open Go.RowKit Go.Proofs.YtbebdaglkjhbjaaGreatDoor.vi Go.Proofs.YtbebdaglkjhbjaaGreatDoor.um Go.Proofs.YtbebdaglkjhbjaaGreatDoor.wm Go.Proofs.YtbebdaglkjhbjaaGreatDoor.tr Go.Proofs.YtbebdaglkjhbjaaGreatDoor.em Go.Proofs.YtbebdaglkjhbjaaGreatDoor.rm Go.Proofs.YtbebdaglkjhbjaaGreatDoor.law11 Go.Proofs.YtbebdaglkjhbjaaGreatDoor.dd Go.Proofs.YtbebdaglkjhbjaaGreatDoor.dr Go.Proofs.YtbebdaglkjhbjaaGreatDoor.tm Go.Proofs.YtbebdaglkjhbjaaGreatDoor.tf Go.Proofs.YtbebdaglkjhbjaaGreatDoor.dl Go.Proofs.YtbebdaglkjhbjaaGreatDoor.dz Go.Proofs.YtbebdaglkjhbjaaGreatDoor.ti
set_option linter.unusedVariables false
set_option linter.unusedSimpArgs false

/-- The first n rows of the block g hold c 0, c 1 ..; what stands in them lies in blocks of T, none of which is g. -/
def RowW (g n : Nat) (T : Nat → Prop) (w : World) (c : Nat → Rw) : Prop :=
  g < w.heap.size ∧ ¬ T g ∧ ∀ j, j < n → ∃ u, w.cell? ⟨g, j * 2, none⟩ = some u ∧ EsS T w u (c j).d ∧ w.cell? ⟨g, j * 2 + 1, none⟩ = some (.int .u64 ((c j).n : Nat)) ∧ w.frozen? ⟨g, j * 2, none⟩ = false ∧ w.frozen? ⟨g, j * 2 + 1, none⟩ = false

section
variable {g n : Nat} {T : Nat → Prop} {w w' : World} {c : Nat → Rw}
theorem frozen_kept {w w' : World} {row : Option Nat} {b i : Nat} (h : w.frozen? ⟨b, i, none⟩ = false) (g : w.grownBy w' row) (hb : b < w.heap.size) (hr : some b ≠ row) : w'.frozen? ⟨b, i, none⟩ = false := by
  have := g.block b hb hr
  unfold World.frozen? at h ⊢
  rw [this]
  exact h
theorem RowW.grown (h : RowW g n T w c) (k : w.grownBy w' none) : RowW g n T w' c := by
  obtain ⟨h0, h1, h2⟩ := h
  refine ⟨Nat.lt_of_lt_of_le h0 k.size, h1, fun j hj => ?_⟩
  obtain ⟨u, a1, a2, a3, a4, a5⟩ := h2 j hj
  exact ⟨u, (Chg.of_none (S := fun _ => False) k).cell a1 (fun e => e), a2.grown k, (Chg.of_none (S := fun _ => False) k).cell a3 (fun e => e), frozen_kept (row := none) a4 k h0 (fun e => by cases e), frozen_kept (row := none) a5 k h0 (fun e => by cases e)⟩
theorem RowW.less {m : Nat} (h : RowW g n T w c) (hm : m ≤ n) : RowW g m T w c := ⟨h.1, h.2.1, fun j hj => h.2.2 j (by omega)⟩
theorem RowW.eq {c' : Nat → Rw} (h : RowW g n T w c) (hc : ∀ j, j < n → c j = c' j) : RowW g n T w c' := ⟨h.1, h.2.1, fun j hj => by rw [← hc j hj]; exact h.2.2 j hj⟩
set_option maxHeartbeats 1000000 in
/-- A row is written. -/
theorem RowW.set (h : RowW g n T w c) {i : Nat} (hi : i < n) {u : Value} {x : Rw} (hu : EsS T w u x.d) : RowW g n T ((w.setCell ⟨g, i * 2, none⟩ u).setCell ⟨g, i * 2 + 1, none⟩ (.int .u64 (x.n : Nat))) (fun j => if j = i then x else c j) := by
  obtain ⟨h0, h1, h2⟩ := h
  have hg : w.grownBy ((w.setCell ⟨g, i * 2, none⟩ u).setCell ⟨g, i * 2 + 1, none⟩ (.int .u64 (x.n : Nat))) (some g) := only_setCell (p := ⟨g, i * 2 + 1, none⟩) (only_setCell (p := ⟨g, i * 2, none⟩) (only_refl w (some g)) (.inl rfl) u) (.inl rfl) _
  have hc : Chg (fun k => k = g) w ((w.setCell ⟨g, i * 2, none⟩ u).setCell ⟨g, i * 2 + 1, none⟩ (.int .u64 (x.n : Nat))) := Chg.of_grown hg (fun k e => .inl (by cases e; rfl))
  have hT : ∀ k, T k → ¬ k = g := fun k hk e => h1 (e ▸ hk)
  obtain ⟨ui, b1, -, b3, b4, b5⟩ := h2 i hi
  refine ⟨Nat.lt_of_lt_of_le h0 hg.size, h1, fun j hj => ?_⟩
  obtain ⟨uj, a1, a2, a3, a4, a5⟩ := h2 j hj
  by_cases hji : j = i
  · subst hji
    refine ⟨u, ?_, ?_, ?_, by rw [World.frozen?_setCell, World.frozen?_setCell]; exact a4, by rw [World.frozen?_setCell, World.frozen?_setCell]; exact a5⟩
    · rw [World.cell?_setCell_other _ _ _ _ (by simp)]
      exact World.cell?_setCell_same _ _ _ a1
    · simp only [if_true]; exact hu.kept hc hT
    · simp only [if_true]
      exact World.cell?_setCell_same _ _ _ (by rw [World.cell?_setCell_other _ _ _ _ (by simp)]; exact a3)
  · refine ⟨uj, ?_, ?_, ?_, by rw [World.frozen?_setCell, World.frozen?_setCell]; exact a4, by rw [World.frozen?_setCell, World.frozen?_setCell]; exact a5⟩
    · rw [World.cell?_setCell_other _ _ _ _ (by simp only [ne_eq, Addr.mk.injEq, and_true, true_and]; omega), World.cell?_setCell_other _ _ _ _ (by simp only [ne_eq, Addr.mk.injEq, and_true, true_and]; omega)]
      exact a1
    · simp only [if_neg hji]; exact a2.kept hc hT
    · simp only [if_neg hji]
      rw [World.cell?_setCell_other _ _ _ _ (by simp only [ne_eq, Addr.mk.injEq, and_true, true_and]; omega), World.cell?_setCell_other _ _ _ _ (by simp only [ne_eq, Addr.mk.injEq, and_true, true_and]; omega)]
      exact a3
/-- A row's number is written. -/
theorem RowW.setN (h : RowW g n T w c) {i : Nat} (hi : i < n) (z : Nat) : RowW g n T (w.setCell ⟨g, i * 2 + 1, none⟩ (.int .u64 (z : Nat))) (fun j => if j = i then ⟨(c j).d, z⟩ else c j) := by
  obtain ⟨h0, h1, h2⟩ := h
  have hg : w.grownBy (w.setCell ⟨g, i * 2 + 1, none⟩ (.int .u64 (z : Nat))) (some g) := only_setCell (p := ⟨g, i * 2 + 1, none⟩) (only_refl w (some g)) (.inl rfl) _
  have hc : Chg (fun k => k = g) w (w.setCell ⟨g, i * 2 + 1, none⟩ (.int .u64 (z : Nat))) := Chg.of_grown hg (fun k e => .inl (by cases e; rfl))
  have hT : ∀ k, T k → ¬ k = g := fun k hk e => h1 (e ▸ hk)
  refine ⟨Nat.lt_of_lt_of_le h0 hg.size, h1, fun j hj => ?_⟩
  obtain ⟨uj, a1, a2, a3, a4, a5⟩ := h2 j hj
  refine ⟨uj, ?_, ?_, ?_, by rw [World.frozen?_setCell]; exact a4, by rw [World.frozen?_setCell]; exact a5⟩
  · rw [World.cell?_setCell_other _ _ _ _ (by simp only [ne_eq, Addr.mk.injEq, and_true, true_and]; omega)]
    exact a1
  · have := a2.kept hc hT
    by_cases hji : j = i
    · simp only [if_pos hji]; exact this
    · simp only [if_neg hji]; exact this
  · by_cases hji : j = i
    · subst hji
      simp only [if_true]
      exact World.cell?_setCell_same _ _ _ a3
    · simp only [if_neg hji]
      rw [World.cell?_setCell_other _ _ _ _ (by simp only [ne_eq, Addr.mk.injEq, and_true, true_and]; omega)]
      exact a3
/-- Cells behind the first m rows are written. -/
theorem RowW.cut (h : RowW g n T w c) {m : Nat} (hm : m ≤ n) (vs : List Value) : RowW g m T (w.setCells g (m * 2) vs) c ∧ w.grownBy (w.setCells g (m * 2) vs) (some g) := by
  have hg : ∀ (vs : List Value) (o : Nat) (w : World), w.grownBy (w.setCells g o vs) (some g) := by
    intro vs
    induction vs with
    | nil => intro o w; exact only_refl _ _
    | cons v r ih => intro o w; exact only_trans (only_setCell (only_refl w (some g)) (.inl rfl) v) (ih (o + 1) _)
  have hgw := hg vs (m * 2) w
  obtain ⟨h0, h1, h2⟩ := h
  have hc : Chg (fun k => k = g) w (w.setCells g (m * 2) vs) := Chg.of_grown hgw (fun k e => .inl (by cases e; rfl))
  refine ⟨⟨Nat.lt_of_lt_of_le h0 hgw.size, h1, fun j hj => ?_⟩, hgw⟩
  obtain ⟨uj, a1, a2, a3, a4, a5⟩ := h2 j (by omega)
  refine ⟨uj, ?_, a2.kept hc (fun k hk e => h1 (e ▸ hk)), ?_, by rw [World.frozen?_setCells]; exact a4, by rw [World.frozen?_setCells]; exact a5⟩
  · rw [World.cell?_setCells_out _ _ _ _ _ (fun _ _ => .inl (by show j * 2 < m * 2; omega))]; exact a1
  · rw [World.cell?_setCells_out _ _ _ _ _ (fun _ _ => .inl (by show j * 2 + 1 < m * 2; omega))]; exact a3
/-- As a slice that is read. -/
theorem RowW.rs {cap : Nat} {rs : List Rw} (h : RowW g n T w c) (hl : rs.length = n) (hcap : n ≤ cap) (hcm : cap ≤ maxLen) (hr : ∀ (j : Nat) (x : Rw), rs[j]? = some x → c j = x) : Rs (fun k => T k ∨ k = g) w (.slice (some ⟨g, 0, none⟩) n cap) rs := by
  subst hl
  refine ⟨_, _, rfl, .inr ⟨g, 0, rfl, .inr rfl, hcap, hcm, fun i r hri => ?_⟩⟩
  have hi : i < rs.length := (List.getElem?_eq_some_iff.1 hri).1
  obtain ⟨u, a1, a2, a3, -⟩ := h.2.2 i hi
  rw [hr i r hri] at a2 a3
  exact ⟨u, by rw [Nat.zero_add]; exact a1, a2.mono (fun k _ hk => .inl hk), by rw [Nat.zero_add]; exact a3⟩
theorem RowW.of {base : Nat} {v : Value} {rs : List Rw} (h : OwnC base rs.length w v rs) (h0 : 0 < rs.length) : ∃ g cap T, v = .slice (some ⟨g, 0, none⟩) rs.length cap ∧ rs.length ≤ cap ∧ cap ≤ maxLen ∧ base ≤ g ∧ (∀ k, T k → base ≤ k ∧ k < w.heap.size) ∧ RowW g rs.length T w (fun j => rs.getD j default) := by
  obtain ⟨T, ho, hT⟩ := h.ownR
  obtain ⟨uv, h1, h2, h3, h4⟩ := ho
  have h1' := h1
  rcases h1.2 with ⟨e, hz⟩ | ⟨g, cap, cur, rfl, hb, hg, hnc, hcm, hcs, htake⟩
  · omega
  · refine ⟨g, cap, T, rfl, hnc, hcm, hb, fun k hk => ⟨hT k hk, h3 k hk⟩, (Array.getElem?_eq_some_iff.1 hg).1, h4 g rfl, fun i hi => ?_⟩
    have hr : rs[i]? = some rs[i] := List.getElem?_eq_getElem hi
    have hgd : rs.getD i default = rs[i] := by rw [List.getD_eq_getElem?_getD, hr]; rfl
    obtain ⟨f0, f1⟩ := flatR_get rs uv i _ hr
    have hq := fun j u (hj : (flatR rs uv)[j]? = some u) => World.ownsRow.cells h1' (g := g) rfl j u hj
    have ha : ∀ j, (⟨g, 0, none⟩ : Addr).add j = ⟨g, 0 + j, none⟩ := fun j => Addr.add_lit ..
    simp only [ha, Nat.zero_add] at hq
    simp only [hgd]
    exact ⟨uv i, hq _ _ f0, h2 i _ hr, hq _ _ f1, h1'.frozenAt _, h1'.frozenAt _⟩
end

/-! clear, at rows -/
theorem run_clear_rows {P : Program} (w : World) (t e ty : TypeId) (z0 z1 : Value) (ht : P.underlying t = some (.slice e)) (hv : ∀ w, (zeroValue e).run P w = .ok (.agg #[z0, z1]) w) (hz : (Value.agg #[z0, z1]).cells = #[z0, z1]) (h0 : z0.oneCell' = true) (h1 : z1.oneCell' = true) (b o n c : Nat) (hn : 0 < n)
    (hc : ∀ j, j < n * 2 → (w.cell? ⟨b, o + j, none⟩).isSome = true) (hf : ∀ j, j < n * 2 → w.frozen? ⟨b, o + j, none⟩ = false) :
    (Builtin.clear_ #[t] ty #[.slice (some ⟨b, o, none⟩) n c]).run P w = .ok (.tuple #[]) (w.setCells b o (Builtin.zeroCells #[z0, z1] n).toList) := by
  have hsz : (Builtin.zeroCells #[z0, z1] n).toList.length = n * 2 := by simp [Builtin.zeroCells]
  have hst := run_storeCells_cells (P := P) b o (Builtin.zeroCells #[z0, z1] n).toList 0 w (by rw [hsz]; simpa using hc) (by rw [hsz]; simpa using hf) (by
    intro v hv'
    simp only [Builtin.zeroCells, Array.toList_map, List.mem_map] at hv'
    obtain ⟨i, -, rfl⟩ := hv'
    rcases (show i % 2 = 0 ∨ i % 2 = 1 by omega) with hi | hi <;> simp [hi, h0, h1])
  simp only [Nat.add_zero] at hst
  obtain ⟨m, rfl⟩ : ∃ m, n = m + 1 := ⟨n - 1, by omega⟩
  simp [Builtin.clear_, run_underlying ht, hv, hz, hst]

theorem zeroTR (w : World) : (zeroValue 80).run Tryz.prog w = .ok (.agg #[.slice none 0 0, .int .u64 0]) w := by kernel_rfl

end Go.Proofs.YtbebdaglkjhbjaaGreatDoor.da

/-
  The developers' package delta: what stayed the same is left out.
-/
namespace Go.Proofs.YtbebdaglkjhbjaaGreatDoor.da
open Go.RowKit Go.Proofs.YtbebdaglkjhbjaaGreatDoor.vi Go.Proofs.YtbebdaglkjhbjaaGreatDoor.um Go.Proofs.YtbebdaglkjhbjaaGreatDoor.wm Go.Proofs.YtbebdaglkjhbjaaGreatDoor.tr Go.Proofs.YtbebdaglkjhbjaaGreatDoor.em Go.Proofs.YtbebdaglkjhbjaaGreatDoor.rm Go.Proofs.YtbebdaglkjhbjaaGreatDoor.law11 Go.Proofs.YtbebdaglkjhbjaaGreatDoor.dd Go.Proofs.YtbebdaglkjhbjaaGreatDoor.dr Go.Proofs.YtbebdaglkjhbjaaGreatDoor.tm Go.Proofs.YtbebdaglkjhbjaaGreatDoor.tf Go.Proofs.YtbebdaglkjhbjaaGreatDoor.dl Go.Proofs.YtbebdaglkjhbjaaGreatDoor.dz Go.Proofs.YtbebdaglkjhbjaaGreatDoor.ti
set_option linter.unusedVariables false
set_option linter.unusedSimpArgs false

set_option maxHeartbeats 2000000 in
set_option maxRecDepth 100000 in
theorem stay_any (w : World) (B : Nat) (x : Rw) (a : List Rw) (p : Int) (SB T : Nat → Prop) (u va : Value) (hfx : Fit x) (ha : Gk a) (hB : w.heap[B]? = some (.cells #[.int .u64 p, va] 49 (0, 0))) (h : Rs SB w va a) (hu : EsS T w u x.d) :
    Calls Tryz.prog 63 #[.agg #[u, .int .u64 (x.n : Nat)], .pointer (some ⟨B, 0, none⟩)] w fun e w' => e = .returned (.bool (decide (x.n = getT x.d a))) ∧ w.grownBy w' none := by
  have GA := Lib.hid (only_alloc (only_refl w none) (.cells #[u, .int .u64 (x.n : Nat)] 80))
  have F0 := Lib.hid (heap_alloc_new w (.cells #[u, .int .u64 (x.n : Nat)] 80))
  have FB := Lib.hid (heap_kept hB GA.out (by simp))
  have ht := ha.tok
  have HG := Lib.hid (fun w1 (g : w.grownBy w1 none) => ti.get_any a x.d SB _ w1 va u (by have := ht.1; omega) ht.2 ha.1.2.2 ⟨hfx.1, hfx.2.1, hfx.2.2.1⟩ (h.grown g) (hu.grown g).es)
  have hg64 := getT_lt a x.d (fun r hr => (ht.2 r hr).2.2.2)
  have hxn := hfx.2.2.2
  obtain ⟨ua, uc, rfl⟩ := hu.shape
  obtain ⟨aa, ac, rfl⟩ := h.shape
  clear hB h hu ha hfx ht
  generalize getT x.d a = n at *
  go_enter Tryz.func63, Tryz.ntmps63
  go_wp2_with fail
  generalize w.alloc (.cells #[.slice ua x.d.length uc, .int .u64 (x.n : Nat)] 80) = wa at *
  have HGX := Lib.hid (fun g : GW wa none => HG.out g.world (only_trans GA.out g.ok))
  have hx0 : ∀ g : GW wa none, g.world.cell? ⟨w.heap.size, 0, none⟩ = some (.slice ua x.d.length uc) := fun g => (cells2 (heap_kept F0.out g.ok (by simp))).1
  have hx1 : ∀ g : GW wa none, g.world.cell? ⟨w.heap.size, 1, none⟩ = some (.int .u64 (x.n : Nat)) := fun g => (cells2 (heap_kept F0.out g.ok (by simp))).2.1
  have hb1 : ∀ g : GW wa none, g.world.cell? ⟨B, 1, none⟩ = some (.slice aa a.length ac) := fun g => (cells2 (heap_kept FB.out g.ok (by simp))).2.1
  by_cases hq : x.n = n
  · have hqb : ((x.n : Int) == (n : Int)) = true := by rw [hq]; simp
    have HD := Lib.hid (decide_eq_true hq)
    clear hq
    refine wp_region_gw wa none (by kernel_rfl) (by kernel_rfl) (only_refl _ _) ?_
    repeat (go_big_quiet_step ((go_at_call 64; exact calls_gw (HGX.out _))))
    refine wpQuiet_nil ?_
    rintro w2 ⟨⟨_, g2⟩, rfl⟩
    have G2 := Lib.hid (only_trans GA.out g2)
    go_wp2_with fail
    go_ret
    first | exact ⟨ret1 (congrArg Value.bool HD.out.symm), G2.out⟩ | exact ⟨ret1 (congrArg Value.bool (by have := HD.out; simpa using this)), G2.out⟩
  · have hqb : ((x.n : Int) == (n : Int)) = false := by rw [beq_eq_false_iff_ne]; omega
    have HD := Lib.hid (decide_eq_false hq)
    clear hq
    refine wp_region_gw wa none (by kernel_rfl) (by kernel_rfl) (only_refl _ _) ?_
    repeat (go_big_quiet_step ((go_at_call 64; exact calls_gw (HGX.out _))))
    refine wpQuiet_nil ?_
    rintro w2 ⟨⟨_, g2⟩, rfl⟩
    have G2 := Lib.hid (only_trans GA.out g2)
    go_wp2_with fail
    go_ret
    first | exact ⟨ret1 (congrArg Value.bool HD.out.symm), G2.out⟩ | exact ⟨ret1 (congrArg Value.bool (by have := HD.out; simpa using this)), G2.out⟩

set_option maxHeartbeats 2000000 in
set_option maxRecDepth 100000 in
theorem index_any (w : World) (g n cap B : Nat) (T : Nat → Prop) (c : Nat → Rw) (p : Rw → Bool) (hn : n ≤ 1000) (hcap : n ≤ cap) (hcm : cap ≤ maxLen) (hR : RowW g n T w c) (hF : ∀ j, j < n → Fit (c j))
    (hC : ∀ w1, w.grownBy w1 none → ∀ u x, Fit x → EsS T w1 u x.d → Calls Tryz.prog 63 #[.agg #[u, .int .u64 (x.n : Nat)], .pointer (some ⟨B, 0, none⟩)] w1 fun e w' => e = .returned (.bool (p x)) ∧ w1.grownBy w' none) :
    Calls Tryz.prog 92 #[.slice (some ⟨g, 0, none⟩) n cap, .func (.func 63) #[] #[.pointer (some ⟨B, 0, none⟩)]] w fun e w' => ∃ q : Int, e = .returned (.int .i64 q) ∧ w.grownBy w' none ∧ ((q = -1 ∧ ∀ j, j < n → p (c j) = false) ∨ ∃ i : Nat, q = i ∧ i < n ∧ p (c i) = true ∧ ∀ j, j < i → p (c j) = false) := by
  have HR := Lib.hid hR
  have HF := Lib.hid hF
  have HC := Lib.hid hC
  unfold maxLen at hcm
  clear hR hF hC
  go_enter Tryz.func92, Tryz.ntmps92
  go_wp2_with fail
  go_loopw [8] (fun q wr => ∃ i : Nat, i ≤ n ∧ q = .int .i64 i ∧ (∀ j, j < i → p (c j) = false) ∧ w.grownBy wr none) (fun q _ => n - (intOf q).toNat)
  case atStart => exact ⟨0, Nat.zero_le _, rfl, fun j hj => by omega, only_refl _ _⟩
  case round =>
    obtain ⟨i, hi, rfl, hp, hg⟩ := hrel
    have HG := Lib.hid hg
    have HP := Lib.hid hp
    clear hg hp
    by_cases hlt : i < n
    · obtain ⟨u, a1, a2, a3, -, -⟩ := (HR.out.grown HG.out).2.2 i hlt
      have HCL := Lib.hid (HC.out wr HG.out u (c i) (HF.out i hlt) a2)
      obtain ⟨ua, uc, rfl⟩ := a2.shape
      clear a2
      generalize hx : c i = x at *
      have HX := Lib.hid hx
      clear hx
      cases hpx : p x with
      | true =>
        rw [hpx] at HCL
        go_wp2_with fail
        refine HCL.out.mono ?_
        rintro e w1 ⟨rfl, g1⟩
        have G1 := Lib.hid (only_trans HG.out g1)
        clear g1
        go_wp2_with fail
        go_ret
        exact ⟨_, rfl, G1.out, .inr ⟨i, rfl, hlt, by rw [HX.out]; exact hpx, HP.out⟩⟩
      | false =>
        rw [hpx] at HCL
        have HPN : Hid (∀ j, j < i + 1 → p (c j) = false) := by
          intro j hj
          by_cases h : j = i
          · rw [h, HX.out]; exact hpx
          · exact HP.out j (by omega)
        clear hpx
        go_wp2_with fail
        refine HCL.out.mono ?_
        rintro e w1 ⟨rfl, g1⟩
        have G1 := Lib.hid (only_trans HG.out g1)
        clear g1
        go_wp2_with fail
        go_roundw
        case rel => exact ⟨i + 1, by omega, by go_num, HPN.out, G1.out⟩
        case measure => simp [intOf]; omega
    · have hie : i = n := by omega
      subst hie
      go_wp2_with fail
      go_ret
      exact ⟨_, rfl, HG.out, .inl ⟨rfl, HP.out⟩⟩

/-- Of no rows nothing is left out. -/
theorem index_nil (w : World) (a : Option Addr) (cap B : Nat) :
    Calls Tryz.prog 92 #[.slice a 0 cap, .func (.func 63) #[] #[.pointer (some ⟨B, 0, none⟩)]] w fun e w' => e = .returned (.int .i64 (-1)) ∧ w.grownBy w' none := by
  go_enter Tryz.func92, Tryz.ntmps92
  go_wp2_with fail
  go_loopw [8] (fun q wr => q = .int .i64 0 ∧ w.grownBy wr none) (fun q _ => 0)
  case atStart => exact ⟨rfl, only_refl _ _⟩
  case round =>
    obtain ⟨rfl, hg⟩ := hrel
    have HG := Lib.hid hg
    clear hg
    go_wp2_with fail
    go_ret
    exact ⟨rfl, HG.out⟩

theorem del_nil (w : World) (a : Option Addr) (cap B : Nat) :
    Calls Tryz.prog 65 #[.slice a 0 cap, .func (.func 63) #[] #[.pointer (some ⟨B, 0, none⟩)]] w fun e w' => e = .returned (.slice a 0 cap) ∧ w.grownBy w' none := by
  have HI := Lib.hid (index_nil w a cap B)
  go_enter Tryz.func65, Tryz.ntmps65
  go_wp2_with fail
  refine HI.out.mono ?_
  rintro e w1 ⟨rfl, g1⟩
  go_wp2_with fail
  go_ret
  exact ⟨rfl, g1⟩

/-- What is kept of the first j rows. -/
def kept (p : Rw → Bool) (rs : List Rw) (j : Nat) : List Rw := (rs.take j).filter (fun r => !p r)
theorem kept_next {p : Rw → Bool} {rs : List Rw} {j : Nat} {x : Rw} (h : rs[j]? = some x) : kept p rs (j + 1) = kept p rs j ++ if p x = true then [] else [x] := by
  unfold kept
  rw [List.take_add_one, h]
  simp only [Option.toList, List.filter_append]
  congr 1
  cases hp : p x <;> simp [hp]
theorem kept_le (p : Rw → Bool) (rs : List Rw) (j : Nat) : (kept p rs j).length ≤ j := by
  unfold kept
  have h1 := List.length_filter_le (fun r => !p r) (rs.take j)
  rw [List.length_take] at h1
  omega

end Go.Proofs.YtbebdaglkjhbjaaGreatDoor.da

/-
  Go's slices.DeleteFunc at rows.
-/
namespace Go.Proofs.YtbebdaglkjhbjaaGreatDoor.da
open Go.RowKit Go.Proofs.YtbebdaglkjhbjaaGreatDoor.vi Go.Proofs.YtbebdaglkjhbjaaGreatDoor.um Go.Proofs.YtbebdaglkjhbjaaGreatDoor.wm Go.Proofs.YtbebdaglkjhbjaaGreatDoor.tr Go.Proofs.YtbebdaglkjhbjaaGreatDoor.em Go.Proofs.YtbebdaglkjhbjaaGreatDoor.rm Go.Proofs.YtbebdaglkjhbjaaGreatDoor.law11 Go.Proofs.YtbebdaglkjhbjaaGreatDoor.dd Go.Proofs.YtbebdaglkjhbjaaGreatDoor.dr Go.Proofs.YtbebdaglkjhbjaaGreatDoor.tm Go.Proofs.YtbebdaglkjhbjaaGreatDoor.tf Go.Proofs.YtbebdaglkjhbjaaGreatDoor.dl Go.Proofs.YtbebdaglkjhbjaaGreatDoor.dz Go.Proofs.YtbebdaglkjhbjaaGreatDoor.ti
set_option linter.unusedVariables false
set_option linter.unusedSimpArgs false

theorem sizeTR (w : World) : (Go.sizeOf 80).run Tryz.prog w = .ok 2 w := by kernel_rfl

set_option maxHeartbeats 4000000 in
set_option maxRecDepth 100000 in
theorem del_any (w : World) (g n cap B : Nat) (T : Nat → Prop) (rs : List Rw) (p : Rw → Bool) (hn : n ≤ 1000) (h0 : 0 < n) (hl : rs.length = n) (hcap : n ≤ cap) (hcm : cap ≤ maxLen) (hR : RowW g n T w (fun j => rs.getD j default)) (hF : ∀ r ∈ rs, Fit r)
    (hC : ∀ w1, w.grownBy w1 (some g) → ∀ u x, Fit x → EsS T w1 u x.d → Calls Tryz.prog 63 #[.agg #[u, .int .u64 (x.n : Nat)], .pointer (some ⟨B, 0, none⟩)] w1 fun e w' => e = .returned (.bool (p x)) ∧ w1.grownBy w' none) :
    Calls Tryz.prog 65 #[.slice (some ⟨g, 0, none⟩) n cap, .func (.func 63) #[] #[.pointer (some ⟨B, 0, none⟩)]] w fun e w' => ∃ m c', e = .returned (.slice (some ⟨g, 0, none⟩) m cap) ∧ m = (kept p rs n).length ∧ RowW g m T w' c' ∧ (∀ (j : Nat) (x : Rw), (kept p rs n)[j]? = some x → c' j = x) ∧ w.grownBy w' (some g) := by
  have hgd : ∀ (j : Nat) (x : Rw), rs[j]? = some x → rs.getD j default = x := fun j x h => by rw [List.getD_eq_getElem?_getD, h]; rfl
  have hFj : ∀ j, j < n → Fit (rs.getD j default) := fun j hj => by
    have : rs[j]? = some rs[j] := List.getElem?_eq_getElem (by omega)
    rw [hgd j _ this]
    exact hF _ (List.mem_of_getElem? this)
  have HI := Lib.hid (index_any w g n cap B T (fun j => rs.getD j default) p hn hcap hcm hR hFj (fun w1 gg => hC w1 (only_of_none gg _)))
  have HR := Lib.hid hR
  have HF := Lib.hid hF
  have HC := Lib.hid hC
  have HGD := Lib.hid hgd
  unfold maxLen at hcm
  clear hR hF hC hFj hgd
  go_enter Tryz.func65, Tryz.ntmps65
  go_wp2_with fail
  refine HI.out.mono ?_
  rintro e w1 ⟨q, rfl, g1, hq⟩
  have G1 := Lib.hid g1
  clear g1
  rcases hq with ⟨rfl, hall⟩ | ⟨i0, rfl, hi0, hpi, hbe⟩
  · have HK : Hid (kept p rs n = rs) := by
      show (rs.take n).filter (fun r => !p r) = rs
      rw [List.take_of_length_le (by omega)]
      refine List.filter_eq_self.2 fun r hr => ?_
      obtain ⟨j, hj⟩ := List.getElem?_of_mem hr
      have := hall j (by have := (List.getElem?_eq_some_iff.1 hj).1; omega)
      simp only [HGD.out j r hj] at this
      simp [this]
    go_wp2_with fail
    go_ret
    exact ⟨n, _, rfl, by rw [HK.out, hl], HR.out.grown G1.out, fun j x hx => by rw [HK.out] at hx; exact HGD.out j x hx, only_of_none G1.out _⟩
  · have HK0 : Hid (kept p rs (i0 + 1) = rs.take i0) := by
      have hx : rs[i0]? = some (rs.getD i0 default) := by
        have : rs[i0]? = some rs[i0] := List.getElem?_eq_getElem (by omega)
        rw [HGD.out i0 _ this]; exact this
      show kept p rs (i0 + 1) = _
      rw [kept_next hx, if_pos hpi, List.append_nil]
      unfold kept
      refine List.filter_eq_self.2 fun r hr => ?_
      obtain ⟨j, hj⟩ := List.getElem?_of_mem hr
      have hji : j < i0 := by have := (List.getElem?_eq_some_iff.1 hj).1; rw [List.length_take] at this; omega
      rw [List.getElem?_take, if_pos hji] at hj
      have := hbe j hji
      simp only [HGD.out j r hj] at this
      simp [this]
    clear hpi hbe
    have hne1 : ((i0 : Int) == -1) = false := by rw [beq_eq_false_iff_ne]; omega
    go_wp2_with fail
    go_loopw [5, 6] (fun vi vj wr => ∃ (j : Nat) (c : Nat → Rw), vi = .int .i64 (kept p rs j).length ∧ vj = .int .i64 j ∧ j ≤ n ∧ (kept p rs j).length < j ∧ RowW g n T wr c ∧ (∀ (k : Nat) (x : Rw), (kept p rs j)[k]? = some x → c k = x) ∧ (∀ k, j ≤ k → c k = rs.getD k default) ∧ w.grownBy wr (some g)) (fun _ vj _ => n - (intOf vj).toNat)
    case atStart =>
      refine ⟨i0 + 1, _, ?_, by go_num, by omega, ?_, HR.out.grown G1.out, fun k x hk => ?_, fun k _ => rfl, only_of_none G1.out _⟩
      · rw [HK0.out, List.length_take]; congr 2; omega
      · rw [HK0.out, List.length_take]; omega
      · rw [HK0.out] at hk
        have hki : k < i0 := by have := (List.getElem?_eq_some_iff.1 hk).1; rw [List.length_take] at this; omega
        rw [List.getElem?_take, if_pos hki] at hk
        exact HGD.out k x hk
    case round =>
      obtain ⟨j, c, rfl, rfl, hj, hkl, hRw, hck, hcr, hg⟩ := hrel
      have HG := Lib.hid hg
      have HRW := Lib.hid hRw
      have HCK := Lib.hid hck
      have HCR := Lib.hid hcr
      clear hg hRw hck hcr HK0 HI G1
      by_cases hlt : j < n
      · obtain ⟨x, hx⟩ : ∃ x, rs[j]? = some x := ⟨rs[j], List.getElem?_eq_getElem (by omega)⟩
        have hcj : c j = x := (HCR.out j (Nat.le_refl _)).trans (HGD.out j x hx)
        have hfx := HF.out x (List.mem_of_getElem? hx)
        have HKN := Lib.hid (kept_next (p := p) hx)
        obtain ⟨u, a1, a2, a3, -, -⟩ := HRW.out.2.2 j hlt
        rw [hcj] at a2 a3
        have HES := Lib.hid a2
        obtain ⟨ua, uc, rfl⟩ := a2.shape
        have GA := Lib.hid (only_alloc (only_refl wr none) (.cells #[.slice ua x.d.length uc, .int .u64 (x.n : Nat)] 80))
        have F0 := Lib.hid (heap_alloc_new wr (.cells #[.slice ua x.d.length uc, .int .u64 (x.n : Nat)] 80))
        have HCX := Lib.hid (HC.out _ (only_trans HG.out (only_of_none GA.out _)) _ x hfx (HES.out.grown GA.out))
        have hglt : g < wr.heap.size := HRW.out.1
        clear a2 hx hcj hfx
        cases hpx : p x with
        | true =>
          have HK1 := Lib.hid (HKN.out.trans ((congrArg (fun z => kept p rs j ++ z) (if_pos hpx)).trans (List.append_nil _)))
          rw [hpx] at HCX
          clear hpx HKN
          generalize hKL : kept p rs j = L at *
          clear hKL
          go_wp2_with fail
          refine HCX.out.mono ?_
          rintro e w2 ⟨rfl, g2⟩
          have G2 := Lib.hid (only_trans GA.out g2)
          clear g2
          go_wp2_with fail
          go_roundw
          case rel =>
            refine ⟨j + 1, c, by rw [HK1.out], by go_num, by omega, by rw [HK1.out]; omega, HRW.out.grown G2.out, fun k y hk => ?_, fun k hk => HCR.out k (by omega), only_trans HG.out (only_of_none G2.out _)⟩
            rw [HK1.out] at hk
            exact HCK.out k y hk
          case measure => simp [intOf]; omega
        | false =>
          have HK1 := Lib.hid (HKN.out.trans (congrArg (fun z => kept p rs j ++ z) (if_neg (by simp [hpx]))))
          rw [hpx] at HCX
          clear hpx HKN
          generalize hKL : kept p rs j = L at *
          clear hKL
          generalize hN : L.length = N at *
          have HN := Lib.hid hN
          clear hN
          go_wp2_with fail
          refine HCX.out.mono ?_
          rintro e w2 ⟨rfl, g2⟩
          have G2 := Lib.hid (only_trans GA.out g2)
          have F2 := Lib.hid (heap_kept F0.out g2 (by simp))
          obtain ⟨d0, d1, -⟩ := cells2 F2.out
          have HR2 := Lib.hid (HRW.out.grown G2.out)
          obtain ⟨ui, b1, -, b3, b4, b5⟩ := HR2.out.2.2 N (by omega)
          have HST := Lib.hid (HR2.out.set (i := N) (x := x) (by omega) (HES.out.grown G2.out))
          clear g2
          go_wp2_with fail
          go_roundw
          case rel =>
            refine ⟨j + 1, _, ?_, by go_num, by omega, by rw [HK1.out, List.length_append, HN.out]; simp; omega, HST.out, fun k y hk => ?_, fun k hk => ?_, only_setCell (p := ⟨g, N * 2 + 1, none⟩) (only_setCell (p := ⟨g, N * 2, none⟩) (only_trans HG.out (only_of_none G2.out _)) (.inl rfl) _) (.inl rfl) _⟩
            · rw [HK1.out, List.length_append, HN.out]
              go_num
            · rw [HK1.out] at hk
              by_cases hkn : k = N
              · subst hkn
                rw [List.getElem?_append_right (by have := HN.out; omega), HN.out] at hk
                simp at hk
                simp [hk]
              · simp only [if_neg hkn]
                have hkl : k < L.length := by
                  have := (List.getElem?_eq_some_iff.1 hk).1
                  simp at this; have := HN.out; omega
                rw [List.getElem?_append_left hkl] at hk
                exact HCK.out k y hk
            · have hkn : ¬ k = N := by omega
              simp only [if_neg hkn]
              exact HCR.out k (by omega)
          case measure => simp [intOf]; omega
      · have hje : j = n := by omega
        subst hje
        generalize hN : (kept p rs j).length = N at *
        have HN := Lib.hid hN
        have ht := dr.run_tail (P := Tryz.prog) (a := some ⟨g, 0, none⟩) (n := j) (cap := cap) 32 80 Tryz.underlying32 sizeTR (.inr ⟨g, 0, rfl⟩) N (by omega) (by omega)
        obtain ⟨qq, ht1, ht2⟩ := ht
        obtain rfl : qq = some ⟨g, 0 + N * 2, none⟩ := ht2 g 0 rfl hkl
        simp only [Nat.zero_add] at ht1
        have hh := fun w9 => dr.run_head (P := Tryz.prog) (a := some ⟨g, 0, none⟩) (n := j) (cap := cap) 32 80 Tryz.underlying32 sizeTR (.inr ⟨g, 0, rfl⟩) N (by omega) w9
        have hcell : ∀ i, i < (j - N) * 2 → (wr.cell? ⟨g, N * 2 + i, none⟩).isSome = true ∧ wr.frozen? ⟨g, N * 2 + i, none⟩ = false := fun i hi => by
          obtain ⟨u, a1, -, a3, a4, a5⟩ := HRW.out.2.2 (N + i / 2) (by omega)
          rcases (show i % 2 = 0 ∨ i % 2 = 1 by omega) with hm | hm
          · rw [show N * 2 + i = (N + i / 2) * 2 by omega]
            exact ⟨by rw [a1]; rfl, a4⟩
          · rw [show N * 2 + i = (N + i / 2) * 2 + 1 by omega]
            exact ⟨by rw [a3]; rfl, a5⟩
        have hcl : ∀ ty, (Builtin.clear_ #[32] ty #[.slice (some ⟨g, N * 2, none⟩) (j - N) (cap - N)]).run Tryz.prog wr = .ok (.tuple #[]) (wr.setCells g (N * 2) (Builtin.zeroCells #[.slice none 0 0, .int .u64 0] (j - N)).toList) := fun ty => by
          exact run_clear_rows wr _ _ ty (.slice none 0 0) (.int .u64 0) Tryz.underlying32 zeroTR rfl rfl rfl g (N * 2) (j - N) (cap - N) (by omega) (fun i hi => (hcell i hi).1) (fun i hi => (hcell i hi).2)
        have HCUT := Lib.hid (HRW.out.cut (m := N) (by omega) (Builtin.zeroCells #[.slice none 0 0, .int .u64 0] (j - N)).toList)
        clear hN hcell ht2
        generalize wr.setCells g (N * 2) (Builtin.zeroCells #[.slice none 0 0, .int .u64 0] (j - N)).toList = wz at *
        go_wp2_with fail
        go_ret
        exact ⟨N, c, rfl, HN.out.symm, HCUT.out.1, HCK.out, only_trans HG.out HCUT.out.2⟩

end Go.Proofs.YtbebdaglkjhbjaaGreatDoor.da

/-
  The developers' package delta: Diff.
-/
namespace Go.Proofs.YtbebdaglkjhbjaaGreatDoor.da
open Go.RowKit Go.Proofs.YtbebdaglkjhbjaaGreatDoor.vi Go.Proofs.YtbebdaglkjhbjaaGreatDoor.um Go.Proofs.YtbebdaglkjhbjaaGreatDoor.wm Go.Proofs.YtbebdaglkjhbjaaGreatDoor.tr Go.Proofs.YtbebdaglkjhbjaaGreatDoor.em Go.Proofs.YtbebdaglkjhbjaaGreatDoor.rm Go.Proofs.YtbebdaglkjhbjaaGreatDoor.law11 Go.Proofs.YtbebdaglkjhbjaaGreatDoor.dd Go.Proofs.YtbebdaglkjhbjaaGreatDoor.dr Go.Proofs.YtbebdaglkjhbjaaGreatDoor.tm Go.Proofs.YtbebdaglkjhbjaaGreatDoor.tf Go.Proofs.YtbebdaglkjhbjaaGreatDoor.dl Go.Proofs.YtbebdaglkjhbjaaGreatDoor.dz Go.Proofs.YtbebdaglkjhbjaaGreatDoor.ti
set_option linter.unusedVariables false
set_option linter.unusedSimpArgs false

/-- What stayed the same. -/
def stayed (a : List Rw) (r : Rw) : Bool := decide (r.n = getT r.d a)
theorem diff_kept (a b : List Rw) : diffT a b = (kept (stayed a) b b.length).map fun r => ⟨r.d, r.n - getT r.d a⟩ := by
  unfold diffT kept stayed
  rw [List.take_length]
  congr 2
  funext r
  by_cases h : r.n = getT r.d a <;> simp [h]

set_option maxHeartbeats 8000000 in
set_option maxRecDepth 100000 in
theorem diff_any (x y : Sn) (SA SB : Nat → Prop) (w : World) (u v : Value) (hx : Tok x.t) (hy : Tok y.t) (hT : tb.Tab w) (h : Rs SA w u x.t) (h2 : Rs SB w v y.t) :
    Calls Tryz.prog 23 #[snV x u, snV y v] w fun e w' => ∃ u', e = .returned (.tuple #[dtV (diffX x y).1 u', .int .i64 ((diffX x y).2 : Nat)]) ∧ Rs (fun k => k < w'.heap.size) w' u' (diffX x y).1.t ∧ w.grownBy w' none := by
  obtain ⟨ua, uc, rfl⟩ := h.shape
  obtain ⟨ya, yc, rfl⟩ := h2.shape
  have HCA := Lib.hid (fun w1 (g : w.grownBy w1 none) => scheck_any x SA w1 (.slice ua x.t.length uc) hx (tb.kept hT g) (h.grown g))
  have HCB := Lib.hid (fun w1 (g : w.grownBy w1 none) => scheck_any y SB w1 (.slice ya y.t.length yc) hy (tb.kept hT g) (h2.grown g))
  have HAT := Lib.hid (fun (k1 : Gk x.t) (k2 : Gk y.t) w1 (g : w.grownBy w1 none) => atleast_any y.t x.t SB SA w1 _ _ (by have := hy.1; omega) (by have := hx.1; omega) hy.2 hx.2 k2.1.2.2 (h2.grown g) (h.grown g))
  have HCO := Lib.hid (fun w1 (g : w.grownBy w1 none) => tclone_any y.t SB w1 _ (by have := hy.1; omega) (fun r hr => by have := (hy.2 r hr).1; omega) (h2.grown g))
  have HST := Lib.hid (fun (k1 : Gk x.t) w1 BB (z : Rw) T uz (hz : Fit z) (hB : w1.heap[BB]? = some (.cells #[.int .u64 (x.e : Nat), .slice ua x.t.length uc] 49 (0, 0))) (hh : Rs (fun k => k < w.heap.size) w1 (.slice ua x.t.length uc) x.t) (hu : EsS T w1 uz z.d) => stay_any w1 BB z x.t _ _ T uz _ hz k1 hB hh hu)
  have HXL := Lib.hid h.low
  have HYF := Lib.hid hy.2
  have hyl := hy.1
  have HX : Hid (diffX x y = if firstX (checkT x.t) (checkT y.t) ≠ 0 then (dt0, firstX (checkT x.t) (checkT y.t)) else if y.e ≤ x.e then (dt0, 20) else if atT y.t x.t = false then (dt0, 21) else (⟨x.e, y.e, diffT x.t y.t⟩, 0)) := rfl
  have hfl := firstX_lt (checkT_lt x.t) (checkT_lt y.t)
  obtain ⟨m1, m2, m3, m5, m4⟩ := made4 w (.cells #[.int .u64 (x.e : Nat), .slice ua x.t.length uc] 49) (.cells #[.int .u64 (y.e : Nat), .slice ya y.t.length yc] 49) (.cells #[.int .u64 0, .int .u64 0, .slice none 0 0] 51) (.cells #[.func (.func 35) #[(.agg #[.int .u64 (x.e : Nat), .slice ua x.t.length uc])] #[], .func (.func 35) #[(.agg #[.int .u64 (y.e : Nat), .slice ya y.t.length yc])] #[]] 46)
  have HFI := Lib.hid (first_ss _ (.agg #[.int .u64 (x.e : Nat), .slice ua x.t.length uc]) (.agg #[.int .u64 (y.e : Nat), .slice ya y.t.length yc]) (checkT x.t) (checkT y.t) _ _ (fun w1 g => HCA.out w1 (only_trans m4 g)) (fun w1 g => HCB.out w1 (only_trans m4 g)) m5)
  have HKA := Lib.hid (fun (e : firstX (checkT x.t) (checkT y.t) = 0) => (⟨Gk.of ((firstX_zero.1 e).1) hx, Gk.of ((firstX_zero.1 e).2) hy⟩ : Gk x.t ∧ Gk y.t))
  have M1 := Lib.hid m1
  have M2 := Lib.hid m2
  have M3 := Lib.hid m3
  have M4 := Lib.hid m4
  clear HCA HCB m5 hx hy h h2 m1 m2 m3 m4 hT
  unfold snV
  generalize diffX x y = R at *
  generalize firstX (checkT x.t) (checkT y.t) = fc at *
  by_cases h2 : fc = 0
  · subst h2
    obtain ⟨GA, GB⟩ := HKA.out (by first | rfl | trivial)
    by_cases h3 : y.e ≤ x.e
    · have HX2 := Lib.hid (HX.out.trans ((if_neg (by simp)).trans (if_pos h3)))
      have hbi : (y.e : Int) ≤ (x.e : Int) := by omega
      go_enter Tryz.func23, Tryz.ntmps23
      go_wp2_with fail
      refine HFI.out.mono ?_
      rintro e w1 ⟨rfl, g1⟩
      have G1 := Lib.hid (only_trans M4.out g1)
      have A1 := Lib.hid (heap_kept M1.out g1 (by simp))
      have B1 := Lib.hid (heap_kept M2.out g1 (by simp))
      have C1 := Lib.hid (heap_kept M3.out g1 (by simp))
      clear g1
      obtain ⟨a0, a1, af0, af1⟩ := cells2 A1.out
      obtain ⟨b0, b1, bf0, bf1⟩ := cells2 B1.out
      obtain ⟨c0, c1, c2, cf0, cf1, cf2⟩ := cells3 C1.out
      go_wp2_with fail
      rw [HX2.out]
      exact bodyPost_ret (ee.results_cell2 rfl _ _ (w.heap.size + 1 + 1) 51 #[.int .u64 0, .int .u64 0, .slice none 0 0] (0, 0) _ rfl (wm.heap_setc (wm.heap_setc (wm.heap_setc C1.out))) Tryz.underlying51 rfl (by kernel_rfl)) rfl ⟨.slice none 0 0, rfl, Rs.nil _ _ _ _, (only_setCell (only_setCell (only_setCell G1.out (.inr (by show w.heap.size ≤ w.heap.size + 1 + 1; omega)) _) (.inr (by show w.heap.size ≤ w.heap.size + 1 + 1; omega)) _) (.inr (by show w.heap.size ≤ w.heap.size + 1 + 1; omega)) _)⟩
    · have hbi : ¬ (y.e : Int) ≤ (x.e : Int) := by omega
      cases hatT : atT y.t x.t with
      | false =>
        have HX3 := Lib.hid (HX.out.trans ((if_neg (by simp)).trans ((if_neg h3).trans (if_pos hatT))))
        rw [hatT] at HAT
        go_enter Tryz.func23, Tryz.ntmps23
        go_wp2_with fail
        refine HFI.out.mono ?_
        rintro e w1 ⟨rfl, g1⟩
        have G1 := Lib.hid (only_trans M4.out g1)
        have A1 := Lib.hid (heap_kept M1.out g1 (by simp))
        have B1 := Lib.hid (heap_kept M2.out g1 (by simp))
        have C1 := Lib.hid (heap_kept M3.out g1 (by simp))
        clear g1
        obtain ⟨a0, a1, af0, af1⟩ := cells2 A1.out
        obtain ⟨b0, b1, bf0, bf1⟩ := cells2 B1.out
        obtain ⟨c0, c1, c2, cf0, cf1, cf2⟩ := cells3 C1.out
        go_wp2_with fail
        refine (HAT.out GA GB _ G1.out).mono ?_
        rintro e w2 ⟨rfl, g2⟩
        have G2 := Lib.hid (only_trans G1.out g2)
        have A2 := Lib.hid (heap_kept A1.out g2 (by simp))
        have B2 := Lib.hid (heap_kept B1.out g2 (by simp))
        have C2 := Lib.hid (heap_kept C1.out g2 (by simp))
        clear g2 a0 a1 af0 af1 b0 b1 bf0 bf1 c0 c1 c2 cf0 cf1 cf2
        obtain ⟨a0, a1, af0, af1⟩ := cells2 A2.out
        obtain ⟨b0, b1, bf0, bf1⟩ := cells2 B2.out
        obtain ⟨c0, c1, c2, cf0, cf1, cf2⟩ := cells3 C2.out
        go_wp2_with fail
        rw [HX3.out]
        exact bodyPost_ret (ee.results_cell2 rfl _ _ (w.heap.size + 1 + 1) 51 #[.int .u64 0, .int .u64 0, .slice none 0 0] (0, 0) _ rfl (wm.heap_setc (wm.heap_setc (wm.heap_setc C2.out))) Tryz.underlying51 rfl (by kernel_rfl)) rfl ⟨.slice none 0 0, rfl, Rs.nil _ _ _ _, (only_setCell (only_setCell (only_setCell G2.out (.inr (by show w.heap.size ≤ w.heap.size + 1 + 1; omega)) _) (.inr (by show w.heap.size ≤ w.heap.size + 1 + 1; omega)) _) (.inr (by show w.heap.size ≤ w.heap.size + 1 + 1; omega)) _)⟩
      | true =>
        have HX4 := Lib.hid (HX.out.trans ((if_neg (by simp)).trans ((if_neg h3).trans (if_neg (by simp [hatT])))))
        rw [hatT] at HAT
        go_enter Tryz.func23, Tryz.ntmps23
        go_wp2_with fail
        refine HFI.out.mono ?_
        rintro e w1 ⟨rfl, g1⟩
        have G1 := Lib.hid (only_trans M4.out g1)
        have A1 := Lib.hid (heap_kept M1.out g1 (by simp))
        have B1 := Lib.hid (heap_kept M2.out g1 (by simp))
        have C1 := Lib.hid (heap_kept M3.out g1 (by simp))
        clear g1
        obtain ⟨a0, a1, af0, af1⟩ := cells2 A1.out
        obtain ⟨b0, b1, bf0, bf1⟩ := cells2 B1.out
        obtain ⟨c0, c1, c2, cf0, cf1, cf2⟩ := cells3 C1.out
        go_wp2_with fail
        refine (HAT.out GA GB _ G1.out).mono ?_
        rintro e w2 ⟨rfl, g2⟩
        have G2 := Lib.hid (only_trans G1.out g2)
        have A2 := Lib.hid (heap_kept A1.out g2 (by simp))
        have B2 := Lib.hid (heap_kept B1.out g2 (by simp))
        have C2 := Lib.hid (heap_kept C1.out g2 (by simp))
        clear g2 a0 a1 af0 af1 b0 b1 bf0 bf1 c0 c1 c2 cf0 cf1 cf2
        obtain ⟨a0, a1, af0, af1⟩ := cells2 A2.out
        obtain ⟨b0, b1, bf0, bf1⟩ := cells2 B2.out
        obtain ⟨c0, c1, c2, cf0, cf1, cf2⟩ := cells3 C2.out
        go_wp2_with fail
        refine (HCO.out _ G2.out).mono ?_
        rintro e w3 ⟨v3, rfl, o3, g3⟩
        have G3 := Lib.hid (only_trans G2.out g3)
        have A3 := Lib.hid (heap_kept A2.out g3 (by simp))
        have B3 := Lib.hid (heap_kept B2.out g3 (by simp))
        have C3 := Lib.hid (heap_kept C2.out g3 (by simp))
        have HRX3 := Lib.hid (HXL.out.grown (only_trans G2.out g3))
        clear g3 a0 a1 af0 af1 b0 b1 bf0 bf1 c0 c1 c2 cf0 cf1 cf2
        obtain ⟨a0, a1, af0, af1⟩ := cells2 A3.out
        obtain ⟨b0, b1, bf0, bf1⟩ := cells2 B3.out
        obtain ⟨c0, c1, c2, cf0, cf1, cf2⟩ := cells3 C3.out
        have hw2 : w.heap.size ≤ w2.heap.size := G2.out.size
        have hA2 : w.heap.size < w2.heap.size := (Array.getElem?_eq_some_iff.1 A2.out).1
        have hC2 : w.heap.size + 1 + 1 < w2.heap.size := (Array.getElem?_eq_some_iff.1 C2.out).1
        by_cases hy0 : y.t.length = 0
        · obtain ⟨pa, pc, hv3⟩ := o3.shape
          rw [hy0] at hv3
          subst hv3
          have HD0 : Hid (diffT x.t y.t = []) := by show _ = _; rw [List.length_eq_zero_iff.1 hy0]; rfl
          clear o3
          go_wp2_with fail
          refine (del_nil w3 pa pc w.heap.size).mono ?_
          rintro e w4 ⟨rfl, g4⟩
          have G4 := Lib.hid (only_trans G3.out g4)
          have A4 := Lib.hid (heap_kept A3.out g4 (by simp))
          have B4 := Lib.hid (heap_kept B3.out g4 (by simp))
          have C4 := Lib.hid (heap_kept C3.out g4 (by simp))
          clear g4 a0 a1 af0 af1 b0 b1 bf0 bf1 c0 c1 c2 cf0 cf1 cf2
          obtain ⟨a0, a1, af0, af1⟩ := cells2 A4.out
          obtain ⟨b0, b1, bf0, bf1⟩ := cells2 B4.out
          obtain ⟨c0, c1, c2, cf0, cf1, cf2⟩ := cells3 C4.out
          go_wp2_with fail
          go_loopw [42] (fun q wr => q = .int .i64 0 ∧ w4.grownBy wr none) (fun q _ => 0)
          case atStart => exact ⟨rfl, only_refl _ _⟩
          case round =>
            obtain ⟨rfl, g5⟩ := hrel
            rename World => w5
            have G5 := Lib.hid (only_trans G4.out g5)
            have A5 := Lib.hid (heap_kept A4.out g5 (by simp))
            have B5 := Lib.hid (heap_kept B4.out g5 (by simp))
            have C5 := Lib.hid (heap_kept C4.out g5 (by simp))
            clear g5 a0 a1 af0 af1 b0 b1 bf0 bf1 c0 c1 c2 cf0 cf1 cf2
            obtain ⟨a0, a1, af0, af1⟩ := cells2 A5.out
            obtain ⟨b0, b1, bf0, bf1⟩ := cells2 B5.out
            obtain ⟨c0, c1, c2, cf0, cf1, cf2⟩ := cells3 C5.out
            go_wp2_with fail
            rw [HX4.out, HD0.out]
            exact bodyPost_ret (ee.results_cell2 rfl _ _ (w.heap.size + 1 + 1) 51 #[.int .u64 (x.e : Nat), .int .u64 (y.e : Nat), .slice pa 0 pc] (0, 0) _ rfl (wm.heap_setc (wm.heap_setc (wm.heap_setc C5.out))) Tryz.underlying51 rfl (by kernel_rfl)) rfl ⟨.slice pa 0 pc, rfl, Rs.nil _ _ _ _, (only_setCell (only_setCell (only_setCell G5.out (.inr (by show w.heap.size ≤ w.heap.size + 1 + 1; omega)) _) (.inr (by show w.heap.size ≤ w.heap.size + 1 + 1; omega)) _) (.inr (by show w.heap.size ≤ w.heap.size + 1 + 1; omega)) _)⟩
        · obtain ⟨g, cap, T, rfl, hcap, hcm, hgb, hTb, hRW⟩ := RowW.of o3 (by omega)
          have HRW := Lib.hid hRW
          have HTB := Lib.hid hTb
          clear o3 hRW hTb
          have HDL := Lib.hid (del_any w3 g y.t.length cap w.heap.size T y.t (stayed x.t) hyl (by omega) rfl hcap hcm HRW.out HYF.out (fun w9 g9 uz z hz hu => HST.out GA w9 w.heap.size z T uz hz (heap_kept A3.out g9 (by simp; omega)) (HRX3.out.kept (T := fun k => k = g) (Chg.of_grown g9 (fun k e => .inl (by cases e; rfl))) (fun k hk e => by have hk2 : k < w.heap.size := hk; omega)) hu))
          unfold maxLen at hcm
          go_wp2_with fail
          refine HDL.out.mono ?_
          rintro e w4 ⟨m, c', rfl, hm, hR4, hc4, g4⟩
          have G4 := Lib.hid (only_new G3.out g4 (by omega))
          have A4 := Lib.hid (heap_kept A3.out g4 (by simp; omega))
          have B4 := Lib.hid (heap_kept B3.out g4 (by simp; omega))
          have C4 := Lib.hid (heap_kept C3.out g4 (by simp; omega))
          have R4 := Lib.hid hR4
          have HC4 := Lib.hid hc4
          have HM := Lib.hid hm
          have HX4g := Lib.hid (HXL.out.grown G4.out)
          have HDK : Hid (diffT x.t y.t = (kept (stayed x.t) y.t y.t.length).map fun r => ⟨r.d, r.n - getT r.d x.t⟩) := diff_kept x.t y.t
          have HKF : Hid (∀ r ∈ kept (stayed x.t) y.t y.t.length, Fit r ∧ getT r.d x.t ≤ r.n) := by
            intro r hr
            have hr2 : r ∈ y.t := List.mem_of_mem_take (List.mem_filter.1 hr).1
            refine ⟨HYF.out r hr2, ?_⟩
            by_cases hz : getT r.d x.t = 0
            · omega
            · obtain ⟨z, hz1, hz2, hz3⟩ := getT_mem hz
              have h8 := (atT_iff y.t x.t).1 hatT z hz1
              rw [getT_of GB.1.2.2 hr2 (show keyD z.d = key r from hz2)] at h8
              omega
          have hml := kept_le (stayed x.t) y.t y.t.length
          rw [← HM.out] at hml
          have HGE := Lib.hid (fun w9 uz (z : Rw) T9 (hz : Fit z) (hh : Rs (fun k => k < w.heap.size) w9 (.slice ua x.t.length uc) x.t) (hu : EsS T9 w9 uz z.d) => ti.get_any x.t z.d _ _ w9 (.slice ua x.t.length uc) uz (by have := GA.tok.1; omega) GA.tok.2 GA.1.2.2 ⟨hz.1, hz.2.1, hz.2.2.1⟩ hh hu.es)
          generalize kept (stayed x.t) y.t y.t.length = L at *
          clear hR4 hc4 hm g4 a0 a1 af0 af1 b0 b1 bf0 bf1 c0 c1 c2 cf0 cf1 cf2
          obtain ⟨a0, a1, af0, af1⟩ := cells2 A4.out
          obtain ⟨b0, b1, bf0, bf1⟩ := cells2 B4.out
          obtain ⟨c0, c1, c2, cf0, cf1, cf2⟩ := cells3 C4.out
          go_wp2_with fail
          go_loopw [42] (fun q wr => ∃ (i : Nat) (c : Nat → Rw), i ≤ m ∧ q = .int .i64 i ∧ RowW g m T wr c ∧ (∀ (j : Nat) (z : Rw), L[j]? = some z → c j = if j < i then ⟨z.d, z.n - getT z.d x.t⟩ else z) ∧ w4.grownBy wr (some g)) (fun q _ => m - (intOf q).toNat)
          case atStart => exact ⟨0, c', Nat.zero_le _, rfl, R4.out, fun j z hz => by rw [if_neg (by omega)]; exact HC4.out j z hz, only_refl _ _⟩
          case round =>
            obtain ⟨i, c, hi, rfl, hRw, hci, g5⟩ := hrel
            have R5 := Lib.hid hRw
            have HCI := Lib.hid hci
            have K5 := Lib.hid g5
            have G5 := Lib.hid (only_new G4.out g5 (by omega))
            have A5 := Lib.hid (heap_kept A4.out g5 (by simp; omega))
            have B5 := Lib.hid (heap_kept B4.out g5 (by simp; omega))
            have C5 := Lib.hid (heap_kept C4.out g5 (by simp; omega))
            have HX5 := Lib.hid (HXL.out.grown G5.out)
            clear hRw hci g5 a0 a1 af0 af1 b0 b1 bf0 bf1 c0 c1 c2 cf0 cf1 cf2
            obtain ⟨a0, a1, af0, af1⟩ := cells2 A5.out
            obtain ⟨b0, b1, bf0, bf1⟩ := cells2 B5.out
            obtain ⟨c0, c1, c2, cf0, cf1, cf2⟩ := cells3 C5.out
            by_cases hlt : i < m
            · obtain ⟨z, hz⟩ : ∃ z, L[i]? = some z := ⟨L[i]'(by have := HM.out; omega), List.getElem?_eq_getElem _⟩
              have hcz := HCI.out i z hz
              rw [if_neg (by omega)] at hcz
              obtain ⟨hfz, hgz⟩ := HKF.out z (List.mem_of_getElem? hz)
              obtain ⟨uz, e1, e2, e3, e4, e5⟩ := R5.out.2.2 i hlt
              rw [hcz] at e2 e3
              have HES := Lib.hid e2
              obtain ⟨za, zc, rfl⟩ := e2.shape
              have HZ := Lib.hid hz
              have hzn := hfz.2.2.2
              have hglt : g < wr.heap.size := R5.out.1
              have GX := Lib.hid (only_alloc (only_refl wr none) (.cells #[.slice za z.d.length zc, .int .u64 (z.n : Nat)] 80))
              have F0 := Lib.hid (heap_alloc_new wr (.cells #[.slice za z.d.length zc, .int .u64 (z.n : Nat)] 80))
              have HGX := Lib.hid (fun w9 (g9 : (wr.alloc (.cells #[.slice za z.d.length zc, .int .u64 (z.n : Nat)] 80)).grownBy w9 none) => HGE.out w9 _ z _ hfz (HX5.out.grown (only_trans GX.out g9)) (HES.out.grown (only_trans GX.out g9)))
              have HSN := Lib.hid (fun w9 (g9 : (wr.alloc (.cells #[.slice za z.d.length zc, .int .u64 (z.n : Nat)] 80)).grownBy w9 none) => (R5.out.grown (only_trans GX.out g9)).setN (i := i) hlt (z.n - getT z.d x.t))
              have HCZ := Lib.hid hcz
              have hg1 : g ≠ wr.heap.size := by omega
              have hg2 : g ≠ w.heap.size := by omega
              have HRC := Lib.hid (fun w9 (g9 : (wr.alloc (.cells #[.slice za z.d.length zc, .int .u64 (z.n : Nat)] 80)).grownBy w9 none) => (show (∃ q, w9.cell? ⟨g, i * 2 + 1, none⟩ = some q) ∧ w9.frozen? ⟨g, i * 2 + 1, none⟩ = false from by
                obtain ⟨_, _, _, q3, _, q5⟩ := (R5.out.grown (only_trans GX.out g9)).2.2 i hlt
                exact ⟨⟨_, q3⟩, q5⟩))
              have HCE := Lib.hid (fun w9 (g9 : (wr.alloc (.cells #[.slice za z.d.length zc, .int .u64 (z.n : Nat)] 80)).grownBy w9 none) => (show w9.cell? ⟨wr.heap.size, 0, none⟩ = some (.slice za z.d.length zc) ∧ w9.cell? ⟨wr.heap.size, 1, none⟩ = some (.int .u64 (z.n : Nat)) ∧ w9.cell? ⟨w.heap.size, 1, none⟩ = some (.slice ua x.t.length uc) from
                ⟨(cells2 (heap_kept F0.out g9 (by simp))).1, (cells2 (heap_kept F0.out g9 (by simp))).2.1, (cells2 (heap_kept (heap_kept A5.out GX.out (by simp)) g9 (by simp))).2.1⟩))
              have HSE := Lib.hid (fun w9 (g9 : (wr.alloc (.cells #[.slice za z.d.length zc, .int .u64 (z.n : Nat)] 80)).grownBy w9 none) qv => (show (w9.setCell ⟨g, i * 2 + 1, none⟩ qv).cell? ⟨wr.heap.size, 0, none⟩ = some (.slice za z.d.length zc) ∧ (w9.setCell ⟨g, i * 2 + 1, none⟩ qv).cell? ⟨wr.heap.size, 1, none⟩ = some (.int .u64 (z.n : Nat)) ∧ (w9.setCell ⟨g, i * 2 + 1, none⟩ qv).cell? ⟨w.heap.size, 1, none⟩ = some (.slice ua x.t.length uc) from by
                obtain ⟨s1, s2, s3⟩ := HCE.out w9 g9
                refine ⟨?_, ?_, ?_⟩
                · rw [World.cell?_setCell_other _ _ _ _ (by simp only [ne_eq, Addr.mk.injEq, and_true]; intro e; exact hg1 e.1)]; exact s1
                · rw [World.cell?_setCell_other _ _ _ _ (by simp only [ne_eq, Addr.mk.injEq, and_true]; intro e; exact hg1 e.1)]; exact s2
                · rw [World.cell?_setCell_other _ _ _ _ (by simp only [ne_eq, Addr.mk.injEq, and_true]; intro e; exact hg2 e.1)]; exact s3))
              clear hz hcz e2 hfz
              generalize hnn : getT z.d x.t = n at *
              have HNN := Lib.hid hnn
              have hwr : IntKind.u64.wrap ((z.n : Int) - (n : Int)) = ((z.n - n : Nat) : Int) := by rw [IntKind.wrap_u64]; omega
              have hsub : ((z.n - n : Nat) : Int) = (z.n : Int) - (n : Int) := by omega
              have HWR := Lib.hid hwr
              have HSUB := Lib.hid hsub
              clear hnn hsub
              go_wp2_with fail
              generalize wr.alloc (.cells #[.slice za z.d.length zc, .int .u64 (z.n : Nat)] 80) = wa at *
              have HDR := Lib.hid (only_drew (only_refl wa none))
              obtain ⟨p0, p1, p2⟩ := HCE.out wa (only_refl _ _)
              go_region_held3 (fun w' => w'.cell? ⟨wr.heap.size, 0, none⟩ = some (.slice za z.d.length zc) ∧ w'.cell? ⟨wr.heap.size, 1, none⟩ = some (.int .u64 (z.n : Nat)) ∧ w'.cell? ⟨w.heap.size, 1, none⟩ = some (.slice ua x.t.length uc))
                (first
                  | go_keep
                  | exact HCE.out _ G9.out
                  | exact HSE.out _ G9.out _)
                (first
                  | (go_at_call 64; refine (HGX.out _ HDR.out).mono ?_; rintro e w9 ⟨rfl, g9⟩; have G9 := Lib.hid (only_trans HDR.out g9); obtain ⟨⟨q0, q1⟩, q2⟩ := HRC.out _ G9.out; clear g9))
              have HSM := Lib.hid (HSN.out w9 G9.out)
              go_wp2_with fail
              go_roundw
              case rel =>
                refine ⟨i + 1, _, by omega, by go_num, by first | exact HSM.out | (have h9 := HSM.out; rw [HSUB.out] at h9; exact h9), fun j t ht => ?_, only_setCell (p := ⟨g, i * 2 + 1, none⟩) (only_trans K5.out (only_of_none (only_trans GX.out G9.out) _)) (.inl rfl) _⟩
                by_cases hji : j = i
                · subst hji
                  obtain rfl : t = z := by have h9 := HZ.out; rw [ht] at h9; exact Option.some.inj h9
                  simp only [if_true]
                  rw [if_pos (by omega), HCZ.out, HNN.out]
                · simp only [if_neg hji]
                  rw [HCI.out j t ht]
                  by_cases hlt2 : j < i
                  · rw [if_pos hlt2, if_pos (by omega)]
                  · rw [if_neg hlt2, if_neg (by omega)]
              case measure => simp [intOf]; omega
            · have hie : i = m := by omega
              subst hie
              go_wp2_with fail
              rw [HX4.out, HDK.out]
              have RZ : Rs (fun k => k < wr.heap.size) wr (.slice (some ⟨g, 0, none⟩) i cap) (L.map fun r => (⟨r.d, r.n - getT r.d x.t⟩ : Rw)) := ((R5.out.rs (rs := L.map fun r => (⟨r.d, r.n - getT r.d x.t⟩ : Rw)) (by rw [List.length_map]; exact HM.out.symm) (by omega) (by unfold maxLen; omega) (fun j z hz => by
                rw [List.getElem?_map] at hz
                cases hz2 : L[j]? with
                | none => rw [hz2] at hz; simp at hz
                | some t =>
                  rw [hz2] at hz
                  simp at hz
                  have hji : j < i := by have := (List.getElem?_eq_some_iff.1 hz2).1; have := HM.out; omega
                  rw [HCI.out j t hz2, if_pos hji]
                  exact hz))).low
              exact bodyPost_ret (ee.results_cell2 rfl _ _ (w.heap.size + 1 + 1) 51 #[.int .u64 (x.e : Nat), .int .u64 (y.e : Nat), .slice (some ⟨g, 0, none⟩) i cap] (0, 0) _ rfl (wm.heap_setc (wm.heap_setc (wm.heap_setc C5.out))) Tryz.underlying51 rfl (by kernel_rfl)) rfl ⟨.slice (some ⟨g, 0, none⟩) i cap, rfl, rs_off3 RZ C5.out (only_setCell (only_setCell (only_setCell (only_refl _ (some (w.heap.size + 1 + 1))) (.inl rfl) _) (.inl rfl) _) (.inl rfl) _), (only_setCell (only_setCell (only_setCell G5.out (.inr (by show w.heap.size ≤ w.heap.size + 1 + 1; omega)) _) (.inr (by show w.heap.size ≤ w.heap.size + 1 + 1; omega)) _) (.inr (by show w.heap.size ≤ w.heap.size + 1 + 1; omega)) _)⟩
  · have HX1 : Hid (R = (dt0, fc)) := by show _ = _; rw [HX.out, if_pos h2]
    have hqb : ((fc : Int) != 0) = true := by rw [bne_iff_ne]; omega
    go_enter Tryz.func23, Tryz.ntmps23
    go_wp2_with fail
    refine HFI.out.mono ?_
    rintro e w1 ⟨rfl, g1⟩
    have G1 := Lib.hid (only_trans M4.out g1)
    have A1 := Lib.hid (heap_kept M1.out g1 (by simp))
    have B1 := Lib.hid (heap_kept M2.out g1 (by simp))
    have C1 := Lib.hid (heap_kept M3.out g1 (by simp))
    clear g1
    obtain ⟨a0, a1, af0, af1⟩ := cells2 A1.out
    obtain ⟨b0, b1, bf0, bf1⟩ := cells2 B1.out
    obtain ⟨c0, c1, c2, cf0, cf1, cf2⟩ := cells3 C1.out
    go_wp2_with fail
    rw [HX1.out]
    exact bodyPost_ret (ee.results_cell2 rfl _ _ (w.heap.size + 1 + 1) 51 #[.int .u64 0, .int .u64 0, .slice none 0 0] (0, 0) _ rfl (wm.heap_setc (wm.heap_setc (wm.heap_setc C1.out))) Tryz.underlying51 rfl (by kernel_rfl)) rfl ⟨.slice none 0 0, rfl, Rs.nil _ _ _ _, (only_setCell (only_setCell (only_setCell G1.out (.inr (by show w.heap.size ≤ w.heap.size + 1 + 1; omega)) _) (.inr (by show w.heap.size ≤ w.heap.size + 1 + 1; omega)) _) (.inr (by show w.heap.size ≤ w.heap.size + 1 + 1; omega)) _)⟩

end Go.Proofs.YtbebdaglkjhbjaaGreatDoor.da

/-
  The developers' package delta: Same; what comes out may be.
-/
namespace Go.Proofs.YtbebdaglkjhbjaaGreatDoor.da
open Go.RowKit Go.Proofs.YtbebdaglkjhbjaaGreatDoor.vi Go.Proofs.YtbebdaglkjhbjaaGreatDoor.um Go.Proofs.YtbebdaglkjhbjaaGreatDoor.wm Go.Proofs.YtbebdaglkjhbjaaGreatDoor.tr Go.Proofs.YtbebdaglkjhbjaaGreatDoor.em Go.Proofs.YtbebdaglkjhbjaaGreatDoor.rm Go.Proofs.YtbebdaglkjhbjaaGreatDoor.law11 Go.Proofs.YtbebdaglkjhbjaaGreatDoor.dd Go.Proofs.YtbebdaglkjhbjaaGreatDoor.dr Go.Proofs.YtbebdaglkjhbjaaGreatDoor.tm Go.Proofs.YtbebdaglkjhbjaaGreatDoor.tf Go.Proofs.YtbebdaglkjhbjaaGreatDoor.dl Go.Proofs.YtbebdaglkjhbjaaGreatDoor.dz Go.Proofs.YtbebdaglkjhbjaaGreatDoor.ti
set_option linter.unusedVariables false
set_option linter.unusedSimpArgs false

set_option maxRecDepth 100000 in
theorem dsame_any (a b : Sn) (S T : Nat → Prop) (w : World) (u v : Value) (ha : Tok a.t) (h : Rs S w u a.t) (h2 : Rs T w v b.t) :
    Calls Tryz.prog 36 #[snV a u, snV b v] w fun e w' => e = .returned (.bool (sameX a b)) ∧ w.grownBy w' none := by
  have HS := Lib.hid (fun w1 (g : w.grownBy w1 none) => same_any a.t b.t S T w1 u v (by have := ha.1; omega) (fun r hr => by have := (ha.2 r hr).1; omega) (h.grown g) (h2.grown g))
  obtain ⟨ua, uc, rfl⟩ := h.shape
  obtain ⟨va, vc, rfl⟩ := h2.shape
  have M := Lib.hid (made2 w (.cells #[.int .u64 (a.e : Nat), .slice ua a.t.length uc] 49) (.cells #[.int .u64 (b.e : Nat), .slice va b.t.length vc] 49)).2.2.1
  clear ha h h2
  unfold snV sameX
  generalize decide (a.t = b.t) = q at *
  obtain ⟨p1, t1⟩ := a
  obtain ⟨p2, t2⟩ := b
  simp only at *
  by_cases h0 : p1 = p2
  · subst h0
    have h0b : ((p1 : Int) == (p1 : Int)) = true := by simp
    rw [decide_eq_true rfl, Bool.true_and]
    go_enter Tryz.func36, Tryz.ntmps36
    go_wp2_with fail
    refine (HS.out _ M.out).mono ?_
    rintro e w1 ⟨rfl, g1⟩
    go_wp2_with fail
    go_ret
    exact ⟨rfl, only_trans M.out g1⟩
  · rw [decide_eq_false h0, Bool.false_and]
    have h0b : ((p1 : Int) == (p2 : Int)) = false := by rw [beq_eq_false_iff_ne]; omega
    go_enter Tryz.func36, Tryz.ntmps36
    go_wp2_with fail
    go_ret
    exact ⟨rfl, M.out⟩

theorem sameX_self (a : Sn) : sameX a a = true := by simp [sameX]
theorem gk_nil : Gk [] := ⟨⟨by simp, by simp, by simp⟩, fun r hr => by simp at hr⟩
theorem diffX_err {a b : Sn} (h : (diffX a b).2 ≠ 0) : (diffX a b).1 = dt0 := by
  unfold diffX at h ⊢
  split
  · rfl
  · rename_i h1
    rw [if_neg h1] at h
    split
    · rfl
    · rename_i h2
      rw [if_neg h2] at h
      split
      · rfl
      · rename_i h3
        rw [if_neg h3] at h
        exact absurd rfl h
theorem applyX_err {a : Sn} {c : Dt} (h : (applyX a c).2 ≠ 0) : (applyX a c).1 = sn0 := by
  unfold applyX at h ⊢
  split
  · rfl
  · rename_i h1
    rw [if_neg h1] at h
    split
    · rfl
    · rename_i h2
      rw [if_neg h2] at h
      split
      · rfl
      · rename_i h3
        rw [if_neg h3] at h
        exact absurd rfl h
theorem diff_gk {a b : Sn} (hb : Tok b.t) : Gk (diffX a b).1.t := by
  by_cases h : (diffX a b).2 = 0
  · obtain ⟨h1, h2, -, h4, h5⟩ := diffX_ok h
    rw [h5]
    exact ⟨(diff_get h1 h2 h4).1, diff_64 fun r hr => (hb.2 r hr).2.2.2⟩
  · rw [diffX_err h]; exact gk_nil
theorem apply_gk {a : Sn} {c : Dt} (hc : Tok c.t) : Gk (applyX a c).1.t := by
  by_cases h : (applyX a c).2 = 0
  · obtain ⟨h1, h2, -, -, h5, h6⟩ := applyX_ok h
    rw [h6]
    exact ⟨(sum_get h1 h2 h5).1, sum_64 fun r hr => (hc.2 r hr).2.2.2⟩
  · rw [applyX_err h]; exact gk_nil

end Go.Proofs.YtbebdaglkjhbjaaGreatDoor.da
