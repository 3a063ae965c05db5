/-
  FieldClones, for whatever keeps the contracts of fields.
-/
import Derived.Test.YtbelpcniogcfoaaDoorLaw08T
import Derived.Test.YtbelpcniogcfoaaDoorTreeTurn
namespace Go.Proofs.YtbelpcniogcfoaaDoor.law08
open Go.RowKit Go.Proofs.YtbelpcniogcfoaaDoor.tr
set_option linter.unusedVariables false
set_option linter.unusedSimpArgs false

/-- turn, of a row of the call's own: a list of as many, that isn't the same. -/
theorem turn_own {w : World} {ty : TypeId} {base : Nat} {S : Nat → Prop} {v : Value} {ts : List Tree} (h : OwnF ty base S w v ts) (hf : ∀ k, S k → ∀ j, w.frozen? ⟨k, j, none⟩ = false) (ht : ∀ t, ts[0]? = some t → t.tag < 18446744073709551616) :
    Calls Tryd.prog 32 #[v] w fun e w' => e = .returned (.tuple #[]) ∧ ∃ ts', Rd w' (fun k => S k ∨ v.ownBlock = some k) v ts' ∧ sizeL ts' = sizeL ts ∧ (0 < ts.length → sameL ts' ts = false) ∧ Chg (fun k => S k ∨ v.ownBlock = some k) w w' := by
  have hrd := h.rd
  obtain ⟨lv, h1, h2, h3, h4⟩ := h
  by_cases h0 : ts.length = 0
  · obtain ⟨a, cap, rfl⟩ := hrd.shape
    rw [h0]
    refine (turn_none a cap w).mono fun e w' ⟨he, hw⟩ => ⟨he, ts, ?_, rfl, fun h => by omega, by rw [hw]; exact Chg.refl _ w⟩
    rw [hw, ← h0]
    exact hrd
  · rcases h1.2 with ⟨rfl, hz⟩ | ⟨g, cap, cur, rfl, hb, hg, hnc, hcm, hcs, htake⟩
    · exact absurd hz h0
    · have hfg : ∀ j, w.frozen? ⟨g, j, none⟩ = false := fun j => by simp [World.frozen?, hg]
      have hcells : ∀ i t, ts[i]? = some t → Cells w g (0 + i * 5) t (lv i) := fun i t ht => by
        obtain ⟨f0, f1, f2, f3, f4⟩ := flat_get ts lv i t ht
        have hc := fun j u (hj : (flat ts lv)[j]? = some u) => World.ownsRow.cells h1 (g := g) rfl j u hj
        have ha : ∀ j, (⟨g, 0, none⟩ : Addr).add j = ⟨g, j, none⟩ := fun j => by rw [show (⟨g, 0, none⟩ : Addr).add j = ⟨g, 0 + j, none⟩ from Addr.add_lit .., Nat.zero_add]
        simp only [ha] at hc
        exact ⟨by rw [Nat.zero_add]; exact hc _ _ f0, by rw [Nat.zero_add]; exact hc _ _ f1, by rw [Nat.zero_add]; exact hc _ _ f2, by rw [Nat.zero_add]; exact hc _ _ f3, by rw [Nat.zero_add]; exact hc _ _ f4⟩
      refine (turn_row _ ts (Nat.le_refl _) (by omega) w S g 0 cap lv hnc hcm ⟨hcells, h2⟩ hf hfg).mono ?_
      rintro e w' ⟨rfl, k1, k2, k3, k4⟩
      obtain ⟨ts', j1, j2, j3⟩ := hrd.tagged k1
      refine ⟨rfl, ts', j1, j3, fun hp => ?_, k2.mono (fun k hk => by rcases hk with hk | rfl; { exact .inl (.inl hk) }; exact .inl (.inr rfl))⟩
      obtain ⟨t, ht0⟩ : ∃ t, ts[0]? = some t := ⟨ts[0], List.getElem?_eq_getElem (by omega)⟩
      obtain ⟨t', ht0'⟩ : ∃ t, ts'[0]? = some t := ⟨ts'[0], List.getElem?_eq_getElem (by omega)⟩
      have hc1 := k4 (h4 g rfl) t ht0
      obtain ⟨b', off', cap', lv', hv', -, -, -, -, hc', -⟩ := j1.at ht0'
      simp only [Value.slice.injEq, Option.some.injEq, Addr.mk.injEq, and_true] at hv'
      obtain ⟨⟨rfl, rfl⟩, -, rfl⟩ := hv'
      have hc2 := hc'.c0
      simp only [Nat.zero_mul, Nat.add_zero] at hc2
      rw [hc1] at hc2
      simp only [Option.some.injEq, Value.int.injEq, true_and] at hc2
      have htg := ht t ht0
      refine same_not (fun e => ?_)
      subst e
      rw [ht0] at ht0'
      simp at ht0'
      subst ht0'
      omega

/-- What stays while clones are made, and turned. -/
structure Kept (M N lb tag : Nat) (X : List Tree) (vx vw vl : Value) (w : World) : Prop where
  rx : Rd w (fun k => k < M) vx X
  rw' : Rd w (fun k => k < M) vw X
  rl : Rd w (fun k => N ≤ k) vl X
  var : Var w lb (.mk tag 2 0 ⟨#[]⟩ []) vl
  lbN : N ≤ lb

theorem Kept.kept {M N lb tag : Nat} {X : List Tree} {vx vw vl : Value} {w w' : World} {T : Nat → Prop} (h : Kept M N lb tag X vx vw vl w) (g : Chg T w w') (hT : ∀ k, T k → M ≤ k ∧ k < N) : Kept M N lb tag X vx vw vl w' :=
  ⟨h.rx.kept g (fun k h1 h2 => by have := hT k h2; omega), h.rw'.kept g (fun k h1 h2 => by have := hT k h2; omega), h.rl.kept g (fun k h1 h2 => by have := hT k h2; omega), h.var.kept g (fun h2 => by have := hT lb h2; have := h.lbN; omega), h.lbN⟩
theorem Kept.grown {M N lb tag : Nat} {X : List Tree} {vx vw vl : Value} {w w' : World} (h : Kept M N lb tag X vx vw vl w) (g : w.grownBy w' none) : Kept M N lb tag X vx vw vl w' :=
  h.kept (T := fun _ => False) (Chg.of_none g) (fun k e => e.elim)

theorem first_tag {B : Nat} {w : World} {a : Option Addr} {cap : Nat} {xs : List OneT} (h : Ones B w a cap xs) : ∀ t, (fromL xs 0)[0]? = some t → t.tag < 18446744073709551616 := fun t ht => by
  cases xs with
  | nil => rw [fromL_nil] at ht; simp at ht
  | cons x r =>
    have hx := (h.2.1 x List.mem_cons_self).2.2
    by_cases h255 : x.deep = 255
    · rw [fromL_flat (by omega) h255] at ht
      simp at ht; subst ht; exact hx
    · rw [fromL_deep (by omega) h255] at ht
      simp at ht; subst ht; exact hx
theorem make_pos {xs : List OneT} (h : 0 < xs.length) : 0 < (fromL xs 0).length := by
  cases xs with
  | nil => simp at h
  | cons x r =>
    by_cases h255 : x.deep = 255
    · rw [fromL_flat (by omega) h255]; simp
    · rw [fromL_deep (by omega) h255]; simp

set_option maxHeartbeats 8000000 in
set_option maxRecDepth 100000 in
theorem clones_any (I : FI) (W : World) (hT : I.Tab W) (a : Option Addr) (ca : Nat) (xs : List OneT) (hx : xs.length ≤ maxLen) (ha : Ones W.heap.size W a ca xs) (tag : Nat) :
    Calls Tryd.prog 6 #[.slice a xs.length ca, .int .u64 (tag : Nat)] W fun e w' => e = .returned (.bool true) ∧ W.grownBy w' none := by
  have HA := Lib.hid (awake_any I W hT)
  have HF1 := Lib.hid (fun w (g : W.grownBy w none) => few_any xs hx _ w a ca (ha.grown g))
  cases hf : fewB xs with
  | false =>
    rw [hf] at HF1
    clear hf ha
    unfold maxLen at hx
    go_enter Tryd.func6, Tryd.ntmps6
    go_wp2_with fail
    refine HA.out.mono ?_
    rintro e w1 ⟨rfl, g1⟩
    go_wp2_with fail
    refine (HF1.out _ g1).mono ?_
    rintro e w2 ⟨rfl, g2⟩
    go_wp2_with fail
    go_ret
    exact ⟨rfl, only_trans g1 g2⟩
  | true =>
    rw [hf] at HF1
    have hlx := few_len hf
    have HM1 := Lib.hid (fun w (g : W.grownBy w none) => make_any xs (by omega) W.heap.size w a ca g.size (ha.grown g))
    have hsx := make_size xs
    have HFT := Lib.hid (first_tag ha)
    have HMP := Lib.hid (@make_pos xs)
    clear hf ha hx
    have hbx : sizeL (fromL xs 0) ≤ 1000 := by omega
    generalize fromL xs 0 = X at *
    have HOF := Lib.hid (fun w S v => of_any _ X (Nat.le_refl _) hbx w S v)
    have HCL := Lib.hid (fun w S v => I.clone X w S v hbx)
    have HOL := Lib.hid (fun w S v => I.ofList tag X w S v hbx)
    have HSS := Lib.hid (fun w S S' v u => rsame_any _ X X (Nat.le_refl _) (by omega) w S S' v u)
    rw [same_self] at HSS
    have HBX := Lib.hid hbx
    clear hsx hbx
    go_enter Tryd.func6, Tryd.ntmps6
    go_wp2_with fail
    refine HA.out.mono ?_
    rintro e w1 ⟨rfl, g1⟩
    go_wp2_with fail
    refine (HF1.out _ g1).mono ?_
    rintro e w2 ⟨rfl, g2⟩
    have G2 := Lib.hid (only_trans g1 g2)
    clear g1 g2
    go_wp2_with fail
    refine (HM1.out _ G2.out).mono ?_
    rintro e w3 ⟨vx, S1, rfl, o1, -, g3⟩
    have G3 := Lib.hid (only_trans G2.out g3)
    have R1 := Lib.hid o1.rd.tight
    clear o1 g3
    go_wp2_with fail
    refine (HOF.out _ _ _ R1.out).mono ?_
    rintro e w4 ⟨vw, S2, rfl, o2, -, g4⟩
    have G4 := Lib.hid (only_trans G3.out g4)
    have RX4 := Lib.hid ((R1.out.grown g4).mono (T := fun k => k < w4.heap.size) (fun k hk _ => hk))
    have RW4 := Lib.hid (o2.rd.mono (T := fun k => k < w4.heap.size) (fun k hk _ => hk))
    clear o2 g4
    go_wp2_with fail
    refine (HCL.out _ _ _ RX4.out).mono ?_
    rintro e w5 ⟨vc, S3, rfl, o3, hS3, hz3, g5⟩
    have G5 := Lib.hid (only_trans G4.out g5)
    have RX5 := Lib.hid (RX4.out.grown g5)
    have RW5 := Lib.hid (RW4.out.grown g5)
    have HC5 := Lib.hid o3
    have HZ5 := Lib.hid hz3
    have HB5 : Hid (∀ k, (S3 k ∨ vc.ownBlock = some k) → w4.heap.size ≤ k ∧ k < w5.heap.size) := fun k hk => ⟨by rcases hk with hk | hk; { exact hS3 k hk }; exact (o3.lt k hk).1, o3.all_lt k hk⟩
    clear o3 hS3 hz3 g5
    go_wp2_with fail
    refine (HOL.out _ _ _ RX5.out).mono ?_
    rintro e w6 ⟨vl, S4, rfl, o4, hS4, g6⟩
    obtain ⟨pl, ql, hvl⟩ := o4.rd.shape
    have G6 := Lib.hid (only_trans G5.out g6)
    have hsz6 := g6.size
    have RX6 := Lib.hid (RX5.out.grown g6)
    have RW6 := Lib.hid (RW5.out.grown g6)
    have HC6 := Lib.hid (HC5.out.grown g6)
    have HZ6 : Hid (∀ k, S3 k → ∀ j, w6.frozen? ⟨k, j, none⟩ = false) := fun k hk j => by
      rw [World.frozen?_of_block (g6.block k (HB5.out k (.inl hk)).2 (by simp))]
      exact HZ5.out k hk j
    have RL6 := Lib.hid (o4.rd.mono (T := fun k => w5.heap.size ≤ k) (fun k _ hk => by rcases hk with hk | hk; { exact hS4 k hk }; exact (o4.lt k hk).1))
    clear o4 hS4 g6
    have hkept : Kept w4.heap.size w5.heap.size w6.heap.size tag X vx vw vl (w6.alloc (.cells #[.int .u64 (tag : Nat), .int .i64 2, .int .u64 0, .string ⟨#[]⟩, vl] 48)) :=
      ⟨RX6.out.grown (only_alloc (only_refl _ none) _), RW6.out.grown (only_alloc (only_refl _ none) _), RL6.out.grown (only_alloc (only_refl _ none) _), var_new w6 48 (.mk tag 2 0 ⟨#[]⟩ []) vl, hsz6⟩
    have K7 := Lib.hid hkept
    have HC7 := Lib.hid (HC6.out.grown (only_alloc (only_refl w6 none) (.cells #[.int .u64 (tag : Nat), .int .i64 2, .int .u64 0, .string ⟨#[]⟩, vl] 48)))
    have HZ7 : Hid (∀ k, S3 k → ∀ j, (w6.alloc (.cells #[.int .u64 (tag : Nat), .int .i64 2, .int .u64 0, .string ⟨#[]⟩, vl] 48)).frozen? ⟨k, j, none⟩ = false) := fun k hk j => by
      have hk2 : k < w6.heap.size := by have := HB5.out k (.inl hk); omega
      rw [World.frozen?_of_block (heap_alloc_old w6 _ hk2)]
      exact HZ6.out k hk j
    have G7 := Lib.hid (only_alloc G6.out (.cells #[.int .u64 (tag : Nat), .int .i64 2, .int .u64 0, .string ⟨#[]⟩, vl] 48))
    clear hkept RX4 RW4 RX5 RW5 RX6 RW6 HC5 HC6 HZ5 HZ6 RL6 R1
    subst hvl
    go_wp2_with fail
    generalize w6.alloc (.cells #[.int .u64 (tag : Nat), .int .i64 2, .int .u64 0, .string ⟨#[]⟩, .slice pl X.length ql] 48) = w7 at *
    generalize w6.heap.size = lb at *
    have HZF : Hid (∀ w', w7.grownBy w' none → ∀ k, S3 k → ∀ j, w'.frozen? ⟨k, j, none⟩ = false) := fun w' g k hk j => by
      have hk2 : k < w7.heap.size := HC7.out.all_lt k (.inl hk)
      rw [World.frozen?_of_block (g.block k hk2 (by simp))]
      exact HZ7.out k hk j
    refine (HOF.out _ _ _ HC7.out.rd).mono ?_
    rintro e w8 ⟨v5, S5, rfl, o5, -, g8⟩
    have T8 := Lib.hid g8
    have R5 := Lib.hid o5.rd
    clear o5 g8
    obtain ⟨d0, d1, d2, d3, d4⟩ := (K7.out.grown T8.out).var
    simp only [Tree.tag, Tree.typ, Tree.num, Tree.text] at d0 d1 d2 d3
    go_wp2_with fail
    refine (HSS.out _ _ _ _ _ R5.out (K7.out.grown T8.out).rw').mono ?_
    rintro e w9 ⟨rfl, m9, rfl⟩
    have T9 := Lib.hid (only_drewN T8.out m9)
    go_wp2_with fail
    refine (HOF.out _ _ _ (K7.out.grown T9.out).rl).mono ?_
    rintro e w10 ⟨v6, S6, rfl, o6, -, g10⟩
    have T10 := Lib.hid (only_trans T9.out g10)
    have R6 := Lib.hid o6.rd
    clear o6 g10 d0 d1 d2 d3 d4
    obtain ⟨d0, d1, d2, d3, d4⟩ := (K7.out.grown T10.out).var
    simp only [Tree.tag, Tree.typ, Tree.num, Tree.text] at d0 d1 d2 d3
    go_wp2_with fail
    refine (HSS.out _ _ _ _ _ R6.out (K7.out.grown T10.out).rw').mono ?_
    rintro e w11 ⟨rfl, m11, rfl⟩
    have T11 := Lib.hid (only_drewN T10.out m11)
    go_wp2_with fail
    refine (turn_own (HC7.out.grown T11.out) (HZF.out _ T11.out) HFT.out).mono ?_
    rintro e w12 ⟨rfl, ts', j1, j2, j3, j4⟩
    have RC := Lib.hid j1
    have HJ2 := Lib.hid j2
    have HJ3 := Lib.hid j3
    have K12 := Lib.hid ((K7.out.grown T11.out).kept j4 (fun k hk => HB5.out k hk))
    have G12 : Hid (W.grownBy w12 none) := Chg.none_new (only_trans G7.out T11.out) j4 (fun k hk => by have h1 := (HB5.out k hk).1; have h2 := G4.out.size; omega)
    clear j1 j2 j3 j4 d0 d1 d2 d3 d4 HZF HZ7 HC7 K7
    go_wp2_with fail
    refine (HOF.out _ _ _ K12.out.rx).mono ?_
    rintro e w13 ⟨v7, S7, rfl, o7, -, g13⟩
    have T13 := Lib.hid g13
    have R7 := Lib.hid o7.rd
    clear o7 g13
    obtain ⟨d0, d1, d2, d3, d4⟩ := (K12.out.grown T13.out).var
    simp only [Tree.tag, Tree.typ, Tree.num, Tree.text] at d0 d1 d2 d3
    go_wp2_with fail
    refine (HSS.out _ _ _ _ _ R7.out (K12.out.grown T13.out).rw').mono ?_
    rintro e w14 ⟨rfl, m14, rfl⟩
    have T14 := Lib.hid (only_drewN T13.out m14)
    go_wp2_with fail
    refine (HOF.out _ _ _ (K12.out.grown T14.out).rl).mono ?_
    rintro e w15 ⟨v8, S8, rfl, o8, -, g15⟩
    have T15 := Lib.hid (only_trans T14.out g15)
    have R8 := Lib.hid o8.rd
    clear o8 g15 d0 d1 d2 d3 d4
    go_wp2_with fail
    refine (HSS.out _ _ _ _ _ R8.out (K12.out.grown T15.out).rw').mono ?_
    rintro e w16 ⟨rfl, m16, rfl⟩
    have T16 := Lib.hid (only_drewN T15.out m16)
    by_cases h0 : xs.length = 0
    · have hl0 : ((xs.length : Int) == 0) = true := by rw [h0]; rfl
      clear h0
      go_wp2_with fail
      go_ret
      exact ⟨rfl, only_trans G12.out T16.out⟩
    · have hl0 : ((xs.length : Int) == 0) = false := by rw [beq_eq_false_iff_ne]; omega
      have hsf := HJ3.out (HMP.out (by omega))
      have HO2 := Lib.hid (fun w S v => of_any _ ts' (Nat.le_refl _) (by rw [HJ2.out]; exact HBX.out) w S v)
      have HS2 := Lib.hid (fun w S S' v u => rsame_any _ ts' X (Nat.le_refl _) (by rw [HJ2.out]; have := HBX.out; omega) w S S' v u)
      rw [hsf] at HS2
      clear h0 hsf
      go_wp2_with fail
      refine (HO2.out _ _ _ (RC.out.grown T16.out)).mono ?_
      rintro e w17 ⟨v9, S9, rfl, o9, -, g17⟩
      have T17 := Lib.hid (only_trans T16.out g17)
      have R9 := Lib.hid o9.rd
      clear o9 g17
      go_wp2_with fail
      refine (HS2.out _ _ _ _ _ R9.out (K12.out.grown T17.out).rw').mono ?_
      rintro e w18 ⟨rfl, m18, rfl⟩
      go_wp2_with fail
      go_ret
      exact ⟨rfl, only_trans G12.out (only_drewN T17.out _)⟩

end Go.Proofs.YtbelpcniogcfoaaDoor.law08
