/-
  PickMerges.
-/
import Derived.Test.YtieheclnkopfpaaGreatDoorPlists
import Derived.Test.YtieheclnkopfpaaGreatDoorLaw10K
namespace Go.Proofs.YtieheclnkopfpaaGreatDoor.law10
open Go.RowKit Go.Proofs.YtieheclnkopfpaaGreatDoor.tr Go.Proofs.YtieheclnkopfpaaGreatDoor.pm Go.Proofs.YtieheclnkopfpaaGreatDoor.pp Go.Proofs.YtieheclnkopfpaaGreatDoor.vi Go.Proofs.YtieheclnkopfpaaGreatDoor.wm
set_option linter.unusedVariables false
set_option linter.unusedSimpArgs false

/-- Two rows of lists of a call's own. -/
def Both (ta tb : TypeId) (B : Nat) (w : World) (va vb : Value) (La Lb : List (List Tree)) : Prop :=
  ∃ S, OwnS ta B S w va La ∧ OwnS tb B S w vb Lb ∧ ∀ k, va.ownBlock = some k → vb.ownBlock = some k → False

section
variable {w w1 : World} {va vb u : Value} {La Lb : List (List Tree)} {l : List Tree} {ta tb : TypeId} {B : Nat}
theorem Both.nil (ta tb : TypeId) (B : Nat) (w : World) : Both ta tb B w (.slice none 0 0) (.slice none 0 0) [] [] :=
  ⟨fun _ => False, .nil _ _ _, .nil _ _ _, fun k e => by simp [Value.ownBlock] at e⟩
theorem Both.swap (h : Both ta tb B w va vb La Lb) : Both tb ta B w vb va Lb La := by
  obtain ⟨S, h1, h2, h3⟩ := h
  exact ⟨S, h2, h1, fun k e1 e2 => h3 k e2 e1⟩
theorem Both.grown (h : Both ta tb B w va vb La Lb) (g : w.grownBy w1 none) : Both ta tb B w1 va vb La Lb := by
  obtain ⟨S, h1, h2, h3⟩ := h
  exact ⟨S, h1.grown g, h2.grown g, h3⟩
theorem Both.lls (h : Both ta tb B w va vb La Lb) (hn : La.length ≤ 1000) (hm : Lb.length ≤ 1000) : (∃ S, Lls w S va La) ∧ ∃ S, Lls w S vb Lb := by
  obtain ⟨S, h1, h2, h3⟩ := h
  exact ⟨⟨S, h1.lls hn⟩, ⟨S, h2.lls hm⟩⟩
theorem Both.low (h : Both ta tb B w va vb La Lb) : ∀ k, va.ownBlock = some k → B ≤ k := by
  obtain ⟨S, h1, h2, h3⟩ := h
  exact fun k e => (h1.lt k e).1

/-- A list more, at the first. -/
theorem Both.snoc (h : Both ta tb B w va vb La Lb) (g : w.grownBy w1 none) (hu : Rd w1 (fun k => w.heap.size ≤ k) u l) :
    ∃ us, w1.ownsRow B ta 1 va La.length us ∧ ∀ t va' w3, w3.ownsRow B ta 1 va' (La.length + 1) (us ++ [u]) → (w1.alloc (.cells #[u] t)).grownBy w3 va.ownBlock → (va'.ownBlock = va.ownBlock ∨ va'.ownBlock = some (w1.heap.size + 1)) →
      Both ta tb B w3 va' vb (La ++ [l]) Lb ∧ Rd w3 (fun _ => True) u l := by
  obtain ⟨S, h1, h2, h3⟩ := h
  have hsz := g.size
  have ht := hu.tight
  have hS : ∀ k, S k → k < w.heap.size := by obtain ⟨-, -, -, k3, -⟩ := h1; exact k3
  have ha := h1.lt
  have hb := h2.lt
  have k1 := (h1.grown g).more (T := fun k => S k ∨ (w.heap.size ≤ k ∧ k < w1.heap.size)) (fun k e => .inl e) (fun k e => by rcases e with e | e; have := hS k e; omega; exact e.2)
    (fun k e h => by obtain ⟨-, -, -, -, k4⟩ := h1; rcases h with h | h; exact k4 k e h; have := ha k e; omega)
  have k2 := (h2.grown g).more (T := fun k => S k ∨ (w.heap.size ≤ k ∧ k < w1.heap.size)) (fun k e => .inl e) (fun k e => by rcases e with e | e; have := hS k e; omega; exact e.2)
    (fun k e h => by obtain ⟨-, -, -, -, k4⟩ := h2; rcases h with h | h; exact k4 k e h; have := hb k e; omega)
  have k3 : Rd w1 (fun k => S k ∨ (w.heap.size ≤ k ∧ k < w1.heap.size)) u l := ht.mono fun k _ e => .inr e
  have hT : ∀ k, (S k ∨ (w.heap.size ≤ k ∧ k < w1.heap.size)) → k < w1.heap.size := fun k e => by rcases e with e | e; have := hS k e; omega; exact e.2
  obtain ⟨T, hT, k1, k2, k3⟩ : ∃ T : Nat → Prop, (∀ k, T k → k < w1.heap.size) ∧ OwnS ta B T w1 va La ∧ OwnS tb B T w1 vb Lb ∧ Rd w1 T u l := ⟨_, hT, k1, k2, k3⟩
  have hTa : ∀ k, va.ownBlock = some k → ¬ T k := by obtain ⟨-, -, -, -, k4⟩ := k1; exact k4
  have k1' := k1
  obtain ⟨us, j1, j2, j3, j4⟩ := k1'
  refine ⟨us, j1, fun t va' w3 ho g3 hat => ?_⟩
  have ga := only_alloc (only_refl w1 none) (.cells #[u] t)
  have hc : Chg (fun k => va.ownBlock = some k) (w1.alloc (.cells #[u] t)) w3 := Chg.of_grown g3 fun k e => .inl e
  have hw : (w1.alloc (.cells #[u] t)).heap.size = w1.heap.size + 1 := by simp
  have hv' : ∀ k, va'.ownBlock = some k → ¬ T k := fun k e hk => by
    have := hT k hk
    rcases hat with e' | e'
    · rw [e'] at e; exact hTa k e hk
    · rw [e'] at e; simp at e; omega
  have r3 := (k3.grown ga).kept hc (fun k hk e => hTa k e hk)
  refine ⟨⟨T, (k1.grown ga).snoc us (by exact (Chg.of_none (S := fun _ => False) ga).ownsRow j1 (fun _ _ e => e)) (fun i m e => by obtain ⟨x, q1, q2⟩ := j2 i m e; exact ⟨x, q1, q2.grown ga⟩) (k3.grown ga) ho g3 hv', (k2.grown ga).kept hc (fun k hk e => hTa k e hk) (fun k e1 e2 => h3 k e2 e1), fun k e1 e2 => ?_⟩, r3.mono fun _ _ _ => trivial⟩
  rcases hat with e' | e'
  · rw [e'] at e1; exact h3 k e1 e2
  · rw [e'] at e1
    have := hb k e2
    simp at e1; omega
end

theorem mk_size (xs : List OneT) : sizeL (fromL xs 0) = xs.length := by
  have := from_size _ xs 0 (Nat.le_refl _)
  rw [restL_zero _ xs (Nat.le_refl _)] at this
  simpa using this
theorem fr_take {Xs : List (List OneT)} {i : Nat} {xs : List OneT} (h : Xs[i]? = some xs) : (Xs.take (i + 1)).map (fun l => fromL l 0) = (Xs.take i).map (fun l => fromL l 0) ++ [fromL xs 0] := by
  rw [List.take_add_one, h]; simp
theorem fr_size : ∀ {Xs : List (List OneT)}, (∀ xs ∈ Xs, fewB xs = true) → sizeL (Xs.map (fun l => fromL l 0)).flatten ≤ 60 * Xs.length
  | [], _ => by simp [sizeL]
  | x :: r, h => by
    have h1 := few_len (h x (List.mem_cons_self ..))
    have h2 := fr_size (Xs := r) fun xs hx => h xs (List.mem_cons_of_mem _ hx)
    have h3 := mk_size x
    rw [List.map_cons, List.flatten_cons, sizeL_append, List.length_cons]
    omega
theorem fr_each {Xs : List (List OneT)} (h : ∀ xs ∈ Xs, fewB xs = true) : ∀ l ∈ Xs.map (fun l => fromL l 0), sizeL l ≤ 1000 := fun l hl => by
  obtain ⟨x, hx, rfl⟩ := List.mem_map.1 hl
  have h1 := few_len (h x hx)
  have h3 := mk_size x
  show sizeL (fromL x 0) ≤ 1000
  omega

theorem insAll_sz : ∀ (fs out o : List Tree), insAll out fs = some o → sizeL o = sizeL out + sizeL fs
  | [], out, o, h => by simp [insAll] at h; subst h; simp [sizeL]
  | f :: r, out, o, h => by
    unfold insAll at h
    cases hi : ins f out with
    | none => rw [hi] at h; simp at h
    | some p =>
      rw [hi] at h
      have h1 := insAll_sz r p o (by simpa using h)
      have h2 := size_perm (ins_perm hi)
      rw [sizeL_cons] at h2 ⊢
      omega
theorem merge_sz (Ls : List (List Tree)) : sizeL (mergeR Ls).1 ≤ sizeL Ls.flatten := by
  unfold mergeR
  split
  · simp [sizeL]
  · split
    · simp [sizeL]
    · next o h =>
      have := insAll_sz _ _ _ h
      simp [sizeL] at this
      show sizeL o ≤ _
      omega
theorem merge_lt (Ls : List (List Tree)) : (mergeR Ls).2 < 64 := by
  unfold mergeR
  split
  · show firstErr Ls < 64
    induction Ls with
    | nil => simp [firstErr]
    | cons l r ih =>
      rw [firstErr]
      split
      · have := checkL_lt _ l 0 0 (Nat.le_refl _); omega
      · next h1 h2 => exact ih (by rw [firstErr, if_neg h2] at h1; exact h1)
  · split <;> simp

set_option maxHeartbeats 4000000 in
set_option maxRecDepth 100000 in
theorem merges_any (W : World) (hT : ff.core.Tab W) (a : Option Addr) (ca : Nat) (Xs : List (List OneT)) (hx : Xs.length ≤ maxLen) (ha : OnesL W.heap.size W a ca Xs) :
    Calls Tryz.prog 4 #[.slice a Xs.length ca] W fun e w' => e = .returned (.bool true) ∧ W.grownBy w' none := by
  have HA := Lib.hid (awake_any W hT)
  have HX := Lib.hid ha
  unfold maxLen at hx
  clear ha
  by_cases h5 : 5 < Xs.length
  · have hb : (5 : Int) < (Xs.length : Int) := by omega
    clear h5
    go_enter Tryz.func4, Tryz.ntmps4
    go_wp2_with fail
    refine HA.out.mono ?_
    rintro e w1 ⟨rfl, g1⟩
    go_wp2_with fail
    go_ret
    exact ⟨rfl, g1⟩
  · have hb : ¬ (5 : Int) < (Xs.length : Int) := by omega
    go_enter Tryz.func4, Tryz.ntmps4
    go_wp2_with fail
    refine HA.out.mono ?_
    rintro e w1 ⟨rfl, g1⟩
    have G1 := Lib.hid g1
    clear g1
    go_wp2_with fail
    go_loopw [3, 4, 19] (fun va vb q wr => ∃ i : Nat, i ≤ Xs.length ∧ q = .int .i64 i ∧ Both 27 33 W.heap.size wr va vb ((Xs.take i).map fun l => fromL l 0) ((Xs.take i).map fun l => fromL l 0) ∧ W.grownBy wr none ∧ ∀ (j : Nat) (xs : List OneT), j < i → Xs[j]? = some xs → fewB xs = true) (fun _ _ q _ => Xs.length - (intOf q).toNat)
    case atStart => exact ⟨0, Nat.zero_le _, rfl, by simpa using Both.nil _ _ _ _, G1.out, fun j xs hj => by omega⟩
    case round =>
      obtain ⟨i, hi, rfl, hbo, hg, hfew⟩ := hrel
      have HB := Lib.hid hbo
      have HG := Lib.hid hg
      have HFW := Lib.hid hfew
      clear hbo hg hfew
      by_cases hlt : i < Xs.length
      · obtain ⟨xs, hxs⟩ : ∃ xs, Xs[i]? = some xs := ⟨Xs[i], List.getElem?_eq_getElem hlt⟩
        have HXS := Lib.hid hxs
        obtain ⟨bb, off, rfl, hbx, hxl, ai, ci, hcell, ho⟩ : ∃ bb off, a = some ⟨bb, off, none⟩ ∧ bb < W.heap.size ∧ xs.length ≤ maxLen ∧ ∃ ai ci, wr.cell? ⟨bb, off + i, none⟩ = some (.slice ai xs.length ci) ∧ Ones W.heap.size wr ai ci xs := by
          rcases HX.out.grown HG.out with h | ⟨bb, off, h1, h2, h3, h4, h5⟩
          · subst h; simp at hxs
          · obtain ⟨k1, ai, ci, k2, k3⟩ := h5 i xs hxs
            exact ⟨bb, off, h1, h2, k1, ai, ci, k2, k3⟩
        have HF1 := Lib.hid (few_any xs hxl _ wr ai ci ho)
        have HO := Lib.hid ho
        clear ho hxs
        cases hf : fewB xs with
        | false =>
          rw [hf] at HF1
          clear hf
          unfold maxLen at hxl
          go_wp2_with fail
          refine HF1.out.mono ?_
          rintro e w2 ⟨rfl, g2⟩
          go_wp2_with fail
          go_ret
          exact ⟨rfl, only_trans HG.out g2⟩
        | true =>
          rw [hf] at HF1
          have hl60 := few_len hf
          have hsx := mk_size xs
          have HSX := Lib.hid hsx
          have HFX := Lib.hid hf
          have HM := Lib.hid (fun w2 (g : wr.grownBy w2 none) => make_any xs (by omega) W.heap.size w2 ai ci (Nat.le_trans HG.out.size g.size) (HO.out.grown g))
          have HOF := Lib.hid (fun w S v h => of_any _ (fromL xs 0) (Nat.le_refl _) (by omega) w S v h)
          have HTK := Lib.hid (fr_take HXS.out)
          clear hf hsx
          unfold maxLen at hxl
          generalize hXX : fromL xs 0 = X at *
          go_wp2_with fail
          refine HF1.out.mono ?_
          rintro e w2 ⟨rfl, g2⟩
          have G2 := Lib.hid (only_trans HG.out g2)
          have B2 := Lib.hid (HB.out.grown g2)
          have HM2 := Lib.hid (HM.out w2 g2)
          clear g2
          go_wp2_with fail
          refine HM2.out.mono ?_
          rintro e w3 ⟨v3, S3, rfl, o3, hS3, g3⟩
          obtain ⟨p3, q3, rfl⟩ := o3.rd.shape
          have G3 := Lib.hid (only_trans G2.out g3)
          have R3 := Lib.hid (o3.rd.mono (T := fun k => w2.heap.size ≤ k) (fun k _ e => by rcases e with e | e; exact hS3 k e; exact (o3.lt k e).1))
          obtain ⟨us, hus, hsn⟩ := B2.out.snoc g3 R3.out
          have HUS := Lib.hid hus
          have HSN := Lib.hid (hsn 27)
          have hbase : W.heap.size ≤ w3.heap.size := G3.out.size
          obtain ⟨i0, hi0, hz0, hs0, hb0⟩ := info_parts Tryz.infoLf
          have hln : ((Xs.take i).map fun l => fromL l 0).length = i := by simp; omega
          rw [hln] at HUS HSN
          clear hus hsn hS3 o3 g3 hln
          go_wp2_with (at_builtin; refine wpList_append_own_at _ rfl _ _ 49 rfl W.heap.size 27 i0 (.slice none 0 0) 1 24 Tryz.underlying49 hi0 hz0 hs0 hb0 rfl (by decide) _ i us rfl ((Chg.of_none (S := fun _ => False) (only_alloc (only_refl w3 none) _)).ownsRow HUS.out (fun _ _ e => e)) ⟨w3.heap.size, 0, none⟩ 1 1 [.slice p3 X.length q3] rfl rfl (cell_one_new _ _ _) ?c1 ?c2 ?c3 ?c4 ?_)
          case c1 => intro x hx; simp at hx; subst hx; rfl
          case c2 => unfold maxLen; omega
          case c3 => omega
          case c4 => simp; omega
          intro v4 w4 h41 h42 _ h43
          have b4 := HSN.out v4 w4 h41 h42 h43
          have HB4 := Lib.hid b4.1.swap
          have R4 := Lib.hid b4.2
          have G4 := Lib.hid (below_to_none (below_of_only (below_of_none (only_alloc G3.out _)) h42 (by have := G3.out.size; simp; omega) (fun k e => B2.out.low k e)))
          clear b4 h41 h42 h43 HSN HUS
          go_wp2_with fail
          refine (HOF.out _ _ _ R4.out).mono ?_
          rintro e w5 ⟨v5, S5, rfl, o5, hS5, g5⟩
          obtain ⟨p5, q5, rfl⟩ := o5.rd.shape
          have G5 := Lib.hid (only_trans G4.out g5)
          have R5 := Lib.hid (o5.rd.mono (T := fun k => w4.heap.size ≤ k) (fun k _ e => by rcases e with e | e; exact hS5 k e; exact (o5.lt k e).1))
          obtain ⟨us', hus, hsn⟩ := HB4.out.snoc g5 R5.out
          have HUS := Lib.hid hus
          have HSN := Lib.hid (hsn 33)
          have hlow := Lib.hid HB4.out.low
          have hbase' : W.heap.size ≤ w5.heap.size := G5.out.size
          obtain ⟨i1, hi1, hz1, hs1, hb1⟩ := info_parts Tryz.infoLr
          have hln : ((Xs.take i).map fun l => fromL l 0).length = i := by simp; omega
          rw [hln] at HUS HSN
          clear hus hsn hS5 o5 g5 hln
          go_wp2_with (at_builtin; refine wpList_append_own_at _ rfl _ _ 50 rfl W.heap.size 33 i1 (.slice none 0 0) 1 24 Tryz.underlying50 hi1 hz1 hs1 hb1 rfl (by decide) _ i us' rfl ((Chg.of_none (S := fun _ => False) (only_alloc (only_refl w5 none) _)).ownsRow HUS.out (fun _ _ e => e)) ⟨w5.heap.size, 0, none⟩ 1 1 [.slice p5 X.length q5] rfl rfl (cell_one_new _ _ _) ?c1 ?c2 ?c3 ?c4 ?_)
          case c1 => intro x hx; simp at hx; subst hx; rfl
          case c2 => unfold maxLen; omega
          case c3 => omega
          case c4 => simp; omega
          intro v6 w6 h61 h62 _ h63
          have b6 := HSN.out v6 w6 h61 h62 h63
          have HB6 := Lib.hid b6.1.swap
          have G6 := Lib.hid (below_to_none (below_of_only (below_of_none (only_alloc G5.out _)) h62 (by have := G5.out.size; simp; omega) (fun k e => hlow.out k e)))
          clear b6 h61 h62 h63 HSN HUS
          go_wp2_with fail
          go_roundw
          case rel =>
            refine ⟨i + 1, by omega, by go_num, by rw [HTK.out]; exact HB6.out, G6.out, fun j ys hj hy => ?_⟩
            by_cases hji : j < i
            · exact HFW.out j ys hji hy
            · obtain rfl : j = i := by omega
              rw [HXS.out] at hy
              simp only [Option.some.injEq] at hy
              subst hy
              exact HFX.out
          case measure => simp [intOf]; omega
      · have hie : i = Xs.length := by omega
        subst hie
        rw [List.take_length] at HB
        have hall : ∀ xs ∈ Xs, fewB xs = true := fun xs hm => by
          obtain ⟨j, hj⟩ := List.getElem?_of_mem hm
          exact HFW.out j xs (List.getElem?_eq_some_iff.1 hj).1 hj
        have h1 := fr_size hall
        have h2 := fr_each hall
        have hl : (Xs.map fun l => fromL l 0).length = Xs.length := by simp
        clear hlt hall HFW hi
        generalize (Xs.map fun l => fromL l 0) = Ls at *
        obtain ⟨⟨Sa, la⟩, ⟨Sb, lb⟩⟩ := HB.out.lls (by omega) (by omega)
        have HM := Lib.hid (merge_any Ls (by omega) wr _ _ la)
        have HR := Lib.hid (fun w (g : wr.grownBy w none) => rmerge_any Ls (by omega) h2 w _ _ (lb.grown g))
        have hms := merge_sz Ls
        have hlt64 := merge_lt Ls
        have HOF := Lib.hid (fun w S v h => of_any _ (mergeR Ls).1 (Nat.le_refl _) (by omega) w S v h)
        have HSM := Lib.hid (fun w S S' v u h h' => rsame_any _ (mergeR Ls).1 (mergeR Ls).1 (Nat.le_refl _) (by omega) w S S' v u h h')
        rw [same_self] at HSM
        clear la lb HB h1 h2 hms hl
        generalize (mergeR Ls).1 = X at *
        generalize (mergeR Ls).2 = q at *
        go_wp2_with fail
        refine HM.out.mono ?_
        rintro e w2 ⟨v2, rfl, r2, g2⟩
        have G2 := Lib.hid (only_trans HG.out g2)
        have R2 := Lib.hid r2
        have HR2 := Lib.hid (HR.out w2 g2)
        obtain ⟨p2, q2, rfl⟩ := r2.shape
        clear r2 g2
        go_wp2_with fail
        refine HR2.out.mono ?_
        rintro e w3 ⟨v3, rfl, r3, g3⟩
        have G3 := Lib.hid (only_trans G2.out g3)
        have R3 := Lib.hid (R2.out.grown g3)
        have Q3 := Lib.hid r3
        obtain ⟨p3, q3, rfl⟩ := r3.shape
        clear r3 g3
        go_wp2_with fail
        refine (HOF.out _ _ _ R3.out).mono ?_
        rintro e w4 ⟨v4, S4, rfl, o4, -, g4⟩
        have G4 := Lib.hid (only_trans G3.out g4)
        have Q4 := Lib.hid (Q3.out.grown g4)
        have R4 := Lib.hid o4.rd
        obtain ⟨p4, q4, rfl⟩ := o4.rd.shape
        clear o4 g4
        go_wp2_with fail
        refine (HSM.out _ _ _ _ _ R4.out Q4.out).mono ?_
        rintro e w5 ⟨rfl, m, rfl⟩
        have G5 := Lib.hid (only_drewN G4.out m)
        go_wp2_with fail
        go_ret
        exact ⟨ret1 (congrArg Value.bool (by simp)), G5.out⟩

end Go.Proofs.YtieheclnkopfpaaGreatDoor.law10
