/-
  PickBack, walked.
-/
import Derived.Test.YtieheclnkopfpaaGreatDoorLaw10B
import Derived.Test.YtieheclnkopfpaaGreatDoorBundF
namespace Go.Proofs.YtieheclnkopfpaaGreatDoor.law10
open Go.RowKit Go.Proofs.YtieheclnkopfpaaGreatDoor.tr Go.Proofs.YtieheclnkopfpaaGreatDoor.pm Go.Proofs.YtieheclnkopfpaaGreatDoor.pp Go.Proofs.YtieheclnkopfpaaGreatDoor.vi Go.Proofs.YtieheclnkopfpaaGreatDoor.wm
set_option linter.unusedVariables false
set_option linter.unusedSimpArgs false

theorem same_self (ts : List Tree) : sameL ts ts = true := (sameL_iff _ ts ts (Nat.le_refl _)).2 rfl
theorem tag_lt {X : List Tree} (hc : checkL 0 0 X = 0) (hf : fitsL X) : ∀ t ∈ X, t.tag < 18446744073709551616 := fun t ht => by
  obtain ⟨i, hi⟩ := List.getElem?_of_mem ht
  have := (good_at hc hf hi).1
  omega

set_option maxHeartbeats 4000000 in
set_option maxRecDepth 100000 in
theorem back_any (W : World) (hT : ff.core.Tab W) (a : Option Addr) (ca : Nat) (xs : List OneT) (hx : xs.length ≤ maxLen) (ha : Ones W.heap.size W a ca xs) (b : Option Addr) (len cb : Nat) (zs : List Int) (hz : IsInts .u64 W b len cb zs) (hl : len ≤ maxLen) :
    Calls Tryz.prog 5 #[.slice a xs.length ca, .slice b len cb] W fun e w' => e = .returned (.bool true) ∧ W.grownBy w' none := by
  obtain ⟨us, hus, hu, hu64⟩ := tgs_of hz hl
  have HU := Lib.hid hu
  have HA := Lib.hid (awake_any W hT)
  have HF1 := Lib.hid (fun w (g : W.grownBy w none) => few_any xs hx _ w a ca (ha.grown g))
  unfold maxLen at hl
  clear hz hu
  cases hf : fewB xs with
  | false =>
    rw [hf] at HF1
    unfold maxLen at hx
    clear ha hf
    go_enter Tryz.func5, Tryz.ntmps5
    go_wp2_with fail
    refine HA.out.mono ?_
    rintro e w1 ⟨rfl, g1⟩
    go_wp2_with fail
    refine (HF1.out _ g1).mono ?_
    rintro e w2 ⟨rfl, g2⟩
    go_wp2_with fail
    go_ret
    exact ⟨rfl, only_trans g1 g2⟩
  | true =>
    rw [hf] at HF1
    obtain ⟨f1, f2, f3, f4⟩ := few_facts hf ha
    have HM1 := Lib.hid (fun w (g : W.grownBy w none) => make_any xs (by omega) W.heap.size w a ca g.size (ha.grown g))
    unfold maxLen at hx
    clear ha hf
    by_cases h40 : 40 < len
    · have hb : (40 : Int) < (len : Int) := by omega
      clear h40
      go_enter Tryz.func5, Tryz.ntmps5
      go_wp2_with fail
      refine HA.out.mono ?_
      rintro e w1 ⟨rfl, g1⟩
      go_wp2_with fail
      refine (HF1.out _ g1).mono ?_
      rintro e w2 ⟨rfl, g2⟩
      go_wp2_with fail
      go_ret
      exact ⟨rfl, only_trans g1 g2⟩
    · have hb : ¬ (40 : Int) < (len : Int) := by omega
      generalize fromL xs 0 = X at *
      have HC := Lib.hid (fun w S v h => ff.check_any X w S v (by omega) h)
      have hlt := checkL_lt _ X 0 0 (Nat.le_refl _)
      by_cases hc : checkL 0 0 X = 0
      · rw [hc] at HC
        have h64 := tag_lt hc f4
        have HS := Lib.hid (fun w S v u h hu => split_any X us (by omega) h64 hu64 w S v u h hu)
        have hAs := sizeL_filter (fun t => inB us t == true) X
        have hBs := sizeL_filter (fun t => inB us t == false) X
        have hAl := len_size (X.filter fun t => inB us t == true)
        have HAB := Lib.hid (back_ab (inB us) hc)
        have HBA := Lib.hid (back_ba (inB us) hc)
        have HXA := Lib.hid (back_xa (inB us) hc)
        have HKA := Lib.hid (check_filter 0 (fun t => inB us t == true) X 0 hc)
        have HKB := Lib.hid (check_filter 0 (fun t => inB us t == false) X 0 hc)
        have hlx := len_size X
        clear hc h64 hlt f4
        generalize X.filter (fun t => inB us t == true) = A at *
        generalize X.filter (fun t => inB us t == false) = B at *
        have HM2 := Lib.hid (fun w S v h => merge_any [A, B] (by simp only [List.flatten_cons, List.flatten_nil, List.append_nil, sizeL_append]; omega) w S v h)
        have HM3 := Lib.hid (fun w S v h => merge_any [B, A] (by simp only [List.flatten_cons, List.flatten_nil, List.append_nil, sizeL_append]; omega) w S v h)
        have HM4 := Lib.hid (fun w S v h => merge_any [X, A] (by simp only [List.flatten_cons, List.flatten_nil, List.append_nil, sizeL_append]; omega) w S v h)
        rw [HAB.out] at HM2
        rw [HBA.out] at HM3
        rw [HXA.out] at HM4
        have HSM := Lib.hid (fun w S S' v u h h' => ff.same_any X X w S S' v u (by omega) (by omega) h h')
        rw [same_self] at HSM
        have HCA := Lib.hid (fun w S v h => ff.check_any A w S v (by omega) h)
        have HCB := Lib.hid (fun w S v h => ff.check_any B w S v (by omega) h)
        rw [HKA.out] at HCA
        rw [HKB.out] at HCB
        obtain ⟨G, hG⟩ : ∃ G : Nat, (if A = [] then 0 else 14) = G := ⟨_, rfl⟩
        rw [hG] at HM4
        have hcond : (((G : Int) == 14) == decide ((0 : Int) < (A.length : Int))) = true := by
          rw [← hG]
          cases A with
          | nil => rfl
          | cons f r => simp
        have HCD := Lib.hid hcond
        have hG14 : G = 0 ∨ G = 14 := by rw [← hG]; split <;> simp
        clear hG HAB HBA HXA HKA HKB hcond
        go_enter Tryz.func5, Tryz.ntmps5
        go_wp2_with fail
        refine HA.out.mono ?_
        rintro e w1 ⟨rfl, g1⟩
        go_wp2_with fail
        refine (HF1.out _ g1).mono ?_
        rintro e w2 ⟨rfl, g2⟩
        have G2 := Lib.hid (only_trans g1 g2)
        clear g1 g2
        go_wp2_with fail
        refine (HM1.out _ G2.out).mono ?_
        rintro e w3 ⟨v3, S3, rfl, o3, -, g3⟩
        have G3 := Lib.hid (only_trans G2.out g3)
        have R3 := Lib.hid (o3.rd.mono (T := fun _ => True) (fun _ _ _ => trivial))
        obtain ⟨p3, q3, rfl⟩ := o3.rd.shape
        clear o3 g3
        go_wp2_with fail
        refine (HC.out _ _ _ R3.out).mono ?_
        rintro e w4 ⟨rfl, g4⟩
        have G4 := Lib.hid (only_trans G3.out g4)
        have R4 := Lib.hid (R3.out.grown g4)
        clear g4
        go_wp2_with fail
        refine (HS.out _ _ _ _ R4.out (HU.out.grown G4.out)).mono ?_
        rintro e w5 ⟨va, vb, rfl, ra, rb, g5⟩
        have G5 := Lib.hid (only_trans G4.out g5)
        have R5 := Lib.hid (R4.out.grown g5)
        have LA := Lib.hid (lls_two ra rb 27)
        have ga := only_alloc (only_refl w5 none) (.cells #[va, vb] 27)
        have G6 := Lib.hid (only_trans G5.out ga)
        have R6 := Lib.hid (R5.out.grown ga)
        have A6 := Lib.hid (ra.grown ga)
        have B6 := Lib.hid (rb.grown ga)
        obtain ⟨pa, qa, rfl⟩ := ra.shape
        obtain ⟨pb, qb, rfl⟩ := rb.shape
        clear ra rb g5 ga
        go_wp2_with fail
        refine (HM2.out _ _ _ LA.out).mono ?_
        rintro e w7 ⟨vx, rfl, rx, g7⟩
        have A7 := Lib.hid (A6.out.grown g7)
        have B7 := Lib.hid (B6.out.grown g7)
        have LB := Lib.hid (lls_two B7.out A7.out 27)
        have gb := only_alloc g7 (.cells #[.slice pb B.length qb, .slice pa A.length qa] 27)
        have G8 := Lib.hid (only_trans G6.out gb)
        have R8 := Lib.hid (R6.out.grown gb)
        have A8 := Lib.hid (A6.out.grown gb)
        have B8 := Lib.hid (B6.out.grown gb)
        have X8 := Lib.hid (rx.grown (only_alloc (only_refl w7 none) (.cells #[.slice pb B.length qb, .slice pa A.length qa] 27)))
        obtain ⟨px, qx, rfl⟩ := rx.shape
        clear g7 gb rx
        go_wp2_with fail
        refine (HM3.out _ _ _ LB.out).mono ?_
        rintro e w9 ⟨vy, rfl, ry, g9⟩
        have A9 := Lib.hid (A8.out.grown g9)
        have R9 := Lib.hid (R8.out.grown g9)
        have LC := Lib.hid (lls_two R9.out A9.out 27)
        have gc := only_alloc g9 (.cells #[.slice p3 X.length q3, .slice pa A.length qa] 27)
        have G10 := Lib.hid (only_trans G8.out gc)
        have R10 := Lib.hid (R8.out.grown gc)
        have A10 := Lib.hid (A8.out.grown gc)
        have B10 := Lib.hid (B8.out.grown gc)
        have X10 := Lib.hid (X8.out.grown gc)
        have Y10 := Lib.hid (ry.grown (only_alloc (only_refl w9 none) (.cells #[.slice p3 X.length q3, .slice pa A.length qa] 27)))
        obtain ⟨py, qy, rfl⟩ := ry.shape
        clear g9 gc ry
        go_wp2_with fail
        refine (HM4.out _ _ _ LC.out).mono ?_
        rintro e w11 ⟨vz, rfl, -, g11⟩
        have G11 := Lib.hid (only_trans G10.out g11)
        have R11 := Lib.hid (R10.out.grown g11)
        have A11 := Lib.hid (A10.out.grown g11)
        have B11 := Lib.hid (B10.out.grown g11)
        have X11 := Lib.hid (X10.out.grown g11)
        have Y11 := Lib.hid (Y10.out.grown g11)
        clear g11
        go_wp2_with fail
        refine (HSM.out _ _ _ _ _ X11.out R11.out).mono ?_
        rintro e w12 ⟨rfl, g12⟩
        have G12 := Lib.hid (only_trans G11.out g12)
        have R12 := Lib.hid (R11.out.grown g12)
        have A12 := Lib.hid (A11.out.grown g12)
        have B12 := Lib.hid (B11.out.grown g12)
        have Y12 := Lib.hid (Y11.out.grown g12)
        clear g12
        go_wp2_with fail
        refine (HSM.out _ _ _ _ _ Y12.out R12.out).mono ?_
        rintro e w13 ⟨rfl, g13⟩
        have G13 := Lib.hid (only_trans G12.out g13)
        have A13 := Lib.hid (A12.out.grown g13)
        have B13 := Lib.hid (B12.out.grown g13)
        clear g13
        go_wp2_with fail
        refine (HCA.out _ _ _ A13.out).mono ?_
        rintro e w14 ⟨rfl, g14⟩
        have G14 := Lib.hid (only_trans G13.out g14)
        have B14 := Lib.hid (B13.out.grown g14)
        clear g14
        go_wp2_with fail
        refine (HCB.out _ _ _ B14.out).mono ?_
        rintro e w15 ⟨rfl, g15⟩
        have G15 := Lib.hid (only_trans G14.out g15)
        clear g15
        go_wp2_with fail
        go_ret
        exact ⟨ret1 (congrArg Value.bool (by simpa using HCD.out)), G15.out⟩
      · generalize checkL 0 0 X = q at *
        have hqb : ((q : Int) != 0) = true := by rw [bne_iff_ne]; omega
        clear hc
        go_enter Tryz.func5, Tryz.ntmps5
        go_wp2_with fail
        refine HA.out.mono ?_
        rintro e w1 ⟨rfl, g1⟩
        go_wp2_with fail
        refine (HF1.out _ g1).mono ?_
        rintro e w2 ⟨rfl, g2⟩
        have G2 := Lib.hid (only_trans g1 g2)
        clear g1 g2
        go_wp2_with fail
        refine (HM1.out _ G2.out).mono ?_
        rintro e w3 ⟨v3, S3, rfl, o3, -, g3⟩
        have G3 := Lib.hid (only_trans G2.out g3)
        have R3 := Lib.hid o3.rd
        obtain ⟨p3, q3, rfl⟩ := o3.rd.shape
        clear o3 g3
        go_wp2_with fail
        refine (HC.out _ _ _ R3.out).mono ?_
        rintro e w4 ⟨rfl, g4⟩
        have G4 := Lib.hid (only_trans G3.out g4)
        clear g4
        go_wp2_with fail
        go_ret
        exact ⟨rfl, G4.out⟩

end Go.Proofs.YtieheclnkopfpaaGreatDoor.law10
