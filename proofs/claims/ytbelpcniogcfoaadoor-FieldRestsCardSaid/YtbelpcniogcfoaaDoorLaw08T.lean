/-
  FieldTells, for whatever keeps the contracts of fields.
-/
import Derived.Test.YtbelpcniogcfoaaDoorLaw08
namespace Go.Proofs.YtbelpcniogcfoaaDoor.law08
open Go.RowKit Go.Proofs.YtbelpcniogcfoaaDoor.tr
set_option linter.unusedVariables false
set_option linter.unusedSimpArgs false

theorem make_size (xs : List OneT) : sizeL (fromL xs 0) = xs.length := by
  have := from_size _ xs 0 (Nat.le_refl _)
  rw [restL_zero _ xs (Nat.le_refl _)] at this
  simpa using this

set_option maxHeartbeats 2000000 in
set_option maxRecDepth 100000 in
theorem tells_long (I : FI) (W : World) (hT : I.Tab W) (a : Option Addr) (ca : Nat) (xs : List OneT) (hx : xs.length ≤ maxLen) (ha : Ones W.heap.size W a ca xs) (b : Option Addr) (cb : Nat) (ys : List OneT) (hy : ys.length ≤ maxLen) (hb : Ones W.heap.size W b cb ys)
    (hl : fewB xs = false ∨ fewB ys = false) :
    Calls Tryd.prog 5 #[.slice a xs.length ca, .slice b ys.length cb] W fun e w' => e = .returned (.bool true) ∧ W.grownBy w' none := by
  have HA := Lib.hid (awake_any I W hT)
  have HF1 := Lib.hid (fun w (g : W.grownBy w none) => few_any xs hx _ w a ca (ha.grown g))
  have HF2 := Lib.hid (fun w (g : W.grownBy w none) => few_any ys hy _ w b cb (hb.grown g))
  clear ha hb
  unfold maxLen at hx hy
  cases hf : fewB xs with
  | false =>
    rw [hf] at HF1
    clear hl HF2 hf
    go_enter Tryd.func5, Tryd.ntmps5
    go_wp2_with fail
    refine HA.out.mono ?_
    rintro e w1 ⟨rfl, g1⟩
    go_wp2_with fail
    refine (HF1.out _ g1).mono ?_
    rintro e w2 ⟨rfl, g2⟩
    go_wp2_with fail
    go_ret
    exact ⟨rfl, only_trans g1 g2⟩
  | true =>
    rw [hf] at HF1
    have hf2 : fewB ys = false := by rcases hl with h | h; { rw [hf] at h; cases h }; exact h
    rw [hf2] at HF2
    clear hl hf hf2
    go_enter Tryd.func5, Tryd.ntmps5
    go_wp2_with fail
    refine HA.out.mono ?_
    rintro e w1 ⟨rfl, g1⟩
    go_wp2_with fail
    refine (HF1.out _ g1).mono ?_
    rintro e w2 ⟨rfl, g2⟩
    have g12 := only_trans g1 g2
    clear g1 g2
    go_wp2_with fail
    refine (HF2.out _ g12).mono ?_
    rintro e w3 ⟨rfl, g3⟩
    go_wp2_with fail
    go_ret
    exact ⟨rfl, only_trans g12 g3⟩

set_option maxHeartbeats 4000000 in
set_option maxRecDepth 100000 in
theorem tells_main (I : FI) (W : World) (hT : I.Tab W) (a : Option Addr) (ca : Nat) (xs : List OneT) (hx : xs.length ≤ maxLen) (ha : Ones W.heap.size W a ca xs) (b : Option Addr) (cb : Nat) (ys : List OneT) (hy : ys.length ≤ maxLen) (hb : Ones W.heap.size W b cb ys)
    (hf : fewB xs = true) (hf2 : fewB ys = true) :
    Calls Tryd.prog 5 #[.slice a xs.length ca, .slice b ys.length cb] W fun e w' => e = .returned (.bool true) ∧ W.grownBy w' none := by
  have HA := Lib.hid (awake_any I W hT)
  have HF1 := Lib.hid (fun w (g : W.grownBy w none) => few_any xs hx _ w a ca (ha.grown g))
  have HF2 := Lib.hid (fun w (g : W.grownBy w none) => few_any ys hy _ w b cb (hb.grown g))
  rw [hf] at HF1
  rw [hf2] at HF2
  have hlx := few_len hf
  have hly := few_len hf2
  have HM1 := Lib.hid (fun w (g : W.grownBy w none) => make_any xs (by omega) W.heap.size w a ca g.size (ha.grown g))
  have HM2 := Lib.hid (fun w (g : W.grownBy w none) => make_any ys (by omega) W.heap.size w b cb g.size (hb.grown g))
  have hsx := make_size xs
  have hsy := make_size ys
  clear ha hb hf hf2 hx hy
  have hbx : sizeL (fromL xs 0) ≤ 1000 := by omega
  have hby : sizeL (fromL ys 0) ≤ 1000 := by omega
  generalize fromL xs 0 = X at *
  generalize fromL ys 0 = Y at *
  have HSX := Lib.hid hsx
  have HLX := Lib.hid hlx
  have HCK := Lib.hid (fun w S v => I.check X w S v hbx)
  have HRC := Lib.hid (fun w S v => rcheck_any _ X (Nat.le_refl _) 0 (by omega) w S v)
  have HDP := Lib.hid (fun w S v => I.depth X w S v hbx)
  have HRD := Lib.hid (fun w S v => rdepth_any _ X (Nat.le_refl _) (by omega) w S v)
  have HCT := Lib.hid (fun w S v => I.count X w S v hbx)
  have HRT := Lib.hid (fun w S v => rcount_any _ X (Nat.le_refl _) (by omega) w S v)
  have HSM := Lib.hid (fun w S S' v u => I.same X Y w S S' v u hbx hby)
  have HRS := Lib.hid (fun w S S' v u => rsame_any _ X Y (Nat.le_refl _) (by omega) w S S' v u)
  have HSS := Lib.hid (fun w S S' v u => I.same X X w S S' v u hbx hbx)
  rw [same_self] at HSS
  have HOF1 := Lib.hid (fun w S v => of_any _ X (Nat.le_refl _) hbx w S v)
  have HOF2 := Lib.hid (fun w S v => of_any _ Y (Nat.le_refl _) hby w S v)
  have hde := depth_le_size _ X (Nat.le_refl _)
  have hch := checkL_lt _ X 0 0 (Nat.le_refl _)
  rw [hsx] at HCT HRT
  clear hsx hsy hbx hby
  generalize checkL 0 0 X = CK at *
  generalize depthL X = DP at *
  generalize sameL X Y = SM at *
  go_enter Tryd.func5, Tryd.ntmps5
  go_wp2_with fail
  refine HA.out.mono ?_
  rintro e w1 ⟨rfl, g1⟩
  go_wp2_with fail
  refine (HF1.out _ g1).mono ?_
  rintro e w2 ⟨rfl, g2⟩
  have G2 := Lib.hid (only_trans g1 g2)
  clear g1 g2
  go_wp2_with fail
  refine (HF2.out _ G2.out).mono ?_
  rintro e w3 ⟨rfl, g3⟩
  have G3 := Lib.hid (only_trans G2.out g3)
  clear g3
  go_wp2_with fail
  refine (HM1.out _ G3.out).mono ?_
  rintro e w4 ⟨v1, S1, rfl, o1, -, g4⟩
  have R1 := Lib.hid o1.rd
  have G4 := Lib.hid (only_trans G3.out g4)
  clear o1 g4
  go_wp2_with fail
  refine (HM2.out _ G4.out).mono ?_
  rintro e w5 ⟨v2, S2, rfl, o2, -, g5⟩
  have R1b := Lib.hid (R1.out.grown g5)
  have R2 := Lib.hid o2.rd
  have G5 := Lib.hid (only_trans G4.out g5)
  clear o2 g5 R1
  go_wp2_with fail
  refine (HOF1.out _ _ _ R1b.out).mono ?_
  rintro e w6 ⟨v3, S3, rfl, o3, -, g6⟩
  have R1c := Lib.hid (R1b.out.grown g6)
  have R2c := Lib.hid (R2.out.grown g6)
  have R3 := Lib.hid o3.rd
  have G6 := Lib.hid (only_trans G5.out g6)
  clear o3 g6 R1b R2
  go_wp2_with fail
  refine (HOF2.out _ _ _ R2c.out).mono ?_
  rintro e w7 ⟨v4, S4, rfl, o4, -, g7⟩
  have X1 := Lib.hid (R1c.out.grown g7)
  have Y1 := Lib.hid (R2c.out.grown g7)
  have P1 := Lib.hid (R3.out.grown g7)
  have Q1 := Lib.hid o4.rd
  have HG := Lib.hid (only_trans G6.out g7)
  clear o4 g7 R1c R2c R3 G2 G3 G4 G5 G6 HA HF1 HF2 HM1 HM2 HOF1 HOF2
  have K0 := Lib.hid (only_refl w7 none)
  go_wp2_with fail
  refine (HCK.out _ _ _ (X1.out.grown K0.out)).mono ?_
  rintro e u0 ⟨rfl, k0⟩
  have K1 := Lib.hid (only_trans K0.out k0)
  clear k0
  go_wp2_with fail
  refine (HRC.out _ _ _ (P1.out.grown K1.out)).mono ?_
  rintro e u1 ⟨rfl, k1⟩
  have K2 := Lib.hid (only_trans K1.out k1)
  clear k1
  go_wp2_with fail
  refine (HDP.out _ _ _ (X1.out.grown K2.out)).mono ?_
  rintro e u2 ⟨rfl, k2⟩
  have K3 := Lib.hid (only_trans K2.out k2)
  clear k2
  go_wp2_with fail
  refine (HRD.out _ _ _ (P1.out.grown K3.out)).mono ?_
  rintro e u3 ⟨rfl, k3⟩
  have K4 := Lib.hid (only_trans K3.out k3)
  clear k3
  go_wp2_with fail
  refine (HCT.out _ _ _ (X1.out.grown K4.out)).mono ?_
  rintro e u4 ⟨rfl, k4⟩
  have K5 := Lib.hid (only_trans K4.out k4)
  clear k4
  go_wp2_with fail
  refine (HRT.out _ _ _ (P1.out.grown K5.out)).mono ?_
  rintro e u5 ⟨rfl, k5⟩
  have K6 := Lib.hid (only_trans K5.out k5)
  clear k5
  go_wp2_with fail
  refine (HCT.out _ _ _ (X1.out.grown K6.out)).mono ?_
  rintro e u6 ⟨rfl, k6⟩
  have K7 := Lib.hid (only_trans K6.out k6)
  clear k6
  go_wp2_with fail
  refine (HSM.out _ _ _ _ _ (X1.out.grown K7.out) (Y1.out.grown K7.out)).mono ?_
  rintro e u7 ⟨rfl, k7⟩
  have K8 := Lib.hid (only_trans K7.out k7)
  clear k7
  go_wp2_with fail
  refine (HRS.out _ _ _ _ _ (P1.out.grown K8.out) (Q1.out.grown K8.out)).mono ?_
  rintro e u8 ⟨rfl, m8, rfl⟩
  have K9 := Lib.hid (only_drewN K8.out m8)
  go_wp2_with fail
  refine (HSS.out _ _ _ _ _ (X1.out.grown K9.out) (X1.out.grown K9.out)).mono ?_
  rintro e u9 ⟨rfl, k9⟩
  have K10 := Lib.hid (only_trans K9.out k9)
  clear k9
  go_wp2_with fail
  go_ret
  exact ⟨by first | rfl | simp, only_trans HG.out K10.out⟩

theorem tells_any (I : FI) (W : World) (hT : I.Tab W) (a : Option Addr) (ca : Nat) (xs : List OneT) (hx : xs.length ≤ maxLen) (ha : Ones W.heap.size W a ca xs) (b : Option Addr) (cb : Nat) (ys : List OneT) (hy : ys.length ≤ maxLen) (hb : Ones W.heap.size W b cb ys) :
    Calls Tryd.prog 5 #[.slice a xs.length ca, .slice b ys.length cb] W fun e w' => e = .returned (.bool true) ∧ W.grownBy w' none := by
  cases hf : fewB xs with
  | false => exact tells_long I W hT a ca xs hx ha b cb ys hy hb (.inl hf)
  | true =>
    cases hf2 : fewB ys with
    | false => exact tells_long I W hT a ca xs hx ha b cb ys hy hb (.inr hf2)
    | true => exact tells_main I W hT a ca xs hx ha b cb ys hy hb hf hf2

end Go.Proofs.YtbelpcniogcfoaaDoor.law08
