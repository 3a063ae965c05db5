/-
  WireWrites and WireReads, for whatever keeps the contracts.
-/
import Derived.Test.YtigmfbmjfjkfjaaDoorLaw09
namespace Go.Proofs.YtigmfbmjfjkfjaaDoor.law09
open Go.RowKit Go.Proofs.YtigmfbmjfjkfjaaDoor.tr Go.Proofs.YtigmfbmjfjkfjaaDoor.wm Go.Proofs.YtigmfbmjfjkfjaaDoor.vi
set_option linter.unusedVariables false
set_option linter.unusedSimpArgs false

theorem put_size {B : Nat} {w : World} {a : Option Addr} {cap : Nat} {xs : List OneT} (hf : fewB xs = true) (h : Ones B w a cap xs) : (putR (fromL xs 0)).1.length = sizeR (fromL xs 0) := by
  unfold putR sizeR
  by_cases hc : checkL 0 0 (fromL xs 0) = 0
  · have := few_wr hf h 0 0 hc
    rw [if_neg (by simp [hc]), if_neg (by omega), if_neg (by simp [hc])]
  · rw [if_pos hc, if_pos hc]; rfl
theorem put_lt (ts : List Tree) : (putR ts).2 < 19 := by
  unfold putR
  have := checkL_lt _ ts 0 0 (Nat.le_refl _)
  split
  · exact this
  · split <;> simp

set_option maxHeartbeats 4000000 in
set_option maxRecDepth 100000 in
theorem writes_any (I : WI) (W : World) (hT : I.fc.Tab W) (a : Option Addr) (ca : Nat) (xs : List OneT) (hx : xs.length ≤ maxLen) (ha : Ones W.heap.size W a ca xs) :
    Calls Tryd.prog 3 #[.slice a xs.length ca] W fun e w' => e = .returned (.bool true) ∧ W.grownBy w' none := by
  have HA := Lib.hid (awake_any I.toWCore W hT)
  have HF1 := Lib.hid (fun w (g : W.grownBy w none) => few_any xs hx _ w a ca (ha.grown g))
  cases hf : fewB xs with
  | false =>
    rw [hf] at HF1
    unfold maxLen at hx
    clear ha hf
    go_enter Tryd.func3, Tryd.ntmps3
    go_wp2_with fail
    refine HA.out.mono ?_
    rintro e w1 ⟨rfl, g1⟩
    go_wp2_with fail
    refine (HF1.out _ g1).mono ?_
    rintro e w2 ⟨rfl, g2⟩
    go_wp2_with fail
    go_ret
    exact ⟨rfl, only_trans g1 g2⟩
  | true =>
    rw [hf] at HF1
    obtain ⟨f1, f2, f3, f4⟩ := few_facts hf ha
    have HM1 := Lib.hid (fun w (g : W.grownBy w none) => make_any xs (by omega) W.heap.size w a ca g.size (ha.grown g))
    have hwr := fun hc => few_wr hf ha 0 0 hc
    have hps := put_size hf ha
    unfold maxLen at hx
    clear ha hf
    generalize fromL xs 0 = X at *
    have HP := Lib.hid (fun w S v h => I.put X w S v (by omega) f4 (fun hc => by have := hwr hc; omega) h)
    have HZ := Lib.hid (fun w S v h => I.size X w S v (by omega) f4 (fun hc => by have := hwr hc; omega) h)
    have HOF := Lib.hid (fun w S v h => of_any _ X (Nat.le_refl _) (by omega) w S v h)
    have HRP := Lib.hid (fun w S v h => rputw_any X w S v (by omega) f4 (fun hc => by have := hwr hc; omega) h)
    have hlt := put_lt X
    have hs1 : (txt (putR X).1).size = (putR X).1.length := txt_size _
    have hlx := len_size X
    clear hwr f4
    have heq : ((txt (putR X).1).toList == (txt (putR X).1).toList) = true := beq_self_eq_true _
    generalize txt (putR X).1 = P at *
    generalize (putR X).2 = E at *
    have hz : ((sizeR X : Int) == (P.size : Int)) = true := by rw [beq_iff_eq]; omega
    have hEE : ((E : Int) == (E : Int)) = true := beq_self_eq_true _
    clear hps hs1
    go_enter Tryd.func3, Tryd.ntmps3
    go_wp2_with fail
    refine HA.out.mono ?_
    rintro e w1 ⟨rfl, g1⟩
    go_wp2_with fail
    refine (HF1.out _ g1).mono ?_
    rintro e w2 ⟨rfl, g2⟩
    have G2 := Lib.hid (only_trans g1 g2)
    clear g1 g2
    go_wp2_with fail
    refine (HM1.out _ G2.out).mono ?_
    rintro e w3 ⟨v3, S3, rfl, o3, -, g3⟩
    have G3 := Lib.hid (only_trans G2.out g3)
    have R3 := Lib.hid o3.rd
    obtain ⟨p3, q3, rfl⟩ := o3.rd.shape
    clear o3 g3
    go_wp2_with fail
    refine (HP.out _ _ _ R3.out).mono ?_
    rintro e w4 ⟨rfl, g4⟩
    have G4 := Lib.hid (only_trans G3.out g4)
    have R4 := Lib.hid (R3.out.grown g4)
    clear g4
    go_wp2_with fail
    refine (HOF.out _ _ _ R4.out).mono ?_
    rintro e w5 ⟨v5, S5, rfl, o5, -, g5⟩
    have G5 := Lib.hid (only_trans G4.out g5)
    have R5 := Lib.hid (R4.out.grown g5)
    have O5 := Lib.hid o5.rd
    obtain ⟨p5, q5, rfl⟩ := o5.rd.shape
    clear o5 g5
    go_wp2_with fail
    refine (HRP.out _ _ _ O5.out).mono ?_
    rintro e w6 ⟨rfl, g6⟩
    have G6 := Lib.hid (only_trans G5.out g6)
    have R6 := Lib.hid (R5.out.grown g6)
    clear g6
    go_wp2_with fail
    refine (HZ.out _ _ _ R6.out).mono ?_
    rintro e w7 ⟨rfl, g7⟩
    have G7 := Lib.hid (only_trans G6.out g7)
    clear g7
    go_wp2_with fail
    go_ret
    exact ⟨rfl, G7.out⟩

end Go.Proofs.YtigmfbmjfjkfjaaDoor.law09
