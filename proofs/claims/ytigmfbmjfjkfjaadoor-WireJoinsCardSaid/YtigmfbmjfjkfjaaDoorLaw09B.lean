/-
  WireBack, for whatever keeps the contracts.
-/
import Derived.Test.YtigmfbmjfjkfjaaDoorLaw09W
import Derived.Test.YtigmfbmjfjkfjaaDoorLaw09R
namespace Go.Proofs.YtigmfbmjfjkfjaaDoor.law09
open Go.RowKit Go.Proofs.YtigmfbmjfjkfjaaDoor.tr Go.Proofs.YtigmfbmjfjkfjaaDoor.wm Go.Proofs.YtigmfbmjfjkfjaaDoor.vi
set_option linter.unusedVariables false
set_option linter.unusedSimpArgs false

theorem putR_ok {ts : List Tree} (h : (putR ts).2 = 0) : checkL 0 0 ts = 0 ∧ (wrL ts).length ≤ 65536 ∧ putR ts = (wrL ts, 0) := by
  unfold putR at h ⊢
  by_cases h1 : checkL 0 0 ts ≠ 0
  · rw [if_pos h1] at h; exact absurd h h1
  · rw [if_neg h1] at h ⊢
    by_cases h2 : 65536 < (wrL ts).length
    · rw [if_pos h2] at h; cases h
    · rw [if_neg h2]; exact ⟨by simpa using h1, by omega, rfl⟩
theorem putR_of {ts : List Tree} (h : checkL 0 0 ts = 0) (h2 : (wrL ts).length ≤ 65536) : putR ts = (wrL ts, 0) := by
  unfold putR
  rw [if_neg (by simp [h]), if_neg (by omega)]
theorem getW_wr {ts : List Tree} (h : checkL 0 0 ts = 0) (hf : fitsL ts) (h2 : (wrL ts).length ≤ 65536) (R : List UInt8) (hR : (wrL ts).length + R.length ≤ 65536) : getW (wrL ts ++ R) = glueW ts (allW (subD 8) R (lastOf 0 ts)) := by
  unfold getW
  rw [if_neg (by rw [List.length_append]; omega), readD_eq, all_wr _ ts 8 0 R (Nat.le_refl _) (Nat.le_refl _) h hf (by omega)]
theorem getW_back {ts : List Tree} (h : checkL 0 0 ts = 0) (hf : fitsL ts) (h2 : (wrL ts).length ≤ 65536) : getW (wrL ts) = (ts, 0) := by
  have := getW_wr h hf h2 [] (by simpa using h2)
  rw [List.append_nil] at this
  rw [this, allW_nil]
  simp [glueW]
theorem one_zero (p : Nat) : oneW (subD 8) [0] p = (zeroT, 0, 18) := by
  have hg : getR [0] = (0, 1, 0) := by
    have e : enc 0 = [0] := enc_small (by omega)
    have := getR_enc (n := 0) (by omega) []
    rw [List.append_nil, e] at this
    exact this
  unfold oneW
  rw [hg]
  simp
theorem getW_more {ts : List Tree} (h : checkL 0 0 ts = 0) (hf : fitsL ts) (h2 : (wrL ts).length + 1 ≤ 65536) : getW (wrL ts ++ [0]) = ([], 18) := by
  rw [getW_wr h hf (by omega) [0] (by simpa using h2), allW_err (by simp) (by rw [one_zero]; simp), one_zero]
  simp [glueW]
theorem getW_facts {L : List UInt8} (h : (getW L).2 = 0) : wrL (getW L).1 = L ∧ checkL 0 0 (getW L).1 = 0 ∧ fitsL (getW L).1 ∧ putR (getW L).1 = (L, 0) ∧ sizeR (getW L).1 = L.length := by
  unfold getW at h ⊢
  by_cases h1 : 65536 < L.length
  · rw [if_pos h1] at h; cases h
  · rw [if_neg h1] at h ⊢
    obtain ⟨k1, k2, k3, -, -⟩ := read_facts 8 (Nat.le_refl _) L h
    refine ⟨k1, k2, k3, ?_, ?_⟩
    · rw [putR_of k2 (by rw [k1]; omega), k1]
    · unfold sizeR; rw [if_neg (by simp [k2]), k1]

set_option maxHeartbeats 2000000 in
set_option maxRecDepth 100000 in
theorem back_early (I : WI) (W : World) (hT : I.fc.Tab W) (a : Option Addr) (ca : Nat) (xs : List OneT) (hx : xs.length ≤ maxLen) (ha : Ones W.heap.size W a ca xs) (s : ByteArray) (hs : s.size ≤ maxLen) (hl : fewB xs = false ∨ 3000 < s.size) :
    Calls Tryd.prog 5 #[.slice a xs.length ca, .string s] W fun e w' => e = .returned (.bool true) ∧ W.grownBy w' none := by
  have HA := Lib.hid (awake_any I.toWCore W hT)
  have HF1 := Lib.hid (fun w (g : W.grownBy w none) => few_any xs hx _ w a ca (ha.grown g))
  unfold maxLen at hx hs
  clear ha
  cases hf : fewB xs with
  | false =>
    rw [hf] at HF1
    clear hl hf
    go_enter Tryd.func5, Tryd.ntmps5
    go_wp2_with fail
    refine HA.out.mono ?_
    rintro e w1 ⟨rfl, g1⟩
    go_wp2_with fail
    refine (HF1.out _ g1).mono ?_
    rintro e w2 ⟨rfl, g2⟩
    go_wp2_with fail
    go_ret
    exact ⟨rfl, only_trans g1 g2⟩
  | true =>
    rw [hf] at HF1
    have hb : 3000 < s.size := by rcases hl with h | h; { rw [hf] at h; cases h }; exact h
    clear hl hf
    go_enter Tryd.func5, Tryd.ntmps5
    go_wp2_with fail
    refine HA.out.mono ?_
    rintro e w1 ⟨rfl, g1⟩
    go_wp2_with fail
    refine (HF1.out _ g1).mono ?_
    rintro e w2 ⟨rfl, g2⟩
    go_wp2_with fail
    go_ret
    exact ⟨rfl, only_trans g1 g2⟩

set_option maxHeartbeats 4000000 in
set_option maxRecDepth 100000 in
theorem back_nn (I : WI) (W : World) (hT : I.fc.Tab W) (a : Option Addr) (ca : Nat) (xs : List OneT) (hx : xs.length ≤ maxLen) (ha : Ones W.heap.size W a ca xs) (s : ByteArray) (hf : fewB xs = true) (hs : s.size ≤ 3000) (hp : (putR (fromL xs 0)).2 ≠ 0) (hg : (getW s.data.toList).2 ≠ 0) :
    Calls Tryd.prog 5 #[.slice a xs.length ca, .string s] W fun e w' => e = .returned (.bool true) ∧ W.grownBy w' none := by
  have HA := Lib.hid (awake_any I.toWCore W hT)
  have HF1 := Lib.hid (fun w (g : W.grownBy w none) => few_any xs hx _ w a ca (ha.grown g))
  rw [hf] at HF1
  obtain ⟨f1, f2, f3, f4⟩ := few_facts hf ha
  have HM1 := Lib.hid (fun w (g : W.grownBy w none) => make_any xs (by omega) W.heap.size w a ca g.size (ha.grown g))
  have hwr := fun hc => few_wr hf ha 0 0 hc
  unfold maxLen at hx
  clear ha hf
  generalize fromL xs 0 = X at *
  have HP := Lib.hid (fun w S v h => I.put X w S v (by omega) f4 (fun hc => by have := hwr hc; omega) h)
  have hlx := len_size X
  have hlen : s.data.toList.length = s.size := by simp
  have HGS := Lib.hid (fun w => I.get s w (by omega))
  have hgz := getW_size s.data.toList
  rw [hlen] at hgz
  have hlt := put_lt X
  have hqb : (((putR X).2 : Int) == 0) = false := by rw [beq_eq_false_iff_ne]; omega
  generalize putR X = pr at *
  clear hwr hp
  have hge := getW_lt _ hg
  rw [hge] at HGS
  have hgb : (((getW s.data.toList).2 : Int) != 0) = true := by rw [bne_iff_ne]; omega
  clear hge hlen hgz
  generalize (getW s.data.toList).2 = E at *
  clear hg
  go_enter Tryd.func5, Tryd.ntmps5
  go_wp2_with fail
  refine HA.out.mono ?_
  rintro e w1 ⟨rfl, g1⟩
  go_wp2_with fail
  refine (HF1.out _ g1).mono ?_
  rintro e w2 ⟨rfl, g2⟩
  have G2 := Lib.hid (only_trans g1 g2)
  clear g1 g2
  go_wp2_with fail
  refine (HM1.out _ G2.out).mono ?_
  rintro e w3 ⟨v3, S3, rfl, o3, -, g3⟩
  have G3 := Lib.hid (only_trans G2.out g3)
  have R3 := Lib.hid o3.rd
  obtain ⟨b3, q3, rfl⟩ := o3.rd.shape
  clear o3 g3
  go_wp2_with fail
  refine (HP.out _ _ _ R3.out).mono ?_
  rintro e w4 ⟨rfl, g4⟩
  have G4 := Lib.hid (only_trans G3.out g4)
  have R4 := Lib.hid (R3.out.grown g4)
  clear g4
  go_wp2_with fail
  refine (HGS.out _).mono ?_
  rintro e wa ⟨va, rfl, ra, ga⟩
  have GA := Lib.hid (only_trans G4.out ga)
  have RA := Lib.hid ra
  obtain ⟨ba, qa, rfl⟩ := ra.shape
  clear ga ra
  go_wp2_with fail
  go_ret
  exact ⟨rfl, GA.out⟩

set_option maxHeartbeats 4000000 in
set_option maxRecDepth 100000 in
theorem back_ny (I : WI) (W : World) (hT : I.fc.Tab W) (a : Option Addr) (ca : Nat) (xs : List OneT) (hx : xs.length ≤ maxLen) (ha : Ones W.heap.size W a ca xs) (s : ByteArray) (hf : fewB xs = true) (hs : s.size ≤ 3000) (hp : (putR (fromL xs 0)).2 ≠ 0) (hg : (getW s.data.toList).2 = 0) :
    Calls Tryd.prog 5 #[.slice a xs.length ca, .string s] W fun e w' => e = .returned (.bool true) ∧ W.grownBy w' none := by
  have HA := Lib.hid (awake_any I.toWCore W hT)
  have HF1 := Lib.hid (fun w (g : W.grownBy w none) => few_any xs hx _ w a ca (ha.grown g))
  rw [hf] at HF1
  obtain ⟨f1, f2, f3, f4⟩ := few_facts hf ha
  have HM1 := Lib.hid (fun w (g : W.grownBy w none) => make_any xs (by omega) W.heap.size w a ca g.size (ha.grown g))
  have hwr := fun hc => few_wr hf ha 0 0 hc
  unfold maxLen at hx
  clear ha hf
  generalize fromL xs 0 = X at *
  have HP := Lib.hid (fun w S v h => I.put X w S v (by omega) f4 (fun hc => by have := hwr hc; omega) h)
  have hlx := len_size X
  have hlen : s.data.toList.length = s.size := by simp
  have HGS := Lib.hid (fun w => I.get s w (by omega))
  have hgz := getW_size s.data.toList
  rw [hlen] at hgz
  have hlt := put_lt X
  have hqb : (((putR X).2 : Int) == 0) = false := by rw [beq_eq_false_iff_ne]; omega
  generalize putR X = pr at *
  clear hwr hp
  obtain ⟨k1, k2, k3, k4, k5⟩ := getW_facts hg
  have HP2 := Lib.hid (fun w S v h => I.put (getW s.data.toList).1 w S v (by omega) k3 (fun _ => by rw [k1, hlen]; omega) h)
  have HZ2 := Lib.hid (fun w S v h => I.size (getW s.data.toList).1 w S v (by omega) k3 (fun _ => by rw [k1, hlen]; omega) h)
  have HC2 := Lib.hid (fun w S v h => I.fc.check (getW s.data.toList).1 w S v (by omega) h)
  rw [k4] at HP2
  rw [txt_of] at HP2
  rw [k5, hlen] at HZ2
  rw [k2] at HC2
  rw [hg] at HGS
  clear k1 k2 k3 k4 k5 hg hlen
  generalize (getW s.data.toList).1 = Y at *
  have hss : (s.toList == s.toList) = true := beq_self_eq_true _
  have hly := len_size Y
  go_enter Tryd.func5, Tryd.ntmps5
  go_wp2_with fail
  refine HA.out.mono ?_
  rintro e w1 ⟨rfl, g1⟩
  go_wp2_with fail
  refine (HF1.out _ g1).mono ?_
  rintro e w2 ⟨rfl, g2⟩
  have G2 := Lib.hid (only_trans g1 g2)
  clear g1 g2
  go_wp2_with fail
  refine (HM1.out _ G2.out).mono ?_
  rintro e w3 ⟨v3, S3, rfl, o3, -, g3⟩
  have G3 := Lib.hid (only_trans G2.out g3)
  have R3 := Lib.hid o3.rd
  obtain ⟨b3, q3, rfl⟩ := o3.rd.shape
  clear o3 g3
  go_wp2_with fail
  refine (HP.out _ _ _ R3.out).mono ?_
  rintro e w4 ⟨rfl, g4⟩
  have G4 := Lib.hid (only_trans G3.out g4)
  have R4 := Lib.hid (R3.out.grown g4)
  clear g4
  go_wp2_with fail
  refine (HGS.out _).mono ?_
  rintro e wa ⟨va, rfl, ra, ga⟩
  have GA := Lib.hid (only_trans G4.out ga)
  have RA := Lib.hid ra
  obtain ⟨ba, qa, rfl⟩ := ra.shape
  clear ga ra
  go_wp2_with fail
  refine (HP2.out _ _ _ RA.out).mono ?_
  rintro e wb ⟨rfl, gb⟩
  have GB := Lib.hid (only_trans GA.out gb)
  have RB := Lib.hid (RA.out.grown gb)
  clear gb
  go_wp2_with fail
  refine (HC2.out _ _ _ RB.out).mono ?_
  rintro e wc ⟨rfl, gc⟩
  have GC := Lib.hid (only_trans GB.out gc)
  have RC := Lib.hid (RB.out.grown gc)
  clear gc
  go_wp2_with fail
  refine (HZ2.out _ _ _ RC.out).mono ?_
  rintro e wd ⟨rfl, gd⟩
  have GD := Lib.hid (only_trans GC.out gd)
  clear gd
  go_wp2_with fail
  go_ret
  exact ⟨rfl, GD.out⟩

set_option maxHeartbeats 4000000 in
set_option maxRecDepth 100000 in
theorem back_yn (I : WI) (W : World) (hT : I.fc.Tab W) (a : Option Addr) (ca : Nat) (xs : List OneT) (hx : xs.length ≤ maxLen) (ha : Ones W.heap.size W a ca xs) (s : ByteArray) (hf : fewB xs = true) (hs : s.size ≤ 3000) (hp : (putR (fromL xs 0)).2 = 0) (hg : (getW s.data.toList).2 ≠ 0) :
    Calls Tryd.prog 5 #[.slice a xs.length ca, .string s] W fun e w' => e = .returned (.bool true) ∧ W.grownBy w' none := by
  have HA := Lib.hid (awake_any I.toWCore W hT)
  have HF1 := Lib.hid (fun w (g : W.grownBy w none) => few_any xs hx _ w a ca (ha.grown g))
  rw [hf] at HF1
  obtain ⟨f1, f2, f3, f4⟩ := few_facts hf ha
  have HM1 := Lib.hid (fun w (g : W.grownBy w none) => make_any xs (by omega) W.heap.size w a ca g.size (ha.grown g))
  have hwr := fun hc => few_wr hf ha 0 0 hc
  unfold maxLen at hx
  clear ha hf
  generalize fromL xs 0 = X at *
  have HP := Lib.hid (fun w S v h => I.put X w S v (by omega) f4 (fun hc => by have := hwr hc; omega) h)
  have hlx := len_size X
  have hlen : s.data.toList.length = s.size := by simp
  have HGS := Lib.hid (fun w => I.get s w (by omega))
  have hgz := getW_size s.data.toList
  rw [hlen] at hgz
  obtain ⟨p1, p2, p3⟩ := putR_ok hp
  have p4 := hwr p1
  rw [p3] at HP
  have e1 : (txt (wrL X)).data.toList = wrL X := rfl
  have e2 : (txt (wrL X) ++ (⟨#[0]⟩ : ByteArray)).data.toList = wrL X ++ [0] := by simp [txt]
  have hsz : (txt (wrL X)).size = (wrL X).length := txt_size _
  have HGW := Lib.hid (fun w => I.get (txt (wrL X)) w (by omega))
  have HG0 := Lib.hid (fun w => I.get (txt (wrL X) ++ (⟨#[0]⟩ : ByteArray)) w (by rw [ByteArray.size_append, hsz]; show _ + 1 ≤ _; omega))
  rw [e1, getW_back p1 f4 (by omega)] at HGW
  rw [e2, getW_more p1 f4 (by omega)] at HG0
  have HOF := Lib.hid (fun w S v h => of_any _ X (Nat.le_refl _) (by omega) w S v h)
  have HSX := Lib.hid (fun w S S' v u h h' => rsame_any _ X X (Nat.le_refl _) (by omega) w S S' v u h h')
  rw [same_self] at HSX
  clear p1 p3 e1 e2 hp hwr
  have hsz2 : (txt (wrL X)).size ≤ 20000 := by omega
  clear hsz p2 p4
  generalize txt (wrL X) = P at *
  have hge := getW_lt _ hg
  rw [hge] at HGS
  have hgb : (((getW s.data.toList).2 : Int) != 0) = true := by rw [bne_iff_ne]; omega
  clear hge hlen hgz
  generalize (getW s.data.toList).2 = E at *
  clear hg
  go_enter Tryd.func5, Tryd.ntmps5
  go_wp2_with fail
  refine HA.out.mono ?_
  rintro e w1 ⟨rfl, g1⟩
  go_wp2_with fail
  refine (HF1.out _ g1).mono ?_
  rintro e w2 ⟨rfl, g2⟩
  have G2 := Lib.hid (only_trans g1 g2)
  clear g1 g2
  go_wp2_with fail
  refine (HM1.out _ G2.out).mono ?_
  rintro e w3 ⟨v3, S3, rfl, o3, -, g3⟩
  have G3 := Lib.hid (only_trans G2.out g3)
  have R3 := Lib.hid o3.rd
  obtain ⟨b3, q3, rfl⟩ := o3.rd.shape
  clear o3 g3
  go_wp2_with fail
  refine (HP.out _ _ _ R3.out).mono ?_
  rintro e w4 ⟨rfl, g4⟩
  have G4 := Lib.hid (only_trans G3.out g4)
  have R4 := Lib.hid (R3.out.grown g4)
  clear g4
  go_wp2_with fail
  refine (HGW.out _).mono ?_
  rintro e w5 ⟨v5, rfl, r5, g5⟩
  have G5 := Lib.hid (only_trans G4.out g5)
  have R5 := Lib.hid (R4.out.grown g5)
  have L5 := Lib.hid r5
  obtain ⟨b5, q5, rfl⟩ := r5.shape
  clear g5 r5
  go_wp2_with fail
  refine (HOF.out _ _ _ L5.out).mono ?_
  rintro e w6 ⟨v6, S6, rfl, o6, -, g6⟩
  have G6 := Lib.hid (only_trans G5.out g6)
  have R6 := Lib.hid (R5.out.grown g6)
  have L6 := Lib.hid o6.rd
  obtain ⟨b6, q6, rfl⟩ := o6.rd.shape
  clear g6 o6
  go_wp2_with fail
  refine (HOF.out _ _ _ R6.out).mono ?_
  rintro e w7 ⟨v7, S7, rfl, o7, -, g7⟩
  have G7 := Lib.hid (only_trans G6.out g7)
  have L7 := Lib.hid (L6.out.grown g7)
  have M7 := Lib.hid o7.rd
  obtain ⟨b7, q7, rfl⟩ := o7.rd.shape
  clear g7 o7
  go_wp2_with fail
  refine (HSX.out _ _ _ _ _ L7.out M7.out).mono ?_
  rintro e w8 ⟨rfl, m8, hw8⟩
  have G8 : Hid (W.grownBy w8 none) := by rw [hw8]; exact only_drewN G7.out m8
  clear hw8
  go_wp2_with fail
  refine (HG0.out _).mono ?_
  rintro e w9 ⟨v9, rfl, r9, g9⟩
  have G9 := Lib.hid (only_trans G8.out g9)
  obtain ⟨b9, q9, rfl⟩ := r9.shape
  clear g9 r9
  go_wp2_with fail
  refine (HGS.out _).mono ?_
  rintro e wa ⟨va, rfl, ra, ga⟩
  have GA := Lib.hid (only_trans G9.out ga)
  have RA := Lib.hid ra
  obtain ⟨ba, qa, rfl⟩ := ra.shape
  clear ga ra
  go_wp2_with fail
  go_ret
  exact ⟨rfl, GA.out⟩

set_option maxHeartbeats 4000000 in
set_option maxRecDepth 100000 in
theorem back_yy (I : WI) (W : World) (hT : I.fc.Tab W) (a : Option Addr) (ca : Nat) (xs : List OneT) (hx : xs.length ≤ maxLen) (ha : Ones W.heap.size W a ca xs) (s : ByteArray) (hf : fewB xs = true) (hs : s.size ≤ 3000) (hp : (putR (fromL xs 0)).2 = 0) (hg : (getW s.data.toList).2 = 0) :
    Calls Tryd.prog 5 #[.slice a xs.length ca, .string s] W fun e w' => e = .returned (.bool true) ∧ W.grownBy w' none := by
  have HA := Lib.hid (awake_any I.toWCore W hT)
  have HF1 := Lib.hid (fun w (g : W.grownBy w none) => few_any xs hx _ w a ca (ha.grown g))
  rw [hf] at HF1
  obtain ⟨f1, f2, f3, f4⟩ := few_facts hf ha
  have HM1 := Lib.hid (fun w (g : W.grownBy w none) => make_any xs (by omega) W.heap.size w a ca g.size (ha.grown g))
  have hwr := fun hc => few_wr hf ha 0 0 hc
  unfold maxLen at hx
  clear ha hf
  generalize fromL xs 0 = X at *
  have HP := Lib.hid (fun w S v h => I.put X w S v (by omega) f4 (fun hc => by have := hwr hc; omega) h)
  have hlx := len_size X
  have hlen : s.data.toList.length = s.size := by simp
  have HGS := Lib.hid (fun w => I.get s w (by omega))
  have hgz := getW_size s.data.toList
  rw [hlen] at hgz
  obtain ⟨p1, p2, p3⟩ := putR_ok hp
  have p4 := hwr p1
  rw [p3] at HP
  have e1 : (txt (wrL X)).data.toList = wrL X := rfl
  have e2 : (txt (wrL X) ++ (⟨#[0]⟩ : ByteArray)).data.toList = wrL X ++ [0] := by simp [txt]
  have hsz : (txt (wrL X)).size = (wrL X).length := txt_size _
  have HGW := Lib.hid (fun w => I.get (txt (wrL X)) w (by omega))
  have HG0 := Lib.hid (fun w => I.get (txt (wrL X) ++ (⟨#[0]⟩ : ByteArray)) w (by rw [ByteArray.size_append, hsz]; show _ + 1 ≤ _; omega))
  rw [e1, getW_back p1 f4 (by omega)] at HGW
  rw [e2, getW_more p1 f4 (by omega)] at HG0
  have HOF := Lib.hid (fun w S v h => of_any _ X (Nat.le_refl _) (by omega) w S v h)
  have HSX := Lib.hid (fun w S S' v u h h' => rsame_any _ X X (Nat.le_refl _) (by omega) w S S' v u h h')
  rw [same_self] at HSX
  clear p1 p3 e1 e2 hp hwr
  have hsz2 : (txt (wrL X)).size ≤ 20000 := by omega
  clear hsz p2 p4
  generalize txt (wrL X) = P at *
  obtain ⟨k1, k2, k3, k4, k5⟩ := getW_facts hg
  have HP2 := Lib.hid (fun w S v h => I.put (getW s.data.toList).1 w S v (by omega) k3 (fun _ => by rw [k1, hlen]; omega) h)
  have HZ2 := Lib.hid (fun w S v h => I.size (getW s.data.toList).1 w S v (by omega) k3 (fun _ => by rw [k1, hlen]; omega) h)
  have HC2 := Lib.hid (fun w S v h => I.fc.check (getW s.data.toList).1 w S v (by omega) h)
  rw [k4] at HP2
  rw [txt_of] at HP2
  rw [k5, hlen] at HZ2
  rw [k2] at HC2
  rw [hg] at HGS
  clear k1 k2 k3 k4 k5 hg hlen
  generalize (getW s.data.toList).1 = Y at *
  have hss : (s.toList == s.toList) = true := beq_self_eq_true _
  have hly := len_size Y
  go_enter Tryd.func5, Tryd.ntmps5
  go_wp2_with fail
  refine HA.out.mono ?_
  rintro e w1 ⟨rfl, g1⟩
  go_wp2_with fail
  refine (HF1.out _ g1).mono ?_
  rintro e w2 ⟨rfl, g2⟩
  have G2 := Lib.hid (only_trans g1 g2)
  clear g1 g2
  go_wp2_with fail
  refine (HM1.out _ G2.out).mono ?_
  rintro e w3 ⟨v3, S3, rfl, o3, -, g3⟩
  have G3 := Lib.hid (only_trans G2.out g3)
  have R3 := Lib.hid o3.rd
  obtain ⟨b3, q3, rfl⟩ := o3.rd.shape
  clear o3 g3
  go_wp2_with fail
  refine (HP.out _ _ _ R3.out).mono ?_
  rintro e w4 ⟨rfl, g4⟩
  have G4 := Lib.hid (only_trans G3.out g4)
  have R4 := Lib.hid (R3.out.grown g4)
  clear g4
  go_wp2_with fail
  refine (HGW.out _).mono ?_
  rintro e w5 ⟨v5, rfl, r5, g5⟩
  have G5 := Lib.hid (only_trans G4.out g5)
  have R5 := Lib.hid (R4.out.grown g5)
  have L5 := Lib.hid r5
  obtain ⟨b5, q5, rfl⟩ := r5.shape
  clear g5 r5
  go_wp2_with fail
  refine (HOF.out _ _ _ L5.out).mono ?_
  rintro e w6 ⟨v6, S6, rfl, o6, -, g6⟩
  have G6 := Lib.hid (only_trans G5.out g6)
  have R6 := Lib.hid (R5.out.grown g6)
  have L6 := Lib.hid o6.rd
  obtain ⟨b6, q6, rfl⟩ := o6.rd.shape
  clear g6 o6
  go_wp2_with fail
  refine (HOF.out _ _ _ R6.out).mono ?_
  rintro e w7 ⟨v7, S7, rfl, o7, -, g7⟩
  have G7 := Lib.hid (only_trans G6.out g7)
  have L7 := Lib.hid (L6.out.grown g7)
  have M7 := Lib.hid o7.rd
  obtain ⟨b7, q7, rfl⟩ := o7.rd.shape
  clear g7 o7
  go_wp2_with fail
  refine (HSX.out _ _ _ _ _ L7.out M7.out).mono ?_
  rintro e w8 ⟨rfl, m8, hw8⟩
  have G8 : Hid (W.grownBy w8 none) := by rw [hw8]; exact only_drewN G7.out m8
  clear hw8
  go_wp2_with fail
  refine (HG0.out _).mono ?_
  rintro e w9 ⟨v9, rfl, r9, g9⟩
  have G9 := Lib.hid (only_trans G8.out g9)
  obtain ⟨b9, q9, rfl⟩ := r9.shape
  clear g9 r9
  go_wp2_with fail
  refine (HGS.out _).mono ?_
  rintro e wa ⟨va, rfl, ra, ga⟩
  have GA := Lib.hid (only_trans G9.out ga)
  have RA := Lib.hid ra
  obtain ⟨ba, qa, rfl⟩ := ra.shape
  clear ga ra
  go_wp2_with fail
  refine (HP2.out _ _ _ RA.out).mono ?_
  rintro e wb ⟨rfl, gb⟩
  have GB := Lib.hid (only_trans GA.out gb)
  have RB := Lib.hid (RA.out.grown gb)
  clear gb
  go_wp2_with fail
  refine (HC2.out _ _ _ RB.out).mono ?_
  rintro e wc ⟨rfl, gc⟩
  have GC := Lib.hid (only_trans GB.out gc)
  have RC := Lib.hid (RB.out.grown gc)
  clear gc
  go_wp2_with fail
  refine (HZ2.out _ _ _ RC.out).mono ?_
  rintro e wd ⟨rfl, gd⟩
  have GD := Lib.hid (only_trans GC.out gd)
  clear gd
  go_wp2_with fail
  go_ret
  exact ⟨rfl, GD.out⟩

theorem back_any (I : WI) (W : World) (hT : I.fc.Tab W) (a : Option Addr) (ca : Nat) (xs : List OneT) (hx : xs.length ≤ maxLen) (ha : Ones W.heap.size W a ca xs) (s : ByteArray) (hs : s.size ≤ maxLen) :
    Calls Tryd.prog 5 #[.slice a xs.length ca, .string s] W fun e w' => e = .returned (.bool true) ∧ W.grownBy w' none := by
  by_cases hf : fewB xs = true
  · by_cases hb : 3000 < s.size
    · exact back_early I W hT a ca xs hx ha s hs (.inr hb)
    · by_cases hp : (putR (fromL xs 0)).2 = 0
      · by_cases hg : (getW s.data.toList).2 = 0
        · exact back_yy I W hT a ca xs hx ha s hf (by omega) hp hg
        · exact back_yn I W hT a ca xs hx ha s hf (by omega) hp hg
      · by_cases hg : (getW s.data.toList).2 = 0
        · exact back_ny I W hT a ca xs hx ha s hf (by omega) hp hg
        · exact back_nn I W hT a ca xs hx ha s hf (by omega) hp hg
  · exact back_early I W hT a ca xs hx ha s hs (.inl (by simpa using hf))

end Go.Proofs.YtigmfbmjfjkfjaaDoor.law09
