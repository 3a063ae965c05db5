/-
  WireJoins, for whatever keeps the contracts.
-/
import Derived.Test.YtigmfbmjfjkfjaaDoorLaw09B
import Derived.Test.YtigmfbmjfjkfjaaDoorBundF
import Derived.Deep.RegionHeld3
namespace Go.Proofs.YtigmfbmjfjkfjaaDoor.law09
open Go.RowKit Go.Proofs.YtigmfbmjfjkfjaaDoor.tr Go.Proofs.YtigmfbmjfjkfjaaDoor.wm Go.Proofs.YtigmfbmjfjkfjaaDoor.vi
set_option linter.unusedVariables false
set_option linter.unusedSimpArgs false

theorem check_app (d : Nat) : ∀ (x : List Tree) (p : Nat) (y : List Tree), checkL d p x = 0 → checkL d p (x ++ y) = checkL d (lastOf p x) y
  | [], p, y, _ => rfl
  | t :: r, p, y, h => by
    obtain ⟨h0, h1, h2, h3, h4, h5, h6⟩ := check_ok h
    rw [List.cons_append, checkL_cons, if_neg (by omega), if_neg (by omega), if_neg h3, if_neg h4, if_neg (by omega), lastOf, check_app d r t.tag y h6]
theorem check_low {d q : Nat} {t : Tree} {r : List Tree} (h : checkL d 0 (t :: r) = 0) (hq : t.tag ≤ q) : checkL d q (t :: r) = 7 := by
  obtain ⟨h0, h1, h2, h3, h4, h5, h6⟩ := check_ok h
  rw [checkL_cons, if_neg (by omega), if_pos hq]
theorem check_high {d q : Nat} {t : Tree} {r : List Tree} (h : checkL d 0 (t :: r) = 0) (hq : q < t.tag) : checkL d q (t :: r) = 0 := by
  obtain ⟨h0, h1, h2, h3, h4, h5, h6⟩ := check_ok h
  exact check_mk h0 h1 hq h3 h4 h5 h6
theorem lastOf_at : ∀ (x : List Tree) (p n : Nat) (t : Tree), x.length = n + 1 → x[n]? = some t → lastOf p x = t.tag
  | [], p, n, t, h, _ => by simp at h
  | u :: r, p, 0, t, h, ht => by
    simp at h ht
    subst h ht
    rfl
  | u :: r, p, n + 1, t, h, ht => by
    rw [lastOf]
    exact lastOf_at r u.tag n t (by simpa using h) (by simpa using ht)

/-- What two lists are together. -/
theorem joins_math {x y : List Tree} (hx : checkL 0 0 x = 0) (hy : checkL 0 0 y = 0) (hl : (wrL x).length + (wrL y).length ≤ 65536) (hfx : fitsL x) (hfy : fitsL y) :
    (checkL 0 (lastOf 0 x) y = 7 → putR (x ++ y) = ([], 7)) ∧ (checkL 0 (lastOf 0 x) y = 0 → putR (x ++ y) = (wrL x ++ wrL y, 0) ∧ getW (wrL x ++ wrL y) = (x ++ y, 0)) := by
  have h1 := check_app 0 x 0 y hx
  have hlen : (wrL (x ++ y)).length = (wrL x).length + (wrL y).length := by rw [wrL_append, List.length_append]
  constructor
  · intro h
    unfold putR
    rw [h1, h, if_pos (by simp)]
  · intro h
    rw [h] at h1
    rw [putR_of h1 (by omega), ← wrL_append]
    exact ⟨rfl, getW_back h1 ((fitsL_append x y).2 ⟨hfx, hfy⟩) (by omega)⟩

def CloneP : Prop := ∀ (ts : List Tree) (w : World) (S : Nat → Prop) (v : Value), sizeL ts ≤ 100000 → Rd w S v ts → Calls Tryd.prog 20 #[v] w fun e w' => ∃ v' S', e = .returned v' ∧ OwnF 41 w.heap.size S' w' v' ts ∧ (∀ k, S' k → w.heap.size ≤ k) ∧ (∀ k, S' k → ∀ j, w'.frozen? ⟨k, j, none⟩ = false) ∧ w.grownBy w' none

set_option maxHeartbeats 2000000 in
set_option maxRecDepth 100000 in
theorem joins_early (I : WI) (W : World) (hT : I.fc.Tab W) (a : Option Addr) (ca : Nat) (xs : List OneT) (hx : xs.length ≤ maxLen) (ha : Ones W.heap.size W a ca xs) (b : Option Addr) (cb : Nat) (ys : List OneT) (hy : ys.length ≤ maxLen) (hb : Ones W.heap.size W b cb ys) (hl : fewB xs = false ∨ fewB ys = false) :
    Calls Tryd.prog 6 #[.slice a xs.length ca, .slice b ys.length cb] W fun e w' => e = .returned (.bool true) ∧ W.grownBy w' none := by
  have HA := Lib.hid (awake_any I.toWCore W hT)
  have HF1 := Lib.hid (fun w (g : W.grownBy w none) => few_any xs hx _ w a ca (ha.grown g))
  have HF2 := Lib.hid (fun w (g : W.grownBy w none) => few_any ys hy _ w b cb (hb.grown g))
  clear ha hb
  unfold maxLen at hx hy
  cases hf : fewB xs with
  | false =>
    rw [hf] at HF1
    clear hl HF2 hf
    go_enter Tryd.func6, Tryd.ntmps6
    go_wp2_with fail
    refine HA.out.mono ?_
    rintro e w1 ⟨rfl, g1⟩
    go_wp2_with fail
    refine (HF1.out _ g1).mono ?_
    rintro e w2 ⟨rfl, g2⟩
    go_wp2_with fail
    go_ret
    exact ⟨rfl, only_trans g1 g2⟩
  | true =>
    rw [hf] at HF1
    have hf2 : fewB ys = false := by rcases hl with h | h; { rw [hf] at h; cases h }; exact h
    rw [hf2] at HF2
    clear hl hf hf2
    go_enter Tryd.func6, Tryd.ntmps6
    go_wp2_with fail
    refine HA.out.mono ?_
    rintro e w1 ⟨rfl, g1⟩
    go_wp2_with fail
    refine (HF1.out _ g1).mono ?_
    rintro e w2 ⟨rfl, g2⟩
    have g12 := only_trans g1 g2
    clear g1 g2
    go_wp2_with fail
    refine (HF2.out _ g12).mono ?_
    rintro e w3 ⟨rfl, g3⟩
    go_wp2_with fail
    go_ret
    exact ⟨rfl, only_trans g12 g3⟩

set_option maxHeartbeats 2000000 in
set_option maxRecDepth 100000 in
theorem joins_err1 (I : WI) (W : World) (hT : I.fc.Tab W) (a : Option Addr) (ca : Nat) (xs : List OneT) (hx : xs.length ≤ maxLen) (ha : Ones W.heap.size W a ca xs) (b : Option Addr) (cb : Nat) (ys : List OneT) (hy : ys.length ≤ maxLen) (hb : Ones W.heap.size W b cb ys) (hf : fewB xs = true) (hf2 : fewB ys = true) (hp : (putR (fromL xs 0)).2 ≠ 0) :
    Calls Tryd.prog 6 #[.slice a xs.length ca, .slice b ys.length cb] W fun e w' => e = .returned (.bool true) ∧ W.grownBy w' none := by
  have HA := Lib.hid (awake_any I.toWCore W hT)
  have HF1 := Lib.hid (fun w (g : W.grownBy w none) => few_any xs hx _ w a ca (ha.grown g))
  have HF2 := Lib.hid (fun w (g : W.grownBy w none) => few_any ys hy _ w b cb (hb.grown g))
  obtain ⟨f1, f2, f3, f4⟩ := few_facts hf ha
  obtain ⟨k1, k2, k3, k4⟩ := few_facts hf2 hb
  have HM1 := Lib.hid (fun w (g : W.grownBy w none) => make_any xs (by omega) W.heap.size w a ca g.size (ha.grown g))
  have HM2 := Lib.hid (fun w (g : W.grownBy w none) => make_any ys (by omega) W.heap.size w b cb g.size (hb.grown g))
  have hw1 := fun hc => few_wr hf ha 0 0 hc
  have hw2 := fun hc => few_wr hf2 hb 0 0 hc
  rw [hf] at HF1
  rw [hf2] at HF2
  unfold maxLen at hx hy
  clear ha hb hf hf2
  generalize fromL xs 0 = X at *
  generalize fromL ys 0 = Y at *
  have HP1 := Lib.hid (fun w S v h => I.put X w S v (by omega) f4 (fun hc => by have := hw1 hc; omega) h)
  have HP2 := Lib.hid (fun w S v h => I.put Y w S v (by omega) k4 (fun hc => by have := hw2 hc; omega) h)
  have hlx := len_size X
  have hly := len_size Y
  have hlt := put_lt X
  have hqb : (((putR X).2 : Int) != 0) = true := by rw [bne_iff_ne]; omega
  generalize putR X = p1 at *
  generalize putR Y = p2 at *
  clear hw1 hw2 hp
  go_enter Tryd.func6, Tryd.ntmps6
  go_wp2_with fail
  refine HA.out.mono ?_
  rintro e w1 ⟨rfl, g1⟩
  go_wp2_with fail
  refine (HF1.out _ g1).mono ?_
  rintro e w2 ⟨rfl, g2⟩
  have G2 := Lib.hid (only_trans g1 g2)
  clear g1 g2
  go_wp2_with fail
  refine (HF2.out _ G2.out).mono ?_
  rintro e w3 ⟨rfl, g3⟩
  have G3 := Lib.hid (only_trans G2.out g3)
  clear g3
  go_wp2_with fail
  refine (HM1.out _ G3.out).mono ?_
  rintro e w4 ⟨v4, S4, rfl, o4, -, g4⟩
  have G4 := Lib.hid (only_trans G3.out g4)
  have X4 := Lib.hid o4.rd
  have x4l := Lib.hid o4.all_lt
  obtain ⟨x1, x2, hvx⟩ := o4.rd.shape
  subst hvx
  clear o4 g4
  go_wp2_with fail
  refine (HM2.out _ G4.out).mono ?_
  rintro e w5 ⟨v5, S5, rfl, o5, -, g5⟩
  have G5 := Lib.hid (only_trans G4.out g5)
  have X5 := Lib.hid (X4.out.grown g5)
  have Y5 := Lib.hid o5.rd
  have g45 := Lib.hid g5
  have y5l := Lib.hid o5.all_lt
  obtain ⟨y1, y2, hvy⟩ := o5.rd.shape
  subst hvy
  clear o5 g5
  go_wp2_with fail
  refine (HP1.out _ _ _ X5.out).mono ?_
  rintro e w6 ⟨rfl, g6⟩
  have G6 := Lib.hid (only_trans G5.out g6)
  have X6 := Lib.hid (X5.out.grown g6)
  have Y6 := Lib.hid (Y5.out.grown g6)
  have g56 := Lib.hid g6
  clear g6
  go_wp2_with fail
  refine (HP2.out _ _ _ Y6.out).mono ?_
  rintro e w7 ⟨rfl, g7⟩
  have G7 := Lib.hid (only_trans G6.out g7)
  have X7 := Lib.hid (X6.out.grown g7)
  have Y7 := Lib.hid (Y6.out.grown g7)
  have g57 := Lib.hid (only_trans g56.out g7)
  clear g7
  go_wp2_with fail
  go_ret
  exact ⟨rfl, G7.out⟩

set_option maxHeartbeats 2000000 in
set_option maxRecDepth 100000 in
theorem joins_err2 (I : WI) (W : World) (hT : I.fc.Tab W) (a : Option Addr) (ca : Nat) (xs : List OneT) (hx : xs.length ≤ maxLen) (ha : Ones W.heap.size W a ca xs) (b : Option Addr) (cb : Nat) (ys : List OneT) (hy : ys.length ≤ maxLen) (hb : Ones W.heap.size W b cb ys) (hf : fewB xs = true) (hf2 : fewB ys = true) (hp : (putR (fromL xs 0)).2 = 0 ∧ (putR (fromL ys 0)).2 ≠ 0) :
    Calls Tryd.prog 6 #[.slice a xs.length ca, .slice b ys.length cb] W fun e w' => e = .returned (.bool true) ∧ W.grownBy w' none := by
  have HA := Lib.hid (awake_any I.toWCore W hT)
  have HF1 := Lib.hid (fun w (g : W.grownBy w none) => few_any xs hx _ w a ca (ha.grown g))
  have HF2 := Lib.hid (fun w (g : W.grownBy w none) => few_any ys hy _ w b cb (hb.grown g))
  obtain ⟨f1, f2, f3, f4⟩ := few_facts hf ha
  obtain ⟨k1, k2, k3, k4⟩ := few_facts hf2 hb
  have HM1 := Lib.hid (fun w (g : W.grownBy w none) => make_any xs (by omega) W.heap.size w a ca g.size (ha.grown g))
  have HM2 := Lib.hid (fun w (g : W.grownBy w none) => make_any ys (by omega) W.heap.size w b cb g.size (hb.grown g))
  have hw1 := fun hc => few_wr hf ha 0 0 hc
  have hw2 := fun hc => few_wr hf2 hb 0 0 hc
  rw [hf] at HF1
  rw [hf2] at HF2
  unfold maxLen at hx hy
  clear ha hb hf hf2
  generalize fromL xs 0 = X at *
  generalize fromL ys 0 = Y at *
  have HP1 := Lib.hid (fun w S v h => I.put X w S v (by omega) f4 (fun hc => by have := hw1 hc; omega) h)
  have HP2 := Lib.hid (fun w S v h => I.put Y w S v (by omega) k4 (fun hc => by have := hw2 hc; omega) h)
  have hlx := len_size X
  have hly := len_size Y
  have hlt := put_lt Y
  have hqa : (((putR X).2 : Int) != 0) = false := by rw [hp.1]; rfl
  have hqb : (((putR Y).2 : Int) != 0) = true := by rw [bne_iff_ne]; omega
  generalize putR X = p1 at *
  generalize putR Y = p2 at *
  clear hw1 hw2 hp
  go_enter Tryd.func6, Tryd.ntmps6
  go_wp2_with fail
  refine HA.out.mono ?_
  rintro e w1 ⟨rfl, g1⟩
  go_wp2_with fail
  refine (HF1.out _ g1).mono ?_
  rintro e w2 ⟨rfl, g2⟩
  have G2 := Lib.hid (only_trans g1 g2)
  clear g1 g2
  go_wp2_with fail
  refine (HF2.out _ G2.out).mono ?_
  rintro e w3 ⟨rfl, g3⟩
  have G3 := Lib.hid (only_trans G2.out g3)
  clear g3
  go_wp2_with fail
  refine (HM1.out _ G3.out).mono ?_
  rintro e w4 ⟨v4, S4, rfl, o4, -, g4⟩
  have G4 := Lib.hid (only_trans G3.out g4)
  have X4 := Lib.hid o4.rd
  have x4l := Lib.hid o4.all_lt
  obtain ⟨x1, x2, hvx⟩ := o4.rd.shape
  subst hvx
  clear o4 g4
  go_wp2_with fail
  refine (HM2.out _ G4.out).mono ?_
  rintro e w5 ⟨v5, S5, rfl, o5, -, g5⟩
  have G5 := Lib.hid (only_trans G4.out g5)
  have X5 := Lib.hid (X4.out.grown g5)
  have Y5 := Lib.hid o5.rd
  have g45 := Lib.hid g5
  have y5l := Lib.hid o5.all_lt
  obtain ⟨y1, y2, hvy⟩ := o5.rd.shape
  subst hvy
  clear o5 g5
  go_wp2_with fail
  refine (HP1.out _ _ _ X5.out).mono ?_
  rintro e w6 ⟨rfl, g6⟩
  have G6 := Lib.hid (only_trans G5.out g6)
  have X6 := Lib.hid (X5.out.grown g6)
  have Y6 := Lib.hid (Y5.out.grown g6)
  have g56 := Lib.hid g6
  clear g6
  go_wp2_with fail
  refine (HP2.out _ _ _ Y6.out).mono ?_
  rintro e w7 ⟨rfl, g7⟩
  have G7 := Lib.hid (only_trans G6.out g7)
  have X7 := Lib.hid (X6.out.grown g7)
  have Y7 := Lib.hid (Y6.out.grown g7)
  have g57 := Lib.hid (only_trans g56.out g7)
  clear g7
  go_wp2_with fail
  go_ret
  exact ⟨rfl, G7.out⟩

set_option maxHeartbeats 4000000 in
set_option maxRecDepth 100000 in
theorem joins_x (CL : CloneP) (I : WI) (W : World) (hT : I.fc.Tab W) (a : Option Addr) (ca : Nat) (xs : List OneT) (hx : xs.length ≤ maxLen) (ha : Ones W.heap.size W a ca xs) (b : Option Addr) (cb : Nat) (ys : List OneT) (hy : ys.length ≤ maxLen) (hb : Ones W.heap.size W b cb ys) (hf : fewB xs = true) (hf2 : fewB ys = true) (hp : (putR (fromL xs 0)).2 = 0 ∧ (putR (fromL ys 0)).2 = 0) (he : fromL xs 0 = []) :
    Calls Tryd.prog 6 #[.slice a xs.length ca, .slice b ys.length cb] W fun e w' => e = .returned (.bool true) ∧ W.grownBy w' none := by
  have HA := Lib.hid (awake_any I.toWCore W hT)
  have HF1 := Lib.hid (fun w (g : W.grownBy w none) => few_any xs hx _ w a ca (ha.grown g))
  have HF2 := Lib.hid (fun w (g : W.grownBy w none) => few_any ys hy _ w b cb (hb.grown g))
  obtain ⟨f1, f2, f3, f4⟩ := few_facts hf ha
  obtain ⟨k1, k2, k3, k4⟩ := few_facts hf2 hb
  have HM1 := Lib.hid (fun w (g : W.grownBy w none) => make_any xs (by omega) W.heap.size w a ca g.size (ha.grown g))
  have HM2 := Lib.hid (fun w (g : W.grownBy w none) => make_any ys (by omega) W.heap.size w b cb g.size (hb.grown g))
  have hw1 := fun hc => few_wr hf ha 0 0 hc
  have hw2 := fun hc => few_wr hf2 hb 0 0 hc
  rw [hf] at HF1
  rw [hf2] at HF2
  unfold maxLen at hx hy
  clear ha hb hf hf2
  generalize fromL xs 0 = X at *
  generalize fromL ys 0 = Y at *
  have HP1 := Lib.hid (fun w S v h => I.put X w S v (by omega) f4 (fun hc => by have := hw1 hc; omega) h)
  have HP2 := Lib.hid (fun w S v h => I.put Y w S v (by omega) k4 (fun hc => by have := hw2 hc; omega) h)
  have hlx := len_size X
  have hly := len_size Y
  obtain ⟨a1, a2, a3⟩ := putR_ok hp.1
  obtain ⟨b1, b2, b3⟩ := putR_ok hp.2
  rw [a3] at HP1
  rw [b3] at HP2
  have a4 := hw1 a1
  have b4 := hw2 b1
  have hJ := joins_math a1 b1 (by omega) f4 k4
  have hXY : sizeL (X ++ Y) ≤ 50000 := by rw [sizeL_append]; omega
  have HP3 := Lib.hid (fun w S v h => I.put (X ++ Y) w S v hXY ((fitsL_append X Y).2 ⟨f4, k4⟩) (fun _ => by rw [wrL_append, List.length_append]; omega) h)
  have HCL := Lib.hid (fun w S v h => CL X w S v (by omega) h)
  have s1 : (txt (wrL X)).size = (wrL X).length := txt_size _
  have s2 : (txt (wrL Y)).size = (wrL Y).length := txt_size _
  have eA : txt (wrL X) ++ txt (wrL Y) = txt (wrL X ++ wrL Y) := txt_append _ _
  have hck : checkL 0 (lastOf 0 X) Y = 0 := by rw [he]; exact b1
  have hn : X.length = 0 := by rw [he]; rfl
  clear he
  obtain ⟨h1, h2⟩ := hJ.2 hck
  rw [h1] at HP3
  rw [← eA] at HP3
  have HGT := Lib.hid (fun w => I.get (txt (wrL X) ++ txt (wrL Y)) w (by rw [ByteArray.size_append]; omega))
  rw [show (txt (wrL X) ++ txt (wrL Y)).data.toList = wrL X ++ wrL Y by rw [eA]; rfl, h2] at HGT
  have hbe : ((txt (wrL X) ++ txt (wrL Y)).toList == (txt (wrL X) ++ txt (wrL Y)).toList) = true := beq_self_eq_true _
  have s3 : (txt (wrL X)).size ≤ 20000 := by omega
  have s4 : (txt (wrL Y)).size ≤ 20000 := by omega
  clear hp hw1 hw2 a1 a2 a3 b1 b2 b3 a4 b4 hJ s1 s2 eA hck h1 h2
  generalize txt (wrL X) = P1 at *
  generalize txt (wrL Y) = P2 at *
  have HN := Lib.hid hn
  have hxn : X.length ≤ 60 := by omega
  clear hn
  go_enter Tryd.func6, Tryd.ntmps6
  go_wp2_with fail
  refine HA.out.mono ?_
  rintro e w1 ⟨rfl, g1⟩
  go_wp2_with fail
  refine (HF1.out _ g1).mono ?_
  rintro e w2 ⟨rfl, g2⟩
  have G2 := Lib.hid (only_trans g1 g2)
  clear g1 g2
  go_wp2_with fail
  refine (HF2.out _ G2.out).mono ?_
  rintro e w3 ⟨rfl, g3⟩
  have G3 := Lib.hid (only_trans G2.out g3)
  clear g3
  go_wp2_with fail
  refine (HM1.out _ G3.out).mono ?_
  rintro e w4 ⟨v4, S4, rfl, o4, -, g4⟩
  have G4 := Lib.hid (only_trans G3.out g4)
  have X4 := Lib.hid o4.rd
  have x4l := Lib.hid o4.all_lt
  obtain ⟨x1, x2, hvx⟩ := o4.rd.shape
  rw [HN.out] at hvx
  subst hvx
  clear o4 g4
  go_wp2_with fail
  refine (HM2.out _ G4.out).mono ?_
  rintro e w5 ⟨v5, S5, rfl, o5, -, g5⟩
  have G5 := Lib.hid (only_trans G4.out g5)
  have X5 := Lib.hid (X4.out.grown g5)
  have Y5 := Lib.hid o5.rd
  have g45 := Lib.hid g5
  have y5l := Lib.hid o5.all_lt
  obtain ⟨y1, y2, hvy⟩ := o5.rd.shape
  subst hvy
  clear o5 g5
  go_wp2_with fail
  refine (HP1.out _ _ _ X5.out).mono ?_
  rintro e w6 ⟨rfl, g6⟩
  have G6 := Lib.hid (only_trans G5.out g6)
  have X6 := Lib.hid (X5.out.grown g6)
  have Y6 := Lib.hid (Y5.out.grown g6)
  have g56 := Lib.hid g6
  clear g6
  go_wp2_with fail
  refine (HP2.out _ _ _ Y6.out).mono ?_
  rintro e w7 ⟨rfl, g7⟩
  have G7 := Lib.hid (only_trans G6.out g7)
  have X7 := Lib.hid (X6.out.grown g7)
  have Y7 := Lib.hid (Y6.out.grown g7)
  have g57 := Lib.hid (only_trans g56.out g7)
  clear g7
  go_wp2_with fail
  refine (HCL.out _ _ _ X7.out).mono ?_
  rintro e w8 ⟨v8, S8, rfl, o8, hS8, -, g8⟩
  have G8 := Lib.hid (only_trans G7.out g8)
  have X8 := Lib.hid (X7.out.grown g8)
  have Y8 := Lib.hid (Y7.out.grown g8)
  have O8 := Lib.hid o8
  have hy8 : ∀ k, (S5 k ∨ (Value.slice y1 Y.length y2).ownBlock = some k) → k < w7.heap.size := fun k hk => by have h1 := y5l.out k hk; have h2 := g57.out.size; omega
  have HY8 := Lib.hid hy8
  have hz8 := g8.size
  have hb8 := Lib.hid (fun k e => (o8.lt k e).1)
  clear o8 hS8 g8 hy8
  go_wp2_with (at_builtin; refine ff.wpList_append_any rfl _ _ _ _ rfl _ Tryd.underlying25 Tryd.infoF rfl w7.heap.size S8 _ _ X Y rfl O8.out _ rfl Y8.out ?c1 ?c2 ?c3 ?c4 ?_)
  case c1 => intro k hk; have := HY8.out k hk; omega
  case c2 => intro k e hk; have h1 := hb8.out k e; have h2 := HY8.out k hk; omega
  case c3 => omega
  case c4 => omega
  intro v9 w9 o9 g9
  have gn9 := below_to_none (below_of_only (below_of_none G8.out) g9 G8.out.size (fun k e => by have h1 := hb8.out k e; have h2 := G7.out.size; omega))
  have G9 := Lib.hid gn9
  have hc9 : Chg (fun k => v8.ownBlock = some k) w8 w9 := Chg.of_grown g9 (fun k e => .inl e)
  have X9 := Lib.hid (X8.out.kept hc9 (fun k hk e => by have h1 := hb8.out k e; have h2 := x4l.out k hk; have h3 := g45.out.size; have h4 := g57.out.size; omega))
  have Y9 := Lib.hid (Y8.out.kept hc9 (fun k hk e => by have h1 := hb8.out k e; have h2 := HY8.out k hk; omega))
  have O9 := Lib.hid o9.rd
  obtain ⟨z1, z2, hv9⟩ := o9.rd.shape
  rw [List.length_append] at hv9
  subst hv9
  clear o9 g9 gn9 hc9
  go_wp2_with fail
  refine (HP3.out _ _ _ O9.out).mono ?_
  rintro e wa ⟨rfl, ga⟩
  have GA := Lib.hid (only_trans G9.out ga)
  have XA := Lib.hid (X9.out.grown ga)
  have YA := Lib.hid (Y9.out.grown ga)
  clear ga
  go_wp2_with fail
  go_quiet (fail)
  go_wp2_with fail
  refine (HGT.out _).mono ?_
  rintro e wb ⟨vb, rfl, rb, gb⟩
  have GB := Lib.hid (only_trans (only_drewN GA.out _) gb)
  obtain ⟨q1, q2, hvb⟩ := rb.shape
  have hlb : (X ++ Y).length = 0 + Y.length := by rw [List.length_append, HN.out]
  rw [hlb] at hvb
  subst hvb
  clear rb gb hlb
  go_wp2_with fail
  go_ret
  exact ⟨rfl, GB.out⟩

set_option maxHeartbeats 4000000 in
set_option maxRecDepth 100000 in
theorem joins_y (CL : CloneP) (I : WI) (W : World) (hT : I.fc.Tab W) (a : Option Addr) (ca : Nat) (xs : List OneT) (hx : xs.length ≤ maxLen) (ha : Ones W.heap.size W a ca xs) (b : Option Addr) (cb : Nat) (ys : List OneT) (hy : ys.length ≤ maxLen) (hb : Ones W.heap.size W b cb ys) (hf : fewB xs = true) (hf2 : fewB ys = true) (hp : (putR (fromL xs 0)).2 = 0 ∧ (putR (fromL ys 0)).2 = 0) (he : fromL xs 0 ≠ [] ∧ fromL ys 0 = []) :
    Calls Tryd.prog 6 #[.slice a xs.length ca, .slice b ys.length cb] W fun e w' => e = .returned (.bool true) ∧ W.grownBy w' none := by
  have HA := Lib.hid (awake_any I.toWCore W hT)
  have HF1 := Lib.hid (fun w (g : W.grownBy w none) => few_any xs hx _ w a ca (ha.grown g))
  have HF2 := Lib.hid (fun w (g : W.grownBy w none) => few_any ys hy _ w b cb (hb.grown g))
  obtain ⟨f1, f2, f3, f4⟩ := few_facts hf ha
  obtain ⟨k1, k2, k3, k4⟩ := few_facts hf2 hb
  have HM1 := Lib.hid (fun w (g : W.grownBy w none) => make_any xs (by omega) W.heap.size w a ca g.size (ha.grown g))
  have HM2 := Lib.hid (fun w (g : W.grownBy w none) => make_any ys (by omega) W.heap.size w b cb g.size (hb.grown g))
  have hw1 := fun hc => few_wr hf ha 0 0 hc
  have hw2 := fun hc => few_wr hf2 hb 0 0 hc
  rw [hf] at HF1
  rw [hf2] at HF2
  unfold maxLen at hx hy
  clear ha hb hf hf2
  generalize fromL xs 0 = X at *
  generalize fromL ys 0 = Y at *
  have HP1 := Lib.hid (fun w S v h => I.put X w S v (by omega) f4 (fun hc => by have := hw1 hc; omega) h)
  have HP2 := Lib.hid (fun w S v h => I.put Y w S v (by omega) k4 (fun hc => by have := hw2 hc; omega) h)
  have hlx := len_size X
  have hly := len_size Y
  obtain ⟨a1, a2, a3⟩ := putR_ok hp.1
  obtain ⟨b1, b2, b3⟩ := putR_ok hp.2
  rw [a3] at HP1
  rw [b3] at HP2
  have a4 := hw1 a1
  have b4 := hw2 b1
  have hJ := joins_math a1 b1 (by omega) f4 k4
  have hXY : sizeL (X ++ Y) ≤ 50000 := by rw [sizeL_append]; omega
  have HP3 := Lib.hid (fun w S v h => I.put (X ++ Y) w S v hXY ((fitsL_append X Y).2 ⟨f4, k4⟩) (fun _ => by rw [wrL_append, List.length_append]; omega) h)
  have HCL := Lib.hid (fun w S v h => CL X w S v (by omega) h)
  have s1 : (txt (wrL X)).size = (wrL X).length := txt_size _
  have s2 : (txt (wrL Y)).size = (wrL Y).length := txt_size _
  have eA : txt (wrL X) ++ txt (wrL Y) = txt (wrL X ++ wrL Y) := txt_append _ _
  have hck : checkL 0 (lastOf 0 X) Y = 0 := by rw [he.2]; exact checkL_nil _ _
  have hm : Y.length = 0 := by rw [he.2]; rfl
  have hX0 : 0 < X.length := List.length_pos_iff.2 he.1
  obtain ⟨n, hn⟩ : ∃ n, X.length = n + 1 := ⟨X.length - 1, by omega⟩
  clear he
  obtain ⟨h1, h2⟩ := hJ.2 hck
  rw [h1] at HP3
  rw [← eA] at HP3
  have HGT := Lib.hid (fun w => I.get (txt (wrL X) ++ txt (wrL Y)) w (by rw [ByteArray.size_append]; omega))
  rw [show (txt (wrL X) ++ txt (wrL Y)).data.toList = wrL X ++ wrL Y by rw [eA]; rfl, h2] at HGT
  have hbe : ((txt (wrL X) ++ txt (wrL Y)).toList == (txt (wrL X) ++ txt (wrL Y)).toList) = true := beq_self_eq_true _
  have s3 : (txt (wrL X)).size ≤ 20000 := by omega
  have s4 : (txt (wrL Y)).size ≤ 20000 := by omega
  clear hp hw1 hw2 a1 a2 a3 b1 b2 b3 a4 b4 hJ s1 s2 eA hck h1 h2
  generalize txt (wrL X) = P1 at *
  generalize txt (wrL Y) = P2 at *
  have HN := Lib.hid hn
  have hxn : X.length ≤ 60 := by omega
  clear hn
  have HNY := Lib.hid hm
  have hyn : Y.length ≤ 60 := by omega
  clear hm
  have hn60 : n ≤ 60 := by have := HN.out; omega
  clear hX0
  go_enter Tryd.func6, Tryd.ntmps6
  go_wp2_with fail
  refine HA.out.mono ?_
  rintro e w1 ⟨rfl, g1⟩
  go_wp2_with fail
  refine (HF1.out _ g1).mono ?_
  rintro e w2 ⟨rfl, g2⟩
  have G2 := Lib.hid (only_trans g1 g2)
  clear g1 g2
  go_wp2_with fail
  refine (HF2.out _ G2.out).mono ?_
  rintro e w3 ⟨rfl, g3⟩
  have G3 := Lib.hid (only_trans G2.out g3)
  clear g3
  go_wp2_with fail
  refine (HM1.out _ G3.out).mono ?_
  rintro e w4 ⟨v4, S4, rfl, o4, -, g4⟩
  have G4 := Lib.hid (only_trans G3.out g4)
  have X4 := Lib.hid o4.rd
  have x4l := Lib.hid o4.all_lt
  obtain ⟨x1, x2, hvx⟩ := o4.rd.shape
  rw [HN.out] at hvx
  subst hvx
  clear o4 g4
  go_wp2_with fail
  refine (HM2.out _ G4.out).mono ?_
  rintro e w5 ⟨v5, S5, rfl, o5, -, g5⟩
  have G5 := Lib.hid (only_trans G4.out g5)
  have X5 := Lib.hid (X4.out.grown g5)
  have Y5 := Lib.hid o5.rd
  have g45 := Lib.hid g5
  have y5l := Lib.hid o5.all_lt
  obtain ⟨y1, y2, hvy⟩ := o5.rd.shape
  rw [HNY.out] at hvy
  subst hvy
  clear o5 g5
  go_wp2_with fail
  refine (HP1.out _ _ _ X5.out).mono ?_
  rintro e w6 ⟨rfl, g6⟩
  have G6 := Lib.hid (only_trans G5.out g6)
  have X6 := Lib.hid (X5.out.grown g6)
  have Y6 := Lib.hid (Y5.out.grown g6)
  have g56 := Lib.hid g6
  clear g6
  go_wp2_with fail
  refine (HP2.out _ _ _ Y6.out).mono ?_
  rintro e w7 ⟨rfl, g7⟩
  have G7 := Lib.hid (only_trans G6.out g7)
  have X7 := Lib.hid (X6.out.grown g7)
  have Y7 := Lib.hid (Y6.out.grown g7)
  have g57 := Lib.hid (only_trans g56.out g7)
  clear g7
  go_wp2_with fail
  refine (HCL.out _ _ _ X7.out).mono ?_
  rintro e w8 ⟨v8, S8, rfl, o8, hS8, -, g8⟩
  have G8 := Lib.hid (only_trans G7.out g8)
  have X8 := Lib.hid (X7.out.grown g8)
  have Y8 := Lib.hid (Y7.out.grown g8)
  have O8 := Lib.hid o8
  have hy8 : ∀ k, (S5 k ∨ (Value.slice y1 0 y2).ownBlock = some k) → k < w7.heap.size := fun k hk => by have h1 := y5l.out k hk; have h2 := g57.out.size; omega
  have HY8 := Lib.hid hy8
  have hz8 := g8.size
  have hb8 := Lib.hid (fun k e => (o8.lt k e).1)
  clear o8 hS8 g8 hy8
  go_wp2_with (at_builtin; refine ff.wpList_append_any rfl _ _ _ _ rfl _ Tryd.underlying25 Tryd.infoF rfl w7.heap.size S8 _ _ X Y rfl O8.out _ rfl Y8.out ?c1 ?c2 ?c3 ?c4 ?_)
  case c1 => intro k hk; have := HY8.out k hk; omega
  case c2 => intro k e hk; have h1 := hb8.out k e; have h2 := HY8.out k hk; omega
  case c3 => omega
  case c4 => omega
  intro v9 w9 o9 g9
  have gn9 := below_to_none (below_of_only (below_of_none G8.out) g9 G8.out.size (fun k e => by have h1 := hb8.out k e; have h2 := G7.out.size; omega))
  have G9 := Lib.hid gn9
  have hc9 : Chg (fun k => v8.ownBlock = some k) w8 w9 := Chg.of_grown g9 (fun k e => .inl e)
  have X9 := Lib.hid (X8.out.kept hc9 (fun k hk e => by have h1 := hb8.out k e; have h2 := x4l.out k hk; have h3 := g45.out.size; have h4 := g57.out.size; omega))
  have Y9 := Lib.hid (Y8.out.kept hc9 (fun k hk e => by have h1 := hb8.out k e; have h2 := HY8.out k hk; omega))
  have O9 := Lib.hid o9.rd
  obtain ⟨z1, z2, hv9⟩ := o9.rd.shape
  rw [List.length_append] at hv9
  subst hv9
  clear o9 g9 gn9 hc9
  go_wp2_with fail
  refine (HP3.out _ _ _ O9.out).mono ?_
  rintro e wa ⟨rfl, ga⟩
  have GA := Lib.hid (only_trans G9.out ga)
  have XA := Lib.hid (X9.out.grown ga)
  have YA := Lib.hid (Y9.out.grown ga)
  clear ga
  have gn : (0 : Int) < (n : Int) + 1 := by omega
  go_wp2_with fail
  go_quiet (fail)
  go_wp2_with fail
  refine (HGT.out _).mono ?_
  rintro e wb ⟨vb, rfl, rb, gb⟩
  have GB := Lib.hid (only_trans (only_drewN GA.out _) gb)
  obtain ⟨q1, q2, hvb⟩ := rb.shape
  have hlb : (X ++ Y).length = n + 1 + 0 := by rw [List.length_append, HN.out, HNY.out]
  rw [hlb] at hvb
  subst hvb
  clear rb gb hlb
  go_wp2_with fail
  go_ret
  exact ⟨rfl, GB.out⟩

set_option maxHeartbeats 4000000 in
set_option maxRecDepth 100000 in
theorem joins_low (CL : CloneP) (I : WI) (W : World) (hT : I.fc.Tab W) (a : Option Addr) (ca : Nat) (xs : List OneT) (hx : xs.length ≤ maxLen) (ha : Ones W.heap.size W a ca xs) (b : Option Addr) (cb : Nat) (ys : List OneT) (hy : ys.length ≤ maxLen) (hb : Ones W.heap.size W b cb ys) (hf : fewB xs = true) (hf2 : fewB ys = true) (hp : (putR (fromL xs 0)).2 = 0 ∧ (putR (fromL ys 0)).2 = 0) (he : ∃ n m tx ty, (fromL xs 0).length = n + 1 ∧ (fromL ys 0).length = m + 1 ∧ (fromL xs 0)[n]? = some tx ∧ (fromL ys 0)[0]? = some ty ∧ ty.tag ≤ tx.tag) :
    Calls Tryd.prog 6 #[.slice a xs.length ca, .slice b ys.length cb] W fun e w' => e = .returned (.bool true) ∧ W.grownBy w' none := by
  have HA := Lib.hid (awake_any I.toWCore W hT)
  have HF1 := Lib.hid (fun w (g : W.grownBy w none) => few_any xs hx _ w a ca (ha.grown g))
  have HF2 := Lib.hid (fun w (g : W.grownBy w none) => few_any ys hy _ w b cb (hb.grown g))
  obtain ⟨f1, f2, f3, f4⟩ := few_facts hf ha
  obtain ⟨k1, k2, k3, k4⟩ := few_facts hf2 hb
  have HM1 := Lib.hid (fun w (g : W.grownBy w none) => make_any xs (by omega) W.heap.size w a ca g.size (ha.grown g))
  have HM2 := Lib.hid (fun w (g : W.grownBy w none) => make_any ys (by omega) W.heap.size w b cb g.size (hb.grown g))
  have hw1 := fun hc => few_wr hf ha 0 0 hc
  have hw2 := fun hc => few_wr hf2 hb 0 0 hc
  rw [hf] at HF1
  rw [hf2] at HF2
  unfold maxLen at hx hy
  clear ha hb hf hf2
  generalize fromL xs 0 = X at *
  generalize fromL ys 0 = Y at *
  have HP1 := Lib.hid (fun w S v h => I.put X w S v (by omega) f4 (fun hc => by have := hw1 hc; omega) h)
  have HP2 := Lib.hid (fun w S v h => I.put Y w S v (by omega) k4 (fun hc => by have := hw2 hc; omega) h)
  have hlx := len_size X
  have hly := len_size Y
  obtain ⟨a1, a2, a3⟩ := putR_ok hp.1
  obtain ⟨b1, b2, b3⟩ := putR_ok hp.2
  rw [a3] at HP1
  rw [b3] at HP2
  have a4 := hw1 a1
  have b4 := hw2 b1
  have hJ := joins_math a1 b1 (by omega) f4 k4
  have hXY : sizeL (X ++ Y) ≤ 50000 := by rw [sizeL_append]; omega
  have HP3 := Lib.hid (fun w S v h => I.put (X ++ Y) w S v hXY ((fitsL_append X Y).2 ⟨f4, k4⟩) (fun _ => by rw [wrL_append, List.length_append]; omega) h)
  have HCL := Lib.hid (fun w S v h => CL X w S v (by omega) h)
  have s1 : (txt (wrL X)).size = (wrL X).length := txt_size _
  have s2 : (txt (wrL Y)).size = (wrL Y).length := txt_size _
  have eA : txt (wrL X) ++ txt (wrL Y) = txt (wrL X ++ wrL Y) := txt_append _ _
  obtain ⟨n, m, tx, ty, hn, hm, htx, hty, hle⟩ := he
  have hck : checkL 0 (lastOf 0 X) Y = 7 := by
    rw [lastOf_at X 0 n tx hn htx]
    cases Y with
    | nil => simp at hm
    | cons y r => simp at hty; subst hty; exact check_low b1 hle
  have h1 := hJ.1 hck
  rw [h1] at HP3
  have hge : (tx.tag : Int) ≥ (ty.tag : Int) := by omega
  have s3 : (txt (wrL X)).size ≤ 20000 := by omega
  have s4 : (txt (wrL Y)).size ≤ 20000 := by omega
  clear hp hw1 hw2 a1 a2 a3 b1 b2 b3 a4 b4 hJ s1 s2 eA hck h1
  generalize txt (wrL X) = P1 at *
  generalize txt (wrL Y) = P2 at *
  have HN := Lib.hid hn
  have hxn : X.length ≤ 60 := by omega
  clear hn
  have HNY := Lib.hid hm
  have hyn : Y.length ≤ 60 := by omega
  clear hm
  have HTX := Lib.hid htx
  have HTY := Lib.hid hty
  have hn60 : n ≤ 60 := by have := HN.out; omega
  have hm60 : m ≤ 60 := by have := HNY.out; omega
  clear htx hty
  go_enter Tryd.func6, Tryd.ntmps6
  go_wp2_with fail
  refine HA.out.mono ?_
  rintro e w1 ⟨rfl, g1⟩
  go_wp2_with fail
  refine (HF1.out _ g1).mono ?_
  rintro e w2 ⟨rfl, g2⟩
  have G2 := Lib.hid (only_trans g1 g2)
  clear g1 g2
  go_wp2_with fail
  refine (HF2.out _ G2.out).mono ?_
  rintro e w3 ⟨rfl, g3⟩
  have G3 := Lib.hid (only_trans G2.out g3)
  clear g3
  go_wp2_with fail
  refine (HM1.out _ G3.out).mono ?_
  rintro e w4 ⟨v4, S4, rfl, o4, -, g4⟩
  have G4 := Lib.hid (only_trans G3.out g4)
  have X4 := Lib.hid o4.rd
  have x4l := Lib.hid o4.all_lt
  obtain ⟨x1, x2, hvx⟩ := o4.rd.shape
  rw [HN.out] at hvx
  subst hvx
  clear o4 g4
  go_wp2_with fail
  refine (HM2.out _ G4.out).mono ?_
  rintro e w5 ⟨v5, S5, rfl, o5, -, g5⟩
  have G5 := Lib.hid (only_trans G4.out g5)
  have X5 := Lib.hid (X4.out.grown g5)
  have Y5 := Lib.hid o5.rd
  have g45 := Lib.hid g5
  have y5l := Lib.hid o5.all_lt
  obtain ⟨y1, y2, hvy⟩ := o5.rd.shape
  rw [HNY.out] at hvy
  subst hvy
  clear o5 g5
  go_wp2_with fail
  refine (HP1.out _ _ _ X5.out).mono ?_
  rintro e w6 ⟨rfl, g6⟩
  have G6 := Lib.hid (only_trans G5.out g6)
  have X6 := Lib.hid (X5.out.grown g6)
  have Y6 := Lib.hid (Y5.out.grown g6)
  have g56 := Lib.hid g6
  clear g6
  go_wp2_with fail
  refine (HP2.out _ _ _ Y6.out).mono ?_
  rintro e w7 ⟨rfl, g7⟩
  have G7 := Lib.hid (only_trans G6.out g7)
  have X7 := Lib.hid (X6.out.grown g7)
  have Y7 := Lib.hid (Y6.out.grown g7)
  have g57 := Lib.hid (only_trans g56.out g7)
  clear g7
  go_wp2_with fail
  refine (HCL.out _ _ _ X7.out).mono ?_
  rintro e w8 ⟨v8, S8, rfl, o8, hS8, -, g8⟩
  have G8 := Lib.hid (only_trans G7.out g8)
  have X8 := Lib.hid (X7.out.grown g8)
  have Y8 := Lib.hid (Y7.out.grown g8)
  have O8 := Lib.hid o8
  have hy8 : ∀ k, (S5 k ∨ (Value.slice y1 (m + 1) y2).ownBlock = some k) → k < w7.heap.size := fun k hk => by have h1 := y5l.out k hk; have h2 := g57.out.size; omega
  have HY8 := Lib.hid hy8
  have hz8 := g8.size
  have hb8 := Lib.hid (fun k e => (o8.lt k e).1)
  clear o8 hS8 g8 hy8
  go_wp2_with (at_builtin; refine ff.wpList_append_any rfl _ _ _ _ rfl _ Tryd.underlying25 Tryd.infoF rfl w7.heap.size S8 _ _ X Y rfl O8.out _ rfl Y8.out ?c1 ?c2 ?c3 ?c4 ?_)
  case c1 => intro k hk; have := HY8.out k hk; omega
  case c2 => intro k e hk; have h1 := hb8.out k e; have h2 := HY8.out k hk; omega
  case c3 => omega
  case c4 => omega
  intro v9 w9 o9 g9
  have gn9 := below_to_none (below_of_only (below_of_none G8.out) g9 G8.out.size (fun k e => by have h1 := hb8.out k e; have h2 := G7.out.size; omega))
  have G9 := Lib.hid gn9
  have hc9 : Chg (fun k => v8.ownBlock = some k) w8 w9 := Chg.of_grown g9 (fun k e => .inl e)
  have X9 := Lib.hid (X8.out.kept hc9 (fun k hk e => by have h1 := hb8.out k e; have h2 := x4l.out k hk; have h3 := g45.out.size; have h4 := g57.out.size; omega))
  have Y9 := Lib.hid (Y8.out.kept hc9 (fun k hk e => by have h1 := hb8.out k e; have h2 := HY8.out k hk; omega))
  have O9 := Lib.hid o9.rd
  obtain ⟨z1, z2, hv9⟩ := o9.rd.shape
  rw [List.length_append] at hv9
  subst hv9
  clear o9 g9 gn9 hc9
  go_wp2_with fail
  refine (HP3.out _ _ _ O9.out).mono ?_
  rintro e wa ⟨rfl, ga⟩
  have GA := Lib.hid (only_trans G9.out ga)
  have XA := Lib.hid (X9.out.grown ga)
  have YA := Lib.hid (Y9.out.grown ga)
  clear ga
  obtain ⟨bx, ox, cx, lx, hvx, hx1, hx2, -, hx4, hcx, -⟩ := XA.out.at HTX.out
  obtain ⟨by', oy, cy, ly, hvy, hy1, hy2, -, hy4, hcy, -⟩ := YA.out.at HTY.out
  simp only [Value.slice.injEq] at hvx hvy
  obtain ⟨rfl, -, rfl⟩ := hvx
  obtain ⟨rfl, -, rfl⟩ := hvy
  have c0 := hcx.c0
  have d0 := hcy.c0
  rw [Nat.zero_mul, Nat.add_zero] at d0
  rw [HN.out] at hx1
  rw [HNY.out] at hy1
  unfold maxLen at hx2 hy2
  clear hcx hcy
  have hte : (txt []).toList.isEmpty = true := text_empty (by rw [txt_size]; rfl)
  have gd : decide ((tx.tag : Int) ≥ (ty.tag : Int)) = true := decide_eq_true (by omega)
  have gd2 : decide ((ty.tag : Int) ≤ (tx.tag : Int)) = true := decide_eq_true (by omega)
  have gn : (0 : Int) < (n : Int) + 1 := by omega
  have gm : (0 : Int) < (m : Int) + 1 := by omega
  go_wp2_with fail
  go_quiet (fail)
  go_wp2_with fail
  go_ret
  exact ⟨rfl, by first | exact GA.out | exact only_drewN GA.out _⟩

set_option maxHeartbeats 4000000 in
set_option maxRecDepth 100000 in
theorem joins_high (CL : CloneP) (I : WI) (W : World) (hT : I.fc.Tab W) (a : Option Addr) (ca : Nat) (xs : List OneT) (hx : xs.length ≤ maxLen) (ha : Ones W.heap.size W a ca xs) (b : Option Addr) (cb : Nat) (ys : List OneT) (hy : ys.length ≤ maxLen) (hb : Ones W.heap.size W b cb ys) (hf : fewB xs = true) (hf2 : fewB ys = true) (hp : (putR (fromL xs 0)).2 = 0 ∧ (putR (fromL ys 0)).2 = 0) (he : ∃ n m tx ty, (fromL xs 0).length = n + 1 ∧ (fromL ys 0).length = m + 1 ∧ (fromL xs 0)[n]? = some tx ∧ (fromL ys 0)[0]? = some ty ∧ tx.tag < ty.tag) :
    Calls Tryd.prog 6 #[.slice a xs.length ca, .slice b ys.length cb] W fun e w' => e = .returned (.bool true) ∧ W.grownBy w' none := by
  have HA := Lib.hid (awake_any I.toWCore W hT)
  have HF1 := Lib.hid (fun w (g : W.grownBy w none) => few_any xs hx _ w a ca (ha.grown g))
  have HF2 := Lib.hid (fun w (g : W.grownBy w none) => few_any ys hy _ w b cb (hb.grown g))
  obtain ⟨f1, f2, f3, f4⟩ := few_facts hf ha
  obtain ⟨k1, k2, k3, k4⟩ := few_facts hf2 hb
  have HM1 := Lib.hid (fun w (g : W.grownBy w none) => make_any xs (by omega) W.heap.size w a ca g.size (ha.grown g))
  have HM2 := Lib.hid (fun w (g : W.grownBy w none) => make_any ys (by omega) W.heap.size w b cb g.size (hb.grown g))
  have hw1 := fun hc => few_wr hf ha 0 0 hc
  have hw2 := fun hc => few_wr hf2 hb 0 0 hc
  rw [hf] at HF1
  rw [hf2] at HF2
  unfold maxLen at hx hy
  clear ha hb hf hf2
  generalize fromL xs 0 = X at *
  generalize fromL ys 0 = Y at *
  have HP1 := Lib.hid (fun w S v h => I.put X w S v (by omega) f4 (fun hc => by have := hw1 hc; omega) h)
  have HP2 := Lib.hid (fun w S v h => I.put Y w S v (by omega) k4 (fun hc => by have := hw2 hc; omega) h)
  have hlx := len_size X
  have hly := len_size Y
  obtain ⟨a1, a2, a3⟩ := putR_ok hp.1
  obtain ⟨b1, b2, b3⟩ := putR_ok hp.2
  rw [a3] at HP1
  rw [b3] at HP2
  have a4 := hw1 a1
  have b4 := hw2 b1
  have hJ := joins_math a1 b1 (by omega) f4 k4
  have hXY : sizeL (X ++ Y) ≤ 50000 := by rw [sizeL_append]; omega
  have HP3 := Lib.hid (fun w S v h => I.put (X ++ Y) w S v hXY ((fitsL_append X Y).2 ⟨f4, k4⟩) (fun _ => by rw [wrL_append, List.length_append]; omega) h)
  have HCL := Lib.hid (fun w S v h => CL X w S v (by omega) h)
  have s1 : (txt (wrL X)).size = (wrL X).length := txt_size _
  have s2 : (txt (wrL Y)).size = (wrL Y).length := txt_size _
  have eA : txt (wrL X) ++ txt (wrL Y) = txt (wrL X ++ wrL Y) := txt_append _ _
  obtain ⟨n, m, tx, ty, hn, hm, htx, hty, hlt⟩ := he
  have hck : checkL 0 (lastOf 0 X) Y = 0 := by
    rw [lastOf_at X 0 n tx hn htx]
    cases Y with
    | nil => simp at hm
    | cons y r => simp at hty; subst hty; exact check_high b1 hlt
  have hge : ¬ (tx.tag : Int) ≥ (ty.tag : Int) := by omega
  obtain ⟨h1, h2⟩ := hJ.2 hck
  rw [h1] at HP3
  rw [← eA] at HP3
  have HGT := Lib.hid (fun w => I.get (txt (wrL X) ++ txt (wrL Y)) w (by rw [ByteArray.size_append]; omega))
  rw [show (txt (wrL X) ++ txt (wrL Y)).data.toList = wrL X ++ wrL Y by rw [eA]; rfl, h2] at HGT
  have hbe : ((txt (wrL X) ++ txt (wrL Y)).toList == (txt (wrL X) ++ txt (wrL Y)).toList) = true := beq_self_eq_true _
  have s3 : (txt (wrL X)).size ≤ 20000 := by omega
  have s4 : (txt (wrL Y)).size ≤ 20000 := by omega
  clear hp hw1 hw2 a1 a2 a3 b1 b2 b3 a4 b4 hJ s1 s2 eA hck h1 h2
  generalize txt (wrL X) = P1 at *
  generalize txt (wrL Y) = P2 at *
  have HN := Lib.hid hn
  have hxn : X.length ≤ 60 := by omega
  clear hn
  have HNY := Lib.hid hm
  have hyn : Y.length ≤ 60 := by omega
  clear hm
  have HTX := Lib.hid htx
  have HTY := Lib.hid hty
  have hn60 : n ≤ 60 := by have := HN.out; omega
  have hm60 : m ≤ 60 := by have := HNY.out; omega
  clear htx hty
  go_enter Tryd.func6, Tryd.ntmps6
  go_wp2_with fail
  refine HA.out.mono ?_
  rintro e w1 ⟨rfl, g1⟩
  go_wp2_with fail
  refine (HF1.out _ g1).mono ?_
  rintro e w2 ⟨rfl, g2⟩
  have G2 := Lib.hid (only_trans g1 g2)
  clear g1 g2
  go_wp2_with fail
  refine (HF2.out _ G2.out).mono ?_
  rintro e w3 ⟨rfl, g3⟩
  have G3 := Lib.hid (only_trans G2.out g3)
  clear g3
  go_wp2_with fail
  refine (HM1.out _ G3.out).mono ?_
  rintro e w4 ⟨v4, S4, rfl, o4, -, g4⟩
  have G4 := Lib.hid (only_trans G3.out g4)
  have X4 := Lib.hid o4.rd
  have x4l := Lib.hid o4.all_lt
  obtain ⟨x1, x2, hvx⟩ := o4.rd.shape
  rw [HN.out] at hvx
  subst hvx
  clear o4 g4
  go_wp2_with fail
  refine (HM2.out _ G4.out).mono ?_
  rintro e w5 ⟨v5, S5, rfl, o5, -, g5⟩
  have G5 := Lib.hid (only_trans G4.out g5)
  have X5 := Lib.hid (X4.out.grown g5)
  have Y5 := Lib.hid o5.rd
  have g45 := Lib.hid g5
  have y5l := Lib.hid o5.all_lt
  obtain ⟨y1, y2, hvy⟩ := o5.rd.shape
  rw [HNY.out] at hvy
  subst hvy
  clear o5 g5
  go_wp2_with fail
  refine (HP1.out _ _ _ X5.out).mono ?_
  rintro e w6 ⟨rfl, g6⟩
  have G6 := Lib.hid (only_trans G5.out g6)
  have X6 := Lib.hid (X5.out.grown g6)
  have Y6 := Lib.hid (Y5.out.grown g6)
  have g56 := Lib.hid g6
  clear g6
  go_wp2_with fail
  refine (HP2.out _ _ _ Y6.out).mono ?_
  rintro e w7 ⟨rfl, g7⟩
  have G7 := Lib.hid (only_trans G6.out g7)
  have X7 := Lib.hid (X6.out.grown g7)
  have Y7 := Lib.hid (Y6.out.grown g7)
  have g57 := Lib.hid (only_trans g56.out g7)
  clear g7
  go_wp2_with fail
  refine (HCL.out _ _ _ X7.out).mono ?_
  rintro e w8 ⟨v8, S8, rfl, o8, hS8, -, g8⟩
  have G8 := Lib.hid (only_trans G7.out g8)
  have X8 := Lib.hid (X7.out.grown g8)
  have Y8 := Lib.hid (Y7.out.grown g8)
  have O8 := Lib.hid o8
  have hy8 : ∀ k, (S5 k ∨ (Value.slice y1 (m + 1) y2).ownBlock = some k) → k < w7.heap.size := fun k hk => by have h1 := y5l.out k hk; have h2 := g57.out.size; omega
  have HY8 := Lib.hid hy8
  have hz8 := g8.size
  have hb8 := Lib.hid (fun k e => (o8.lt k e).1)
  clear o8 hS8 g8 hy8
  go_wp2_with (at_builtin; refine ff.wpList_append_any rfl _ _ _ _ rfl _ Tryd.underlying25 Tryd.infoF rfl w7.heap.size S8 _ _ X Y rfl O8.out _ rfl Y8.out ?c1 ?c2 ?c3 ?c4 ?_)
  case c1 => intro k hk; have := HY8.out k hk; omega
  case c2 => intro k e hk; have h1 := hb8.out k e; have h2 := HY8.out k hk; omega
  case c3 => omega
  case c4 => omega
  intro v9 w9 o9 g9
  have gn9 := below_to_none (below_of_only (below_of_none G8.out) g9 G8.out.size (fun k e => by have h1 := hb8.out k e; have h2 := G7.out.size; omega))
  have G9 := Lib.hid gn9
  have hc9 : Chg (fun k => v8.ownBlock = some k) w8 w9 := Chg.of_grown g9 (fun k e => .inl e)
  have X9 := Lib.hid (X8.out.kept hc9 (fun k hk e => by have h1 := hb8.out k e; have h2 := x4l.out k hk; have h3 := g45.out.size; have h4 := g57.out.size; omega))
  have Y9 := Lib.hid (Y8.out.kept hc9 (fun k hk e => by have h1 := hb8.out k e; have h2 := HY8.out k hk; omega))
  have O9 := Lib.hid o9.rd
  obtain ⟨z1, z2, hv9⟩ := o9.rd.shape
  rw [List.length_append] at hv9
  subst hv9
  clear o9 g9 gn9 hc9
  go_wp2_with fail
  refine (HP3.out _ _ _ O9.out).mono ?_
  rintro e wa ⟨rfl, ga⟩
  have GA := Lib.hid (only_trans G9.out ga)
  have XA := Lib.hid (X9.out.grown ga)
  have YA := Lib.hid (Y9.out.grown ga)
  clear ga
  obtain ⟨bx, ox, cx, lx, hvx, hx1, hx2, -, hx4, hcx, -⟩ := XA.out.at HTX.out
  obtain ⟨by', oy, cy, ly, hvy, hy1, hy2, -, hy4, hcy, -⟩ := YA.out.at HTY.out
  simp only [Value.slice.injEq] at hvx hvy
  obtain ⟨rfl, -, rfl⟩ := hvx
  obtain ⟨rfl, -, rfl⟩ := hvy
  have c0 := hcx.c0
  have d0 := hcy.c0
  rw [Nat.zero_mul, Nat.add_zero] at d0
  rw [HN.out] at hx1
  rw [HNY.out] at hy1
  unfold maxLen at hx2 hy2
  clear hcx hcy
  have gd : decide ((tx.tag : Int) ≥ (ty.tag : Int)) = false := decide_eq_false (by omega)
  have gd2 : decide ((ty.tag : Int) ≤ (tx.tag : Int)) = false := decide_eq_false (by omega)
  have gn : (0 : Int) < (n : Int) + 1 := by omega
  have gm : (0 : Int) < (m : Int) + 1 := by omega
  go_wp2_with fail
  go_quiet (fail)
  go_wp2_with fail
  refine (HGT.out _).mono ?_
  rintro e wb ⟨vb, rfl, rb, gb⟩
  have GB := Lib.hid (only_trans (only_drewN GA.out _) gb)
  obtain ⟨q1, q2, hvb⟩ := rb.shape
  have hlb : (X ++ Y).length = n + 1 + (m + 1) := by rw [List.length_append, HN.out, HNY.out]
  rw [hlb] at hvb
  subst hvb
  clear rb gb hlb
  go_wp2_with fail
  go_ret
  exact ⟨rfl, GB.out⟩

theorem joins_any (CL : CloneP) (I : WI) (W : World) (hT : I.fc.Tab W) (a : Option Addr) (ca : Nat) (xs : List OneT) (hx : xs.length ≤ maxLen) (ha : Ones W.heap.size W a ca xs) (b : Option Addr) (cb : Nat) (ys : List OneT) (hy : ys.length ≤ maxLen) (hb : Ones W.heap.size W b cb ys) :
    Calls Tryd.prog 6 #[.slice a xs.length ca, .slice b ys.length cb] W fun e w' => e = .returned (.bool true) ∧ W.grownBy w' none := by
  by_cases hf : fewB xs = true
  · by_cases hf2 : fewB ys = true
    · by_cases h1 : (putR (fromL xs 0)).2 = 0
      · by_cases h2 : (putR (fromL ys 0)).2 = 0
        · by_cases h3 : fromL xs 0 = []
          · exact joins_x CL I W hT a ca xs hx ha b cb ys hy hb hf hf2 ⟨h1, h2⟩ h3
          · by_cases h4 : fromL ys 0 = []
            · exact joins_y CL I W hT a ca xs hx ha b cb ys hy hb hf hf2 ⟨h1, h2⟩ ⟨h3, h4⟩
            · have l1 := List.length_pos_iff.2 h3
              have l2 := List.length_pos_iff.2 h4
              obtain ⟨tx, htx⟩ : ∃ t, (fromL xs 0)[(fromL xs 0).length - 1]? = some t := ⟨_, List.getElem?_eq_getElem (by omega)⟩
              obtain ⟨ty, hty⟩ : ∃ t, (fromL ys 0)[0]? = some t := ⟨_, List.getElem?_eq_getElem (by omega)⟩
              by_cases h5 : ty.tag ≤ tx.tag
              · exact joins_low CL I W hT a ca xs hx ha b cb ys hy hb hf hf2 ⟨h1, h2⟩ ⟨_, (fromL ys 0).length - 1, tx, ty, by omega, by omega, htx, hty, h5⟩
              · exact joins_high CL I W hT a ca xs hx ha b cb ys hy hb hf hf2 ⟨h1, h2⟩ ⟨_, (fromL ys 0).length - 1, tx, ty, by omega, by omega, htx, hty, by omega⟩
        · exact joins_err2 I W hT a ca xs hx ha b cb ys hy hb hf hf2 ⟨h1, h2⟩
      · exact joins_err1 I W hT a ca xs hx ha b cb ys hy hb hf hf2 h1
    · exact joins_early I W hT a ca xs hx ha b cb ys hy hb (.inr (by simpa using hf2))
  · exact joins_early I W hT a ca xs hx ha b cb ys hy hb (.inl (by simpa using hf))

end Go.Proofs.YtigmfbmjfjkfjaaDoor.law09
