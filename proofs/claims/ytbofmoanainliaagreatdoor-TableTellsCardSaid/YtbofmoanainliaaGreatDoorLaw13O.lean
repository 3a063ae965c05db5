/-
  The statement TableOrder.
-/
import Derived.Test.YtbofmoanainliaaGreatDoorBundH
import Derived.Test.YtbofmoanainliaaGreatDoorTal
namespace Go.Proofs.YtbofmoanainliaaGreatDoor.law13
open Go.RowKit Go.Proofs.YtbofmoanainliaaGreatDoor.vi Go.Proofs.YtbofmoanainliaaGreatDoor.um Go.Proofs.YtbofmoanainliaaGreatDoor.wm Go.Proofs.YtbofmoanainliaaGreatDoor.tr Go.Proofs.YtbofmoanainliaaGreatDoor.em Go.Proofs.YtbofmoanainliaaGreatDoor.rm Go.Proofs.YtbofmoanainliaaGreatDoor.law11 Go.Proofs.YtbofmoanainliaaGreatDoor.dd Go.Proofs.YtbofmoanainliaaGreatDoor.dr Go.Proofs.YtbofmoanainliaaGreatDoor.tm Go.Proofs.YtbofmoanainliaaGreatDoor.tf Go.Proofs.YtbofmoanainliaaGreatDoor.ti
set_option linter.unusedVariables false
set_option linter.unusedSimpArgs false

/-- Rows that came in, of a bulk that is bounded. -/
def Bul (r : Rw) : Prop := r.d.length ≤ 140737488351232 ∧ (∀ x ∈ r.d, x.key.size ≤ 140737488351232 ∧ x.value.size ≤ 140737488351232) ∧ r.n < 18446744073709551616
theorem few_facts {rs : List Rw} (h : fewT rs = true) : rs.length ≤ 300 ∧ ∀ r ∈ rs, r.d.length ≤ 18 ∧ ∀ x ∈ r.d, x.key.size + x.value.size ≤ 600 := by
  unfold fewT at h
  rw [Bool.and_eq_true, List.all_eq_true, decide_eq_true_eq] at h
  refine ⟨h.2, fun r hr => ?_⟩
  have := h.1 r hr
  unfold fewR at this
  rw [Bool.and_eq_true, Bool.and_eq_true, decide_eq_true_eq] at this
  exact ⟨this.1.1, (law12.few_facts this.1.2).2⟩
theorem few_rok {rs : List Rw} (h : fewT rs = true) (hb : ∀ r ∈ rs, Bul r) : ∀ r ∈ rs, Rok r := fun r hr => by
  obtain ⟨h1, h2⟩ := (few_facts h).2 r hr
  exact ⟨by omega, fun x hx => by have := h2 x hx; unfold maxLen; omega, (hb r hr).2.2⟩
theorem few_fit {rs : List Rw} (h : fewT rs = true) (hb : ∀ r ∈ rs, Bul r) : ∀ r ∈ rs, Fit r := fun r hr => by
  obtain ⟨h1, h2⟩ := (few_facts h).2 r hr
  have := law12.key_small (l := r.d) (by omega) h2
  exact ⟨by omega, fun x hx => by have := h2 x hx; omega, by omega, (hb r hr).2.2⟩
theorem of_fit {rs : List Rw} (hf : ∀ r ∈ rs, Fit r) : ∀ r ∈ (ofT rs).1, Fit r := fun r hr => by
  by_cases h0 : (ofT rs).2 = 0
  · exact hf r ((ofT_ok h0).2.mem_iff.1 hr)
  · rw [ofT_err h0] at hr; simp at hr
theorem of_len (rs : List Rw) : (ofT rs).1.length ≤ 256 := by
  by_cases h0 : (ofT rs).2 = 0
  · exact (ofT_ok h0).1.1
  · rw [ofT_err h0]; simp

set_option maxHeartbeats 16000000 in
set_option maxRecDepth 100000 in
theorem order_any (W : World) (hT : tb.Tab W) (xs ys zs : List Rw) (SA SB SC : Nat → Prop) (va vb vc : Value) (hl : xs.length ≤ 140737488351232) (hl2 : ys.length ≤ 140737488351232) (hl3 : zs.length ≤ 140737488351232)
    (hz : ∀ r ∈ xs, Bul r) (hz2 : ∀ r ∈ ys, Bul r) (hz3 : ∀ r ∈ zs, Bul r) (h : Rs SA W va xs) (h2 : Rs SB W vb ys) (h3 : Rs SC W vc zs) :
    Calls Tryz.prog 4 #[va, vb, vc] W fun e W' => e = .returned (.bool true) ∧ W.grownBy W' none := by
  have HA := Lib.hid (awake_any W hT)
  have HFA := Lib.hid (fun w (g : W.grownBy w none) => few_any xs SA w va hl (fun r hr => ⟨(hz r hr).1, (hz r hr).2.1⟩) (h.grown g))
  have HFB := Lib.hid (fun w (g : W.grownBy w none) => few_any ys SB w vb hl2 (fun r hr => ⟨(hz2 r hr).1, (hz2 r hr).2.1⟩) (h2.grown g))
  have HFC := Lib.hid (fun w (g : W.grownBy w none) => few_any zs SC w vc hl3 (fun r hr => ⟨(hz3 r hr).1, (hz3 r hr).2.1⟩) (h3.grown g))
  have HX := Lib.hid (fun (hf : fewT xs = true) w (g : W.grownBy w none) => of_any xs SA w va (by have := (few_facts hf).1; unfold maxLen; omega) (few_rok hf hz) (tb.kept hT g) (h.grown g))
  have HY := Lib.hid (fun (hf : fewT ys = true) w (g : W.grownBy w none) => of_any ys SB w vb (by have := (few_facts hf).1; unfold maxLen; omega) (few_rok hf hz2) (tb.kept hT g) (h2.grown g))
  have HZ := Lib.hid (fun (hf : fewT zs = true) w (g : W.grownBy w none) => of_any zs SC w vc (by have := (few_facts hf).1; unfold maxLen; omega) (few_rok hf hz3) (tb.kept hT g) (h3.grown g))
  have FXX := Lib.hid (fun hf : fewT xs = true => of_fit (few_fit hf hz))
  have FYY := Lib.hid (fun hf : fewT ys = true => of_fit (few_fit hf hz2))
  have FZZ := Lib.hid (fun hf : fewT zs = true => of_fit (few_fit hf hz3))
  obtain ⟨aa, ca, rfl⟩ := h.shape
  obtain ⟨ab, cb, rfl⟩ := h2.shape
  obtain ⟨ac, cc, rfl⟩ := h3.shape
  clear h h2 h3 hz hz2 hz3 hT
  cases hfa : fewT xs with
  | false =>
    rw [hfa] at HFA
    go_enter Tryz.func4, Tryz.ntmps4
    go_wp2_with fail
    refine HA.out.mono ?_
    rintro e w0 ⟨rfl, g0⟩
    have G0 := Lib.hid g0
    clear g0
    go_wp2_with fail
    refine (HFA.out _ G0.out).mono ?_
    rintro e w1 ⟨rfl, g1⟩
    have G1 := Lib.hid (only_trans G0.out g1)
    clear g1
    go_wp2_with fail
    go_ret
    exact ⟨rfl, G1.out⟩
  | true =>
    rw [hfa] at HFA
    have HXt := Lib.hid (HX.out hfa)
    have FXt := Lib.hid (FXX.out hfa)
    clear hfa HX FXX
    cases hfb : fewT ys with
    | false =>
      rw [hfb] at HFB
      go_enter Tryz.func4, Tryz.ntmps4
      go_wp2_with fail
      refine HA.out.mono ?_
      rintro e w0 ⟨rfl, g0⟩
      have G0 := Lib.hid g0
      clear g0
      go_wp2_with fail
      refine (HFA.out _ G0.out).mono ?_
      rintro e w1 ⟨rfl, g1⟩
      have G1 := Lib.hid (only_trans G0.out g1)
      clear g1
      go_wp2_with fail
      refine (HFB.out _ G1.out).mono ?_
      rintro e w2 ⟨rfl, g2⟩
      have G2 := Lib.hid (only_trans G1.out g2)
      clear g2
      go_wp2_with fail
      go_ret
      exact ⟨rfl, G2.out⟩
    | true =>
      rw [hfb] at HFB
      have HYt := Lib.hid (HY.out hfb)
      have FYt := Lib.hid (FYY.out hfb)
      clear hfb HY FYY
      cases hfc : fewT zs with
      | false =>
        rw [hfc] at HFC
        go_enter Tryz.func4, Tryz.ntmps4
        go_wp2_with fail
        refine HA.out.mono ?_
        rintro e w0 ⟨rfl, g0⟩
        have G0 := Lib.hid g0
        clear g0
        go_wp2_with fail
        refine (HFA.out _ G0.out).mono ?_
        rintro e w1 ⟨rfl, g1⟩
        have G1 := Lib.hid (only_trans G0.out g1)
        clear g1
        go_wp2_with fail
        refine (HFB.out _ G1.out).mono ?_
        rintro e w2 ⟨rfl, g2⟩
        have G2 := Lib.hid (only_trans G1.out g2)
        clear g2
        go_wp2_with fail
        refine (HFC.out _ G2.out).mono ?_
        rintro e w3 ⟨rfl, g3⟩
        have G3 := Lib.hid (only_trans G2.out g3)
        clear g3
        go_wp2_with fail
        go_ret
        exact ⟨rfl, G3.out⟩
      | true =>
        rw [hfc] at HFC
        have HZt := Lib.hid (HZ.out hfc)
        have FZt := Lib.hid (FZZ.out hfc)
        clear hfc HZ FZZ
        have lX := of_len xs
        have lY := of_len ys
        have lZ := of_len zs
        have tX := ofT_lt xs
        have tY := ofT_lt ys
        have tZ := ofT_lt zs
        have oX := Lib.hid (@ofT_ok xs)
        have oY := Lib.hid (@ofT_ok ys)
        have oZ := Lib.hid (@ofT_ok zs)
        generalize ofT xs = PX at *
        generalize ofT ys = PY at *
        generalize ofT zs = PZ at *
        obtain ⟨X, p⟩ := PX
        obtain ⟨Y, q⟩ := PY
        obtain ⟨Z, r⟩ := PZ
        simp only at HXt HYt HZt FXt FYt FZt lX lY lZ tX tY tZ oX oY oZ
        by_cases hp : p = 0
        · subst hp
          by_cases hq : q = 0
          · subst hq
            by_cases hr : r = 0
            · subst hr
              have gX := (oX.out rfl).1
              have gY := (oY.out rfl).1
              have gZ := (oZ.out rfl).1
              have hrefl := at_refl gX
              have hnil := at_nil X
              have hni := nil_at gX
              have hsame := Lib.hid (at_same gX gY)
              have htr := Lib.hid (at_trans (x := X) (y := Y) gZ)
              have HAL := Lib.hid (fun (ts rs : List Rw) (S T : Nat → Prop) (w : World) (v u : Value) (h1 : ts.length ≤ 256) (h2 : rs.length ≤ 256) (f1 : ∀ r ∈ ts, Fit r) (f2 : ∀ r ∈ rs, Fit r) (hs : ts.Pairwise ltR) (k1 : Rs S w v ts) (k2 : Rs T w u rs) => atleast_any ts rs S T w v u (by omega) (by omega) f1 f2 hs k1 k2)
              have sX := gX.2.2
              have sY := gY.2.2
              have SX := Lib.hid sX
              have SY := Lib.hid sY
              clear gX gY gZ sX sY oX oY oZ tX tY tZ
              go_enter Tryz.func4, Tryz.ntmps4
              go_wp2_with fail
              refine HA.out.mono ?_
              rintro e w0 ⟨rfl, g0⟩
              have G0 := Lib.hid g0
              clear g0
              go_wp2_with fail
              refine (HFA.out _ G0.out).mono ?_
              rintro e w1 ⟨rfl, g1⟩
              have G1 := Lib.hid (only_trans G0.out g1)
              clear g1
              go_wp2_with fail
              refine (HFB.out _ G1.out).mono ?_
              rintro e w2 ⟨rfl, g2⟩
              have G2 := Lib.hid (only_trans G1.out g2)
              clear g2
              go_wp2_with fail
              refine (HFC.out _ G2.out).mono ?_
              rintro e w3 ⟨rfl, g3⟩
              have G3 := Lib.hid (only_trans G2.out g3)
              clear g3
              go_wp2_with fail
              refine (HXt.out _ G3.out).mono ?_
              rintro e w4 ⟨vx, rfl, rx, g4⟩
              have G34 := Lib.hid g4
              have G4 := Lib.hid (only_trans G3.out g4)
              have Rx := Lib.hid rx
              obtain ⟨ax, cx, rfl⟩ := rx.shape
              clear rx g4
              go_wp2_with fail
              refine (HYt.out _ G4.out).mono ?_
              rintro e w5 ⟨vy, rfl, ry, g5⟩
              have G45 := Lib.hid g5
              have G5 := Lib.hid (only_trans G4.out g5)
              have Ry := Lib.hid ry
              obtain ⟨ay, cy, rfl⟩ := ry.shape
              clear ry g5
              go_wp2_with fail
              refine (HZt.out _ G5.out).mono ?_
              rintro e w6 ⟨vz, rfl, rz, g6⟩
              have G56 := Lib.hid g6
              have G6 := Lib.hid (only_trans G5.out g6)
              have Rz := Lib.hid rz
              obtain ⟨az, cz, rfl⟩ := rz.shape
              clear rz g6
              have RXX := Lib.hid (fun w (g : w6.grownBy w none) => (Rx.out.grown (only_trans (only_trans G45.out G56.out) g)))
              have RYY := Lib.hid (fun w (g : w6.grownBy w none) => (Ry.out.grown (only_trans G56.out g)))
              have RZZ := Lib.hid (fun w (g : w6.grownBy w none) => (Rz.out.grown g))
              have CXX := Lib.hid (fun w (g : w6.grownBy w none) => HAL.out X X _ _ w _ _ lX lX FXt.out FXt.out SX.out (RXX.out w g) (RXX.out w g))
              have CXN := Lib.hid (fun w (g : w6.grownBy w none) => HAL.out X [] _ (fun _ => True) w _ (.slice none 0 0) lX (by simp) FXt.out (by simp) SX.out (RXX.out w g) (Rs.nil _ _ _ _))
              have CNX := Lib.hid (fun w (g : w6.grownBy w none) => HAL.out [] X (fun _ => True) _ w (.slice none 0 0) _ (by simp) lX (by simp) FXt.out List.Pairwise.nil (Rs.nil _ _ _ _) (RXX.out w g))
              have CXY := Lib.hid (fun w (g : w6.grownBy w none) => HAL.out X Y _ _ w _ _ lX lY FXt.out FYt.out SX.out (RXX.out w g) (RYY.out w g))
              have CYX := Lib.hid (fun w (g : w6.grownBy w none) => HAL.out Y X _ _ w _ _ lY lX FYt.out FXt.out SY.out (RYY.out w g) (RXX.out w g))
              have CYZ := Lib.hid (fun w (g : w6.grownBy w none) => HAL.out Y Z _ _ w _ _ lY lZ FYt.out FZt.out SY.out (RYY.out w g) (RZZ.out w g))
              have CXZ := Lib.hid (fun w (g : w6.grownBy w none) => HAL.out X Z _ _ w _ _ lX lZ FXt.out FZt.out SX.out (RXX.out w g) (RZZ.out w g))
              have CSM := Lib.hid (fun w (g : w6.grownBy w none) => same_any X Y _ _ w _ _ (by omega) (fun r hr => by have := (FXt.out r hr).1; omega) (RXX.out w g) (RYY.out w g))
              rw [hrefl] at CXX
              rw [hnil] at CXN
              rw [hni] at CNX
              have hdx : decide (X = []) = ((X.length : Int) == 0) := by cases X <;> simp; omega
              rw [hdx] at CNX
              clear HAL hdx hrefl hnil hni FXt FYt FZt SX SY lY lZ
              have D0 := Lib.hid (only_refl w6 none)
              go_wp2_with fail
              refine (CXX.out _ D0.out).mono ?_
              rintro e u1 ⟨rfl, d1⟩
              have D1 := Lib.hid (only_trans D0.out d1)
              clear d1
              go_wp2_with fail
              refine (CXN.out _ D1.out).mono ?_
              rintro e u2 ⟨rfl, d2⟩
              have D2 := Lib.hid (only_trans D1.out d2)
              clear d2
              go_wp2_with fail
              refine (CNX.out _ D2.out).mono ?_
              rintro e u3 ⟨rfl, d3⟩
              have D3 := Lib.hid (only_trans D2.out d3)
              clear d3
              have HLX : Hid (((((X.length : Int) == 0)) != ((X.length : Int) == 0)) = false) := by show _ = _; simp
              have hlx := HLX.out
              cases hxy : atT X Y with
              | false =>
                rw [hxy] at CXY
                clear hxy hsame htr
                go_wp2_with fail
                refine (CXY.out _ D3.out).mono ?_
                rintro e u4 ⟨rfl, d4⟩
                have D4 := Lib.hid (only_trans D3.out d4)
                clear d4
                go_wp2_with fail
                refine (CXY.out _ D4.out).mono ?_
                rintro e u5 ⟨rfl, d5⟩
                have D5 := Lib.hid (only_trans D4.out d5)
                clear d5
                go_wp2_with fail
                go_ret
                exact ⟨rfl, only_trans G6.out D5.out⟩
              | true =>
                rw [hxy] at CXY
                cases hyx : atT Y X with
                | false =>
                  rw [hyx] at CYX
                  clear hyx hsame
                  cases hyz : atT Y Z with
                  | false =>
                    rw [hyz] at CYZ
                    clear hyz htr
                    go_wp2_with fail
                    refine (CXY.out _ D3.out).mono ?_
                    rintro e u4 ⟨rfl, d4⟩
                    have D4 := Lib.hid (only_trans D3.out d4)
                    clear d4
                    go_wp2_with fail
                    refine (CYX.out _ D4.out).mono ?_
                    rintro e u5 ⟨rfl, d5⟩
                    have D5 := Lib.hid (only_trans D4.out d5)
                    clear d5
                    go_wp2_with fail
                    refine (CXY.out _ D5.out).mono ?_
                    rintro e u6 ⟨rfl, d6⟩
                    have D6 := Lib.hid (only_trans D5.out d6)
                    clear d6
                    go_wp2_with fail
                    refine (CYZ.out _ D6.out).mono ?_
                    rintro e u7 ⟨rfl, d7⟩
                    have D7 := Lib.hid (only_trans D6.out d7)
                    clear d7
                    go_wp2_with fail
                    go_ret
                    exact ⟨rfl, only_trans G6.out D7.out⟩
                  | true =>
                    have hxz := htr.out hxy hyz
                    rw [hyz] at CYZ
                    rw [hxz] at CXZ
                    clear hyz htr hxz
                    go_wp2_with fail
                    refine (CXY.out _ D3.out).mono ?_
                    rintro e u4 ⟨rfl, d4⟩
                    have D4 := Lib.hid (only_trans D3.out d4)
                    clear d4
                    go_wp2_with fail
                    refine (CYX.out _ D4.out).mono ?_
                    rintro e u5 ⟨rfl, d5⟩
                    have D5 := Lib.hid (only_trans D4.out d5)
                    clear d5
                    go_wp2_with fail
                    refine (CXY.out _ D5.out).mono ?_
                    rintro e u6 ⟨rfl, d6⟩
                    have D6 := Lib.hid (only_trans D5.out d6)
                    clear d6
                    go_wp2_with fail
                    refine (CYZ.out _ D6.out).mono ?_
                    rintro e u7 ⟨rfl, d7⟩
                    have D7 := Lib.hid (only_trans D6.out d7)
                    clear d7
                    go_wp2_with fail
                    refine (CXZ.out _ D7.out).mono ?_
                    rintro e u8 ⟨rfl, d8⟩
                    have D8 := Lib.hid (only_trans D7.out d8)
                    clear d8
                    go_wp2_with fail
                    go_ret
                    exact ⟨rfl, only_trans G6.out D8.out⟩
                | true =>
                  have hxs := hsame.out hxy hyx
                  rw [hyx] at CYX
                  rw [decide_eq_true hxs] at CSM
                  clear hyx hsame hxs
                  cases hyz : atT Y Z with
                  | false =>
                    rw [hyz] at CYZ
                    clear hyz htr
                    go_wp2_with fail
                    refine (CXY.out _ D3.out).mono ?_
                    rintro e u4 ⟨rfl, d4⟩
                    have D4 := Lib.hid (only_trans D3.out d4)
                    clear d4
                    go_wp2_with fail
                    refine (CYX.out _ D4.out).mono ?_
                    rintro e u5 ⟨rfl, d5⟩
                    have D5 := Lib.hid (only_trans D4.out d5)
                    clear d5
                    go_wp2_with fail
                    refine (CSM.out _ D5.out).mono ?_
                    rintro e u6 ⟨rfl, d6⟩
                    have D6 := Lib.hid (only_trans D5.out d6)
                    clear d6
                    go_wp2_with fail
                    refine (CXY.out _ D6.out).mono ?_
                    rintro e u7 ⟨rfl, d7⟩
                    have D7 := Lib.hid (only_trans D6.out d7)
                    clear d7
                    go_wp2_with fail
                    refine (CYZ.out _ D7.out).mono ?_
                    rintro e u8 ⟨rfl, d8⟩
                    have D8 := Lib.hid (only_trans D7.out d8)
                    clear d8
                    go_wp2_with fail
                    go_ret
                    exact ⟨rfl, only_trans G6.out D8.out⟩
                  | true =>
                    have hxz := htr.out hxy hyz
                    rw [hyz] at CYZ
                    rw [hxz] at CXZ
                    clear hyz htr hxz
                    go_wp2_with fail
                    refine (CXY.out _ D3.out).mono ?_
                    rintro e u4 ⟨rfl, d4⟩
                    have D4 := Lib.hid (only_trans D3.out d4)
                    clear d4
                    go_wp2_with fail
                    refine (CYX.out _ D4.out).mono ?_
                    rintro e u5 ⟨rfl, d5⟩
                    have D5 := Lib.hid (only_trans D4.out d5)
                    clear d5
                    go_wp2_with fail
                    refine (CSM.out _ D5.out).mono ?_
                    rintro e u6 ⟨rfl, d6⟩
                    have D6 := Lib.hid (only_trans D5.out d6)
                    clear d6
                    go_wp2_with fail
                    refine (CXY.out _ D6.out).mono ?_
                    rintro e u7 ⟨rfl, d7⟩
                    have D7 := Lib.hid (only_trans D6.out d7)
                    clear d7
                    go_wp2_with fail
                    refine (CYZ.out _ D7.out).mono ?_
                    rintro e u8 ⟨rfl, d8⟩
                    have D8 := Lib.hid (only_trans D7.out d8)
                    clear d8
                    go_wp2_with fail
                    refine (CXZ.out _ D8.out).mono ?_
                    rintro e u9 ⟨rfl, d9⟩
                    have D9 := Lib.hid (only_trans D8.out d9)
                    clear d9
                    go_wp2_with fail
                    go_ret
                    exact ⟨rfl, only_trans G6.out D9.out⟩
            · have hrb : ((r : Int) != 0) = true := by rw [bne_iff_ne]; omega
              clear oX oY oZ FXt FYt FZt
              go_enter Tryz.func4, Tryz.ntmps4
              go_wp2_with fail
              refine HA.out.mono ?_
              rintro e w0 ⟨rfl, g0⟩
              have G0 := Lib.hid g0
              clear g0
              go_wp2_with fail
              refine (HFA.out _ G0.out).mono ?_
              rintro e w1 ⟨rfl, g1⟩
              have G1 := Lib.hid (only_trans G0.out g1)
              clear g1
              go_wp2_with fail
              refine (HFB.out _ G1.out).mono ?_
              rintro e w2 ⟨rfl, g2⟩
              have G2 := Lib.hid (only_trans G1.out g2)
              clear g2
              go_wp2_with fail
              refine (HFC.out _ G2.out).mono ?_
              rintro e w3 ⟨rfl, g3⟩
              have G3 := Lib.hid (only_trans G2.out g3)
              clear g3
              go_wp2_with fail
              refine (HXt.out _ G3.out).mono ?_
              rintro e w4 ⟨vx, rfl, rx, g4⟩
              have G4 := Lib.hid (only_trans G3.out g4)
              have Rx := Lib.hid rx
              obtain ⟨ax, cx, rfl⟩ := rx.shape
              clear rx g4
              go_wp2_with fail
              refine (HYt.out _ G4.out).mono ?_
              rintro e w5 ⟨vy, rfl, ry, g5⟩
              have G5 := Lib.hid (only_trans G4.out g5)
              have Ry := Lib.hid ry
              obtain ⟨ay, cy, rfl⟩ := ry.shape
              clear ry g5
              go_wp2_with fail
              refine (HZt.out _ G5.out).mono ?_
              rintro e w6 ⟨vz, rfl, rz, g6⟩
              have G6 := Lib.hid (only_trans G5.out g6)
              have Rz := Lib.hid rz
              obtain ⟨az, cz, rfl⟩ := rz.shape
              clear rz g6
              go_wp2_with fail
              go_ret
              exact ⟨rfl, G6.out⟩
          · have hqb : ((q : Int) != 0) = true := by rw [bne_iff_ne]; omega
            clear oX oY oZ FXt FYt FZt
            go_enter Tryz.func4, Tryz.ntmps4
            go_wp2_with fail
            refine HA.out.mono ?_
            rintro e w0 ⟨rfl, g0⟩
            have G0 := Lib.hid g0
            clear g0
            go_wp2_with fail
            refine (HFA.out _ G0.out).mono ?_
            rintro e w1 ⟨rfl, g1⟩
            have G1 := Lib.hid (only_trans G0.out g1)
            clear g1
            go_wp2_with fail
            refine (HFB.out _ G1.out).mono ?_
            rintro e w2 ⟨rfl, g2⟩
            have G2 := Lib.hid (only_trans G1.out g2)
            clear g2
            go_wp2_with fail
            refine (HFC.out _ G2.out).mono ?_
            rintro e w3 ⟨rfl, g3⟩
            have G3 := Lib.hid (only_trans G2.out g3)
            clear g3
            go_wp2_with fail
            refine (HXt.out _ G3.out).mono ?_
            rintro e w4 ⟨vx, rfl, rx, g4⟩
            have G4 := Lib.hid (only_trans G3.out g4)
            have Rx := Lib.hid rx
            obtain ⟨ax, cx, rfl⟩ := rx.shape
            clear rx g4
            go_wp2_with fail
            refine (HYt.out _ G4.out).mono ?_
            rintro e w5 ⟨vy, rfl, ry, g5⟩
            have G5 := Lib.hid (only_trans G4.out g5)
            have Ry := Lib.hid ry
            obtain ⟨ay, cy, rfl⟩ := ry.shape
            clear ry g5
            go_wp2_with fail
            refine (HZt.out _ G5.out).mono ?_
            rintro e w6 ⟨vz, rfl, rz, g6⟩
            have G6 := Lib.hid (only_trans G5.out g6)
            have Rz := Lib.hid rz
            obtain ⟨az, cz, rfl⟩ := rz.shape
            clear rz g6
            go_wp2_with fail
            go_ret
            exact ⟨rfl, G6.out⟩
        · have hpb : ((p : Int) != 0) = true := by rw [bne_iff_ne]; omega
          clear oX oY oZ FXt FYt FZt
          go_enter Tryz.func4, Tryz.ntmps4
          go_wp2_with fail
          refine HA.out.mono ?_
          rintro e w0 ⟨rfl, g0⟩
          have G0 := Lib.hid g0
          clear g0
          go_wp2_with fail
          refine (HFA.out _ G0.out).mono ?_
          rintro e w1 ⟨rfl, g1⟩
          have G1 := Lib.hid (only_trans G0.out g1)
          clear g1
          go_wp2_with fail
          refine (HFB.out _ G1.out).mono ?_
          rintro e w2 ⟨rfl, g2⟩
          have G2 := Lib.hid (only_trans G1.out g2)
          clear g2
          go_wp2_with fail
          refine (HFC.out _ G2.out).mono ?_
          rintro e w3 ⟨rfl, g3⟩
          have G3 := Lib.hid (only_trans G2.out g3)
          clear g3
          go_wp2_with fail
          refine (HXt.out _ G3.out).mono ?_
          rintro e w4 ⟨vx, rfl, rx, g4⟩
          have G4 := Lib.hid (only_trans G3.out g4)
          have Rx := Lib.hid rx
          obtain ⟨ax, cx, rfl⟩ := rx.shape
          clear rx g4
          go_wp2_with fail
          refine (HYt.out _ G4.out).mono ?_
          rintro e w5 ⟨vy, rfl, ry, g5⟩
          have G5 := Lib.hid (only_trans G4.out g5)
          have Ry := Lib.hid ry
          obtain ⟨ay, cy, rfl⟩ := ry.shape
          clear ry g5
          go_wp2_with fail
          refine (HZt.out _ G5.out).mono ?_
          rintro e w6 ⟨vz, rfl, rz, g6⟩
          have G6 := Lib.hid (only_trans G5.out g6)
          have Rz := Lib.hid rz
          obtain ⟨az, cz, rfl⟩ := rz.shape
          clear rz g6
          go_wp2_with fail
          go_ret
          exact ⟨rfl, G6.out⟩

end Go.Proofs.YtbofmoanainliaaGreatDoor.law13
