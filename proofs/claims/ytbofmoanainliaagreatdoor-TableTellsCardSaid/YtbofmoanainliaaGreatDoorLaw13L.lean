/-
  The statement TableTells.
-/
import Derived.Test.YtbofmoanainliaaGreatDoorLaw13M
namespace Go.Proofs.YtbofmoanainliaaGreatDoor.law13
open Go.RowKit Go.Proofs.YtbofmoanainliaaGreatDoor.vi Go.Proofs.YtbofmoanainliaaGreatDoor.um Go.Proofs.YtbofmoanainliaaGreatDoor.wm Go.Proofs.YtbofmoanainliaaGreatDoor.tr Go.Proofs.YtbofmoanainliaaGreatDoor.em Go.Proofs.YtbofmoanainliaaGreatDoor.rm Go.Proofs.YtbofmoanainliaaGreatDoor.law11 Go.Proofs.YtbofmoanainliaaGreatDoor.dd Go.Proofs.YtbofmoanainliaaGreatDoor.dr Go.Proofs.YtbofmoanainliaaGreatDoor.tm Go.Proofs.YtbofmoanainliaaGreatDoor.tf Go.Proofs.YtbofmoanainliaaGreatDoor.ti
set_option linter.unusedVariables false
set_option linter.unusedSimpArgs false

/-- To, of any rows that are read. -/
theorem tor_any (rs : List Rw) (S : Nat → Prop) (w : World) (v : Value) (hl : rs.length ≤ 300) (hz : ∀ r ∈ rs, Fit r) (h : Rs S w v rs) :
    Calls Tryz.prog 13 #[v] w fun e w' => ∃ v', e = .returned v' ∧ Rs (fun k => k < w'.heap.size) w' v' rs ∧ w.grownBy w' none :=
  (to_any rs S w v (by omega) (fun r hr => by have := (hz r hr).1; omega) h).mono fun _ _ ⟨v', T, h1, h2, h3, h4⟩ => ⟨v', h1, h2.rd.low, h4⟩
/-- The document's Same, as a decision. -/
theorem rsd_any (ps qs : List Rw) (S T : Nat → Prop) (w : World) (v u : Value) (hl : ps.length ≤ 300) (hl2 : qs.length ≤ 300) (hz : ∀ r ∈ ps, Fit r) (hz2 : ∀ r ∈ qs, Fit r) (h : Rs S w v ps) (he : Rs T w u qs) :
    Calls Tryz.prog 14 #[v, u] w fun e w' => e = .returned (.bool (decide (ps = qs))) ∧ w.grownBy w' none :=
  (rsame_any ps qs S T w v u (by omega) (by omega) (fun r hr => by have := (hz r hr).1; omega) (fun r hr => by have := (hz2 r hr).1; omega) h he).mono fun _ _ ⟨q, h1, h2, h3⟩ => ⟨by
    rw [h1]
    congr 2
    cases q with
    | true => rw [decide_eq_true (h2.1 rfl)]
    | false => rw [decide_eq_false fun e => by have := h2.2 e; cases this], h3⟩
theorem good_pos {X : List Rw} (h : tm.Good X) : ∀ r ∈ X, 0 < r.d.length := fun r hr => by
  have h1 := (rowE_pos (h.2.1 r hr)).1
  exact ((checkD_ok _).1 h1).1

set_option maxHeartbeats 3000000 in
set_option maxRecDepth 100000 in
theorem tells_any (W : World) (hT : tb.Tab W) (xs ys : List Rw) (ds : List Ent) (SA SB : Nat → Prop) (BD : Nat) (va vb vd : Value) (hl : xs.length ≤ 140737488351232) (hl2 : ys.length ≤ 140737488351232) (hl3 : ds.length ≤ 140737488351232)
    (hz : ∀ r ∈ xs, Bul r) (hz2 : ∀ r ∈ ys, Bul r) (hz3 : ∀ x ∈ ds, x.key.size ≤ 140737488351232 ∧ x.value.size ≤ 140737488351232) (h : Rs SA W va xs) (h2 : Rs SB W vb ys) (h3 : Es BD W vd ds) :
    Calls Tryz.prog 3 #[va, vb, vd] W fun e W' => e = .returned (.bool true) ∧ W.grownBy W' none := by
  have HA := Lib.hid (awake_any W hT)
  have HFA := Lib.hid (fun w (g : W.grownBy w none) => few_any xs SA w va hl (fun r hr => ⟨(hz r hr).1, (hz r hr).2.1⟩) (h.grown g))
  have HFB := Lib.hid (fun w (g : W.grownBy w none) => few_any ys SB w vb hl2 (fun r hr => ⟨(hz2 r hr).1, (hz2 r hr).2.1⟩) (h2.grown g))
  have HFC := Lib.hid (fun w (g : W.grownBy w none) => law12.few_any ds BD w vd hl3 hz3 (h3.grown g))
  have HTB := Lib.hid (fun w (g : W.grownBy w none) => tb.kept hT g)
  have RA := Lib.hid (fun w (g : W.grownBy w none) => h.grown g)
  have RB := Lib.hid (fun w (g : W.grownBy w none) => h2.grown g)
  have RD := Lib.hid (fun w (g : W.grownBy w none) => h3.grown g)
  have BA := Lib.hid hz
  have BB := Lib.hid hz2
  obtain ⟨aa, ca, rfl⟩ := h.shape
  obtain ⟨ab, cb, rfl⟩ := h2.shape
  obtain ⟨ac, cc, rfl⟩ := h3.shape
  clear h h2 h3 hz hz2 hz3 hT
  cases hfa : fewT xs with
  | false =>
    rw [hfa] at HFA
    go_enter Tryz.func3, Tryz.ntmps3
    go_wp2_with fail
    refine HA.out.mono ?_
    rintro e w0 ⟨rfl, g0⟩
    have G0 := Lib.hid g0
    clear g0
    go_wp2_with fail
    refine (HFA.out _ G0.out).mono ?_
    rintro e w1 ⟨rfl, g1⟩
    have G1 := Lib.hid (only_trans G0.out g1)
    clear g1
    go_wp2_with fail
    go_ret
    exact ⟨rfl, G1.out⟩
  | true =>
    rw [hfa] at HFA
    cases hfb : fewT ys with
    | false =>
      rw [hfb] at HFB
      go_enter Tryz.func3, Tryz.ntmps3
      go_wp2_with fail
      refine HA.out.mono ?_
      rintro e w0 ⟨rfl, g0⟩
      have G0 := Lib.hid g0
      clear g0
      go_wp2_with fail
      refine (HFA.out _ G0.out).mono ?_
      rintro e w1 ⟨rfl, g1⟩
      have G1 := Lib.hid (only_trans G0.out g1)
      clear g1
      go_wp2_with fail
      refine (HFB.out _ G1.out).mono ?_
      rintro e w2 ⟨rfl, g2⟩
      have G2 := Lib.hid (only_trans G1.out g2)
      clear g2
      go_wp2_with fail
      go_ret
      exact ⟨rfl, G2.out⟩
    | true =>
      rw [hfb] at HFB
      cases hfc : law12.fewE ds with
      | false =>
        rw [hfc] at HFC
        go_enter Tryz.func3, Tryz.ntmps3
        go_wp2_with fail
        refine HA.out.mono ?_
        rintro e w0 ⟨rfl, g0⟩
        have G0 := Lib.hid g0
        clear g0
        go_wp2_with fail
        refine (HFA.out _ G0.out).mono ?_
        rintro e w1 ⟨rfl, g1⟩
        have G1 := Lib.hid (only_trans G0.out g1)
        clear g1
        go_wp2_with fail
        refine (HFB.out _ G1.out).mono ?_
        rintro e w2 ⟨rfl, g2⟩
        have G2 := Lib.hid (only_trans G1.out g2)
        clear g2
        go_wp2_with fail
        refine (HFC.out _ G2.out).mono ?_
        rintro e w3 ⟨rfl, g3⟩
        have G3 := Lib.hid (only_trans G2.out g3)
        clear g3
        go_wp2_with fail
        go_ret
        exact ⟨rfl, G3.out⟩
      | true =>
        rw [hfc] at HFC
        have OKA := Lib.hid (few_rok hfa BA.out)
        have OKB := Lib.hid (few_rok hfb BB.out)
        have FA := Lib.hid (few_fit hfa BA.out)
        have FB := Lib.hid (few_fit hfb BB.out)
        have lA := (few_facts hfa).1
        have lB := (few_facts hfb).1
        obtain ⟨fc1, fc2⟩ := law12.few_facts hfc
        have hkd := law12.key_small fc1 fc2
        have FD : Hid (ds.length ≤ 1000 ∧ (∀ x ∈ ds, x.key.size ≤ 1000 ∧ x.value.size ≤ 1000) ∧ (keyD ds).length ≤ 1000000) := ⟨by omega, fun x hx => by have := fc2 x hx; omega, by omega⟩
        have FX := Lib.hid (of_fit FA.out)
        have FY := Lib.hid (of_fit FB.out)
        have lX := of_len xs
        have lY := of_len ys
        have tX := ofT_lt xs
        have tY := ofT_lt ys
        have OX := Lib.hid (@ofT_ok xs)
        have OY := Lib.hid (@ofT_ok ys)
        -- what each call answers, in worlds that have grown
        have COA := Lib.hid (fun w (g : W.grownBy w none) => of_any xs SA w _ (by unfold maxLen; omega) OKA.out (HTB.out w g) (RA.out w g))
        have COB := Lib.hid (fun w (g : W.grownBy w none) => of_any ys SB w _ (by unfold maxLen; omega) OKB.out (HTB.out w g) (RB.out w g))
        have CTA := Lib.hid (fun w (g : W.grownBy w none) => tor_any xs SA w _ lA FA.out (RA.out w g))
        have CTB := Lib.hid (fun w (g : W.grownBy w none) => tor_any ys SB w _ lB FB.out (RB.out w g))
        have CRO := Lib.hid (fun S w v (h : Rs S w v xs) => rofT_any xs S w v (by omega) FA.out h)
        have CCA := Lib.hid (fun w (g : W.grownBy w none) => tcheck_any xs SA w _ (by unfold maxLen; omega) OKA.out (HTB.out w g) (RA.out w g))
        have CRC := Lib.hid (fun S w v (h : Rs S w v xs) => rcheckT_any xs S w v (by omega) FA.out h)
        have CSA := Lib.hid (fun w (g : W.grownBy w none) => same_any xs ys SA SB w _ _ (by omega) (fun r hr => by have := (FA.out r hr).1; omega) (RA.out w g) (RB.out w g))
        have CRS := Lib.hid (fun S T w v u (h : Rs S w v xs) (h2 : Rs T w u ys) => rsd_any xs ys S T w v u lA lB FA.out FB.out h h2)
        have hck := checkT_lt xs
        generalize checkT xs = ck at *
        generalize hsm : decide (xs = ys) = sm at *
        generalize ofT xs = PX at *
        generalize ofT ys = PY at *
        obtain ⟨X, p⟩ := PX
        obtain ⟨Y, q⟩ := PY
        simp only at COA COB CRO FX FY lX lY tX tY OX OY
        have CTX := Lib.hid (fun S w v (h : Rs S w v X) => tor_any X S w v (by omega) FX.out h)
        have CXX := Lib.hid (fun S T w v u (h : Rs S w v X) (h2 : Rs T w u X) => rsd_any X X S T w v u (by omega) (by omega) FX.out FX.out h h2)
        rw [decide_eq_true rfl] at CXX
        clear hfa hfb hfc fc1 fc2 hkd hsm lA lB BA BB
        go_enter Tryz.func3, Tryz.ntmps3
        go_wp2_with fail
        refine HA.out.mono ?_
        rintro e w0 ⟨rfl, g0⟩
        have G0 := Lib.hid g0
        clear g0
        go_wp2_with fail
        refine (HFA.out _ G0.out).mono ?_
        rintro e w1 ⟨rfl, g1⟩
        have G1 := Lib.hid (only_trans G0.out g1)
        clear g1
        go_wp2_with fail
        refine (HFB.out _ G1.out).mono ?_
        rintro e w2 ⟨rfl, g2⟩
        have G2 := Lib.hid (only_trans G1.out g2)
        clear g2
        go_wp2_with fail
        refine (HFC.out _ G2.out).mono ?_
        rintro e w3 ⟨rfl, g3⟩
        have G3 := Lib.hid (only_trans G2.out g3)
        clear g3
        go_wp2_with fail
        refine (COA.out _ G3.out).mono ?_
        rintro e w4 ⟨vt, rfl, rt, g4⟩
        have G4 := Lib.hid (only_trans G3.out g4)
        have Rt4 := Lib.hid rt
        obtain ⟨adt, cpt, rfl⟩ := rt.shape
        clear rt g4
        go_wp2_with fail
        refine (CTA.out _ G4.out).mono ?_
        rintro e w5 ⟨vi, rfl, ri, g5⟩
        have G5 := Lib.hid (only_trans G4.out g5)
        have Rt5 := Lib.hid (Rt4.out.grown g5)
        have Ri5 := Lib.hid ri
        obtain ⟨adi, cpi, rfl⟩ := ri.shape
        clear ri g5
        go_wp2_with fail
        refine (CRO.out _ _ _ Ri5.out).mono ?_
        rintro e w6 ⟨vn, rfl, rn, g6⟩
        have G6 := Lib.hid (only_trans G5.out g6)
        have Rt6 := Lib.hid (Rt5.out.grown g6)
        have Rn6 := Lib.hid rn
        obtain ⟨adn, cpn, rfl⟩ := rn.shape
        clear rn g6
        go_wp2_with fail
        refine (CTX.out _ _ _ Rt6.out).mono ?_
        rintro e w7 ⟨vj, rfl, rj, g7⟩
        have G7 := Lib.hid (only_trans G6.out g7)
        have Rt7 := Lib.hid (Rt6.out.grown g7)
        have Rn7 := Lib.hid (Rn6.out.grown g7)
        have Rj7 := Lib.hid rj
        obtain ⟨adj, cpj, rfl⟩ := rj.shape
        clear rj g7
        go_wp2_with fail
        refine (CXX.out _ _ _ _ _ Rj7.out Rn7.out).mono ?_
        rintro e w8 ⟨rfl, g8⟩
        have G8 := Lib.hid (only_trans G7.out g8)
        have Rt8 := Lib.hid (Rt7.out.grown g8)
        have Rn8 := Lib.hid (Rn7.out.grown g8)
        clear g8
        have hpp : ((p : Int) != (p : Int)) = false := by simp
        go_wp2_with fail
        refine (CCA.out _ G8.out).mono ?_
        rintro e w9 ⟨rfl, g9⟩
        have G9 := Lib.hid (only_trans G8.out g9)
        have Rt9 := Lib.hid (Rt8.out.grown g9)
        have Rn9 := Lib.hid (Rn8.out.grown g9)
        clear g9
        go_wp2_with fail
        refine (CTA.out _ G9.out).mono ?_
        rintro e w10 ⟨vk, rfl, rk, g10⟩
        have G10 := Lib.hid (only_trans G9.out g10)
        have Rt10 := Lib.hid (Rt9.out.grown g10)
        have Rn10 := Lib.hid (Rn9.out.grown g10)
        have Rk10 := Lib.hid rk
        obtain ⟨adk, cpk, rfl⟩ := rk.shape
        clear rk g10
        have hcc : ((ck : Int) != (ck : Int)) = false := by simp
        go_wp2_with fail
        refine (CRC.out _ _ _ Rk10.out).mono ?_
        rintro e w11 ⟨rfl, g11⟩
        have G11 := Lib.hid (only_trans G10.out g11)
        have Rt11 := Lib.hid (Rt10.out.grown g11)
        have Rn11 := Lib.hid (Rn10.out.grown g11)
        clear g11
        go_wp2_with fail
        refine (CSA.out _ G11.out).mono ?_
        rintro e w12 ⟨rfl, g12⟩
        have G12 := Lib.hid (only_trans G11.out g12)
        have Rt12 := Lib.hid (Rt11.out.grown g12)
        have Rn12 := Lib.hid (Rn11.out.grown g12)
        clear g12
        go_wp2_with fail
        refine (CTA.out _ G12.out).mono ?_
        rintro e w13 ⟨vl, rfl, rl, g13⟩
        have G13 := Lib.hid (only_trans G12.out g13)
        have Rt13 := Lib.hid (Rt12.out.grown g13)
        have Rn13 := Lib.hid (Rn12.out.grown g13)
        have Rl13 := Lib.hid rl
        obtain ⟨adl, cpl, rfl⟩ := rl.shape
        clear rl g13
        go_wp2_with fail
        refine (CTB.out _ G13.out).mono ?_
        rintro e w14 ⟨vm, rfl, rm, g14⟩
        have G14 := Lib.hid (only_trans G13.out g14)
        have Rt14 := Lib.hid (Rt13.out.grown g14)
        have Rn14 := Lib.hid (Rn13.out.grown g14)
        have Rl14 := Lib.hid (Rl13.out.grown g14)
        have Rm14 := Lib.hid rm
        obtain ⟨adm, cpm, rfl⟩ := rm.shape
        clear rm g14
        have hss : (sm != sm) = false := by simp
        go_wp2_with fail
        refine (CRS.out _ _ _ _ _ Rl14.out Rm14.out).mono ?_
        rintro e w15 ⟨rfl, g15⟩
        have G15 := Lib.hid (only_trans G14.out g15)
        have Rt15 := Lib.hid (Rt14.out.grown g15)
        have Rn15 := Lib.hid (Rn14.out.grown g15)
        clear g15
        go_wp2_with fail
        refine (COB.out _ G15.out).mono ?_
        rintro e w16 ⟨vu, rfl, ru, g16⟩
        have G16 := Lib.hid (only_trans G15.out g16)
        have Rt16 := Lib.hid (Rt15.out.grown g16)
        have Rn16 := Lib.hid (Rn15.out.grown g16)
        have Ru16 := Lib.hid ru
        obtain ⟨adu, cpu, rfl⟩ := ru.shape
        clear ru g16
        by_cases hp : p = 0
        · subst hp
          by_cases hq : q = 0
          · subst hq
            have gX := (OX.out rfl).1
            have gY := (OY.out rfl).1
            have HSX := Lib.hid gX.2.2
            have HPO := Lib.hid (good_pos gX)
            have CCL := Lib.hid (tclone_any X _ _ _ (by omega) (fun r hr => by have := (FX.out r hr).1; omega) Rt16.out)
            have CG := Lib.hid (fun S B w v u h h2 => get_any X ds S B w v u (by omega) FX.out gX.2.2 FD.out h h2)
            have CRG := Lib.hid (fun S B w v u h h2 => rgetT_any X ds S B w v u (by omega) FX.out FD.out h h2)
            have CTD := Lib.hid (fun w g => law12.to_any ds BD w _ (by have := FD.out.1; omega) (RD.out w g))
            have CAL := Lib.hid (fun S T w v u h h2 => atleast_any X Y S T w v u (by omega) (by omega) FX.out FY.out gX.2.2 h h2)
            have CRA := Lib.hid (fun S T w v u h h2 => ratleast_any X Y S T w v u (by omega) (by omega) FX.out FY.out h h2)
            have CTY := Lib.hid (fun S w v (h : Rs S w v Y) => tor_any Y S w v (by omega) FY.out h)
            clear gX gY OX OY tX tY CCA CRC CSA CRS COA COB CTA CTB CRO hpp hcc hss
            generalize getT ds X = gg at *
            generalize atT X Y = bb at *
            go_wp2_with fail
            refine CCL.out.mono ?_
            rintro e w17 ⟨vc, rfl, oc, gc⟩
            have HM0 : Hid (0 < X.length → ∃ g cap, vc = .slice (some ⟨g, 0, none⟩) X.length cap ∧ X.length ≤ cap ∧ cap ≤ maxLen ∧ Mut w16.heap.size g X.length w17) := fun h0 => mut_of oc HPO.out h0
            have GC := Lib.hid gc
            obtain ⟨oa, oc2, rfl⟩ := oc.shape
            clear oc gc
            go_wp2_with fail
            go_loopw [85] (fun q wr => ∃ i : Nat, i ≤ X.length ∧ q = .int .i64 i ∧ w16.grownBy wr none ∧ (0 < X.length → ∃ g cap, Value.slice oa X.length oc2 = .slice (some ⟨g, 0, none⟩) X.length cap ∧ X.length ≤ cap ∧ cap ≤ maxLen ∧ Mut w16.heap.size g X.length wr)) (fun q _ => X.length - (intOf q).toNat)
            case atStart => exact ⟨0, Nat.zero_le _, rfl, GC.out, HM0.out⟩
            case round =>
              obtain ⟨i, hi, rfl, hg, hm⟩ := hrel
              have HG := Lib.hid hg
              clear hg HM0 GC
              by_cases hlt : i < X.length
              · obtain ⟨g, cap, e, hc1, hc2, hmu⟩ := hm (by omega)
                simp only [Value.slice.injEq, true_and] at e
                obtain ⟨rfl, rfl⟩ := e
                unfold maxLen at hc2
                have HMU := Lib.hid hmu
                obtain ⟨hbg, hat⟩ := hmu
                obtain ⟨z, bi, m, ci, s, h1, h2, h3, h3', h4, h5, h6, h7, h8, h9⟩ := hat i hlt
                unfold maxLen at h3'
                have k1 : ∀ u, (wr.setCell ⟨g, i * 2 + 1, none⟩ u).cell? ⟨g, i * 2, none⟩ = some (.slice (some ⟨bi, 0, none⟩) m ci) := fun u => by rw [World.cell?_setCell_other _ _ _ _ (by simp only [ne_eq, Addr.mk.injEq, and_true, true_and]; omega)]; exact h1
                have k2 : ∀ u, (wr.setCell ⟨g, i * 2 + 1, none⟩ u).cell? ⟨bi, 0, none⟩ = some (.string s) := fun u => by rw [World.cell?_setCell_other _ _ _ _ (by simp only [ne_eq, Addr.mk.injEq, and_true]; intro e; exact h8 e.1.symm)]; exact h6
                have k3 : ∀ u, (wr.setCell ⟨g, i * 2 + 1, none⟩ u).frozen? ⟨bi, 0, none⟩ = false := fun u => by rw [World.frozen?_setCell]; exact h7
                have H8 := Lib.hid h8
                have H9 := Lib.hid h9
                have HBG := Lib.hid hbg
                clear hat h6 h7 h8 h9 hbg hm
                go_wp2_with fail
                go_roundw
                case rel => exact ⟨i + 1, by omega, by go_num, only_setCell (only_setCell HG.out (.inr HBG.out) _) (.inr H9.out) _, fun _ => ⟨g, _, rfl, hc1, by unfold maxLen; omega, (HMU.out.setN hlt _).setK H8.out _⟩⟩
                case measure => simp [intOf]; omega
              · have hie : i = X.length := by omega
                subst hie
                have RT := Lib.hid (fun w (g : wr.grownBy w none) => Rt16.out.grown (only_trans HG.out g))
                have RN := Lib.hid (fun w (g : wr.grownBy w none) => Rn16.out.grown (only_trans HG.out g))
                have RU := Lib.hid (fun w (g : wr.grownBy w none) => Ru16.out.grown (only_trans HG.out g))
                have RDD := Lib.hid (fun w (g : wr.grownBy w none) => RD.out w (only_trans G16.out (only_trans HG.out g)))
                have CTD2 := Lib.hid (fun w (g : wr.grownBy w none) => CTD.out w (only_trans G16.out (only_trans HG.out g)))
                have D0 := Lib.hid (only_refl wr none)
                have hgg : ((gg : Int) == (gg : Int)) = true := by simp
                have hbb : (bb == bb) = true := by simp
                clear hm CTD
                go_wp2_with fail
                refine (CG.out _ _ _ _ _ (RT.out _ D0.out) (RDD.out _ D0.out)).mono ?_
                rintro e u1 ⟨rfl, d1⟩
                have D1 := Lib.hid (only_trans D0.out d1)
                clear d1
                go_wp2_with fail
                refine (CTD2.out _ D1.out).mono ?_
                rintro e u2 ⟨vy, rfl, oy, d2⟩
                have D2 := Lib.hid (only_trans D1.out d2)
                have Ry := Lib.hid oy.es
                obtain ⟨ady, cpy, rfl⟩ := oy.es.shape
                clear oy d2
                go_wp2_with fail
                refine (CRG.out _ _ _ _ _ (RN.out _ D2.out) Ry.out).mono ?_
                rintro e u3 ⟨rfl, d3⟩
                have D3 := Lib.hid (only_trans D2.out d3)
                clear d3
                go_wp2_with fail
                refine (CAL.out _ _ _ _ _ (RT.out _ D3.out) (RU.out _ D3.out)).mono ?_
                rintro e u4 ⟨rfl, d4⟩
                have D4 := Lib.hid (only_trans D3.out d4)
                clear d4
                go_wp2_with fail
                refine (CTY.out _ _ _ (RU.out _ D4.out)).mono ?_
                rintro e u5 ⟨vh, rfl, rh, d5⟩
                have D5 := Lib.hid (only_trans D4.out d5)
                have Rh := Lib.hid rh
                obtain ⟨adh, cph, rfl⟩ := rh.shape
                clear rh d5
                go_wp2_with fail
                refine (CRA.out _ _ _ _ _ (RN.out _ D5.out) Rh.out).mono ?_
                rintro e u6 ⟨rfl, d6⟩
                have D6 := Lib.hid (only_trans D5.out d6)
                clear d6
                go_wp2_with fail
                refine (CTX.out _ _ _ (RT.out _ D6.out)).mono ?_
                rintro e u7 ⟨vo, rfl, ro, d7⟩
                have D7 := Lib.hid (only_trans D6.out d7)
                have Ro := Lib.hid ro
                obtain ⟨ado, cpo, rfl⟩ := ro.shape
                clear ro d7
                go_wp2_with fail
                refine (CXX.out _ _ _ _ _ Ro.out (RN.out _ D7.out)).mono ?_
                rintro e u8 ⟨rfl, d8⟩
                have D8 := Lib.hid (only_trans D7.out d8)
                clear d8
                go_wp2_with fail
                go_ret
                exact ⟨rfl, only_trans G16.out (only_trans HG.out D8.out)⟩
          · have hqb : ((q : Int) != 0) = true := by rw [bne_iff_ne]; omega
            go_wp2_with fail
            go_ret
            exact ⟨rfl, G16.out⟩
        · have hpb : ((p : Int) != 0) = true := by rw [bne_iff_ne]; omega
          go_wp2_with fail
          go_ret
          exact ⟨rfl, G16.out⟩

end Go.Proofs.YtbofmoanainliaaGreatDoor.law13
