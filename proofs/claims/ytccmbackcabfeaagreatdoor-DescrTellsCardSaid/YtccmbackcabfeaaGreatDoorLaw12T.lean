/-
  The statement DescrTells.
-/
import Derived.Test.YtccmbackcabfeaaGreatDoorBundG
import Derived.Test.YtccmbackcabfeaaGreatDoorLaw12R
namespace Go.Proofs.YtccmbackcabfeaaGreatDoor.law12
open Go.RowKit Go.Proofs.YtccmbackcabfeaaGreatDoor.vi Go.Proofs.YtccmbackcabfeaaGreatDoor.um Go.Proofs.YtccmbackcabfeaaGreatDoor.wm Go.Proofs.YtccmbackcabfeaaGreatDoor.tr Go.Proofs.YtccmbackcabfeaaGreatDoor.em Go.Proofs.YtccmbackcabfeaaGreatDoor.cur Go.Proofs.YtccmbackcabfeaaGreatDoor.law11 Go.Proofs.YtccmbackcabfeaaGreatDoor.dd Go.Proofs.YtccmbackcabfeaaGreatDoor.dr
set_option linter.unusedVariables false
set_option linter.unusedSimpArgs false

def cmpN (a b : ByteArray) : Int := if a = b then 0 else if cmpB a b < 0 then -1 else 1
theorem cmpN_eq (a b : ByteArray) : cmpB a b = cmpN a b := by
  unfold cmpN
  by_cases h : a = b
  · rw [if_pos h]; exact (cmpB_zero a b).2 h
  · rw [if_neg h]
    have h0 : cmpB a b ≠ 0 := fun e => h ((cmpB_zero a b).1 e)
    rcases cmpB_cases a b with e | e | e
    · rw [e]; simp
    · exact absurd e h0
    · rw [e]; simp

set_option maxHeartbeats 16000000 in
set_option maxRecDepth 100000 in
theorem tells_any (W : World) (hT : tb.Tab W) (xs ys : List Ent) (v u : Value) (key : ByteArray) (hlx : xs.length ≤ 140737488351232) (hly : ys.length ≤ 140737488351232) (hzx : ∀ x ∈ xs, x.key.size ≤ 140737488351232 ∧ x.value.size ≤ 140737488351232) (hzy : ∀ x ∈ ys, x.key.size ≤ 140737488351232 ∧ x.value.size ≤ 140737488351232)
    (hx : Es W.heap.size W v xs) (hy : Es W.heap.size W u ys) (hk : key.size ≤ maxLen) :
    Calls Tryz.prog 5 #[v, u, .string key] W fun e w' => e = .returned (.bool true) ∧ W.grownBy w' none := by
  have HA := Lib.hid (awake_any W hT)
  have HF1 := Lib.hid (fun w (g : W.grownBy w none) => few_any xs _ w v hlx hzx (hx.grown g))
  have HF2 := Lib.hid (fun w (g : W.grownBy w none) => few_any ys _ w u hly hzy (hy.grown g))
  have HTB := Lib.hid (fun w (g : W.grownBy w none) => tb.kept hT g)
  have HX := Lib.hid hx
  have HY := Lib.hid hy
  obtain ⟨a, ca, rfl⟩ := hx.shape
  obtain ⟨b, cb, rfl⟩ := hy.shape
  unfold maxLen at hk
  clear hx hy hT
  cases hf : fewE xs with
  | false =>
    rw [hf] at HF1
    clear HF2 hf
    go_enter Tryz.func5, Tryz.ntmps5
    go_wp2_with fail
    refine HA.out.mono ?_
    rintro e w1 ⟨rfl, g1⟩
    go_wp2_with fail
    refine (HF1.out _ g1).mono ?_
    rintro e w2 ⟨rfl, g2⟩
    go_wp2_with fail
    go_ret
    exact ⟨rfl, only_trans g1 g2⟩
  | true =>
    rw [hf] at HF1
    cases hf2 : fewE ys with
    | false =>
      rw [hf2] at HF2
      clear hf hf2
      go_enter Tryz.func5, Tryz.ntmps5
      go_wp2_with fail
      refine HA.out.mono ?_
      rintro e w1 ⟨rfl, g1⟩
      go_wp2_with fail
      refine (HF1.out _ g1).mono ?_
      rintro e w2 ⟨rfl, g2⟩
      have g12 := only_trans g1 g2
      clear g1 g2
      go_wp2_with fail
      refine (HF2.out _ g12).mono ?_
      rintro e w3 ⟨rfl, g3⟩
      go_wp2_with fail
      go_ret
      exact ⟨rfl, only_trans g12 g3⟩
    | true =>
      rw [hf2] at HF2
      obtain ⟨fx1, fx2⟩ := few_facts hf
      obtain ⟨fy1, fy2⟩ := few_facts hf2
      have ox1 := (ofD_small hf).1
      have hkx := key_small fx1 fx2
      have hky := key_small fy1 fy2
      have HOX := Lib.hid (fun w (g : W.grownBy w none) => of_any xs _ w _ (by omega) (fun x h => by have := fx2 x h; unfold maxLen; omega) (HTB.out w g) (HX.out.grown g))
      have HTX := Lib.hid (fun w (g : W.grownBy w none) => to_any xs _ w _ (by omega) (HX.out.grown g))
      have HTY := Lib.hid (fun w (g : W.grownBy w none) => to_any ys _ w _ (by omega) (HY.out.grown g))
      have HRO := Lib.hid (fun B w v h => rofD_any xs B w v (by omega) (fun x h => by have := fx2 x h; omega) h)
      have HGE := Lib.hid (fun w (g : W.grownBy w none) => get_any xs key _ w _ (by omega) (HX.out.grown g))
      have HKX := Lib.hid (fun B w v h => rkeyD_any xs B w v (by omega) (fun x h => by have := fx2 x h; omega) (by omega) h)
      have HKY := Lib.hid (fun B w v h => rkeyD_any ys B w v (by omega) (fun x h => by have := fy2 x h; omega) (by omega) h)
      have HDK := Lib.hid (fun w (g : W.grownBy w none) => key_any xs _ w _ (by omega) (fun x h => by have := fx2 x h; omega) (by omega) (HX.out.grown g))
      have HDC := Lib.hid (fun w (g : W.grownBy w none) => dcheck_any xs _ w _ (by omega) (fun x h => by have := fx2 x h; unfold maxLen; omega) (HTB.out w g) (HX.out.grown g))
      have HRC := Lib.hid (fun B w v h => rcheckD_any xs B w v (by omega) (fun x h => by have := fx2 x h; omega) h)
      have HCM := Lib.hid (fun w (g : W.grownBy w none) => dcmp_any xs ys _ w _ _ (by omega) (by omega) (fun x h => by have := fx2 x h; omega) (fun x h => by have := fy2 x h; omega) (by omega) (by omega) (HX.out.grown g) (HY.out.grown g))
      have hsx : (txt (keyD xs)).size ≤ 30000 := by rw [txt_size]; exact hkx
      have hsy : (txt (keyD ys)).size ≤ 30000 := by rw [txt_size]; exact hky
      have HLS := Lib.hid (fun w => rless12_any (txt (keyD xs)) (txt (keyD ys)) (by omega) (by omega) w)
      have hqx := ofD_lt xs
      have hcx := checkD_lt xs
      have HK0 := Lib.hid (beq_bytes (txt (keyD xs)) (txt (keyD ys)))
      have HCN := Lib.hid (cmpN_eq (txt (keyD xs)) (txt (keyD ys)))
      clear hf hf2 fx2 fy2 hlx hly hzx hzy hkx hky
      generalize ofD xs = RX at *
      obtain ⟨la, qa⟩ := RX
      simp only at ox1 HOX HRO hqx
      have HTL := Lib.hid (fun B w v (h : Es B w v la) => to_any la B w v (by omega) h)
      have HEQ := Lib.hid (fun B1 B2 w v u h h2 => sameR_any la B1 B2 w v u (by omega) h h2)
      generalize txt (keyD xs) = K at *
      generalize txt (keyD ys) = M at *
      generalize checkD xs = qc at *
      go_enter Tryz.func5, Tryz.ntmps5
      go_wp2_with fail
      refine HA.out.mono ?_
      rintro e w1 ⟨rfl, g1⟩
      have G1 := Lib.hid g1
      clear g1
      go_wp2_with fail
      refine (HF1.out _ G1.out).mono ?_
      rintro e w2 ⟨rfl, g2⟩
      have G2 := Lib.hid (only_trans G1.out g2)
      clear g2
      go_wp2_with fail
      refine (HF2.out _ G2.out).mono ?_
      rintro e w3 ⟨rfl, g3⟩
      have G3 := Lib.hid (only_trans G2.out g3)
      clear g3
      go_wp2_with fail
      refine (HOX.out _ G3.out).mono ?_
      rintro e w4 ⟨v4, rfl, e4, g4⟩
      have E4 := Lib.hid e4
      have G4 := Lib.hid (only_trans G3.out g4)
      obtain ⟨a4, c4, rfl⟩ := e4.shape
      clear e4 g4
      go_wp2_with fail
      refine (HTX.out _ G4.out).mono ?_
      rintro e w5 ⟨v5, rfl, o5, g5⟩
      have E45 := Lib.hid (E4.out.grown g5)
      have E5 := Lib.hid o5.es
      have G5 := Lib.hid (only_trans G4.out g5)
      obtain ⟨a5, c5, rfl⟩ := o5.es.shape
      clear o5 g5
      go_wp2_with fail
      refine (HRO.out _ _ _ E5.out).mono ?_
      rintro e w6 ⟨v6, rfl, e6, g6⟩
      have E6 := Lib.hid e6
      have E46 := Lib.hid (E45.out.grown g6)
      have G6 := Lib.hid (only_trans G5.out g6)
      obtain ⟨a6, c6, rfl⟩ := e6.shape
      clear e6 g6
      go_wp2_with fail
      have hne : ∀ j : Nat, ¬ ((j : Int) < 0) := fun j => by omega
      go_loopw [13, 14, 15] (fun vv vi q wr => ∃ j : Nat, j ≤ xs.length ∧ vv = .string (getD key (xs.drop j)).1 ∧ vi = .bool (getD key (xs.drop j)).2 ∧ q = .int .i64 ((j : Int) - 1) ∧ w6 = wr) (fun _ _ q _ => (intOf q + 1).toNat)
      case atStart => exact ⟨xs.length, Nat.le_refl _, by rw [List.drop_length]; rfl, by rw [List.drop_length]; rfl, rfl, rfl⟩
      case round =>
        obtain ⟨j, hj, rfl, rfl, rfl, rfl⟩ := hrel
        cases j with
        | succ n =>
          rw [show (((n + 1 : Nat) : Int) - 1) = (n : Int) by omega]
          obtain ⟨x, hx⟩ : ∃ x, xs[n]? = some x := ⟨xs[n]'(by omega), List.getElem?_eq_getElem (by omega)⟩
          obtain ⟨xb, xo, cx, hv, -, hle, hcm, c0, c1⟩ := (HX.out.grown G6.out).at hx
          simp only [Value.slice.injEq, true_and] at hv
          obtain ⟨rfl, rfl⟩ := hv
          unfold maxLen at hcm
          have HGA := Lib.hid (getD_at key hx)
          have hk0 := beq_bytes x.key key
          have hn1 : n < xs.length := by omega
          have hni : (0 : Int) ≤ (n : Int) := by omega
          clear hx
          by_cases hkk : x.key = key
          · have hkb : (x.key.toList == key.toList) = true := by rw [hk0]; simp [hkk]
            have HGB := Lib.hid (HGA.out.trans (if_pos hkk))
            clear hk0 hkk HGA
            go_wp2_with fail
            go_roundw
            case rel => exact ⟨n, by omega, by rw [HGB.out], by rw [HGB.out], by go_num, by first | rfl | trivial⟩
            case measure => simp [intOf] <;> omega
          · have hkb : (x.key.toList == key.toList) = false := by rw [hk0]; simp [hkk]
            have HGB := Lib.hid (HGA.out.trans (if_neg hkk))
            clear hk0 hkk HGA
            go_wp2_with fail
            go_roundw
            case rel => exact ⟨n, by omega, by rw [HGB.out], by rw [HGB.out], by go_num, by first | rfl | trivial⟩
            case measure => simp [intOf] <;> omega
        | zero =>
          rw [List.drop_zero]
          generalize getD key xs = gd at *
          obtain ⟨gv, gi⟩ := gd
          simp only at HGE
          rw [show (((0 : Nat) : Int) - 1) = -1 from rfl]
          go_wp2_with fail
          refine (HGE.out _ G6.out).mono ?_
          rintro e w7 ⟨rfl, g7⟩
          have G7 := Lib.hid (only_trans G6.out g7)
          have E47 := Lib.hid (E46.out.grown g7)
          have E67 := Lib.hid (E6.out.grown g7)
          clear g7
          go_wp2_with fail
          refine (HTX.out _ G7.out).mono ?_
          rintro e w8 ⟨v8, rfl, o8, g8⟩
          have E8 := Lib.hid o8.es
          have G8 := Lib.hid (only_trans G7.out g8)
          have E48 := Lib.hid (E47.out.grown g8)
          have E68 := Lib.hid (E67.out.grown g8)
          obtain ⟨a8, c8, rfl⟩ := o8.es.shape
          clear o8 g8
          go_wp2_with fail
          refine (HKX.out _ _ _ E8.out).mono ?_
          rintro e w9 ⟨rfl, g9⟩
          have G9 := Lib.hid (only_trans G8.out g9)
          have E49 := Lib.hid (E48.out.grown g9)
          have E69 := Lib.hid (E68.out.grown g9)
          clear g9
          go_wp2_with fail
          refine (HTY.out _ G9.out).mono ?_
          rintro e w10 ⟨v10, rfl, o10, g10⟩
          have E10 := Lib.hid o10.es
          have G10 := Lib.hid (only_trans G9.out g10)
          have E410 := Lib.hid (E49.out.grown g10)
          have E610 := Lib.hid (E69.out.grown g10)
          obtain ⟨a10, c10, rfl⟩ := o10.es.shape
          clear o10 g10
          go_wp2_with fail
          refine (HKY.out _ _ _ E10.out).mono ?_
          rintro e w11 ⟨rfl, g11⟩
          have G11 := Lib.hid (only_trans G10.out g11)
          have E411 := Lib.hid (E410.out.grown g11)
          have E611 := Lib.hid (E610.out.grown g11)
          clear g11
          have hc0 := HCN.out
          unfold cmpN at hc0
          by_cases hKM : K = M
          · have hkm : (K.toList == M.toList) = true := by rw [HK0.out]; simp [hKM]
            rw [if_pos hKM] at hc0
            rw [hc0] at HCM
            have X4 := Lib.hid E411.out
            have X6 := Lib.hid E611.out
            clear hKM hc0 HK0 HCN HLS
            go_wp2_with fail
            refine (HTL.out _ _ _ X4.out).mono ?_
            rintro e w12 ⟨v12, rfl, o12, g12⟩
            have E12 := Lib.hid o12.es
            have G12 := Lib.hid (only_trans G11.out g12)
            have E612 := Lib.hid (X6.out.grown g12)
            obtain ⟨a12, c12, rfl⟩ := o12.es.shape
            clear o12 g12
            go_wp2_with fail
            refine (HEQ.out _ _ _ _ _ E12.out E612.out).mono ?_
            rintro e w13 ⟨rfl, g13⟩
            have G13 := Lib.hid (only_trans G12.out g13)
            clear g13
            go_wp2_with fail
            refine (HDC.out _ G13.out).mono ?_
            rintro e w14 ⟨rfl, g14⟩
            have G14 := Lib.hid (only_trans G13.out g14)
            clear g14
            go_wp2_with fail
            refine (HTX.out _ G14.out).mono ?_
            rintro e w15 ⟨v15, rfl, o15, g15⟩
            have E15 := Lib.hid o15.es
            have G15 := Lib.hid (only_trans G14.out g15)
            obtain ⟨a15, c15, rfl⟩ := o15.es.shape
            clear o15 g15
            go_wp2_with fail
            refine (HRC.out _ _ _ E15.out).mono ?_
            rintro e w16 ⟨rfl, g16⟩
            have G16 := Lib.hid (only_trans G15.out g16)
            clear g16
            go_wp2_with fail
            refine (HDK.out _ G16.out).mono ?_
            rintro e w17 ⟨rfl, g17⟩
            have G17 := Lib.hid (only_trans G16.out g17)
            clear g17
            go_wp2_with fail
            refine (HTX.out _ G17.out).mono ?_
            rintro e w18 ⟨v18, rfl, o18, g18⟩
            have E18 := Lib.hid o18.es
            have G18 := Lib.hid (only_trans G17.out g18)
            obtain ⟨a18, c18, rfl⟩ := o18.es.shape
            clear o18 g18
            go_wp2_with fail
            refine (HKX.out _ _ _ E18.out).mono ?_
            rintro e w19 ⟨rfl, g19⟩
            have G19 := Lib.hid (only_trans G18.out g19)
            clear g19
            go_wp2_with fail
            refine (HCM.out _ G19.out).mono ?_
            rintro e w20 ⟨rfl, g20⟩
            have G20 := Lib.hid (only_trans G19.out g20)
            clear g20
            go_wp2_with fail
            go_ret
            exact ⟨rfl, G20.out⟩
          · have hkm : (K.toList == M.toList) = false := by rw [HK0.out]; simp [hKM]
            rw [if_neg hKM] at hc0
            by_cases hls : cmpB K M < 0
            · rw [if_pos hls] at hc0
              rw [hc0] at HCM HLS
              clear hKM hc0 hls HK0 HCN
              go_wp2_with fail
              refine (HLS.out _).mono ?_
              rintro e wz ⟨rfl, gz⟩
              have Gz := Lib.hid (only_trans G11.out gz)
              have X4 := Lib.hid (E411.out.grown gz)
              have X6 := Lib.hid (E611.out.grown gz)
              clear gz
              go_wp2_with fail
              refine (HTL.out _ _ _ X4.out).mono ?_
              rintro e w12 ⟨v12, rfl, o12, g12⟩
              have E12 := Lib.hid o12.es
              have G12 := Lib.hid (only_trans Gz.out g12)
              have E612 := Lib.hid (X6.out.grown g12)
              obtain ⟨a12, c12, rfl⟩ := o12.es.shape
              clear o12 g12
              go_wp2_with fail
              refine (HEQ.out _ _ _ _ _ E12.out E612.out).mono ?_
              rintro e w13 ⟨rfl, g13⟩
              have G13 := Lib.hid (only_trans G12.out g13)
              clear g13
              go_wp2_with fail
              refine (HDC.out _ G13.out).mono ?_
              rintro e w14 ⟨rfl, g14⟩
              have G14 := Lib.hid (only_trans G13.out g14)
              clear g14
              go_wp2_with fail
              refine (HTX.out _ G14.out).mono ?_
              rintro e w15 ⟨v15, rfl, o15, g15⟩
              have E15 := Lib.hid o15.es
              have G15 := Lib.hid (only_trans G14.out g15)
              obtain ⟨a15, c15, rfl⟩ := o15.es.shape
              clear o15 g15
              go_wp2_with fail
              refine (HRC.out _ _ _ E15.out).mono ?_
              rintro e w16 ⟨rfl, g16⟩
              have G16 := Lib.hid (only_trans G15.out g16)
              clear g16
              go_wp2_with fail
              refine (HDK.out _ G16.out).mono ?_
              rintro e w17 ⟨rfl, g17⟩
              have G17 := Lib.hid (only_trans G16.out g17)
              clear g17
              go_wp2_with fail
              refine (HTX.out _ G17.out).mono ?_
              rintro e w18 ⟨v18, rfl, o18, g18⟩
              have E18 := Lib.hid o18.es
              have G18 := Lib.hid (only_trans G17.out g18)
              obtain ⟨a18, c18, rfl⟩ := o18.es.shape
              clear o18 g18
              go_wp2_with fail
              refine (HKX.out _ _ _ E18.out).mono ?_
              rintro e w19 ⟨rfl, g19⟩
              have G19 := Lib.hid (only_trans G18.out g19)
              clear g19
              go_wp2_with fail
              refine (HCM.out _ G19.out).mono ?_
              rintro e w20 ⟨rfl, g20⟩
              have G20 := Lib.hid (only_trans G19.out g20)
              clear g20
              go_wp2_with fail
              go_ret
              exact ⟨rfl, G20.out⟩
            · rw [if_neg hls] at hc0
              rw [hc0] at HCM HLS
              clear hKM hc0 hls HK0 HCN
              go_wp2_with fail
              refine (HLS.out _).mono ?_
              rintro e wz ⟨rfl, gz⟩
              have Gz := Lib.hid (only_trans G11.out gz)
              have X4 := Lib.hid (E411.out.grown gz)
              have X6 := Lib.hid (E611.out.grown gz)
              clear gz
              go_wp2_with fail
              refine (HTL.out _ _ _ X4.out).mono ?_
              rintro e w12 ⟨v12, rfl, o12, g12⟩
              have E12 := Lib.hid o12.es
              have G12 := Lib.hid (only_trans Gz.out g12)
              have E612 := Lib.hid (X6.out.grown g12)
              obtain ⟨a12, c12, rfl⟩ := o12.es.shape
              clear o12 g12
              go_wp2_with fail
              refine (HEQ.out _ _ _ _ _ E12.out E612.out).mono ?_
              rintro e w13 ⟨rfl, g13⟩
              have G13 := Lib.hid (only_trans G12.out g13)
              clear g13
              go_wp2_with fail
              refine (HDC.out _ G13.out).mono ?_
              rintro e w14 ⟨rfl, g14⟩
              have G14 := Lib.hid (only_trans G13.out g14)
              clear g14
              go_wp2_with fail
              refine (HTX.out _ G14.out).mono ?_
              rintro e w15 ⟨v15, rfl, o15, g15⟩
              have E15 := Lib.hid o15.es
              have G15 := Lib.hid (only_trans G14.out g15)
              obtain ⟨a15, c15, rfl⟩ := o15.es.shape
              clear o15 g15
              go_wp2_with fail
              refine (HRC.out _ _ _ E15.out).mono ?_
              rintro e w16 ⟨rfl, g16⟩
              have G16 := Lib.hid (only_trans G15.out g16)
              clear g16
              go_wp2_with fail
              refine (HDK.out _ G16.out).mono ?_
              rintro e w17 ⟨rfl, g17⟩
              have G17 := Lib.hid (only_trans G16.out g17)
              clear g17
              go_wp2_with fail
              refine (HTX.out _ G17.out).mono ?_
              rintro e w18 ⟨v18, rfl, o18, g18⟩
              have E18 := Lib.hid o18.es
              have G18 := Lib.hid (only_trans G17.out g18)
              obtain ⟨a18, c18, rfl⟩ := o18.es.shape
              clear o18 g18
              go_wp2_with fail
              refine (HKX.out _ _ _ E18.out).mono ?_
              rintro e w19 ⟨rfl, g19⟩
              have G19 := Lib.hid (only_trans G18.out g19)
              clear g19
              go_wp2_with fail
              refine (HCM.out _ G19.out).mono ?_
              rintro e w20 ⟨rfl, g20⟩
              have G20 := Lib.hid (only_trans G19.out g20)
              clear g20
              go_wp2_with fail
              go_ret
              exact ⟨rfl, G20.out⟩

end Go.Proofs.YtccmbackcabfeaaGreatDoor.law12
