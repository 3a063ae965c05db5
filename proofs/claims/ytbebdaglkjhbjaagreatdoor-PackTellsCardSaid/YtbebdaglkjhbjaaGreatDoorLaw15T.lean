/-
  The statement PackTells.
-/
import Derived.Test.YtbebdaglkjhbjaaGreatDoorLaw15B
namespace Go.Proofs.YtbebdaglkjhbjaaGreatDoor.law15
open Go.RowKit Go.Proofs.YtbebdaglkjhbjaaGreatDoor.vi Go.Proofs.YtbebdaglkjhbjaaGreatDoor.um Go.Proofs.YtbebdaglkjhbjaaGreatDoor.wm Go.Proofs.YtbebdaglkjhbjaaGreatDoor.tr Go.Proofs.YtbebdaglkjhbjaaGreatDoor.em Go.Proofs.YtbebdaglkjhbjaaGreatDoor.rm Go.Proofs.YtbebdaglkjhbjaaGreatDoor.crc Go.Proofs.YtbebdaglkjhbjaaGreatDoor.cur Go.Proofs.YtbebdaglkjhbjaaGreatDoor.law11 Go.Proofs.YtbebdaglkjhbjaaGreatDoor.dd Go.Proofs.YtbebdaglkjhbjaaGreatDoor.dr Go.Proofs.YtbebdaglkjhbjaaGreatDoor.tm Go.Proofs.YtbebdaglkjhbjaaGreatDoor.tf Go.Proofs.YtbebdaglkjhbjaaGreatDoor.ti Go.Proofs.YtbebdaglkjhbjaaGreatDoor.rr Go.Proofs.YtbebdaglkjhbjaaGreatDoor.pk Go.Proofs.YtbebdaglkjhbjaaGreatDoor.kr Go.Proofs.YtbebdaglkjhbjaaGreatDoor.law13
set_option linter.unusedVariables false
set_option linter.unusedSimpArgs false

theorem next_fit (L : Bs) : (nextK L).1.length ≤ 256 ∧ ∀ r ∈ (nextK L).1, Fit r := by
  by_cases h : (nextK L).2.2 = 0
  · obtain ⟨h1, h2, h3⟩ := nextK_ok h
    obtain ⟨k1, k2, -⟩ := (checkT_ok _).1 h2
    exact ⟨k1, fun r hr => ti.fit_ok (k2 r hr) (h3 r hr)⟩
  · rw [(nextK_err h).1]
    simp
theorem get_fit (L : Bs) : (getK L).1.length ≤ 256 ∧ ∀ r ∈ (getK L).1, Fit r := by
  have := next_fit L
  unfold getK
  split
  · simp
  split
  · simp
  · exact this

set_option maxHeartbeats 8000000 in
set_option maxRecDepth 100000 in
theorem tells_any (W : World) (hT : tb.Tab W) (xs : List Rw) (SA : Nat → Prop) (va : Value) (s : ByteArray) (hl : xs.length ≤ 140737488351232) (hz : ∀ r ∈ xs, Bul r) (hs : s.size ≤ maxLen) (h : Rs SA W va xs) :
    Calls Tryz.prog 3 #[va, .string s] W fun e w' => e = .returned (.bool true) ∧ W.grownBy w' none := by
  have HA := Lib.hid (awake_any W hT)
  have HF := Lib.hid (fun w (g : W.grownBy w none) => law13.few_any xs SA w va hl (fun r hr => ⟨(hz r hr).1, (hz r hr).2.1⟩) (h.grown g))
  have HT := Lib.hid (fun w (g : W.grownBy w none) => tb.kept hT g)
  have RA := Lib.hid (fun w (g : W.grownBy w none) => h.grown g)
  have BA := Lib.hid hz
  unfold maxLen at hs
  obtain ⟨aa, ca, rfl⟩ := h.shape
  clear h hz hT
  cases hf : fewT xs with
  | false =>
    rw [hf] at HF
    go_enter Tryz.func3, Tryz.ntmps3
    go_wp2_with fail
    refine HA.out.mono ?_
    rintro e w1 ⟨rfl, g1⟩
    have G1 := Lib.hid g1
    clear g1
    go_wp2_with fail
    refine (HF.out _ G1.out).mono ?_
    rintro e w2 ⟨rfl, g2⟩
    go_wp2_with fail
    go_ret
    exact ⟨rfl, only_trans G1.out g2⟩
  | true =>
    rw [hf] at HF
    by_cases hb : (6000 : Int) < s.size
    · go_enter Tryz.func3, Tryz.ntmps3
      go_wp2_with fail
      refine HA.out.mono ?_
      rintro e w1 ⟨rfl, g1⟩
      have G1 := Lib.hid g1
      clear g1
      go_wp2_with fail
      refine (HF.out _ G1.out).mono ?_
      rintro e w2 ⟨rfl, g2⟩
      go_wp2_with fail
      go_ret
      exact ⟨rfl, only_trans G1.out g2⟩
    · have OK := Lib.hid (few_rok hf BA.out)
      have FI := Lib.hid (few_fit hf BA.out)
      have lA := (few_facts hf).1
      have HP := Lib.hid (fun w (g : W.grownBy w none) => ka.put_any xs SA w _ (by unfold maxLen; omega) OK.out (HT.out w g) (RA.out w g))
      have HTO := Lib.hid (fun w (g : W.grownBy w none) => tor_any xs SA w _ lA FI.out (RA.out w g))
      have HRP := Lib.hid (fun S w v (h : Rs S w v xs) => rputK_any xs S w v (by omega) FI.out h)
      have HG := Lib.hid (fun w (g : W.grownBy w none) => ka.get_any s w (by omega) (HT.out w g))
      have HRG := Lib.hid (fun w => rgetK_any s (by omega) w)
      have HN := Lib.hid (fun w (g : W.grownBy w none) => ka.next_any w _ w.heap.size s 0 (by omega) (HT.out w g) (only_alloc (only_refl w none) (.cells #[.string s, .int .i64 0] 100)) (Nat.le_refl _) (Cur.new s (by unfold maxLen; omega) w))
      rw [List.drop_zero] at HN
      have HRN := Lib.hid (fun w => rnextK_any s (by omega) w)
      have HNN := Lib.hid (fun w => ka.next_nil w)
      have hgl := getK_lt s.data.toList
      have hnl := nextK_lt s.data.toList
      have hpl := putK_lt xs
      obtain ⟨fg1, fg2⟩ := get_fit s.data.toList
      obtain ⟨fn1, fn2⟩ := next_fit s.data.toList
      have FG := Lib.hid fg2
      have FN := Lib.hid fn2
      generalize putK xs = P at *
      generalize getK s.data.toList = G at *
      generalize nextK s.data.toList = N at *
      obtain ⟨px1, pq⟩ := P
      obtain ⟨gl, gq⟩ := G
      obtain ⟨nl, nr, nq⟩ := N
      simp only at HP HRP HG HRG HN HRN hgl hnl hpl fg1 fn1 FG FN
      have HTG := Lib.hid (fun S w v (h : Rs S w v gl) => tor_any gl S w v (by omega) FG.out h)
      have HTN := Lib.hid (fun S w v (h : Rs S w v nl) => tor_any nl S w v (by omega) FN.out h)
      have HSG := Lib.hid (fun S T w v u (h : Rs S w v gl) (h2 : Rs T w u gl) => rsd_any gl gl S T w v u (by omega) (by omega) FG.out FG.out h h2)
      have HSN := Lib.hid (fun S T w v u (h : Rs S w v nl) (h2 : Rs T w u nl) => rsd_any nl nl S T w v u (by omega) (by omega) FN.out FN.out h h2)
      rw [decide_eq_true rfl] at HSG HSN
      have hbe : ((txt px1).toList == (txt px1).toList) = true := by simp
      generalize txt px1 = TP at *
      clear fg2 fn2 hf BA lA
      go_enter Tryz.func3, Tryz.ntmps3
      go_wp2_with fail
      refine HA.out.mono ?_
      rintro e w1 ⟨rfl, g1⟩
      have G1 := Lib.hid g1
      clear g1
      go_wp2_with fail
      refine (HF.out _ G1.out).mono ?_
      rintro e w2 ⟨rfl, g2⟩
      have G2 := Lib.hid (only_trans G1.out g2)
      clear g2
      go_wp2_with fail
      refine (HP.out _ G2.out).mono ?_
      rintro e w3 ⟨rfl, g3⟩
      have G3 := Lib.hid (only_trans G2.out g3)
      clear g3
      go_wp2_with fail
      refine (HTO.out _ G3.out).mono ?_
      rintro e w4 ⟨v4, rfl, r4, g4⟩
      have G4 := Lib.hid (only_trans G3.out g4)
      have R4 := Lib.hid r4
      obtain ⟨a4, c4, rfl⟩ := r4.shape
      clear r4 g4
      go_wp2_with fail
      refine (HRP.out _ _ _ R4.out).mono ?_
      rintro e w5 ⟨rfl, g5⟩
      have G5 := Lib.hid (only_trans G4.out g5)
      clear g5
      go_wp2_with fail
      refine (HG.out _ G5.out).mono ?_
      rintro e w6 ⟨v6, rfl, ⟨T6, o6, -⟩, g6⟩
      have G6 := Lib.hid (only_trans G5.out g6)
      have RT6 := Lib.hid o6.rd
      obtain ⟨a6, c6, rfl⟩ := o6.rd.shape
      clear o6 g6
      go_wp2_with fail
      refine (HRG.out _).mono ?_
      rintro e w7 ⟨v7, rfl, ⟨T7, o7, -⟩, g7⟩
      have G7 := Lib.hid (only_trans G6.out g7)
      have RT7 := Lib.hid (RT6.out.grown g7)
      have RU7 := Lib.hid o7.rd
      obtain ⟨a7, c7, rfl⟩ := o7.rd.shape
      clear o7 g7
      go_wp2_with fail
      refine (over_any s w7).mono ?_
      rintro e w8 ⟨rfl, rfl⟩
      have HN8 := Lib.hid (HN.out w7 G7.out)
      have GA8 := only_alloc (only_refl w7 none) (.cells #[.string s, .int .i64 0] 100)
      have RT8 := Lib.hid (RT7.out.grown GA8)
      have RU8 := Lib.hid (RU7.out.grown GA8)
      have G8 := Lib.hid (only_trans G7.out GA8)
      clear GA8
      go_wp2_with fail
      refine HN8.out.mono ?_
      rintro e w9 ⟨k9, v9, rfl, c9, ⟨T9, o9, -⟩, hk9, g9⟩
      have g9n := only_new (only_alloc (only_refl w7 none) (.cells #[.string s, .int .i64 0] 100)) g9 (Nat.le_refl _)
      have C9 := Lib.hid c9
      have HK9 := Lib.hid hk9
      have G9 := Lib.hid (only_trans G7.out g9n)
      have RT9 := Lib.hid (RT7.out.grown g9n)
      have RU9 := Lib.hid (RU7.out.grown g9n)
      have RX9 := Lib.hid o9.rd
      obtain ⟨a9, cc9, rfl⟩ := o9.rd.shape
      clear c9 o9 hk9 g9 g9n
      go_wp2_with fail
      refine (HRN.out _).mono ?_
      rintro e w10 ⟨v10, rfl, ⟨T10, o10, -⟩, g10⟩
      have G10 := Lib.hid (only_trans G9.out g10)
      have C10 := Lib.hid (C9.out.kept g10 (by simp))
      have RT10 := Lib.hid (RT9.out.grown g10)
      have RU10 := Lib.hid (RU9.out.grown g10)
      have RX10 := Lib.hid (RX9.out.grown g10)
      have RY10 := Lib.hid o10.rd
      obtain ⟨a10, c10, rfl⟩ := o10.rd.shape
      clear o10 g10
      go_wp2_with fail
      refine (HNN.out _).mono ?_
      rintro e w11 ⟨rfl, rfl⟩
      have hpq : ((pq : Int) == (pq : Int)) = true := by simp
      have hgq : ((gq : Int) == (gq : Int)) = true := by simp
      have hnq : ((nq : Int) == (nq : Int)) = true := by simp
      go_wp2_with fail
      refine (HTG.out _ _ _ RT10.out).mono ?_
      rintro e w12 ⟨v12, rfl, r12, g12⟩
      have G12 := Lib.hid (only_trans G10.out g12)
      have C12 := Lib.hid (C10.out.kept g12 (by simp))
      have RU12 := Lib.hid (RU10.out.grown g12)
      have RX12 := Lib.hid (RX10.out.grown g12)
      have RY12 := Lib.hid (RY10.out.grown g12)
      have R12 := Lib.hid r12
      obtain ⟨a12, c12, rfl⟩ := r12.shape
      clear r12 g12
      go_wp2_with fail
      refine (HSG.out _ _ _ _ _ R12.out RU12.out).mono ?_
      rintro e w13 ⟨rfl, g13⟩
      have G13 := Lib.hid (only_trans G12.out g13)
      have C13 := Lib.hid (C12.out.kept g13 (by simp))
      have RX13 := Lib.hid (RX12.out.grown g13)
      have RY13 := Lib.hid (RY12.out.grown g13)
      clear g13
      go_wp2_with fail
      refine (HTN.out _ _ _ RX13.out).mono ?_
      rintro e w14 ⟨v14, rfl, r14, g14⟩
      have G14 := Lib.hid (only_trans G13.out g14)
      have C14 := Lib.hid (C13.out.kept g14 (by simp))
      have RY14 := Lib.hid (RY13.out.grown g14)
      have R14 := Lib.hid r14
      obtain ⟨a14, c14, rfl⟩ := r14.shape
      clear r14 g14
      go_wp2_with fail
      refine (HSN.out _ _ _ _ _ R14.out RY14.out).mono ?_
      rintro e w15 ⟨rfl, g15⟩
      have G15 := Lib.hid (only_trans G14.out g15)
      have C15 := Lib.hid (C14.out.kept g15 (by simp))
      clear g15
      by_cases hq : nq = 0
      · subst hq
        have hrest : txt nr = s.extract k9 s.size := by rw [← txt_rest]; exact congrArg txt (HK9.out (by first | rfl | trivial)).symm
        have hb2 : ((s.extract k9 s.size).toList == (txt nr).toList) = true := by rw [hrest]; simp
        clear HK9 hrest
        generalize txt nr = TR at *
        go_wp2_with fail
        refine (rest_some C15.out).mono ?_
        rintro e w16 ⟨rfl, n0, rfl⟩
        go_wp2_with fail
        go_ret
        exact ⟨rfl, only_drewN G15.out n0⟩
      · have hqb : ((nq : Int) == 0) = false := by rw [beq_eq_false_iff_ne]; omega
        have hqn : ((nq : Int) != 0) = true := by rw [bne_iff_ne]; omega
        clear HK9
        go_wp2_with fail
        go_ret
        exact ⟨rfl, G15.out⟩

end Go.Proofs.YtbebdaglkjhbjaaGreatDoor.law15
