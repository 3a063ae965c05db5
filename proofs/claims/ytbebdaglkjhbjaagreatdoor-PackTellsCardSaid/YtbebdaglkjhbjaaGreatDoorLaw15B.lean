/-
  The statement PackBack.
-/
import Derived.Test.YtbebdaglkjhbjaaGreatDoorLaw15
namespace Go.Proofs.YtbebdaglkjhbjaaGreatDoor.law15
open Go.RowKit Go.Proofs.YtbebdaglkjhbjaaGreatDoor.vi Go.Proofs.YtbebdaglkjhbjaaGreatDoor.um Go.Proofs.YtbebdaglkjhbjaaGreatDoor.wm Go.Proofs.YtbebdaglkjhbjaaGreatDoor.tr Go.Proofs.YtbebdaglkjhbjaaGreatDoor.em Go.Proofs.YtbebdaglkjhbjaaGreatDoor.rm Go.Proofs.YtbebdaglkjhbjaaGreatDoor.crc Go.Proofs.YtbebdaglkjhbjaaGreatDoor.cur Go.Proofs.YtbebdaglkjhbjaaGreatDoor.law11 Go.Proofs.YtbebdaglkjhbjaaGreatDoor.dd Go.Proofs.YtbebdaglkjhbjaaGreatDoor.dr Go.Proofs.YtbebdaglkjhbjaaGreatDoor.tm Go.Proofs.YtbebdaglkjhbjaaGreatDoor.tf Go.Proofs.YtbebdaglkjhbjaaGreatDoor.ti Go.Proofs.YtbebdaglkjhbjaaGreatDoor.rr Go.Proofs.YtbebdaglkjhbjaaGreatDoor.pk Go.Proofs.YtbebdaglkjhbjaaGreatDoor.kr Go.Proofs.YtbebdaglkjhbjaaGreatDoor.law13
set_option linter.unusedVariables false
set_option linter.unusedSimpArgs false

/-- How long a table of few rows is, as it is written. -/
theorem rowsK_len (K : Nat) (hK : K ≤ 1000000) : ∀ (t : List Rw) (a : Bs), (∀ r ∈ t, (key r).length ≤ K ∧ r.n < 18446744073709551616) → (rowsK a t).length ≤ t.length * (K + 30)
  | [], a, _ => by simp [rowsK]
  | x :: r, a, h => by
    have h1 := h x (by simp)
    have h2 := rowK_len a x K h1.1 hK h1.2
    have h3 := rowsK_len K hK r (key x) fun y hy => h y (by simp [hy])
    simp only [rowsK, List.length_append, List.length_cons]
    rw [Nat.add_mul]
    omega
theorem few_text {xs : List Rw} (h : fewT xs = true) (hz : ∀ r ∈ xs, Bul r) (hc : checkT xs = 0) : (textK xs).length ≤ 400000 := by
  obtain ⟨h1, h2⟩ := few_facts h
  obtain ⟨c1, c2, -⟩ := (checkT_ok _).1 hc
  have he := enc_len_ten (n := xs.length) (by omega)
  unfold textK
  rw [List.length_append]
  by_cases h40 : xs.length ≤ 40
  · have hk : ∀ r ∈ xs, (key r).length ≤ 9930 ∧ r.n < 18446744073709551616 := fun r hr => by
      refine ⟨?_, (hz r hr).2.2⟩
      have hd := ((checkD_ok _).1 (rowE_pos (c2 r hr)).1).2.1
      have hp := law12.puts_len (l := r.d) (fun x hx => by have := (h2 r hr).2 x hx; omega)
      have he2 := enc_len_ten (n := r.d.length) (by omega)
      show (keyD r.d).length ≤ _
      unfold keyD
      rw [List.length_append]
      omega
    have := rowsK_len 9930 (by omega) xs [] hk
    omega
  · have hk : ∀ r ∈ xs, (key r).length ≤ 100 ∧ r.n < 18446744073709551616 := fun r hr => by
      refine ⟨?_, (hz r hr).2.2⟩
      unfold fewT at h
      rw [Bool.and_eq_true, List.all_eq_true] at h
      have := h.1 r hr
      unfold fewR at this
      rw [Bool.and_eq_true, Bool.or_eq_true, decide_eq_true_eq, decide_eq_true_eq] at this
      rcases this.2 with h9 | h9
      · omega
      · exact h9
    have := rowsK_len 100 (by omega) xs [] hk
    omega
theorem good_rok {l : List Rw} (h : checkT l = 0) (hn : ∀ r ∈ l, r.n < 18446744073709551616) : ∀ r ∈ l, Rok r := fun r hr => by
  obtain ⟨h1, -⟩ := rowE_pos (((checkT_ok _).1 h).2.1 r hr)
  have h2 := (checkD_ok _).1 h1
  refine ⟨by have := h2.2.1; omega, fun x hx => ?_, hn r hr⟩
  have := checkE_small (h2.2.2.1 x hx)
  unfold maxLen
  omega

/-- What is read of any text. -/
theorem get_facts (L : Bs) : ((getK L).2 = 0 → putK (getK L).1 = (L, 0) ∧ checkT (getK L).1 = 0 ∧ ∀ r ∈ (getK L).1, r.n < 18446744073709551616) ∧ ((getK L).2 ≠ 0 → (getK L).1 = []) := by
  refine ⟨fun h => ?_, getK_err⟩
  obtain ⟨h1, h2⟩ := getK_ok h
  refine ⟨h1, ?_, h2⟩
  unfold putK at h1
  split at h1
  · rename_i h3
    have := congrArg Prod.snd h1
    exact absurd this h3
  · rename_i h3
    simpa using h3

set_option maxHeartbeats 8000000 in
set_option maxRecDepth 100000 in
theorem back_any (W : World) (hT : tb.Tab W) (xs : List Rw) (SA : Nat → Prop) (va : Value) (s : ByteArray) (hl : xs.length ≤ 140737488351232) (hz : ∀ r ∈ xs, Bul r) (hs : s.size ≤ maxLen) (h : Rs SA W va xs) :
    Calls Tryz.prog 4 #[va, .string s] W fun e w' => e = .returned (.bool true) ∧ W.grownBy w' none := by
  have HA := Lib.hid (awake_any W hT)
  have HF := Lib.hid (fun w (g : W.grownBy w none) => law13.few_any xs SA w va hl (fun r hr => ⟨(hz r hr).1, (hz r hr).2.1⟩) (h.grown g))
  have HT := Lib.hid (fun w (g : W.grownBy w none) => tb.kept hT g)
  have RA := Lib.hid (fun w (g : W.grownBy w none) => h.grown g)
  have BA := Lib.hid hz
  unfold maxLen at hs
  obtain ⟨aa, ca, rfl⟩ := h.shape
  clear h hz hT
  cases hf : fewT xs with
  | false =>
    rw [hf] at HF
    go_enter Tryz.func4, Tryz.ntmps4
    go_wp2_with fail
    refine HA.out.mono ?_
    rintro e w1 ⟨rfl, g1⟩
    have G1 := Lib.hid g1
    clear g1
    go_wp2_with fail
    refine (HF.out _ G1.out).mono ?_
    rintro e w2 ⟨rfl, g2⟩
    go_wp2_with fail
    go_ret
    exact ⟨rfl, only_trans G1.out g2⟩
  | true =>
    rw [hf] at HF
    by_cases hb : (6000 : Int) < s.size
    · go_enter Tryz.func4, Tryz.ntmps4
      go_wp2_with fail
      refine HA.out.mono ?_
      rintro e w1 ⟨rfl, g1⟩
      have G1 := Lib.hid g1
      clear g1
      go_wp2_with fail
      refine (HF.out _ G1.out).mono ?_
      rintro e w2 ⟨rfl, g2⟩
      go_wp2_with fail
      go_ret
      exact ⟨rfl, only_trans G1.out g2⟩
    · have OK := Lib.hid (few_rok hf BA.out)
      have FI := Lib.hid (few_fit hf BA.out)
      have lA := (few_facts hf).1
      have HP := Lib.hid (fun w (g : W.grownBy w none) => ka.put_any xs SA w _ (by unfold maxLen; omega) OK.out (HT.out w g) (RA.out w g))
      have HPX : Hid (putK xs = if checkT xs ≠ 0 then ([], checkT xs) else (textK xs, 0)) := rfl
      have hcl := checkT_lt xs
      have HTL := Lib.hid (few_text hf BA.out)
      have HGP := Lib.hid (fun (h : checkT xs = 0) => getK_put h (fun x hx => ⟨(FI.out x hx).2.2.2, by have := (FI.out x hx).2.2.1; show (keyD x.d).length < _; omega⟩))
      have HGM := Lib.hid (fun (h : checkT xs = 0) => getK_more h (fun x hx => ⟨(FI.out x hx).2.2.2, by have := (FI.out x hx).2.2.1; show (keyD x.d).length < _; omega⟩) (r := [120]) (by simp))
      have HGS := Lib.hid (fun w (g : W.grownBy w none) => ka.get_any s w (by omega) (HT.out w g))
      have HGF := Lib.hid (get_facts s.data.toList)
      have hgl := getK_lt s.data.toList
      have hto := Lib.hid (txt_of s)
      have HSA := Lib.hid (fun S w v (h1 : Rs S w v xs) (g : W.grownBy w none) => same_any xs xs S SA w v _ (by omega) (fun r hr => by have := (FI.out r hr).1; omega) h1 (RA.out w g))
      rw [decide_eq_true rfl] at HSA
      generalize getK s.data.toList = PG at *
      obtain ⟨l, q⟩ := PG
      simp only at HGS HGF hgl
      -- the second half
      have TAIL : Hid (∀ w (g : W.grownBy w none), True) := fun _ _ => trivial
      by_cases hq : q = 0
      · subst hq
        obtain ⟨hp1, hp2, hp3⟩ := HGF.out.1 rfl
        have HPL := Lib.hid (fun S w v (h1 : Rs S w v l) (g : W.grownBy w none) => ka.put_any l S w v (by have := ((checkT_ok _).1 hp2).1; unfold maxLen; omega) (good_rok hp2 hp3) (HT.out w g) h1)
        rw [hp1] at HPL
        simp only [txt_of] at HPL
        have HCL := Lib.hid (fun S w v (h1 : Rs S w v l) (g : W.grownBy w none) => tcheck_any l S w v (by have := ((checkT_ok _).1 hp2).1; unfold maxLen; omega) (good_rok hp2 hp3) (HT.out w g) h1)
        rw [hp2] at HCL
        have hbe : (s.toList == s.toList) = true := by simp
        clear HGF hp1 hp2 hp3 hto
        by_cases hc : checkT xs = 0
        · rw [HPX.out, if_neg (by simp [hc])] at HP
          have htl := HTL.out hc
          have HG1 := Lib.hid (fun w (g : W.grownBy w none) => ka.get_any (txt (textK xs)) w (by rw [txt_size]; omega) (HT.out w g))
          rw [txt_list, HGP.out hc] at HG1
          have HG2 := Lib.hid (fun w (g : W.grownBy w none) => ka.get_any (txt (textK xs ++ [120])) w (by rw [txt_size]; simp; omega) (HT.out w g))
          rw [txt_list, HGM.out hc] at HG2
          have HCC : Hid (txt (textK xs) ++ ⟨#[120]⟩ = txt (textK xs ++ [120])) := by show _ = _; apply ByteArray.ext; simp [txt]
          have hz1 : (txt (textK xs)).size ≤ 400000 := by rw [txt_size]; omega
          clear HPX HGP HGM HTL hf hc
          generalize textK xs = X at *
          go_enter Tryz.func4, Tryz.ntmps4
          go_wp2_with fail
          refine HA.out.mono ?_
          rintro e w1 ⟨rfl, g1⟩
          have G1 := Lib.hid g1
          clear g1
          go_wp2_with fail
          refine (HF.out _ G1.out).mono ?_
          rintro e w2 ⟨rfl, g2⟩
          have G2 := Lib.hid (only_trans G1.out g2)
          clear g2
          go_wp2_with fail
          refine (HP.out _ G2.out).mono ?_
          rintro e w3 ⟨rfl, g3⟩
          have G3 := Lib.hid (only_trans G2.out g3)
          clear g3
          go_wp2_with fail
          refine (HG1.out _ G3.out).mono ?_
          rintro e w4 ⟨v4, rfl, ⟨T4, o4, -⟩, g4⟩
          have G4 := Lib.hid (only_trans G3.out g4)
          have O4 := Lib.hid o4.rd
          obtain ⟨a4, c4, rfl⟩ := o4.rd.shape
          clear o4 g4
          go_wp2_with fail
          rw [HCC.out]
          refine (HG2.out _ G4.out).mono ?_
          rintro e w5 ⟨v5, rfl, ⟨T5, o5, -⟩, g5⟩
          have G5 := Lib.hid (only_trans G4.out g5)
          have O5 := Lib.hid (O4.out.grown g5)
          obtain ⟨a5, c5, rfl⟩ := o5.rd.shape
          clear o5 g5
          go_wp2_with fail
          refine (HSA.out _ _ _ O5.out G5.out).mono ?_
          rintro e w6 ⟨rfl, g6⟩
          have G6 := Lib.hid (only_trans G5.out g6)
          clear g6
          go_wp2_with fail
          refine (HGS.out _ G6.out).mono ?_
          rintro e w7 ⟨v7, rfl, ⟨T7, o7, -⟩, g7⟩
          have G7 := Lib.hid (only_trans G6.out g7)
          have O7 := Lib.hid o7.rd
          obtain ⟨a7, c7, rfl⟩ := o7.rd.shape
          clear o7 g7
          go_wp2_with fail
          refine (HPL.out _ _ _ O7.out G7.out).mono ?_
          rintro e w8 ⟨rfl, g8⟩
          have G8 := Lib.hid (only_trans G7.out g8)
          have O8 := Lib.hid (O7.out.grown g8)
          clear g8
          go_wp2_with fail
          refine (HCL.out _ _ _ O8.out G8.out).mono ?_
          rintro e w9 ⟨rfl, g9⟩
          have G9 := Lib.hid (only_trans G8.out g9)
          clear g9
          go_wp2_with fail
          go_ret
          exact ⟨rfl, G9.out⟩
        · rw [HPX.out, if_pos hc] at HP
          have hqb : ((checkT xs : Int) == 0) = false := by rw [beq_eq_false_iff_ne]; omega
          clear HPX HGP HGM HTL hf hc
          generalize checkT xs = ck at *
          go_enter Tryz.func4, Tryz.ntmps4
          go_wp2_with fail
          refine HA.out.mono ?_
          rintro e w1 ⟨rfl, g1⟩
          have G1 := Lib.hid g1
          clear g1
          go_wp2_with fail
          refine (HF.out _ G1.out).mono ?_
          rintro e w2 ⟨rfl, g2⟩
          have G2 := Lib.hid (only_trans G1.out g2)
          clear g2
          go_wp2_with fail
          refine (HP.out _ G2.out).mono ?_
          rintro e w3 ⟨rfl, g3⟩
          have G6 := Lib.hid (only_trans G2.out g3)
          clear g3
          go_wp2_with fail
          refine (HGS.out _ G6.out).mono ?_
          rintro e w7 ⟨v7, rfl, ⟨T7, o7, -⟩, g7⟩
          have G7 := Lib.hid (only_trans G6.out g7)
          have O7 := Lib.hid o7.rd
          obtain ⟨a7, c7, rfl⟩ := o7.rd.shape
          clear o7 g7
          go_wp2_with fail
          refine (HPL.out _ _ _ O7.out G7.out).mono ?_
          rintro e w8 ⟨rfl, g8⟩
          have G8 := Lib.hid (only_trans G7.out g8)
          have O8 := Lib.hid (O7.out.grown g8)
          clear g8
          go_wp2_with fail
          refine (HCL.out _ _ _ O8.out G8.out).mono ?_
          rintro e w9 ⟨rfl, g9⟩
          have G9 := Lib.hid (only_trans G8.out g9)
          clear g9
          go_wp2_with fail
          go_ret
          exact ⟨rfl, G9.out⟩
      · have hl0 : l = [] := HGF.out.2 hq
        subst hl0
        have hqn : ((q : Int) != 0) = true := by rw [bne_iff_ne]; omega
        clear HGF hto
        by_cases hc : checkT xs = 0
        · rw [HPX.out, if_neg (by simp [hc])] at HP
          have htl := HTL.out hc
          have HG1 := Lib.hid (fun w (g : W.grownBy w none) => ka.get_any (txt (textK xs)) w (by rw [txt_size]; omega) (HT.out w g))
          rw [txt_list, HGP.out hc] at HG1
          have HG2 := Lib.hid (fun w (g : W.grownBy w none) => ka.get_any (txt (textK xs ++ [120])) w (by rw [txt_size]; simp; omega) (HT.out w g))
          rw [txt_list, HGM.out hc] at HG2
          have HCC : Hid (txt (textK xs) ++ ⟨#[120]⟩ = txt (textK xs ++ [120])) := by show _ = _; apply ByteArray.ext; simp [txt]
          have hz1 : (txt (textK xs)).size ≤ 400000 := by rw [txt_size]; omega
          clear HPX HGP HGM HTL hf hc
          generalize textK xs = X at *
          go_enter Tryz.func4, Tryz.ntmps4
          go_wp2_with fail
          refine HA.out.mono ?_
          rintro e w1 ⟨rfl, g1⟩
          have G1 := Lib.hid g1
          clear g1
          go_wp2_with fail
          refine (HF.out _ G1.out).mono ?_
          rintro e w2 ⟨rfl, g2⟩
          have G2 := Lib.hid (only_trans G1.out g2)
          clear g2
          go_wp2_with fail
          refine (HP.out _ G2.out).mono ?_
          rintro e w3 ⟨rfl, g3⟩
          have G3 := Lib.hid (only_trans G2.out g3)
          clear g3
          go_wp2_with fail
          refine (HG1.out _ G3.out).mono ?_
          rintro e w4 ⟨v4, rfl, ⟨T4, o4, -⟩, g4⟩
          have G4 := Lib.hid (only_trans G3.out g4)
          have O4 := Lib.hid o4.rd
          obtain ⟨a4, c4, rfl⟩ := o4.rd.shape
          clear o4 g4
          go_wp2_with fail
          rw [HCC.out]
          refine (HG2.out _ G4.out).mono ?_
          rintro e w5 ⟨v5, rfl, ⟨T5, o5, -⟩, g5⟩
          have G5 := Lib.hid (only_trans G4.out g5)
          have O5 := Lib.hid (O4.out.grown g5)
          obtain ⟨a5, c5, rfl⟩ := o5.rd.shape
          clear o5 g5
          go_wp2_with fail
          refine (HSA.out _ _ _ O5.out G5.out).mono ?_
          rintro e w6 ⟨rfl, g6⟩
          have G6 := Lib.hid (only_trans G5.out g6)
          clear g6
          go_wp2_with fail
          refine (HGS.out _ G6.out).mono ?_
          rintro e w7 ⟨v7, rfl, ⟨T7, o7, -⟩, g7⟩
          have G7 := Lib.hid (only_trans G6.out g7)
          obtain ⟨a7, c7, rfl⟩ := o7.rd.shape
          clear o7 g7
          go_wp2_with fail
          go_ret
          exact ⟨rfl, G7.out⟩
        · rw [HPX.out, if_pos hc] at HP
          have hqb : ((checkT xs : Int) == 0) = false := by rw [beq_eq_false_iff_ne]; omega
          clear HPX HGP HGM HTL hf hc
          generalize checkT xs = ck at *
          go_enter Tryz.func4, Tryz.ntmps4
          go_wp2_with fail
          refine HA.out.mono ?_
          rintro e w1 ⟨rfl, g1⟩
          have G1 := Lib.hid g1
          clear g1
          go_wp2_with fail
          refine (HF.out _ G1.out).mono ?_
          rintro e w2 ⟨rfl, g2⟩
          have G2 := Lib.hid (only_trans G1.out g2)
          clear g2
          go_wp2_with fail
          refine (HP.out _ G2.out).mono ?_
          rintro e w3 ⟨rfl, g3⟩
          have G6 := Lib.hid (only_trans G2.out g3)
          clear g3
          go_wp2_with fail
          refine (HGS.out _ G6.out).mono ?_
          rintro e w7 ⟨v7, rfl, ⟨T7, o7, -⟩, g7⟩
          have G7 := Lib.hid (only_trans G6.out g7)
          obtain ⟨a7, c7, rfl⟩ := o7.rd.shape
          clear o7 g7
          go_wp2_with fail
          go_ret
          exact ⟨rfl, G7.out⟩

end Go.Proofs.YtbebdaglkjhbjaaGreatDoor.law15
