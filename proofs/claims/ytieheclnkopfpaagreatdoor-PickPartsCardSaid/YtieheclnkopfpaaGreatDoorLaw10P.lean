/-
  PickParts.
-/
import Derived.Test.YtieheclnkopfpaaGreatDoorLaw10K
namespace Go.Proofs.YtieheclnkopfpaaGreatDoor.law10
open Go.RowKit Go.Proofs.YtieheclnkopfpaaGreatDoor.tr Go.Proofs.YtieheclnkopfpaaGreatDoor.pm Go.Proofs.YtieheclnkopfpaaGreatDoor.pp Go.Proofs.YtieheclnkopfpaaGreatDoor.vi Go.Proofs.YtieheclnkopfpaaGreatDoor.wm
set_option linter.unusedVariables false
set_option linter.unusedSimpArgs false

theorem find_facts (tag : Nat) : ∀ {X : List Tree}, Rising X → ((findR tag X).2 = true ∧ X.filter (inB [tag]) = [(findR tag X).1]) ∨ (findR tag X = (zeroT, false) ∧ X.filter (inB [tag]) = [])
  | [], _ => .inr ⟨rfl, rfl⟩
  | t :: r, h => by
    obtain ⟨h1, h2⟩ := List.pairwise_cons.1 h
    by_cases ht : t.tag = tag
    · refine .inl ⟨by rw [findR, if_pos ht], ?_⟩
      have hr : r.filter (inB [tag]) = [] := List.filter_eq_nil_iff.2 fun x hx => by
        have := h1 x hx
        simp [inB]; omega
      rw [List.filter_cons, if_pos (by simp [inB, ht]), hr, findR, if_pos ht]
    · have h3 : (t :: r).filter (inB [tag]) = r.filter (inB [tag]) := by rw [List.filter_cons, if_neg (by simp [inB, ht])]
      rw [h3, findR, if_neg ht]
      exact find_facts tag h2
theorem fil_t (q : Tree → Bool) (ts : List Tree) : (ts.filter fun t => q t == true) = ts.filter q := by congr 1; funext t; simp
theorem fil_f (q : Tree → Bool) (ts : List Tree) : (ts.filter fun t => q t == false) = ts.filter fun t => !q t := by congr 1; funext t; simp
theorem tgs_one (w : World) (tag : Nat) : Tgs (w.alloc (.cells #[.int .u64 (tag : Nat)] 23)) (.slice (some ⟨w.heap.size, 0, none⟩) 1 1) [tag] := by
  refine ⟨by unfold maxLen; simp, _, 1, rfl, .inr ⟨w.heap.size, 0, rfl, by simp, by simp, by unfold maxLen; omega, fun i x hi => ?_⟩⟩
  have hi0 : i = 0 := by have := (List.getElem?_eq_some_iff.1 hi).1; simp at this; omega
  subst hi0
  simp at hi; subst hi
  rw [cell_new]; rfl
theorem cast0 : ((0 : Nat) : Int) = 0 := rfl
theorem rd_zero (w : World) : Rd (w.alloc (.cells #[.int .u64 0, .int .i64 0, .int .u64 0, .string ⟨#[]⟩, .slice none 0 0] 43)) (fun _ => True) (.slice (some ⟨w.heap.size, 0, none⟩) 1 1) [zeroT] := rd_one (S := fun _ => True) (t := zeroT) (.nil none 0)
theorem sizeL_find (tag : Nat) : ∀ X : List Tree, sizeL (findR tag X).1.list ≤ sizeL X
  | [] => by simp [findR, zeroT, Tree.list, sizeL]
  | t :: r => by
    have := sizeL_find tag r
    by_cases ht : t.tag = tag
    · rw [findR, if_pos ht]
      show sizeL t.list ≤ _
      rw [sizeL_cons]; omega
    · rw [findR, if_neg ht, sizeL_cons]; omega

theorem parts_early (W : World) (hT : ff.core.Tab W) (a : Option Addr) (ca : Nat) (xs : List OneT) (hx : xs.length ≤ maxLen) (ha : Ones W.heap.size W a ca xs) (tag : Nat) (b : Option Addr) (len cb : Nat) (hl : len ≤ maxLen) (he : fewB xs = false ∨ 40 < len ∨ checkL 0 0 (fromL xs 0) ≠ 0) :
    Calls Tryz.prog 3 #[.slice a xs.length ca, .int .u64 (tag : Nat), .slice b len cb] W fun e w' => e = .returned (.bool true) ∧ W.grownBy w' none := by
  have HA := Lib.hid (awake_any W hT)
  have HF1 := Lib.hid (fun w (g : W.grownBy w none) => few_any xs hx _ w a ca (ha.grown g))
  unfold maxLen at hl
  cases hf : fewB xs with
  | false =>
    rw [hf] at HF1
    unfold maxLen at hx
    clear ha hf he
    go_enter Tryz.func3, Tryz.ntmps3
    go_wp2_with fail
    refine HA.out.mono ?_
    rintro e w1 ⟨rfl, g1⟩
    go_wp2_with fail
    refine (HF1.out _ g1).mono ?_
    rintro e w2 ⟨rfl, g2⟩
    go_wp2_with fail
    go_ret
    exact ⟨rfl, only_trans g1 g2⟩
  | true =>
    rw [hf] at HF1 he
    obtain ⟨f1, f2, f3, f4⟩ := few_facts hf ha
    have HM1 := Lib.hid (fun w (g : W.grownBy w none) => make_any xs (by omega) W.heap.size w a ca g.size (ha.grown g))
    unfold maxLen at hx
    clear ha hf
    by_cases h40 : 40 < len
    · have hb : (40 : Int) < (len : Int) := by omega
      clear h40 he
      go_enter Tryz.func3, Tryz.ntmps3
      go_wp2_with fail
      refine HA.out.mono ?_
      rintro e w1 ⟨rfl, g1⟩
      go_wp2_with fail
      refine (HF1.out _ g1).mono ?_
      rintro e w2 ⟨rfl, g2⟩
      go_wp2_with fail
      go_ret
      exact ⟨rfl, only_trans g1 g2⟩
    · have hb : ¬ (40 : Int) < (len : Int) := by omega
      have hc : checkL 0 0 (fromL xs 0) ≠ 0 := by
        rcases he with h | h | h
        · cases h
        · exact absurd h h40
        · exact h
      generalize fromL xs 0 = X at *
      have HC := Lib.hid (fun w S v h => ff.check_any X w S v (by omega) h)
      have hlt := checkL_lt _ X 0 0 (Nat.le_refl _)
      clear he
      generalize checkL 0 0 X = q at *
      have hqb : ((q : Int) != 0) = true := by rw [bne_iff_ne]; omega
      clear hc
      go_enter Tryz.func3, Tryz.ntmps3
      go_wp2_with fail
      refine HA.out.mono ?_
      rintro e w1 ⟨rfl, g1⟩
      go_wp2_with fail
      refine (HF1.out _ g1).mono ?_
      rintro e w2 ⟨rfl, g2⟩
      have G2 := Lib.hid (only_trans g1 g2)
      clear g1 g2
      go_wp2_with fail
      refine (HM1.out _ G2.out).mono ?_
      rintro e w3 ⟨v3, S3, rfl, o3, -, g3⟩
      have G3 := Lib.hid (only_trans G2.out g3)
      have R3 := Lib.hid o3.rd
      obtain ⟨p3, q3, rfl⟩ := o3.rd.shape
      clear o3 g3
      go_wp2_with fail
      refine (HC.out _ _ _ R3.out).mono ?_
      rintro e w4 ⟨rfl, g4⟩
      have G4 := Lib.hid (only_trans G3.out g4)
      clear g4
      go_wp2_with fail
      go_ret
      exact ⟨rfl, G4.out⟩

set_option maxHeartbeats 8000000 in
set_option maxRecDepth 100000 in
theorem parts_main (W : World) (hT : ff.core.Tab W) (a : Option Addr) (ca : Nat) (xs : List OneT) (hx : xs.length ≤ maxLen) (ha : Ones W.heap.size W a ca xs) (tag : Nat) (b : Option Addr) (len cb : Nat) (us : List Nat) (hus : us.length = len) (hu : Tgs W (.slice b len cb) us) (hu64 : ∀ x ∈ us, x < 18446744073709551616)
    (hf : fewB xs = true) (hl : len ≤ 40) (hc : checkL 0 0 (fromL xs 0) = 0) :
    Calls Tryz.prog 3 #[.slice a xs.length ca, .int .u64 (tag : Nat), .slice b len cb] W fun e w' => e = .returned (.bool true) ∧ W.grownBy w' none := by
  have HA := Lib.hid (awake_any W hT)
  have HF1 := Lib.hid (fun w (g : W.grownBy w none) => few_any xs hx _ w a ca (ha.grown g))
  have HU := Lib.hid hu
  rw [hf] at HF1
  obtain ⟨f1, f2, f3, f4⟩ := few_facts hf ha
  have HM1 := Lib.hid (fun w (g : W.grownBy w none) => make_any xs (by omega) W.heap.size w a ca g.size (ha.grown g))
  unfold maxLen at hx
  have hb : ¬ (40 : Int) < (len : Int) := by omega
  clear ha hf hu
  generalize fromL xs 0 = X at *
  have HC := Lib.hid (fun w S v h => ff.check_any X w S v (by omega) h)
  rw [hc] at HC
  have h64 := tag_lt hc f4
  have HS := Lib.hid (fun w S v u h hu => split_any X us (by omega) h64 hu64 w S v u h hu)
  have HWO := Lib.hid (fun w S v u h hu => without_any X us (by omega) h64 hu64 w S v u h hu)
  have HRS := Lib.hid (fun w S v u h hu => rsplit_any X us (by omega) w S v u h hu)
  have HR1 := Lib.hid (fun w S v u h hu => rsplit_any X [tag] (by omega) w S v u h hu)
  have HFD := Lib.hid (fun w S v h => find_any X tag w S v (by omega) h)
  have HTG := Lib.hid (fun w S v h => tags_any X w S v (by omega) h)
  have HOX := Lib.hid (fun w S v h => of_any _ X (Nat.le_refl _) (by omega) w S v h)
  have hfacts := find_facts tag (rising_of hc).1
  have hff := sizeL_find tag X
  simp only [fil_t, fil_f] at HS HWO
  have hAs := sizeL_filter (inB us) X
  have hBs := sizeL_filter (fun t => !inB us t) X
  have hlx := len_size X
  have hAl := len_size (X.filter (inB us))
  have hBl := len_size (X.filter fun t => !inB us t)
  have hOl : (X.filter (inB [tag])).length ≤ 1 := by rcases hfacts with h | h <;> rw [h.2] <;> simp
  generalize hAe : X.filter (inB us) = A at *
  generalize hBe : X.filter (fun t => !inB us t) = B at *
  have HOA := Lib.hid (fun w S v h => of_any _ A (Nat.le_refl _) (by omega) w S v h)
  have HOB := Lib.hid (fun w S v h => of_any _ B (Nat.le_refl _) (by omega) w S v h)
  have HSA := Lib.hid (fun w S S' v u h h' => rsame_any _ A A (Nat.le_refl _) (by omega) w S S' v u h h')
  have HSB := Lib.hid (fun w S S' v u h h' => rsame_any _ B B (Nat.le_refl _) (by omega) w S S' v u h h')
  rw [same_self] at HSA HSB
  obtain ⟨i28, hi28, hz0, hz1, hz2⟩ := info_parts Tryz.info28
  generalize hOe : X.filter (inB [tag]) = O at *
  generalize hfe : findR tag X = f at *
  have HFA := Lib.hid hfacts
  clear hc h64 f4 hAe hBe hOe hfe hfacts
  go_enter Tryz.func3, Tryz.ntmps3
  go_wp2_with fail
  refine HA.out.mono ?_
  rintro e w1 ⟨rfl, g1⟩
  go_wp2_with fail
  refine (HF1.out _ g1).mono ?_
  rintro e w2 ⟨rfl, g2⟩
  have G2 := Lib.hid (only_trans g1 g2)
  clear g1 g2
  go_wp2_with fail
  refine (HM1.out _ G2.out).mono ?_
  rintro e w3 ⟨v3, S3, rfl, o3, -, g3⟩
  have G3 := Lib.hid (only_trans G2.out g3)
  have X3 := Lib.hid (o3.rd.mono (T := fun _ => True) (fun _ _ _ => trivial))
  obtain ⟨p3, q3, rfl⟩ := o3.rd.shape
  clear o3 g3
  go_wp2_with fail
  refine (HC.out _ _ _ X3.out).mono ?_
  rintro e w4 ⟨rfl, g4⟩
  have G4 := Lib.hid (only_trans G3.out g4)
  have X4 := Lib.hid (X3.out.grown g4)
  clear g4
  go_wp2_with fail
  refine (HS.out _ _ _ _ X4.out (HU.out.grown G4.out)).mono ?_
  rintro e w5 ⟨va, vb, rfl, ra, rb, g5⟩
  have G5 := Lib.hid (only_trans G4.out g5)
  have X5 := Lib.hid (X4.out.grown g5)
  have A5 := Lib.hid ra
  have B5 := Lib.hid rb
  obtain ⟨pa, qa, rfl⟩ := ra.shape
  obtain ⟨pb, qb, rfl⟩ := rb.shape
  clear ra rb g5
  go_wp2_with fail
  refine (HOX.out _ _ _ X5.out).mono ?_
  rintro e w6 ⟨v6, S6, rfl, o6, -, g6⟩
  have G6 := Lib.hid (only_trans G5.out g6)
  have O6 := Lib.hid o6.rd
  have X6 := Lib.hid (X5.out.grown g6)
  have A6 := Lib.hid (A5.out.grown g6)
  have B6 := Lib.hid (B5.out.grown g6)
  obtain ⟨p6, q6, rfl⟩ := o6.rd.shape
  clear o6 g6
  go_wp2_with fail
  refine (HRS.out _ _ _ _ O6.out (HU.out.grown G6.out)).mono ?_
  rintro e w7 ⟨xa, xb, rfl, sa, sb, g7⟩
  have G7 := Lib.hid (only_trans G6.out g7)
  have X7 := Lib.hid (X6.out.grown g7)
  have A7 := Lib.hid (A6.out.grown g7)
  have B7 := Lib.hid (B6.out.grown g7)
  have C7 := Lib.hid sa
  have D7 := Lib.hid sb
  obtain ⟨pc, qc, rfl⟩ := sa.shape
  obtain ⟨pd, qd, rfl⟩ := sb.shape
  clear sa sb g7
  go_wp2_with fail
  refine (HOX.out _ _ _ X7.out).mono ?_
  rintro e w8 ⟨v8, S8, rfl, o8, -, g8⟩
  have ga := only_alloc g8 (.cells #[.int .u64 (tag : Nat)] 23)
  have G8 := Lib.hid (only_trans G7.out ga)
  have O8 := Lib.hid (o8.rd.grown (only_alloc (only_refl w8 none) (.cells #[.int .u64 (tag : Nat)] 23)))
  have T8 := Lib.hid (tgs_one w8 tag)
  have X8 := Lib.hid (X7.out.grown ga)
  have A8 := Lib.hid (A7.out.grown ga)
  have B8 := Lib.hid (B7.out.grown ga)
  have C8 := Lib.hid (C7.out.grown ga)
  have D8 := Lib.hid (D7.out.grown ga)
  obtain ⟨p8, q8, rfl⟩ := o8.rd.shape
  clear o8 g8 ga
  go_wp2_with fail
  refine (HR1.out _ _ _ _ O8.out T8.out).mono ?_
  rintro e w9 ⟨vo, vq, rfl, so, -, g9⟩
  have G9 := Lib.hid (only_trans G8.out g9)
  have X9 := Lib.hid (X8.out.grown g9)
  have A9 := Lib.hid (A8.out.grown g9)
  have B9 := Lib.hid (B8.out.grown g9)
  have C9 := Lib.hid (C8.out.grown g9)
  have D9 := Lib.hid (D8.out.grown g9)
  have E9 := Lib.hid so
  obtain ⟨pe, qe, rfl⟩ := so.shape
  clear so g9
  go_wp2_with fail
  refine (HFD.out _ _ _ X9.out).mono ?_
  rintro e w10 ⟨lv, rfl, rl, g10⟩
  have gb := only_alloc g10 (.cells #[.int .u64 (f.1.tag : Nat), .int .i64 f.1.typ, .int .u64 (f.1.num : Nat), .string f.1.text, lv] 38)
  have G10 := Lib.hid (only_trans G9.out gb)
  have X10 := Lib.hid (X9.out.grown gb)
  have A10 := Lib.hid (A9.out.grown gb)
  have B10 := Lib.hid (B9.out.grown gb)
  have C10 := Lib.hid (C9.out.grown gb)
  have D10 := Lib.hid (D9.out.grown gb)
  have E10 := Lib.hid (E9.out.grown gb)
  have L10 := Lib.hid (rl.grown (only_alloc (only_refl w10 none) (.cells #[.int .u64 (f.1.tag : Nat), .int .i64 f.1.typ, .int .u64 (f.1.num : Nat), .string f.1.text, lv] 38)))
  have V10 := Lib.hid (var_new w10 38 f.1 lv)
  have hsz10 : (w10.alloc (.cells #[.int .u64 (f.1.tag : Nat), .int .i64 f.1.typ, .int .u64 (f.1.num : Nat), .string f.1.text, lv] 38)).heap.size = w10.heap.size + 1 := by simp
  obtain ⟨pl, ql, rfl⟩ := rl.shape
  clear g10 gb rl
  rcases HFA.out with ⟨hok, hO⟩ | ⟨hf0, hO⟩
  · have HO1 := Lib.hid (fun w S v h => of_any _ [f.1] (Nat.le_refl _) (by rw [sizeL_cons, sizeL]; omega) w S v h)
    have HS1 := Lib.hid (fun w S S' v u h h' => rsame_any _ [f.1] [f.1] (Nat.le_refl _) (by rw [sizeL_cons, sizeL]; omega) w S S' v u h h')
    rw [same_self] at HS1
    have hOn : O.length = 1 := by rw [hO]; rfl
    rw [hOn] at E10 ⊢
    rw [hO] at E10
    obtain ⟨f0, fb⟩ := f
    simp only at *
    subst hok
    obtain ⟨d0, d1, d2, d3, d4⟩ := V10.out
    have gc := only_alloc (only_refl (w10.alloc (.cells #[.int .u64 (f0.tag : Nat), .int .i64 f0.typ, .int .u64 (f0.num : Nat), .string f0.text, .slice pl f0.list.length ql] 38)) none) (.cells #[.int .u64 (f0.tag : Nat), .int .i64 f0.typ, .int .u64 (f0.num : Nat), .string f0.text, .slice pl f0.list.length ql] 38)
    have r11 := rd_one (ty := 38) L10.out
    rw [hsz10] at r11
    have R11 := Lib.hid r11
    have G11 := Lib.hid (only_trans G10.out gc)
    have X11 := Lib.hid (X10.out.grown gc)
    have A11 := Lib.hid (A10.out.grown gc)
    have B11 := Lib.hid (B10.out.grown gc)
    have C11 := Lib.hid (C10.out.grown gc)
    have D11 := Lib.hid (D10.out.grown gc)
    have E11 := Lib.hid (E10.out.grown gc)
    clear gc r11 hO hOn
    go_wp2_with fail
    refine (HO1.out _ _ _ R11.out).mono ?_
    rintro e w12 ⟨v12, S12, rfl, o12, -, g12⟩
    have G12 := Lib.hid (only_trans G11.out g12)
    have O12 := Lib.hid o12.rd
    have X12 := Lib.hid (X11.out.grown g12)
    have A12 := Lib.hid (A11.out.grown g12)
    have B12 := Lib.hid (B11.out.grown g12)
    have C12 := Lib.hid (C11.out.grown g12)
    have D12 := Lib.hid (D11.out.grown g12)
    have E12 := Lib.hid (E11.out.grown g12)
    obtain ⟨p12, q12, rfl⟩ := o12.rd.shape
    clear o12 g12 d0 d1 d2 d3 d4
    go_wp2_with fail
    refine (HS1.out _ _ _ _ _ O12.out E12.out).mono ?_
    rintro e w13 ⟨rfl, m13, hw13⟩
    have g13 : w12.grownBy w13 none := by rw [hw13]; exact only_drewN (only_refl _ none) m13
    clear hw13
    have GK := Lib.hid (only_trans G12.out g13)
    have XK := Lib.hid (X12.out.grown g13)
    have AK := Lib.hid (A12.out.grown g13)
    have BK := Lib.hid (B12.out.grown g13)
    have CK := Lib.hid (C12.out.grown g13)
    have DK := Lib.hid (D12.out.grown g13)
    clear g13
    go_wp2_with fail
    go_loopw [16, 92] (fun va q wr => ∃ i : Nat, i ≤ X.length ∧ q = .int .i64 i ∧ wr.ownsRow w13.heap.size 23 1 va i (u64s ((X.map Tree.tag).take i)) ∧ w13.grownBy wr none) (fun _ q _ => X.length - (intOf q).toNat)
    case atStart => exact ⟨0, Nat.zero_le _, rfl, by rw [List.take_zero]; exact World.ownsRow_nil _ _ _ _, only_refl _ _⟩
    case round =>
      obtain ⟨i, hi, rfl, ho, hg⟩ := hrel
      have HO := Lib.hid ho
      have HG := Lib.hid hg
      have hsz := hg.size
      clear ho hg
      by_cases hlt : i < X.length
      · obtain ⟨t, ht⟩ : ∃ t, X[i]? = some t := ⟨X[i], List.getElem?_eq_getElem hlt⟩
        obtain ⟨b', off, cap', lv', hv, h1, h2, h3, h4, hc, hr⟩ := (XK.out.grown HG.out).at ht
        simp only [Value.slice.injEq, true_and] at hv
        obtain ⟨rfl, rfl⟩ := hv
        obtain ⟨c0, c1, c2, c3, c4⟩ := hc
        have hga := only_alloc (only_refl wr none) (.cells #[.int .u64 (t.tag : Nat), .int .i64 t.typ, .int .u64 (t.num : Nat), .string t.text, lv'] 38)
        have hgb := only_alloc hga (.cells #[.int .u64 (t.tag : Nat)] 23)
        have HOAA := Lib.hid ((Chg.of_none (S := fun _ => False) hgb).ownsRow HO.out (fun _ _ e => e))
        have HGB := Lib.hid (only_trans HG.out hgb)
        have HBL := Lib.hid (fun k e => (HO.out.lt k e).1)
        have hza : (wr.alloc (.cells #[.int .u64 (t.tag : Nat), .int .i64 t.typ, .int .u64 (t.num : Nat), .string t.text, lv'] 38)).heap.size = wr.heap.size + 1 := by simp
        have hcn := cell_new (wr.alloc (.cells #[.int .u64 (t.tag : Nat), .int .i64 t.typ, .int .u64 (t.num : Nat), .string t.text, lv'] 38)) #[.int .u64 (t.tag : Nat)] 23 0
        rw [hza] at hcn
        have HD := Lib.hid (var_new wr 38 t lv')
        have HT : Hid (u64s ((X.map Tree.tag).take (i + 1)) = u64s ((X.map Tree.tag).take i) ++ [.int .u64 (t.tag : Nat)]) := by show _ = _; rw [List.take_add_one, List.getElem?_map, ht]; simp [u64s]
        obtain ⟨la', lc', rfl⟩ := hr.shape
        obtain ⟨d0, d1, d2, d3, d4⟩ := HD.out
        have HCN := Lib.hid hcn
        unfold maxLen at h2
        clear ht hr hga hgb hcn
        go_wp2_with (at_builtin; refine wpList_append_own _ rfl _ _ 24 rfl w13.heap.size 23 i28 (.int .u64 0) 1 8 Tryz.underlying24 hi28 hz0 hz1 hz2 rfl (by decide) _ i (u64s ((X.map Tree.tag).take i)) rfl HOAA.out ⟨wr.heap.size + 1, 0, none⟩ 1 1 [.int .u64 (t.tag : Nat)] rfl rfl ?c1 ?c2 ?c3 ?c4 ?c5 ?_)
        case c1 =>
          intro j u hj
          match j, hj with
          | 0, hj => simp at hj; subst hj; exact HCN.out
        case c2 => intro u hu; simp at hu; subst hu; rfl
        case c3 => unfold maxLen; omega
        case c4 => omega
        case c5 => simp; omega
        intro v' w44 hown4 hg4 _
        have HO4 := Lib.hid hown4
        have HG4 := Lib.hid (below_to_none (below_of_only (below_of_none HGB.out) hg4 HGB.out.size (fun k e => HBL.out k e)))
        clear hown4 hg4
        go_wp2_with fail
        go_roundw
        case rel => exact ⟨i + 1, by omega, by go_num, by rw [HT.out]; exact HO4.out, HG4.out⟩
        case measure => simp [intOf]; omega
      · have hie : i = X.length := by omega
        subst hie
        rw [List.take_of_length_le (by simp)] at HO
        have GL := Lib.hid (only_trans GK.out HG.out)
        have XL := Lib.hid (XK.out.grown HG.out)
        have AL := Lib.hid (AK.out.grown HG.out)
        have BL := Lib.hid (BK.out.grown HG.out)
        have CL := Lib.hid (CK.out.grown HG.out)
        have DL := Lib.hid (DK.out.grown HG.out)
        clear HG
        go_wp2_with fail
        refine (HOA.out _ _ _ AL.out).mono ?_
        rintro e w20 ⟨v20, S20, rfl, o20, -, g20⟩
        have G20 := Lib.hid (only_trans GL.out g20)
        have O20 := Lib.hid o20.rd
        have X20 := Lib.hid (XL.out.grown g20)
        have B20 := Lib.hid (BL.out.grown g20)
        have C20 := Lib.hid (CL.out.grown g20)
        have D20 := Lib.hid (DL.out.grown g20)
        have Q20 := Lib.hid ((Chg.of_none (S := fun _ => False) g20).ownsRow HO.out (fun _ _ e => e))
        obtain ⟨p20, q20, rfl⟩ := o20.rd.shape
        clear o20 g20
        go_wp2_with fail
        refine (HSA.out _ _ _ _ _ O20.out C20.out).mono ?_
        rintro e w21 ⟨rfl, m21, hw21⟩
        have g21 : w20.grownBy w21 none := by rw [hw21]; exact only_drewN (only_refl _ none) m21
        clear hw21
        have G21 := Lib.hid (only_trans G20.out g21)
        have X21 := Lib.hid (X20.out.grown g21)
        have B21 := Lib.hid (B20.out.grown g21)
        have D21 := Lib.hid (D20.out.grown g21)
        have Q21 := Lib.hid ((Chg.of_none (S := fun _ => False) g21).ownsRow Q20.out (fun _ _ e => e))
        clear g21
        go_wp2_with fail
        refine (HOB.out _ _ _ B21.out).mono ?_
        rintro e w22 ⟨v22, S22, rfl, o22, -, g22⟩
        have G22 := Lib.hid (only_trans G21.out g22)
        have O22 := Lib.hid o22.rd
        have X22 := Lib.hid (X21.out.grown g22)
        have D22 := Lib.hid (D21.out.grown g22)
        have Q22 := Lib.hid ((Chg.of_none (S := fun _ => False) g22).ownsRow Q21.out (fun _ _ e => e))
        obtain ⟨p22, q22, rfl⟩ := o22.rd.shape
        clear o22 g22
        go_wp2_with fail
        refine (HSB.out _ _ _ _ _ O22.out D22.out).mono ?_
        rintro e w23 ⟨rfl, m23, hw23⟩
        have g23 : w22.grownBy w23 none := by rw [hw23]; exact only_drewN (only_refl _ none) m23
        clear hw23
        have G23 := Lib.hid (only_trans G22.out g23)
        have X23 := Lib.hid (X22.out.grown g23)
        have D23 := Lib.hid (D22.out.grown g23)
        have Q23 := Lib.hid ((Chg.of_none (S := fun _ => False) g23).ownsRow Q22.out (fun _ _ e => e))
        clear g23
        go_wp2_with fail
        refine (HWO.out _ _ _ _ X23.out (HU.out.grown G23.out)).mono ?_
        rintro e w24 ⟨v24, rfl, r24, g24⟩
        have G24 := Lib.hid (only_trans G23.out g24)
        have R24 := Lib.hid r24
        have X24 := Lib.hid (X23.out.grown g24)
        have D24 := Lib.hid (D23.out.grown g24)
        have Q24 := Lib.hid ((Chg.of_none (S := fun _ => False) g24).ownsRow Q23.out (fun _ _ e => e))
        obtain ⟨p24, q24, rfl⟩ := r24.shape
        clear r24 g24
        go_wp2_with fail
        refine (HOB.out _ _ _ R24.out).mono ?_
        rintro e w25 ⟨v25, S25, rfl, o25, -, g25⟩
        have G25 := Lib.hid (only_trans G24.out g25)
        have O25 := Lib.hid o25.rd
        have X25 := Lib.hid (X24.out.grown g25)
        have D25 := Lib.hid (D24.out.grown g25)
        have Q25 := Lib.hid ((Chg.of_none (S := fun _ => False) g25).ownsRow Q24.out (fun _ _ e => e))
        obtain ⟨p25, q25, rfl⟩ := o25.rd.shape
        clear o25 g25
        go_wp2_with fail
        refine (HSB.out _ _ _ _ _ O25.out D25.out).mono ?_
        rintro e w26 ⟨rfl, m26, hw26⟩
        have g26 : w25.grownBy w26 none := by rw [hw26]; exact only_drewN (only_refl _ none) m26
        clear hw26
        have G26 := Lib.hid (only_trans G25.out g26)
        have X26 := Lib.hid (X25.out.grown g26)
        have Q26 := Lib.hid ((Chg.of_none (S := fun _ => False) g26).ownsRow Q25.out (fun _ _ e => e))
        clear g26
        go_wp2_with fail
        refine (HTG.out _ _ _ X26.out).mono ?_
        rintro e w27 ⟨v27, rfl, o27, g27⟩
        have G27 := Lib.hid (only_trans G26.out g27)
        have hml : (X.map Tree.tag).length = X.length := List.length_map _
        have Q27 := (Chg.of_none (S := fun _ => False) g27).ownsRow Q26.out (fun _ _ e => e)
        rw [← hml] at o27 Q27
        have HEQ := Lib.hid (equal_same (X.map Tree.tag) (by rw [hml]; unfold maxLen; omega) o27 Q27)
        clear o27 g27 hml Q27
        go_wp2_with fail
        refine HEQ.out.mono ?_
        rintro e w28 ⟨rfl, g28⟩
        have G28 := Lib.hid (only_trans G27.out g28)
        clear g28
        go_wp2_with fail
        go_ret
        exact ⟨rfl, G28.out⟩

  · have HO1 := Lib.hid (fun w S v h => of_any _ [zeroT] (Nat.le_refl _) (by simp [zeroT, sizeL, Tree.size]) w S v h)
    have HS1 := Lib.hid (fun w S S' v u h h' => rsame_any _ [zeroT] [zeroT] (Nat.le_refl _) (by simp [zeroT, sizeL, Tree.size]) w S S' v u h h')
    rw [same_self] at HS1
    have hOn : O.length = 0 := by rw [hO]; rfl
    rw [hOn] at E10 ⊢
    rw [hO] at E10
    subst hf0
    obtain ⟨d0, d1, d2, d3, d4⟩ := V10.out
    have r11 := rd_one (ty := 38) L10.out
    rw [hsz10] at r11
    have R11 := Lib.hid r11
    simp only [zeroT, Tree.tag, Tree.typ, Tree.num, Tree.text, Tree.list, List.length_nil, cast0] at d0 d1 d2 d3 d4 R11 G10 X10 A10 B10 C10 D10 E10 hsz10 ⊢
    have gc := only_alloc (only_refl (w10.alloc (.cells #[.int .u64 0, .int .i64 0, .int .u64 0, .string ⟨#[]⟩, .slice pl 0 ql] 38)) none) (.cells #[.int .u64 0, .int .i64 0, .int .u64 0, .string ⟨#[]⟩, .slice pl 0 ql] 38)
    have G11 := Lib.hid (only_trans G10.out gc)
    have X11 := Lib.hid (X10.out.grown gc)
    have A11 := Lib.hid (A10.out.grown gc)
    have B11 := Lib.hid (B10.out.grown gc)
    have C11 := Lib.hid (C10.out.grown gc)
    have D11 := Lib.hid (D10.out.grown gc)
    clear gc r11 hO hOn
    go_wp2_with fail
    refine (HO1.out _ _ _ R11.out).mono ?_
    rintro e w12 ⟨v12, S12, rfl, o12, -, g12⟩
    have gz := only_alloc g12 (.cells #[.int .u64 0, .int .i64 0, .int .u64 0, .string ⟨#[]⟩, .slice none 0 0] 43)
    have G12 := Lib.hid (only_trans G11.out gz)
    have O12 := Lib.hid (o12.rd.grown (only_alloc (only_refl w12 none) (.cells #[.int .u64 0, .int .i64 0, .int .u64 0, .string ⟨#[]⟩, .slice none 0 0] 43)))
    have Z12 := Lib.hid (rd_zero w12)
    have X12 := Lib.hid (X11.out.grown gz)
    have A12 := Lib.hid (A11.out.grown gz)
    have B12 := Lib.hid (B11.out.grown gz)
    have C12 := Lib.hid (C11.out.grown gz)
    have D12 := Lib.hid (D11.out.grown gz)
    obtain ⟨p12, q12, rfl⟩ := o12.rd.shape
    clear o12 g12 gz d0 d1 d2 d3 d4
    go_wp2_with fail
    refine (HS1.out _ _ _ _ _ O12.out Z12.out).mono ?_
    rintro e w13 ⟨rfl, m13, hw13⟩
    have g13 : (w12.alloc (.cells #[.int .u64 0, .int .i64 0, .int .u64 0, .string ⟨#[]⟩, .slice none 0 0] 43)).grownBy w13 none := by rw [hw13]; exact only_drewN (only_refl _ none) m13
    clear hw13
    have GK := Lib.hid (only_trans G12.out g13)
    have XK := Lib.hid (X12.out.grown g13)
    have AK := Lib.hid (A12.out.grown g13)
    have BK := Lib.hid (B12.out.grown g13)
    have CK := Lib.hid (C12.out.grown g13)
    have DK := Lib.hid (D12.out.grown g13)
    clear g13
    go_wp2_with fail
    go_loopw [16, 92] (fun va q wr => ∃ i : Nat, i ≤ X.length ∧ q = .int .i64 i ∧ wr.ownsRow w13.heap.size 23 1 va i (u64s ((X.map Tree.tag).take i)) ∧ w13.grownBy wr none) (fun _ q _ => X.length - (intOf q).toNat)
    case atStart => exact ⟨0, Nat.zero_le _, rfl, by rw [List.take_zero]; exact World.ownsRow_nil _ _ _ _, only_refl _ _⟩
    case round =>
      obtain ⟨i, hi, rfl, ho, hg⟩ := hrel
      have HO := Lib.hid ho
      have HG := Lib.hid hg
      have hsz := hg.size
      clear ho hg
      by_cases hlt : i < X.length
      · obtain ⟨t, ht⟩ : ∃ t, X[i]? = some t := ⟨X[i], List.getElem?_eq_getElem hlt⟩
        obtain ⟨b', off, cap', lv', hv, h1, h2, h3, h4, hc, hr⟩ := (XK.out.grown HG.out).at ht
        simp only [Value.slice.injEq, true_and] at hv
        obtain ⟨rfl, rfl⟩ := hv
        obtain ⟨c0, c1, c2, c3, c4⟩ := hc
        have hga := only_alloc (only_refl wr none) (.cells #[.int .u64 (t.tag : Nat), .int .i64 t.typ, .int .u64 (t.num : Nat), .string t.text, lv'] 38)
        have hgb := only_alloc hga (.cells #[.int .u64 (t.tag : Nat)] 23)
        have HOAA := Lib.hid ((Chg.of_none (S := fun _ => False) hgb).ownsRow HO.out (fun _ _ e => e))
        have HGB := Lib.hid (only_trans HG.out hgb)
        have HBL := Lib.hid (fun k e => (HO.out.lt k e).1)
        have hza : (wr.alloc (.cells #[.int .u64 (t.tag : Nat), .int .i64 t.typ, .int .u64 (t.num : Nat), .string t.text, lv'] 38)).heap.size = wr.heap.size + 1 := by simp
        have hcn := cell_new (wr.alloc (.cells #[.int .u64 (t.tag : Nat), .int .i64 t.typ, .int .u64 (t.num : Nat), .string t.text, lv'] 38)) #[.int .u64 (t.tag : Nat)] 23 0
        rw [hza] at hcn
        have HD := Lib.hid (var_new wr 38 t lv')
        have HT : Hid (u64s ((X.map Tree.tag).take (i + 1)) = u64s ((X.map Tree.tag).take i) ++ [.int .u64 (t.tag : Nat)]) := by show _ = _; rw [List.take_add_one, List.getElem?_map, ht]; simp [u64s]
        obtain ⟨la', lc', rfl⟩ := hr.shape
        obtain ⟨d0, d1, d2, d3, d4⟩ := HD.out
        have HCN := Lib.hid hcn
        unfold maxLen at h2
        clear ht hr hga hgb hcn
        go_wp2_with (at_builtin; refine wpList_append_own _ rfl _ _ 24 rfl w13.heap.size 23 i28 (.int .u64 0) 1 8 Tryz.underlying24 hi28 hz0 hz1 hz2 rfl (by decide) _ i (u64s ((X.map Tree.tag).take i)) rfl HOAA.out ⟨wr.heap.size + 1, 0, none⟩ 1 1 [.int .u64 (t.tag : Nat)] rfl rfl ?c1 ?c2 ?c3 ?c4 ?c5 ?_)
        case c1 =>
          intro j u hj
          match j, hj with
          | 0, hj => simp at hj; subst hj; exact HCN.out
        case c2 => intro u hu; simp at hu; subst hu; rfl
        case c3 => unfold maxLen; omega
        case c4 => omega
        case c5 => simp; omega
        intro v' w44 hown4 hg4 _
        have HO4 := Lib.hid hown4
        have HG4 := Lib.hid (below_to_none (below_of_only (below_of_none HGB.out) hg4 HGB.out.size (fun k e => HBL.out k e)))
        clear hown4 hg4
        go_wp2_with fail
        go_roundw
        case rel => exact ⟨i + 1, by omega, by go_num, by rw [HT.out]; exact HO4.out, HG4.out⟩
        case measure => simp [intOf]; omega
      · have hie : i = X.length := by omega
        subst hie
        rw [List.take_of_length_le (by simp)] at HO
        have GL := Lib.hid (only_trans GK.out HG.out)
        have XL := Lib.hid (XK.out.grown HG.out)
        have AL := Lib.hid (AK.out.grown HG.out)
        have BL := Lib.hid (BK.out.grown HG.out)
        have CL := Lib.hid (CK.out.grown HG.out)
        have DL := Lib.hid (DK.out.grown HG.out)
        clear HG
        go_wp2_with fail
        refine (HOA.out _ _ _ AL.out).mono ?_
        rintro e w20 ⟨v20, S20, rfl, o20, -, g20⟩
        have G20 := Lib.hid (only_trans GL.out g20)
        have O20 := Lib.hid o20.rd
        have X20 := Lib.hid (XL.out.grown g20)
        have B20 := Lib.hid (BL.out.grown g20)
        have C20 := Lib.hid (CL.out.grown g20)
        have D20 := Lib.hid (DL.out.grown g20)
        have Q20 := Lib.hid ((Chg.of_none (S := fun _ => False) g20).ownsRow HO.out (fun _ _ e => e))
        obtain ⟨p20, q20, rfl⟩ := o20.rd.shape
        clear o20 g20
        go_wp2_with fail
        refine (HSA.out _ _ _ _ _ O20.out C20.out).mono ?_
        rintro e w21 ⟨rfl, m21, hw21⟩
        have g21 : w20.grownBy w21 none := by rw [hw21]; exact only_drewN (only_refl _ none) m21
        clear hw21
        have G21 := Lib.hid (only_trans G20.out g21)
        have X21 := Lib.hid (X20.out.grown g21)
        have B21 := Lib.hid (B20.out.grown g21)
        have D21 := Lib.hid (D20.out.grown g21)
        have Q21 := Lib.hid ((Chg.of_none (S := fun _ => False) g21).ownsRow Q20.out (fun _ _ e => e))
        clear g21
        go_wp2_with fail
        refine (HOB.out _ _ _ B21.out).mono ?_
        rintro e w22 ⟨v22, S22, rfl, o22, -, g22⟩
        have G22 := Lib.hid (only_trans G21.out g22)
        have O22 := Lib.hid o22.rd
        have X22 := Lib.hid (X21.out.grown g22)
        have D22 := Lib.hid (D21.out.grown g22)
        have Q22 := Lib.hid ((Chg.of_none (S := fun _ => False) g22).ownsRow Q21.out (fun _ _ e => e))
        obtain ⟨p22, q22, rfl⟩ := o22.rd.shape
        clear o22 g22
        go_wp2_with fail
        refine (HSB.out _ _ _ _ _ O22.out D22.out).mono ?_
        rintro e w23 ⟨rfl, m23, hw23⟩
        have g23 : w22.grownBy w23 none := by rw [hw23]; exact only_drewN (only_refl _ none) m23
        clear hw23
        have G23 := Lib.hid (only_trans G22.out g23)
        have X23 := Lib.hid (X22.out.grown g23)
        have D23 := Lib.hid (D22.out.grown g23)
        have Q23 := Lib.hid ((Chg.of_none (S := fun _ => False) g23).ownsRow Q22.out (fun _ _ e => e))
        clear g23
        go_wp2_with fail
        refine (HWO.out _ _ _ _ X23.out (HU.out.grown G23.out)).mono ?_
        rintro e w24 ⟨v24, rfl, r24, g24⟩
        have G24 := Lib.hid (only_trans G23.out g24)
        have R24 := Lib.hid r24
        have X24 := Lib.hid (X23.out.grown g24)
        have D24 := Lib.hid (D23.out.grown g24)
        have Q24 := Lib.hid ((Chg.of_none (S := fun _ => False) g24).ownsRow Q23.out (fun _ _ e => e))
        obtain ⟨p24, q24, rfl⟩ := r24.shape
        clear r24 g24
        go_wp2_with fail
        refine (HOB.out _ _ _ R24.out).mono ?_
        rintro e w25 ⟨v25, S25, rfl, o25, -, g25⟩
        have G25 := Lib.hid (only_trans G24.out g25)
        have O25 := Lib.hid o25.rd
        have X25 := Lib.hid (X24.out.grown g25)
        have D25 := Lib.hid (D24.out.grown g25)
        have Q25 := Lib.hid ((Chg.of_none (S := fun _ => False) g25).ownsRow Q24.out (fun _ _ e => e))
        obtain ⟨p25, q25, rfl⟩ := o25.rd.shape
        clear o25 g25
        go_wp2_with fail
        refine (HSB.out _ _ _ _ _ O25.out D25.out).mono ?_
        rintro e w26 ⟨rfl, m26, hw26⟩
        have g26 : w25.grownBy w26 none := by rw [hw26]; exact only_drewN (only_refl _ none) m26
        clear hw26
        have G26 := Lib.hid (only_trans G25.out g26)
        have X26 := Lib.hid (X25.out.grown g26)
        have Q26 := Lib.hid ((Chg.of_none (S := fun _ => False) g26).ownsRow Q25.out (fun _ _ e => e))
        clear g26
        go_wp2_with fail
        refine (HTG.out _ _ _ X26.out).mono ?_
        rintro e w27 ⟨v27, rfl, o27, g27⟩
        have G27 := Lib.hid (only_trans G26.out g27)
        have hml : (X.map Tree.tag).length = X.length := List.length_map _
        have Q27 := (Chg.of_none (S := fun _ => False) g27).ownsRow Q26.out (fun _ _ e => e)
        rw [← hml] at o27 Q27
        have HEQ := Lib.hid (equal_same (X.map Tree.tag) (by rw [hml]; unfold maxLen; omega) o27 Q27)
        clear o27 g27 hml Q27
        go_wp2_with fail
        refine HEQ.out.mono ?_
        rintro e w28 ⟨rfl, g28⟩
        have G28 := Lib.hid (only_trans G27.out g28)
        clear g28
        go_wp2_with fail
        go_ret
        exact ⟨rfl, G28.out⟩


theorem parts_any (W : World) (hT : ff.core.Tab W) (a : Option Addr) (ca : Nat) (xs : List OneT) (hx : xs.length ≤ maxLen) (ha : Ones W.heap.size W a ca xs) (tag : Nat) (b : Option Addr) (len cb : Nat) (zs : List Int) (hz : IsInts .u64 W b len cb zs) (hl : len ≤ maxLen) :
    Calls Tryz.prog 3 #[.slice a xs.length ca, .int .u64 (tag : Nat), .slice b len cb] W fun e w' => e = .returned (.bool true) ∧ W.grownBy w' none := by
  obtain ⟨us, hus, hu, hu64⟩ := tgs_of hz hl
  by_cases he : fewB xs = false ∨ 40 < len ∨ checkL 0 0 (fromL xs 0) ≠ 0
  · exact parts_early W hT a ca xs hx ha tag b len cb hl he
  · refine parts_main W hT a ca xs hx ha tag b len cb us hus hu hu64 ?_ (by omega) (by omega)
    cases h : fewB xs with
    | true => rfl
    | false => exact absurd (.inl h) he

end Go.Proofs.YtieheclnkopfpaaGreatDoor.law10
