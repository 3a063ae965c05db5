/-
  The document's tables as bytes (layer 15): Next, Get.
-/
import Derived.Test.YtbebdaglkjhbjaaGreatDoorPkref
namespace Go.Proofs.YtbebdaglkjhbjaaGreatDoor.kr
open Go.RowKit Go.Proofs.YtbebdaglkjhbjaaGreatDoor.vi Go.Proofs.YtbebdaglkjhbjaaGreatDoor.um Go.Proofs.YtbebdaglkjhbjaaGreatDoor.wm Go.Proofs.YtbebdaglkjhbjaaGreatDoor.tr Go.Proofs.YtbebdaglkjhbjaaGreatDoor.em Go.Proofs.YtbebdaglkjhbjaaGreatDoor.rm Go.Proofs.YtbebdaglkjhbjaaGreatDoor.law11 Go.Proofs.YtbebdaglkjhbjaaGreatDoor.dd Go.Proofs.YtbebdaglkjhbjaaGreatDoor.dr Go.Proofs.YtbebdaglkjhbjaaGreatDoor.tm Go.Proofs.YtbebdaglkjhbjaaGreatDoor.tf Go.Proofs.YtbebdaglkjhbjaaGreatDoor.rr Go.Proofs.YtbebdaglkjhbjaaGreatDoor.pk
set_option linter.unusedVariables false
set_option linter.unusedSimpArgs false

/-- What a reading loop keeps. -/
def glK (acc : List Rw) (r : List Rw × Bs × Nat) : List Rw × Bs × Nat := if r.2.2 ≠ 0 then ([], [], r.2.2) else (acc ++ r.1, r.2.1, 0)
theorem glK_nil (r : List Rw × Bs × Nat) (h : r.2.2 ≠ 0 → r.1 = [] ∧ r.2.1 = []) : r = glK [] r := by
  unfold glK
  split
  · rename_i h0
    obtain ⟨h1, h2⟩ := h h0
    exact Prod.ext h1 (Prod.ext h2 rfl)
  · rename_i h0
    simp only [ne_eq, Decidable.not_not] at h0
    exact Prod.ext rfl (Prod.ext rfl h0)
theorem glK_zero (acc : List Rw) (a : Bs) (f : Bool) (L : Bs) : glK acc (readK 0 a f L) = (acc, L, 0) := by simp [glK, readK]
theorem glK_step (acc : List Rw) (n : Nat) (a : Bs) (f : Bool) (L : Bs) : glK acc (readK (n + 1) a f L) =
    if (nextP L a f).2.2 ≠ 0 then ([], [], (nextP L a f).2.2)
    else if (parseD (nextP L a f).1).2 ≠ 0 then ([], [], (parseD (nextP L a f).1).2)
    else if (getR (nextP L a f).2.1).2.2 ≠ 0 then ([], [], (getR (nextP L a f).2.1).2.2)
    else if (getR (nextP L a f).2.1).1 = 0 then ([], [], 17)
    else glK (acc ++ [⟨(parseD (nextP L a f).1).1, (getR (nextP L a f).2.1).1⟩]) (readK n (nextP L a f).1 false ((nextP L a f).2.1.drop (getR (nextP L a f).2.1).2.1)) := by
  rw [readK]
  by_cases h1 : (nextP L a f).2.2 ≠ 0
  · rw [if_pos h1, if_pos h1]; simp only [glK]; rw [if_pos h1]
  rw [if_neg h1, if_neg h1]
  by_cases h2 : (parseD (nextP L a f).1).2 ≠ 0
  · rw [if_pos h2, if_pos h2]; simp only [glK]; rw [if_pos h2]
  rw [if_neg h2, if_neg h2]
  by_cases h3 : (getR (nextP L a f).2.1).2.2 ≠ 0
  · rw [if_pos h3, if_pos h3]; simp only [glK]; rw [if_pos h3]
  rw [if_neg h3, if_neg h3]
  by_cases h4 : (getR (nextP L a f).2.1).1 = 0
  · rw [if_pos h4, if_pos h4]; rfl
  rw [if_neg h4, if_neg h4]
  by_cases h5 : (readK n (nextP L a f).1 false ((nextP L a f).2.1.drop (getR (nextP L a f).2.1).2.1)).2.2 ≠ 0
  · rw [if_pos h5]; simp only [glK]; rw [if_pos h5, if_pos h5]
  · rw [if_neg h5]; simp only [glK]; rw [if_neg (by simp), if_neg h5]; simp

/-- What is read is small. -/
theorem parseD_small (L : Bs) (h : (parseD L).2 = 0) : (parseD L).1.length ≤ 16 ∧ (∀ x ∈ (parseD L).1, x.key.size ≤ 64 ∧ x.value.size ≤ 256) ∧ keyD (parseD L).1 = L := by
  obtain ⟨h1, h2⟩ := parseD_ok h
  have h3 := (checkD_ok _).1 h2
  exact ⟨h3.2.1, fun x hx => (checkE_small (h3.2.2.1 x hx)).2, h1⟩
theorem parseD_lt (L : Bs) : (parseD L).2 < 64 := by
  have := nextD_lt L
  unfold parseD
  split
  · exact this
  · split <;> simp

theorem readK_lt : ∀ (n : Nat) (a : Bs) (f : Bool) (L : Bs), (readK n a f L).2.2 < 64
  | 0, _, _, _ => by simp [readK]
  | n + 1, a, f, L => by
    have h1 := nextP_code L a f
    have h2 := parseD_lt (nextP L a f).1
    have h3 := (getR_bounds (nextP L a f).2.1).2.2.2.1
    have h4 := readK_lt n (nextP L a f).1 false ((nextP L a f).2.1.drop (getR (nextP L a f).2.1).2.1)
    unfold readK
    split
    · simp only; omega
    split
    · exact h2
    split
    · simp only; omega
    split
    · simp
    split
    · exact h4
    · simp
theorem nextK_lt (L : Bs) : (nextK L).2.2 < 64 := by
  have h1 := (getR_bounds L).2.2.2.1
  unfold nextK
  split
  · simp only; omega
  split
  · simp
  · exact readK_lt _ _ _ _
theorem getK_lt (L : Bs) : (getK L).2 < 64 := by
  have := nextK_lt L
  unfold getK
  split
  · exact this
  split <;> simp

set_option maxHeartbeats 4000000 in
set_option maxRecDepth 100000 in
theorem rnextK_any (s : ByteArray) (hs : s.size ≤ 400000) (w : World) :
    Calls Tryz.prog 17 #[.string s] w fun e w' => ∃ v, e = .returned (.tuple #[v, .string (txt (nextK s.data.toList).2.1), .int .i64 ((nextK s.data.toList).2.2 : Nat)]) ∧ (∃ T : Nat → Prop, OwnR 97 w.heap.size T w' v (nextK s.data.toList).1 ∧ ∀ k, T k → w.heap.size ≤ k) ∧ w.grownBy w' none := by
  have HG := Lib.hid (rget_any s (by unfold maxLen; omega) w)
  have hb := getR_bounds s.data.toList
  have hl : s.data.toList.length = s.size := by simp
  have HXb1 : Hid (nextK s.data.toList = if (getR s.data.toList).2.2 ≠ 0 then ([], [], (getR s.data.toList).2.2) else if 256 < (getR s.data.toList).1 then ([], [], 13) else readK (getR s.data.toList).1 [] true (s.data.toList.drop (getR s.data.toList).2.1)) := rfl
  generalize nextK s.data.toList = R at *
  generalize getR s.data.toList = r at *
  obtain ⟨x, m, E⟩ := r
  unfold getV at HG
  simp only at hb HG HXb1
  rw [hl] at hb
  obtain ⟨hx, hm, -, hE, -⟩ := hb
  have HNIL := Lib.hid (fun (w' : World) => OwnR.nil 97 w.heap.size (fun _ => False) w' (fun k e => e.elim))
  by_cases h0 : E = 0
  · subst h0
    have HXc2 := Lib.hid (HXb1.out.trans (if_neg (by simp)))
    by_cases h1 : 256 < x
    · have HXd3 := Lib.hid (HXc2.out.trans (if_pos h1))
      have h1i : (256 : Int) < (x : Int) := by omega
      clear hl
      go_enter Tryz.func17, Tryz.ntmps17
      go_wp2_with fail
      refine HG.out.mono ?_
      rintro e w1 ⟨rfl, rfl⟩
      go_wp2_with fail
      go_ret3
      rw [HXd3.out]
      exact ⟨_, rfl, ⟨_, HNIL.out _, fun k e => e.elim⟩, only_refl _ _⟩
    · have HXe4 := Lib.hid (HXc2.out.trans (if_neg h1))
      have HXf5 := Lib.hid (HXe4.out.trans (glK_nil _ (readK_err x [] true (s.data.toList.drop m))))
      have h1i : ¬ (256 : Int) < (x : Int) := by omega
      have HEX := Lib.hid (txt_rest s m)
      have hdl : (s.data.toList.drop m).length ≤ s.size := by simp
      clear hl
      go_enter Tryz.func17, Tryz.ntmps17
      go_wp2_with fail
      refine HG.out.mono ?_
      rintro e w1 ⟨rfl, rfl⟩
      go_wp2_with fail
      rw [← HEX.out]
      go_loopw [8, 9, 0, 10] (fun vo va vs vi wr => ∃ (acc : List Rw) (L A : Bs) (T : Nat → Prop), acc.length ≤ x ∧ vs = .string (txt L) ∧ va = .string (txt A) ∧ vi = .int .u64 acc.length ∧ OwnR 97 w.heap.size T wr vo acc ∧ (∀ k, T k → w.heap.size ≤ k) ∧ A.length + L.length ≤ s.size ∧ w.grownBy wr none ∧ R = glK acc (readK (x - acc.length) A ((acc.length : Int) == 0) L)) (fun _ _ _ vi _ => x - (intOf vi).toNat)
      case atStart => exact ⟨[], s.data.toList.drop m, [], fun _ => False, Nat.zero_le _, rfl, rfl, rfl, HNIL.out _, fun k e => e.elim, by simp, only_refl _ _, HXf5.out⟩
      case round =>
        obtain ⟨acc, L, A, T, hi, rfl, rfl, rfl, ho, hT, hAL, hg, hr⟩ := hrel
        have HO := Lib.hid ho
        have HTT := Lib.hid hT
        have HGr := Lib.hid hg
        have HR := Lib.hid hr
        have hvb := ho.lt
        obtain ⟨oa, oc, rfl⟩ := ho.rd.shape
        clear ho hT hg hr HXf5 HEX
        by_cases hlt : acc.length < x
        · obtain ⟨n, hn⟩ : ∃ n, x - acc.length = n + 1 := ⟨x - acc.length - 1, by omega⟩
          have HSTg6 := Lib.hid (HR.out.trans ((congrArg (fun z => glK acc (readK z A ((acc.length : Int) == 0) L)) hn).trans (glK_step acc n A ((acc.length : Int) == 0) L)))
          have HN := Lib.hid (fun w => rnext_txt L A ((acc.length : Int) == 0) (by omega) w)
          have hnl := @nextP_len L A ((acc.length : Int) == 0)
          have hcd := nextP_code L A ((acc.length : Int) == 0)
          have hwz : w.heap.size ≤ wr.heap.size := HGr.out.size
          generalize nextP L A ((acc.length : Int) == 0) = Q at *
          obtain ⟨t, rest, q⟩ := Q
          simp only at HN hnl hcd HSTg6
          clear HR
          by_cases hq : q = 0
          · subst hq
            obtain ⟨hn1, hn2⟩ := hnl rfl
            have HSTh7 := Lib.hid (HSTg6.out.trans (if_neg (by simp)))
            have HPA := Lib.hid (fun w => rparseD_any (txt t) (by rw [txt_size]; omega) w)
            rw [txt_list] at HPA
            have hpl := parseD_lt t
            clear hnl
            generalize parseD t = P at *
            obtain ⟨d, f⟩ := P
            simp only at HPA hpl HSTh7
            by_cases hf : f = 0
            · subst hf
              have HSTi8 := Lib.hid (HSTh7.out.trans (if_neg (by simp)))
              have HGE := Lib.hid (fun w => rget_any (txt rest) (by rw [txt_size]; unfold maxLen; omega) w)
              rw [txt_list] at HGE
              have hgb := getR_bounds rest
              have HRX := fun j => txt_rest (txt rest) j
              rw [txt_list, txt_size] at HRX
              have HRX := Lib.hid HRX
              have hrs : (txt rest).size = rest.length := txt_size rest
              generalize getR rest = G at *
              obtain ⟨m2, j, g⟩ := G
              unfold getV at HGE
              simp only at HGE hgb HSTi8
              obtain ⟨hm2, hj, -, hg4, -⟩ := hgb
              by_cases hg0 : g = 0
              · subst hg0
                have HSTj9 := Lib.hid (HSTi8.out.trans (if_neg (by simp)))
                by_cases hm0 : m2 = 0
                · subst hm0
                  have HSTk10 := Lib.hid (HSTj9.out.trans (if_pos rfl))
                  go_wp2_with fail
                  refine (HN.out _).mono ?_
                  rintro e w1 ⟨rfl, g1⟩
                  have G1 := Lib.hid (only_trans HGr.out g1)
                  clear g1
                  go_wp2_with fail
                  refine (HPA.out _).mono ?_
                  rintro e w2 ⟨v2, rfl, o2, g2⟩
                  have G2 := Lib.hid (only_trans G1.out g2)
                  obtain ⟨xa, xc, rfl⟩ := o2.es.shape
                  clear g2 o2
                  go_wp2_with fail
                  refine (HGE.out _).mono ?_
                  rintro e w3 ⟨rfl, rfl⟩
                  go_wp2_with fail
                  go_ret3
                  rw [HSTk10.out]
                  exact ⟨_, rfl, ⟨_, HNIL.out _, fun k e => e.elim⟩, G2.out⟩
                · have HSTl11 := Lib.hid (HSTj9.out.trans (if_neg hm0))
                  have hmb : ((m2 : Int) == 0) = false := by rw [beq_eq_false_iff_ne]; omega
                  go_wp2_with fail
                  refine (HN.out _).mono ?_
                  rintro e w1 ⟨rfl, g1⟩
                  have G1 := Lib.hid (only_trans HGr.out g1)
                  have O1 := Lib.hid (HO.out.grown g1)
                  have hr1 := g1.size
                  clear g1
                  go_wp2_with fail
                  refine (HPA.out _).mono ?_
                  rintro e w2 ⟨v2, rfl, o2, g2⟩
                  have hw1 : w.heap.size ≤ w1.heap.size := G1.out.size
                  have G2 := Lib.hid (only_trans G1.out g2)
                  have O2 := Lib.hid (O1.out.grown g2)
                  have HE2 := Lib.hid (law13.ess_own o2)
                  have hs12 := g2.size
                  obtain ⟨xa, xc, rfl⟩ := o2.es.shape
                  clear g2 o2
                  go_wp2_with fail
                  refine (HGE.out _).mono ?_
                  rintro e w3 ⟨rfl, rfl⟩
                  have GB := only_alloc (only_refl w2 none) (.cells #[.slice xa d.length xc, .int .u64 (m2 : Nat)] 97)
                  have O3 := Lib.hid (O2.out.grown GB)
                  have G3 := Lib.hid (only_trans G2.out GB)
                  have hw2 : w1.heap.size ≤ w2.heap.size := hs12
                  have HONE := Lib.hid (rs_one w2 _ _ (⟨d, m2⟩ : Rw) 97 HE2.out)
                  clear GB
                  go_wp2_with (at_builtin; (refine wpList_append_rs rfl _ _ 30 97 rfl _ Tryz.underlying30 law13.Tryz.infoRW rfl w.heap.size _ _ _ acc [(⟨d, m2⟩ : Rw)] rfl O3.out _ rfl HONE.out ?c1 ?c2 ?c3 ?c4 ?_))
                  case c1 => intro k hk; simp at hk ⊢; omega
                  case c2 => intro k e hk; have := hvb k e; (try simp at hk); omega
                  case c3 => simp; omega
                  case c4 => simp; omega
                  intro v5 w5 ho5 hg5
                  have HO5 := Lib.hid ho5
                  have G5 := Lib.hid (only_row G3.out hg5 (fun k e => (hvb k e).1))
                  clear ho5 hg5
                  go_wp2_with fail
                  go_roundw
                  case rel =>
                    refine ⟨acc ++ [⟨d, m2⟩], rest.drop j, t, _, by simp; omega, congrArg Value.string (HRX.out j).symm, rfl, by rw [List.length_append]; go_num, HO5.out, fun k hk => ?_, by rw [List.length_drop]; omega, G5.out, ?_⟩
                    · rcases hk with hk | hk
                      · exact HTT.out k hk
                      · (try simp at hk); omega
                    · rw [HSTl11.out, show x - (acc ++ [(⟨d, m2⟩ : Rw)]).length = n by simp; omega]
                      congr 2
                      rw [eq_comm, beq_eq_false_iff_ne]
                      simp
                      omega
                  case measure => simp [intOf]; omega
              · have HSTm12 := Lib.hid (HSTi8.out.trans (if_pos hg0))
                have hqb : ((g : Int) != 0) = true := by rw [bne_iff_ne]; omega
                go_wp2_with fail
                refine (HN.out _).mono ?_
                rintro e w1 ⟨rfl, g1⟩
                have G1 := Lib.hid (only_trans HGr.out g1)
                clear g1
                go_wp2_with fail
                refine (HPA.out _).mono ?_
                rintro e w2 ⟨v2, rfl, o2, g2⟩
                have G2 := Lib.hid (only_trans G1.out g2)
                obtain ⟨xa, xc, rfl⟩ := o2.es.shape
                clear g2 o2
                go_wp2_with fail
                refine (HGE.out _).mono ?_
                rintro e w3 ⟨rfl, rfl⟩
                go_wp2_with fail
                go_ret3
                rw [HSTm12.out]
                exact ⟨_, rfl, ⟨_, HNIL.out _, fun k e => e.elim⟩, G2.out⟩
            · have HSTn13 := Lib.hid (HSTh7.out.trans (if_pos hf))
              have hqb : ((f : Int) != 0) = true := by rw [bne_iff_ne]; omega
              go_wp2_with fail
              refine (HN.out _).mono ?_
              rintro e w1 ⟨rfl, g1⟩
              have G1 := Lib.hid (only_trans HGr.out g1)
              clear g1
              go_wp2_with fail
              refine (HPA.out _).mono ?_
              rintro e w2 ⟨v2, rfl, o2, g2⟩
              have G2 := Lib.hid (only_trans G1.out g2)
              obtain ⟨xa, xc, rfl⟩ := o2.es.shape
              clear g2 o2
              go_wp2_with fail
              go_ret3
              rw [HSTn13.out]
              exact ⟨_, rfl, ⟨_, HNIL.out _, fun k e => e.elim⟩, G2.out⟩
          · have HSTo14 := Lib.hid (HSTg6.out.trans (if_pos hq))
            have hqb : ((q : Int) != 0) = true := by rw [bne_iff_ne]; omega
            clear hnl
            go_wp2_with fail
            refine (HN.out _).mono ?_
            rintro e w1 ⟨rfl, g1⟩
            have G1 := Lib.hid (only_trans HGr.out g1)
            clear g1
            go_wp2_with fail
            go_ret3
            rw [HSTo14.out]
            exact ⟨_, rfl, ⟨_, HNIL.out _, fun k e => e.elim⟩, G1.out⟩
        · have hie : x - acc.length = 0 := by omega
          rw [hie, glK_zero] at HR
          go_wp2_with fail
          go_ret3
          rw [HR.out]
          exact ⟨_, rfl, ⟨T, HO.out, HTT.out⟩, HGr.out⟩
  · have HXp15 := Lib.hid (HXb1.out.trans (if_pos h0))
    have hqb : ((E : Int) != 0) = true := by rw [bne_iff_ne]; omega
    clear h0 hl
    go_enter Tryz.func17, Tryz.ntmps17
    go_wp2_with fail
    refine HG.out.mono ?_
    rintro e w1 ⟨rfl, rfl⟩
    go_wp2_with fail
    go_ret3
    rw [HXp15.out]
    exact ⟨_, rfl, ⟨_, HNIL.out _, fun k e => e.elim⟩, only_refl _ _⟩

set_option maxRecDepth 100000 in
theorem rgetK_any (s : ByteArray) (hs : s.size ≤ 400000) (w : World) :
    Calls Tryz.prog 14 #[.string s] w fun e w' => ∃ v, e = .returned (.tuple #[v, .int .i64 ((getK s.data.toList).2 : Nat)]) ∧ (∃ T : Nat → Prop, OwnR 97 w.heap.size T w' v (getK s.data.toList).1 ∧ ∀ k, T k → w.heap.size ≤ k) ∧ w.grownBy w' none := by
  have HN := Lib.hid (rnextK_any s hs w)
  have HX : Hid (getK s.data.toList = if (nextK s.data.toList).2.2 ≠ 0 then ([], (nextK s.data.toList).2.2) else if (nextK s.data.toList).2.1 ≠ [] then ([], 10) else ((nextK s.data.toList).1, 0)) := rfl
  have hnl := nextK_lt s.data.toList
  have HNIL := Lib.hid (fun (w' : World) => OwnR.nil 97 w.heap.size (fun _ => False) w' (fun k e => e.elim))
  generalize getK s.data.toList = PP at *
  generalize nextK s.data.toList = R at *
  obtain ⟨l, rest, q⟩ := R
  simp only at HN HX hnl
  by_cases h1 : q = 0
  · subst h1
    have HXq1 := Lib.hid (HX.out.trans (if_neg (by simp)))
    by_cases h2 : rest = []
    · have HXq2 := Lib.hid (HXq1.out.trans (if_neg (by simp [h2])))
      have he : (txt rest).toList.isEmpty = true := by subst h2; rw [ByteArray.toList_eq, txt_list]; rfl
      clear h2
      generalize txt rest = T at *
      go_enter Tryz.func14, Tryz.ntmps14
      go_wp2_with fail
      refine HN.out.mono ?_
      rintro e w1 ⟨v, rfl, o1, g1⟩
      have O1 := Lib.hid o1
      have G1 := Lib.hid g1
      obtain ⟨_, hsh, -⟩ := o1
      obtain ⟨va, vc, rfl⟩ := hsh.rd.shape
      clear g1 hsh
      go_wp2_with fail
      go_ret2
      rw [HXq2.out]
      exact ⟨_, rfl, O1.out, G1.out⟩
    · have HXq3 := Lib.hid (HXq1.out.trans (if_pos h2))
      have he : (txt rest).toList.isEmpty = false := by
        rw [ByteArray.toList_eq, txt_list]
        simpa using h2
      clear h2
      generalize txt rest = T at *
      go_enter Tryz.func14, Tryz.ntmps14
      go_wp2_with fail
      refine HN.out.mono ?_
      rintro e w1 ⟨v, rfl, ⟨_, hsh, -⟩, g1⟩
      have G1 := Lib.hid g1
      obtain ⟨va, vc, rfl⟩ := hsh.rd.shape
      clear g1 hsh
      go_wp2_with fail
      go_ret2
      rw [HXq3.out]
      exact ⟨_, rfl, ⟨_, HNIL.out _, fun k e => e.elim⟩, G1.out⟩
  · have HXq4 := Lib.hid (HX.out.trans (if_pos h1))
    have hqb : ((q : Int) != 0) = true := by rw [bne_iff_ne]; omega
    clear h1
    go_enter Tryz.func14, Tryz.ntmps14
    go_wp2_with fail
    refine HN.out.mono ?_
    rintro e w1 ⟨v, rfl, ⟨_, hsh, -⟩, g1⟩
    have G1 := Lib.hid g1
    obtain ⟨va, vc, rfl⟩ := hsh.rd.shape
    clear g1 hsh
    go_wp2_with fail
    go_ret2
    rw [HXq4.out]
    exact ⟨_, rfl, ⟨_, HNIL.out _, fun k e => e.elim⟩, G1.out⟩

end Go.Proofs.YtbebdaglkjhbjaaGreatDoor.kr
