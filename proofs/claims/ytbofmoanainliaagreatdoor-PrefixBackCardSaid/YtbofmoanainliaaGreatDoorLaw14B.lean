/-
  The law PrefixBack, against package prefix's contracts.
-/
import Derived.Test.YtbofmoanainliaaGreatDoorBundX
namespace Go.Proofs.YtbofmoanainliaaGreatDoor.law14
open Go.RowKit Go.Proofs.YtbofmoanainliaaGreatDoor.vi Go.Proofs.YtbofmoanainliaaGreatDoor.um Go.Proofs.YtbofmoanainliaaGreatDoor.wm Go.Proofs.YtbofmoanainliaaGreatDoor.tr Go.Proofs.YtbofmoanainliaaGreatDoor.em Go.Proofs.YtbofmoanainliaaGreatDoor.rm Go.Proofs.YtbofmoanainliaaGreatDoor.fm Go.Proofs.YtbofmoanainliaaGreatDoor.crc Go.Proofs.YtbofmoanainliaaGreatDoor.rr Go.Proofs.YtbofmoanainliaaGreatDoor.pl
set_option linter.unusedVariables false
set_option linter.unusedSimpArgs false

theorem lt_asymm {a b : Bs} (h : lt a b = true) : lt b a = false := less_asymm h
theorem ls_str (l : List Bs) : ls (l.map str) = l := by
  unfold ls
  rw [List.map_map]
  conv => rhs; rw [← List.map_id l]
  exact List.map_congr_left fun x _ => rfl

theorem str_ls (xs : List ByteArray) : (ls xs).map str = xs := by
  unfold ls
  rw [List.map_map]
  conv => rhs; rw [← List.map_id xs]
  exact List.map_congr_left fun x _ => str_of x
/-- What may be written lies in order. -/
theorem rise_next {xs : List ByteArray} (h : (putP none (ls xs)).2 = 0) (j : Nat) (x y : ByteArray) (hx : xs[j]? = some x) (hy : xs[j + 1]? = some y) : lt x.data.toList y.data.toList = true := by
  have hp := putP_rise (ls xs) none h
  simp only [Option.toList, List.nil_append] at hp
  have h1 : (ls xs)[j]? = some x.data.toList := by simp [ls, hx]
  have h2 : (ls xs)[j + 1]? = some y.data.toList := by simp [ls, hy]
  obtain ⟨l1, e1⟩ := List.getElem?_eq_some_iff.1 h1
  obtain ⟨l2, e2⟩ := List.getElem?_eq_some_iff.1 h2
  have := List.pairwise_iff_getElem.1 hp j (j + 1) l1 l2 (by omega)
  rw [e1, e2] at this
  exact this

/-- Equal texts, however they lie. -/
theorem equal_strs (xs : List ByteArray) (w : World) (a1 a2 : Option Addr) (c1 c2 : Nat) (hl : xs.length ≤ maxLen) (h1 : Strs w a1 xs.length c1 xs) (h2 : Strs w a2 xs.length c2 xs) :
    Calls Tryz.prog 33 #[.slice a1 xs.length c1, .slice a2 xs.length c2] w fun e w' => e = .returned (.bool true) ∧ w.grownBy w' none := by
  unfold maxLen at hl
  by_cases h0 : xs.length = 0
  · rw [h0]
    exact (Tryz.slices_Equal_string_empty a1 a2 c1 0 c2 w (by omega)).mono fun e w' ⟨he, hw⟩ => ⟨by rw [he]; rfl, hw ▸ only_refl _ _⟩
  · obtain ⟨b1, o1, rfl, -, -, k1⟩ := h1.2.2.resolve_left h0
    obtain ⟨b2, o2, rfl, -, -, k2⟩ := h2.2.2.resolve_left h0
    have := Tryz.slices_Equal_string b1 o1 xs.length c1 b2 o2 xs.length c2 xs xs w (by omega) (by omega) (by omega) (by omega) (fun j hj => by rw [k1 j xs[j] (List.getElem?_eq_getElem hj), List.getD_eq_getElem?_getD, List.getElem?_eq_getElem hj]; rfl) (fun j hj => by rw [k2 j xs[j] (List.getElem?_eq_getElem hj), List.getD_eq_getElem?_getD, List.getElem?_eq_getElem hj]; rfl)
    exact this.mono fun e w' ⟨he, q, hw⟩ => ⟨by rw [he]; simp, hw ▸ only_drewN (only_refl _ _) _⟩


set_option maxHeartbeats 4000000 in
set_option maxRecDepth 100000 in
theorem back_any (I : PCore) (W : World) (hT : I.Tab W) (xs : List ByteArray) (a : Option Addr) (cap : Nat) (s : ByteArray) (hl : xs.length ≤ maxLen) (hs : s.size ≤ maxLen) (h : Strs W a xs.length cap xs) :
    Calls Tryz.prog 7 #[.slice a xs.length cap, .string s] W fun e w' => e = .returned (.bool true) ∧ W.grownBy w' none := by
  have HA := Lib.hid (awake_any I W hT)
  have HS := Lib.hid h
  have HF := Lib.hid (fun w (g : W.grownBy w none) => few_any xs w a cap hl (h.kept g))
  have Hl := Lib.hid hl
  unfold maxLen at hs hl
  clear hT h
  cases hf : fewP xs with
  | false =>
    rw [hf] at HF
    go_enter Tryz.func7, Tryz.ntmps7
    go_wp2_with fail
    refine HA.out.mono ?_
    rintro e w1 ⟨rfl, g1⟩
    have G1 := Lib.hid g1
    clear g1
    go_wp2_with fail
    refine (HF.out _ G1.out).mono ?_
    rintro e w2 ⟨rfl, g2⟩
    go_wp2_with fail
    go_ret
    exact ⟨rfl, only_trans G1.out g2⟩
  | true =>
    rw [hf] at HF
    by_cases hb : (3000 : Int) < s.size
    · go_enter Tryz.func7, Tryz.ntmps7
      go_wp2_with fail
      refine HA.out.mono ?_
      rintro e w1 ⟨rfl, g1⟩
      have G1 := Lib.hid g1
      clear g1
      go_wp2_with fail
      refine (HF.out _ G1.out).mono ?_
      rintro e w2 ⟨rfl, g2⟩
      go_wp2_with fail
      go_ret
      exact ⟨rfl, only_trans G1.out g2⟩
    · obtain ⟨f1, f2⟩ := few_facts hf
      have F2 := Lib.hid f2
      clear hf f2
      have HP := Lib.hid (fun w (g : W.grownBy w none) => I.put xs w a cap (by omega) (fun x hx => by have := F2.out x hx; omega) (HS.out.kept g))
      have HRN := Lib.hid (@rise_next xs)
      have hpl := putP_len (ls xs) none 300 (by intro z hz; simp [ls] at hz; obtain ⟨x, hx, rfl⟩ := hz; have := F2.out x hx; simpa using this) (by omega)
      have hlsl : (ls xs).length = xs.length := by simp [ls]
      have hp7 := putP_lt64 (ls xs) none
      have HAL := Lib.hid (allP_put (ls xs) none (putP none (ls xs)).1.length (by intro z hz; simp [ls] at hz; obtain ⟨x, hx, rfl⟩ := hz; have := F2.out x hx; simp; omega))
      go_enter Tryz.func7, Tryz.ntmps7
      go_wp2_with fail
      refine HA.out.mono ?_
      rintro e w1 ⟨rfl, g1⟩
      have G1 := Lib.hid g1
      clear g1
      go_wp2_with fail
      refine (HF.out _ G1.out).mono ?_
      rintro e w2 ⟨rfl, g2⟩
      have G2 := Lib.hid (only_trans G1.out g2)
      clear g2
      go_wp2_with fail
      have HAS := Lib.hid (fun w => I.all s w (by omega))
      have HRE := Lib.hid (allP_err s.size none s.data.toList)
      have HRS := Lib.hid (allP_small s.size none s.data.toList)
      have Hsl := Lib.hid (show s.data.toList.length = s.size by simp)
      rw [Hsl.out] at HRS
      have HSX := Lib.hid (allP_ok s.size none s.data.toList (Nat.le_of_eq Hsl.out))
      generalize hRR : allP s.size none s.data.toList = R at *
      clear hRR
      refine (HP.out _ G2.out).mono ?_
      rintro e w3 ⟨rfl, g3⟩
      have G3 := Lib.hid (only_trans G2.out g3)
      clear g3
      rcases hp7 with h0 | h7
      · have HAL2 := HAL.out h0 (Nat.le_refl _)
        have HAX := Lib.hid (fun w => I.all (txt (putP none (ls xs)).1) w (by rw [txt_size]; omega))
        have hLs : (txt (putP none (ls xs)).1).size = (putP none (ls xs)).1.length := txt_size _
        rw [hLs, show (txt (putP none (ls xs)).1).data.toList = (putP none (ls xs)).1 from rfl, HAL2] at HAX
        rw [h0]
        clear HAL2 hLs
        go_wp2_with fail
        refine (HAX.out _).mono ?_
        rintro e w4 ⟨v4, rfl, o4, g4⟩
        have G4 := Lib.hid (only_trans G3.out g4)
        obtain ⟨a4, c4, rfl⟩ := own_shape o4
        have hx4 := strs_own o4 rfl (fun x hx => by simp [ls] at hx; obtain ⟨z, hz, rfl⟩ := hx; have := F2.out z hz; simp; omega)
        rw [str_ls, hlsl] at hx4
        rw [hlsl]
        have HEQ := Lib.hid (fun w (g : w4.grownBy w none) => equal_strs xs w a4 a c4 cap Hl.out (hx4.kept g) (HS.out.kept (only_trans G4.out g)))
        have HSO := Lib.hid (fun w (g : w4.grownBy w none) => issorted_any xs w a cap (by omega) (HS.out.kept (only_trans G4.out g)) (fun j x y hx hy => lt_asymm (HRN.out h0 j x y hx hy)))
        clear g4 o4 hx4
        go_wp2_with fail
        refine (HEQ.out _ (only_refl _ _)).mono ?_
        rintro e w5 ⟨rfl, g5⟩
        have K5 := Lib.hid g5
        clear g5
        go_wp2_with fail
        refine (HSO.out _ K5.out).mono ?_
        rintro e w6 ⟨rfl, g6⟩
        have GT := Lib.hid (only_trans G4.out (only_trans K5.out g6))
        clear g6
        go_wp2_with fail
        refine (HAS.out _).mono ?_
        rintro e w8 ⟨v5, rfl, o5, g5⟩
        have G5 := Lib.hid (only_trans GT.out g5)
        obtain ⟨a5, c5, rfl⟩ := own_shape o5
        have HX5 := Lib.hid o5
        have hws : w6.heap.size ≤ w8.heap.size := g5.size
        clear o5 g5
        by_cases hq : R.2 = 0
        · have hqb : ((R.2 : Int) != 0) = false := by rw [hq]; rfl
          have HPX := Lib.hid (HSX.out hq)
          have HST := Lib.hid (strs_own HX5.out rfl (fun x hx => by have := HRS.out.2 x hx; simp at this; omega))
          have HPU := Lib.hid (I.put (R.1.map str) w8 a5 c5 (by have := HRS.out.1; simp; omega) (by intro z hz; obtain ⟨x, hx, rfl⟩ := List.mem_map.1 hz; have := HRS.out.2 x hx; rw [str_size]; simp at this; omega) (by rw [List.length_map]; exact HST.out))
          have hpx : putP none (ls (R.1.map str)) = (s.data.toList, 0) := by rw [ls_str]; exact HPX.out
          have HRX := Lib.hid (@rise_next (R.1.map str) (by rw [hpx]))
          have hml : (R.1.map str).length = R.1.length := List.length_map ..
          have HSO5 := Lib.hid (fun w (g : w8.grownBy w none) => issorted_any (R.1.map str) w a5 c5 (by have := HRS.out.1; rw [hml]; omega) (by rw [hml]; exact HST.out.kept g) (fun j x y hx hy => lt_asymm (HRX.out j x y hx hy)))
          have HCL := Lib.hid (fun w (g : w8.grownBy w none) => tclone_any R.1 w6.heap.size w (.slice a5 R.1.length c5) (by have := HRS.out.1; omega) (HX5.out.kept g))
          have HCO := Lib.hid (fun w b c (k : Strs w b R.1.length c (R.1.map str)) => compact_any (R.1.map str) w b c (by have := HRS.out.1; rw [hml]; omega) (by rw [hml]; exact k) (fun j x y hx hy e => by have := HRX.out j x y hx hy; rw [e] at this; unfold lt at this; rw [less_irrefl] at this; cases this))
          rw [hpx, hml] at HPU
          rw [hml] at HSO5 HCO
          have HPU2 : Hid (Calls Tryz.prog 26 #[.slice a5 R.1.length c5] w8 fun e w' => e = .returned (.tuple #[.string s, .int .i64 0]) ∧ w8.grownBy w' none) := by
            have := HPU.out
            simp only [txt_of] at this
            exact this
          have hbe : (s.toList == s.toList) = true := by simp
          have HRL := Lib.hid (fun x (hx : x ∈ R.1) => (show x.length ≤ 1000000 by have := HRS.out.2 x hx; simp at this; omega))
          have HWL := Lib.hid HRS.out.1
          clear HPU HST hpx hml HPX
          rw [hq]
          generalize R.1 = l at *
          go_wp2_with fail
          refine HPU2.out.mono ?_
          rintro e w9 ⟨rfl, g6⟩
          have G6 := Lib.hid (only_trans G5.out g6)
          have K6 := Lib.hid g6
          clear g6
          go_wp2_with fail
          refine (HSO5.out _ K6.out).mono ?_
          rintro e w10 ⟨rfl, g7⟩
          have G7 := Lib.hid (only_trans G6.out g7)
          have K7 := Lib.hid (only_trans K6.out g7)
          clear g7
          go_wp2_with fail
          refine (HCL.out _ K7.out).mono ?_
          rintro e wc ⟨vc, rfl, oc, gc⟩
          have GC := Lib.hid (only_trans G7.out gc)
          obtain ⟨ac, cc, rfl⟩ := own_shape oc
          have HSC := Lib.hid (HCO.out wc _ _ (strs_own oc rfl HRL.out))
          clear oc gc
          go_wp2_with fail
          refine HSC.out.mono ?_
          rintro e wd ⟨rfl, gd⟩
          go_wp2_with fail
          go_ret
          first | exact ⟨rfl, only_trans GC.out gd⟩ | exact ⟨ret1 (congrArg Value.bool (by simp)), only_trans GC.out gd⟩
        · have hqb : ((R.2 : Int) != 0) = true := by rw [bne_iff_ne]; omega
          have hR1 : R.1.length = 0 := by rw [HRE.out hq]; rfl
          rw [hR1]
          go_wp2_with fail
          go_ret
          exact ⟨rfl, G5.out⟩
      · rw [h7]
        have GT := G3
        go_wp2_with fail
        refine (HAS.out _).mono ?_
        rintro e w5 ⟨v5, rfl, o5, g5⟩
        have G5 := Lib.hid (only_trans GT.out g5)
        obtain ⟨a5, c5, rfl⟩ := own_shape o5
        have HX5 := Lib.hid o5
        have hws : w3.heap.size ≤ w5.heap.size := g5.size
        clear o5 g5
        by_cases hq : R.2 = 0
        · have hqb : ((R.2 : Int) != 0) = false := by rw [hq]; rfl
          have HPX := Lib.hid (HSX.out hq)
          have HST := Lib.hid (strs_own HX5.out rfl (fun x hx => by have := HRS.out.2 x hx; simp at this; omega))
          have HPU := Lib.hid (I.put (R.1.map str) w5 a5 c5 (by have := HRS.out.1; simp; omega) (by intro z hz; obtain ⟨x, hx, rfl⟩ := List.mem_map.1 hz; have := HRS.out.2 x hx; rw [str_size]; simp at this; omega) (by rw [List.length_map]; exact HST.out))
          have hpx : putP none (ls (R.1.map str)) = (s.data.toList, 0) := by rw [ls_str]; exact HPX.out
          have HRX := Lib.hid (@rise_next (R.1.map str) (by rw [hpx]))
          have hml : (R.1.map str).length = R.1.length := List.length_map ..
          have HSO5 := Lib.hid (fun w (g : w5.grownBy w none) => issorted_any (R.1.map str) w a5 c5 (by have := HRS.out.1; rw [hml]; omega) (by rw [hml]; exact HST.out.kept g) (fun j x y hx hy => lt_asymm (HRX.out j x y hx hy)))
          have HCL := Lib.hid (fun w (g : w5.grownBy w none) => tclone_any R.1 w3.heap.size w (.slice a5 R.1.length c5) (by have := HRS.out.1; omega) (HX5.out.kept g))
          have HCO := Lib.hid (fun w b c (k : Strs w b R.1.length c (R.1.map str)) => compact_any (R.1.map str) w b c (by have := HRS.out.1; rw [hml]; omega) (by rw [hml]; exact k) (fun j x y hx hy e => by have := HRX.out j x y hx hy; rw [e] at this; unfold lt at this; rw [less_irrefl] at this; cases this))
          rw [hpx, hml] at HPU
          rw [hml] at HSO5 HCO
          have HPU2 : Hid (Calls Tryz.prog 26 #[.slice a5 R.1.length c5] w5 fun e w' => e = .returned (.tuple #[.string s, .int .i64 0]) ∧ w5.grownBy w' none) := by
            have := HPU.out
            simp only [txt_of] at this
            exact this
          have hbe : (s.toList == s.toList) = true := by simp
          have HRL := Lib.hid (fun x (hx : x ∈ R.1) => (show x.length ≤ 1000000 by have := HRS.out.2 x hx; simp at this; omega))
          have HWL := Lib.hid HRS.out.1
          clear HPU HST hpx hml HPX
          rw [hq]
          generalize R.1 = l at *
          go_wp2_with fail
          refine HPU2.out.mono ?_
          rintro e w6 ⟨rfl, g6⟩
          have G6 := Lib.hid (only_trans G5.out g6)
          have K6 := Lib.hid g6
          clear g6
          go_wp2_with fail
          refine (HSO5.out _ K6.out).mono ?_
          rintro e w7 ⟨rfl, g7⟩
          have G7 := Lib.hid (only_trans G6.out g7)
          have K7 := Lib.hid (only_trans K6.out g7)
          clear g7
          go_wp2_with fail
          refine (HCL.out _ K7.out).mono ?_
          rintro e wc ⟨vc, rfl, oc, gc⟩
          have GC := Lib.hid (only_trans G7.out gc)
          obtain ⟨ac, cc, rfl⟩ := own_shape oc
          have HSC := Lib.hid (HCO.out wc _ _ (strs_own oc rfl HRL.out))
          clear oc gc
          go_wp2_with fail
          refine HSC.out.mono ?_
          rintro e wd ⟨rfl, gd⟩
          go_wp2_with fail
          go_ret
          first | exact ⟨rfl, only_trans GC.out gd⟩ | exact ⟨ret1 (congrArg Value.bool (by simp)), only_trans GC.out gd⟩
        · have hqb : ((R.2 : Int) != 0) = true := by rw [bne_iff_ne]; omega
          have hR1 : R.1.length = 0 := by rw [HRE.out hq]; rfl
          rw [hR1]
          go_wp2_with fail
          go_ret
          exact ⟨rfl, G5.out⟩

end Go.Proofs.YtbofmoanainliaaGreatDoor.law14
