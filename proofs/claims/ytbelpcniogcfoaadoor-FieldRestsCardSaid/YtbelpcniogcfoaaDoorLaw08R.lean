/-
  FieldRests, for whatever keeps the contracts of fields.
-/
import Derived.Test.YtbelpcniogcfoaaDoorLaw08T
import Derived.Test.YtbelpcniogcfoaaDoorBundT
import Derived.Deep.RegionHeld3
namespace Go.Proofs.YtbelpcniogcfoaaDoor.law08
open Go.RowKit Go.Proofs.YtbelpcniogcfoaaDoor.tr
set_option linter.unusedVariables false
set_option linter.unusedSimpArgs false

set_option maxHeartbeats 2000000 in
set_option maxRecDepth 100000 in
theorem rests_early (I : FI) (W : World) (hT : I.Tab W) (a : Option Addr) (ca : Nat) (xs : List OneT) (hx : xs.length ≤ maxLen) (ha : Ones W.heap.size W a ca xs) (at' : Nat) (hat : at' < 256)
    (hl : fewB xs = false ∨ fromL xs 0 = [] ∨ checkL 0 0 (fromL xs 0) ≠ 0) :
    Calls Tryd.prog 7 #[.slice a xs.length ca, .int .u8 (at' : Nat)] W fun e w' => e = .returned (.bool true) ∧ W.grownBy w' none := by
  have HA := Lib.hid (awake_any I W hT)
  have HF1 := Lib.hid (fun w (g : W.grownBy w none) => few_any xs hx _ w a ca (ha.grown g))
  cases hf : fewB xs with
  | false =>
    rw [hf] at HF1
    clear hl hf ha
    unfold maxLen at hx
    go_enter Tryd.func7, Tryd.ntmps7
    go_wp2_with fail
    refine HA.out.mono ?_
    rintro e w1 ⟨rfl, g1⟩
    go_wp2_with fail
    refine (HF1.out _ g1).mono ?_
    rintro e w2 ⟨rfl, g2⟩
    go_wp2_with fail
    go_ret
    exact ⟨rfl, only_trans g1 g2⟩
  | true =>
    rw [hf] at HF1
    have hlx := few_len hf
    have HM1 := Lib.hid (fun w (g : W.grownBy w none) => make_any xs (by omega) W.heap.size w a ca g.size (ha.grown g))
    have hsx := make_size xs
    have hbx : sizeL (fromL xs 0) ≤ 1000 := by omega
    have hll := len_size (fromL xs 0)
    have HCK := Lib.hid (fun w S v => I.check (fromL xs 0) w S v hbx)
    have hch := checkL_lt _ (fromL xs 0) 0 0 (Nat.le_refl _)
    rcases (show fromL xs 0 = [] ∨ (fromL xs 0 ≠ [] ∧ checkL 0 0 (fromL xs 0) ≠ 0) by
      by_cases he : fromL xs 0 = []
      · exact .inl he
      · rcases hl with h | h | h
        · rw [hf] at h; cases h
        · exact absurd h he
        · exact .inr ⟨he, h⟩) with he | ⟨he, hc⟩
    · have HE := Lib.hid he
      clear hl hf ha HCK hch hll hsx hbx he
      go_enter Tryd.func7, Tryd.ntmps7
      go_wp2_with fail
      refine HA.out.mono ?_
      rintro e w1 ⟨rfl, g1⟩
      go_wp2_with fail
      refine (HF1.out _ g1).mono ?_
      rintro e w2 ⟨rfl, g2⟩
      have G2 := Lib.hid (only_trans g1 g2)
      clear g1 g2
      go_wp2_with fail
      refine (HM1.out _ G2.out).mono ?_
      rintro e w3 ⟨v1, S1, rfl, o1, -, g3⟩
      have G3 := Lib.hid (only_trans G2.out g3)
      rw [HE.out] at o1
      obtain ⟨p1, q1, rfl⟩ := o1.rd.shape
      clear o1 g3
      go_wp2_with fail
      go_ret
      exact ⟨rfl, G3.out⟩
    · have hpos : 0 < (fromL xs 0).length := List.length_pos_iff.2 he
      clear hl hf ha he hsx hbx
      generalize fromL xs 0 = X at *
      generalize checkL 0 0 X = CK at *
      have hce : ((CK : Int) != 0) = true := by simp; omega
      have hpe : ((X.length : Int) == 0) = false := by rw [beq_eq_false_iff_ne]; omega
      go_enter Tryd.func7, Tryd.ntmps7
      go_wp2_with fail
      refine HA.out.mono ?_
      rintro e w1 ⟨rfl, g1⟩
      go_wp2_with fail
      refine (HF1.out _ g1).mono ?_
      rintro e w2 ⟨rfl, g2⟩
      have G2 := Lib.hid (only_trans g1 g2)
      clear g1 g2
      go_wp2_with fail
      refine (HM1.out _ G2.out).mono ?_
      rintro e w3 ⟨v1, S1, rfl, o1, -, g3⟩
      have G3 := Lib.hid (only_trans G2.out g3)
      have R1 := Lib.hid o1.rd
      obtain ⟨p1, q1, rfl⟩ := o1.rd.shape
      clear o1 g3
      go_wp2_with fail
      refine (HCK.out _ _ _ R1.out).mono ?_
      rintro e w4 ⟨rfl, g4⟩
      have G4 := Lib.hid (only_trans G3.out g4)
      clear g4
      go_wp2_with fail
      go_ret
      exact ⟨rfl, G4.out⟩

set_option maxHeartbeats 4000000 in
set_option maxRecDepth 100000 in
theorem rests_main (I : FI) (W : World) (hT : I.Tab W) (a : Option Addr) (ca : Nat) (xs : List OneT) (hx : xs.length ≤ maxLen) (ha : Ones W.heap.size W a ca xs) (at' : Nat) (hat : at' < 256)
    (hf : fewB xs = true) (he : fromL xs 0 ≠ []) (hc : checkL 0 0 (fromL xs 0) = 0) :
    Calls Tryd.prog 7 #[.slice a xs.length ca, .int .u8 (at' : Nat)] W fun e w' => e = .returned (.bool true) ∧ W.grownBy w' none := by
  have HA := Lib.hid (awake_any I W hT)
  have HF1 := Lib.hid (fun w (g : W.grownBy w none) => few_any xs hx _ w a ca (ha.grown g))
  rw [hf] at HF1
  have hlx := few_len hf
  have HM1 := Lib.hid (fun w (g : W.grownBy w none) => make_any xs (by omega) W.heap.size w a ca g.size (ha.grown g))
  have hsx := make_size xs
  have hbx : sizeL (fromL xs 0) ≤ 1000 := by omega
  clear hf ha hx
  have hpos : 0 < (fromL xs 0).length := List.length_pos_iff.2 he
  generalize fromL xs 0 = X at *
  have hll := len_size X
  have HCK := Lib.hid (fun w S v => I.check X w S v hbx)
  rw [hc] at HCK
  have HDP := Lib.hid (fun w S v => I.depth X w S v hbx)
  have hdp := check_depth _ X 0 0 (Nat.le_refl _) (by omega) hc
  obtain ⟨i, hi, hil⟩ : ∃ i : Nat, (at' : Int) % (X.length : Int) = (i : Int) ∧ i < X.length := ⟨at' % X.length, by simp, Nat.mod_lt _ hpos⟩
  obtain ⟨t, ht⟩ : ∃ t, X[i]? = some t := ⟨X[i], List.getElem?_eq_getElem hil⟩
  have hsp := split_at ht
  rw [hsp] at hc
  have hcut := check_cut 0 _ 0 t _ hc
  obtain ⟨hin1, hin2⟩ := check_in 0 _ 0 t _ hc
  have hin3 := check_less _ t.list 0 0 (Nat.le_refl _) (by omega) hin2
  have hts := size_mem ht
  have hs2 : sizeL (X.take i ++ X.drop (i + 1)) ≤ 1000 := by
    have := congrArg sizeL hsp
    rw [sizeL_append, sizeL_cons] at this
    rw [sizeL_append]
    omega
  have HC1 := Lib.hid (fun w S v => I.check (X.take i ++ X.drop (i + 1)) w S v hs2)
  rw [hcut] at HC1
  have HC2 := Lib.hid (fun w S v => I.check t.list w S v (by omega))
  rw [hin3] at HC2
  have HC3 := Lib.hid (fun w S v => I.check [t] w S v (by rw [sizeL_cons, sizeL]; omega))
  rw [hin1] at HC3
  have HCL := Lib.hid (fun w S v => I.clone (X.take i) w S v (by have := sizeL_take (ts := X) i; omega))
  have HTT := Lib.hid ht
  have hd8 : depthL X ≤ 8 := by omega
  have hsl : (X.drop (i + 1)).length = X.length - (i + 1) := by simp
  have HSL := Lib.hid hsl
  have HLT := Lib.hid (show (X.take i).length = i by simp; omega)
  have hX1 : (X.length : Int) ≠ 0 := by omega
  have hpe : ((X.length : Int) == 0) = false := by rw [beq_eq_false_iff_ne]; omega
  have hi0 : (0 : Int) ≤ (i : Int) := Int.natCast_nonneg _
  have hi1 : (i : Int) < (X.length : Int) := by omega
  have hi2 : (i : Int) + 1 ≤ (X.length : Int) := by omega
  have hl60 : X.length ≤ 60 := by omega
  generalize depthL X = DP at *
  clear hc hsp hcut hin1 hin2 hin3 hts hs2 ht hsl he hbx hsx hll hdp
  go_enter Tryd.func7, Tryd.ntmps7
  go_wp2_with fail
  refine HA.out.mono ?_
  rintro e w1 ⟨rfl, g1⟩
  go_wp2_with fail
  refine (HF1.out _ g1).mono ?_
  rintro e w2 ⟨rfl, g2⟩
  have G2 := Lib.hid (only_trans g1 g2)
  clear g1 g2
  go_wp2_with fail
  refine (HM1.out _ G2.out).mono ?_
  rintro e w3 ⟨v1, S1, rfl, o1, -, g3⟩
  have G3 := Lib.hid (only_trans G2.out g3)
  obtain ⟨b, off, cap, lv, hv, k1, k2, -, -, -, -⟩ := o1.rd.at HTT.out
  have R1 := Lib.hid o1.rd.tight
  subst hv
  clear o1 g3
  go_wp2_with fail
  refine (HCK.out _ _ _ R1.out).mono ?_
  rintro e w4 ⟨rfl, g4⟩
  have G4 := Lib.hid (only_trans G3.out g4)
  have R4 := Lib.hid (R1.out.grown g4)
  have hsz4 := g4.size
  clear g4
  unfold maxLen at k2
  have hk3 : (i : Int) + 1 ≤ (cap : Int) := by omega
  have hk4 : (X.length : Int) ≤ (cap : Int) := by omega
  have hk5 : (i : Int) ≤ (cap : Int) := by omega
  have hk6 : (i : Int) ≤ (X.length : Int) := by omega
  go_wp2_with fail
  rw [hi]
  obtain ⟨j, hj⟩ : ∃ j, j = i + 1 := ⟨_, rfl⟩
  rw [← hj] at HC1 HSL
  have hw : IntKind.i64.wrap ((i : Int) + 1) = (j : Int) := by rw [IntKind.wrap_i64]; omega
  have hj0 : (0 : Int) ≤ (j : Int) := Int.natCast_nonneg _
  have hj1 : (j : Int) ≤ (X.length : Int) := by omega
  have hj2 : (j : Int) ≤ (cap : Int) := by omega
  have hcc : cap = j ∨ cap ≠ j := by omega
  have HXD : Hid (∀ (w' : World) (q : Option Addr), w4.grownBy w' none → (cap ≠ j → q = some ⟨b, off + j * 5, none⟩) → Rd w' (fun k => (S1 k ∨ Value.ownBlock (Value.slice (some ⟨b, off, none⟩) X.length cap) = some k) ∧ k < w3.heap.size) (.slice q (X.length - j) (cap - j)) (X.drop j)) := fun w' q g hq =>
    (R4.out.grown g).drop j (by omega) q (fun h => hq (by omega))
  rcases hcc with hcc | hcc
  · have hcz : cap - j = 0 := by omega
    have hcn : cap = j := hcc
    rw [hcz] at HXD
    clear hcn
    have HCC := Lib.hid hcc
    clear hj hcc
    go_region_held3 (fun w' => True) (trivial)
      (first
        | (go_at_call 30; refine (HCL.out _ _ _ ((R4.out.grown (only_drew (only_refl _ none))).take i (by omega))).mono ?_; rintro e w6 ⟨v6, S6, rfl, o6, hS6, -, g6⟩; obtain ⟨p6, q6, hv6⟩ := o6.rd.shape; rw [HLT.out] at hv6; subst hv6; have HO6 := Lib.hid o6; have HS6 := Lib.hid hS6; have HG6 := Lib.hid g6; clear o6 hS6 g6)
        | (refine step_append_part (by rfl) _ _ _ _ (by rfl) w6 _ Tryd.underlying34 Tryd.infoF rfl w4.drew.heap.size S6 _ _ (X.take i) (X.drop j) (by rfl) HO6.out ⟨b, off, none⟩ 0 (X.length - j) HSL.out (by rfl) (by rw [HSL.out]; exact HXD.out w6 _ (only_trans (only_drew (only_refl _ none)) HG6.out) (fun h => absurd HCC.out h)) (fun k hk => by have h1 := HG6.out.size; simp at h1; omega) (fun k e hk => by have h1 := (HO6.out.lt k e).1; simp at h1; omega) (by simp; omega) (by have h1 := HG6.out.size; omega) ?_; intro v7 w7 ho7 hg7; have HO7 := Lib.hid ho7; have HG7 := Lib.hid hg7; clear ho7 hg7))
    have HG76 := Lib.hid (only_trans (only_drew G4.out) HG6.out)
    have HG7W := Lib.hid (below_to_none (below_of_only (below_of_none HG76.out) HG7.out HG76.out.size (fun k e => by have h1 := (HO6.out.lt k e).1; have h2 := G4.out.size; simp at h1; omega)))
    have R7 := Lib.hid ((R4.out.grown (only_trans (only_drew (only_refl w4 none)) HG6.out)).kept (Chg.of_grown (S := fun k => Value.ownBlock (Value.slice p6 i q6) = some k) HG7.out (fun k e => .inl e)) (fun k h1 h2 => by have h3 := (HO6.out.lt k h2).1; have h4 := hsz4; simp at h3; omega))
    go_wp2_with fail
    refine (HC1.out _ _ _ HO7.out.rd).mono ?_
    rintro e w8 ⟨rfl, g8⟩
    have HG8 := Lib.hid (only_trans HG7W.out g8)
    have R8 := Lib.hid (R7.out.grown g8)
    clear g8
    obtain ⟨b8, off8, cap8, lv8, hv8, -, -, -, hb8, hc8, hr8⟩ := R8.out.at HTT.out
    simp only [Value.slice.injEq, Option.some.injEq, Addr.mk.injEq, and_true, true_and] at hv8
    obtain ⟨⟨rfl, rfl⟩, rfl⟩ := hv8
    obtain ⟨c0, c1, c2, c3, c4⟩ := hc8
    have HR8 := Lib.hid hr8
    clear hr8
    go_wp2_with fail
    refine (HC2.out _ _ _ HR8.out).mono ?_
    rintro e w9 ⟨rfl, g9⟩
    have HG9 := Lib.hid (only_trans HG8.out g9)
    have R9 := Lib.hid (R8.out.grown g9)
    have HR9 := Lib.hid (HR8.out.grown g9)
    obtain ⟨la, lc, hlv⟩ := HR8.out.shape
    have d0 := g9.cell c0 (by simp)
    have d1 := g9.cell c1 (by simp)
    have d2 := g9.cell c2 (by simp)
    have d3 := g9.cell c3 (by simp)
    have d4 := g9.cell c4 (by simp)
    subst hlv
    clear g9 c0 c1 c2 c3 c4
    go_wp2_with fail
    refine (HC3.out _ _ _ (rd_one HR9.out)).mono ?_
    rintro e w10 ⟨rfl, g10⟩
    have HG10 := Lib.hid (only_trans (only_alloc HG9.out _) g10)
    have R10 := Lib.hid ((R9.out.grown (only_alloc (only_refl _ none) _)).grown g10)
    clear g10 d0 d1 d2 d3 d4
    go_wp2_with fail
    have hR10 := R10.out
    rw [HCC.out] at hR10
    refine (HDP.out _ _ _ hR10).mono ?_
    clear hR10
    rintro e w11 ⟨rfl, g11⟩
    have HG11 := Lib.hid (only_trans HG10.out g11)
    clear g11
    go_wp2_with fail
    go_ret
    exact ⟨by first | rfl | (simp; omega), HG11.out⟩
  · have hn1 : ¬ cap - j = 0 := by omega
    have hn2 : ¬ (cap : Int) - (j : Int) = 0 := by omega
    have hn3 : ¬ (cap : Int) = (j : Int) := by omega
    clear hj
    go_region_held3 (fun w' => True) (trivial)
      (first
        | (go_at_call 30; refine (HCL.out _ _ _ ((R4.out.grown (only_drew (only_refl _ none))).take i (by omega))).mono ?_; rintro e w6 ⟨v6, S6, rfl, o6, hS6, -, g6⟩; obtain ⟨p6, q6, hv6⟩ := o6.rd.shape; rw [HLT.out] at hv6; subst hv6; have HO6 := Lib.hid o6; have HS6 := Lib.hid hS6; have HG6 := Lib.hid g6; clear o6 hS6 g6)
        | (refine step_append_part (by rfl) _ _ _ _ (by rfl) w6 _ Tryd.underlying34 Tryd.infoF rfl w4.drew.heap.size S6 _ _ (X.take i) (X.drop j) (by rfl) HO6.out ⟨b, off + j * 5, none⟩ (cap - j) (X.length - j) HSL.out (by rfl) (by rw [HSL.out]; exact HXD.out w6 _ (only_trans (only_drew (only_refl _ none)) HG6.out) (fun _ => rfl)) (fun k hk => by have h1 := HG6.out.size; simp at h1; omega) (fun k e hk => by have h1 := (HO6.out.lt k e).1; simp at h1; omega) (by simp; omega) (by have h1 := HG6.out.size; omega) ?_; intro v7 w7 ho7 hg7; have HO7 := Lib.hid ho7; have HG7 := Lib.hid hg7; clear ho7 hg7))
    have HG76 := Lib.hid (only_trans (only_drew G4.out) HG6.out)
    have HG7W := Lib.hid (below_to_none (below_of_only (below_of_none HG76.out) HG7.out HG76.out.size (fun k e => by have h1 := (HO6.out.lt k e).1; have h2 := G4.out.size; simp at h1; omega)))
    have R7 := Lib.hid ((R4.out.grown (only_trans (only_drew (only_refl w4 none)) HG6.out)).kept (Chg.of_grown (S := fun k => Value.ownBlock (Value.slice p6 i q6) = some k) HG7.out (fun k e => .inl e)) (fun k h1 h2 => by have h3 := (HO6.out.lt k h2).1; have h4 := hsz4; simp at h3; omega))
    go_wp2_with fail
    refine (HC1.out _ _ _ HO7.out.rd).mono ?_
    rintro e w8 ⟨rfl, g8⟩
    have HG8 := Lib.hid (only_trans HG7W.out g8)
    have R8 := Lib.hid (R7.out.grown g8)
    clear g8
    obtain ⟨b8, off8, cap8, lv8, hv8, -, -, -, hb8, hc8, hr8⟩ := R8.out.at HTT.out
    simp only [Value.slice.injEq, Option.some.injEq, Addr.mk.injEq, and_true, true_and] at hv8
    obtain ⟨⟨rfl, rfl⟩, rfl⟩ := hv8
    obtain ⟨c0, c1, c2, c3, c4⟩ := hc8
    have HR8 := Lib.hid hr8
    clear hr8
    go_wp2_with fail
    refine (HC2.out _ _ _ HR8.out).mono ?_
    rintro e w9 ⟨rfl, g9⟩
    have HG9 := Lib.hid (only_trans HG8.out g9)
    have R9 := Lib.hid (R8.out.grown g9)
    have HR9 := Lib.hid (HR8.out.grown g9)
    obtain ⟨la, lc, hlv⟩ := HR8.out.shape
    have d0 := g9.cell c0 (by simp)
    have d1 := g9.cell c1 (by simp)
    have d2 := g9.cell c2 (by simp)
    have d3 := g9.cell c3 (by simp)
    have d4 := g9.cell c4 (by simp)
    subst hlv
    clear g9 c0 c1 c2 c3 c4
    go_wp2_with fail
    refine (HC3.out _ _ _ (rd_one HR9.out)).mono ?_
    rintro e w10 ⟨rfl, g10⟩
    have HG10 := Lib.hid (only_trans (only_alloc HG9.out _) g10)
    have R10 := Lib.hid ((R9.out.grown (only_alloc (only_refl _ none) _)).grown g10)
    clear g10 d0 d1 d2 d3 d4
    go_wp2_with fail
    refine (HDP.out _ _ _ R10.out).mono ?_
    rintro e w11 ⟨rfl, g11⟩
    have HG11 := Lib.hid (only_trans HG10.out g11)
    clear g11
    go_wp2_with fail
    go_ret
    exact ⟨by first | rfl | (simp; omega), HG11.out⟩

theorem rests_any (I : FI) (W : World) (hT : I.Tab W) (a : Option Addr) (ca : Nat) (xs : List OneT) (hx : xs.length ≤ maxLen) (ha : Ones W.heap.size W a ca xs) (at' : Nat) (hat : at' < 256) :
    Calls Tryd.prog 7 #[.slice a xs.length ca, .int .u8 (at' : Nat)] W fun e w' => e = .returned (.bool true) ∧ W.grownBy w' none := by
  cases hf : fewB xs with
  | false => exact rests_early I W hT a ca xs hx ha at' hat (.inl hf)
  | true =>
    by_cases he : fromL xs 0 = []
    · exact rests_early I W hT a ca xs hx ha at' hat (.inr (.inl he))
    · by_cases hc : checkL 0 0 (fromL xs 0) = 0
      · exact rests_main I W hT a ca xs hx ha at' hat hf he hc
      · exact rests_early I W hT a ca xs hx ha at' hat (.inr (.inr hc))

end Go.Proofs.YtbelpcniogcfoaaDoor.law08
