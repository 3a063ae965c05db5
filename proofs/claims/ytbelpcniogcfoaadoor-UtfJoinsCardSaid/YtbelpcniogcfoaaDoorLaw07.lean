/-
  The statements of layer 7, for whatever keeps the contracts of texts.
-/
import Derived.Test.YtbelpcniogcfoaaDoorUgood
import Derived.Test.YtbelpcniogcfoaaDoorShelf
namespace Go.Proofs.YtbelpcniogcfoaaDoor.law07
open Go.RowKit Go.Proofs.YtbelpcniogcfoaaDoor.um
set_option linter.unusedVariables false
set_option linter.unusedSimpArgs false

/-- What the laws ask of package utf (Tab: what must lie in memory from the start on). -/
structure UI where
  Tab : World → Prop
  kept : ∀ {w w' : World}, Tab w → w.grownBy w' none → Tab w'
  awake6 : ∀ w : World, Calls Tryd.prog 33 #[] w fun e w' => e = .returned (.bool true) ∧ w.grownBy w' none
  good : ∀ (s : ByteArray) (w : World), s.size ≤ 10000 → Tab w → Calls Tryd.prog 13 #[.string s] w fun e w' => e = .returned (.bool (goodR s.data.toList)) ∧ w.grownBy w' none
  check : ∀ (s : ByteArray) (least most : Int) (w : World), s.size ≤ 10000 → Tab w → Calls Tryd.prog 14 #[.string s, .int .i64 least, .int .i64 most] w fun e w' => e = .returned (.int .i64 (checkN s least most : Nat)) ∧ w.grownBy w' none
  count : ∀ (s : ByteArray) (w : World), s.size ≤ 10000 → Tab w → Calls Tryd.prog 16 #[.string s] w fun e w' => e = .returned (.int .i64 (countR s.data.toList : Nat)) ∧ w.grownBy w' none
  trim : ∀ (s : ByteArray) (most : Int) (w : World), s.size ≤ 10000 → -9223372036854775808 ≤ most → most ≤ 9223372036854775807 → Tab w → Calls Tryd.prog 10 #[.string s, .int .i64 most] w fun e w' => ∃ k : Nat, e = .returned (.string (s.extract 0 k)) ∧ k ≤ s.size ∧ ((k : Int) ≤ max most 0) ∧ (goodR s.data.toList = true → k = trimN s.data.toList most) ∧ w.grownBy w' none

theorem bad_c080 : goodR (⟨#[192, 128]⟩ : ByteArray).data.toList = false := goodR_bad (by simp) (by decide)
theorem good_a0e : goodR (⟨#[97, 0, 195, 169]⟩ : ByteArray).data.toList = true := by
  rw [goodR_step (by simp) (by decide)]
  show goodR [0, 195, 169] = true
  rw [goodR_step (by simp) (by decide)]
  show goodR [195, 169] = true
  rw [goodR_step (by simp) (by decide)]
  show goodR [] = true
  exact goodR_nil

theorem awake_any (I : UI) (w : World) (hT : I.Tab w) :
    Calls Tryd.prog 8 #[] w fun e w' => e = .returned (.bool true) ∧ w.grownBy w' none := by
  have HA := Lib.hid (I.awake6 w)
  have HT := Lib.hid (fun w' (g : w.grownBy w' none) => I.kept hT g)
  have HG1 := Lib.hid (fun w' h => I.good ⟨#[192, 128]⟩ w' (by decide) h)
  have HG2 := Lib.hid (fun w' h => I.good ⟨#[97, 0, 195, 169]⟩ w' (by decide) h)
  rw [bad_c080] at HG1
  rw [good_a0e] at HG2
  go_enter Tryd.func8, Tryd.ntmps8
  go_wp2_with fail
  refine HA.out.mono ?_
  rintro e w1 ⟨rfl, g1⟩
  have G1 := Lib.hid g1
  clear g1
  go_wp2_with fail
  refine (HG1.out _ (HT.out _ G1.out)).mono ?_
  rintro e w2 ⟨rfl, g2⟩
  have G2 := Lib.hid (only_trans G1.out g2)
  clear g2
  go_wp2_with fail
  refine (HG2.out _ (HT.out _ G2.out)).mono ?_
  rintro e w3 ⟨rfl, g3⟩
  go_wp2_with fail
  go_ret
  exact ⟨rfl, only_trans G2.out g3⟩

theorem Awake_any (I : UI) (w : World) (hT : I.Tab w) :
    Calls Tryd.prog 39 #[] w fun e w' => e = .returned (.bool true) ∧ w.grownBy w' none := by
  go_enter Tryd.func39, Tryd.ntmps39
  go_wp2_with (go_at_call 8; refine (awake_any I _ hT).mono ?_; rintro e w' ⟨rfl, g⟩)
  go_ret
  exact ⟨rfl, g⟩

theorem prefix_of (s : ByteArray) (k : Nat) : Lib.hasPrefix s.data.toList (s.extract 0 k).data.toList = true := by
  have : (s.extract 0 k).data.toList = s.data.toList.take k := by simp
  rw [this]
  unfold Lib.hasPrefix
  exact List.isPrefixOf_iff_prefix.2 (List.take_prefix k _)

set_option maxHeartbeats 4000000 in
set_option maxRecDepth 100000 in
theorem tells_any (I : UI) (W : World) (hT : I.Tab W) (s : ByteArray) (hs : s.size ≤ maxLen) (least most : Int) (hm1 : -9223372036854775808 ≤ most) (hm2 : most ≤ 9223372036854775807) :
    Calls Tryd.prog 3 #[.string s, .int .i64 least, .int .i64 most] W fun e w' => e = .returned (.bool true) ∧ W.grownBy w' none := by
  have HA := Lib.hid (awake_any I W hT)
  by_cases hl : 2000 < s.size
  · unfold maxLen at hs
    go_enter Tryd.func3, Tryd.ntmps3
    go_wp2_with fail
    refine HA.out.mono ?_
    rintro e w1 ⟨rfl, g1⟩
    go_wp2_with fail
    go_ret
    exact ⟨rfl, g1⟩
  · have HT := Lib.hid (fun w' (g : W.grownBy w' none) => I.kept hT g)
    have HGD := Lib.hid (fun w' h => I.good s w' (by omega) h)
    have HCK := Lib.hid (fun w' h => I.check s least most w' (by omega) h)
    have HCT := Lib.hid (fun w' h => I.count s w' (by omega) h)
    have HTR := Lib.hid (fun w' h => I.trim s most w' (by omega) hm1 hm2 h)
    have HRG := Lib.hid (fun w => rgood_any s (by omega) w)
    have HRC := Lib.hid (fun w => rcheck_any s (by omega) least most w)
    have HRN := Lib.hid (fun w => rcount_any s (by omega) w)
    have HRT := Lib.hid (fun w h => rtrim_any s (by omega) most hm1 hm2 h w)
    have HPF := Lib.hid (prefix_of s)
    cases hg : goodR s.data.toList with
    | true =>
      rw [hg] at HGD HRG
      have HG := Lib.hid hg
      clear hg hs
      go_enter Tryd.func3, Tryd.ntmps3
      go_wp2_with fail
      refine HA.out.mono ?_
      rintro e w1 ⟨rfl, g1⟩
      have G1 := Lib.hid g1
      clear g1
      go_wp2_with fail
      refine (HRG.out _).mono ?_
      rintro e w' ⟨rfl, rfl⟩
      go_wp2_with fail
      refine (HTR.out _ (HT.out _ G1.out)).mono ?_
      rintro e w2 ⟨k, rfl, hk1, hk2, hk3, g2⟩
      have G2 := Lib.hid (only_trans G1.out g2)
      have HK := Lib.hid (hk3 HG.out)
      have hks : (s.extract 0 k).size = k := by simp; omega
      have hk2' : ¬ max most 0 < (k : Int) := by omega
      have hpx := HPF.out k
      have HEQ := Lib.hid (congrArg (fun n => s.extract 0 n) HK.out)
      have HRT2 := Lib.hid (fun w => HRT.out w HG.out)
      rw [← HK.out] at HRT2
      clear g2 hk3
      generalize s.extract 0 k = T at *
      go_wp2_with fail
      refine (Tryd.strings_HasPrefix s T _).mono ?_
      rintro e w' ⟨rfl, rfl⟩
      rw [hpx]
      go_wp2_with fail
      refine (HRT2.out _).mono ?_
      rintro e w' ⟨rfl, rfl⟩
      go_wp2_with fail
      refine (HGD.out _ (HT.out _ G2.out)).mono ?_
      rintro e w3 ⟨rfl, g3⟩
      have G3 := Lib.hid (only_trans G2.out g3)
      clear g3
      go_wp2_with fail
      refine (HCK.out _ (HT.out _ G3.out)).mono ?_
      rintro e w4 ⟨rfl, g4⟩
      have G4 := Lib.hid (only_trans G3.out g4)
      clear g4
      go_wp2_with fail
      refine (HRC.out _).mono ?_
      rintro e w' ⟨rfl, rfl⟩
      go_wp2_with fail
      refine (HCT.out _ (HT.out _ G4.out)).mono ?_
      rintro e w5 ⟨rfl, g5⟩
      have G5 := Lib.hid (only_trans G4.out g5)
      clear g5
      go_wp2_with fail
      refine (HRN.out _).mono ?_
      rintro e w' ⟨rfl, rfl⟩
      go_wp2_with fail
      go_ret
      exact ⟨by first | rfl | simp, G5.out⟩
    | false =>
      rw [hg] at HGD HRG
      clear hg hs HRT
      go_enter Tryd.func3, Tryd.ntmps3
      go_wp2_with fail
      refine HA.out.mono ?_
      rintro e w1 ⟨rfl, g1⟩
      have G1 := Lib.hid g1
      clear g1
      go_wp2_with fail
      refine (HRG.out _).mono ?_
      rintro e w' ⟨rfl, rfl⟩
      go_wp2_with fail
      refine (HTR.out _ (HT.out _ G1.out)).mono ?_
      rintro e w2 ⟨k, rfl, hk1, hk2, -, g2⟩
      have G2 := Lib.hid (only_trans G1.out g2)
      have hks : (s.extract 0 k).size = k := by simp; omega
      have hk2' : ¬ max most 0 < (k : Int) := by omega
      have hpx := HPF.out k
      clear g2
      generalize s.extract 0 k = T at *
      go_wp2_with fail
      refine (Tryd.strings_HasPrefix s T _).mono ?_
      rintro e w' ⟨rfl, rfl⟩
      rw [hpx]
      go_wp2_with fail
      refine (HGD.out _ (HT.out _ G2.out)).mono ?_
      rintro e w3 ⟨rfl, g3⟩
      have G3 := Lib.hid (only_trans G2.out g3)
      clear g3
      go_wp2_with fail
      refine (HCK.out _ (HT.out _ G3.out)).mono ?_
      rintro e w4 ⟨rfl, g4⟩
      have G4 := Lib.hid (only_trans G3.out g4)
      clear g4
      go_wp2_with fail
      refine (HRC.out _).mono ?_
      rintro e w' ⟨rfl, rfl⟩
      go_wp2_with fail
      refine (HCT.out _ (HT.out _ G4.out)).mono ?_
      rintro e w5 ⟨rfl, g5⟩
      have G5 := Lib.hid (only_trans G4.out g5)
      clear g5
      go_wp2_with fail
      refine (HRN.out _).mono ?_
      rintro e w' ⟨rfl, rfl⟩
      go_wp2_with fail
      go_ret
      exact ⟨by first | rfl | simp, G5.out⟩

end Go.Proofs.YtbelpcniogcfoaaDoor.law07
