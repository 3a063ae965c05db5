/-
  UtfJoins, for whatever keeps the contracts of texts.
-/
import Derived.Test.YtbelpcniogcfoaaDoorLaw07
namespace Go.Proofs.YtbelpcniogcfoaaDoor.law07
open Go.RowKit Go.Proofs.YtbelpcniogcfoaaDoor.um
set_option linter.unusedVariables false
set_option linter.unusedSimpArgs false

theorem countR_le : ∀ (m : Nat) (L : List UInt8), L.length ≤ m → countR L ≤ L.length
  | m, [], _ => by rw [countR_nil]; simp
  | 0, x :: r, h => by simp at h
  | m + 1, x :: r, h => by
    rw [countR_step (by simp)]
    have hd : ((x :: r).drop (max 1 (firstR (x :: r)))).length ≤ r.length := by simp; omega
    have := countR_le m ((x :: r).drop (max 1 (firstR (x :: r)))) (by simp at h; omega)
    simp only [List.length_cons]
    omega

set_option maxHeartbeats 8000000 in
set_option maxRecDepth 100000 in
theorem joins_any (I : UI) (W : World) (hT : I.Tab W) (a : ByteArray) (ha : a.size ≤ maxLen) (b : ByteArray) (hb : b.size ≤ maxLen) (most : Int) (hm1 : -9223372036854775808 ≤ most) (hm2 : most ≤ 9223372036854775807) :
    Calls Tryd.prog 4 #[.string a, .string b, .int .i64 most] W fun e w' => e = .returned (.bool true) ∧ W.grownBy w' none := by
  have HA := Lib.hid (awake_any I W hT)
  by_cases hl : 2000 < a.size ∨ 2000 < b.size
  · unfold maxLen at ha hb
    rcases (show 2000 < a.size ∨ (¬ 2000 < a.size ∧ 2000 < b.size) by omega) with h | ⟨h, h'⟩ <;> clear hl
    all_goals
      go_enter Tryd.func4, Tryd.ntmps4
      go_wp2_with fail
      refine HA.out.mono ?_
      rintro e w1 ⟨rfl, g1⟩
      go_wp2_with fail
      go_ret
      exact ⟨rfl, g1⟩
  · have hab : (a ++ b : ByteArray).data.toList = a.data.toList ++ b.data.toList := by simp
    have hsz : (a ++ b : ByteArray).size ≤ 10000 := by rw [ByteArray.size_append]; omega
    have HT := Lib.hid (fun w' (g : W.grownBy w' none) => I.kept hT g)
    have HG1 := Lib.hid (fun w' h => I.good a w' (by omega) h)
    have HG2 := Lib.hid (fun w' h => I.good b w' (by omega) h)
    have HG3 := Lib.hid (fun w' h => I.good (a ++ b) w' hsz h)
    have HC1 := Lib.hid (fun w' h => I.count a w' (by omega) h)
    have HC2 := Lib.hid (fun w' h => I.count b w' (by omega) h)
    have HC3 := Lib.hid (fun w' h => I.count (a ++ b) w' hsz h)
    have HTR := Lib.hid (fun w' h => I.trim a most w' (by omega) hm1 hm2 h)
    have HGT := Lib.hid (fun k w' h => I.good (a.extract 0 k) w' (by simp; omega) h)
    rw [hab] at HG3 HC3
    have hla : a.data.toList.length = a.size := by simp
    have hlb : b.data.toList.length = b.size := by simp
    have happ := fun h => good_app _ a.data.toList b.data.toList (Nat.le_refl _) h
    have hleft := fun h h' => good_left _ a.data.toList b.data.toList (Nat.le_refl _) h h'
    have htf := trimN_facts _ a.data.toList most (Nat.le_refl _)
    have hex : ∀ k, (a.extract 0 k).data.toList = a.data.toList.take k := fun k => by simp
    have HEX := Lib.hid hex
    have hcl : ∀ L : List UInt8, countR L ≤ L.length := fun L => countR_le _ L (Nat.le_refl _)
    have hca := hcl a.data.toList
    have hcb := hcl b.data.toList
    clear hcl hex hab ha hb
    generalize hx : goodR a.data.toList = x at *
    generalize hy : goodR b.data.toList = y at *
    generalize hz : goodR (a.data.toList ++ b.data.toList) = z at *
    have HX := Lib.hid hx
    clear hx hy hz
    go_enter Tryd.func4, Tryd.ntmps4
    go_wp2_with fail
    refine HA.out.mono ?_
    rintro e w1 ⟨rfl, g1⟩
    have G1 := Lib.hid g1
    clear g1
    go_wp2_with fail
    refine (HG1.out _ (HT.out _ G1.out)).mono ?_
    rintro e w2 ⟨rfl, g2⟩
    have G2 := Lib.hid (only_trans G1.out g2)
    clear g2
    go_wp2_with fail
    refine (HG2.out _ (HT.out _ G2.out)).mono ?_
    rintro e w3 ⟨rfl, g3⟩
    have G3 := Lib.hid (only_trans G2.out g3)
    clear g3
    go_wp2_with fail
    refine (HG3.out _ (HT.out _ G3.out)).mono ?_
    rintro e w4 ⟨rfl, g4⟩
    have G4 := Lib.hid (only_trans G3.out g4)
    clear g4
    cases x with
    | true =>
      have hzy : z = y := by have := (happ rfl).1; exact this
      have hcc := (happ rfl).2
      subst hzy
      cases z with
      | true =>
        have HCC := Lib.hid hcc
        rw [hcc] at HC3
        clear happ hleft hcc
        go_wp2_with fail
        refine (HC3.out _ (HT.out _ G4.out)).mono ?_
        rintro e w5 ⟨rfl, g5⟩
        have G5 := Lib.hid (only_trans G4.out g5)
        clear g5
        go_wp2_with fail
        refine (HC1.out _ (HT.out _ G5.out)).mono ?_
        rintro e w6 ⟨rfl, g6⟩
        have G6 := Lib.hid (only_trans G5.out g6)
        clear g6
        go_wp2_with fail
        refine (HC2.out _ (HT.out _ G6.out)).mono ?_
        rintro e w7 ⟨rfl, g7⟩
        have G7 := Lib.hid (only_trans G6.out g7)
        clear g7
        go_wp2_with fail
        refine (HTR.out _ (HT.out _ G7.out)).mono ?_
        rintro e w8 ⟨k, rfl, -, -, hk, g8⟩
        have G8 := Lib.hid (only_trans G7.out g8)
        have hgk : goodR (a.extract 0 k).data.toList = true := by rw [HEX.out, (by first | exact hk trivial | exact hk HX.out | exact hk rfl : k = trimN a.data.toList most)]; exact htf.2.2
        have hg := HGT.out k
        rw [hgk] at hg
        have HGK := Lib.hid hg
        clear g8 hk hgk hg
        go_wp2_with fail
        refine (HGK.out _ (HT.out _ G8.out)).mono ?_
        rintro e w9 ⟨rfl, g9⟩
        have G9 := Lib.hid (only_trans G8.out g9)
        go_wp2_with fail
        go_ret
        exact ⟨by first | rfl | simp, G9.out⟩
      | false =>
        clear happ hleft hcc
        go_wp2_with fail
        refine (HTR.out _ (HT.out _ G4.out)).mono ?_
        rintro e w8 ⟨k, rfl, -, -, hk, g8⟩
        have G8 := Lib.hid (only_trans G4.out g8)
        have hgk : goodR (a.extract 0 k).data.toList = true := by rw [HEX.out, (by first | exact hk trivial | exact hk HX.out | exact hk rfl : k = trimN a.data.toList most)]; exact htf.2.2
        have hg := HGT.out k
        rw [hgk] at hg
        have HGK := Lib.hid hg
        clear g8 hk hgk hg
        go_wp2_with fail
        refine (HGK.out _ (HT.out _ G8.out)).mono ?_
        rintro e w9 ⟨rfl, g9⟩
        have G9 := Lib.hid (only_trans G8.out g9)
        go_wp2_with fail
        go_ret
        exact ⟨by first | rfl | simp, G9.out⟩
    | false =>
      have hyz : ¬ (y = true ∧ z = true) := fun h => by have := hleft h.2 h.1; cases this
      clear happ hleft
      cases y with
      | true =>
        have hz0 : z = false := by cases z with | false => rfl | true => exact absurd ⟨rfl, rfl⟩ hyz
        subst hz0
        clear hyz
        go_wp2_with fail
        go_ret
        exact ⟨rfl, G4.out⟩
      | false =>
        cases z with
        | true =>
          clear hyz
          go_wp2_with fail
          go_ret
          exact ⟨rfl, G4.out⟩
        | false =>
          clear hyz
          go_wp2_with fail
          go_ret
          exact ⟨rfl, G4.out⟩

end Go.Proofs.YtbelpcniogcfoaaDoor.law07
