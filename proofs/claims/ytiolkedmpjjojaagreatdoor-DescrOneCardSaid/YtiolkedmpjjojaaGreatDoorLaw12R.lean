/-
  The statement DescrReads.
-/
import Derived.Test.YtiolkedmpjjojaaGreatDoorLaw12
import Derived.Deep.RegionHeld3
namespace Go.Proofs.YtiolkedmpjjojaaGreatDoor.law12
open Go.RowKit Go.Proofs.YtiolkedmpjjojaaGreatDoor.vi Go.Proofs.YtiolkedmpjjojaaGreatDoor.um Go.Proofs.YtiolkedmpjjojaaGreatDoor.wm Go.Proofs.YtiolkedmpjjojaaGreatDoor.tr Go.Proofs.YtiolkedmpjjojaaGreatDoor.em Go.Proofs.YtiolkedmpjjojaaGreatDoor.cur Go.Proofs.YtiolkedmpjjojaaGreatDoor.law11 Go.Proofs.YtiolkedmpjjojaaGreatDoor.dd Go.Proofs.YtiolkedmpjjojaaGreatDoor.dr
set_option linter.unusedVariables false
set_option linter.unusedSimpArgs false

theorem sameR_any (xs : List Ent) (B1 B2 : Nat) (w : World) (v u : Value) (hl : xs.length ≤ 1000000) (h : Es B1 w v xs) (h2 : Es B2 w u xs) :
    Calls Tryz.prog 28 #[v, u] w fun e w' => e = .returned (.bool true) ∧ w.grownBy w' none := by
  have := equalR_any xs xs B1 B2 w v u hl h h2
  simpa using this

theorem readE_len : ∀ (n : Nat) (p : Option Ent) (L : List UInt8), (readE n p L).1.length ≤ n
  | 0, _, _ => by simp [readE]
  | n + 1, p, L => by
    have := readE_len n (some (nextE L).1) (nextE L).2.1
    rw [readE]
    split
    · simp
    · split
      · simp
      · split
        · simp
        · simp; omega
theorem nextD_len (L : List UInt8) : (nextD L).1.length ≤ 16 := by
  unfold nextD
  split
  · simp
  · split
    · simp
    · rename_i h
      have := readE_len (getR L).1 none (L.drop (getR L).2.1)
      unfold countE at h
      split at h
      · omega
      · split at h <;> omega
theorem parseD_len (L : List UInt8) : (parseD L).1.length ≤ 16 := by
  have := nextD_len L
  unfold parseD
  split
  · simp
  · split
    · simp
    · exact this

set_option maxHeartbeats 8000000 in
set_option maxRecDepth 100000 in
theorem reads_any (W : World) (hT : tb.Tab W) (s : ByteArray) (hs : s.size ≤ maxLen) :
    Calls Tryz.prog 6 #[.string s] W fun e w' => e = .returned (.bool true) ∧ W.grownBy w' none := by
  have HA := Lib.hid (awake_any W hT)
  unfold maxLen at hs
  by_cases hb : (3000 : Int) < (s.size : Int)
  · clear hT
    go_enter Tryz.func6, Tryz.ntmps6
    go_wp2_with fail
    refine HA.out.mono ?_
    rintro e w1 ⟨rfl, g1⟩
    have G1 := Lib.hid g1
    clear g1
    go_wp2_with fail
    go_ret
    exact ⟨rfl, G1.out⟩
  · have HTB := Lib.hid (fun w (g : W.grownBy w none) => tb.kept hT g)
    have HP := Lib.hid (fun w (g : W.grownBy w none) => parse_any s w (by omega) (HTB.out w g))
    have HRP := Lib.hid (fun w => rparseD_any s (by omega) w)
    have HRN := Lib.hid (fun w => rnextD_any s (by omega) w)
    have HNN := Lib.hid (fun w => dd.next_nil w)
    have hpl := parseD_len s.data.toList
    have hnl := nextD_len s.data.toList
    have hlt := nextD_lt s.data.toList
    clear hT
    go_enter Tryz.func6, Tryz.ntmps6
    go_wp2_with fail
    refine HA.out.mono ?_
    rintro e w1 ⟨rfl, g1⟩
    have G1 := Lib.hid g1
    clear g1
    go_wp2_with fail
    generalize parseD s.data.toList = PP at *
    obtain ⟨dl, dq⟩ := PP
    simp only at HP HRP hpl
    refine (HP.out _ G1.out).mono ?_
    rintro e w2 ⟨v2, rfl, o2, g2⟩
    have O2 := Lib.hid o2.es
    have G2 := Lib.hid (only_trans G1.out g2)
    obtain ⟨a2, c2, rfl⟩ := o2.es.shape
    clear o2 g2
    go_wp2_with fail
    refine (HRP.out _).mono ?_
    rintro e w3 ⟨v3, rfl, o3, g3⟩
    have O3 := Lib.hid o3.es
    have O2b := Lib.hid (O2.out.grown g3)
    have G3 := Lib.hid (only_trans G2.out g3)
    obtain ⟨a3, c3, rfl⟩ := o3.es.shape
    clear o3 g3
    go_wp2_with fail
    refine (over_any s w3).mono ?_
    rintro e w4 ⟨rfl, rfl⟩
    have GA := only_alloc (only_refl w3 none) (.cells #[.string s, .int .i64 0] 69)
    have HN := Lib.hid (dd.next_any W _ w3.heap.size s 0 (by omega) (HTB.out W (only_refl _ _)) (only_trans G3.out GA) G3.out.size (Cur.new s (by unfold maxLen; omega) w3))
    rw [List.drop_zero] at HN
    generalize nextD s.data.toList = R at *
    obtain ⟨nl, rest, q⟩ := R
    simp only at HN HRN hnl hlt
    have HGA := Lib.hid GA
    have HNW := Lib.hid (fun w' (g : (w3.alloc (.cells #[.string s, .int .i64 0] 69)).grownBy w' (some w3.heap.size)) => only_new GA g (Nat.le_refl _))
    clear GA
    go_wp2_with fail
    refine HN.out.mono ?_
    rintro e w5 ⟨k5, v5, rfl, c5, o5, hk5, g5⟩
    have G35 := HNW.out _ g5
    have O5 := Lib.hid o5.es
    have C5 := Lib.hid c5
    have hB5 : w3.heap.size < w5.heap.size := c5.lt
    have HK5 := Lib.hid hk5
    have O25 := Lib.hid (O2b.out.grown G35)
    have O35 := Lib.hid (O3.out.grown G35)
    have G5 := Lib.hid (only_trans G3.out G35)
    obtain ⟨a5, cc5, rfl⟩ := o5.es.shape
    clear c5 o5 hk5 g5 G35
    go_wp2_with fail
    refine (HRN.out _).mono ?_
    rintro e w6 ⟨v6, rfl, o6, g6⟩
    have O6 := Lib.hid o6.es
    have O26 := Lib.hid (O25.out.grown g6)
    have O36 := Lib.hid (O35.out.grown g6)
    have O56 := Lib.hid (O5.out.grown g6)
    have C6 := Lib.hid (C5.out.kept g6 (by simp))
    have G6 := Lib.hid (only_trans G5.out g6)
    obtain ⟨a6, c6, rfl⟩ := o6.es.shape
    clear o6 g6
    go_wp2_with fail
    refine (HNN.out _).mono ?_
    rintro e w7 ⟨rfl, rfl⟩
    go_wp2_with fail
    have HT1 := Lib.hid (fun w' (g : w6.grownBy w' none) => to_any dl _ w' _ (by omega) (O26.out.grown g))
    have HT2 := Lib.hid (fun w' (g : w6.grownBy w' none) => to_any nl _ w' _ (by omega) (O56.out.grown g))
    by_cases hq : q = 0
    · subst hq
      have hrest : s.extract k5 s.size = txt rest := by rw [← txt_rest, HK5.out (by first | rfl | trivial)]
      have HRS := Lib.hid (fun w' (g : w6.grownBy w' none) => rest_some (C6.out.kept g (by simp)))
      rw [hrest] at HRS
      clear hrest
      refine (HT1.out _ (only_refl _ none)).mono ?_
      rintro e u1 ⟨t1, rfl, o1, g1⟩
      have P1 := Lib.hid o1.es
      have D1 := Lib.hid g1
      obtain ⟨ta1, tc1, rfl⟩ := o1.es.shape
      clear o1 g1
      go_wp2_with fail
      refine (sameR_any dl _ _ _ _ _ (by omega) P1.out (O36.out.grown D1.out)).mono ?_
      rintro e u2 ⟨rfl, g2⟩
      have D2 := Lib.hid (only_trans D1.out g2)
      clear g2
      go_wp2_with fail
      refine (HT2.out _ D2.out).mono ?_
      rintro e u3 ⟨t3, rfl, o3, g3⟩
      have P3 := Lib.hid o3.es
      have D3 := Lib.hid (only_trans D2.out g3)
      obtain ⟨ta3, tc3, rfl⟩ := o3.es.shape
      clear o3 g3
      go_wp2_with fail
      refine (sameR_any nl _ _ _ _ _ (by omega) P3.out (O6.out.grown D3.out)).mono ?_
      rintro e u4 ⟨rfl, g4⟩
      have D4 := Lib.hid (only_trans D3.out g4)
      clear g4
      go_wp2_with fail
      refine (HRS.out _ D4.out).mono ?_
      rintro e u5 ⟨rfl, n5, rfl⟩
      go_wp2_with fail
      go_ret
      exact ⟨rfl, only_drewN (only_trans G6.out D4.out) _⟩
    · have hqb : ((q : Int) != 0) = true := by rw [bne_iff_ne]; omega
      clear hq
      refine (HT1.out _ (only_refl _ none)).mono ?_
      rintro e u1 ⟨t1, rfl, o1, g1⟩
      have P1 := Lib.hid o1.es
      have D1 := Lib.hid g1
      obtain ⟨ta1, tc1, rfl⟩ := o1.es.shape
      clear o1 g1
      go_wp2_with fail
      refine (sameR_any dl _ _ _ _ _ (by omega) P1.out (O36.out.grown D1.out)).mono ?_
      rintro e u2 ⟨rfl, g2⟩
      have D2 := Lib.hid (only_trans D1.out g2)
      clear g2
      go_wp2_with fail
      refine (HT2.out _ D2.out).mono ?_
      rintro e u3 ⟨t3, rfl, o3, g3⟩
      have P3 := Lib.hid o3.es
      have D3 := Lib.hid (only_trans D2.out g3)
      obtain ⟨ta3, tc3, rfl⟩ := o3.es.shape
      clear o3 g3
      go_wp2_with fail
      refine (sameR_any nl _ _ _ _ _ (by omega) P3.out (O6.out.grown D3.out)).mono ?_
      rintro e u4 ⟨rfl, g4⟩
      have D4 := Lib.hid (only_trans D3.out g4)
      clear g4
      go_wp2_with fail
      go_ret
      exact ⟨rfl, only_trans G6.out D4.out⟩

end Go.Proofs.YtiolkedmpjjojaaGreatDoor.law12
