/-
  WireReads, for whatever keeps the contracts.
-/
import Derived.Test.YtigmfbmjfjkfjaaDoorLaw09
import Derived.Test.YtigmfbmjfjkfjaaDoorBundT
import Derived.Deep.RegionHeld3
import Derived.Sort.AtCall
namespace Go.Proofs.YtigmfbmjfjkfjaaDoor.law09
open Go.RowKit Go.Proofs.YtigmfbmjfjkfjaaDoor.tr Go.Proofs.YtigmfbmjfjkfjaaDoor.wm Go.Proofs.YtigmfbmjfjkfjaaDoor.vi
set_option linter.unusedVariables false
set_option linter.unusedSimpArgs false

theorem read_facts (d : Nat) (hd : d ≤ 8) (L : List UInt8) (h : (readD d L).2 = 0) : wrL (readD d L).1 = L ∧ checkL (8 - d) 0 (readD d L).1 = 0 ∧ fitsL (readD d L).1 ∧ sizeL (readD d L).1 ≤ L.length ∧ bulkL (readD d L).1 ≤ L.length := by
  rw [readD_eq] at h ⊢
  exact all_rd d hd _ L 0 (Nat.le_refl _) h
theorem getW_size (L : List UInt8) : sizeL (getW L).1 ≤ L.length := by
  unfold getW
  split
  · simp [sizeL]
  · by_cases h : (readD 8 L).2 = 0
    · exact (read_facts 8 (Nat.le_refl _) L h).2.2.2.1
    · have h2 : (readD 8 L).1 = [] := by rw [readD_eq] at h ⊢; exact allW_good _ _ _ _ (Nat.le_refl _) h
      rw [h2]; simp [sizeL]
theorem getW_lt (L : List UInt8) : (getW L).2 ≠ 0 → (getW L).1 = [] := by
  unfold getW
  split
  · intro _; rfl
  · intro h; rw [readD_eq] at h ⊢; exact allW_good _ _ _ _ (Nat.le_refl _) h
theorem one_size (L : List UInt8) (p : Nat) : sizeL (oneW (subD 8) L p).1.list ≤ L.length := by
  by_cases h : (oneW (subD 8) L p).2.2 = 0
  · have h1 := (oneW_rd 8 p (Nat.le_refl _) L (fun e he T hT => read_facts e (by omega) T hT) h).2.2.2.1
    have h2 := (one_pos _ _ _ h).2.1
    omega
  · rw [(one_err _ _ _ h).1]; simp [zeroT, Tree.list, sizeL]

/-- Two variables' cells, in a world that has grown. -/
theorem vars_grown {w w' : World} {x y : Nat} {t : Tree} {u v : Value} (h : (w.cell? ⟨x, 0, none⟩ = some (.int .u64 (t.tag : Nat)) ∧ w.cell? ⟨x, 1, none⟩ = some (.int .i64 t.typ) ∧ w.cell? ⟨x, 2, none⟩ = some (.int .u64 (t.num : Nat)) ∧ w.cell? ⟨x, 3, none⟩ = some (.string t.text) ∧ w.cell? ⟨x, 4, none⟩ = some (u)) ∧ (w.cell? ⟨y, 0, none⟩ = some (.int .u64 (t.tag : Nat)) ∧ w.cell? ⟨y, 1, none⟩ = some (.int .i64 t.typ) ∧ w.cell? ⟨y, 2, none⟩ = some (.int .u64 (t.num : Nat)) ∧ w.cell? ⟨y, 3, none⟩ = some (.string t.text) ∧ w.cell? ⟨y, 4, none⟩ = some (v))) (g : w.grownBy w' none) : (w'.cell? ⟨x, 0, none⟩ = some (.int .u64 (t.tag : Nat)) ∧ w'.cell? ⟨x, 1, none⟩ = some (.int .i64 t.typ) ∧ w'.cell? ⟨x, 2, none⟩ = some (.int .u64 (t.num : Nat)) ∧ w'.cell? ⟨x, 3, none⟩ = some (.string t.text) ∧ w'.cell? ⟨x, 4, none⟩ = some (u)) ∧ (w'.cell? ⟨y, 0, none⟩ = some (.int .u64 (t.tag : Nat)) ∧ w'.cell? ⟨y, 1, none⟩ = some (.int .i64 t.typ) ∧ w'.cell? ⟨y, 2, none⟩ = some (.int .u64 (t.num : Nat)) ∧ w'.cell? ⟨y, 3, none⟩ = some (.string t.text) ∧ w'.cell? ⟨y, 4, none⟩ = some (v)) :=
  ⟨Var.grown (t := t) h.1 g, Var.grown (t := t) h.2 g⟩

set_option maxHeartbeats 4000000 in
set_option maxRecDepth 100000 in
theorem reads_any (I : WI) (W : World) (hT : I.fc.Tab W) (s : ByteArray) (hs : s.size ≤ maxLen) :
    Calls Tryd.prog 4 #[.string s] W fun e w' => e = .returned (.bool true) ∧ W.grownBy w' none := by
  have HA := Lib.hid (awake_any I.toWCore W hT)
  by_cases hb : 3000 < s.size
  · unfold maxLen at hs
    go_enter Tryd.func4, Tryd.ntmps4
    go_wp2_with fail
    refine HA.out.mono ?_
    rintro e w1 ⟨rfl, g1⟩
    go_wp2_with fail
    go_ret
    exact ⟨rfl, g1⟩
  · have hlen : s.data.toList.length = s.size := by simp
    have hz1 := getW_size s.data.toList
    have hz2 := one_size s.data.toList 0
    rw [hlen] at hz1 hz2
    have HG := Lib.hid (fun w => I.get s w (by omega))
    have HF := Lib.hid (fun w => I.first s w (by omega))
    have HRG := Lib.hid (fun w => rgetw_any s (by omega) w)
    have HRF := Lib.hid (fun w => rfirst_any s (by omega) w)
    clear hlen hs
    generalize getW s.data.toList = g at *
    generalize oneW (subD 8) s.data.toList 0 = q at *
    have HOF := Lib.hid (fun w S v h => of_any _ g.1 (Nat.le_refl _) (by omega) w S v h)
    have HO1 := Lib.hid (fun w S v h => of_any _ [q.1] (Nat.le_refl _) (by rw [sizeL_cons, sizeL]; omega) w S v h)
    have HS1 := Lib.hid (fun w S S' v u h h' => rsame_any _ g.1 g.1 (Nat.le_refl _) (by omega) w S S' v u h h')
    have HS2 := Lib.hid (fun w S S' v u h h' => rsame_any _ [q.1] [q.1] (Nat.le_refl _) (by rw [sizeL_cons, sizeL]; omega) w S S' v u h h')
    rw [same_self] at HS1 HS2
    have hlg := len_size g.1
    have hlq := len_size q.1.list
    go_enter Tryd.func4, Tryd.ntmps4
    go_wp2_with fail
    refine HA.out.mono ?_
    rintro e w1 ⟨rfl, g1⟩
    have G1 := Lib.hid g1
    clear g1
    go_wp2_with fail
    refine (HG.out _).mono ?_
    rintro e w2 ⟨v2, rfl, r2, g2⟩
    have G2 := Lib.hid (only_trans G1.out g2)
    have R2 := Lib.hid r2
    obtain ⟨a2, c2, rfl⟩ := r2.shape
    clear g2 r2
    go_wp2_with fail
    refine (HRG.out _).mono ?_
    rintro e w3 ⟨v3, S3, rfl, o3, -, g3⟩
    have G3 := Lib.hid (only_trans G2.out g3)
    have R3 := Lib.hid (R2.out.grown g3)
    have O3 := Lib.hid (o3.rd.mono (T := fun _ => True) (fun _ _ _ => trivial))
    obtain ⟨a3, c3, rfl⟩ := o3.rd.shape
    clear g3 o3
    go_wp2_with fail
    refine (HF.out _).mono ?_
    rintro e w4 ⟨v4, rfl, r4, g4⟩
    have G4 := Lib.hid (only_trans G3.out g4)
    have R4 := Lib.hid (R3.out.grown g4)
    have O4 := Lib.hid (O3.out.grown g4)
    have X4 := Lib.hid r4
    obtain ⟨a4, c4, rfl⟩ := r4.shape
    clear g4 r4
    go_wp2_with fail
    have GX := Lib.hid (only_alloc (only_refl w4 none) (.cells #[.int .u64 (q.1.tag : Nat), .int .i64 q.1.typ, .int .u64 (q.1.num : Nat), .string q.1.text, .slice a4 q.1.list.length c4] 41))
    refine (HRF.out _).mono ?_
    rintro e w5 ⟨v5, S5, rfl, r5, -, g5⟩
    have G45 := Lib.hid (only_trans GX.out g5)
    have G5 := Lib.hid (only_trans G4.out G45.out)
    have R5 := Lib.hid (R4.out.grown G45.out)
    have O5 := Lib.hid (O4.out.grown G45.out)
    have X5 := Lib.hid (X4.out.grown G45.out)
    have D5 := Lib.hid ((var_new w4 41 q.1 (.slice a4 q.1.list.length c4)).grown g5)
    have Y5 := Lib.hid (r5.mono (T := fun _ => True) (fun _ _ _ => trivial))
    obtain ⟨a5, c5, rfl⟩ := r5.shape
    clear g5 r5
    go_wp2_with fail
    have GY := Lib.hid (only_alloc (only_refl w5 none) (.cells #[.int .u64 (q.1.tag : Nat), .int .i64 q.1.typ, .int .u64 (q.1.num : Nat), .string q.1.text, .slice a5 q.1.list.length c5] 45))
    have G6 := Lib.hid (only_trans G5.out GY.out)
    have R6 := Lib.hid (R5.out.grown GY.out)
    have O6 := Lib.hid (O5.out.grown GY.out)
    have X6 := Lib.hid (X5.out.grown GY.out)
    have Y6 := Lib.hid (Y5.out.grown GY.out)
    have D6 := Lib.hid (D5.out.grown GY.out)
    have E6 := Lib.hid (var_new w5 45 q.1 (.slice a5 q.1.list.length c5))
    generalize w5.alloc (.cells #[.int .u64 (q.1.tag : Nat), .int .i64 q.1.typ, .int .u64 (q.1.num : Nat), .string q.1.text, .slice a5 q.1.list.length c5] 45) = w6 at *
    generalize w4.heap.size = xb at *
    generalize w5.heap.size = yb at *
    clear HG HF HRG HRF GX G45 GY HA
    obtain ⟨d0, d1, d2, d3, d4⟩ := D6.out
    obtain ⟨e0, e1, e2, e3, e4⟩ := E6.out
    go_region_held3 (fun w' => (w'.cell? ⟨xb, 0, none⟩ = some (.int .u64 (q.1.tag : Nat)) ∧ w'.cell? ⟨xb, 1, none⟩ = some (.int .i64 q.1.typ) ∧ w'.cell? ⟨xb, 2, none⟩ = some (.int .u64 (q.1.num : Nat)) ∧ w'.cell? ⟨xb, 3, none⟩ = some (.string q.1.text) ∧ w'.cell? ⟨xb, 4, none⟩ = some (.slice a4 q.1.list.length c4)) ∧ (w'.cell? ⟨yb, 0, none⟩ = some (.int .u64 (q.1.tag : Nat)) ∧ w'.cell? ⟨yb, 1, none⟩ = some (.int .i64 q.1.typ) ∧ w'.cell? ⟨yb, 2, none⟩ = some (.int .u64 (q.1.num : Nat)) ∧ w'.cell? ⟨yb, 3, none⟩ = some (.string q.1.text) ∧ w'.cell? ⟨yb, 4, none⟩ = some (.slice a5 q.1.list.length c5)))
      (first | exact vars_grown ⟨D6.out, E6.out⟩ (only_drew (only_refl _ none)) | exact vars_grown (by assumption) (by assumption) | go_keep)
      (first
        | (go_at_call_has 12 c2; refine (HOF.out _ _ _ (R6.out.grown (only_drew (only_refl _ _)))).mono ?_; rintro e w7 ⟨v7, S7, rfl, o7, -, g7⟩; obtain ⟨a7, c7, rfl⟩ := o7.rd.shape; have P7 := Lib.hid o7.rd; have G67 := Lib.hid (only_trans (only_drew (only_refl w6 none)) g7))
        | (go_at_call_has 18 c3; refine (HS1.out _ _ _ _ _ P7.out (O6.out.grown G67.out)).mono ?_; rintro e w8 ⟨rfl, m8, hw8⟩; have g8 : w7.grownBy w8 none := (by rw [hw8]; exact only_drewN (only_refl w7 none) m8); clear hw8; have G68 := Lib.hid (only_trans G67.out g8); have X8 := Lib.hid (X6.out.grown G68.out); have Y8 := Lib.hid (Y6.out.grown G68.out); have G8 := Lib.hid (only_trans G6.out G68.out); have gx := only_alloc (only_refl w8 none) (.cells #[.int .u64 (q.1.tag : Nat), .int .i64 q.1.typ, .int .u64 (q.1.num : Nat), .string q.1.text, .slice a4 q.1.list.length c4] 41); have gy := only_alloc (only_refl w8 none) (.cells #[.int .u64 (q.1.tag : Nat), .int .i64 q.1.typ, .int .u64 (q.1.num : Nat), .string q.1.text, .slice a5 q.1.list.length c5] 45); have QA := Lib.hid (rd_one (ty := 41) X8.out); have QB := Lib.hid (QA.out.grown (only_alloc (only_refl _ none) (.cells #[.int .u64 (q.1.tag : Nat), .int .i64 q.1.typ, .int .u64 (q.1.num : Nat), .string q.1.text, .slice a5 q.1.list.length c5] 45))); have qc := rd_one (ty := 41) (X8.out.grown gy); rw [show (w8.alloc (.cells #[.int .u64 (q.1.tag : Nat), .int .i64 q.1.typ, .int .u64 (q.1.num : Nat), .string q.1.text, .slice a5 q.1.list.length c5] 45)).heap.size = w8.heap.size + 1 by simp] at qc; have QC := Lib.hid qc; have yc := (rd_one (ty := 45) Y8.out).grown (only_alloc (only_refl _ none) (.cells #[.int .u64 (q.1.tag : Nat), .int .i64 q.1.typ, .int .u64 (q.1.num : Nat), .string q.1.text, .slice a4 q.1.list.length c4] 41)); have YC := Lib.hid yc; have yb := rd_one (ty := 45) (Y8.out.grown gx); rw [show (w8.alloc (.cells #[.int .u64 (q.1.tag : Nat), .int .i64 q.1.typ, .int .u64 (q.1.num : Nat), .string q.1.text, .slice a4 q.1.list.length c4] 41)).heap.size = w8.heap.size + 1 by simp] at yb; have YB := Lib.hid yb; have GXY := Lib.hid (only_alloc gx (.cells #[.int .u64 (q.1.tag : Nat), .int .i64 q.1.typ, .int .u64 (q.1.num : Nat), .string q.1.text, .slice a5 q.1.list.length c5] 45)); have GYX := Lib.hid (only_alloc gy (.cells #[.int .u64 (q.1.tag : Nat), .int .i64 q.1.typ, .int .u64 (q.1.num : Nat), .string q.1.text, .slice a4 q.1.list.length c4] 41)); have GX := Lib.hid gx; clear qc yc yb gx gy)
        | (go_at_call 12; first
            | (with_reducible refine (HO1.out _ _ _ QA.out).mono ?_; rintro e w9 ⟨v9, S9, rfl, o9, -, g9⟩; obtain ⟨a9, c9, rfl⟩ := o9.rd.shape; have ZA := Lib.hid (rd_one (ty := 45) (Y8.out.grown (only_trans GX.out g9))); have PA := Lib.hid (o9.rd.grown (only_alloc (only_refl w9 none) (.cells #[.int .u64 (q.1.tag : Nat), .int .i64 q.1.typ, .int .u64 (q.1.num : Nat), .string q.1.text, .slice a5 q.1.list.length c5] 45))); have GA := Lib.hid (only_alloc (only_trans G8.out (only_trans GX.out g9)) (.cells #[.int .u64 (q.1.tag : Nat), .int .i64 q.1.typ, .int .u64 (q.1.num : Nat), .string q.1.text, .slice a5 q.1.list.length c5] 45)))
            | (with_reducible refine (HO1.out _ _ _ QB.out).mono ?_; rintro e w9 ⟨v9, S9, rfl, o9, -, g9⟩; obtain ⟨a9, c9, rfl⟩ := o9.rd.shape; have ZB := Lib.hid (YB.out.grown g9); have PB := Lib.hid o9.rd; have GB := Lib.hid (only_trans G8.out (only_trans GXY.out g9)))
            | (with_reducible refine (HO1.out _ _ _ QC.out).mono ?_; rintro e w9 ⟨v9, S9, rfl, o9, -, g9⟩; obtain ⟨a9, c9, rfl⟩ := o9.rd.shape; have ZB := Lib.hid (YC.out.grown g9); have PB := Lib.hid o9.rd; have GB := Lib.hid (only_trans G8.out (only_trans GYX.out g9))))
        | (go_at_call 18; first
            | (refine (HS2.out _ _ _ _ _ PA.out ZA.out).mono ?_; rintro e wz ⟨rfl, mz, hwz⟩; have gk : (w9.alloc (.cells #[.int .u64 (q.1.tag : Nat), .int .i64 q.1.typ, .int .u64 (q.1.num : Nat), .string q.1.text, .slice a5 q.1.list.length c5] 45)).grownBy wz none := (by rw [hwz]; exact only_drewN (only_refl _ none) mz); have gz := only_drewN GA.out mz; rw [← hwz] at gz; clear hwz; have GZ := Lib.hid gz)
            | (refine (HS2.out _ _ _ _ _ PB.out ZB.out).mono ?_; rintro e wz ⟨rfl, mz, hwz⟩; have gk : w9.grownBy wz none := (by rw [hwz]; exact only_drewN (only_refl _ none) mz); have gz := only_drewN GB.out mz; rw [← hwz] at gz; clear hwz; have GZ := Lib.hid gz)))
    all_goals
      go_wp2_with fail
      go_ret
      exact ⟨rfl, GZ.out⟩

end Go.Proofs.YtigmfbmjfjkfjaaDoor.law09
