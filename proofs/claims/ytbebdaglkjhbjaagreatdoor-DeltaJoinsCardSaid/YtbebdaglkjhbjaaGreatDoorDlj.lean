/-
  The developers' package delta: Apply, Join.
-/
import Derived.Test.YtbebdaglkjhbjaaGreatDoorDla
namespace Go.Proofs.YtbebdaglkjhbjaaGreatDoor.da
open Go.RowKit Go.Proofs.YtbebdaglkjhbjaaGreatDoor.vi Go.Proofs.YtbebdaglkjhbjaaGreatDoor.um Go.Proofs.YtbebdaglkjhbjaaGreatDoor.wm Go.Proofs.YtbebdaglkjhbjaaGreatDoor.tr Go.Proofs.YtbebdaglkjhbjaaGreatDoor.em Go.Proofs.YtbebdaglkjhbjaaGreatDoor.rm Go.Proofs.YtbebdaglkjhbjaaGreatDoor.law11 Go.Proofs.YtbebdaglkjhbjaaGreatDoor.dd Go.Proofs.YtbebdaglkjhbjaaGreatDoor.dr Go.Proofs.YtbebdaglkjhbjaaGreatDoor.tm Go.Proofs.YtbebdaglkjhbjaaGreatDoor.tf Go.Proofs.YtbebdaglkjhbjaaGreatDoor.dl Go.Proofs.YtbebdaglkjhbjaaGreatDoor.dz Go.Proofs.YtbebdaglkjhbjaaGreatDoor.ti
set_option linter.unusedVariables false
set_option linter.unusedSimpArgs false

set_option maxHeartbeats 4000000 in
set_option maxRecDepth 100000 in
theorem apply_any (x : Sn) (y : Dt) (SA SB : Nat → Prop) (w : World) (u v : Value) (hx : Tok x.t) (hy : Tok y.t) (hT : tb.Tab w) (h : Rs SA w u x.t) (h2 : Rs SB w v y.t) :
    Calls Tryz.prog 26 #[snV x u, dtV y v] w fun e w' => ∃ u', e = .returned (.tuple #[snV (applyX x y).1 u', .int .i64 ((applyX x y).2 : Nat)]) ∧ Rs (fun k => k < w'.heap.size) w' u' (applyX x y).1.t ∧ w.grownBy w' none := by
  obtain ⟨ua, uc, rfl⟩ := h.shape
  obtain ⟨ya, yc, rfl⟩ := h2.shape
  have HCA := Lib.hid (fun w1 (g : w.grownBy w1 none) => scheck_any x SA w1 (.slice ua x.t.length uc) hx (tb.kept hT g) (h.grown g))
  have HCB := Lib.hid (fun w1 (g : w.grownBy w1 none) => dcheck_any y SB w1 (.slice ya y.t.length yc) hy (tb.kept hT g) (h2.grown g))
  have HSU := Lib.hid (fun (k1 : Gk x.t) (k2 : Gk y.t) w1 (g : w.grownBy w1 none) => sum_any x.t y.t SA SB w1 (.slice ua x.t.length uc) (.slice ya y.t.length yc) k1 k2 (tb.kept hT g) (h.grown g) (h2.grown g))
  have HX : Hid (applyX x y = if firstX (checkT x.t) (checkX y) ≠ 0 then (sn0, firstX (checkT x.t) (checkX y)) else if x.e ≠ y.b then (sn0, 19) else if (sumT x.t y.t).2 ≠ 0 then (sn0, (sumT x.t y.t).2) else (⟨y.e, (sumT x.t y.t).1⟩, 0)) := rfl
  have hal : checkT x.t < 64 := checkT_lt _
  have hbl : checkX y < 64 := checkX_lt _
  have hsl := sumT_lt x.t y.t
  obtain ⟨m1, m2, m3, m5, m4⟩ := made4 w (.cells #[.int .u64 (x.e : Nat), .slice ua x.t.length uc] 49) (.cells #[.int .u64 (y.b : Nat), .int .u64 (y.e : Nat), .slice ya y.t.length yc] 51) (.cells #[.int .u64 0, .slice none 0 0] 49) (.cells #[.func (.func 35) #[(.agg #[.int .u64 (x.e : Nat), .slice ua x.t.length uc])] #[], .func (.func 33) #[(.agg #[.int .u64 (y.b : Nat), .int .u64 (y.e : Nat), .slice ya y.t.length yc])] #[]] 46)
  have HFI := Lib.hid (first_sd _ (.agg #[.int .u64 (x.e : Nat), .slice ua x.t.length uc]) (.agg #[.int .u64 (y.b : Nat), .int .u64 (y.e : Nat), .slice ya y.t.length yc]) (checkT x.t) (checkX y) _ _ (fun w1 g => HCA.out w1 (only_trans m4 g)) (fun w1 g => HCB.out w1 (only_trans m4 g)) m5)
  have HKA := Lib.hid (fun (e : firstX (checkT x.t) (checkX y) = 0) => (⟨Gk.of ((firstX_zero.1 e).1) hx, ⟨(checkX_zero.1 (firstX_zero.1 e).2).2, fun r hr => (hy.2 r hr).2.2.2⟩⟩ : Gk x.t ∧ Gk y.t))
  clear HCA HCB m5
  have M1 := Lib.hid m1
  have M2 := Lib.hid m2
  have M3 := Lib.hid m3
  have M4 := Lib.hid m4
  clear hx hy h h2 m1 m2 m3 m4 hT
  unfold snV dtV
  generalize applyX x y = R at *
  have hfl := firstX_lt hal hbl
  clear hal hbl
  generalize firstX (checkT x.t) (checkX y) = fc at *
  generalize sumT x.t y.t = SU at *
  obtain ⟨S1, sq⟩ := SU
  simp only at HSU HX hsl
  by_cases h2 : fc = 0
  · subst h2
    by_cases h3 : x.e ≠ y.b
    · have HX3 := Lib.hid (HX.out.trans ((if_neg (by simp)).trans (if_pos h3)))
      have hbi : ((x.e : Int) != (y.b : Int)) = true := by rw [bne_iff_ne]; omega
      go_enter Tryz.func26, Tryz.ntmps26
      go_wp2_with fail
      refine HFI.out.mono ?_
      rintro e w2 ⟨rfl, g2⟩
      have G2 := Lib.hid (only_trans M4.out g2)
      have A2 := Lib.hid (heap_kept M1.out g2 (by simp))
      have B2 := Lib.hid (heap_kept M2.out g2 (by simp))
      have C2 := Lib.hid (heap_kept M3.out g2 (by simp))
      clear g2
      obtain ⟨a0, a1, af0, af1⟩ := cells2 A2.out
      obtain ⟨b0, b1, b2, bf0, bf1, bf2⟩ := cells3 B2.out
      obtain ⟨c0, c1, cf0, cf1⟩ := cells2 C2.out
      go_wp2_with fail
      rw [HX3.out]
      exact bodyPost_ret (ee.results_cell2 rfl _ _ (w.heap.size + 1 + 1) 49 #[.int .u64 0, .slice none 0 0] (0, 0) _ rfl (wm.heap_setc (wm.heap_setc C2.out)) Tryz.underlying49 rfl (by kernel_rfl)) rfl ⟨.slice none 0 0, rfl, Rs.nil _ _ _ _, (only_setCell (only_setCell G2.out (.inr (by show w.heap.size ≤ w.heap.size + 1 + 1; omega)) _) (.inr (by show w.heap.size ≤ w.heap.size + 1 + 1; omega)) _)⟩
    · have hbi : ((x.e : Int) != (y.b : Int)) = false := by rw [bne_eq_false_iff_eq]; omega
      by_cases h4 : sq = 0
      · subst h4
        have HX5 := Lib.hid (HX.out.trans ((if_neg (by simp)).trans ((if_neg h3).trans (if_neg (by simp)))))
        obtain ⟨GA, GB⟩ := HKA.out (by first | rfl | trivial)
        go_enter Tryz.func26, Tryz.ntmps26
        go_wp2_with fail
        refine HFI.out.mono ?_
        rintro e w2 ⟨rfl, g2⟩
        have G2 := Lib.hid (only_trans M4.out g2)
        have A2 := Lib.hid (heap_kept M1.out g2 (by simp))
        have B2 := Lib.hid (heap_kept M2.out g2 (by simp))
        have C2 := Lib.hid (heap_kept M3.out g2 (by simp))
        clear g2
        obtain ⟨a0, a1, af0, af1⟩ := cells2 A2.out
        obtain ⟨b0, b1, b2, bf0, bf1, bf2⟩ := cells3 B2.out
        obtain ⟨c0, c1, cf0, cf1⟩ := cells2 C2.out
        go_wp2_with fail
        refine (HSU.out GA GB _ G2.out).mono ?_
        rintro e w3 ⟨v3, rfl, r3, g3⟩
        have G3 := Lib.hid (only_trans G2.out g3)
        have A3 := Lib.hid (heap_kept A2.out g3 (by simp))
        have B3 := Lib.hid (heap_kept B2.out g3 (by simp))
        have C3 := Lib.hid (heap_kept C2.out g3 (by simp))
        have R3 := Lib.hid r3
        obtain ⟨va, vc, rfl⟩ := r3.shape
        clear r3
        clear g3 a0 a1 af0 af1 b0 b1 b2 bf0 bf1 bf2 c0 c1 cf0 cf1
        obtain ⟨a0, a1, af0, af1⟩ := cells2 A3.out
        obtain ⟨b0, b1, b2, bf0, bf1, bf2⟩ := cells3 B3.out
        obtain ⟨c0, c1, cf0, cf1⟩ := cells2 C3.out
        go_wp2_with fail
        rw [HX5.out]
        exact bodyPost_ret (ee.results_cell2 rfl _ _ (w.heap.size + 1 + 1) 49 #[.int .u64 (y.e : Nat), .slice va S1.length vc] (0, 0) _ rfl (wm.heap_setc (wm.heap_setc C3.out)) Tryz.underlying49 rfl (by kernel_rfl)) rfl ⟨.slice va S1.length vc, rfl, rs_off2 R3.out C3.out (only_setCell (only_setCell (only_refl _ (some (w.heap.size + 1 + 1))) (.inl rfl) _) (.inl rfl) _), (only_setCell (only_setCell G3.out (.inr (by show w.heap.size ≤ w.heap.size + 1 + 1; omega)) _) (.inr (by show w.heap.size ≤ w.heap.size + 1 + 1; omega)) _)⟩
      · have HX4 := Lib.hid (HX.out.trans ((if_neg (by simp)).trans ((if_neg h3).trans (if_pos h4))))
        have hqb : ((sq : Int) != 0) = true := by rw [bne_iff_ne]; omega
        obtain ⟨GA, GB⟩ := HKA.out (by first | rfl | trivial)
        go_enter Tryz.func26, Tryz.ntmps26
        go_wp2_with fail
        refine HFI.out.mono ?_
        rintro e w2 ⟨rfl, g2⟩
        have G2 := Lib.hid (only_trans M4.out g2)
        have A2 := Lib.hid (heap_kept M1.out g2 (by simp))
        have B2 := Lib.hid (heap_kept M2.out g2 (by simp))
        have C2 := Lib.hid (heap_kept M3.out g2 (by simp))
        clear g2
        obtain ⟨a0, a1, af0, af1⟩ := cells2 A2.out
        obtain ⟨b0, b1, b2, bf0, bf1, bf2⟩ := cells3 B2.out
        obtain ⟨c0, c1, cf0, cf1⟩ := cells2 C2.out
        go_wp2_with fail
        refine (HSU.out GA GB _ G2.out).mono ?_
        rintro e w3 ⟨v3, rfl, r3, g3⟩
        have G3 := Lib.hid (only_trans G2.out g3)
        have A3 := Lib.hid (heap_kept A2.out g3 (by simp))
        have B3 := Lib.hid (heap_kept B2.out g3 (by simp))
        have C3 := Lib.hid (heap_kept C2.out g3 (by simp))
        have R3 := Lib.hid r3
        obtain ⟨va, vc, rfl⟩ := r3.shape
        clear r3
        clear g3 a0 a1 af0 af1 b0 b1 b2 bf0 bf1 bf2 c0 c1 cf0 cf1
        obtain ⟨a0, a1, af0, af1⟩ := cells2 A3.out
        obtain ⟨b0, b1, b2, bf0, bf1, bf2⟩ := cells3 B3.out
        obtain ⟨c0, c1, cf0, cf1⟩ := cells2 C3.out
        go_wp2_with fail
        rw [HX4.out]
        exact bodyPost_ret (ee.results_cell2 rfl _ _ (w.heap.size + 1 + 1) 49 #[.int .u64 0, .slice none 0 0] (0, 0) _ rfl (wm.heap_setc (wm.heap_setc C3.out)) Tryz.underlying49 rfl (by kernel_rfl)) rfl ⟨.slice none 0 0, rfl, Rs.nil _ _ _ _, (only_setCell (only_setCell G3.out (.inr (by show w.heap.size ≤ w.heap.size + 1 + 1; omega)) _) (.inr (by show w.heap.size ≤ w.heap.size + 1 + 1; omega)) _)⟩
  · have HX2 : Hid (R = (sn0, fc)) := by show _ = _; rw [HX.out, if_pos h2]
    have hqb : ((fc : Int) != 0) = true := by rw [bne_iff_ne]; omega
    go_enter Tryz.func26, Tryz.ntmps26
    go_wp2_with fail
    refine HFI.out.mono ?_
    rintro e w2 ⟨rfl, g2⟩
    have G2 := Lib.hid (only_trans M4.out g2)
    have A2 := Lib.hid (heap_kept M1.out g2 (by simp))
    have B2 := Lib.hid (heap_kept M2.out g2 (by simp))
    have C2 := Lib.hid (heap_kept M3.out g2 (by simp))
    clear g2
    obtain ⟨a0, a1, af0, af1⟩ := cells2 A2.out
    obtain ⟨b0, b1, b2, bf0, bf1, bf2⟩ := cells3 B2.out
    obtain ⟨c0, c1, cf0, cf1⟩ := cells2 C2.out
    go_wp2_with fail
    rw [HX2.out]
    exact bodyPost_ret (ee.results_cell2 rfl _ _ (w.heap.size + 1 + 1) 49 #[.int .u64 0, .slice none 0 0] (0, 0) _ rfl (wm.heap_setc (wm.heap_setc C2.out)) Tryz.underlying49 rfl (by kernel_rfl)) rfl ⟨.slice none 0 0, rfl, Rs.nil _ _ _ _, (only_setCell (only_setCell G2.out (.inr (by show w.heap.size ≤ w.heap.size + 1 + 1; omega)) _) (.inr (by show w.heap.size ≤ w.heap.size + 1 + 1; omega)) _)⟩

set_option maxHeartbeats 4000000 in
set_option maxRecDepth 100000 in
theorem join_any (x : Dt) (y : Dt) (SA SB : Nat → Prop) (w : World) (u v : Value) (hx : Tok x.t) (hy : Tok y.t) (hT : tb.Tab w) (h : Rs SA w u x.t) (h2 : Rs SB w v y.t) :
    Calls Tryz.prog 29 #[dtV x u, dtV y v] w fun e w' => ∃ u', e = .returned (.tuple #[dtV (joinX x y).1 u', .int .i64 ((joinX x y).2 : Nat)]) ∧ Rs (fun k => k < w'.heap.size) w' u' (joinX x y).1.t ∧ w.grownBy w' none := by
  obtain ⟨ua, uc, rfl⟩ := h.shape
  obtain ⟨ya, yc, rfl⟩ := h2.shape
  have HCA := Lib.hid (fun w1 (g : w.grownBy w1 none) => dcheck_any x SA w1 (.slice ua x.t.length uc) hx (tb.kept hT g) (h.grown g))
  have HCB := Lib.hid (fun w1 (g : w.grownBy w1 none) => dcheck_any y SB w1 (.slice ya y.t.length yc) hy (tb.kept hT g) (h2.grown g))
  have HSU := Lib.hid (fun (k1 : Gk x.t) (k2 : Gk y.t) w1 (g : w.grownBy w1 none) => sum_any x.t y.t SA SB w1 (.slice ua x.t.length uc) (.slice ya y.t.length yc) k1 k2 (tb.kept hT g) (h.grown g) (h2.grown g))
  have HX : Hid (joinX x y = if firstX (checkX x) (checkX y) ≠ 0 then (dt0, firstX (checkX x) (checkX y)) else if y.b ≠ x.e then (dt0, 19) else if (sumT x.t y.t).2 ≠ 0 then (dt0, (sumT x.t y.t).2) else (⟨x.b, y.e, (sumT x.t y.t).1⟩, 0)) := rfl
  have hal : checkX x < 64 := checkX_lt _
  have hbl : checkX y < 64 := checkX_lt _
  have hsl := sumT_lt x.t y.t
  obtain ⟨m1, m2, m3, m5, m4⟩ := made4 w (.cells #[.int .u64 (x.b : Nat), .int .u64 (x.e : Nat), .slice ua x.t.length uc] 51) (.cells #[.int .u64 (y.b : Nat), .int .u64 (y.e : Nat), .slice ya y.t.length yc] 51) (.cells #[.int .u64 0, .int .u64 0, .slice none 0 0] 51) (.cells #[.func (.func 33) #[(.agg #[.int .u64 (x.b : Nat), .int .u64 (x.e : Nat), .slice ua x.t.length uc])] #[], .func (.func 33) #[(.agg #[.int .u64 (y.b : Nat), .int .u64 (y.e : Nat), .slice ya y.t.length yc])] #[]] 46)
  have HFI := Lib.hid (first_dd _ (.agg #[.int .u64 (x.b : Nat), .int .u64 (x.e : Nat), .slice ua x.t.length uc]) (.agg #[.int .u64 (y.b : Nat), .int .u64 (y.e : Nat), .slice ya y.t.length yc]) (checkX x) (checkX y) _ _ (fun w1 g => HCA.out w1 (only_trans m4 g)) (fun w1 g => HCB.out w1 (only_trans m4 g)) m5)
  have HKA := Lib.hid (fun (e : firstX (checkX x) (checkX y) = 0) => (⟨⟨(checkX_zero.1 (firstX_zero.1 e).1).2, fun r hr => (hx.2 r hr).2.2.2⟩, ⟨(checkX_zero.1 (firstX_zero.1 e).2).2, fun r hr => (hy.2 r hr).2.2.2⟩⟩ : Gk x.t ∧ Gk y.t))
  clear HCA HCB m5
  have M1 := Lib.hid m1
  have M2 := Lib.hid m2
  have M3 := Lib.hid m3
  have M4 := Lib.hid m4
  clear hx hy h h2 m1 m2 m3 m4 hT
  unfold dtV
  generalize joinX x y = R at *
  have hfl := firstX_lt hal hbl
  clear hal hbl
  generalize firstX (checkX x) (checkX y) = fc at *
  generalize sumT x.t y.t = SU at *
  obtain ⟨S1, sq⟩ := SU
  simp only at HSU HX hsl
  by_cases h2 : fc = 0
  · subst h2
    by_cases h3 : y.b ≠ x.e
    · have HX3 := Lib.hid (HX.out.trans ((if_neg (by simp)).trans (if_pos h3)))
      have hbi : ((y.b : Int) != (x.e : Int)) = true := by rw [bne_iff_ne]; omega
      go_enter Tryz.func29, Tryz.ntmps29
      go_wp2_with fail
      refine HFI.out.mono ?_
      rintro e w2 ⟨rfl, g2⟩
      have G2 := Lib.hid (only_trans M4.out g2)
      have A2 := Lib.hid (heap_kept M1.out g2 (by simp))
      have B2 := Lib.hid (heap_kept M2.out g2 (by simp))
      have C2 := Lib.hid (heap_kept M3.out g2 (by simp))
      clear g2
      obtain ⟨a0, a1, a2, af0, af1, af2⟩ := cells3 A2.out
      obtain ⟨b0, b1, b2, bf0, bf1, bf2⟩ := cells3 B2.out
      obtain ⟨c0, c1, c2, cf0, cf1, cf2⟩ := cells3 C2.out
      go_wp2_with fail
      rw [HX3.out]
      exact bodyPost_ret (ee.results_cell2 rfl _ _ (w.heap.size + 1 + 1) 51 #[.int .u64 0, .int .u64 0, .slice none 0 0] (0, 0) _ rfl (wm.heap_setc (wm.heap_setc (wm.heap_setc C2.out))) Tryz.underlying51 rfl (by kernel_rfl)) rfl ⟨.slice none 0 0, rfl, Rs.nil _ _ _ _, (only_setCell (only_setCell (only_setCell G2.out (.inr (by show w.heap.size ≤ w.heap.size + 1 + 1; omega)) _) (.inr (by show w.heap.size ≤ w.heap.size + 1 + 1; omega)) _) (.inr (by show w.heap.size ≤ w.heap.size + 1 + 1; omega)) _)⟩
    · have hbi : ((y.b : Int) != (x.e : Int)) = false := by rw [bne_eq_false_iff_eq]; omega
      by_cases h4 : sq = 0
      · subst h4
        have HX5 := Lib.hid (HX.out.trans ((if_neg (by simp)).trans ((if_neg h3).trans (if_neg (by simp)))))
        obtain ⟨GA, GB⟩ := HKA.out (by first | rfl | trivial)
        go_enter Tryz.func29, Tryz.ntmps29
        go_wp2_with fail
        refine HFI.out.mono ?_
        rintro e w2 ⟨rfl, g2⟩
        have G2 := Lib.hid (only_trans M4.out g2)
        have A2 := Lib.hid (heap_kept M1.out g2 (by simp))
        have B2 := Lib.hid (heap_kept M2.out g2 (by simp))
        have C2 := Lib.hid (heap_kept M3.out g2 (by simp))
        clear g2
        obtain ⟨a0, a1, a2, af0, af1, af2⟩ := cells3 A2.out
        obtain ⟨b0, b1, b2, bf0, bf1, bf2⟩ := cells3 B2.out
        obtain ⟨c0, c1, c2, cf0, cf1, cf2⟩ := cells3 C2.out
        go_wp2_with fail
        refine (HSU.out GA GB _ G2.out).mono ?_
        rintro e w3 ⟨v3, rfl, r3, g3⟩
        have G3 := Lib.hid (only_trans G2.out g3)
        have A3 := Lib.hid (heap_kept A2.out g3 (by simp))
        have B3 := Lib.hid (heap_kept B2.out g3 (by simp))
        have C3 := Lib.hid (heap_kept C2.out g3 (by simp))
        have R3 := Lib.hid r3
        obtain ⟨va, vc, rfl⟩ := r3.shape
        clear r3
        clear g3 a0 a1 a2 af0 af1 af2 b0 b1 b2 bf0 bf1 bf2 c0 c1 c2 cf0 cf1 cf2
        obtain ⟨a0, a1, a2, af0, af1, af2⟩ := cells3 A3.out
        obtain ⟨b0, b1, b2, bf0, bf1, bf2⟩ := cells3 B3.out
        obtain ⟨c0, c1, c2, cf0, cf1, cf2⟩ := cells3 C3.out
        go_wp2_with fail
        rw [HX5.out]
        exact bodyPost_ret (ee.results_cell2 rfl _ _ (w.heap.size + 1 + 1) 51 #[.int .u64 (x.b : Nat), .int .u64 (y.e : Nat), .slice va S1.length vc] (0, 0) _ rfl (wm.heap_setc (wm.heap_setc (wm.heap_setc C3.out))) Tryz.underlying51 rfl (by kernel_rfl)) rfl ⟨.slice va S1.length vc, rfl, rs_off3 R3.out C3.out (only_setCell (only_setCell (only_setCell (only_refl _ (some (w.heap.size + 1 + 1))) (.inl rfl) _) (.inl rfl) _) (.inl rfl) _), (only_setCell (only_setCell (only_setCell G3.out (.inr (by show w.heap.size ≤ w.heap.size + 1 + 1; omega)) _) (.inr (by show w.heap.size ≤ w.heap.size + 1 + 1; omega)) _) (.inr (by show w.heap.size ≤ w.heap.size + 1 + 1; omega)) _)⟩
      · have HX4 := Lib.hid (HX.out.trans ((if_neg (by simp)).trans ((if_neg h3).trans (if_pos h4))))
        have hqb : ((sq : Int) != 0) = true := by rw [bne_iff_ne]; omega
        obtain ⟨GA, GB⟩ := HKA.out (by first | rfl | trivial)
        go_enter Tryz.func29, Tryz.ntmps29
        go_wp2_with fail
        refine HFI.out.mono ?_
        rintro e w2 ⟨rfl, g2⟩
        have G2 := Lib.hid (only_trans M4.out g2)
        have A2 := Lib.hid (heap_kept M1.out g2 (by simp))
        have B2 := Lib.hid (heap_kept M2.out g2 (by simp))
        have C2 := Lib.hid (heap_kept M3.out g2 (by simp))
        clear g2
        obtain ⟨a0, a1, a2, af0, af1, af2⟩ := cells3 A2.out
        obtain ⟨b0, b1, b2, bf0, bf1, bf2⟩ := cells3 B2.out
        obtain ⟨c0, c1, c2, cf0, cf1, cf2⟩ := cells3 C2.out
        go_wp2_with fail
        refine (HSU.out GA GB _ G2.out).mono ?_
        rintro e w3 ⟨v3, rfl, r3, g3⟩
        have G3 := Lib.hid (only_trans G2.out g3)
        have A3 := Lib.hid (heap_kept A2.out g3 (by simp))
        have B3 := Lib.hid (heap_kept B2.out g3 (by simp))
        have C3 := Lib.hid (heap_kept C2.out g3 (by simp))
        have R3 := Lib.hid r3
        obtain ⟨va, vc, rfl⟩ := r3.shape
        clear r3
        clear g3 a0 a1 a2 af0 af1 af2 b0 b1 b2 bf0 bf1 bf2 c0 c1 c2 cf0 cf1 cf2
        obtain ⟨a0, a1, a2, af0, af1, af2⟩ := cells3 A3.out
        obtain ⟨b0, b1, b2, bf0, bf1, bf2⟩ := cells3 B3.out
        obtain ⟨c0, c1, c2, cf0, cf1, cf2⟩ := cells3 C3.out
        go_wp2_with fail
        rw [HX4.out]
        exact bodyPost_ret (ee.results_cell2 rfl _ _ (w.heap.size + 1 + 1) 51 #[.int .u64 0, .int .u64 0, .slice none 0 0] (0, 0) _ rfl (wm.heap_setc (wm.heap_setc (wm.heap_setc C3.out))) Tryz.underlying51 rfl (by kernel_rfl)) rfl ⟨.slice none 0 0, rfl, Rs.nil _ _ _ _, (only_setCell (only_setCell (only_setCell G3.out (.inr (by show w.heap.size ≤ w.heap.size + 1 + 1; omega)) _) (.inr (by show w.heap.size ≤ w.heap.size + 1 + 1; omega)) _) (.inr (by show w.heap.size ≤ w.heap.size + 1 + 1; omega)) _)⟩
  · have HX2 : Hid (R = (dt0, fc)) := by show _ = _; rw [HX.out, if_pos h2]
    have hqb : ((fc : Int) != 0) = true := by rw [bne_iff_ne]; omega
    go_enter Tryz.func29, Tryz.ntmps29
    go_wp2_with fail
    refine HFI.out.mono ?_
    rintro e w2 ⟨rfl, g2⟩
    have G2 := Lib.hid (only_trans M4.out g2)
    have A2 := Lib.hid (heap_kept M1.out g2 (by simp))
    have B2 := Lib.hid (heap_kept M2.out g2 (by simp))
    have C2 := Lib.hid (heap_kept M3.out g2 (by simp))
    clear g2
    obtain ⟨a0, a1, a2, af0, af1, af2⟩ := cells3 A2.out
    obtain ⟨b0, b1, b2, bf0, bf1, bf2⟩ := cells3 B2.out
    obtain ⟨c0, c1, c2, cf0, cf1, cf2⟩ := cells3 C2.out
    go_wp2_with fail
    rw [HX2.out]
    exact bodyPost_ret (ee.results_cell2 rfl _ _ (w.heap.size + 1 + 1) 51 #[.int .u64 0, .int .u64 0, .slice none 0 0] (0, 0) _ rfl (wm.heap_setc (wm.heap_setc (wm.heap_setc C2.out))) Tryz.underlying51 rfl (by kernel_rfl)) rfl ⟨.slice none 0 0, rfl, Rs.nil _ _ _ _, (only_setCell (only_setCell (only_setCell G2.out (.inr (by show w.heap.size ≤ w.heap.size + 1 + 1; omega)) _) (.inr (by show w.heap.size ≤ w.heap.size + 1 + 1; omega)) _) (.inr (by show w.heap.size ≤ w.heap.size + 1 + 1; omega)) _)⟩

end Go.Proofs.YtbebdaglkjhbjaaGreatDoor.da
