/-
  The developers' package delta: Diff.
-/
import Derived.Test.YtbebdaglkjhbjaaGreatDoorDlg
namespace Go.Proofs.YtbebdaglkjhbjaaGreatDoor.da
open Go.RowKit Go.Proofs.YtbebdaglkjhbjaaGreatDoor.vi Go.Proofs.YtbebdaglkjhbjaaGreatDoor.um Go.Proofs.YtbebdaglkjhbjaaGreatDoor.wm Go.Proofs.YtbebdaglkjhbjaaGreatDoor.tr Go.Proofs.YtbebdaglkjhbjaaGreatDoor.em Go.Proofs.YtbebdaglkjhbjaaGreatDoor.rm Go.Proofs.YtbebdaglkjhbjaaGreatDoor.law11 Go.Proofs.YtbebdaglkjhbjaaGreatDoor.dd Go.Proofs.YtbebdaglkjhbjaaGreatDoor.dr Go.Proofs.YtbebdaglkjhbjaaGreatDoor.tm Go.Proofs.YtbebdaglkjhbjaaGreatDoor.tf Go.Proofs.YtbebdaglkjhbjaaGreatDoor.dl Go.Proofs.YtbebdaglkjhbjaaGreatDoor.dz Go.Proofs.YtbebdaglkjhbjaaGreatDoor.ti
set_option linter.unusedVariables false
set_option linter.unusedSimpArgs false

/-- What stayed the same. -/
def stayed (a : List Rw) (r : Rw) : Bool := decide (r.n = getT r.d a)
theorem diff_kept (a b : List Rw) : diffT a b = (kept (stayed a) b b.length).map fun r => ⟨r.d, r.n - getT r.d a⟩ := by
  unfold diffT kept stayed
  rw [List.take_length]
  congr 2
  funext r
  by_cases h : r.n = getT r.d a <;> simp [h]

set_option maxHeartbeats 8000000 in
set_option maxRecDepth 100000 in
theorem diff_any (x y : Sn) (SA SB : Nat → Prop) (w : World) (u v : Value) (hx : Tok x.t) (hy : Tok y.t) (hT : tb.Tab w) (h : Rs SA w u x.t) (h2 : Rs SB w v y.t) :
    Calls Tryz.prog 23 #[snV x u, snV y v] w fun e w' => ∃ u', e = .returned (.tuple #[dtV (diffX x y).1 u', .int .i64 ((diffX x y).2 : Nat)]) ∧ Rs (fun k => k < w'.heap.size) w' u' (diffX x y).1.t ∧ w.grownBy w' none := by
  obtain ⟨ua, uc, rfl⟩ := h.shape
  obtain ⟨ya, yc, rfl⟩ := h2.shape
  have HCA := Lib.hid (fun w1 (g : w.grownBy w1 none) => scheck_any x SA w1 (.slice ua x.t.length uc) hx (tb.kept hT g) (h.grown g))
  have HCB := Lib.hid (fun w1 (g : w.grownBy w1 none) => scheck_any y SB w1 (.slice ya y.t.length yc) hy (tb.kept hT g) (h2.grown g))
  have HAT := Lib.hid (fun (k1 : Gk x.t) (k2 : Gk y.t) w1 (g : w.grownBy w1 none) => atleast_any y.t x.t SB SA w1 _ _ (by have := hy.1; omega) (by have := hx.1; omega) hy.2 hx.2 k2.1.2.2 (h2.grown g) (h.grown g))
  have HCO := Lib.hid (fun w1 (g : w.grownBy w1 none) => tclone_any y.t SB w1 _ (by have := hy.1; omega) (fun r hr => by have := (hy.2 r hr).1; omega) (h2.grown g))
  have HST := Lib.hid (fun (k1 : Gk x.t) w1 BB (z : Rw) T uz (hz : Fit z) (hB : w1.heap[BB]? = some (.cells #[.int .u64 (x.e : Nat), .slice ua x.t.length uc] 49 (0, 0))) (hh : Rs (fun k => k < w.heap.size) w1 (.slice ua x.t.length uc) x.t) (hu : EsS T w1 uz z.d) => stay_any w1 BB z x.t _ _ T uz _ hz k1 hB hh hu)
  have HXL := Lib.hid h.low
  have HYF := Lib.hid hy.2
  have hyl := hy.1
  have HX : Hid (diffX x y = if firstX (checkT x.t) (checkT y.t) ≠ 0 then (dt0, firstX (checkT x.t) (checkT y.t)) else if y.e ≤ x.e then (dt0, 20) else if atT y.t x.t = false then (dt0, 21) else (⟨x.e, y.e, diffT x.t y.t⟩, 0)) := rfl
  have hfl := firstX_lt (checkT_lt x.t) (checkT_lt y.t)
  obtain ⟨m1, m2, m3, m5, m4⟩ := made4 w (.cells #[.int .u64 (x.e : Nat), .slice ua x.t.length uc] 49) (.cells #[.int .u64 (y.e : Nat), .slice ya y.t.length yc] 49) (.cells #[.int .u64 0, .int .u64 0, .slice none 0 0] 51) (.cells #[.func (.func 35) #[(.agg #[.int .u64 (x.e : Nat), .slice ua x.t.length uc])] #[], .func (.func 35) #[(.agg #[.int .u64 (y.e : Nat), .slice ya y.t.length yc])] #[]] 46)
  have HFI := Lib.hid (first_ss _ (.agg #[.int .u64 (x.e : Nat), .slice ua x.t.length uc]) (.agg #[.int .u64 (y.e : Nat), .slice ya y.t.length yc]) (checkT x.t) (checkT y.t) _ _ (fun w1 g => HCA.out w1 (only_trans m4 g)) (fun w1 g => HCB.out w1 (only_trans m4 g)) m5)
  have HKA := Lib.hid (fun (e : firstX (checkT x.t) (checkT y.t) = 0) => (⟨Gk.of ((firstX_zero.1 e).1) hx, Gk.of ((firstX_zero.1 e).2) hy⟩ : Gk x.t ∧ Gk y.t))
  have M1 := Lib.hid m1
  have M2 := Lib.hid m2
  have M3 := Lib.hid m3
  have M4 := Lib.hid m4
  clear HCA HCB m5 hx hy h h2 m1 m2 m3 m4 hT
  unfold snV
  generalize diffX x y = R at *
  generalize firstX (checkT x.t) (checkT y.t) = fc at *
  by_cases h2 : fc = 0
  · subst h2
    obtain ⟨GA, GB⟩ := HKA.out (by first | rfl | trivial)
    by_cases h3 : y.e ≤ x.e
    · have HX2 := Lib.hid (HX.out.trans ((if_neg (by simp)).trans (if_pos h3)))
      have hbi : (y.e : Int) ≤ (x.e : Int) := by omega
      go_enter Tryz.func23, Tryz.ntmps23
      go_wp2_with fail
      refine HFI.out.mono ?_
      rintro e w1 ⟨rfl, g1⟩
      have G1 := Lib.hid (only_trans M4.out g1)
      have A1 := Lib.hid (heap_kept M1.out g1 (by simp))
      have B1 := Lib.hid (heap_kept M2.out g1 (by simp))
      have C1 := Lib.hid (heap_kept M3.out g1 (by simp))
      clear g1
      obtain ⟨a0, a1, af0, af1⟩ := cells2 A1.out
      obtain ⟨b0, b1, bf0, bf1⟩ := cells2 B1.out
      obtain ⟨c0, c1, c2, cf0, cf1, cf2⟩ := cells3 C1.out
      go_wp2_with fail
      rw [HX2.out]
      exact bodyPost_ret (ee.results_cell2 rfl _ _ (w.heap.size + 1 + 1) 51 #[.int .u64 0, .int .u64 0, .slice none 0 0] (0, 0) _ rfl (wm.heap_setc (wm.heap_setc (wm.heap_setc C1.out))) Tryz.underlying51 rfl (by kernel_rfl)) rfl ⟨.slice none 0 0, rfl, Rs.nil _ _ _ _, (only_setCell (only_setCell (only_setCell G1.out (.inr (by show w.heap.size ≤ w.heap.size + 1 + 1; omega)) _) (.inr (by show w.heap.size ≤ w.heap.size + 1 + 1; omega)) _) (.inr (by show w.heap.size ≤ w.heap.size + 1 + 1; omega)) _)⟩
    · have hbi : ¬ (y.e : Int) ≤ (x.e : Int) := by omega
      cases hatT : atT y.t x.t with
      | false =>
        have HX3 := Lib.hid (HX.out.trans ((if_neg (by simp)).trans ((if_neg h3).trans (if_pos hatT))))
        rw [hatT] at HAT
        go_enter Tryz.func23, Tryz.ntmps23
        go_wp2_with fail
        refine HFI.out.mono ?_
        rintro e w1 ⟨rfl, g1⟩
        have G1 := Lib.hid (only_trans M4.out g1)
        have A1 := Lib.hid (heap_kept M1.out g1 (by simp))
        have B1 := Lib.hid (heap_kept M2.out g1 (by simp))
        have C1 := Lib.hid (heap_kept M3.out g1 (by simp))
        clear g1
        obtain ⟨a0, a1, af0, af1⟩ := cells2 A1.out
        obtain ⟨b0, b1, bf0, bf1⟩ := cells2 B1.out
        obtain ⟨c0, c1, c2, cf0, cf1, cf2⟩ := cells3 C1.out
        go_wp2_with fail
        refine (HAT.out GA GB _ G1.out).mono ?_
        rintro e w2 ⟨rfl, g2⟩
        have G2 := Lib.hid (only_trans G1.out g2)
        have A2 := Lib.hid (heap_kept A1.out g2 (by simp))
        have B2 := Lib.hid (heap_kept B1.out g2 (by simp))
        have C2 := Lib.hid (heap_kept C1.out g2 (by simp))
        clear g2 a0 a1 af0 af1 b0 b1 bf0 bf1 c0 c1 c2 cf0 cf1 cf2
        obtain ⟨a0, a1, af0, af1⟩ := cells2 A2.out
        obtain ⟨b0, b1, bf0, bf1⟩ := cells2 B2.out
        obtain ⟨c0, c1, c2, cf0, cf1, cf2⟩ := cells3 C2.out
        go_wp2_with fail
        rw [HX3.out]
        exact bodyPost_ret (ee.results_cell2 rfl _ _ (w.heap.size + 1 + 1) 51 #[.int .u64 0, .int .u64 0, .slice none 0 0] (0, 0) _ rfl (wm.heap_setc (wm.heap_setc (wm.heap_setc C2.out))) Tryz.underlying51 rfl (by kernel_rfl)) rfl ⟨.slice none 0 0, rfl, Rs.nil _ _ _ _, (only_setCell (only_setCell (only_setCell G2.out (.inr (by show w.heap.size ≤ w.heap.size + 1 + 1; omega)) _) (.inr (by show w.heap.size ≤ w.heap.size + 1 + 1; omega)) _) (.inr (by show w.heap.size ≤ w.heap.size + 1 + 1; omega)) _)⟩
      | true =>
        have HX4 := Lib.hid (HX.out.trans ((if_neg (by simp)).trans ((if_neg h3).trans (if_neg (by simp [hatT])))))
        rw [hatT] at HAT
        go_enter Tryz.func23, Tryz.ntmps23
        go_wp2_with fail
        refine HFI.out.mono ?_
        rintro e w1 ⟨rfl, g1⟩
        have G1 := Lib.hid (only_trans M4.out g1)
        have A1 := Lib.hid (heap_kept M1.out g1 (by simp))
        have B1 := Lib.hid (heap_kept M2.out g1 (by simp))
        have C1 := Lib.hid (heap_kept M3.out g1 (by simp))
        clear g1
        obtain ⟨a0, a1, af0, af1⟩ := cells2 A1.out
        obtain ⟨b0, b1, bf0, bf1⟩ := cells2 B1.out
        obtain ⟨c0, c1, c2, cf0, cf1, cf2⟩ := cells3 C1.out
        go_wp2_with fail
        refine (HAT.out GA GB _ G1.out).mono ?_
        rintro e w2 ⟨rfl, g2⟩
        have G2 := Lib.hid (only_trans G1.out g2)
        have A2 := Lib.hid (heap_kept A1.out g2 (by simp))
        have B2 := Lib.hid (heap_kept B1.out g2 (by simp))
        have C2 := Lib.hid (heap_kept C1.out g2 (by simp))
        clear g2 a0 a1 af0 af1 b0 b1 bf0 bf1 c0 c1 c2 cf0 cf1 cf2
        obtain ⟨a0, a1, af0, af1⟩ := cells2 A2.out
        obtain ⟨b0, b1, bf0, bf1⟩ := cells2 B2.out
        obtain ⟨c0, c1, c2, cf0, cf1, cf2⟩ := cells3 C2.out
        go_wp2_with fail
        refine (HCO.out _ G2.out).mono ?_
        rintro e w3 ⟨v3, rfl, o3, g3⟩
        have G3 := Lib.hid (only_trans G2.out g3)
        have A3 := Lib.hid (heap_kept A2.out g3 (by simp))
        have B3 := Lib.hid (heap_kept B2.out g3 (by simp))
        have C3 := Lib.hid (heap_kept C2.out g3 (by simp))
        have HRX3 := Lib.hid (HXL.out.grown (only_trans G2.out g3))
        clear g3 a0 a1 af0 af1 b0 b1 bf0 bf1 c0 c1 c2 cf0 cf1 cf2
        obtain ⟨a0, a1, af0, af1⟩ := cells2 A3.out
        obtain ⟨b0, b1, bf0, bf1⟩ := cells2 B3.out
        obtain ⟨c0, c1, c2, cf0, cf1, cf2⟩ := cells3 C3.out
        have hw2 : w.heap.size ≤ w2.heap.size := G2.out.size
        have hA2 : w.heap.size < w2.heap.size := (Array.getElem?_eq_some_iff.1 A2.out).1
        have hC2 : w.heap.size + 1 + 1 < w2.heap.size := (Array.getElem?_eq_some_iff.1 C2.out).1
        by_cases hy0 : y.t.length = 0
        · obtain ⟨pa, pc, hv3⟩ := o3.shape
          rw [hy0] at hv3
          subst hv3
          have HD0 : Hid (diffT x.t y.t = []) := by show _ = _; rw [List.length_eq_zero_iff.1 hy0]; rfl
          clear o3
          go_wp2_with fail
          refine (del_nil w3 pa pc w.heap.size).mono ?_
          rintro e w4 ⟨rfl, g4⟩
          have G4 := Lib.hid (only_trans G3.out g4)
          have A4 := Lib.hid (heap_kept A3.out g4 (by simp))
          have B4 := Lib.hid (heap_kept B3.out g4 (by simp))
          have C4 := Lib.hid (heap_kept C3.out g4 (by simp))
          clear g4 a0 a1 af0 af1 b0 b1 bf0 bf1 c0 c1 c2 cf0 cf1 cf2
          obtain ⟨a0, a1, af0, af1⟩ := cells2 A4.out
          obtain ⟨b0, b1, bf0, bf1⟩ := cells2 B4.out
          obtain ⟨c0, c1, c2, cf0, cf1, cf2⟩ := cells3 C4.out
          go_wp2_with fail
          go_loopw [42] (fun q wr => q = .int .i64 0 ∧ w4.grownBy wr none) (fun q _ => 0)
          case atStart => exact ⟨rfl, only_refl _ _⟩
          case round =>
            obtain ⟨rfl, g5⟩ := hrel
            rename World => w5
            have G5 := Lib.hid (only_trans G4.out g5)
            have A5 := Lib.hid (heap_kept A4.out g5 (by simp))
            have B5 := Lib.hid (heap_kept B4.out g5 (by simp))
            have C5 := Lib.hid (heap_kept C4.out g5 (by simp))
            clear g5 a0 a1 af0 af1 b0 b1 bf0 bf1 c0 c1 c2 cf0 cf1 cf2
            obtain ⟨a0, a1, af0, af1⟩ := cells2 A5.out
            obtain ⟨b0, b1, bf0, bf1⟩ := cells2 B5.out
            obtain ⟨c0, c1, c2, cf0, cf1, cf2⟩ := cells3 C5.out
            go_wp2_with fail
            rw [HX4.out, HD0.out]
            exact bodyPost_ret (ee.results_cell2 rfl _ _ (w.heap.size + 1 + 1) 51 #[.int .u64 (x.e : Nat), .int .u64 (y.e : Nat), .slice pa 0 pc] (0, 0) _ rfl (wm.heap_setc (wm.heap_setc (wm.heap_setc C5.out))) Tryz.underlying51 rfl (by kernel_rfl)) rfl ⟨.slice pa 0 pc, rfl, Rs.nil _ _ _ _, (only_setCell (only_setCell (only_setCell G5.out (.inr (by show w.heap.size ≤ w.heap.size + 1 + 1; omega)) _) (.inr (by show w.heap.size ≤ w.heap.size + 1 + 1; omega)) _) (.inr (by show w.heap.size ≤ w.heap.size + 1 + 1; omega)) _)⟩
        · obtain ⟨g, cap, T, rfl, hcap, hcm, hgb, hTb, hRW⟩ := RowW.of o3 (by omega)
          have HRW := Lib.hid hRW
          have HTB := Lib.hid hTb
          clear o3 hRW hTb
          have HDL := Lib.hid (del_any w3 g y.t.length cap w.heap.size T y.t (stayed x.t) hyl (by omega) rfl hcap hcm HRW.out HYF.out (fun w9 g9 uz z hz hu => HST.out GA w9 w.heap.size z T uz hz (heap_kept A3.out g9 (by simp; omega)) (HRX3.out.kept (T := fun k => k = g) (Chg.of_grown g9 (fun k e => .inl (by cases e; rfl))) (fun k hk e => by have hk2 : k < w.heap.size := hk; omega)) hu))
          unfold maxLen at hcm
          go_wp2_with fail
          refine HDL.out.mono ?_
          rintro e w4 ⟨m, c', rfl, hm, hR4, hc4, g4⟩
          have G4 := Lib.hid (only_new G3.out g4 (by omega))
          have A4 := Lib.hid (heap_kept A3.out g4 (by simp; omega))
          have B4 := Lib.hid (heap_kept B3.out g4 (by simp; omega))
          have C4 := Lib.hid (heap_kept C3.out g4 (by simp; omega))
          have R4 := Lib.hid hR4
          have HC4 := Lib.hid hc4
          have HM := Lib.hid hm
          have HX4g := Lib.hid (HXL.out.grown G4.out)
          have HDK : Hid (diffT x.t y.t = (kept (stayed x.t) y.t y.t.length).map fun r => ⟨r.d, r.n - getT r.d x.t⟩) := diff_kept x.t y.t
          have HKF : Hid (∀ r ∈ kept (stayed x.t) y.t y.t.length, Fit r ∧ getT r.d x.t ≤ r.n) := by
            intro r hr
            have hr2 : r ∈ y.t := List.mem_of_mem_take (List.mem_filter.1 hr).1
            refine ⟨HYF.out r hr2, ?_⟩
            by_cases hz : getT r.d x.t = 0
            · omega
            · obtain ⟨z, hz1, hz2, hz3⟩ := getT_mem hz
              have h8 := (atT_iff y.t x.t).1 hatT z hz1
              rw [getT_of GB.1.2.2 hr2 (show keyD z.d = key r from hz2)] at h8
              omega
          have hml := kept_le (stayed x.t) y.t y.t.length
          rw [← HM.out] at hml
          have HGE := Lib.hid (fun w9 uz (z : Rw) T9 (hz : Fit z) (hh : Rs (fun k => k < w.heap.size) w9 (.slice ua x.t.length uc) x.t) (hu : EsS T9 w9 uz z.d) => ti.get_any x.t z.d _ _ w9 (.slice ua x.t.length uc) uz (by have := GA.tok.1; omega) GA.tok.2 GA.1.2.2 ⟨hz.1, hz.2.1, hz.2.2.1⟩ hh hu.es)
          generalize kept (stayed x.t) y.t y.t.length = L at *
          clear hR4 hc4 hm g4 a0 a1 af0 af1 b0 b1 bf0 bf1 c0 c1 c2 cf0 cf1 cf2
          obtain ⟨a0, a1, af0, af1⟩ := cells2 A4.out
          obtain ⟨b0, b1, bf0, bf1⟩ := cells2 B4.out
          obtain ⟨c0, c1, c2, cf0, cf1, cf2⟩ := cells3 C4.out
          go_wp2_with fail
          go_loopw [42] (fun q wr => ∃ (i : Nat) (c : Nat → Rw), i ≤ m ∧ q = .int .i64 i ∧ RowW g m T wr c ∧ (∀ (j : Nat) (z : Rw), L[j]? = some z → c j = if j < i then ⟨z.d, z.n - getT z.d x.t⟩ else z) ∧ w4.grownBy wr (some g)) (fun q _ => m - (intOf q).toNat)
          case atStart => exact ⟨0, c', Nat.zero_le _, rfl, R4.out, fun j z hz => by rw [if_neg (by omega)]; exact HC4.out j z hz, only_refl _ _⟩
          case round =>
            obtain ⟨i, c, hi, rfl, hRw, hci, g5⟩ := hrel
            have R5 := Lib.hid hRw
            have HCI := Lib.hid hci
            have K5 := Lib.hid g5
            have G5 := Lib.hid (only_new G4.out g5 (by omega))
            have A5 := Lib.hid (heap_kept A4.out g5 (by simp; omega))
            have B5 := Lib.hid (heap_kept B4.out g5 (by simp; omega))
            have C5 := Lib.hid (heap_kept C4.out g5 (by simp; omega))
            have HX5 := Lib.hid (HXL.out.grown G5.out)
            clear hRw hci g5 a0 a1 af0 af1 b0 b1 bf0 bf1 c0 c1 c2 cf0 cf1 cf2
            obtain ⟨a0, a1, af0, af1⟩ := cells2 A5.out
            obtain ⟨b0, b1, bf0, bf1⟩ := cells2 B5.out
            obtain ⟨c0, c1, c2, cf0, cf1, cf2⟩ := cells3 C5.out
            by_cases hlt : i < m
            · obtain ⟨z, hz⟩ : ∃ z, L[i]? = some z := ⟨L[i]'(by have := HM.out; omega), List.getElem?_eq_getElem _⟩
              have hcz := HCI.out i z hz
              rw [if_neg (by omega)] at hcz
              obtain ⟨hfz, hgz⟩ := HKF.out z (List.mem_of_getElem? hz)
              obtain ⟨uz, e1, e2, e3, e4, e5⟩ := R5.out.2.2 i hlt
              rw [hcz] at e2 e3
              have HES := Lib.hid e2
              obtain ⟨za, zc, rfl⟩ := e2.shape
              have HZ := Lib.hid hz
              have hzn := hfz.2.2.2
              have hglt : g < wr.heap.size := R5.out.1
              have GX := Lib.hid (only_alloc (only_refl wr none) (.cells #[.slice za z.d.length zc, .int .u64 (z.n : Nat)] 80))
              have F0 := Lib.hid (heap_alloc_new wr (.cells #[.slice za z.d.length zc, .int .u64 (z.n : Nat)] 80))
              have HGX := Lib.hid (fun w9 (g9 : (wr.alloc (.cells #[.slice za z.d.length zc, .int .u64 (z.n : Nat)] 80)).grownBy w9 none) => HGE.out w9 _ z _ hfz (HX5.out.grown (only_trans GX.out g9)) (HES.out.grown (only_trans GX.out g9)))
              have HSN := Lib.hid (fun w9 (g9 : (wr.alloc (.cells #[.slice za z.d.length zc, .int .u64 (z.n : Nat)] 80)).grownBy w9 none) => (R5.out.grown (only_trans GX.out g9)).setN (i := i) hlt (z.n - getT z.d x.t))
              have HCZ := Lib.hid hcz
              have hg1 : g ≠ wr.heap.size := by omega
              have hg2 : g ≠ w.heap.size := by omega
              have HRC := Lib.hid (fun w9 (g9 : (wr.alloc (.cells #[.slice za z.d.length zc, .int .u64 (z.n : Nat)] 80)).grownBy w9 none) => (show (∃ q, w9.cell? ⟨g, i * 2 + 1, none⟩ = some q) ∧ w9.frozen? ⟨g, i * 2 + 1, none⟩ = false from by
                obtain ⟨_, _, _, q3, _, q5⟩ := (R5.out.grown (only_trans GX.out g9)).2.2 i hlt
                exact ⟨⟨_, q3⟩, q5⟩))
              have HCE := Lib.hid (fun w9 (g9 : (wr.alloc (.cells #[.slice za z.d.length zc, .int .u64 (z.n : Nat)] 80)).grownBy w9 none) => (show w9.cell? ⟨wr.heap.size, 0, none⟩ = some (.slice za z.d.length zc) ∧ w9.cell? ⟨wr.heap.size, 1, none⟩ = some (.int .u64 (z.n : Nat)) ∧ w9.cell? ⟨w.heap.size, 1, none⟩ = some (.slice ua x.t.length uc) from
                ⟨(cells2 (heap_kept F0.out g9 (by simp))).1, (cells2 (heap_kept F0.out g9 (by simp))).2.1, (cells2 (heap_kept (heap_kept A5.out GX.out (by simp)) g9 (by simp))).2.1⟩))
              have HSE := Lib.hid (fun w9 (g9 : (wr.alloc (.cells #[.slice za z.d.length zc, .int .u64 (z.n : Nat)] 80)).grownBy w9 none) qv => (show (w9.setCell ⟨g, i * 2 + 1, none⟩ qv).cell? ⟨wr.heap.size, 0, none⟩ = some (.slice za z.d.length zc) ∧ (w9.setCell ⟨g, i * 2 + 1, none⟩ qv).cell? ⟨wr.heap.size, 1, none⟩ = some (.int .u64 (z.n : Nat)) ∧ (w9.setCell ⟨g, i * 2 + 1, none⟩ qv).cell? ⟨w.heap.size, 1, none⟩ = some (.slice ua x.t.length uc) from by
                obtain ⟨s1, s2, s3⟩ := HCE.out w9 g9
                refine ⟨?_, ?_, ?_⟩
                · rw [World.cell?_setCell_other _ _ _ _ (by simp only [ne_eq, Addr.mk.injEq, and_true]; intro e; exact hg1 e.1)]; exact s1
                · rw [World.cell?_setCell_other _ _ _ _ (by simp only [ne_eq, Addr.mk.injEq, and_true]; intro e; exact hg1 e.1)]; exact s2
                · rw [World.cell?_setCell_other _ _ _ _ (by simp only [ne_eq, Addr.mk.injEq, and_true]; intro e; exact hg2 e.1)]; exact s3))
              clear hz hcz e2 hfz
              generalize hnn : getT z.d x.t = n at *
              have HNN := Lib.hid hnn
              have hwr : IntKind.u64.wrap ((z.n : Int) - (n : Int)) = ((z.n - n : Nat) : Int) := by rw [IntKind.wrap_u64]; omega
              have hsub : ((z.n - n : Nat) : Int) = (z.n : Int) - (n : Int) := by omega
              have HWR := Lib.hid hwr
              have HSUB := Lib.hid hsub
              clear hnn hsub
              go_wp2_with fail
              generalize wr.alloc (.cells #[.slice za z.d.length zc, .int .u64 (z.n : Nat)] 80) = wa at *
              have HDR := Lib.hid (only_drew (only_refl wa none))
              obtain ⟨p0, p1, p2⟩ := HCE.out wa (only_refl _ _)
              go_region_held3 (fun w' => w'.cell? ⟨wr.heap.size, 0, none⟩ = some (.slice za z.d.length zc) ∧ w'.cell? ⟨wr.heap.size, 1, none⟩ = some (.int .u64 (z.n : Nat)) ∧ w'.cell? ⟨w.heap.size, 1, none⟩ = some (.slice ua x.t.length uc))
                (first
                  | go_keep
                  | exact HCE.out _ G9.out
                  | exact HSE.out _ G9.out _)
                (first
                  | (go_at_call 64; refine (HGX.out _ HDR.out).mono ?_; rintro e w9 ⟨rfl, g9⟩; have G9 := Lib.hid (only_trans HDR.out g9); obtain ⟨⟨q0, q1⟩, q2⟩ := HRC.out _ G9.out; clear g9))
              have HSM := Lib.hid (HSN.out w9 G9.out)
              go_wp2_with fail
              go_roundw
              case rel =>
                refine ⟨i + 1, _, by omega, by go_num, by first | exact HSM.out | (have h9 := HSM.out; rw [HSUB.out] at h9; exact h9), fun j t ht => ?_, only_setCell (p := ⟨g, i * 2 + 1, none⟩) (only_trans K5.out (only_of_none (only_trans GX.out G9.out) _)) (.inl rfl) _⟩
                by_cases hji : j = i
                · subst hji
                  obtain rfl : t = z := by have h9 := HZ.out; rw [ht] at h9; exact Option.some.inj h9
                  simp only [if_true]
                  rw [if_pos (by omega), HCZ.out, HNN.out]
                · simp only [if_neg hji]
                  rw [HCI.out j t ht]
                  by_cases hlt2 : j < i
                  · rw [if_pos hlt2, if_pos (by omega)]
                  · rw [if_neg hlt2, if_neg (by omega)]
              case measure => simp [intOf]; omega
            · have hie : i = m := by omega
              subst hie
              go_wp2_with fail
              rw [HX4.out, HDK.out]
              have RZ : Rs (fun k => k < wr.heap.size) wr (.slice (some ⟨g, 0, none⟩) i cap) (L.map fun r => (⟨r.d, r.n - getT r.d x.t⟩ : Rw)) := ((R5.out.rs (rs := L.map fun r => (⟨r.d, r.n - getT r.d x.t⟩ : Rw)) (by rw [List.length_map]; exact HM.out.symm) (by omega) (by unfold maxLen; omega) (fun j z hz => by
                rw [List.getElem?_map] at hz
                cases hz2 : L[j]? with
                | none => rw [hz2] at hz; simp at hz
                | some t =>
                  rw [hz2] at hz
                  simp at hz
                  have hji : j < i := by have := (List.getElem?_eq_some_iff.1 hz2).1; have := HM.out; omega
                  rw [HCI.out j t hz2, if_pos hji]
                  exact hz))).low
              exact bodyPost_ret (ee.results_cell2 rfl _ _ (w.heap.size + 1 + 1) 51 #[.int .u64 (x.e : Nat), .int .u64 (y.e : Nat), .slice (some ⟨g, 0, none⟩) i cap] (0, 0) _ rfl (wm.heap_setc (wm.heap_setc (wm.heap_setc C5.out))) Tryz.underlying51 rfl (by kernel_rfl)) rfl ⟨.slice (some ⟨g, 0, none⟩) i cap, rfl, rs_off3 RZ C5.out (only_setCell (only_setCell (only_setCell (only_refl _ (some (w.heap.size + 1 + 1))) (.inl rfl) _) (.inl rfl) _) (.inl rfl) _), (only_setCell (only_setCell (only_setCell G5.out (.inr (by show w.heap.size ≤ w.heap.size + 1 + 1; omega)) _) (.inr (by show w.heap.size ≤ w.heap.size + 1 + 1; omega)) _) (.inr (by show w.heap.size ≤ w.heap.size + 1 + 1; omega)) _)⟩
  · have HX1 : Hid (R = (dt0, fc)) := by show _ = _; rw [HX.out, if_pos h2]
    have hqb : ((fc : Int) != 0) = true := by rw [bne_iff_ne]; omega
    go_enter Tryz.func23, Tryz.ntmps23
    go_wp2_with fail
    refine HFI.out.mono ?_
    rintro e w1 ⟨rfl, g1⟩
    have G1 := Lib.hid (only_trans M4.out g1)
    have A1 := Lib.hid (heap_kept M1.out g1 (by simp))
    have B1 := Lib.hid (heap_kept M2.out g1 (by simp))
    have C1 := Lib.hid (heap_kept M3.out g1 (by simp))
    clear g1
    obtain ⟨a0, a1, af0, af1⟩ := cells2 A1.out
    obtain ⟨b0, b1, bf0, bf1⟩ := cells2 B1.out
    obtain ⟨c0, c1, c2, cf0, cf1, cf2⟩ := cells3 C1.out
    go_wp2_with fail
    rw [HX1.out]
    exact bodyPost_ret (ee.results_cell2 rfl _ _ (w.heap.size + 1 + 1) 51 #[.int .u64 0, .int .u64 0, .slice none 0 0] (0, 0) _ rfl (wm.heap_setc (wm.heap_setc (wm.heap_setc C1.out))) Tryz.underlying51 rfl (by kernel_rfl)) rfl ⟨.slice none 0 0, rfl, Rs.nil _ _ _ _, (only_setCell (only_setCell (only_setCell G1.out (.inr (by show w.heap.size ≤ w.heap.size + 1 + 1; omega)) _) (.inr (by show w.heap.size ≤ w.heap.size + 1 + 1; omega)) _) (.inr (by show w.heap.size ≤ w.heap.size + 1 + 1; omega)) _)⟩

end Go.Proofs.YtbebdaglkjhbjaaGreatDoor.da
