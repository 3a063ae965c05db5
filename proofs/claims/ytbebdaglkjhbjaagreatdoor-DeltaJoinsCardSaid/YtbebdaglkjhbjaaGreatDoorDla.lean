/-
  The developers' package delta: may it be, the first of two checks.
-/
import Derived.Test.YtbebdaglkjhbjaaGreatDoorDlt
import Derived.Test.YtbebdaglkjhbjaaGreatDoorTal
import Derived.Test.YtbebdaglkjhbjaaGreatDoorBundH
namespace Go.Proofs.YtbebdaglkjhbjaaGreatDoor.da
open Go.RowKit Go.Proofs.YtbebdaglkjhbjaaGreatDoor.vi Go.Proofs.YtbebdaglkjhbjaaGreatDoor.um Go.Proofs.YtbebdaglkjhbjaaGreatDoor.wm Go.Proofs.YtbebdaglkjhbjaaGreatDoor.tr Go.Proofs.YtbebdaglkjhbjaaGreatDoor.em Go.Proofs.YtbebdaglkjhbjaaGreatDoor.rm Go.Proofs.YtbebdaglkjhbjaaGreatDoor.law11 Go.Proofs.YtbebdaglkjhbjaaGreatDoor.dd Go.Proofs.YtbebdaglkjhbjaaGreatDoor.dr Go.Proofs.YtbebdaglkjhbjaaGreatDoor.tm Go.Proofs.YtbebdaglkjhbjaaGreatDoor.tf Go.Proofs.YtbebdaglkjhbjaaGreatDoor.dl Go.Proofs.YtbebdaglkjhbjaaGreatDoor.dz Go.Proofs.YtbebdaglkjhbjaaGreatDoor.ti
set_option linter.unusedVariables false
set_option linter.unusedSimpArgs false

theorem Gk.of {t : List Rw} (h : checkT t = 0) (hk : Tok t) : Gk t := ⟨(checkT_ok t).1 h, fun r hr => (hk.2 r hr).2.2.2⟩
theorem made4 (w : World) (A B C D : Obj) : ((((w.alloc A).alloc B).alloc C).alloc D).heap[w.heap.size]? = some A ∧ ((((w.alloc A).alloc B).alloc C).alloc D).heap[w.heap.size + 1]? = some B ∧ ((((w.alloc A).alloc B).alloc C).alloc D).heap[w.heap.size + 1 + 1]? = some C ∧ ((((w.alloc A).alloc B).alloc C).alloc D).heap[w.heap.size + 1 + 1 + 1]? = some D ∧ w.grownBy ((((w.alloc A).alloc B).alloc C).alloc D) none := by
  obtain ⟨h1, h2, h3, h4, h5⟩ := made3 w A B C
  have h6 := heap_alloc_new (((w.alloc A).alloc B).alloc C) D
  rw [h5] at h6
  have g := only_alloc (only_refl (((w.alloc A).alloc B).alloc C) none) D
  exact ⟨heap_kept h1 g (by simp), heap_kept h2 g (by simp), heap_kept h3 g (by simp), h6, only_alloc h4 D⟩

/-! Check -/
set_option maxRecDepth 100000 in
theorem scheck_any (s : Sn) (S : Nat → Prop) (w : World) (u : Value) (hs : Tok s.t) (hT : tb.Tab w) (h : Rs S w u s.t) :
    Calls Tryz.prog 35 #[snV s u] w fun e w' => e = .returned (.int .i64 (checkT s.t : Nat)) ∧ w.grownBy w' none := by
  have HC := Lib.hid (fun w1 (g : w.grownBy w1 none) => tcheck_any s.t S w1 u (by have := hs.1; unfold maxLen; omega) (fun r hr => fit_rok (hs.2 r hr)) (tb.kept hT g) (h.grown g))
  obtain ⟨ua, uc, rfl⟩ := h.shape
  have M2 := Lib.hid (made1 w (.cells #[.int .u64 (s.e : Nat), .slice ua s.t.length uc] 49)).2.1
  clear hs h hT
  unfold snV
  generalize checkT s.t = c at *
  go_enter Tryz.func35, Tryz.ntmps35
  go_wp2_with fail
  refine (HC.out _ M2.out).mono ?_
  rintro e w1 ⟨rfl, g1⟩
  go_wp2_with fail
  go_ret
  exact ⟨rfl, only_trans M2.out g1⟩

set_option maxRecDepth 100000 in
theorem dcheck_any (d : Dt) (S : Nat → Prop) (w : World) (u : Value) (hd : Tok d.t) (hT : tb.Tab w) (h : Rs S w u d.t) :
    Calls Tryz.prog 33 #[dtV d u] w fun e w' => e = .returned (.int .i64 (checkX d : Nat)) ∧ w.grownBy w' none := by
  have HC := Lib.hid (fun w1 (g : w.grownBy w1 none) => tcheck_any d.t S w1 u (by have := hd.1; unfold maxLen; omega) (fun r hr => fit_rok (hd.2 r hr)) (tb.kept hT g) (h.grown g))
  have HX : Hid (checkX d = if d.e ≤ d.b then 20 else checkT d.t) := rfl
  obtain ⟨ua, uc, rfl⟩ := h.shape
  have M2 := Lib.hid (made1 w (.cells #[.int .u64 (d.b : Nat), .int .u64 (d.e : Nat), .slice ua d.t.length uc] 51)).2.1
  clear hd h hT
  unfold dtV
  generalize checkX d = R at *
  generalize checkT d.t = c at *
  obtain ⟨p, q, t⟩ := d
  simp only at *
  by_cases h0 : q ≤ p
  · have HX2 := Lib.hid (HX.out.trans (if_pos h0))
    have h0i : (q : Int) ≤ (p : Int) := by omega
    go_enter Tryz.func33, Tryz.ntmps33
    go_wp2_with fail
    go_ret
    rw [HX2.out]
    exact ⟨rfl, M2.out⟩
  · have HX2 := Lib.hid (HX.out.trans (if_neg h0))
    have h0i : ¬ (q : Int) ≤ (p : Int) := by omega
    go_enter Tryz.func33, Tryz.ntmps33
    go_wp2_with fail
    refine (HC.out _ M2.out).mono ?_
    rintro e w1 ⟨rfl, g1⟩
    go_wp2_with fail
    go_ret
    rw [HX2.out]
    exact ⟨rfl, only_trans M2.out g1⟩

set_option maxRecDepth 100000 in
theorem first_ss (w : World) (a1 a2 : Value) (c1 c2 : Nat) (b : Nat) (ty : TypeId) (H1 : ∀ w1, w.grownBy w1 none → Calls Tryz.prog 35 #[a1] w1 fun e w' => e = .returned (.int .i64 (c1 : Nat)) ∧ w1.grownBy w' none)
    (H2 : ∀ w1, w.grownBy w1 none → Calls Tryz.prog 35 #[a2] w1 fun e w' => e = .returned (.int .i64 (c2 : Nat)) ∧ w1.grownBy w' none) (hb : w.heap[b]? = some (.cells #[.func (.func 35) #[a1] #[], .func (.func 35) #[a2] #[]] ty (0, 0))) :
    Calls Tryz.prog 62 #[.slice (some ⟨b, 0, none⟩) 2 2] w fun e w' => e = .returned (.int .i64 (firstX c1 c2 : Nat)) ∧ w.grownBy w' none := by
  have HH1 := Lib.hid H1
  have HH2 := Lib.hid H2
  have HB := Lib.hid hb
  clear H1 H2 hb
  go_enter Tryz.func62, Tryz.ntmps62
  go_wp2_with fail
  go_loopw [8] (fun q wr => ∃ (i : Nat), i ≤ 2 ∧ q = .int .i64 i ∧ (0 < i → c1 = 0) ∧ (1 < i → c2 = 0) ∧ w.grownBy wr none) (fun q _ => 2 - (intOf q).toNat)
  case atStart => exact ⟨0, by omega, rfl, fun h => by omega, fun h => by omega, only_refl _ _⟩
  case round =>
    obtain ⟨i, hi, rfl, hc1, hc2, hg⟩ := hrel
    have HG := Lib.hid hg
    obtain ⟨d0, d1, -⟩ := cells2 (heap_kept HB.out hg (by simp))
    clear hg
    rcases (show i = 0 ∨ i = 1 ∨ i = 2 by omega) with rfl | rfl | rfl
    · clear hc1 hc2
      go_wp2_with fail
      refine (HH1.out _ HG.out).mono ?_
      rintro e w1 ⟨rfl, g1⟩
      have G1 := Lib.hid (only_trans HG.out g1)
      clear g1
      by_cases h0 : c1 = 0
      · subst h0
        go_wp2_with fail
        go_roundw
        case rel => exact ⟨1, by omega, by go_num, fun _ => by first | rfl | trivial, fun h => by omega, G1.out⟩
        case measure => simp [intOf]
      · have hqb : ((c1 : Int) != 0) = true := by rw [bne_iff_ne]; omega
        have HF : Hid (firstX c1 c2 = c1) := by show _ = _; unfold firstX; rw [if_pos h0]
        go_wp2_with fail
        go_ret
        rw [HF.out]
        exact ⟨rfl, G1.out⟩
    · obtain rfl := hc1 (by omega)
      clear hc1 hc2
      go_wp2_with fail
      refine (HH2.out _ HG.out).mono ?_
      rintro e w1 ⟨rfl, g1⟩
      have G1 := Lib.hid (only_trans HG.out g1)
      clear g1
      by_cases h0 : c2 = 0
      · subst h0
        go_wp2_with fail
        go_roundw
        case rel => exact ⟨2, by omega, by go_num, fun _ => by first | rfl | trivial, fun _ => by first | rfl | trivial, G1.out⟩
        case measure => simp [intOf]
      · have hqb : ((c2 : Int) != 0) = true := by rw [bne_iff_ne]; omega
        have HF : Hid (firstX 0 c2 = c2) := rfl
        go_wp2_with fail
        go_ret
        rw [HF.out]
        exact ⟨rfl, G1.out⟩
    · obtain rfl := hc1 (by omega)
      obtain rfl := hc2 (by omega)
      clear hc1 hc2
      have HF : Hid (firstX 0 0 = 0) := rfl
      go_wp2_with fail
      go_ret
      rw [HF.out]
      exact ⟨rfl, HG.out⟩

set_option maxRecDepth 100000 in
theorem first_sd (w : World) (a1 a2 : Value) (c1 c2 : Nat) (b : Nat) (ty : TypeId) (H1 : ∀ w1, w.grownBy w1 none → Calls Tryz.prog 35 #[a1] w1 fun e w' => e = .returned (.int .i64 (c1 : Nat)) ∧ w1.grownBy w' none)
    (H2 : ∀ w1, w.grownBy w1 none → Calls Tryz.prog 33 #[a2] w1 fun e w' => e = .returned (.int .i64 (c2 : Nat)) ∧ w1.grownBy w' none) (hb : w.heap[b]? = some (.cells #[.func (.func 35) #[a1] #[], .func (.func 33) #[a2] #[]] ty (0, 0))) :
    Calls Tryz.prog 62 #[.slice (some ⟨b, 0, none⟩) 2 2] w fun e w' => e = .returned (.int .i64 (firstX c1 c2 : Nat)) ∧ w.grownBy w' none := by
  have HH1 := Lib.hid H1
  have HH2 := Lib.hid H2
  have HB := Lib.hid hb
  clear H1 H2 hb
  go_enter Tryz.func62, Tryz.ntmps62
  go_wp2_with fail
  go_loopw [8] (fun q wr => ∃ (i : Nat), i ≤ 2 ∧ q = .int .i64 i ∧ (0 < i → c1 = 0) ∧ (1 < i → c2 = 0) ∧ w.grownBy wr none) (fun q _ => 2 - (intOf q).toNat)
  case atStart => exact ⟨0, by omega, rfl, fun h => by omega, fun h => by omega, only_refl _ _⟩
  case round =>
    obtain ⟨i, hi, rfl, hc1, hc2, hg⟩ := hrel
    have HG := Lib.hid hg
    obtain ⟨d0, d1, -⟩ := cells2 (heap_kept HB.out hg (by simp))
    clear hg
    rcases (show i = 0 ∨ i = 1 ∨ i = 2 by omega) with rfl | rfl | rfl
    · clear hc1 hc2
      go_wp2_with fail
      refine (HH1.out _ HG.out).mono ?_
      rintro e w1 ⟨rfl, g1⟩
      have G1 := Lib.hid (only_trans HG.out g1)
      clear g1
      by_cases h0 : c1 = 0
      · subst h0
        go_wp2_with fail
        go_roundw
        case rel => exact ⟨1, by omega, by go_num, fun _ => by first | rfl | trivial, fun h => by omega, G1.out⟩
        case measure => simp [intOf]
      · have hqb : ((c1 : Int) != 0) = true := by rw [bne_iff_ne]; omega
        have HF : Hid (firstX c1 c2 = c1) := by show _ = _; unfold firstX; rw [if_pos h0]
        go_wp2_with fail
        go_ret
        rw [HF.out]
        exact ⟨rfl, G1.out⟩
    · obtain rfl := hc1 (by omega)
      clear hc1 hc2
      go_wp2_with fail
      refine (HH2.out _ HG.out).mono ?_
      rintro e w1 ⟨rfl, g1⟩
      have G1 := Lib.hid (only_trans HG.out g1)
      clear g1
      by_cases h0 : c2 = 0
      · subst h0
        go_wp2_with fail
        go_roundw
        case rel => exact ⟨2, by omega, by go_num, fun _ => by first | rfl | trivial, fun _ => by first | rfl | trivial, G1.out⟩
        case measure => simp [intOf]
      · have hqb : ((c2 : Int) != 0) = true := by rw [bne_iff_ne]; omega
        have HF : Hid (firstX 0 c2 = c2) := rfl
        go_wp2_with fail
        go_ret
        rw [HF.out]
        exact ⟨rfl, G1.out⟩
    · obtain rfl := hc1 (by omega)
      obtain rfl := hc2 (by omega)
      clear hc1 hc2
      have HF : Hid (firstX 0 0 = 0) := rfl
      go_wp2_with fail
      go_ret
      rw [HF.out]
      exact ⟨rfl, HG.out⟩

set_option maxRecDepth 100000 in
theorem first_dd (w : World) (a1 a2 : Value) (c1 c2 : Nat) (b : Nat) (ty : TypeId) (H1 : ∀ w1, w.grownBy w1 none → Calls Tryz.prog 33 #[a1] w1 fun e w' => e = .returned (.int .i64 (c1 : Nat)) ∧ w1.grownBy w' none)
    (H2 : ∀ w1, w.grownBy w1 none → Calls Tryz.prog 33 #[a2] w1 fun e w' => e = .returned (.int .i64 (c2 : Nat)) ∧ w1.grownBy w' none) (hb : w.heap[b]? = some (.cells #[.func (.func 33) #[a1] #[], .func (.func 33) #[a2] #[]] ty (0, 0))) :
    Calls Tryz.prog 62 #[.slice (some ⟨b, 0, none⟩) 2 2] w fun e w' => e = .returned (.int .i64 (firstX c1 c2 : Nat)) ∧ w.grownBy w' none := by
  have HH1 := Lib.hid H1
  have HH2 := Lib.hid H2
  have HB := Lib.hid hb
  clear H1 H2 hb
  go_enter Tryz.func62, Tryz.ntmps62
  go_wp2_with fail
  go_loopw [8] (fun q wr => ∃ (i : Nat), i ≤ 2 ∧ q = .int .i64 i ∧ (0 < i → c1 = 0) ∧ (1 < i → c2 = 0) ∧ w.grownBy wr none) (fun q _ => 2 - (intOf q).toNat)
  case atStart => exact ⟨0, by omega, rfl, fun h => by omega, fun h => by omega, only_refl _ _⟩
  case round =>
    obtain ⟨i, hi, rfl, hc1, hc2, hg⟩ := hrel
    have HG := Lib.hid hg
    obtain ⟨d0, d1, -⟩ := cells2 (heap_kept HB.out hg (by simp))
    clear hg
    rcases (show i = 0 ∨ i = 1 ∨ i = 2 by omega) with rfl | rfl | rfl
    · clear hc1 hc2
      go_wp2_with fail
      refine (HH1.out _ HG.out).mono ?_
      rintro e w1 ⟨rfl, g1⟩
      have G1 := Lib.hid (only_trans HG.out g1)
      clear g1
      by_cases h0 : c1 = 0
      · subst h0
        go_wp2_with fail
        go_roundw
        case rel => exact ⟨1, by omega, by go_num, fun _ => by first | rfl | trivial, fun h => by omega, G1.out⟩
        case measure => simp [intOf]
      · have hqb : ((c1 : Int) != 0) = true := by rw [bne_iff_ne]; omega
        have HF : Hid (firstX c1 c2 = c1) := by show _ = _; unfold firstX; rw [if_pos h0]
        go_wp2_with fail
        go_ret
        rw [HF.out]
        exact ⟨rfl, G1.out⟩
    · obtain rfl := hc1 (by omega)
      clear hc1 hc2
      go_wp2_with fail
      refine (HH2.out _ HG.out).mono ?_
      rintro e w1 ⟨rfl, g1⟩
      have G1 := Lib.hid (only_trans HG.out g1)
      clear g1
      by_cases h0 : c2 = 0
      · subst h0
        go_wp2_with fail
        go_roundw
        case rel => exact ⟨2, by omega, by go_num, fun _ => by first | rfl | trivial, fun _ => by first | rfl | trivial, G1.out⟩
        case measure => simp [intOf]
      · have hqb : ((c2 : Int) != 0) = true := by rw [bne_iff_ne]; omega
        have HF : Hid (firstX 0 c2 = c2) := rfl
        go_wp2_with fail
        go_ret
        rw [HF.out]
        exact ⟨rfl, G1.out⟩
    · obtain rfl := hc1 (by omega)
      obtain rfl := hc2 (by omega)
      clear hc1 hc2
      have HF : Hid (firstX 0 0 = 0) := rfl
      go_wp2_with fail
      go_ret
      rw [HF.out]
      exact ⟨rfl, HG.out⟩

end Go.Proofs.YtbebdaglkjhbjaaGreatDoor.da
