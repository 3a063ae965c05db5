/-
  The statement DeltaBack.
-/
import Derived.Test.YtbebdaglkjhbjaaGreatDoorLaw16J
import Derived.Test.YtbebdaglkjhbjaaGreatDoorBundN
namespace Go.Proofs.YtbebdaglkjhbjaaGreatDoor.law16
open Go.RowKit Go.Proofs.YtbebdaglkjhbjaaGreatDoor.vi Go.Proofs.YtbebdaglkjhbjaaGreatDoor.um Go.Proofs.YtbebdaglkjhbjaaGreatDoor.wm Go.Proofs.YtbebdaglkjhbjaaGreatDoor.tr Go.Proofs.YtbebdaglkjhbjaaGreatDoor.em Go.Proofs.YtbebdaglkjhbjaaGreatDoor.rm Go.Proofs.YtbebdaglkjhbjaaGreatDoor.law11 Go.Proofs.YtbebdaglkjhbjaaGreatDoor.dd Go.Proofs.YtbebdaglkjhbjaaGreatDoor.dr Go.Proofs.YtbebdaglkjhbjaaGreatDoor.tm Go.Proofs.YtbebdaglkjhbjaaGreatDoor.tf Go.Proofs.YtbebdaglkjhbjaaGreatDoor.ti Go.Proofs.YtbebdaglkjhbjaaGreatDoor.dl Go.Proofs.YtbebdaglkjhbjaaGreatDoor.dz Go.Proofs.YtbebdaglkjhbjaaGreatDoor.da Go.Proofs.YtbebdaglkjhbjaaGreatDoor.law13
set_option linter.unusedVariables false
set_option linter.unusedSimpArgs false

set_option maxHeartbeats 16000000 in
set_option maxRecDepth 100000 in
theorem back_any (W : World) (hT : tb.Tab W) (a b : Sn) (c d : Dt) (SA SB SC SD : Nat → Prop) (va vb vc vd : Value) (ba : ∀ r ∈ a.t, Bul r) (bb : ∀ r ∈ b.t, Bul r) (bc : ∀ r ∈ c.t, Bul r) (bd : ∀ r ∈ d.t, Bul r) (la : a.t.length ≤ 140737488351232) (lb : b.t.length ≤ 140737488351232) (lc : c.t.length ≤ 140737488351232) (ld : d.t.length ≤ 140737488351232) (h1 : Rs SA W va a.t) (h2 : Rs SB W vb b.t) (h3 : Rs SC W vc c.t) (h4 : Rs SD W vd d.t) :
    Calls Tryz.prog 6 #[snV a va, snV b vb, dtV c vc, dtV d vd] W fun e w' => e = .returned (.bool true) ∧ W.grownBy w' none := by
  have HA := Lib.hid (fun w (g : W.grownBy w none) => awake_any w (tb.kept hT g))
  have HTB := Lib.hid (fun w (g : W.grownBy w none) => tb.kept hT g)
  have HFa := Lib.hid (fun w (g : W.grownBy w none) => law13.few_any a.t SA w _ la (fun r hr => ⟨(ba r hr).1, (ba r hr).2.1⟩) (h1.grown g))
  have TKa := Lib.hid (fun (hf : fewT a.t = true) => few_tok hf ba)
  have Ra := Lib.hid (fun w (g : W.grownBy w none) => h1.grown g)
  have HFb := Lib.hid (fun w (g : W.grownBy w none) => law13.few_any b.t SB w _ lb (fun r hr => ⟨(bb r hr).1, (bb r hr).2.1⟩) (h2.grown g))
  have TKb := Lib.hid (fun (hf : fewT b.t = true) => few_tok hf bb)
  have Rb := Lib.hid (fun w (g : W.grownBy w none) => h2.grown g)
  have HFc := Lib.hid (fun w (g : W.grownBy w none) => law13.few_any c.t SC w _ lc (fun r hr => ⟨(bc r hr).1, (bc r hr).2.1⟩) (h3.grown g))
  have TKc := Lib.hid (fun (hf : fewT c.t = true) => few_tok hf bc)
  have Rc := Lib.hid (fun w (g : W.grownBy w none) => h3.grown g)
  have HFd := Lib.hid (fun w (g : W.grownBy w none) => law13.few_any d.t SD w _ ld (fun r hr => ⟨(bd r hr).1, (bd r hr).2.1⟩) (h4.grown g))
  have TKd := Lib.hid (fun (hf : fewT d.t = true) => few_tok hf bd)
  have Rd := Lib.hid (fun w (g : W.grownBy w none) => h4.grown g)
  obtain ⟨ua, ka, rfl⟩ := h1.shape
  obtain ⟨ub, kb, rfl⟩ := h2.shape
  obtain ⟨uc, kc, rfl⟩ := h3.shape
  obtain ⟨ud, kd, rfl⟩ := h4.shape
  obtain ⟨m1, m2, m3, m4, m5⟩ := made4 W (.cells #[.int .u64 (a.e : Nat), .slice ua a.t.length ka] 49) (.cells #[.int .u64 (b.e : Nat), .slice ub b.t.length kb] 49) (.cells #[.int .u64 (c.b : Nat), .int .u64 (c.e : Nat), .slice uc c.t.length kc] 51) (.cells #[.int .u64 (d.b : Nat), .int .u64 (d.e : Nat), .slice ud d.t.length kd] 51)
  have M1 := Lib.hid m1
  have M2 := Lib.hid m2
  have M3 := Lib.hid m3
  have M4 := Lib.hid m4
  have M5 := Lib.hid m5
  clear hT ba bb bc bd h1 h2 h3 h4 m1 m2 m3 m4 m5
  unfold snV dtV
  go_enter Tryz.func6, Tryz.ntmps6
  go_wp2_with fail
  refine (HA.out _ M5.out).mono ?_
  rintro e w1 ⟨rfl, g1⟩
  have G1 := Lib.hid (only_trans M5.out g1)
  have Ha1 := Lib.hid (heap_kept M1.out g1 (by simp))
  have Hb1 := Lib.hid (heap_kept M2.out g1 (by simp))
  have Hc1 := Lib.hid (heap_kept M3.out g1 (by simp))
  have Hd1 := Lib.hid (heap_kept M4.out g1 (by simp))
  clear g1 
  obtain ⟨ca0, ca1, -⟩ := cells2 Ha1.out
  have la : W.heap.size < w1.heap.size := (Array.getElem?_eq_some_iff.1 Ha1.out).1
  obtain ⟨cb0, cb1, -⟩ := cells2 Hb1.out
  have lb : W.heap.size + 1 < w1.heap.size := (Array.getElem?_eq_some_iff.1 Hb1.out).1
  obtain ⟨cc0, cc1, cc2, -⟩ := cells3 Hc1.out
  have lc : W.heap.size + 1 + 1 < w1.heap.size := (Array.getElem?_eq_some_iff.1 Hc1.out).1
  obtain ⟨cd0, cd1, cd2, -⟩ := cells3 Hd1.out
  have ld : W.heap.size + 1 + 1 + 1 < w1.heap.size := (Array.getElem?_eq_some_iff.1 Hd1.out).1
  have HQa := Lib.hid (HFa.out _ G1.out)
  cases hfa : fewT a.t with
  | false =>
    rw [hfa] at HQa
    go_wp2_with fail
    refine (HQa.out).mono ?_
    rintro e w2 ⟨rfl, g2⟩
    have G2 := Lib.hid (only_trans G1.out g2)
    have Ha2 := Lib.hid (heap_kept Ha1.out g2 (by simp))
    have Hb2 := Lib.hid (heap_kept Hb1.out g2 (by simp))
    have Hc2 := Lib.hid (heap_kept Hc1.out g2 (by simp))
    have Hd2 := Lib.hid (heap_kept Hd1.out g2 (by simp))
    clear g2 ca0 ca1 la cb0 cb1 lb cc0 cc1 cc2 lc cd0 cd1 cd2 ld
    obtain ⟨ca0, ca1, -⟩ := cells2 Ha2.out
    have la : W.heap.size < w2.heap.size := (Array.getElem?_eq_some_iff.1 Ha2.out).1
    obtain ⟨cb0, cb1, -⟩ := cells2 Hb2.out
    have lb : W.heap.size + 1 < w2.heap.size := (Array.getElem?_eq_some_iff.1 Hb2.out).1
    obtain ⟨cc0, cc1, cc2, -⟩ := cells3 Hc2.out
    have lc : W.heap.size + 1 + 1 < w2.heap.size := (Array.getElem?_eq_some_iff.1 Hc2.out).1
    obtain ⟨cd0, cd1, cd2, -⟩ := cells3 Hd2.out
    have ld : W.heap.size + 1 + 1 + 1 < w2.heap.size := (Array.getElem?_eq_some_iff.1 Hd2.out).1
    go_wp2_with fail
    go_ret
    exact ⟨rfl, G2.out⟩
  | true =>
    rw [hfa] at HQa
    go_wp2_with fail
    refine (HQa.out).mono ?_
    rintro e w2 ⟨rfl, g2⟩
    have G2 := Lib.hid (only_trans G1.out g2)
    have Ha2 := Lib.hid (heap_kept Ha1.out g2 (by simp))
    have Hb2 := Lib.hid (heap_kept Hb1.out g2 (by simp))
    have Hc2 := Lib.hid (heap_kept Hc1.out g2 (by simp))
    have Hd2 := Lib.hid (heap_kept Hd1.out g2 (by simp))
    clear g2 ca0 ca1 la cb0 cb1 lb cc0 cc1 cc2 lc cd0 cd1 cd2 ld
    obtain ⟨ca0, ca1, -⟩ := cells2 Ha2.out
    have la : W.heap.size < w2.heap.size := (Array.getElem?_eq_some_iff.1 Ha2.out).1
    obtain ⟨cb0, cb1, -⟩ := cells2 Hb2.out
    have lb : W.heap.size + 1 < w2.heap.size := (Array.getElem?_eq_some_iff.1 Hb2.out).1
    obtain ⟨cc0, cc1, cc2, -⟩ := cells3 Hc2.out
    have lc : W.heap.size + 1 + 1 < w2.heap.size := (Array.getElem?_eq_some_iff.1 Hc2.out).1
    obtain ⟨cd0, cd1, cd2, -⟩ := cells3 Hd2.out
    have ld : W.heap.size + 1 + 1 + 1 < w2.heap.size := (Array.getElem?_eq_some_iff.1 Hd2.out).1
    have HQb := Lib.hid (HFb.out _ G2.out)
    cases hfb : fewT b.t with
    | false =>
      rw [hfb] at HQb
      go_wp2_with fail
      refine (HQb.out).mono ?_
      rintro e w3 ⟨rfl, g3⟩
      have G3 := Lib.hid (only_trans G2.out g3)
      have Ha3 := Lib.hid (heap_kept Ha2.out g3 (by simp))
      have Hb3 := Lib.hid (heap_kept Hb2.out g3 (by simp))
      have Hc3 := Lib.hid (heap_kept Hc2.out g3 (by simp))
      have Hd3 := Lib.hid (heap_kept Hd2.out g3 (by simp))
      clear g3 ca0 ca1 la cb0 cb1 lb cc0 cc1 cc2 lc cd0 cd1 cd2 ld
      obtain ⟨ca0, ca1, -⟩ := cells2 Ha3.out
      have la : W.heap.size < w3.heap.size := (Array.getElem?_eq_some_iff.1 Ha3.out).1
      obtain ⟨cb0, cb1, -⟩ := cells2 Hb3.out
      have lb : W.heap.size + 1 < w3.heap.size := (Array.getElem?_eq_some_iff.1 Hb3.out).1
      obtain ⟨cc0, cc1, cc2, -⟩ := cells3 Hc3.out
      have lc : W.heap.size + 1 + 1 < w3.heap.size := (Array.getElem?_eq_some_iff.1 Hc3.out).1
      obtain ⟨cd0, cd1, cd2, -⟩ := cells3 Hd3.out
      have ld : W.heap.size + 1 + 1 + 1 < w3.heap.size := (Array.getElem?_eq_some_iff.1 Hd3.out).1
      go_wp2_with fail
      go_ret
      exact ⟨rfl, G3.out⟩
    | true =>
      rw [hfb] at HQb
      go_wp2_with fail
      refine (HQb.out).mono ?_
      rintro e w3 ⟨rfl, g3⟩
      have G3 := Lib.hid (only_trans G2.out g3)
      have Ha3 := Lib.hid (heap_kept Ha2.out g3 (by simp))
      have Hb3 := Lib.hid (heap_kept Hb2.out g3 (by simp))
      have Hc3 := Lib.hid (heap_kept Hc2.out g3 (by simp))
      have Hd3 := Lib.hid (heap_kept Hd2.out g3 (by simp))
      clear g3 ca0 ca1 la cb0 cb1 lb cc0 cc1 cc2 lc cd0 cd1 cd2 ld
      obtain ⟨ca0, ca1, -⟩ := cells2 Ha3.out
      have la : W.heap.size < w3.heap.size := (Array.getElem?_eq_some_iff.1 Ha3.out).1
      obtain ⟨cb0, cb1, -⟩ := cells2 Hb3.out
      have lb : W.heap.size + 1 < w3.heap.size := (Array.getElem?_eq_some_iff.1 Hb3.out).1
      obtain ⟨cc0, cc1, cc2, -⟩ := cells3 Hc3.out
      have lc : W.heap.size + 1 + 1 < w3.heap.size := (Array.getElem?_eq_some_iff.1 Hc3.out).1
      obtain ⟨cd0, cd1, cd2, -⟩ := cells3 Hd3.out
      have ld : W.heap.size + 1 + 1 + 1 < w3.heap.size := (Array.getElem?_eq_some_iff.1 Hd3.out).1
      have HQc := Lib.hid (HFc.out _ G3.out)
      cases hfc : fewT c.t with
      | false =>
        rw [hfc] at HQc
        go_wp2_with fail
        refine (HQc.out).mono ?_
        rintro e w4 ⟨rfl, g4⟩
        have G4 := Lib.hid (only_trans G3.out g4)
        have Ha4 := Lib.hid (heap_kept Ha3.out g4 (by simp))
        have Hb4 := Lib.hid (heap_kept Hb3.out g4 (by simp))
        have Hc4 := Lib.hid (heap_kept Hc3.out g4 (by simp))
        have Hd4 := Lib.hid (heap_kept Hd3.out g4 (by simp))
        clear g4 ca0 ca1 la cb0 cb1 lb cc0 cc1 cc2 lc cd0 cd1 cd2 ld
        obtain ⟨ca0, ca1, -⟩ := cells2 Ha4.out
        have la : W.heap.size < w4.heap.size := (Array.getElem?_eq_some_iff.1 Ha4.out).1
        obtain ⟨cb0, cb1, -⟩ := cells2 Hb4.out
        have lb : W.heap.size + 1 < w4.heap.size := (Array.getElem?_eq_some_iff.1 Hb4.out).1
        obtain ⟨cc0, cc1, cc2, -⟩ := cells3 Hc4.out
        have lc : W.heap.size + 1 + 1 < w4.heap.size := (Array.getElem?_eq_some_iff.1 Hc4.out).1
        obtain ⟨cd0, cd1, cd2, -⟩ := cells3 Hd4.out
        have ld : W.heap.size + 1 + 1 + 1 < w4.heap.size := (Array.getElem?_eq_some_iff.1 Hd4.out).1
        go_wp2_with fail
        go_ret
        exact ⟨rfl, G4.out⟩
      | true =>
        rw [hfc] at HQc
        go_wp2_with fail
        refine (HQc.out).mono ?_
        rintro e w4 ⟨rfl, g4⟩
        have G4 := Lib.hid (only_trans G3.out g4)
        have Ha4 := Lib.hid (heap_kept Ha3.out g4 (by simp))
        have Hb4 := Lib.hid (heap_kept Hb3.out g4 (by simp))
        have Hc4 := Lib.hid (heap_kept Hc3.out g4 (by simp))
        have Hd4 := Lib.hid (heap_kept Hd3.out g4 (by simp))
        clear g4 ca0 ca1 la cb0 cb1 lb cc0 cc1 cc2 lc cd0 cd1 cd2 ld
        obtain ⟨ca0, ca1, -⟩ := cells2 Ha4.out
        have la : W.heap.size < w4.heap.size := (Array.getElem?_eq_some_iff.1 Ha4.out).1
        obtain ⟨cb0, cb1, -⟩ := cells2 Hb4.out
        have lb : W.heap.size + 1 < w4.heap.size := (Array.getElem?_eq_some_iff.1 Hb4.out).1
        obtain ⟨cc0, cc1, cc2, -⟩ := cells3 Hc4.out
        have lc : W.heap.size + 1 + 1 < w4.heap.size := (Array.getElem?_eq_some_iff.1 Hc4.out).1
        obtain ⟨cd0, cd1, cd2, -⟩ := cells3 Hd4.out
        have ld : W.heap.size + 1 + 1 + 1 < w4.heap.size := (Array.getElem?_eq_some_iff.1 Hd4.out).1
        have HQd := Lib.hid (HFd.out _ G4.out)
        cases hfd : fewT d.t with
        | false =>
          rw [hfd] at HQd
          go_wp2_with fail
          refine (HQd.out).mono ?_
          rintro e w5 ⟨rfl, g5⟩
          have G5 := Lib.hid (only_trans G4.out g5)
          have Ha5 := Lib.hid (heap_kept Ha4.out g5 (by simp))
          have Hb5 := Lib.hid (heap_kept Hb4.out g5 (by simp))
          have Hc5 := Lib.hid (heap_kept Hc4.out g5 (by simp))
          have Hd5 := Lib.hid (heap_kept Hd4.out g5 (by simp))
          clear g5 ca0 ca1 la cb0 cb1 lb cc0 cc1 cc2 lc cd0 cd1 cd2 ld
          obtain ⟨ca0, ca1, -⟩ := cells2 Ha5.out
          have la : W.heap.size < w5.heap.size := (Array.getElem?_eq_some_iff.1 Ha5.out).1
          obtain ⟨cb0, cb1, -⟩ := cells2 Hb5.out
          have lb : W.heap.size + 1 < w5.heap.size := (Array.getElem?_eq_some_iff.1 Hb5.out).1
          obtain ⟨cc0, cc1, cc2, -⟩ := cells3 Hc5.out
          have lc : W.heap.size + 1 + 1 < w5.heap.size := (Array.getElem?_eq_some_iff.1 Hc5.out).1
          obtain ⟨cd0, cd1, cd2, -⟩ := cells3 Hd5.out
          have ld : W.heap.size + 1 + 1 + 1 < w5.heap.size := (Array.getElem?_eq_some_iff.1 Hd5.out).1
          go_wp2_with fail
          go_ret
          exact ⟨rfl, G5.out⟩
        | true =>
          rw [hfd] at HQd
          go_wp2_with fail
          refine (HQd.out).mono ?_
          rintro e w5 ⟨rfl, g5⟩
          have G5 := Lib.hid (only_trans G4.out g5)
          have Ha5 := Lib.hid (heap_kept Ha4.out g5 (by simp))
          have Hb5 := Lib.hid (heap_kept Hb4.out g5 (by simp))
          have Hc5 := Lib.hid (heap_kept Hc4.out g5 (by simp))
          have Hd5 := Lib.hid (heap_kept Hd4.out g5 (by simp))
          clear g5 ca0 ca1 la cb0 cb1 lb cc0 cc1 cc2 lc cd0 cd1 cd2 ld
          obtain ⟨ca0, ca1, -⟩ := cells2 Ha5.out
          have la : W.heap.size < w5.heap.size := (Array.getElem?_eq_some_iff.1 Ha5.out).1
          obtain ⟨cb0, cb1, -⟩ := cells2 Hb5.out
          have lb : W.heap.size + 1 < w5.heap.size := (Array.getElem?_eq_some_iff.1 Hb5.out).1
          obtain ⟨cc0, cc1, cc2, -⟩ := cells3 Hc5.out
          have lc : W.heap.size + 1 + 1 < w5.heap.size := (Array.getElem?_eq_some_iff.1 Hc5.out).1
          obtain ⟨cd0, cd1, cd2, -⟩ := cells3 Hd5.out
          have ld : W.heap.size + 1 + 1 + 1 < w5.heap.size := (Array.getElem?_eq_some_iff.1 Hd5.out).1
          have ta := TKa.out hfa
          have tb' := TKb.out hfb
          have tc := TKc.out hfc
          have td := TKd.out hfd
          have HDI := Lib.hid (fun w (g : W.grownBy w none) => diff_any a b SA SB w _ _ ta tb' (HTB.out w g) (Ra.out w g) (Rb.out w g))
          have GKD := diff_gk (a := a) (b := b) tb'
          have HAP1 := Lib.hid (fun S w v (g : W.grownBy w none) (hr : Rs S w v (diffX a b).1.t) => apply_any a (diffX a b).1 SA S w _ v ta GKD.tok (HTB.out w g) (Ra.out w g) hr)
          have HAD := Lib.hid (fun (h : (diffX a b).2 = 0) => apply_diff h (fun r hr => (tb'.2 r hr).2.2.2))
          have HSA1 := Lib.hid (fun S T w u v (h : Rs S w u b.t) (h2 : Rs T w v b.t) => dsame_any b b S T w u v tb' h h2)
          have HCK1 := Lib.hid (fun S w v (g : W.grownBy w none) (hr : Rs S w v (diffX a b).1.t) => dcheck_any (diffX a b).1 S w v GKD.tok (HTB.out w g) hr)
          have HAP2 := Lib.hid (fun w (g : W.grownBy w none) => apply_any a c SA SC w _ _ ta tc (HTB.out w g) (Ra.out w g) (Rc.out w g))
          have GKA := apply_gk (a := a) (c := c) tc
          have HDI2 := Lib.hid (fun S w v (g : W.grownBy w none) (hr : Rs S w v (applyX a c).1.t) => diff_any a (applyX a c).1 SA S w _ v ta GKA.tok (HTB.out w g) (Ra.out w g) hr)
          have HDA := Lib.hid (@diff_apply a c)
          have HER := Lib.hid (@applyX_err a c)
          have HSC := Lib.hid (fun S w u (g : W.grownBy w none) (h : Rs S w u c.t) => same_any c.t c.t S SC w u _ (by have := tc.1; omega) (fun r hr => by have := (tc.2 r hr).1; omega) h (Rc.out w g))
          have HAT := Lib.hid (fun S w v (g : W.grownBy w none) (hr : Rs S w v (applyX a c).1.t) => atleast_any (applyX a c).1.t a.t S SA w v _ (by have := GKA.tok.1; omega) (by have := ta.1; omega) GKA.tok.2 ta.2 GKA.1.2.2 hr (Ra.out w g))
          have HCS := Lib.hid (fun S w v (g : W.grownBy w none) (hr : Rs S w v (applyX a c).1.t) => scheck_any (applyX a c).1 S w v GKA.tok (HTB.out w g) hr)
          have HAP3 := Lib.hid (fun S w v (g : W.grownBy w none) (hr : Rs S w v (applyX a c).1.t) => apply_any (applyX a c).1 d S SD w v _ GKA.tok td (HTB.out w g) hr (Rd.out w g))
          have GKZ := apply_gk (a := (applyX a c).1) (c := d) td
          have HAJ := Lib.hid (@apply_join a c d)
          have HJN := Lib.hid (fun w (g : W.grownBy w none) => join_any c d SC SD w _ _ tc td (HTB.out w g) (Rc.out w g) (Rd.out w g))
          have GKJ := join_gk tc td
          have HAP4 := Lib.hid (fun S w v (g : W.grownBy w none) (hr : Rs S w v (joinX c d).1.t) => apply_any a (joinX c d).1 SA S w _ v ta GKJ.tok (HTB.out w g) (Ra.out w g) hr)
          have HSZ := Lib.hid (fun S T w u v (h : Rs S w u (applyX (applyX a c).1 d).1.t) (h2 : Rs T w v (applyX (applyX a c).1 d).1.t) => dsame_any (applyX (applyX a c).1 d).1 (applyX (applyX a c).1 d).1 S T w u v GKZ.tok h h2)
          rw [sameX_self] at HSA1 HSZ
          rw [decide_eq_true rfl] at HSC
          have LD := diffX_lt a b
          have LA := applyX_lt a c
          have LZ := applyX_lt (applyX a c).1 d
          have LJ := joinX_lt c d
          clear ta tb' tc td GKD GKA GKZ GKJ hfa hfb hfc hfd
          simp only [snV, dtV] at HDI HAP1 HSA1 HCK1 HAP2 HDI2 HCS HAP3 HJN HAP4 HSZ
          generalize diffX a b = PD at *
          obtain ⟨p, e1⟩ := PD
          simp only at HDI HAP1 HAD HCK1 LD
          go_wp2_with fail
          refine (HDI.out _ G5.out).mono ?_
          rintro e w6 ⟨up, rfl, r6, g6⟩
          have G6 := Lib.hid (only_trans G5.out g6)
          have Ha6 := Lib.hid (heap_kept Ha5.out g6 (by simp))
          have Hb6 := Lib.hid (heap_kept Hb5.out g6 (by simp))
          have Hc6 := Lib.hid (heap_kept Hc5.out g6 (by simp))
          have Hd6 := Lib.hid (heap_kept Hd5.out g6 (by simp))
          have Rp6 := Lib.hid r6
          obtain ⟨ap, kp, rfl⟩ := r6.shape
          clear g6 ca0 ca1 la cb0 cb1 lb cc0 cc1 cc2 lc cd0 cd1 cd2 ld r6
          obtain ⟨ca0, ca1, -⟩ := cells2 Ha6.out
          have la : W.heap.size < w6.heap.size := (Array.getElem?_eq_some_iff.1 Ha6.out).1
          obtain ⟨cb0, cb1, -⟩ := cells2 Hb6.out
          have lb : W.heap.size + 1 < w6.heap.size := (Array.getElem?_eq_some_iff.1 Hb6.out).1
          obtain ⟨cc0, cc1, cc2, -⟩ := cells3 Hc6.out
          have lc : W.heap.size + 1 + 1 < w6.heap.size := (Array.getElem?_eq_some_iff.1 Hc6.out).1
          obtain ⟨cd0, cd1, cd2, -⟩ := cells3 Hd6.out
          have ld : W.heap.size + 1 + 1 + 1 < w6.heap.size := (Array.getElem?_eq_some_iff.1 Hd6.out).1
          have ga6 := only_alloc (only_refl w6 none) (.cells #[.int .u64 (p.b : Nat), .int .u64 (p.e : Nat), .slice ap p.t.length kp] 51)
          have G6a := Lib.hid (only_trans G6.out ga6)
          have Ha6a := Lib.hid (heap_kept Ha6.out ga6 (by simp))
          have Hb6a := Lib.hid (heap_kept Hb6.out ga6 (by simp))
          have Hc6a := Lib.hid (heap_kept Hc6.out ga6 (by simp))
          have Hd6a := Lib.hid (heap_kept Hd6.out ga6 (by simp))
          have Hp6a := Lib.hid (heap_alloc_new w6 (.cells #[.int .u64 (p.b : Nat), .int .u64 (p.e : Nat), .slice ap p.t.length kp] 51))
          have Rp6a := Lib.hid (Rp6.out.grown ga6)
          clear ga6
          by_cases z1 : e1 = 0
          · subst z1
            obtain ⟨HAD1, HAD2⟩ := HAD.out (by first | rfl | trivial)
            rw [HAD1] at HAP1
            rw [HAD2] at HCK1
            simp only at HAP1
            clear HAD1 HAD2 HAD
            go_wp2_with fail
            refine (HAP1.out _ _ _ G6a.out Rp6a.out).mono ?_
            rintro e w7 ⟨uy, rfl, r7, g7⟩
            have G7 := Lib.hid (only_trans G6a.out g7)
            have Ha7 := Lib.hid (heap_kept Ha6a.out g7 (by simp))
            have Hb7 := Lib.hid (heap_kept Hb6a.out g7 (by simp))
            have Hc7 := Lib.hid (heap_kept Hc6a.out g7 (by simp))
            have Hd7 := Lib.hid (heap_kept Hd6a.out g7 (by simp))
            have Hp7 := Lib.hid (heap_kept Hp6a.out g7 (by simp))
            have Rp7 := Lib.hid (Rp6a.out.grown g7)
            have Ry7 := Lib.hid r7
            obtain ⟨ay, ky, rfl⟩ := r7.shape
            clear g7 ca0 ca1 la cb0 cb1 lb cc0 cc1 cc2 lc cd0 cd1 cd2 ld r7
            obtain ⟨ca0, ca1, -⟩ := cells2 Ha7.out
            have la : W.heap.size < w7.heap.size := (Array.getElem?_eq_some_iff.1 Ha7.out).1
            obtain ⟨cb0, cb1, -⟩ := cells2 Hb7.out
            have lb : W.heap.size + 1 < w7.heap.size := (Array.getElem?_eq_some_iff.1 Hb7.out).1
            obtain ⟨cc0, cc1, cc2, -⟩ := cells3 Hc7.out
            have lc : W.heap.size + 1 + 1 < w7.heap.size := (Array.getElem?_eq_some_iff.1 Hc7.out).1
            obtain ⟨cd0, cd1, cd2, -⟩ := cells3 Hd7.out
            have ld : W.heap.size + 1 + 1 + 1 < w7.heap.size := (Array.getElem?_eq_some_iff.1 Hd7.out).1
            obtain ⟨cp0, cp1, cp2, -⟩ := cells3 Hp7.out
            have lp : w6.heap.size < w7.heap.size := (Array.getElem?_eq_some_iff.1 Hp7.out).1
            have ga7 := only_alloc (only_refl w7 none) (.cells #[.int .u64 (b.e : Nat), .slice ay b.t.length ky] 49)
            have G7a := Lib.hid (only_trans G7.out ga7)
            have Ha7a := Lib.hid (heap_kept Ha7.out ga7 (by simp))
            have Hb7a := Lib.hid (heap_kept Hb7.out ga7 (by simp))
            have Hc7a := Lib.hid (heap_kept Hc7.out ga7 (by simp))
            have Hd7a := Lib.hid (heap_kept Hd7.out ga7 (by simp))
            have Hp7a := Lib.hid (heap_kept Hp7.out ga7 (by simp))
            have Hy7a := Lib.hid (heap_alloc_new w7 (.cells #[.int .u64 (b.e : Nat), .slice ay b.t.length ky] 49))
            have Rp7a := Lib.hid (Rp7.out.grown ga7)
            have Ry7a := Lib.hid (Ry7.out.grown ga7)
            clear ga7
            go_wp2_with fail
            refine (HSA1.out _ _ _ _ _ Ry7a.out (Rb.out _ G7a.out)).mono ?_
            rintro e w8 ⟨rfl, g8⟩
            have G8 := Lib.hid (only_trans G7a.out g8)
            have Ha8 := Lib.hid (heap_kept Ha7a.out g8 (by simp))
            have Hb8 := Lib.hid (heap_kept Hb7a.out g8 (by simp))
            have Hc8 := Lib.hid (heap_kept Hc7a.out g8 (by simp))
            have Hd8 := Lib.hid (heap_kept Hd7a.out g8 (by simp))
            have Hp8 := Lib.hid (heap_kept Hp7a.out g8 (by simp))
            have Hy8 := Lib.hid (heap_kept Hy7a.out g8 (by simp))
            have Rp8 := Lib.hid (Rp7a.out.grown g8)
            have Ry8 := Lib.hid (Ry7a.out.grown g8)
            clear g8 ca0 ca1 la cb0 cb1 lb cc0 cc1 cc2 lc cd0 cd1 cd2 ld cp0 cp1 cp2 lp
            obtain ⟨ca0, ca1, -⟩ := cells2 Ha8.out
            have la : W.heap.size < w8.heap.size := (Array.getElem?_eq_some_iff.1 Ha8.out).1
            obtain ⟨cb0, cb1, -⟩ := cells2 Hb8.out
            have lb : W.heap.size + 1 < w8.heap.size := (Array.getElem?_eq_some_iff.1 Hb8.out).1
            obtain ⟨cc0, cc1, cc2, -⟩ := cells3 Hc8.out
            have lc : W.heap.size + 1 + 1 < w8.heap.size := (Array.getElem?_eq_some_iff.1 Hc8.out).1
            obtain ⟨cd0, cd1, cd2, -⟩ := cells3 Hd8.out
            have ld : W.heap.size + 1 + 1 + 1 < w8.heap.size := (Array.getElem?_eq_some_iff.1 Hd8.out).1
            obtain ⟨cp0, cp1, cp2, -⟩ := cells3 Hp8.out
            have lp : w6.heap.size < w8.heap.size := (Array.getElem?_eq_some_iff.1 Hp8.out).1
            obtain ⟨cy0, cy1, -⟩ := cells2 Hy8.out
            have ly : w7.heap.size < w8.heap.size := (Array.getElem?_eq_some_iff.1 Hy8.out).1
            go_wp2_with fail
            refine (HCK1.out _ _ _ G8.out Rp8.out).mono ?_
            rintro e w9 ⟨rfl, g9⟩
            have G9 := Lib.hid (only_trans G8.out g9)
            have Ha9 := Lib.hid (heap_kept Ha8.out g9 (by simp))
            have Hb9 := Lib.hid (heap_kept Hb8.out g9 (by simp))
            have Hc9 := Lib.hid (heap_kept Hc8.out g9 (by simp))
            have Hd9 := Lib.hid (heap_kept Hd8.out g9 (by simp))
            have Hp9 := Lib.hid (heap_kept Hp8.out g9 (by simp))
            have Hy9 := Lib.hid (heap_kept Hy8.out g9 (by simp))
            have Rp9 := Lib.hid (Rp8.out.grown g9)
            have Ry9 := Lib.hid (Ry8.out.grown g9)
            clear g9 ca0 ca1 la cb0 cb1 lb cc0 cc1 cc2 lc cd0 cd1 cd2 ld cp0 cp1 cp2 lp cy0 cy1 ly
            obtain ⟨ca0, ca1, -⟩ := cells2 Ha9.out
            have la : W.heap.size < w9.heap.size := (Array.getElem?_eq_some_iff.1 Ha9.out).1
            obtain ⟨cb0, cb1, -⟩ := cells2 Hb9.out
            have lb : W.heap.size + 1 < w9.heap.size := (Array.getElem?_eq_some_iff.1 Hb9.out).1
            obtain ⟨cc0, cc1, cc2, -⟩ := cells3 Hc9.out
            have lc : W.heap.size + 1 + 1 < w9.heap.size := (Array.getElem?_eq_some_iff.1 Hc9.out).1
            obtain ⟨cd0, cd1, cd2, -⟩ := cells3 Hd9.out
            have ld : W.heap.size + 1 + 1 + 1 < w9.heap.size := (Array.getElem?_eq_some_iff.1 Hd9.out).1
            obtain ⟨cp0, cp1, cp2, -⟩ := cells3 Hp9.out
            have lp : w6.heap.size < w9.heap.size := (Array.getElem?_eq_some_iff.1 Hp9.out).1
            obtain ⟨cy0, cy1, -⟩ := cells2 Hy9.out
            have ly : w7.heap.size < w9.heap.size := (Array.getElem?_eq_some_iff.1 Hy9.out).1
            generalize applyX a c = PA at *
            obtain ⟨t, e2⟩ := PA
            simp only at HAP2 HDI2 HDA HER HAT HCS HAP3 HAJ HSZ LA LZ
            go_wp2_with fail
            refine (HAP2.out _ G9.out).mono ?_
            rintro e w10 ⟨ut, rfl, r10, g10⟩
            have G10 := Lib.hid (only_trans G9.out g10)
            have Ha10 := Lib.hid (heap_kept Ha9.out g10 (by simp))
            have Hb10 := Lib.hid (heap_kept Hb9.out g10 (by simp))
            have Hc10 := Lib.hid (heap_kept Hc9.out g10 (by simp))
            have Hd10 := Lib.hid (heap_kept Hd9.out g10 (by simp))
            have Rt10 := Lib.hid r10
            obtain ⟨at9, kt, rfl⟩ := r10.shape
            clear g10 ca0 ca1 la cb0 cb1 lb cc0 cc1 cc2 lc cd0 cd1 cd2 ld cp0 cp1 cp2 lp cy0 cy1 ly r10
            obtain ⟨ca0, ca1, -⟩ := cells2 Ha10.out
            have la : W.heap.size < w10.heap.size := (Array.getElem?_eq_some_iff.1 Ha10.out).1
            obtain ⟨cb0, cb1, -⟩ := cells2 Hb10.out
            have lb : W.heap.size + 1 < w10.heap.size := (Array.getElem?_eq_some_iff.1 Hb10.out).1
            obtain ⟨cc0, cc1, cc2, -⟩ := cells3 Hc10.out
            have lc : W.heap.size + 1 + 1 < w10.heap.size := (Array.getElem?_eq_some_iff.1 Hc10.out).1
            obtain ⟨cd0, cd1, cd2, -⟩ := cells3 Hd10.out
            have ld : W.heap.size + 1 + 1 + 1 < w10.heap.size := (Array.getElem?_eq_some_iff.1 Hd10.out).1
            have ga10 := only_alloc (only_refl w10 none) (.cells #[.int .u64 (t.e : Nat), .slice at9 t.t.length kt] 49)
            have G10a := Lib.hid (only_trans G10.out ga10)
            have Ha10a := Lib.hid (heap_kept Ha10.out ga10 (by simp))
            have Hb10a := Lib.hid (heap_kept Hb10.out ga10 (by simp))
            have Hc10a := Lib.hid (heap_kept Hc10.out ga10 (by simp))
            have Hd10a := Lib.hid (heap_kept Hd10.out ga10 (by simp))
            have Ht10a := Lib.hid (heap_alloc_new w10 (.cells #[.int .u64 (t.e : Nat), .slice at9 t.t.length kt] 49))
            have Rt10a := Lib.hid (Rt10.out.grown ga10)
            clear ga10
            by_cases z2 : e2 = 0
            · subst z2
              obtain ⟨D1, D2, D3⟩ := HDA.out (by first | rfl | trivial)
              rw [D1] at HDI2
              rw [D2] at HAT
              rw [D3] at HCS
              simp only at HDI2
              clear D1 D2 D3 HDA HER
              have hcb : ((c.b : Int) != (c.b : Int)) = false := by simp
              have hce : ((c.e : Int) != (c.e : Int)) = false := by simp
              go_wp2_with fail
              refine (HDI2.out _ _ _ G10a.out Rt10a.out).mono ?_
              rintro e w11 ⟨ux, rfl, r11, g11⟩
              have G11 := Lib.hid (only_trans G10a.out g11)
              have Ha11 := Lib.hid (heap_kept Ha10a.out g11 (by simp))
              have Hb11 := Lib.hid (heap_kept Hb10a.out g11 (by simp))
              have Hc11 := Lib.hid (heap_kept Hc10a.out g11 (by simp))
              have Hd11 := Lib.hid (heap_kept Hd10a.out g11 (by simp))
              have Ht11 := Lib.hid (heap_kept Ht10a.out g11 (by simp))
              have Rt11 := Lib.hid (Rt10a.out.grown g11)
              have Rx11 := Lib.hid r11
              obtain ⟨ax, kx, rfl⟩ := r11.shape
              clear g11 ca0 ca1 la cb0 cb1 lb cc0 cc1 cc2 lc cd0 cd1 cd2 ld r11
              obtain ⟨ca0, ca1, -⟩ := cells2 Ha11.out
              have la : W.heap.size < w11.heap.size := (Array.getElem?_eq_some_iff.1 Ha11.out).1
              obtain ⟨cb0, cb1, -⟩ := cells2 Hb11.out
              have lb : W.heap.size + 1 < w11.heap.size := (Array.getElem?_eq_some_iff.1 Hb11.out).1
              obtain ⟨cc0, cc1, cc2, -⟩ := cells3 Hc11.out
              have lc : W.heap.size + 1 + 1 < w11.heap.size := (Array.getElem?_eq_some_iff.1 Hc11.out).1
              obtain ⟨cd0, cd1, cd2, -⟩ := cells3 Hd11.out
              have ld : W.heap.size + 1 + 1 + 1 < w11.heap.size := (Array.getElem?_eq_some_iff.1 Hd11.out).1
              obtain ⟨ct0, ct1, -⟩ := cells2 Ht11.out
              have lt : w10.heap.size < w11.heap.size := (Array.getElem?_eq_some_iff.1 Ht11.out).1
              have ga11 := only_alloc (only_refl w11 none) (.cells #[.int .u64 (c.b : Nat), .int .u64 (c.e : Nat), .slice ax c.t.length kx] 51)
              have G11a := Lib.hid (only_trans G11.out ga11)
              have Ha11a := Lib.hid (heap_kept Ha11.out ga11 (by simp))
              have Hb11a := Lib.hid (heap_kept Hb11.out ga11 (by simp))
              have Hc11a := Lib.hid (heap_kept Hc11.out ga11 (by simp))
              have Hd11a := Lib.hid (heap_kept Hd11.out ga11 (by simp))
              have Ht11a := Lib.hid (heap_kept Ht11.out ga11 (by simp))
              have Hx11a := Lib.hid (heap_alloc_new w11 (.cells #[.int .u64 (c.b : Nat), .int .u64 (c.e : Nat), .slice ax c.t.length kx] 51))
              have Rt11a := Lib.hid (Rt11.out.grown ga11)
              have Rx11a := Lib.hid (Rx11.out.grown ga11)
              clear ga11
              go_wp2_with fail
              refine (HSC.out _ _ _ G11a.out Rx11a.out).mono ?_
              rintro e w12 ⟨rfl, g12⟩
              have G12 := Lib.hid (only_trans G11a.out g12)
              have Ha12 := Lib.hid (heap_kept Ha11a.out g12 (by simp))
              have Hb12 := Lib.hid (heap_kept Hb11a.out g12 (by simp))
              have Hc12 := Lib.hid (heap_kept Hc11a.out g12 (by simp))
              have Hd12 := Lib.hid (heap_kept Hd11a.out g12 (by simp))
              have Ht12 := Lib.hid (heap_kept Ht11a.out g12 (by simp))
              have Hx12 := Lib.hid (heap_kept Hx11a.out g12 (by simp))
              have Rt12 := Lib.hid (Rt11a.out.grown g12)
              have Rx12 := Lib.hid (Rx11a.out.grown g12)
              clear g12 ca0 ca1 la cb0 cb1 lb cc0 cc1 cc2 lc cd0 cd1 cd2 ld ct0 ct1 lt
              obtain ⟨ca0, ca1, -⟩ := cells2 Ha12.out
              have la : W.heap.size < w12.heap.size := (Array.getElem?_eq_some_iff.1 Ha12.out).1
              obtain ⟨cb0, cb1, -⟩ := cells2 Hb12.out
              have lb : W.heap.size + 1 < w12.heap.size := (Array.getElem?_eq_some_iff.1 Hb12.out).1
              obtain ⟨cc0, cc1, cc2, -⟩ := cells3 Hc12.out
              have lc : W.heap.size + 1 + 1 < w12.heap.size := (Array.getElem?_eq_some_iff.1 Hc12.out).1
              obtain ⟨cd0, cd1, cd2, -⟩ := cells3 Hd12.out
              have ld : W.heap.size + 1 + 1 + 1 < w12.heap.size := (Array.getElem?_eq_some_iff.1 Hd12.out).1
              obtain ⟨ct0, ct1, -⟩ := cells2 Ht12.out
              have lt : w10.heap.size < w12.heap.size := (Array.getElem?_eq_some_iff.1 Ht12.out).1
              obtain ⟨cx0, cx1, cx2, -⟩ := cells3 Hx12.out
              have lx : w11.heap.size < w12.heap.size := (Array.getElem?_eq_some_iff.1 Hx12.out).1
              go_wp2_with fail
              refine (HAT.out _ _ _ G12.out Rt12.out).mono ?_
              rintro e w13 ⟨rfl, g13⟩
              have G13 := Lib.hid (only_trans G12.out g13)
              have Ha13 := Lib.hid (heap_kept Ha12.out g13 (by simp))
              have Hb13 := Lib.hid (heap_kept Hb12.out g13 (by simp))
              have Hc13 := Lib.hid (heap_kept Hc12.out g13 (by simp))
              have Hd13 := Lib.hid (heap_kept Hd12.out g13 (by simp))
              have Ht13 := Lib.hid (heap_kept Ht12.out g13 (by simp))
              have Hx13 := Lib.hid (heap_kept Hx12.out g13 (by simp))
              have Rt13 := Lib.hid (Rt12.out.grown g13)
              have Rx13 := Lib.hid (Rx12.out.grown g13)
              clear g13 ca0 ca1 la cb0 cb1 lb cc0 cc1 cc2 lc cd0 cd1 cd2 ld ct0 ct1 lt cx0 cx1 cx2 lx
              obtain ⟨ca0, ca1, -⟩ := cells2 Ha13.out
              have la : W.heap.size < w13.heap.size := (Array.getElem?_eq_some_iff.1 Ha13.out).1
              obtain ⟨cb0, cb1, -⟩ := cells2 Hb13.out
              have lb : W.heap.size + 1 < w13.heap.size := (Array.getElem?_eq_some_iff.1 Hb13.out).1
              obtain ⟨cc0, cc1, cc2, -⟩ := cells3 Hc13.out
              have lc : W.heap.size + 1 + 1 < w13.heap.size := (Array.getElem?_eq_some_iff.1 Hc13.out).1
              obtain ⟨cd0, cd1, cd2, -⟩ := cells3 Hd13.out
              have ld : W.heap.size + 1 + 1 + 1 < w13.heap.size := (Array.getElem?_eq_some_iff.1 Hd13.out).1
              obtain ⟨ct0, ct1, -⟩ := cells2 Ht13.out
              have lt : w10.heap.size < w13.heap.size := (Array.getElem?_eq_some_iff.1 Ht13.out).1
              obtain ⟨cx0, cx1, cx2, -⟩ := cells3 Hx13.out
              have lx : w11.heap.size < w13.heap.size := (Array.getElem?_eq_some_iff.1 Hx13.out).1
              go_wp2_with fail
              refine (HCS.out _ _ _ G13.out Rt13.out).mono ?_
              rintro e w14 ⟨rfl, g14⟩
              have G14 := Lib.hid (only_trans G13.out g14)
              have Ha14 := Lib.hid (heap_kept Ha13.out g14 (by simp))
              have Hb14 := Lib.hid (heap_kept Hb13.out g14 (by simp))
              have Hc14 := Lib.hid (heap_kept Hc13.out g14 (by simp))
              have Hd14 := Lib.hid (heap_kept Hd13.out g14 (by simp))
              have Ht14 := Lib.hid (heap_kept Ht13.out g14 (by simp))
              have Hx14 := Lib.hid (heap_kept Hx13.out g14 (by simp))
              have Rt14 := Lib.hid (Rt13.out.grown g14)
              have Rx14 := Lib.hid (Rx13.out.grown g14)
              clear g14 ca0 ca1 la cb0 cb1 lb cc0 cc1 cc2 lc cd0 cd1 cd2 ld ct0 ct1 lt cx0 cx1 cx2 lx
              obtain ⟨ca0, ca1, -⟩ := cells2 Ha14.out
              have la : W.heap.size < w14.heap.size := (Array.getElem?_eq_some_iff.1 Ha14.out).1
              obtain ⟨cb0, cb1, -⟩ := cells2 Hb14.out
              have lb : W.heap.size + 1 < w14.heap.size := (Array.getElem?_eq_some_iff.1 Hb14.out).1
              obtain ⟨cc0, cc1, cc2, -⟩ := cells3 Hc14.out
              have lc : W.heap.size + 1 + 1 < w14.heap.size := (Array.getElem?_eq_some_iff.1 Hc14.out).1
              obtain ⟨cd0, cd1, cd2, -⟩ := cells3 Hd14.out
              have ld : W.heap.size + 1 + 1 + 1 < w14.heap.size := (Array.getElem?_eq_some_iff.1 Hd14.out).1
              obtain ⟨ct0, ct1, -⟩ := cells2 Ht14.out
              have lt : w10.heap.size < w14.heap.size := (Array.getElem?_eq_some_iff.1 Ht14.out).1
              obtain ⟨cx0, cx1, cx2, -⟩ := cells3 Hx14.out
              have lx : w11.heap.size < w14.heap.size := (Array.getElem?_eq_some_iff.1 Hx14.out).1
              generalize applyX t d = PZ at *
              obtain ⟨o, e3⟩ := PZ
              simp only at HAP3 HAJ HSZ LZ
              go_wp2_with fail
              refine (HAP3.out _ _ _ G14.out Rt14.out).mono ?_
              rintro e w15 ⟨uo, rfl, r15, g15⟩
              have G15 := Lib.hid (only_trans G14.out g15)
              have Ha15 := Lib.hid (heap_kept Ha14.out g15 (by simp))
              have Hb15 := Lib.hid (heap_kept Hb14.out g15 (by simp))
              have Hc15 := Lib.hid (heap_kept Hc14.out g15 (by simp))
              have Hd15 := Lib.hid (heap_kept Hd14.out g15 (by simp))
              have Ht15 := Lib.hid (heap_kept Ht14.out g15 (by simp))
              have Rt15 := Lib.hid (Rt14.out.grown g15)
              have Ro15 := Lib.hid r15
              obtain ⟨ao, ko, rfl⟩ := r15.shape
              clear g15 ca0 ca1 la cb0 cb1 lb cc0 cc1 cc2 lc cd0 cd1 cd2 ld ct0 ct1 lt cx0 cx1 cx2 lx r15
              obtain ⟨ca0, ca1, -⟩ := cells2 Ha15.out
              have la : W.heap.size < w15.heap.size := (Array.getElem?_eq_some_iff.1 Ha15.out).1
              obtain ⟨cb0, cb1, -⟩ := cells2 Hb15.out
              have lb : W.heap.size + 1 < w15.heap.size := (Array.getElem?_eq_some_iff.1 Hb15.out).1
              obtain ⟨cc0, cc1, cc2, -⟩ := cells3 Hc15.out
              have lc : W.heap.size + 1 + 1 < w15.heap.size := (Array.getElem?_eq_some_iff.1 Hc15.out).1
              obtain ⟨cd0, cd1, cd2, -⟩ := cells3 Hd15.out
              have ld : W.heap.size + 1 + 1 + 1 < w15.heap.size := (Array.getElem?_eq_some_iff.1 Hd15.out).1
              obtain ⟨ct0, ct1, -⟩ := cells2 Ht15.out
              have lt : w10.heap.size < w15.heap.size := (Array.getElem?_eq_some_iff.1 Ht15.out).1
              have ga15 := only_alloc (only_refl w15 none) (.cells #[.int .u64 (o.e : Nat), .slice ao o.t.length ko] 49)
              have G15a := Lib.hid (only_trans G15.out ga15)
              have Ha15a := Lib.hid (heap_kept Ha15.out ga15 (by simp))
              have Hb15a := Lib.hid (heap_kept Hb15.out ga15 (by simp))
              have Hc15a := Lib.hid (heap_kept Hc15.out ga15 (by simp))
              have Hd15a := Lib.hid (heap_kept Hd15.out ga15 (by simp))
              have Ht15a := Lib.hid (heap_kept Ht15.out ga15 (by simp))
              have Ho15a := Lib.hid (heap_alloc_new w15 (.cells #[.int .u64 (o.e : Nat), .slice ao o.t.length ko] 49))
              have Rt15a := Lib.hid (Rt15.out.grown ga15)
              have Ro15a := Lib.hid (Ro15.out.grown ga15)
              clear ga15
              by_cases z3 : e3 = 0
              · subst z3
                obtain ⟨J1, J2⟩ := HAJ.out (by first | rfl | trivial) (by first | rfl | trivial)
                rw [J2] at HAP4
                simp only at HAP4
                clear J2 HAJ
                generalize joinX c d = PJ at *
                obtain ⟨j, e4⟩ := PJ
                simp only at J1 HJN HAP4 LJ
                subst J1
                go_wp2_with fail
                refine (HJN.out _ G15a.out).mono ?_
                rintro e w16 ⟨uj, rfl, r16, g16⟩
                have G16 := Lib.hid (only_trans G15a.out g16)
                have Ha16 := Lib.hid (heap_kept Ha15a.out g16 (by simp))
                have Hb16 := Lib.hid (heap_kept Hb15a.out g16 (by simp))
                have Hc16 := Lib.hid (heap_kept Hc15a.out g16 (by simp))
                have Hd16 := Lib.hid (heap_kept Hd15a.out g16 (by simp))
                have Ht16 := Lib.hid (heap_kept Ht15a.out g16 (by simp))
                have Ho16 := Lib.hid (heap_kept Ho15a.out g16 (by simp))
                have Rt16 := Lib.hid (Rt15a.out.grown g16)
                have Ro16 := Lib.hid (Ro15a.out.grown g16)
                have Rj16 := Lib.hid r16
                obtain ⟨aj, kj, rfl⟩ := r16.shape
                clear g16 ca0 ca1 la cb0 cb1 lb cc0 cc1 cc2 lc cd0 cd1 cd2 ld ct0 ct1 lt r16
                obtain ⟨ca0, ca1, -⟩ := cells2 Ha16.out
                have la : W.heap.size < w16.heap.size := (Array.getElem?_eq_some_iff.1 Ha16.out).1
                obtain ⟨cb0, cb1, -⟩ := cells2 Hb16.out
                have lb : W.heap.size + 1 < w16.heap.size := (Array.getElem?_eq_some_iff.1 Hb16.out).1
                obtain ⟨cc0, cc1, cc2, -⟩ := cells3 Hc16.out
                have lc : W.heap.size + 1 + 1 < w16.heap.size := (Array.getElem?_eq_some_iff.1 Hc16.out).1
                obtain ⟨cd0, cd1, cd2, -⟩ := cells3 Hd16.out
                have ld : W.heap.size + 1 + 1 + 1 < w16.heap.size := (Array.getElem?_eq_some_iff.1 Hd16.out).1
                obtain ⟨ct0, ct1, -⟩ := cells2 Ht16.out
                have lt : w10.heap.size < w16.heap.size := (Array.getElem?_eq_some_iff.1 Ht16.out).1
                obtain ⟨co0, co1, -⟩ := cells2 Ho16.out
                have lo : w15.heap.size < w16.heap.size := (Array.getElem?_eq_some_iff.1 Ho16.out).1
                have ga16 := only_alloc (only_refl w16 none) (.cells #[.int .u64 (j.b : Nat), .int .u64 (j.e : Nat), .slice aj j.t.length kj] 51)
                have G16a := Lib.hid (only_trans G16.out ga16)
                have Ha16a := Lib.hid (heap_kept Ha16.out ga16 (by simp))
                have Hb16a := Lib.hid (heap_kept Hb16.out ga16 (by simp))
                have Hc16a := Lib.hid (heap_kept Hc16.out ga16 (by simp))
                have Hd16a := Lib.hid (heap_kept Hd16.out ga16 (by simp))
                have Ht16a := Lib.hid (heap_kept Ht16.out ga16 (by simp))
                have Ho16a := Lib.hid (heap_kept Ho16.out ga16 (by simp))
                have Hj16a := Lib.hid (heap_alloc_new w16 (.cells #[.int .u64 (j.b : Nat), .int .u64 (j.e : Nat), .slice aj j.t.length kj] 51))
                have Rt16a := Lib.hid (Rt16.out.grown ga16)
                have Ro16a := Lib.hid (Ro16.out.grown ga16)
                have Rj16a := Lib.hid (Rj16.out.grown ga16)
                clear ga16
                go_wp2_with fail
                refine (HAP4.out _ _ _ G16a.out Rj16a.out).mono ?_
                rintro e w17 ⟨uv, rfl, r17, g17⟩
                have G17 := Lib.hid (only_trans G16a.out g17)
                have Ha17 := Lib.hid (heap_kept Ha16a.out g17 (by simp))
                have Hb17 := Lib.hid (heap_kept Hb16a.out g17 (by simp))
                have Hc17 := Lib.hid (heap_kept Hc16a.out g17 (by simp))
                have Hd17 := Lib.hid (heap_kept Hd16a.out g17 (by simp))
                have Ht17 := Lib.hid (heap_kept Ht16a.out g17 (by simp))
                have Ho17 := Lib.hid (heap_kept Ho16a.out g17 (by simp))
                have Hj17 := Lib.hid (heap_kept Hj16a.out g17 (by simp))
                have Rt17 := Lib.hid (Rt16a.out.grown g17)
                have Ro17 := Lib.hid (Ro16a.out.grown g17)
                have Rj17 := Lib.hid (Rj16a.out.grown g17)
                have Rv17 := Lib.hid r17
                obtain ⟨av, kv, rfl⟩ := r17.shape
                clear g17 ca0 ca1 la cb0 cb1 lb cc0 cc1 cc2 lc cd0 cd1 cd2 ld ct0 ct1 lt co0 co1 lo r17
                obtain ⟨ca0, ca1, -⟩ := cells2 Ha17.out
                have la : W.heap.size < w17.heap.size := (Array.getElem?_eq_some_iff.1 Ha17.out).1
                obtain ⟨cb0, cb1, -⟩ := cells2 Hb17.out
                have lb : W.heap.size + 1 < w17.heap.size := (Array.getElem?_eq_some_iff.1 Hb17.out).1
                obtain ⟨cc0, cc1, cc2, -⟩ := cells3 Hc17.out
                have lc : W.heap.size + 1 + 1 < w17.heap.size := (Array.getElem?_eq_some_iff.1 Hc17.out).1
                obtain ⟨cd0, cd1, cd2, -⟩ := cells3 Hd17.out
                have ld : W.heap.size + 1 + 1 + 1 < w17.heap.size := (Array.getElem?_eq_some_iff.1 Hd17.out).1
                obtain ⟨ct0, ct1, -⟩ := cells2 Ht17.out
                have lt : w10.heap.size < w17.heap.size := (Array.getElem?_eq_some_iff.1 Ht17.out).1
                obtain ⟨co0, co1, -⟩ := cells2 Ho17.out
                have lo : w15.heap.size < w17.heap.size := (Array.getElem?_eq_some_iff.1 Ho17.out).1
                obtain ⟨cj0, cj1, cj2, -⟩ := cells3 Hj17.out
                have lj : w16.heap.size < w17.heap.size := (Array.getElem?_eq_some_iff.1 Hj17.out).1
                have ga17 := only_alloc (only_refl w17 none) (.cells #[.int .u64 (o.e : Nat), .slice av o.t.length kv] 49)
                have G17a := Lib.hid (only_trans G17.out ga17)
                have Ha17a := Lib.hid (heap_kept Ha17.out ga17 (by simp))
                have Hb17a := Lib.hid (heap_kept Hb17.out ga17 (by simp))
                have Hc17a := Lib.hid (heap_kept Hc17.out ga17 (by simp))
                have Hd17a := Lib.hid (heap_kept Hd17.out ga17 (by simp))
                have Ht17a := Lib.hid (heap_kept Ht17.out ga17 (by simp))
                have Ho17a := Lib.hid (heap_kept Ho17.out ga17 (by simp))
                have Hj17a := Lib.hid (heap_kept Hj17.out ga17 (by simp))
                have Hv17a := Lib.hid (heap_alloc_new w17 (.cells #[.int .u64 (o.e : Nat), .slice av o.t.length kv] 49))
                have Rt17a := Lib.hid (Rt17.out.grown ga17)
                have Ro17a := Lib.hid (Ro17.out.grown ga17)
                have Rj17a := Lib.hid (Rj17.out.grown ga17)
                have Rv17a := Lib.hid (Rv17.out.grown ga17)
                clear ga17
                go_wp2_with fail
                refine (HSZ.out _ _ _ _ _ Rv17a.out Ro17a.out).mono ?_
                rintro e w18 ⟨rfl, g18⟩
                have G18 := Lib.hid (only_trans G17a.out g18)
                have Ha18 := Lib.hid (heap_kept Ha17a.out g18 (by simp))
                have Hb18 := Lib.hid (heap_kept Hb17a.out g18 (by simp))
                have Hc18 := Lib.hid (heap_kept Hc17a.out g18 (by simp))
                have Hd18 := Lib.hid (heap_kept Hd17a.out g18 (by simp))
                have Ht18 := Lib.hid (heap_kept Ht17a.out g18 (by simp))
                have Ho18 := Lib.hid (heap_kept Ho17a.out g18 (by simp))
                have Hj18 := Lib.hid (heap_kept Hj17a.out g18 (by simp))
                have Hv18 := Lib.hid (heap_kept Hv17a.out g18 (by simp))
                have Rt18 := Lib.hid (Rt17a.out.grown g18)
                have Ro18 := Lib.hid (Ro17a.out.grown g18)
                have Rj18 := Lib.hid (Rj17a.out.grown g18)
                have Rv18 := Lib.hid (Rv17a.out.grown g18)
                clear g18 ca0 ca1 la cb0 cb1 lb cc0 cc1 cc2 lc cd0 cd1 cd2 ld ct0 ct1 lt co0 co1 lo cj0 cj1 cj2 lj
                obtain ⟨ca0, ca1, -⟩ := cells2 Ha18.out
                have la : W.heap.size < w18.heap.size := (Array.getElem?_eq_some_iff.1 Ha18.out).1
                obtain ⟨cb0, cb1, -⟩ := cells2 Hb18.out
                have lb : W.heap.size + 1 < w18.heap.size := (Array.getElem?_eq_some_iff.1 Hb18.out).1
                obtain ⟨cc0, cc1, cc2, -⟩ := cells3 Hc18.out
                have lc : W.heap.size + 1 + 1 < w18.heap.size := (Array.getElem?_eq_some_iff.1 Hc18.out).1
                obtain ⟨cd0, cd1, cd2, -⟩ := cells3 Hd18.out
                have ld : W.heap.size + 1 + 1 + 1 < w18.heap.size := (Array.getElem?_eq_some_iff.1 Hd18.out).1
                obtain ⟨ct0, ct1, -⟩ := cells2 Ht18.out
                have lt : w10.heap.size < w18.heap.size := (Array.getElem?_eq_some_iff.1 Ht18.out).1
                obtain ⟨co0, co1, -⟩ := cells2 Ho18.out
                have lo : w15.heap.size < w18.heap.size := (Array.getElem?_eq_some_iff.1 Ho18.out).1
                obtain ⟨cj0, cj1, cj2, -⟩ := cells3 Hj18.out
                have lj : w16.heap.size < w18.heap.size := (Array.getElem?_eq_some_iff.1 Hj18.out).1
                obtain ⟨cv0, cv1, -⟩ := cells2 Hv18.out
                have lv : w17.heap.size < w18.heap.size := (Array.getElem?_eq_some_iff.1 Hv18.out).1
                go_wp2_with fail
                go_ret
                exact ⟨rfl, G18.out⟩
              · have hqb3 : ((e3 : Int) != 0) = true := by rw [bne_iff_ne]; omega
                clear HAJ
                go_wp2_with fail
                go_ret
                exact ⟨rfl, G15a.out⟩
            · have hqb2 : ((e2 : Int) != 0) = true := by rw [bne_iff_ne]; omega
              obtain rfl : t = sn0 := HER.out (by simpa using z2)
              have hl0 : (sn0.t.length : Int) = 0 := rfl
              have he0 : (sn0.e : Int) = 0 := rfl
              clear HAJ HDA
              go_wp2_with fail
              go_ret
              exact ⟨rfl, G10a.out⟩
          · have hqb1 : ((e1 : Int) == 0) = false := by rw [beq_eq_false_iff_ne]; omega
            generalize applyX a c = PA at *
            obtain ⟨t, e2⟩ := PA
            simp only at HAP2 HDI2 HDA HER HAT HCS HAP3 HAJ HSZ LA LZ
            go_wp2_with fail
            refine (HAP2.out _ G6a.out).mono ?_
            rintro e w7 ⟨ut, rfl, r7, g7⟩
            have G7 := Lib.hid (only_trans G6a.out g7)
            have Ha7 := Lib.hid (heap_kept Ha6a.out g7 (by simp))
            have Hb7 := Lib.hid (heap_kept Hb6a.out g7 (by simp))
            have Hc7 := Lib.hid (heap_kept Hc6a.out g7 (by simp))
            have Hd7 := Lib.hid (heap_kept Hd6a.out g7 (by simp))
            have Rt7 := Lib.hid r7
            obtain ⟨at9, kt, rfl⟩ := r7.shape
            clear g7 ca0 ca1 la cb0 cb1 lb cc0 cc1 cc2 lc cd0 cd1 cd2 ld r7
            obtain ⟨ca0, ca1, -⟩ := cells2 Ha7.out
            have la : W.heap.size < w7.heap.size := (Array.getElem?_eq_some_iff.1 Ha7.out).1
            obtain ⟨cb0, cb1, -⟩ := cells2 Hb7.out
            have lb : W.heap.size + 1 < w7.heap.size := (Array.getElem?_eq_some_iff.1 Hb7.out).1
            obtain ⟨cc0, cc1, cc2, -⟩ := cells3 Hc7.out
            have lc : W.heap.size + 1 + 1 < w7.heap.size := (Array.getElem?_eq_some_iff.1 Hc7.out).1
            obtain ⟨cd0, cd1, cd2, -⟩ := cells3 Hd7.out
            have ld : W.heap.size + 1 + 1 + 1 < w7.heap.size := (Array.getElem?_eq_some_iff.1 Hd7.out).1
            have ga7 := only_alloc (only_refl w7 none) (.cells #[.int .u64 (t.e : Nat), .slice at9 t.t.length kt] 49)
            have G7a := Lib.hid (only_trans G7.out ga7)
            have Ha7a := Lib.hid (heap_kept Ha7.out ga7 (by simp))
            have Hb7a := Lib.hid (heap_kept Hb7.out ga7 (by simp))
            have Hc7a := Lib.hid (heap_kept Hc7.out ga7 (by simp))
            have Hd7a := Lib.hid (heap_kept Hd7.out ga7 (by simp))
            have Ht7a := Lib.hid (heap_alloc_new w7 (.cells #[.int .u64 (t.e : Nat), .slice at9 t.t.length kt] 49))
            have Rt7a := Lib.hid (Rt7.out.grown ga7)
            clear ga7
            by_cases z2 : e2 = 0
            · subst z2
              obtain ⟨D1, D2, D3⟩ := HDA.out (by first | rfl | trivial)
              rw [D1] at HDI2
              rw [D2] at HAT
              rw [D3] at HCS
              simp only at HDI2
              clear D1 D2 D3 HDA HER
              have hcb : ((c.b : Int) != (c.b : Int)) = false := by simp
              have hce : ((c.e : Int) != (c.e : Int)) = false := by simp
              go_wp2_with fail
              refine (HDI2.out _ _ _ G7a.out Rt7a.out).mono ?_
              rintro e w8 ⟨ux, rfl, r8, g8⟩
              have G8 := Lib.hid (only_trans G7a.out g8)
              have Ha8 := Lib.hid (heap_kept Ha7a.out g8 (by simp))
              have Hb8 := Lib.hid (heap_kept Hb7a.out g8 (by simp))
              have Hc8 := Lib.hid (heap_kept Hc7a.out g8 (by simp))
              have Hd8 := Lib.hid (heap_kept Hd7a.out g8 (by simp))
              have Ht8 := Lib.hid (heap_kept Ht7a.out g8 (by simp))
              have Rt8 := Lib.hid (Rt7a.out.grown g8)
              have Rx8 := Lib.hid r8
              obtain ⟨ax, kx, rfl⟩ := r8.shape
              clear g8 ca0 ca1 la cb0 cb1 lb cc0 cc1 cc2 lc cd0 cd1 cd2 ld r8
              obtain ⟨ca0, ca1, -⟩ := cells2 Ha8.out
              have la : W.heap.size < w8.heap.size := (Array.getElem?_eq_some_iff.1 Ha8.out).1
              obtain ⟨cb0, cb1, -⟩ := cells2 Hb8.out
              have lb : W.heap.size + 1 < w8.heap.size := (Array.getElem?_eq_some_iff.1 Hb8.out).1
              obtain ⟨cc0, cc1, cc2, -⟩ := cells3 Hc8.out
              have lc : W.heap.size + 1 + 1 < w8.heap.size := (Array.getElem?_eq_some_iff.1 Hc8.out).1
              obtain ⟨cd0, cd1, cd2, -⟩ := cells3 Hd8.out
              have ld : W.heap.size + 1 + 1 + 1 < w8.heap.size := (Array.getElem?_eq_some_iff.1 Hd8.out).1
              obtain ⟨ct0, ct1, -⟩ := cells2 Ht8.out
              have lt : w7.heap.size < w8.heap.size := (Array.getElem?_eq_some_iff.1 Ht8.out).1
              have ga8 := only_alloc (only_refl w8 none) (.cells #[.int .u64 (c.b : Nat), .int .u64 (c.e : Nat), .slice ax c.t.length kx] 51)
              have G8a := Lib.hid (only_trans G8.out ga8)
              have Ha8a := Lib.hid (heap_kept Ha8.out ga8 (by simp))
              have Hb8a := Lib.hid (heap_kept Hb8.out ga8 (by simp))
              have Hc8a := Lib.hid (heap_kept Hc8.out ga8 (by simp))
              have Hd8a := Lib.hid (heap_kept Hd8.out ga8 (by simp))
              have Ht8a := Lib.hid (heap_kept Ht8.out ga8 (by simp))
              have Hx8a := Lib.hid (heap_alloc_new w8 (.cells #[.int .u64 (c.b : Nat), .int .u64 (c.e : Nat), .slice ax c.t.length kx] 51))
              have Rt8a := Lib.hid (Rt8.out.grown ga8)
              have Rx8a := Lib.hid (Rx8.out.grown ga8)
              clear ga8
              go_wp2_with fail
              refine (HSC.out _ _ _ G8a.out Rx8a.out).mono ?_
              rintro e w9 ⟨rfl, g9⟩
              have G9 := Lib.hid (only_trans G8a.out g9)
              have Ha9 := Lib.hid (heap_kept Ha8a.out g9 (by simp))
              have Hb9 := Lib.hid (heap_kept Hb8a.out g9 (by simp))
              have Hc9 := Lib.hid (heap_kept Hc8a.out g9 (by simp))
              have Hd9 := Lib.hid (heap_kept Hd8a.out g9 (by simp))
              have Ht9 := Lib.hid (heap_kept Ht8a.out g9 (by simp))
              have Hx9 := Lib.hid (heap_kept Hx8a.out g9 (by simp))
              have Rt9 := Lib.hid (Rt8a.out.grown g9)
              have Rx9 := Lib.hid (Rx8a.out.grown g9)
              clear g9 ca0 ca1 la cb0 cb1 lb cc0 cc1 cc2 lc cd0 cd1 cd2 ld ct0 ct1 lt
              obtain ⟨ca0, ca1, -⟩ := cells2 Ha9.out
              have la : W.heap.size < w9.heap.size := (Array.getElem?_eq_some_iff.1 Ha9.out).1
              obtain ⟨cb0, cb1, -⟩ := cells2 Hb9.out
              have lb : W.heap.size + 1 < w9.heap.size := (Array.getElem?_eq_some_iff.1 Hb9.out).1
              obtain ⟨cc0, cc1, cc2, -⟩ := cells3 Hc9.out
              have lc : W.heap.size + 1 + 1 < w9.heap.size := (Array.getElem?_eq_some_iff.1 Hc9.out).1
              obtain ⟨cd0, cd1, cd2, -⟩ := cells3 Hd9.out
              have ld : W.heap.size + 1 + 1 + 1 < w9.heap.size := (Array.getElem?_eq_some_iff.1 Hd9.out).1
              obtain ⟨ct0, ct1, -⟩ := cells2 Ht9.out
              have lt : w7.heap.size < w9.heap.size := (Array.getElem?_eq_some_iff.1 Ht9.out).1
              obtain ⟨cx0, cx1, cx2, -⟩ := cells3 Hx9.out
              have lx : w8.heap.size < w9.heap.size := (Array.getElem?_eq_some_iff.1 Hx9.out).1
              go_wp2_with fail
              refine (HAT.out _ _ _ G9.out Rt9.out).mono ?_
              rintro e w10 ⟨rfl, g10⟩
              have G10 := Lib.hid (only_trans G9.out g10)
              have Ha10 := Lib.hid (heap_kept Ha9.out g10 (by simp))
              have Hb10 := Lib.hid (heap_kept Hb9.out g10 (by simp))
              have Hc10 := Lib.hid (heap_kept Hc9.out g10 (by simp))
              have Hd10 := Lib.hid (heap_kept Hd9.out g10 (by simp))
              have Ht10 := Lib.hid (heap_kept Ht9.out g10 (by simp))
              have Hx10 := Lib.hid (heap_kept Hx9.out g10 (by simp))
              have Rt10 := Lib.hid (Rt9.out.grown g10)
              have Rx10 := Lib.hid (Rx9.out.grown g10)
              clear g10 ca0 ca1 la cb0 cb1 lb cc0 cc1 cc2 lc cd0 cd1 cd2 ld ct0 ct1 lt cx0 cx1 cx2 lx
              obtain ⟨ca0, ca1, -⟩ := cells2 Ha10.out
              have la : W.heap.size < w10.heap.size := (Array.getElem?_eq_some_iff.1 Ha10.out).1
              obtain ⟨cb0, cb1, -⟩ := cells2 Hb10.out
              have lb : W.heap.size + 1 < w10.heap.size := (Array.getElem?_eq_some_iff.1 Hb10.out).1
              obtain ⟨cc0, cc1, cc2, -⟩ := cells3 Hc10.out
              have lc : W.heap.size + 1 + 1 < w10.heap.size := (Array.getElem?_eq_some_iff.1 Hc10.out).1
              obtain ⟨cd0, cd1, cd2, -⟩ := cells3 Hd10.out
              have ld : W.heap.size + 1 + 1 + 1 < w10.heap.size := (Array.getElem?_eq_some_iff.1 Hd10.out).1
              obtain ⟨ct0, ct1, -⟩ := cells2 Ht10.out
              have lt : w7.heap.size < w10.heap.size := (Array.getElem?_eq_some_iff.1 Ht10.out).1
              obtain ⟨cx0, cx1, cx2, -⟩ := cells3 Hx10.out
              have lx : w8.heap.size < w10.heap.size := (Array.getElem?_eq_some_iff.1 Hx10.out).1
              go_wp2_with fail
              refine (HCS.out _ _ _ G10.out Rt10.out).mono ?_
              rintro e w11 ⟨rfl, g11⟩
              have G11 := Lib.hid (only_trans G10.out g11)
              have Ha11 := Lib.hid (heap_kept Ha10.out g11 (by simp))
              have Hb11 := Lib.hid (heap_kept Hb10.out g11 (by simp))
              have Hc11 := Lib.hid (heap_kept Hc10.out g11 (by simp))
              have Hd11 := Lib.hid (heap_kept Hd10.out g11 (by simp))
              have Ht11 := Lib.hid (heap_kept Ht10.out g11 (by simp))
              have Hx11 := Lib.hid (heap_kept Hx10.out g11 (by simp))
              have Rt11 := Lib.hid (Rt10.out.grown g11)
              have Rx11 := Lib.hid (Rx10.out.grown g11)
              clear g11 ca0 ca1 la cb0 cb1 lb cc0 cc1 cc2 lc cd0 cd1 cd2 ld ct0 ct1 lt cx0 cx1 cx2 lx
              obtain ⟨ca0, ca1, -⟩ := cells2 Ha11.out
              have la : W.heap.size < w11.heap.size := (Array.getElem?_eq_some_iff.1 Ha11.out).1
              obtain ⟨cb0, cb1, -⟩ := cells2 Hb11.out
              have lb : W.heap.size + 1 < w11.heap.size := (Array.getElem?_eq_some_iff.1 Hb11.out).1
              obtain ⟨cc0, cc1, cc2, -⟩ := cells3 Hc11.out
              have lc : W.heap.size + 1 + 1 < w11.heap.size := (Array.getElem?_eq_some_iff.1 Hc11.out).1
              obtain ⟨cd0, cd1, cd2, -⟩ := cells3 Hd11.out
              have ld : W.heap.size + 1 + 1 + 1 < w11.heap.size := (Array.getElem?_eq_some_iff.1 Hd11.out).1
              obtain ⟨ct0, ct1, -⟩ := cells2 Ht11.out
              have lt : w7.heap.size < w11.heap.size := (Array.getElem?_eq_some_iff.1 Ht11.out).1
              obtain ⟨cx0, cx1, cx2, -⟩ := cells3 Hx11.out
              have lx : w8.heap.size < w11.heap.size := (Array.getElem?_eq_some_iff.1 Hx11.out).1
              generalize applyX t d = PZ at *
              obtain ⟨o, e3⟩ := PZ
              simp only at HAP3 HAJ HSZ LZ
              go_wp2_with fail
              refine (HAP3.out _ _ _ G11.out Rt11.out).mono ?_
              rintro e w12 ⟨uo, rfl, r12, g12⟩
              have G12 := Lib.hid (only_trans G11.out g12)
              have Ha12 := Lib.hid (heap_kept Ha11.out g12 (by simp))
              have Hb12 := Lib.hid (heap_kept Hb11.out g12 (by simp))
              have Hc12 := Lib.hid (heap_kept Hc11.out g12 (by simp))
              have Hd12 := Lib.hid (heap_kept Hd11.out g12 (by simp))
              have Ht12 := Lib.hid (heap_kept Ht11.out g12 (by simp))
              have Rt12 := Lib.hid (Rt11.out.grown g12)
              have Ro12 := Lib.hid r12
              obtain ⟨ao, ko, rfl⟩ := r12.shape
              clear g12 ca0 ca1 la cb0 cb1 lb cc0 cc1 cc2 lc cd0 cd1 cd2 ld ct0 ct1 lt cx0 cx1 cx2 lx r12
              obtain ⟨ca0, ca1, -⟩ := cells2 Ha12.out
              have la : W.heap.size < w12.heap.size := (Array.getElem?_eq_some_iff.1 Ha12.out).1
              obtain ⟨cb0, cb1, -⟩ := cells2 Hb12.out
              have lb : W.heap.size + 1 < w12.heap.size := (Array.getElem?_eq_some_iff.1 Hb12.out).1
              obtain ⟨cc0, cc1, cc2, -⟩ := cells3 Hc12.out
              have lc : W.heap.size + 1 + 1 < w12.heap.size := (Array.getElem?_eq_some_iff.1 Hc12.out).1
              obtain ⟨cd0, cd1, cd2, -⟩ := cells3 Hd12.out
              have ld : W.heap.size + 1 + 1 + 1 < w12.heap.size := (Array.getElem?_eq_some_iff.1 Hd12.out).1
              obtain ⟨ct0, ct1, -⟩ := cells2 Ht12.out
              have lt : w7.heap.size < w12.heap.size := (Array.getElem?_eq_some_iff.1 Ht12.out).1
              have ga12 := only_alloc (only_refl w12 none) (.cells #[.int .u64 (o.e : Nat), .slice ao o.t.length ko] 49)
              have G12a := Lib.hid (only_trans G12.out ga12)
              have Ha12a := Lib.hid (heap_kept Ha12.out ga12 (by simp))
              have Hb12a := Lib.hid (heap_kept Hb12.out ga12 (by simp))
              have Hc12a := Lib.hid (heap_kept Hc12.out ga12 (by simp))
              have Hd12a := Lib.hid (heap_kept Hd12.out ga12 (by simp))
              have Ht12a := Lib.hid (heap_kept Ht12.out ga12 (by simp))
              have Ho12a := Lib.hid (heap_alloc_new w12 (.cells #[.int .u64 (o.e : Nat), .slice ao o.t.length ko] 49))
              have Rt12a := Lib.hid (Rt12.out.grown ga12)
              have Ro12a := Lib.hid (Ro12.out.grown ga12)
              clear ga12
              by_cases z3 : e3 = 0
              · subst z3
                obtain ⟨J1, J2⟩ := HAJ.out (by first | rfl | trivial) (by first | rfl | trivial)
                rw [J2] at HAP4
                simp only at HAP4
                clear J2 HAJ
                generalize joinX c d = PJ at *
                obtain ⟨j, e4⟩ := PJ
                simp only at J1 HJN HAP4 LJ
                subst J1
                go_wp2_with fail
                refine (HJN.out _ G12a.out).mono ?_
                rintro e w13 ⟨uj, rfl, r13, g13⟩
                have G13 := Lib.hid (only_trans G12a.out g13)
                have Ha13 := Lib.hid (heap_kept Ha12a.out g13 (by simp))
                have Hb13 := Lib.hid (heap_kept Hb12a.out g13 (by simp))
                have Hc13 := Lib.hid (heap_kept Hc12a.out g13 (by simp))
                have Hd13 := Lib.hid (heap_kept Hd12a.out g13 (by simp))
                have Ht13 := Lib.hid (heap_kept Ht12a.out g13 (by simp))
                have Ho13 := Lib.hid (heap_kept Ho12a.out g13 (by simp))
                have Rt13 := Lib.hid (Rt12a.out.grown g13)
                have Ro13 := Lib.hid (Ro12a.out.grown g13)
                have Rj13 := Lib.hid r13
                obtain ⟨aj, kj, rfl⟩ := r13.shape
                clear g13 ca0 ca1 la cb0 cb1 lb cc0 cc1 cc2 lc cd0 cd1 cd2 ld ct0 ct1 lt r13
                obtain ⟨ca0, ca1, -⟩ := cells2 Ha13.out
                have la : W.heap.size < w13.heap.size := (Array.getElem?_eq_some_iff.1 Ha13.out).1
                obtain ⟨cb0, cb1, -⟩ := cells2 Hb13.out
                have lb : W.heap.size + 1 < w13.heap.size := (Array.getElem?_eq_some_iff.1 Hb13.out).1
                obtain ⟨cc0, cc1, cc2, -⟩ := cells3 Hc13.out
                have lc : W.heap.size + 1 + 1 < w13.heap.size := (Array.getElem?_eq_some_iff.1 Hc13.out).1
                obtain ⟨cd0, cd1, cd2, -⟩ := cells3 Hd13.out
                have ld : W.heap.size + 1 + 1 + 1 < w13.heap.size := (Array.getElem?_eq_some_iff.1 Hd13.out).1
                obtain ⟨ct0, ct1, -⟩ := cells2 Ht13.out
                have lt : w7.heap.size < w13.heap.size := (Array.getElem?_eq_some_iff.1 Ht13.out).1
                obtain ⟨co0, co1, -⟩ := cells2 Ho13.out
                have lo : w12.heap.size < w13.heap.size := (Array.getElem?_eq_some_iff.1 Ho13.out).1
                have ga13 := only_alloc (only_refl w13 none) (.cells #[.int .u64 (j.b : Nat), .int .u64 (j.e : Nat), .slice aj j.t.length kj] 51)
                have G13a := Lib.hid (only_trans G13.out ga13)
                have Ha13a := Lib.hid (heap_kept Ha13.out ga13 (by simp))
                have Hb13a := Lib.hid (heap_kept Hb13.out ga13 (by simp))
                have Hc13a := Lib.hid (heap_kept Hc13.out ga13 (by simp))
                have Hd13a := Lib.hid (heap_kept Hd13.out ga13 (by simp))
                have Ht13a := Lib.hid (heap_kept Ht13.out ga13 (by simp))
                have Ho13a := Lib.hid (heap_kept Ho13.out ga13 (by simp))
                have Hj13a := Lib.hid (heap_alloc_new w13 (.cells #[.int .u64 (j.b : Nat), .int .u64 (j.e : Nat), .slice aj j.t.length kj] 51))
                have Rt13a := Lib.hid (Rt13.out.grown ga13)
                have Ro13a := Lib.hid (Ro13.out.grown ga13)
                have Rj13a := Lib.hid (Rj13.out.grown ga13)
                clear ga13
                go_wp2_with fail
                refine (HAP4.out _ _ _ G13a.out Rj13a.out).mono ?_
                rintro e w14 ⟨uv, rfl, r14, g14⟩
                have G14 := Lib.hid (only_trans G13a.out g14)
                have Ha14 := Lib.hid (heap_kept Ha13a.out g14 (by simp))
                have Hb14 := Lib.hid (heap_kept Hb13a.out g14 (by simp))
                have Hc14 := Lib.hid (heap_kept Hc13a.out g14 (by simp))
                have Hd14 := Lib.hid (heap_kept Hd13a.out g14 (by simp))
                have Ht14 := Lib.hid (heap_kept Ht13a.out g14 (by simp))
                have Ho14 := Lib.hid (heap_kept Ho13a.out g14 (by simp))
                have Hj14 := Lib.hid (heap_kept Hj13a.out g14 (by simp))
                have Rt14 := Lib.hid (Rt13a.out.grown g14)
                have Ro14 := Lib.hid (Ro13a.out.grown g14)
                have Rj14 := Lib.hid (Rj13a.out.grown g14)
                have Rv14 := Lib.hid r14
                obtain ⟨av, kv, rfl⟩ := r14.shape
                clear g14 ca0 ca1 la cb0 cb1 lb cc0 cc1 cc2 lc cd0 cd1 cd2 ld ct0 ct1 lt co0 co1 lo r14
                obtain ⟨ca0, ca1, -⟩ := cells2 Ha14.out
                have la : W.heap.size < w14.heap.size := (Array.getElem?_eq_some_iff.1 Ha14.out).1
                obtain ⟨cb0, cb1, -⟩ := cells2 Hb14.out
                have lb : W.heap.size + 1 < w14.heap.size := (Array.getElem?_eq_some_iff.1 Hb14.out).1
                obtain ⟨cc0, cc1, cc2, -⟩ := cells3 Hc14.out
                have lc : W.heap.size + 1 + 1 < w14.heap.size := (Array.getElem?_eq_some_iff.1 Hc14.out).1
                obtain ⟨cd0, cd1, cd2, -⟩ := cells3 Hd14.out
                have ld : W.heap.size + 1 + 1 + 1 < w14.heap.size := (Array.getElem?_eq_some_iff.1 Hd14.out).1
                obtain ⟨ct0, ct1, -⟩ := cells2 Ht14.out
                have lt : w7.heap.size < w14.heap.size := (Array.getElem?_eq_some_iff.1 Ht14.out).1
                obtain ⟨co0, co1, -⟩ := cells2 Ho14.out
                have lo : w12.heap.size < w14.heap.size := (Array.getElem?_eq_some_iff.1 Ho14.out).1
                obtain ⟨cj0, cj1, cj2, -⟩ := cells3 Hj14.out
                have lj : w13.heap.size < w14.heap.size := (Array.getElem?_eq_some_iff.1 Hj14.out).1
                have ga14 := only_alloc (only_refl w14 none) (.cells #[.int .u64 (o.e : Nat), .slice av o.t.length kv] 49)
                have G14a := Lib.hid (only_trans G14.out ga14)
                have Ha14a := Lib.hid (heap_kept Ha14.out ga14 (by simp))
                have Hb14a := Lib.hid (heap_kept Hb14.out ga14 (by simp))
                have Hc14a := Lib.hid (heap_kept Hc14.out ga14 (by simp))
                have Hd14a := Lib.hid (heap_kept Hd14.out ga14 (by simp))
                have Ht14a := Lib.hid (heap_kept Ht14.out ga14 (by simp))
                have Ho14a := Lib.hid (heap_kept Ho14.out ga14 (by simp))
                have Hj14a := Lib.hid (heap_kept Hj14.out ga14 (by simp))
                have Hv14a := Lib.hid (heap_alloc_new w14 (.cells #[.int .u64 (o.e : Nat), .slice av o.t.length kv] 49))
                have Rt14a := Lib.hid (Rt14.out.grown ga14)
                have Ro14a := Lib.hid (Ro14.out.grown ga14)
                have Rj14a := Lib.hid (Rj14.out.grown ga14)
                have Rv14a := Lib.hid (Rv14.out.grown ga14)
                clear ga14
                go_wp2_with fail
                refine (HSZ.out _ _ _ _ _ Rv14a.out Ro14a.out).mono ?_
                rintro e w15 ⟨rfl, g15⟩
                have G15 := Lib.hid (only_trans G14a.out g15)
                have Ha15 := Lib.hid (heap_kept Ha14a.out g15 (by simp))
                have Hb15 := Lib.hid (heap_kept Hb14a.out g15 (by simp))
                have Hc15 := Lib.hid (heap_kept Hc14a.out g15 (by simp))
                have Hd15 := Lib.hid (heap_kept Hd14a.out g15 (by simp))
                have Ht15 := Lib.hid (heap_kept Ht14a.out g15 (by simp))
                have Ho15 := Lib.hid (heap_kept Ho14a.out g15 (by simp))
                have Hj15 := Lib.hid (heap_kept Hj14a.out g15 (by simp))
                have Hv15 := Lib.hid (heap_kept Hv14a.out g15 (by simp))
                have Rt15 := Lib.hid (Rt14a.out.grown g15)
                have Ro15 := Lib.hid (Ro14a.out.grown g15)
                have Rj15 := Lib.hid (Rj14a.out.grown g15)
                have Rv15 := Lib.hid (Rv14a.out.grown g15)
                clear g15 ca0 ca1 la cb0 cb1 lb cc0 cc1 cc2 lc cd0 cd1 cd2 ld ct0 ct1 lt co0 co1 lo cj0 cj1 cj2 lj
                obtain ⟨ca0, ca1, -⟩ := cells2 Ha15.out
                have la : W.heap.size < w15.heap.size := (Array.getElem?_eq_some_iff.1 Ha15.out).1
                obtain ⟨cb0, cb1, -⟩ := cells2 Hb15.out
                have lb : W.heap.size + 1 < w15.heap.size := (Array.getElem?_eq_some_iff.1 Hb15.out).1
                obtain ⟨cc0, cc1, cc2, -⟩ := cells3 Hc15.out
                have lc : W.heap.size + 1 + 1 < w15.heap.size := (Array.getElem?_eq_some_iff.1 Hc15.out).1
                obtain ⟨cd0, cd1, cd2, -⟩ := cells3 Hd15.out
                have ld : W.heap.size + 1 + 1 + 1 < w15.heap.size := (Array.getElem?_eq_some_iff.1 Hd15.out).1
                obtain ⟨ct0, ct1, -⟩ := cells2 Ht15.out
                have lt : w7.heap.size < w15.heap.size := (Array.getElem?_eq_some_iff.1 Ht15.out).1
                obtain ⟨co0, co1, -⟩ := cells2 Ho15.out
                have lo : w12.heap.size < w15.heap.size := (Array.getElem?_eq_some_iff.1 Ho15.out).1
                obtain ⟨cj0, cj1, cj2, -⟩ := cells3 Hj15.out
                have lj : w13.heap.size < w15.heap.size := (Array.getElem?_eq_some_iff.1 Hj15.out).1
                obtain ⟨cv0, cv1, -⟩ := cells2 Hv15.out
                have lv : w14.heap.size < w15.heap.size := (Array.getElem?_eq_some_iff.1 Hv15.out).1
                go_wp2_with fail
                go_ret
                exact ⟨rfl, G15.out⟩
              · have hqb3 : ((e3 : Int) != 0) = true := by rw [bne_iff_ne]; omega
                clear HAJ
                go_wp2_with fail
                go_ret
                exact ⟨rfl, G12a.out⟩
            · have hqb2 : ((e2 : Int) != 0) = true := by rw [bne_iff_ne]; omega
              obtain rfl : t = sn0 := HER.out (by simpa using z2)
              have hl0 : (sn0.t.length : Int) = 0 := rfl
              have he0 : (sn0.e : Int) = 0 := rfl
              clear HAJ HDA
              go_wp2_with fail
              go_ret
              exact ⟨rfl, G7a.out⟩

end Go.Proofs.YtbebdaglkjhbjaaGreatDoor.law16
