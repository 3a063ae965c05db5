/-
  The developers' package delta: two tables together.
-/
import Derived.Test.YtbebdaglkjhbjaaGreatDoorDlr
import Derived.Test.YtbebdaglkjhbjaaGreatDoorBundH
import Derived.Test.YtbebdaglkjhbjaaGreatDoorTgt
namespace Go.Proofs.YtbebdaglkjhbjaaGreatDoor.da
open Go.RowKit Go.Proofs.YtbebdaglkjhbjaaGreatDoor.vi Go.Proofs.YtbebdaglkjhbjaaGreatDoor.um Go.Proofs.YtbebdaglkjhbjaaGreatDoor.wm Go.Proofs.YtbebdaglkjhbjaaGreatDoor.tr Go.Proofs.YtbebdaglkjhbjaaGreatDoor.em Go.Proofs.YtbebdaglkjhbjaaGreatDoor.rm Go.Proofs.YtbebdaglkjhbjaaGreatDoor.law11 Go.Proofs.YtbebdaglkjhbjaaGreatDoor.dd Go.Proofs.YtbebdaglkjhbjaaGreatDoor.dr Go.Proofs.YtbebdaglkjhbjaaGreatDoor.tm Go.Proofs.YtbebdaglkjhbjaaGreatDoor.tf Go.Proofs.YtbebdaglkjhbjaaGreatDoor.dl Go.Proofs.YtbebdaglkjhbjaaGreatDoor.dz Go.Proofs.YtbebdaglkjhbjaaGreatDoor.ti
set_option linter.unusedVariables false
set_option linter.unusedSimpArgs false

/-- A table that may be. -/
def Gk (t : List Rw) : Prop := tm.Good t ∧ N64 t
theorem Gk.tok {t : List Rw} (h : Gk t) : Tok t := ⟨by have := h.1.1; omega, fun r hr => fit_ok (h.1.2.1 r hr) (h.2 r hr)⟩
theorem fit_rok {r : Rw} (h : Fit r) : Rok r := ⟨by have := h.1; omega, fun x hx => by have := h.2.1 x hx; unfold maxLen; omega, h.2.2.2⟩

set_option maxHeartbeats 500000 in
set_option maxRecDepth 100000 in
theorem sum_any (a b : List Rw) (SA SB : Nat → Prop) (w : World) (va vb : Value) (hA : Gk a) (hB : Gk b) (hT : tb.Tab w) (h : Rs SA w va a) (h2 : Rs SB w vb b) :
    Calls Tryz.prog 69 #[va, vb] w fun e w' => ∃ v, e = .returned (.tuple #[v, .int .i64 ((sumT a b).2 : Nat)]) ∧ Rs (fun k => k < w'.heap.size) w' v (sumT a b).1 ∧ w.grownBy w' none := by
  have HA := Lib.hid h.low
  have HB := Lib.hid h2.low
  obtain ⟨la, fa⟩ := hA.tok
  obtain ⟨lb, fb⟩ := hB.tok
  have sa := hA.1.2.2
  have sb := hB.1.2.2
  have FA := Lib.hid fa
  have FB := Lib.hid fb
  have HGB := Lib.hid (fun w1 u (g : w.grownBy w1 none) (x : Rw) (hx : Fit x) (he : EsS (fun k => k < w.heap.size) w1 u x.d) => ti.get_any b x.d _ _ w1 vb u (by omega) fb sb ⟨hx.1, hx.2.1, hx.2.2.1⟩ (h2.grown g) he.es)
  have HGA := Lib.hid (fun w1 u (g : w.grownBy w1 none) (x : Rw) (hx : Fit x) (he : EsS (fun k => k < w.heap.size) w1 u x.d) => ti.get_any a x.d _ _ w1 va u (by omega) fa sa ⟨hx.1, hx.2.1, hx.2.2.1⟩ (h.grown g) he.es)
  have HOF := Lib.hid (fun (ho : overT a b = false) S w1 (g : w.grownBy w1 none) v (h : Rs S w1 v (bothT a b)) => ti.of_any (bothT a b) S w1 v (by have := both_len2 a b; unfold maxLen; omega) (fun r hr => fit_rok (both_fit ho fa fb r hr)) (tb.kept hT g) h)
  have HNIL := Lib.hid (OwnR.nil 80 w.heap.size (fun _ => False) w (fun k e => e.elim))
  obtain ⟨aa, ac, rfl⟩ := h.shape
  obtain ⟨ba, bc, rfl⟩ := h2.shape
  clear h h2 fa fb sa sb hA hB hT
  go_enter Tryz.func69, Tryz.ntmps69
  go_wp2_with fail
  go_loopw [6, 14] (fun vo q wr => ∃ (i : Nat) (T : Nat → Prop), i ≤ a.length ∧ q = .int .i64 i ∧ OwnR 80 w.heap.size T wr vo ((a.take i).map (plusR b)) ∧ overT a b = overT (a.drop i) b ∧ w.grownBy wr none) (fun _ q _ => a.length - (intOf q).toNat)
  case atStart => exact ⟨0, fun _ => False, Nat.zero_le _, rfl, HNIL.out, rfl, only_refl _ _⟩
  case round =>
    obtain ⟨i, T, hi, rfl, ho, hov, hg⟩ := hrel
    have HO := Lib.hid ho
    have HG := Lib.hid hg
    have HOV := Lib.hid hov
    have hvb := ho.lt
    have hwz : w.heap.size ≤ wr.heap.size := hg.size
    obtain ⟨oa, oc, rfl⟩ := ho.rd.shape
    clear ho hg hov
    by_cases hlt : i < a.length
    · obtain ⟨x, hx⟩ : ∃ x, a[i]? = some x := ⟨a[i], List.getElem?_eq_getElem hlt⟩
      have HON := Lib.hid (HOV.out.trans (over_next hx))
      have HMN := Lib.hid (map_next hx (plusR b))
      obtain ⟨bk, off, cx, uu, hv, hbk, hle, hcm, c0, he, c1⟩ := (HA.out.grown HG.out).at hx
      simp only [Value.slice.injEq, true_and] at hv
      obtain ⟨rfl, rfl⟩ := hv
      unfold maxLen at hcm
      obtain ⟨xa, xc, rfl⟩ := he.shape
      have hfx := FA.out x (List.mem_of_getElem? hx)
      have HFX := Lib.hid hfx
      have hxn := hfx.2.2.2
      have GA := Lib.hid (only_alloc (only_refl wr none) (.cells #[.slice xa x.d.length xc, .int .u64 (x.n : Nat)] 80))
      have F0 := Lib.hid (heap_alloc_new wr (.cells #[.slice xa x.d.length xc, .int .u64 (x.n : Nat)] 80))
      have HEA := Lib.hid (he.grown GA.out)
      have G0 := Lib.hid (only_trans HG.out GA.out)
      have O0 := Lib.hid (HO.out.grown GA.out)
      have hwa := GA.out.size
      have htl : ((a.take i).map (plusR b)).length ≤ 1000 := by rw [List.length_map, List.length_take]; omega
      have hg64 := getT_lt b x.d (fun r hr => (FB.out r hr).2.2.2)
      have hpd : (plusR b x).d = x.d := rfl
      have hpn : (plusR b x).n = x.n + getT x.d b := rfl
      clear he hx hfx GA HO
      generalize (a.take i).map (plusR b) = acc at *
      generalize plusR b x = y at *
      obtain ⟨yd, yn⟩ := y
      simp only at hpd hpn
      subst hpd
      go_wp2_with fail
      generalize wr.alloc (.cells #[.slice xa x.d.length xc, .int .u64 (x.n : Nat)] 80) = wa at *
      obtain ⟨d0, d1, -⟩ := cells2 F0.out
      have HGX := Lib.hid (fun g : GW wa none => HGB.out g.world _ (only_trans G0.out g.ok) x HFX.out (HEA.out.grown g.ok))
      have hx0 : ∀ g : GW wa none, g.world.cell? ⟨wr.heap.size, 0, none⟩ = some (.slice xa x.d.length xc) := fun g => (cells2 (heap_kept F0.out g.ok (by simp))).1
      have hx1 : ∀ g : GW wa none, g.world.cell? ⟨wr.heap.size, 1, none⟩ = some (.int .u64 (x.n : Nat)) := fun g => (cells2 (heap_kept F0.out g.ok (by simp))).2.1
      generalize getT x.d b = n at *
      have hwr : IntKind.u64.wrap ((x.n : Int) + (n : Int)) = if 18446744073709551615 < x.n + n then (x.n : Int) + (n : Int) - 18446744073709551616 else (x.n : Int) + (n : Int) := by
        rw [IntKind.wrap_u64]
        split <;> omega
      have HWR := Lib.hid hwr
      clear hwr d0 d1
      go_wp2_with fail
      refine wp_region_gw wa none (by kernel_rfl) (by kernel_rfl) (only_refl _ _) ?_
      repeat (go_big_quiet_step ((go_at_call 64; exact calls_gw (HGX.out _))))
      refine wpQuiet_nil ?_
      rintro w2 ⟨⟨_, g2⟩, rfl⟩
      have G2 := Lib.hid (only_trans G0.out g2)
      have O2 := Lib.hid (O0.out.grown g2)
      have HE2 := Lib.hid (HEA.out.grown g2)
      have F2 := Lib.hid (heap_kept F0.out g2 (by simp))
      have hsz2 : wa.heap.size ≤ w2.heap.size := g2.size
      obtain ⟨e0, e1, -⟩ := cells2 F2.out
      clear g2 hx0 hx1 HGX
      generalize IntKind.u64.wrap ((x.n : Int) + (n : Int)) = W at *
      by_cases hc : 18446744073709551615 < x.n + n
      · have HOT : Hid (overT a b = true) := by show _ = _; rw [HON.out]; simp [hc]
        have hW := HWR.out.trans (if_pos hc)
        have hci : W < (x.n : Int) := by omega
        clear hW
        go_wp2_with fail
        go_ret2
        rw [sum_over HOT.out]
        exact ⟨_, rfl, Rs.nil _ _ _ _, G2.out⟩
      · have HON2 : Hid (overT a b = overT (a.drop (i + 1)) b) := by show _ = _; rw [HON.out]; simp [hc]
        have hW := HWR.out.trans (if_neg hc)
        subst hW
        have hci : ¬ ((x.n : Int) + (n : Int) < (x.n : Int)) := by omega
        obtain rfl : yn = x.n + n := hpn
        have GB := only_alloc (only_refl w2 none) (.cells #[.slice xa x.d.length xc, .int .u64 ((x.n : Int) + (n : Int))] 80)
        have O3 := Lib.hid (O2.out.grown GB)
        have G3 := Lib.hid (only_trans G2.out GB)
        have HONE : Hid (Rs (fun k => (k < w.heap.size) ∨ k = w2.heap.size) (w2.alloc (.cells #[.slice xa x.d.length xc, .int .u64 ((x.n : Int) + (n : Int))] 80)) (.slice (some ⟨w2.heap.size, 0, none⟩) 1 1) [(⟨x.d, x.n + n⟩ : Rw)]) := rs_one w2 _ _ (⟨x.d, x.n + n⟩ : Rw) 80 HE2.out
        clear GB
        go_wp2_with (at_builtin; go_loud (refine wpList_append_rs rfl _ _ 22 80 rfl _ Tryz.underlying22 ti.Tryz.infoTR rfl w.heap.size _ _ _ acc [(⟨x.d, x.n + n⟩ : Rw)] rfl O3.out _ rfl HONE.out ?c1 ?c2 ?c3 ?c4 ?_))
        case c1 => intro k hk; (try simp at hk ⊢); omega
        case c2 => intro k e; have := hvb k e; first | (constructor <;> omega) | (intro hk; (try simp at hk); omega)
        case c3 => first | omega | (simp; omega)
        case c4 => first | omega | (simp; omega)
        intro v5 w5 ho5 hg5
        have HO5 := Lib.hid ho5
        have G5 := Lib.hid (only_row G3.out hg5 (fun k e => (hvb k e).1))
        clear ho5 hg5
        go_wp2_with fail
        go_roundw
        case rel => exact ⟨i + 1, _, by omega, by go_num, by rw [HMN.out]; exact HO5.out, HON2.out, G5.out⟩
        case measure => simp [intOf]; omega
    · have hie : i = a.length := by omega
      subst hie
      rw [List.take_length] at HO
      rw [List.drop_length] at HOV
      have HOT : Hid (overT a b = false) := HOV.out
      have HG1 := Lib.hid HG.out
      clear HOV
      go_wp2_with fail
      go_loopw [6, 39] (fun vo q w2 => ∃ (i : Nat) (T : Nat → Prop), i ≤ b.length ∧ q = .int .i64 i ∧ OwnR 80 w.heap.size T w2 vo (a.map (plusR b) ++ (b.take i).filter (fun r => decide (getT r.d a = 0))) ∧ w.grownBy w2 none) (fun _ q _ => b.length - (intOf q).toNat)
      case atStart => exact ⟨0, T, Nat.zero_le _, rfl, by simpa using HO.out, HG1.out⟩
      case round =>
        rename World => wq
        obtain ⟨i, T2, hi, rfl, ho, hg⟩ := hrel
        clear HO HG HG1
        have HO := Lib.hid ho
        have HG := Lib.hid hg
        have hvb := ho.lt
        have hwz : w.heap.size ≤ wq.heap.size := hg.size
        obtain ⟨oa, oc, hvo⟩ := ho.rd.shape
        obtain ⟨N, hN⟩ : ∃ N, N = (a.map (plusR b) ++ (b.take i).filter (fun r => decide (getT r.d a = 0))).length := ⟨_, rfl⟩
        rw [← hN] at hvo
        subst hvo
        clear ho hg hN
        by_cases hlt : i < b.length
        · obtain ⟨x, hx⟩ : ∃ x, b[i]? = some x := ⟨b[i], List.getElem?_eq_getElem hlt⟩
          have HFN := Lib.hid (filter_next hx (fun r => decide (getT r.d a = 0)))
          obtain ⟨bk, off, cx, uu, hv, hbk, hle, hcm, c0, he, c1⟩ := (HB.out.grown HG.out).at hx
          simp only [Value.slice.injEq, true_and] at hv
          obtain ⟨rfl, rfl⟩ := hv
          unfold maxLen at hcm
          obtain ⟨xa, xc, rfl⟩ := he.shape
          have hfx := FB.out x (List.mem_of_getElem? hx)
          have HFX := Lib.hid hfx
          have GA := Lib.hid (only_alloc (only_refl wq none) (.cells #[.slice xa x.d.length xc, .int .u64 (x.n : Nat)] 80))
          have F0 := Lib.hid (heap_alloc_new wq (.cells #[.slice xa x.d.length xc, .int .u64 (x.n : Nat)] 80))
          have HEA := Lib.hid (he.grown GA.out)
          have G0 := Lib.hid (only_trans HG.out GA.out)
          have O0 := Lib.hid (HO.out.grown GA.out)
          have hwa := GA.out.size
          have htl : (a.map (plusR b) ++ (b.take i).filter (fun r => decide (getT r.d a = 0))).length ≤ 2000 := by
            have := List.length_filter_le (fun r => decide (getT r.d a = 0)) (b.take i)
            rw [List.length_append, List.length_map]
            rw [List.length_take] at this
            omega
          clear he hx hfx GA HO
          have HAP : Hid (a.map (plusR b) ++ (b.take (i + 1)).filter (fun r => decide (getT r.d a = 0)) = (a.map (plusR b) ++ (b.take i).filter (fun r => decide (getT r.d a = 0))) ++ if decide (getT x.d a = 0) = true then [x] else []) := by show _ = _; rw [HFN.out, List.append_assoc]
          clear HFN
          generalize a.map (plusR b) ++ (b.take i).filter (fun r => decide (getT r.d a = 0)) = acc at *
          go_wp2_with fail
          generalize wq.alloc (.cells #[.slice xa x.d.length xc, .int .u64 (x.n : Nat)] 80) = wa at *
          obtain ⟨d0, d1, -⟩ := cells2 F0.out
          have HGX := Lib.hid (HGA.out wa _ G0.out x HFX.out HEA.out)
          generalize getT x.d a = n at *
          refine HGX.out.mono ?_
          rintro e w2 ⟨rfl, g2⟩
          have G2 := Lib.hid (only_trans G0.out g2)
          have O2 := Lib.hid (O0.out.grown g2)
          have HE2 := Lib.hid (HEA.out.grown g2)
          have F2 := Lib.hid (heap_kept F0.out g2 (by simp))
          have hsz2 : wa.heap.size ≤ w2.heap.size := g2.size
          obtain ⟨e0, e1, -⟩ := cells2 F2.out
          clear g2 d0 d1
          by_cases hc : n = 0
          · subst hc
            have HAP2 := Lib.hid (HAP.out.trans (congrArg (fun z => acc ++ z) (if_pos (by simp))))
            have GB := only_alloc (only_refl w2 none) (.cells #[.slice xa x.d.length xc, .int .u64 (x.n : Nat)] 80)
            have O3 := Lib.hid (O2.out.grown GB)
            have G3 := Lib.hid (only_trans G2.out GB)
            have HONE := Lib.hid (rs_one w2 _ _ x 80 HE2.out)
            clear GB HAP
            go_wp2_with (at_builtin; go_loud (refine wpList_append_rs rfl _ _ 22 80 rfl _ Tryz.underlying22 ti.Tryz.infoTR rfl w.heap.size _ _ _ acc [x] rfl O3.out _ rfl HONE.out ?c1 ?c2 ?c3 ?c4 ?_))
            case c1 => intro k hk; (try simp at hk ⊢); omega
            case c2 => intro k e; have := hvb k e; first | (constructor <;> omega) | (intro hk; (try simp at hk); omega)
            case c3 => first | omega | (simp; omega)
            case c4 => first | omega | (simp; omega)
            intro v5 w5 ho5 hg5
            have HO5 := Lib.hid ho5
            have G5 := Lib.hid (only_row G3.out hg5 (fun k e => (hvb k e).1))
            clear ho5 hg5
            go_wp2_with fail
            go_roundw
            case rel => exact ⟨i + 1, _, by omega, by go_num, by rw [HAP2.out]; exact HO5.out, G5.out⟩
            case measure => simp [intOf]; omega
          · have HAP2 := Lib.hid (HAP.out.trans ((congrArg (fun z => acc ++ z) (if_neg (by simpa using hc))).trans (List.append_nil acc)))
            have hcb : ((n : Int) == 0) = false := by rw [beq_eq_false_iff_ne]; omega
            clear HAP
            go_wp2_with fail
            go_roundw
            case rel => exact ⟨i + 1, _, by omega, by go_num, by rw [HAP2.out]; exact O2.out, G2.out⟩
            case measure => simp [intOf]; omega
        · have hie : i = b.length := by omega
          subst hie
          rw [List.take_length] at HO
          have HFI := Lib.hid (HOF.out HOT.out _ wq HG.out _ (show Rs _ wq _ (bothT a b) from HO.out.rd))
          have HLB : Hid ((a.map (plusR b) ++ b.filter (fun r => decide (getT r.d a = 0))).length = (bothT a b).length) := rfl
          have HSF := Lib.hid (sum_fine HOT.out)
          generalize ofT (bothT a b) = R at *
          go_wp2_with fail
          refine HFI.out.mono ?_
          rintro e w3 ⟨v3, rfl, r3, g3⟩
          have R3 := Lib.hid r3
          have G3 := Lib.hid (only_trans HG.out g3)
          obtain ⟨ra, rc, rfl⟩ := r3.shape
          clear r3 g3
          go_wp2_with fail
          go_ret2
          rw [HSF.out]
          exact ⟨_, rfl, R3.out, G3.out⟩

end Go.Proofs.YtbebdaglkjhbjaaGreatDoor.da
