/-
  The developers' tables: AtLeast, Same.
-/
import Derived.Test.YtbebdaglkjhbjaaGreatDoorTgt
import Derived.Test.YtbebdaglkjhbjaaGreatDoorBundR
namespace Go.Proofs.YtbebdaglkjhbjaaGreatDoor.ti
open Go.RowKit Go.Lib Go.Proofs.YtbebdaglkjhbjaaGreatDoor.vi Go.Proofs.YtbebdaglkjhbjaaGreatDoor.um Go.Proofs.YtbebdaglkjhbjaaGreatDoor.wm Go.Proofs.YtbebdaglkjhbjaaGreatDoor.tr Go.Proofs.YtbebdaglkjhbjaaGreatDoor.em Go.Proofs.YtbebdaglkjhbjaaGreatDoor.rm Go.Proofs.YtbebdaglkjhbjaaGreatDoor.law11 Go.Proofs.YtbebdaglkjhbjaaGreatDoor.dd Go.Proofs.YtbebdaglkjhbjaaGreatDoor.tm Go.Proofs.YtbebdaglkjhbjaaGreatDoor.tf
set_option linter.unusedVariables false
set_option linter.unusedSimpArgs false

set_option maxHeartbeats 4000000 in
set_option maxRecDepth 100000 in
theorem atleast_any (ts rs : List Rw) (S T : Nat → Prop) (w : World) (v u : Value) (hl : ts.length ≤ 100000) (hl2 : rs.length ≤ 100000) (hz : ∀ r ∈ ts, Fit r) (hz2 : ∀ r ∈ rs, Fit r) (hs : ts.Pairwise ltR) (h : Rs S w v ts) (he : Rs T w u rs) :
    Calls Tryz.prog 38 #[v, u] w fun e w' => e = .returned (.bool (atT ts rs)) ∧ w.grownBy w' none := by
  have HT := Lib.hid h
  have HS := Lib.hid he
  have HZT := Lib.hid hz
  have HZ := Lib.hid hz2
  have HSO := Lib.hid hs
  obtain ⟨ta, tc, rfl⟩ := h.shape
  obtain ⟨a, cap, rfl⟩ := he.shape
  clear h he hz hz2 hs
  go_enter Tryz.func38, Tryz.ntmps38
  go_wp2_with fail
  go_loopw [9] (fun q wr => ∃ i : Nat, i ≤ rs.length ∧ q = .int .i64 i ∧ w.grownBy wr none ∧ atT ts rs = atT ts (rs.drop i)) (fun q _ => rs.length - (intOf q).toNat)
  case atStart => exact ⟨0, Nat.zero_le _, rfl, only_refl _ _, rfl⟩
  case round =>
    obtain ⟨i, hi, rfl, hg, hR⟩ := hrel
    have HG := Lib.hid hg
    have HR := Lib.hid hR
    clear hg hR
    by_cases hlt : i < rs.length
    · obtain ⟨x, hx⟩ : ∃ x, rs[i]? = some x := ⟨rs[i], List.getElem?_eq_getElem hlt⟩
      obtain ⟨b, off, cx, uu, hv, -, hle, hcm, c0, he, c1⟩ := (HS.out.grown HG.out).at hx
      simp only [Value.slice.injEq, true_and] at hv
      obtain ⟨rfl, rfl⟩ := hv
      unfold maxLen at hcm
      obtain ⟨xa, xc, rfl⟩ := he.shape
      have HXF := Lib.hid (HZ.out x (List.mem_of_getElem? hx))
      have HRN := Lib.hid (HR.out.trans (atT_next hx))
      have GA := Lib.hid (only_alloc (only_refl wr none) (.cells #[.slice xa x.d.length xc, .int .u64 (x.n : Nat)] 80))
      have d0 : (wr.alloc (.cells #[.slice xa x.d.length xc, .int .u64 (x.n : Nat)] 80)).cell? ⟨wr.heap.size, 0, none⟩ = some (.slice xa x.d.length xc) := by rw [cell_new]; rfl
      have d1 : (wr.alloc (.cells #[.slice xa x.d.length xc, .int .u64 (x.n : Nat)] 80)).cell? ⟨wr.heap.size, 1, none⟩ = some (.int .u64 (x.n : Nat)) := by rw [cell_new]; rfl
      have HEA := Lib.hid (he.grown GA.out)
      have HTA := Lib.hid ((HT.out.grown HG.out).grown GA.out)
      have HGA := Lib.hid (only_trans HG.out GA.out)
      have D0 := Lib.hid d0
      have D1 := Lib.hid d1
      clear d0 d1 he hx
      go_wp2_with fail
      generalize wr.alloc (.cells #[.slice xa x.d.length xc, .int .u64 (x.n : Nat)] 80) = wa at *
      have hf := HXF.out
      have HK := Lib.hid (fun g : GW wa none => get_any ts x.d _ _ g.world _ _ hl HZT.out HSO.out ⟨hf.1, hf.2.1, hf.2.2.1⟩ (HTA.out.grown g.ok) ((HEA.out.grown g.ok).es))
      have hg0 : getT x.d ts < 18446744073709551616 := getT_lt ts x.d (fun r hr => (HZT.out r hr).2.2.2)
      have e0 : ∀ g : GW wa none, g.world.cell? ⟨wr.heap.size, 0, none⟩ = some (.slice xa x.d.length xc) := fun g => (Chg.of_none (S := fun _ => False) g.ok).cell D0.out (fun e => e)
      have e1 : ∀ g : GW wa none, g.world.cell? ⟨wr.heap.size, 1, none⟩ = some (.int .u64 (x.n : Nat)) := fun g => (Chg.of_none (S := fun _ => False) g.ok).cell D1.out (fun e => e)
      clear hf
      generalize getT x.d ts = q at *
      refine wp_region_gw wa none (by kernel_rfl) (by kernel_rfl) (only_refl _ _) ?_
      repeat (go_big_quiet_step ((go_at_call 64; exact calls_gw (HK.out _))))
      refine wpQuiet_nil ?_
      rintro wb ⟨⟨_, hwb⟩, rfl⟩
      have HW := Lib.hid hwb
      clear hwb
      by_cases hc : x.n ≤ q
      · have hci : ¬ (q : Int) < (x.n : Int) := by omega
        have HRR : Hid (atT ts rs = atT ts (rs.drop (i + 1))) := by show _ = _; rw [HRN.out]; simp [hc]
        go_wp2_with fail
        go_roundw
        case rel => exact ⟨i + 1, by omega, by go_num, only_trans HGA.out HW.out, HRR.out⟩
        case measure => simp [intOf]; omega
      · have hci : (q : Int) < (x.n : Int) := by omega
        have HRR : Hid (atT ts rs = false) := by show _ = _; rw [HRN.out]; simp; omega
        go_wp2_with fail
        go_ret
        rw [HRR.out]
        exact ⟨rfl, only_trans HGA.out HW.out⟩
    · have hie : i = rs.length := by omega
      subst hie
      rw [List.drop_length] at HR
      have HR2 : Hid (atT ts rs = true) := HR.out
      go_wp2_with fail
      go_ret
      rw [HR2.out]
      exact ⟨rfl, HG.out⟩

/-! Same -/
set_option maxRecDepth 100000 in
theorem same1_any (x y : Rw) (S T : Nat → Prop) (w : World) (u v : Value) (hl : x.d.length ≤ 1000000) (hx : EsS S w u x.d) (hy : EsS T w v y.d) :
    Calls Tryz.prog 56 #[.agg #[u, .int .u64 (x.n : Nat)], .agg #[v, .int .u64 (y.n : Nat)]] w fun e w' => e = .returned (.bool (decide (x = y))) ∧ w.grownBy w' none := by
  have HE := Lib.hid (fun w2 (g2 : w.grownBy w2 none) => law12.equalE_any x.d y.d _ _ w2 u v hl (hx.es.grown g2) (hy.es.grown g2))
  have HD : Hid (decide (x = y) = (decide (x.n = y.n) && decide (x.d = y.d))) := by
    show _ = _
    cases x; cases y
    simp [Bool.and_comm]
  obtain ⟨xa, xc, rfl⟩ := hx.shape
  obtain ⟨ya, yc, rfl⟩ := hy.shape
  have hgd := only_alloc (only_alloc (only_refl w none) (.cells #[.slice xa x.d.length xc, .int .u64 (x.n : Nat)] 80)) (.cells #[.slice ya y.d.length yc, .int .u64 (y.n : Nat)] 80)
  have HG := Lib.hid hgd
  rw [HD.out]
  clear hx hy hgd HD
  generalize decide (x.d = y.d) = q at *
  generalize x.n = xn at *
  generalize y.n = yn at *
  by_cases hn : xn = yn
  · subst hn
    rw [decide_eq_true rfl, Bool.true_and]
    go_enter Tryz.func56, Tryz.ntmps56
    go_wp2_with fail
    refine (HE.out _ HG.out).mono ?_
    rintro e w1 ⟨rfl, g1⟩
    have G1 := Lib.hid (only_trans HG.out g1)
    clear g1
    go_wp2_with fail
    go_ret
    exact ⟨rfl, G1.out⟩
  · have hnb : ((xn : Int) == (yn : Int)) = false := by rw [beq_eq_false_iff_ne]; omega
    rw [decide_eq_false hn, Bool.false_and]
    go_enter Tryz.func56, Tryz.ntmps56
    go_wp2_with fail
    go_ret
    exact ⟨rfl, HG.out⟩

set_option maxHeartbeats 4000000 in
set_option maxRecDepth 100000 in
theorem eqf_any (ps qs : List Rw) (S T : Nat → Prop) (w : World) (v u : Value) (hl : ps.length ≤ 100000) (hz : ∀ r ∈ ps, r.d.length ≤ 100000) (h : Rs S w v ps) (he : Rs T w u qs) :
    Calls Tryz.prog 55 #[v, u, .func (.func 56) #[] #[]] w fun e w' => e = .returned (.bool (decide (ps = qs))) ∧ w.grownBy w' none := by
  have HA := Lib.hid h
  have HB := Lib.hid he
  have HZ := Lib.hid hz
  obtain ⟨aa, ac, rfl⟩ := h.shape
  obtain ⟨ba, bc, rfl⟩ := he.shape
  clear h he hz
  by_cases hn : ps.length = qs.length
  · have HN := Lib.hid hn
    rw [← hn]
    clear hn
    go_enter Tryz.func55, Tryz.ntmps55
    go_wp2_with fail
    go_loopw [17] (fun q wr => ∃ i : Nat, i ≤ ps.length ∧ q = .int .i64 i ∧ w.grownBy wr none ∧ ps.take i = qs.take i) (fun q _ => ps.length - (intOf q).toNat)
    case atStart => exact ⟨0, Nat.zero_le _, rfl, only_refl _ _, rfl⟩
    case round =>
      obtain ⟨i, hi, rfl, hg, hR⟩ := hrel
      have HG := Lib.hid hg
      have HR := Lib.hid hR
      clear hg hR
      by_cases hlt : i < ps.length
      · obtain ⟨x, hx⟩ : ∃ x, ps[i]? = some x := ⟨ps[i], List.getElem?_eq_getElem hlt⟩
        obtain ⟨y, hy⟩ : ∃ y, qs[i]? = some y := ⟨qs[i]'(by rw [← HN.out]; exact hlt), List.getElem?_eq_getElem (by rw [← HN.out]; exact hlt)⟩
        obtain ⟨b, off, cx, uu, hv, -, hle, hcm, c0, hex, c1⟩ := (HA.out.grown HG.out).at hx
        obtain ⟨b2, off2, cx2, uu2, hv2, -, hle2, hcm2, d0, hey, d1⟩ := (HB.out.grown HG.out).at hy
        rw [← HN.out] at hv2 hle2
        simp only [Value.slice.injEq, true_and] at hv hv2
        obtain ⟨rfl, rfl⟩ := hv
        obtain ⟨rfl, rfl⟩ := hv2
        unfold maxLen at hcm hcm2
        have hxl := HZ.out x (List.mem_of_getElem? hx)
        have HSM := Lib.hid (fun w2 (g : wr.grownBy w2 none) => same1_any x y S T w2 uu uu2 (by omega) (hex.grown g) (hey.grown g))
        have hb2 : b2 < wr.heap.size := World.block_lt_of_cell? wr _ d0
        have HNE : Hid (¬ x = y → ¬ ps = qs) := fun hxy e => by rw [e, hy] at hx; exact hxy (Option.some.inj hx).symm
        have HNX : Hid (x = y → ps.take (i + 1) = qs.take (i + 1)) := fun e => take_step hx hy HR.out e
        obtain ⟨xa, xc, rfl⟩ := hex.shape
        obtain ⟨ya, yc, rfl⟩ := hey.shape
        clear hex hey hx hy
        by_cases hxy : x = y
        · have HT := Lib.hid (HNX.out hxy)
          have HSM : Hid (∀ w2, wr.grownBy w2 none → Calls Tryz.prog 56 #[.agg #[.slice xa x.d.length xc, .int .u64 (x.n : Nat)], .agg #[.slice ya y.d.length yc, .int .u64 (y.n : Nat)]] w2 fun e w' => e = .returned (.bool true) ∧ w2.grownBy w' none) := fun w2 g => by have := HSM.out w2 g; rw [decide_eq_true hxy] at this; exact this
          clear hxy HNX HNE
          have GA := Lib.hid (only_alloc (only_refl wr none) (.cells #[.slice xa x.d.length xc, .int .u64 (x.n : Nat)] 80))
          go_wp2_with fail
          refine (HSM.out _ (only_alloc GA.out _)).mono ?_
          rintro e w1 ⟨rfl, g1⟩
          have G1 := Lib.hid (only_trans HG.out (only_trans (only_alloc GA.out _) g1))
          clear g1
          go_wp2_with fail
          go_roundw
          case rel => exact ⟨i + 1, by omega, by go_num, G1.out, HT.out⟩
          case measure => simp [intOf]; omega
        · have HD : Hid (decide (ps = qs) = false) := decide_eq_false (HNE.out hxy)
          have HSM : Hid (∀ w2, wr.grownBy w2 none → Calls Tryz.prog 56 #[.agg #[.slice xa x.d.length xc, .int .u64 (x.n : Nat)], .agg #[.slice ya y.d.length yc, .int .u64 (y.n : Nat)]] w2 fun e w' => e = .returned (.bool false) ∧ w2.grownBy w' none) := fun w2 g => by have := HSM.out w2 g; rw [decide_eq_false hxy] at this; exact this
          clear hxy HNX HNE
          have GA := Lib.hid (only_alloc (only_refl wr none) (.cells #[.slice xa x.d.length xc, .int .u64 (x.n : Nat)] 80))
          go_wp2_with fail
          refine (HSM.out _ (only_alloc GA.out _)).mono ?_
          rintro e w1 ⟨rfl, g1⟩
          have G1 := Lib.hid (only_trans HG.out (only_trans (only_alloc GA.out _) g1))
          clear g1
          go_wp2_with fail
          go_ret
          rw [HD.out]
          exact ⟨rfl, G1.out⟩
      · have hie : i = ps.length := by omega
        subst hie
        have HD : Hid (decide (ps = qs) = true) := decide_eq_true (by have := HR.out; rw [List.take_length, HN.out, List.take_length] at this; exact this)
        go_wp2_with fail
        go_ret
        rw [HD.out]
        exact ⟨rfl, HG.out⟩
  · have hnb : ((ps.length : Int) != (qs.length : Int)) = true := by rw [bne_iff_ne]; omega
    have HD : Hid (decide (ps = qs) = false) := decide_eq_false fun e => hn (congrArg List.length e)
    go_enter Tryz.func55, Tryz.ntmps55
    go_wp2_with fail
    go_ret
    rw [HD.out]
    exact ⟨rfl, only_refl _ _⟩

theorem same_any (ps qs : List Rw) (S T : Nat → Prop) (w : World) (v u : Value) (hl : ps.length ≤ 100000) (hz : ∀ r ∈ ps, r.d.length ≤ 100000) (h : Rs S w v ps) (he : Rs T w u qs) :
    Calls Tryz.prog 20 #[v, u] w fun e w' => e = .returned (.bool (decide (ps = qs))) ∧ w.grownBy w' none := by
  have HE := Lib.hid (eqf_any ps qs S T w v u hl hz h he)
  go_enter Tryz.func20, Tryz.ntmps20
  go_wp2_with fail
  refine HE.out.mono ?_
  rintro e w1 ⟨rfl, g1⟩
  go_wp2_with fail
  go_ret
  exact ⟨rfl, g1⟩

end Go.Proofs.YtbebdaglkjhbjaaGreatDoor.ti
