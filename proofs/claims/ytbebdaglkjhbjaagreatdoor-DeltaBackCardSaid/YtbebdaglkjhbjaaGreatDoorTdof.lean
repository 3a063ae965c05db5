/-
  The document's tables (layer 13): Of.
-/
import Derived.Test.YtbebdaglkjhbjaaGreatDoorBundR
import Derived.Test.YtbebdaglkjhbjaaGreatDoorBundG
import Derived.Test.YtbebdaglkjhbjaaGreatDoorBundH
namespace Go.Proofs.YtbebdaglkjhbjaaGreatDoor.tf
open Go.RowKit Go.Proofs.YtbebdaglkjhbjaaGreatDoor.vi Go.Proofs.YtbebdaglkjhbjaaGreatDoor.um Go.Proofs.YtbebdaglkjhbjaaGreatDoor.wm Go.Proofs.YtbebdaglkjhbjaaGreatDoor.tr Go.Proofs.YtbebdaglkjhbjaaGreatDoor.em Go.Proofs.YtbebdaglkjhbjaaGreatDoor.rm Go.Proofs.YtbebdaglkjhbjaaGreatDoor.law11 Go.Proofs.YtbebdaglkjhbjaaGreatDoor.dd Go.Proofs.YtbebdaglkjhbjaaGreatDoor.dr Go.Proofs.YtbebdaglkjhbjaaGreatDoor.tm
set_option linter.unusedVariables false
set_option linter.unusedSimpArgs false

/-- Where a row is put in. -/
def plT (x : Rw) : List Rw → Nat
  | [] => 0
  | t :: r => if lt (key t) (key x) = true then plT x r + 1 else 0
theorem plT_le (x : Rw) : ∀ l : List Rw, plT x l ≤ l.length
  | [] => Nat.le_refl _
  | t :: r => by
    have := plT_le x r
    unfold plT
    split <;> simp <;> omega
theorem plT_below (x : Rw) : ∀ (l : List Rw) (a : Nat) (y : Rw), a < plT x l → l[a]? = some y → lt (key y) (key x) = true
  | [], a, y, h, _ => by simp [plT] at h
  | t :: r, a, y, h, hy => by
    unfold plT at h
    split at h
    · rename_i ht
      cases a with
      | zero => simp at hy; subst hy; exact ht
      | succ a => exact plT_below x r a y (by omega) (by simpa using hy)
    · omega
theorem plT_at (x : Rw) : ∀ (l : List Rw) (t : Rw), l[plT x l]? = some t → lt (key t) (key x) = false
  | [], t, h => by simp at h
  | u :: r, t, h => by
    unfold plT at h
    split at h
    · exact plT_at x r t (by simpa using h)
    · rename_i hn
      simp at h
      subst h
      simpa using hn
theorem insT_put (x : Rw) : ∀ l : List Rw, (∀ t, l[plT x l]? = some t → key t ≠ key x) → insT x l = some (l.take (plT x l) ++ x :: l.drop (plT x l))
  | [], _ => rfl
  | t :: r, h => by
    unfold insT plT
    unfold plT at h
    by_cases hl : lt (key t) (key x) = true
    · rw [if_pos hl, if_pos hl]
      rw [if_pos hl] at h
      rw [insT_put x r (fun u hu => h u (by simpa using hu))]
      simp
    · rw [if_neg hl, if_neg hl]
      rw [if_neg hl] at h
      rw [if_neg (h t (by simp))]
      simp
theorem insT_two (x : Rw) : ∀ (l : List Rw) (t : Rw), l[plT x l]? = some t → key t = key x → insT x l = none
  | [], t, h, _ => by simp at h
  | u :: r, t, h, hk => by
    unfold insT
    unfold plT at h
    by_cases hl : lt (key u) (key x) = true
    · rw [if_pos hl]
      rw [if_pos hl] at h
      rw [insT_two x r t (by simpa using h) hk]; rfl
    · rw [if_neg hl]
      rw [if_neg hl] at h
      simp at h
      subst h
      rw [if_pos hk]

theorem firstT_nxt {rs : List Rw} {i : Nat} {x : Rw} (h : rs[i]? = some x) : firstT (rs.drop i) = if rowE x ≠ 0 then rowE x else firstT (rs.drop (i + 1)) := by
  obtain ⟨hi, rfl⟩ := List.getElem?_eq_some_iff.1 h
  rw [List.drop_eq_getElem_cons hi]; rfl
theorem insAll_nxt {rs acc : List Rw} {i : Nat} {x : Rw} (h : rs[i]? = some x) : insAllT acc (rs.drop i) = (insT x acc).bind fun o => insAllT o (rs.drop (i + 1)) := by
  obtain ⟨hi, rfl⟩ := List.getElem?_eq_some_iff.1 h
  rw [List.drop_eq_getElem_cons hi]; rfl

theorem sizeOfRW13 (w : World) : (Go.sizeOf 97).run Tryz.prog w = .ok 2 w := by kernel_rfl
theorem ownR_plain {ty : TypeId} {base n cap : Nat} {T : Nat → Prop} {w : World} {a : Option Addr} {ts : List Rw} (h : OwnR ty base T w (.slice a n cap) ts) : Plain a ∧ n = ts.length ∧ n ≤ cap ∧ cap ≤ maxLen := by
  obtain ⟨uv, h, -⟩ := h
  rcases h.2 with ⟨e, h0⟩ | ⟨g, cap', cur, e, -, -, h1, h2, -⟩
  · cases e; exact ⟨.inl rfl, by omega, by omega, by unfold maxLen; omega⟩
  · simp only [Value.slice.injEq] at e
    obtain ⟨rfl, rfl, rfl⟩ := e
    exact ⟨.inr ⟨_, _, rfl⟩, rfl, h1, h2⟩

set_option maxHeartbeats 16000000 in
set_option maxRecDepth 100000 in
theorem rofT_any (rs : List Rw) (S : Nat → Prop) (w : World) (v : Value) (hl : rs.length ≤ 100000) (hz : ∀ r ∈ rs, Fit r) (h : Rs S w v rs) :
    Calls Tryz.prog 96 #[v] w fun e w' => ∃ v', e = .returned (.tuple #[v', .int .i64 ((ofT rs).2 : Nat)]) ∧ Rs (fun k => k < w'.heap.size) w' v' (ofT rs).1 ∧ w.grownBy w' none := by
  have HS := Lib.hid h.low
  have HZ := Lib.hid hz
  have HD : Hid (ofT rs = if 256 < rs.length then ([], 13) else if firstT rs ≠ 0 then ([], firstT rs) else match insAllT [] rs with
    | none => ([], 14)
    | some o => (o, 0)) := rfl
  generalize hR : ofT rs = R at *
  obtain ⟨a, cap, rfl⟩ := h.shape
  clear h hz hR
  by_cases hbig : 256 < rs.length
  · have HR := Lib.hid (HD.out.trans (if_pos hbig))
    have hbi : (256 : Int) < (rs.length : Int) := by omega
    go_enter Tryz.func96, Tryz.ntmps96
    go_wp2_with fail
    go_ret2
    rw [HR.out]
    exact ⟨_, rfl, Rs.nil _ _ _ _, only_refl _ _⟩
  · have HR := Lib.hid (HD.out.trans (if_neg hbig))
    have hbi : ¬ (256 : Int) < (rs.length : Int) := by omega
    go_enter Tryz.func96, Tryz.ntmps96
    go_wp2_with fail
    go_loopw [17] (fun q wr => ∃ i : Nat, i ≤ rs.length ∧ q = .int .i64 i ∧ w.grownBy wr none ∧ firstT rs = firstT (rs.drop i)) (fun q _ => rs.length - (intOf q).toNat)
    case atStart => exact ⟨0, Nat.zero_le _, rfl, only_refl _ _, rfl⟩
    case round =>
      obtain ⟨i, hi, rfl, hg, hw⟩ := hrel
      have HG := Lib.hid hg
      have HW := Lib.hid hw
      clear hg hw HD
      by_cases hlt : i < rs.length
      · obtain ⟨x, hx⟩ : ∃ x, rs[i]? = some x := ⟨rs[i], List.getElem?_eq_getElem hlt⟩
        obtain ⟨b, off, cx, uu, hv, -, hle, hcm, c0, he, c1⟩ := (HS.out.grown HG.out).at hx
        simp only [Value.slice.injEq, true_and] at hv
        obtain ⟨rfl, rfl⟩ := hv
        unfold maxLen at hcm
        have HWN := Lib.hid (HW.out.trans (firstT_nxt hx))
        have GA := only_alloc (only_refl wr none) (.cells #[uu, .int .u64 (x.n : Nat)] 97)
        have G1 := Lib.hid (only_trans HG.out GA)
        have HCK := Lib.hid (rrow_any x (fun k => k < w.heap.size) _ uu (HZ.out x (List.mem_of_getElem? hx)) (he.grown GA))
        have hrl := rowE_lt x
        obtain ⟨xa, xc, rfl⟩ := he.shape
        clear hx GA HW he
        by_cases h1 : rowE x = 0
        · rw [h1] at HCK HWN
          have HWN := Lib.hid (HWN.out.trans (if_neg (by simp)))
          clear hrl h1
          go_wp2_with fail
          refine HCK.out.mono ?_
          rintro e w1 ⟨rfl, g1⟩
          have G2 := Lib.hid (only_trans G1.out g1)
          clear g1
          go_wp2_with fail
          go_roundw
          case rel => exact ⟨i + 1, by omega, by go_num, G2.out, HWN.out⟩
          case measure => simp [intOf]; omega
        · have HWN := Lib.hid (HWN.out.trans (if_pos h1))
          have HRF := Lib.hid (HR.out.trans (if_pos (by rw [HWN.out]; exact h1)))
          rw [HWN.out] at HRF
          generalize rowE x = q at *
          have hqb : ((q : Int) != 0) = true := by rw [bne_iff_ne]; omega
          go_wp2_with fail
          refine HCK.out.mono ?_
          rintro e w1 ⟨rfl, g1⟩
          have G2 := Lib.hid (only_trans G1.out g1)
          clear g1
          go_wp2_with fail
          go_ret2
          rw [HRF.out]
          exact ⟨_, rfl, Rs.nil _ _ _ _, G2.out⟩
      · have hie : i = rs.length := by omega
        subst hie
        rw [List.drop_length] at HW
        have HR2 := Lib.hid (HR.out.trans (if_neg (by rw [HW.out]; simp [firstT])))
        have HGS := Lib.hid HG.out
        have hrl2 : rs.length ≤ 256 := by omega
        clear HR HW hbi
        go_wp2_with fail
        go_loopw [7, 29] (fun vo q wr => ∃ (i : Nat) (acc : List Rw) (T : Nat → Prop), i ≤ rs.length ∧ q = .int .i64 i ∧ OwnR 97 w.heap.size T wr vo acc ∧ acc.length ≤ i ∧ (∀ r ∈ acc, Fit r) ∧ insAllT [] rs = insAllT acc (rs.drop i) ∧ w.grownBy wr none) (fun _ q _ => rs.length - (intOf q).toNat)
        case atStart => exact ⟨0, [], fun _ => False, Nat.zero_le _, rfl, OwnR.nil _ _ _ _ (fun k e => e.elim), Nat.le_refl _, by simp, rfl, HGS.out⟩
        case round =>
          obtain ⟨i, acc, T, hi, rfl, ho, hal, haf, hin, hg⟩ := hrel
          have HO := Lib.hid ho
          have HG2 := Lib.hid hg
          have HAF := Lib.hid haf
          clear ho hg HG HGS haf
          by_cases hlt : i < rs.length
          · obtain ⟨x, hx⟩ : ∃ x, rs[i]? = some x := ⟨rs[i], List.getElem?_eq_getElem hlt⟩
            obtain ⟨b, off, cap', uu, hv, -, hle, hcm, c0, he, c1⟩ := (HS.out.grown HG2.out).at hx
            simp only [Value.slice.injEq, true_and] at hv
            obtain ⟨rfl, rfl⟩ := hv
            unfold maxLen at hcm
            have FX := Lib.hid (HZ.out x (List.mem_of_getElem? hx))
            have HIN := Lib.hid (hin.trans (insAll_nxt hx))
            obtain ⟨xa, xc, rfl⟩ := he.shape
            obtain ⟨ao, oc, hao⟩ := HO.out.rd.shape
            have hov := HO.out
            rw [hao] at hov
            obtain ⟨hpl, -, hoc1, hoc2⟩ := ownR_plain hov
            unfold maxLen at hoc2
            have GA := only_alloc (only_refl wr none) (.cells #[.slice xa x.d.length xc, .int .u64 (x.n : Nat)] 97)
            have HO2 := Lib.hid (hov.grown GA)
            have HGA := Lib.hid (only_trans HG2.out GA)
            have HEA := Lib.hid (he.grown GA)
            have HXC : Hid ((wr.alloc (.cells #[.slice xa x.d.length xc, .int .u64 (x.n : Nat)] 97)).cell? ⟨wr.heap.size, 0, none⟩ = some (.slice xa x.d.length xc)) := by show _ = _; rw [cell_new]; rfl
            have HXN : Hid ((wr.alloc (.cells #[.slice xa x.d.length xc, .int .u64 (x.n : Nat)] 97)).cell? ⟨wr.heap.size, 1, none⟩ = some (.int .u64 (x.n : Nat))) := by show _ = _; rw [cell_new]; rfl
            have hpl2 := plT_le x acc
            have HBL := Lib.hid (fun a y => plT_below x acc a y)
            have HAT := Lib.hid (fun t => plT_at x acc t)
            have HPU := Lib.hid (insT_put x acc)
            have HTW := Lib.hid (fun t => insT_two x acc t)
            subst hao
            clear hov GA HO he hx hin
            go_wp2_with fail
            generalize hxb : wr.heap.size = xb at *
            generalize wr.alloc (.cells #[.slice xa x.d.length xc, .int .u64 (x.n : Nat)] 97) = wa at *
            go_loopw [10] (fun q wr => ∃ a : Nat, a ≤ plT x acc ∧ q = .int .i64 a ∧ wa.grownBy wr none) (fun q _ => acc.length - (intOf q).toNat)
            case atStart => exact ⟨0, Nat.zero_le _, rfl, only_refl _ _⟩
            case round =>
              obtain ⟨a, ha, rfl, hg3⟩ := hrel
              have HW3 := Lib.hid hg3
              clear hg3
              by_cases hap : a < plT x acc
              · obtain ⟨y, hy⟩ : ∃ y, acc[a]? = some y := ⟨acc[a]'(by omega), List.getElem?_eq_getElem (by omega)⟩
                obtain ⟨g0, o0, cy, uy, hvx, -, m1, m2, e0, hey, e1⟩ := (HO2.out.grown HW3.out).rd.at hy
                simp only [Value.slice.injEq, true_and] at hvx
                obtain ⟨rfl, rfl⟩ := hvx
                unfold maxLen at m2
                have FY := Lib.hid (HAF.out y (List.mem_of_getElem? hy))
                have hex := HEA.out.grown HW3.out
                have HLL0 := Lib.hid (fun w2 => rless12_any (txt (keyD y.d)) (txt (keyD x.d)) (by rw [txt_size]; exact FY.out.2.2.1) (by rw [txt_size]; exact FX.out.2.2.1) w2)
                rw [rr.lt_dec, txt_list, txt_list] at HLL0
                have HY0 := Lib.hid e0
                have HX0 := Lib.hid ((Chg.of_none (S := fun _ => False) HW3.out).cell HXC.out (fun e => e))
                have HEY := Lib.hid hey
                have HEX := Lib.hid hex
                have hkb := beqk (keyD y.d) (keyD x.d)
                obtain ⟨ya, yc, rfl⟩ := hey.shape
                have HY := Lib.hid hy
                clear e0 e1 hey hex hy
                have hal3 : (a : Int) < (acc.length : Int) := by omega
                have hlt2 := HBL.out a y hap HY.out
                have HLL : Hid (∀ w2, Calls Tryz.prog 78 #[.string (txt (keyD y.d)), .string (txt (keyD x.d))] w2 fun e w' => e = .returned (.bool true) ∧ w2.grownBy w' none) := fun w2 => by have := HLL0.out w2; rw [show lt (keyD y.d) (keyD x.d) = true from hlt2] at this; exact this
                clear HLL0 hlt2 hkb HBL HAT HPU HTW
                go_wp2_with fail
                have HKY := Lib.hid (fun g : GW wr none => rkeyD_any y.d _ g.world _ FY.out.1 FY.out.2.1 FY.out.2.2.1 (((HEY.out.grown (only_refl _ none)).grown g.ok).es))
                have HKX := Lib.hid (fun g : GW wr none => rkeyD_any x.d _ g.world _ FX.out.1 FX.out.2.1 FX.out.2.2.1 (((HEX.out.grown (only_refl _ none)).grown g.ok).es))
                have HLG := Lib.hid (fun g : GW wr none => HLL.out g.world)
                have y0 : ∀ g : GW wr none, g.world.cell? ⟨g0, o0 + a * 2, none⟩ = some (.slice ya y.d.length yc) := fun g => (Chg.of_none (S := fun _ => False) (only_trans (only_refl _ none) g.ok)).cell HY0.out (fun e => e)
                have x0 : ∀ g : GW wr none, g.world.cell? ⟨xb, 0, none⟩ = some (.slice xa x.d.length xc) := fun g => (Chg.of_none (S := fun _ => False) (only_trans (only_refl _ none) g.ok)).cell HX0.out (fun e => e)
                generalize txt (keyD y.d) = k1 at *
                generalize txt (keyD x.d) = k2 at *
                refine wp_region_gw wr none (by kernel_rfl) (by kernel_rfl) (only_refl _ _) ?_
                repeat (go_big_quiet_step ((first | (go_at_call 77; first | with_reducible exact calls_gw (HKY.out _) | with_reducible exact calls_gw (HKX.out _)) | (go_at_call 78; exact calls_gw (HLG.out _)))))
                refine wpQuiet_nil ?_
                rintro wb ⟨⟨_, hwb⟩, rfl⟩
                have Gwb := Lib.hid hwb
                clear hwb
                have HWB := Lib.hid (only_trans HW3.out Gwb.out)
                go_wp2_with fail
                go_roundw
                case rel => exact ⟨a + 1, by omega, by go_num, HWB.out⟩
                case measure => simp [intOf]; omega
              · have hae : a = plT x acc := by omega
                rw [← hae] at HPU HAT HTW
                have hal5 : a ≤ acc.length := by omega
                clear hap hae ha hpl2 HBL
                by_cases hal3 : a < acc.length
                · obtain ⟨y, hy⟩ : ∃ y, acc[a]? = some y := ⟨acc[a]'(by omega), List.getElem?_eq_getElem (by omega)⟩
                  obtain ⟨g0, o0, cy, uy, hvx, -, m1, m2, e0, hey, e1⟩ := (HO2.out.grown HW3.out).rd.at hy
                  simp only [Value.slice.injEq, true_and] at hvx
                  obtain ⟨rfl, rfl⟩ := hvx
                  unfold maxLen at m2
                  have FY := Lib.hid (HAF.out y (List.mem_of_getElem? hy))
                  have hex := HEA.out.grown HW3.out
                  have HLL0 := Lib.hid (fun w2 => rless12_any (txt (keyD y.d)) (txt (keyD x.d)) (by rw [txt_size]; exact FY.out.2.2.1) (by rw [txt_size]; exact FX.out.2.2.1) w2)
                  rw [rr.lt_dec, txt_list, txt_list] at HLL0
                  have HY0 := Lib.hid e0
                  have HX0 := Lib.hid ((Chg.of_none (S := fun _ => False) HW3.out).cell HXC.out (fun e => e))
                  have HEY := Lib.hid hey
                  have HEX := Lib.hid hex
                  have hkb := beqk (keyD y.d) (keyD x.d)
                  obtain ⟨ya, yc, rfl⟩ := hey.shape
                  have HY := Lib.hid hy
                  clear e0 e1 hey hex hy
                  have hal4 : (a : Int) < (acc.length : Int) := by omega
                  have hlt2 := HAT.out y HY.out
                  have HLL : Hid (∀ w2, Calls Tryz.prog 78 #[.string (txt (keyD y.d)), .string (txt (keyD x.d))] w2 fun e w' => e = .returned (.bool false) ∧ w2.grownBy w' none) := fun w2 => by have := HLL0.out w2; rw [show lt (keyD y.d) (keyD x.d) = false from hlt2] at this; exact this
                  clear HLL0 hlt2 HAT
                  by_cases hke : keyD y.d = keyD x.d
                  · have HNO : Hid (insAllT [] rs = none) := by show _ = _; rw [HIN.out, HTW.out y HY.out hke]; rfl
                    have HRR : Hid (R = ([], 14)) := by show _ = _; rw [HR2.out, HNO.out]
                    have hkb2 : ((txt (keyD y.d)).toList == (txt (keyD x.d)).toList) = true := by rw [hkb]; simp [hke]
                    clear hkb hke HPU HTW HNO
                    have HKY0 := Lib.hid (fun w2 (g : wr.grownBy w2 none) => rkeyD_any y.d _ w2 _ FY.out.1 FY.out.2.1 FY.out.2.2.1 ((HEY.out.grown g).es))
                    have HKX0 := Lib.hid (fun w2 (g : wr.grownBy w2 none) => rkeyD_any x.d _ w2 _ FX.out.1 FX.out.2.1 FX.out.2.2.1 ((HEX.out.grown g).es))
                    generalize txt (keyD y.d) = k1 at *
                    generalize txt (keyD x.d) = k2 at *
                    go_wp2_with fail
                    have HKY := Lib.hid (fun g : GW wr none => HKY0.out g.world (only_trans (only_refl wr none) g.ok))
                    have HKX := Lib.hid (fun g : GW wr none => HKX0.out g.world (only_trans (only_refl wr none) g.ok))
                    have HLG := Lib.hid (fun g : GW wr none => HLL.out g.world)
                    have y0 : ∀ g : GW wr none, g.world.cell? ⟨g0, o0 + a * 2, none⟩ = some (.slice ya y.d.length yc) := fun g => (Chg.of_none (S := fun _ => False) (only_trans (only_refl wr none) g.ok)).cell HY0.out (fun e => e)
                    have x0 : ∀ g : GW wr none, g.world.cell? ⟨xb, 0, none⟩ = some (.slice xa x.d.length xc) := fun g => (Chg.of_none (S := fun _ => False) (only_trans (only_refl wr none) g.ok)).cell HX0.out (fun e => e)
                    refine wp_region_gw wr none (by kernel_rfl) (by kernel_rfl) (only_refl _ _) ?_
                    repeat (go_big_quiet_step ((first | (go_at_call 77; first | with_reducible exact calls_gw (HKY.out _) | with_reducible exact calls_gw (HKX.out _)) | (go_at_call 78; exact calls_gw (HLG.out _)))))
                    refine wpQuiet_nil ?_
                    rintro wb ⟨⟨_, hwb⟩, rfl⟩
                    have Gwb := Lib.hid hwb
                    clear hwb
                    clear HKY HKX HLG y0 x0
                    go_wp2_with fail
                    have HKY := Lib.hid (fun g : GW wb none => HKY0.out g.world (only_trans Gwb.out g.ok))
                    have HKX := Lib.hid (fun g : GW wb none => HKX0.out g.world (only_trans Gwb.out g.ok))
                    have HLG := Lib.hid (fun g : GW wb none => HLL.out g.world)
                    have y0 : ∀ g : GW wb none, g.world.cell? ⟨g0, o0 + a * 2, none⟩ = some (.slice ya y.d.length yc) := fun g => (Chg.of_none (S := fun _ => False) (only_trans Gwb.out g.ok)).cell HY0.out (fun e => e)
                    have x0 : ∀ g : GW wb none, g.world.cell? ⟨xb, 0, none⟩ = some (.slice xa x.d.length xc) := fun g => (Chg.of_none (S := fun _ => False) (only_trans Gwb.out g.ok)).cell HX0.out (fun e => e)
                    refine wp_region_gw wb none (by kernel_rfl) (by kernel_rfl) (only_refl _ _) ?_
                    repeat (go_big_quiet_step ((go_at_call 77; first | with_reducible exact calls_gw (HKY.out _) | with_reducible exact calls_gw (HKX.out _))))
                    refine wpQuiet_nil ?_
                    rintro wc ⟨⟨_, hwc⟩, rfl⟩
                    have Gwc := Lib.hid hwc
                    clear hwc
                    clear HKY HKX HLG y0 x0
                    have GC := Lib.hid (only_trans Gwb.out Gwc.out)
                    go_wp2_with fail
                    go_ret2
                    rw [HRR.out]
                    exact ⟨_, rfl, Rs.nil _ _ _ _, only_trans HGA.out (only_trans HW3.out GC.out)⟩
                  · have HPUT : Hid (insT x acc = some (acc.take a ++ x :: acc.drop a)) := HPU.out (fun t ht => by rw [HY.out] at ht; cases ht; exact hke)
                    have hkb2 : ((txt (keyD y.d)).toList == (txt (keyD x.d)).toList) = false := by rw [hkb]; simp [hke]
                    clear hkb hke HPU HTW
                    have HKY0 := Lib.hid (fun w2 (g : wr.grownBy w2 none) => rkeyD_any y.d _ w2 _ FY.out.1 FY.out.2.1 FY.out.2.2.1 ((HEY.out.grown g).es))
                    have HKX0 := Lib.hid (fun w2 (g : wr.grownBy w2 none) => rkeyD_any x.d _ w2 _ FX.out.1 FX.out.2.1 FX.out.2.2.1 ((HEX.out.grown g).es))
                    generalize txt (keyD y.d) = k1 at *
                    generalize txt (keyD x.d) = k2 at *
                    go_wp2_with fail
                    have HKY := Lib.hid (fun g : GW wr none => HKY0.out g.world (only_trans (only_refl wr none) g.ok))
                    have HKX := Lib.hid (fun g : GW wr none => HKX0.out g.world (only_trans (only_refl wr none) g.ok))
                    have HLG := Lib.hid (fun g : GW wr none => HLL.out g.world)
                    have y0 : ∀ g : GW wr none, g.world.cell? ⟨g0, o0 + a * 2, none⟩ = some (.slice ya y.d.length yc) := fun g => (Chg.of_none (S := fun _ => False) (only_trans (only_refl wr none) g.ok)).cell HY0.out (fun e => e)
                    have x0 : ∀ g : GW wr none, g.world.cell? ⟨xb, 0, none⟩ = some (.slice xa x.d.length xc) := fun g => (Chg.of_none (S := fun _ => False) (only_trans (only_refl wr none) g.ok)).cell HX0.out (fun e => e)
                    refine wp_region_gw wr none (by kernel_rfl) (by kernel_rfl) (only_refl _ _) ?_
                    repeat (go_big_quiet_step ((first | (go_at_call 77; first | with_reducible exact calls_gw (HKY.out _) | with_reducible exact calls_gw (HKX.out _)) | (go_at_call 78; exact calls_gw (HLG.out _)))))
                    refine wpQuiet_nil ?_
                    rintro wb ⟨⟨_, hwb⟩, rfl⟩
                    have Gwb := Lib.hid hwb
                    clear hwb
                    clear HKY HKX HLG y0 x0
                    go_wp2_with fail
                    have HKY := Lib.hid (fun g : GW wb none => HKY0.out g.world (only_trans Gwb.out g.ok))
                    have HKX := Lib.hid (fun g : GW wb none => HKX0.out g.world (only_trans Gwb.out g.ok))
                    have HLG := Lib.hid (fun g : GW wb none => HLL.out g.world)
                    have y0 : ∀ g : GW wb none, g.world.cell? ⟨g0, o0 + a * 2, none⟩ = some (.slice ya y.d.length yc) := fun g => (Chg.of_none (S := fun _ => False) (only_trans Gwb.out g.ok)).cell HY0.out (fun e => e)
                    have x0 : ∀ g : GW wb none, g.world.cell? ⟨xb, 0, none⟩ = some (.slice xa x.d.length xc) := fun g => (Chg.of_none (S := fun _ => False) (only_trans Gwb.out g.ok)).cell HX0.out (fun e => e)
                    refine wp_region_gw wb none (by kernel_rfl) (by kernel_rfl) (only_refl _ _) ?_
                    repeat (go_big_quiet_step ((go_at_call 77; first | with_reducible exact calls_gw (HKY.out _) | with_reducible exact calls_gw (HKX.out _))))
                    refine wpQuiet_nil ?_
                    rintro wc ⟨⟨_, hwc⟩, rfl⟩
                    have Gwc := Lib.hid hwc
                    clear hwc
                    clear HKY HKX HLG y0 x0
                    have GC := Lib.hid (only_trans Gwb.out Gwc.out)
                    have HOC := Lib.hid ((HO2.out.grown HW3.out).grown GC.out)
                    have HEC := Lib.hid ((HEA.out.grown HW3.out).grown GC.out)
                    have HXCC := Lib.hid ((Chg.of_none (S := fun _ => False) (only_trans HW3.out GC.out)).cell HXC.out (fun e => e))
                    have HXCD := Lib.hid ((Chg.of_none (S := fun _ => False) (only_trans HW3.out GC.out)).cell HXN.out (fun e => e))
                    have HGC := Lib.hid (only_trans HGA.out (only_trans HW3.out GC.out))
                    have hwb : w.heap.size ≤ wc.heap.size := HGC.out.size
                    have hxbl : xb < wc.heap.size := World.block_lt_of_cell? wc _ HXCC.out
                    have HOE := Lib.hid (HOC.out.rd.low)
                    have HRH := Lib.hid (run_head (P := Tryz.prog) 30 97 Tryz.underlying30 sizeOfRW13 (n := acc.length) (cap := oc) hpl a (by omega))
                    obtain ⟨q2, hq2, hq3⟩ := run_tail (P := Tryz.prog) 30 97 Tryz.underlying30 sizeOfRW13 (n := acc.length) (cap := oc) hpl a (by omega) (by omega)
                    have HQ3 := Lib.hid hq3
                    have hq1 := HRH.out
                    have HTK := Lib.hid (HOE.out.take a (by omega))
                    have HU : Hid (EsS (fun k => k < wc.heap.size) wc (.slice xa x.d.length xc) x.d) := EsS.of HEC.out.es
                    have HNIL : Hid (OwnR 97 wc.heap.size (fun k => k < wc.heap.size) wc (.slice none 0 0) []) := OwnR.nil _ _ _ _ (fun k hk => hk)
                    clear hq3
                    go_wp2_with (at_builtin; refine wpList_append_rs rfl _ _ 30 97 (by rfl) _ Tryz.underlying30 law13.Tryz.infoRW rfl wc.heap.size _ _ _ [] (acc.take a) (by rfl) HNIL.out _ (by rfl) HTK.out (fun k hk => hk) (fun k e => by cases e) ?a1 ?a2 ?_)
                    case a1 => simp; omega
                    case a2 => exact Nat.le_refl _
                    intro v5 w5 ho5 hg5
                    have hg5n : wc.grownBy w5 none := hg5
                    try rw [List.nil_append] at ho5
                    have ho5 := ho5.more (T := fun k => k < wc.heap.size) (fun k hk => by first | exact hk | exact hk.elim id id) (fun k hk => Nat.lt_of_lt_of_le hk hg5n.size) (fun k e hk => by have := (ho5.lt k e).1; have hk : k < wc.heap.size := hk; omega)
                    have GA5 := only_alloc (only_refl w5 none) (.cells #[.slice xa x.d.length xc, .int .u64 (x.n : Nat)] 97)
                    have HO5 := Lib.hid (ho5.grown GA5)
                    have HB5 := Lib.hid ho5.lt
                    have HG5 := Lib.hid (only_trans HGC.out (only_trans hg5n GA5))
                    have HX5 := Lib.hid (HOE.out.grown (only_trans hg5n GA5))
                    have HONE := Lib.hid (rs_one w5 _ _ x 97 (HU.out.grown hg5n))
                    have hw5 : wc.heap.size ≤ w5.heap.size := hg5n.size
                    have d0 := (Chg.of_none (S := fun _ => False) hg5n).cell HXCC.out (fun e => e)
                    have d1 := (Chg.of_none (S := fun _ => False) hg5n).cell HXCD.out (fun e => e)
                    have hsz5 : (w5.alloc (.cells #[.slice xa x.d.length xc, .int .u64 (x.n : Nat)] 97)).heap.size = w5.heap.size + 1 := by simp
                    clear ho5 hg5 hg5n GA5 hq1
                    go_wp2_with (at_builtin; refine wpList_append_rs rfl _ _ 30 97 (by rfl) _ Tryz.underlying30 law13.Tryz.infoRW rfl wc.heap.size _ _ _ (acc.take a) [x] (by rfl) HO5.out _ (by rfl) HONE.out (fun k hk => by rcases hk with hk | hk; (have hk : k < wc.heap.size := hk; omega); omega) (fun k e hk => by have h1 := HB5.out k e; rcases hk with hk | hk; (have hk : k < wc.heap.size := hk; omega); omega) ?b1 ?b2 ?_)
                    case b1 => simp; omega
                    case b2 => omega
                    intro v6 w6 ho6 hg6
                    have HO6 := Lib.hid ho6
                    have HB6 := Lib.hid ho6.lt
                    have HG6 := Lib.hid (only_row HG5.out hg6 (fun k e => Nat.le_trans hwb (HB5.out k e).1))
                    have HX6 := Lib.hid ((HX5.out.kept (T := fun k => v5.ownBlock = some k) (Chg.of_grown hg6 (fun k e => .inl e)) (fun k hk e => by have := (HB5.out k e).1; have hk : k < wc.heap.size := hk; omega)).drop a (by omega) q2 HQ3.out)
                    have hw6 : wc.heap.size ≤ w6.heap.size := by have := hg6.size; omega
                    clear ho6 hg6 d0 d1 hsz5
                    go_wp2_with (at_builtin; refine wpList_append_rs rfl _ _ 30 97 (by rfl) _ Tryz.underlying30 law13.Tryz.infoRW rfl wc.heap.size _ _ _ (acc.take a ++ [x]) (acc.drop a) (by rfl) HO6.out _ (by rfl) HX6.out (fun k hk => by have hk : k < wc.heap.size := hk; omega) (fun k e hk => by have h1 := (HB6.out k e).1; have hk : k < wc.heap.size := hk; omega) ?e1 ?e2 ?_)
                    case e1 => simp; omega
                    case e2 => exact hw6
                    intro v7 w7 ho7 hg7
                    have ho7 := ho7.mono hwb
                    have HO7 := Lib.hid ho7
                    have HG7 := Lib.hid (only_row HG6.out hg7 (fun k e => Nat.le_trans hwb (HB6.out k e).1))
                    clear ho7 hg7 hq2
                    go_wp2_with fail
                    go_roundw
                    case rel =>
                      refine ⟨i + 1, acc.take a ++ x :: acc.drop a, _, by omega, by go_num, HO7.out, ?_, ?_, ?_, HG7.out⟩
                      · simp; omega
                      · intro r hr
                        simp only [List.mem_append, List.mem_cons] at hr
                        rcases hr with hr | hr | hr
                        · exact HAF.out r (List.mem_of_mem_take hr)
                        · rw [hr]; exact FX.out
                        · exact HAF.out r (List.mem_of_mem_drop hr)
                      · rw [HIN.out, HPUT.out]; rfl
                    case measure => simp [intOf]; omega
                · have hali : ¬ (a : Int) < (acc.length : Int) := by omega
                  have HPUT : Hid (insT x acc = some (acc.take a ++ x :: acc.drop a)) := HPU.out (fun t ht => by rw [List.getElem?_eq_none (by omega)] at ht; cases ht)
                  clear HPU HTW HAT
                  go_wp2_with fail
                  refine wp_region_gw wr none (by kernel_rfl) (by kernel_rfl) (only_refl _ _) ?_
                  repeat (go_big_quiet_step ((fail)))
                  refine wpQuiet_nil ?_
                  rintro wb ⟨⟨_, hwb⟩, rfl⟩
                  have Gwb := Lib.hid hwb
                  clear hwb
                  go_wp2_with fail
                  refine wp_region_gw wb none (by kernel_rfl) (by kernel_rfl) (only_refl _ _) ?_
                  repeat (go_big_quiet_step ((fail)))
                  refine wpQuiet_nil ?_
                  rintro wc ⟨⟨_, hwc⟩, rfl⟩
                  have Gwc := Lib.hid hwc
                  clear hwc
                  have GC := Lib.hid (only_trans Gwb.out Gwc.out)
                  have HOC := Lib.hid ((HO2.out.grown HW3.out).grown GC.out)
                  have HEC := Lib.hid ((HEA.out.grown HW3.out).grown GC.out)
                  have HXCC := Lib.hid ((Chg.of_none (S := fun _ => False) (only_trans HW3.out GC.out)).cell HXC.out (fun e => e))
                  have HXCD := Lib.hid ((Chg.of_none (S := fun _ => False) (only_trans HW3.out GC.out)).cell HXN.out (fun e => e))
                  have HGC := Lib.hid (only_trans HGA.out (only_trans HW3.out GC.out))
                  have hwb : w.heap.size ≤ wc.heap.size := HGC.out.size
                  have hxbl : xb < wc.heap.size := World.block_lt_of_cell? wc _ HXCC.out
                  have HOE := Lib.hid (HOC.out.rd.low)
                  have HRH := Lib.hid (run_head (P := Tryz.prog) 30 97 Tryz.underlying30 sizeOfRW13 (n := acc.length) (cap := oc) hpl a (by omega))
                  obtain ⟨q2, hq2, hq3⟩ := run_tail (P := Tryz.prog) 30 97 Tryz.underlying30 sizeOfRW13 (n := acc.length) (cap := oc) hpl a (by omega) (by omega)
                  have HQ3 := Lib.hid hq3
                  have hq1 := HRH.out
                  have HTK := Lib.hid (HOE.out.take a (by omega))
                  have HU : Hid (EsS (fun k => k < wc.heap.size) wc (.slice xa x.d.length xc) x.d) := EsS.of HEC.out.es
                  have HNIL : Hid (OwnR 97 wc.heap.size (fun k => k < wc.heap.size) wc (.slice none 0 0) []) := OwnR.nil _ _ _ _ (fun k hk => hk)
                  clear hq3
                  go_wp2_with (at_builtin; refine wpList_append_rs rfl _ _ 30 97 (by rfl) _ Tryz.underlying30 law13.Tryz.infoRW rfl wc.heap.size _ _ _ [] (acc.take a) (by rfl) HNIL.out _ (by rfl) HTK.out (fun k hk => hk) (fun k e => by cases e) ?a1 ?a2 ?_)
                  case a1 => simp; omega
                  case a2 => exact Nat.le_refl _
                  intro v5 w5 ho5 hg5
                  have hg5n : wc.grownBy w5 none := hg5
                  try rw [List.nil_append] at ho5
                  have ho5 := ho5.more (T := fun k => k < wc.heap.size) (fun k hk => by first | exact hk | exact hk.elim id id) (fun k hk => Nat.lt_of_lt_of_le hk hg5n.size) (fun k e hk => by have := (ho5.lt k e).1; have hk : k < wc.heap.size := hk; omega)
                  have GA5 := only_alloc (only_refl w5 none) (.cells #[.slice xa x.d.length xc, .int .u64 (x.n : Nat)] 97)
                  have HO5 := Lib.hid (ho5.grown GA5)
                  have HB5 := Lib.hid ho5.lt
                  have HG5 := Lib.hid (only_trans HGC.out (only_trans hg5n GA5))
                  have HX5 := Lib.hid (HOE.out.grown (only_trans hg5n GA5))
                  have HONE := Lib.hid (rs_one w5 _ _ x 97 (HU.out.grown hg5n))
                  have hw5 : wc.heap.size ≤ w5.heap.size := hg5n.size
                  have d0 := (Chg.of_none (S := fun _ => False) hg5n).cell HXCC.out (fun e => e)
                  have d1 := (Chg.of_none (S := fun _ => False) hg5n).cell HXCD.out (fun e => e)
                  have hsz5 : (w5.alloc (.cells #[.slice xa x.d.length xc, .int .u64 (x.n : Nat)] 97)).heap.size = w5.heap.size + 1 := by simp
                  clear ho5 hg5 hg5n GA5 hq1
                  go_wp2_with (at_builtin; refine wpList_append_rs rfl _ _ 30 97 (by rfl) _ Tryz.underlying30 law13.Tryz.infoRW rfl wc.heap.size _ _ _ (acc.take a) [x] (by rfl) HO5.out _ (by rfl) HONE.out (fun k hk => by rcases hk with hk | hk; (have hk : k < wc.heap.size := hk; omega); omega) (fun k e hk => by have h1 := HB5.out k e; rcases hk with hk | hk; (have hk : k < wc.heap.size := hk; omega); omega) ?b1 ?b2 ?_)
                  case b1 => simp; omega
                  case b2 => omega
                  intro v6 w6 ho6 hg6
                  have HO6 := Lib.hid ho6
                  have HB6 := Lib.hid ho6.lt
                  have HG6 := Lib.hid (only_row HG5.out hg6 (fun k e => Nat.le_trans hwb (HB5.out k e).1))
                  have HX6 := Lib.hid ((HX5.out.kept (T := fun k => v5.ownBlock = some k) (Chg.of_grown hg6 (fun k e => .inl e)) (fun k hk e => by have := (HB5.out k e).1; have hk : k < wc.heap.size := hk; omega)).drop a (by omega) q2 HQ3.out)
                  have hw6 : wc.heap.size ≤ w6.heap.size := by have := hg6.size; omega
                  clear ho6 hg6 d0 d1 hsz5
                  go_wp2_with (at_builtin; refine wpList_append_rs rfl _ _ 30 97 (by rfl) _ Tryz.underlying30 law13.Tryz.infoRW rfl wc.heap.size _ _ _ (acc.take a ++ [x]) (acc.drop a) (by rfl) HO6.out _ (by rfl) HX6.out (fun k hk => by have hk : k < wc.heap.size := hk; omega) (fun k e hk => by have h1 := (HB6.out k e).1; have hk : k < wc.heap.size := hk; omega) ?e1 ?e2 ?_)
                  case e1 => simp; omega
                  case e2 => exact hw6
                  intro v7 w7 ho7 hg7
                  have ho7 := ho7.mono hwb
                  have HO7 := Lib.hid ho7
                  have HG7 := Lib.hid (only_row HG6.out hg7 (fun k e => Nat.le_trans hwb (HB6.out k e).1))
                  clear ho7 hg7 hq2
                  go_wp2_with fail
                  go_roundw
                  case rel =>
                    refine ⟨i + 1, acc.take a ++ x :: acc.drop a, _, by omega, by go_num, HO7.out, ?_, ?_, ?_, HG7.out⟩
                    · simp; omega
                    · intro r hr
                      simp only [List.mem_append, List.mem_cons] at hr
                      rcases hr with hr | hr | hr
                      · exact HAF.out r (List.mem_of_mem_take hr)
                      · rw [hr]; exact FX.out
                      · exact HAF.out r (List.mem_of_mem_drop hr)
                    · rw [HIN.out, HPUT.out]; rfl
                  case measure => simp [intOf]; omega
          · have hie : i = rs.length := by omega
            subst hie
            rw [List.drop_length] at hin
            have HRR : Hid (R = (acc, 0)) := by
              show _ = _
              rw [HR2.out, hin]; rfl
            obtain ⟨ao, oc, hao⟩ := HO.out.rd.shape
            have hov := HO.out
            rw [hao] at hov
            have HRS := Lib.hid hov.rd.low
            subst hao
            clear hov hin HO
            go_wp2_with fail
            go_ret2
            rw [HRR.out]
            exact ⟨_, rfl, HRS.out, HG2.out⟩

end Go.Proofs.YtbebdaglkjhbjaaGreatDoor.tf
