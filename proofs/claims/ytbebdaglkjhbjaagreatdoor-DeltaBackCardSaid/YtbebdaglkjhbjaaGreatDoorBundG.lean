/-
  Dref, Drf2, Dsrt, Law12, Law12A
-/
import Derived.Test.YtbebdaglkjhbjaaGreatDoorBundE
import Derived.Lib.SliceRun
import Derived.Test.YtbebdaglkjhbjaaGreatDoorSlayE

/-
  The document's descriptors.
-/
namespace Go.Proofs.YtbebdaglkjhbjaaGreatDoor.dr
open Go.RowKit Go.Proofs.YtbebdaglkjhbjaaGreatDoor.vi Go.Proofs.YtbebdaglkjhbjaaGreatDoor.um Go.Proofs.YtbebdaglkjhbjaaGreatDoor.wm Go.Proofs.YtbebdaglkjhbjaaGreatDoor.tr Go.Proofs.YtbebdaglkjhbjaaGreatDoor.em Go.Proofs.YtbebdaglkjhbjaaGreatDoor.law11 Go.Proofs.YtbebdaglkjhbjaaGreatDoor.dd
set_option linter.unusedVariables false
set_option linter.unusedSimpArgs false

theorem rcount_any (n : Nat) (hn : n < 18446744073709551616) (w : World) :
    Calls Tryz.prog 110 #[.int .u64 (n : Nat)] w fun e w' => e = .returned (.int .i64 (countE n : Nat)) ∧ w = w' := by
  unfold countE
  by_cases h0 : n = 0
  · rw [if_pos h0]
    subst h0
    go_enter Tryz.func110, Tryz.ntmps110
    go_wp2_with fail
    go_ret
    exact ⟨rfl, rfl⟩
  · rw [if_neg h0]
    have h0i : ((n : Int) == 0) = false := by simpa using h0
    by_cases h1 : 16 < n
    · rw [if_pos h1]
      have h1i : (16 : Int) < (n : Int) := by omega
      go_enter Tryz.func110, Tryz.ntmps110
      go_wp2_with fail
      go_ret
      exact ⟨rfl, rfl⟩
    · rw [if_neg h1]
      have h1i : ¬ (16 : Int) < (n : Int) := by omega
      go_enter Tryz.func110, Tryz.ntmps110
      go_wp2_with fail
      go_ret
      exact ⟨rfl, rfl⟩

set_option maxHeartbeats 1000000 in
set_option maxRecDepth 100000 in
theorem rbehind_any (x y : Ent) (h1 : x.key.size ≤ 1000000) (h2 : x.value.size ≤ 1000000) (h3 : y.key.size ≤ 1000000) (h4 : y.value.size ≤ 1000000) (w : World) :
    Calls Tryz.prog 112 #[.agg #[.string x.key, .string x.value], .agg #[.string y.key, .string y.value]] w fun e w' => e = .returned (.int .i64 (behindE x y : Nat)) ∧ w.grownBy w' none := by
  have HC := Lib.hid (fun w => rcmp_any x y h1 h2 h3 h4 w)
  have G0 := Lib.hid (only_alloc (only_alloc (only_refl w none) (.cells #[.string x.key, .string x.value] 112)) (.cells #[.string y.key, .string y.value] 112))
  have V0 := Lib.hid (two_vars w 112 x y _ (only_refl _ none))
  have hk0 := beq_bytes x.key y.key
  unfold behindE
  by_cases hk : x.key = y.key
  · rw [if_pos hk]
    have hb : (x.key.toList == y.key.toList) = true := by rw [hk0]; simp [hk]
    clear hk0 hk
    go_enter Tryz.func112, Tryz.ntmps112
    obtain ⟨a0, a1, b0, b1⟩ := V0.out
    go_wp2_with fail
    go_ret
    exact ⟨rfl, G0.out⟩
  · rw [if_neg hk]
    have hb : (x.key.toList == y.key.toList) = false := by rw [hk0]; simp [hk]
    clear hk0 hk
    generalize cmpE x y = c at *
    obtain ⟨a0, a1, b0, b1⟩ := V0.out
    by_cases hc : 0 < c
    · rw [if_pos hc]
      go_enter Tryz.func112, Tryz.ntmps112
      go_wp2_with fail
      generalize (w.alloc (.cells #[.string x.key, .string x.value] 112)).alloc (.cells #[.string y.key, .string y.value] 112) = wa at *
      have HCG := Lib.hid (fun g : GW wa none => HC.out g.world)
      have hx0 : ∀ g : GW wa none, g.world.cell? ⟨w.heap.size, 0, none⟩ = some (.string x.key) := fun g => (Chg.of_none (S := fun _ => False) g.ok).cell a0 (fun e => e)
      have hx1 : ∀ g : GW wa none, g.world.cell? ⟨w.heap.size, 1, none⟩ = some (.string x.value) := fun g => (Chg.of_none (S := fun _ => False) g.ok).cell a1 (fun e => e)
      have hy0 : ∀ g : GW wa none, g.world.cell? ⟨w.heap.size + 1, 0, none⟩ = some (.string y.key) := fun g => (Chg.of_none (S := fun _ => False) g.ok).cell b0 (fun e => e)
      have hy1 : ∀ g : GW wa none, g.world.cell? ⟨w.heap.size + 1, 1, none⟩ = some (.string y.value) := fun g => (Chg.of_none (S := fun _ => False) g.ok).cell b1 (fun e => e)
      first
        | (refine (HC.out _).mono ?_; rintro e w1 ⟨rfl, g1⟩; have HW := Lib.hid g1)
        | (refine wp_region_gw wa none (by kernel_rfl) (by kernel_rfl) (only_refl _ _) ?_
           repeat (go_big_quiet_step ((go_at_call 104; exact calls_gw (HCG.out _))))
           refine wpQuiet_nil ?_
           rintro _ ⟨⟨w', hw'⟩, rfl⟩
           have HW := Lib.hid hw')
      go_wp2_with fail
      go_ret
      exact ⟨rfl, only_trans G0.out HW.out⟩
    · rw [if_neg hc]
      have hci : ¬ 0 < c := hc
      go_enter Tryz.func112, Tryz.ntmps112
      go_wp2_with fail
      generalize (w.alloc (.cells #[.string x.key, .string x.value] 112)).alloc (.cells #[.string y.key, .string y.value] 112) = wa at *
      have HCG := Lib.hid (fun g : GW wa none => HC.out g.world)
      have hx0 : ∀ g : GW wa none, g.world.cell? ⟨w.heap.size, 0, none⟩ = some (.string x.key) := fun g => (Chg.of_none (S := fun _ => False) g.ok).cell a0 (fun e => e)
      have hx1 : ∀ g : GW wa none, g.world.cell? ⟨w.heap.size, 1, none⟩ = some (.string x.value) := fun g => (Chg.of_none (S := fun _ => False) g.ok).cell a1 (fun e => e)
      have hy0 : ∀ g : GW wa none, g.world.cell? ⟨w.heap.size + 1, 0, none⟩ = some (.string y.key) := fun g => (Chg.of_none (S := fun _ => False) g.ok).cell b0 (fun e => e)
      have hy1 : ∀ g : GW wa none, g.world.cell? ⟨w.heap.size + 1, 1, none⟩ = some (.string y.value) := fun g => (Chg.of_none (S := fun _ => False) g.ok).cell b1 (fun e => e)
      first
        | (refine (HC.out _).mono ?_; rintro e w1 ⟨rfl, g1⟩; have HW := Lib.hid g1)
        | (refine wp_region_gw wa none (by kernel_rfl) (by kernel_rfl) (only_refl _ _) ?_
           repeat (go_big_quiet_step ((go_at_call 104; exact calls_gw (HCG.out _))))
           refine wpQuiet_nil ?_
           rintro _ ⟨⟨w', hw'⟩, rfl⟩
           have HW := Lib.hid hw')
      go_wp2_with fail
      go_ret
      exact ⟨rfl, only_trans G0.out HW.out⟩

set_option maxHeartbeats 2000000 in
set_option maxRecDepth 100000 in
theorem rcheckD_any (xs : List Ent) (B : Nat) (w : World) (v : Value) (hl : xs.length ≤ 1000) (hz : ∀ x ∈ xs, x.key.size ≤ 1000000 ∧ x.value.size ≤ 1000000) (h : Es B w v xs) :
    Calls Tryz.prog 102 #[v] w fun e w' => e = .returned (.int .i64 (checkD xs : Nat)) ∧ w.grownBy w' none := by
  have HC := Lib.hid (fun w => rcount_any xs.length (by omega) w)
  have HE := Lib.hid h.low
  have hmod : (xs.length : Int) % 18446744073709551616 = xs.length := by omega
  obtain ⟨a, cap, rfl⟩ := h.shape
  clear h
  go_enter Tryz.func102, Tryz.ntmps102
  go_wp2_with fail
  refine (HC.out _).mono ?_
  rintro e w0 ⟨rfl, rfl⟩
  go_wp2_with fail
  have HZ := Lib.hid hz
  have hclt := countE_lt xs.length
  clear hz
  go_loopw [3, 4] (fun ve q wr => ∃ (E i : Nat), E < 64 ∧ i ≤ xs.length ∧ ve = .int .i64 E ∧ q = .int .i64 i ∧ w.grownBy wr none ∧ checkD xs = (if E ≠ 0 then E else walkE ((xs.take i).getLast?) (xs.drop i))) (fun _ q _ => xs.length - (intOf q).toNat)
  case atStart => exact ⟨countE xs.length, 0, hclt, Nat.zero_le _, rfl, rfl, only_refl _ _, by simp [checkD]⟩
  case round =>
    obtain ⟨E, i, hE, hi, rfl, rfl, hg, hw⟩ := hrel
    have HG := Lib.hid hg
    have HW := Lib.hid hw
    clear hg hw
    by_cases hlt : i < xs.length
    · by_cases h0 : E = 0
      · subst h0
        have HW := Lib.hid (HW.out.trans (if_neg (by simp)))
        obtain ⟨x, hx⟩ : ∃ x, xs[i]? = some x := ⟨xs[i], List.getElem?_eq_getElem hlt⟩
        have HEi := Lib.hid (HE.out.grown HG.out)
        obtain ⟨b, off, cap', hv, hb, hle, hcm, c0, c1⟩ := HEi.out.at hx
        simp only [Value.slice.injEq, true_and] at hv
        obtain ⟨rfl, rfl⟩ := hv
        unfold maxLen at hcm
        have hsz := HZ.out x (List.mem_of_getElem? hx)
        have HWN := Lib.hid (HW.out.trans (walk_next _ hx))
        have HCK := Lib.hid (fun w => rcheckE_any x hsz.1 hsz.2 w)
        have h1lt := checkE_lt x
        have HLX := Lib.hid (last_snoc hx)
        clear hx HW
        by_cases h1 : checkE x = 0
        · rw [h1] at HCK HWN
          have HWN := Lib.hid (HWN.out.trans (if_neg (by simp)))
          clear h1lt h1
          by_cases h2 : i = 0
          · subst h2
            have HWN := Lib.hid (HWN.out.trans (if_neg (by simp [behindO])))
            simp only [Nat.zero_mul, Nat.add_zero] at c0 c1
            clear hsz
            go_wp2_with fail
            refine (HCK.out _).mono ?_
            rintro e w1 ⟨rfl, g1⟩
            have G1 := Lib.hid (only_trans HG.out g1)
            clear g1
            go_wp2_with fail
            go_roundw
            case rel => exact ⟨0, 1, by omega, by omega, rfl, by go_num, G1.out, by rw [HWN.out]; simp⟩
            case measure => simp [intOf]; omega
          · obtain ⟨j, rfl⟩ : ∃ j, i = j + 1 := ⟨i - 1, by omega⟩
            obtain ⟨y, hy⟩ : ∃ y, xs[j]? = some y := ⟨xs[j]'(by omega), List.getElem?_eq_getElem (by omega)⟩
            have hsy := HZ.out y (List.mem_of_getElem? hy)
            have HLY := Lib.hid (last_snoc hy)
            obtain ⟨b2, off2, cap2, hv2, -, -, -, e0, e1⟩ := HEi.out.at hy
            simp only [Value.slice.injEq, Option.some.injEq, Addr.mk.injEq, and_true, true_and] at hv2
            obtain ⟨⟨rfl, rfl⟩, rfl⟩ := hv2
            rw [HLY.out] at HWN
            have HBH := Lib.hid (fun w => rbehind_any y x hsy.1 hsy.2 hsz.1 hsz.2 w)
            have hbl := behindE_lt y x
            have HWN2 : Hid (checkD xs = (if behindE y x ≠ 0 then behindE y x else walkE ((xs.take (j + 1 + 1)).getLast?) (xs.drop (j + 1 + 1)))) := HWN.out
            clear hy hsy hsz HWN h2
            generalize behindE y x = q at *
            go_wp2_with fail
            refine (HCK.out _).mono ?_
            rintro e w1 ⟨rfl, g1⟩
            have G1 := Lib.hid (only_trans HG.out g1)
            have HBG := Lib.hid (fun g : GW w1 none => HBH.out g.world)
            have k1 := Chg.of_none (S := fun _ => False) g1
            have hx0 : ∀ g : GW w1 none, g.world.cell? ⟨b, off + (j + 1) * 2, none⟩ = some (.string x.key) := fun g => (Chg.of_none (S := fun _ => False) g.ok).cell (k1.cell c0 (fun e => e)) (fun e => e)
            have hx1 : ∀ g : GW w1 none, g.world.cell? ⟨b, off + (j + 1) * 2 + 1, none⟩ = some (.string x.value) := fun g => (Chg.of_none (S := fun _ => False) g.ok).cell (k1.cell c1 (fun e => e)) (fun e => e)
            have hy0 : ∀ g : GW w1 none, g.world.cell? ⟨b, off + j * 2, none⟩ = some (.string y.key) := fun g => (Chg.of_none (S := fun _ => False) g.ok).cell (k1.cell e0 (fun e => e)) (fun e => e)
            have hy1 : ∀ g : GW w1 none, g.world.cell? ⟨b, off + j * 2 + 1, none⟩ = some (.string y.value) := fun g => (Chg.of_none (S := fun _ => False) g.ok).cell (k1.cell e1 (fun e => e)) (fun e => e)
            clear g1 c0 c1 e0 e1 k1
            go_wp2_with fail
            refine wp_region_gw w1 none (by kernel_rfl) (by kernel_rfl) (only_refl _ _) ?_
            repeat (go_big_quiet_step ((go_at_call 112; exact calls_gw (HBG.out _))))
            refine wpQuiet_nil ?_
            rintro _ ⟨⟨w', hw'⟩, rfl⟩
            have HW' := Lib.hid hw'
            clear hw'
            go_wp2_with fail
            go_roundw
            case rel => exact ⟨q, j + 1 + 1, hbl, by omega, rfl, by go_num, only_trans G1.out HW'.out, HWN2.out⟩
            case measure => simp [intOf]; omega
        · have HWN := Lib.hid (HWN.out.trans (if_pos h1))
          have HQ := Lib.hid h1
          generalize checkE x = q at *
          have hqb : ((q : Int) == 0) = false := by simpa using h1
          clear h1 hsz
          go_wp2_with fail
          refine (HCK.out _).mono ?_
          rintro e w1 ⟨rfl, g1⟩
          have G1 := Lib.hid (only_trans HG.out g1)
          clear g1
          go_wp2_with fail
          go_roundw
          case rel => exact ⟨q, i + 1, h1lt, by omega, rfl, by go_num, G1.out, by rw [HWN.out, if_pos HQ.out]⟩
          case measure => simp [intOf]; omega
      · have HW := Lib.hid (HW.out.trans (if_pos h0))
        have h0b : ((E : Int) == 0) = false := by simpa using h0
        have hci : (i : Int) < (xs.length : Int) := by omega
        clear h0
        go_wp2_with fail
        go_ret
        rw [HW.out]
        exact ⟨rfl, HG.out⟩
    · have hie : i = xs.length := by omega
      subst hie
      rw [List.drop_length] at HW
      have HW : Hid (checkD xs = E) := by
        show _ = _
        rw [HW.out]
        by_cases h0 : E = 0
        · rw [if_neg (by simp [h0])]; simp [walkE, h0]
        · rw [if_pos h0]
      go_wp2_with fail
      go_ret
      rw [HW.out]
      exact ⟨rfl, HG.out⟩

set_option maxHeartbeats 2000000 in
set_option maxRecDepth 100000 in
theorem rkeyD_any (xs : List Ent) (B : Nat) (w : World) (v : Value) (hl : xs.length ≤ 1000) (hz : ∀ x ∈ xs, x.key.size ≤ 1000 ∧ x.value.size ≤ 1000) (hk : (keyD xs).length ≤ 1000000) (h : Es B w v xs) :
    Calls Tryz.prog 77 #[v] w fun e w' => e = .returned (.string (txt (keyD xs))) ∧ w.grownBy w' none := by
  have HP := Lib.hid (fun w => rput_any xs.length (by omega) w)
  have HE := Lib.hid h.low
  have hmod : (xs.length : Int) % 18446744073709551616 = xs.length := by omega
  obtain ⟨a, cap, rfl⟩ := h.shape
  clear h
  go_enter Tryz.func77, Tryz.ntmps77
  go_wp2_with fail
  refine (HP.out _).mono ?_
  rintro e w0 ⟨rfl, g0⟩
  go_wp2_with fail
  have HZ := Lib.hid hz
  have HG0 := Lib.hid g0
  have hkl : (enc xs.length).length + ((xs.map putE).flatten).length ≤ 1000000 := by unfold keyD at hk; rw [List.length_append] at hk; exact hk
  have HKD : Hid (txt (keyD xs) = encB xs.length ++ txt ((xs.map putE).flatten)) := by
    show _ = _
    apply ByteArray.ext
    simp [keyD, txt, encB_txt]
  have hn : (encB xs.length).size = (enc xs.length).length := by rw [encB_txt, txt_size]
  clear hz g0 hk
  go_loopw [3, 12] (fun vs q wr => ∃ i : Nat, i ≤ xs.length ∧ q = .int .i64 i ∧ vs = .string (encB xs.length ++ txt (((xs.take i).map putE).flatten)) ∧ w.grownBy wr none) (fun _ q _ => xs.length - (intOf q).toNat)
  case atStart => exact ⟨0, Nat.zero_le _, rfl, congrArg Value.string (by apply ByteArray.ext; simp [txt]), HG0.out⟩
  case round =>
    obtain ⟨i, hi, rfl, rfl, hg⟩ := hrel
    have HG := Lib.hid hg
    clear hg
    by_cases hlt : i < xs.length
    · obtain ⟨x, hx⟩ : ∃ x, xs[i]? = some x := ⟨xs[i], List.getElem?_eq_getElem hlt⟩
      obtain ⟨b, off, cap', hv, hb, hle, hcm, c0, c1⟩ := (HE.out.grown HG.out).at hx
      simp only [Value.slice.injEq, true_and] at hv
      obtain ⟨rfl, rfl⟩ := hv
      unfold maxLen at hcm
      have hsz := HZ.out x (List.mem_of_getElem? hx)
      have htk := keyD_take hx
      have hpl : ((xs.take i).map putE).flatten.length + (putE x).length ≤ ((xs.map putE).flatten).length := by
        rw [← List.length_append, ← htk]
        have := congrArg List.length (show (xs.map putE).flatten = ((xs.take (i + 1)).map putE).flatten ++ ((xs.drop (i + 1)).map putE).flatten by rw [← List.flatten_append, ← List.map_append, List.take_append_drop])
        rw [List.length_append] at this
        omega
      have HNX : Hid (encB xs.length ++ txt (((xs.take i).map putE).flatten) ++ txt (putE x) = encB xs.length ++ txt (((xs.take (i + 1)).map putE).flatten)) := by
        show _ = _
        rw [htk]
        apply ByteArray.ext
        simp [txt]
      have hs1 : (encB xs.length ++ txt (((xs.take i).map putE).flatten)).size ≤ 1000000 := by rw [ByteArray.size_append, hn, txt_size]; omega
      have hs2 : (txt (putE x)).size ≤ 1000000 := by rw [txt_size]; omega
      have G1 := Lib.hid (only_trans HG.out (only_alloc (only_refl wr none) (.cells #[.string x.key, .string x.value] 112)))
      have HPX := Lib.hid (fun w => rputE_any x (by omega) (by omega) w)
      clear hx hsz htk hpl
      generalize encB xs.length ++ txt (((xs.take i).map putE).flatten) = A at *
      generalize txt (putE x) = D at *
      go_wp2_with fail
      refine (HPX.out _).mono ?_
      rintro e w3 ⟨rfl, g3⟩
      have HG3 := Lib.hid (only_trans G1.out g3)
      clear g3
      go_wp2_with fail
      go_roundw
      case rel => exact ⟨i + 1, by omega, by go_num, congrArg Value.string HNX.out, HG3.out⟩
      case measure => simp [intOf]; omega
    · have hie : i = xs.length := by omega
      subst hie
      rw [List.take_length]
      rw [← HKD.out]
      go_wp2_with fail
      go_ret
      exact ⟨rfl, HG.out⟩

set_option maxRecDepth 100000 in
theorem rless12_any (a b : ByteArray) (h1 : a.size ≤ 1000000) (h2 : b.size ≤ 1000000) (w : World) :
    Calls Tryz.prog 78 #[.string a, .string b] w fun e w' => e = .returned (.bool (decide (cmpB a b < 0))) ∧ w.grownBy w' none := by
  have HC := Lib.hid (fun w => rcmp_any ⟨a, ByteArray.empty⟩ ⟨b, ByteArray.empty⟩ h1 (by simp) h2 (by simp) w)
  have HR : Hid (decide (cmpE ⟨a, ByteArray.empty⟩ ⟨b, ByteArray.empty⟩ < 0) = decide (cmpB a b < 0)) := by
    show _ = _
    unfold cmpE
    by_cases h : a = b
    · subst h
      simp [(cmpB_zero a a).2 rfl, (cmpB_zero ByteArray.empty ByteArray.empty).2 rfl]
    · simp [h]
  rw [← HR.out]
  generalize cmpE ⟨a, ByteArray.empty⟩ ⟨b, ByteArray.empty⟩ = c at *
  go_enter Tryz.func78, Tryz.ntmps78
  go_wp2_with fail
  refine (HC.out _).mono ?_
  rintro e w0 ⟨rfl, g0⟩
  go_wp2_with fail
  go_ret
  exact ⟨rfl, g0⟩

theorem Tryz.infoRE : (Tryz.prog.info? 112).map (fun i => (i.zero, i.size, i.bytes)) = some (some (.agg #[.string ⟨#[]⟩, .string ⟨#[]⟩]), 2, 32) := by kernel_rfl
theorem nextE_le (L : List UInt8) : (nextE L).2.1.length ≤ L.length := by
  have h1 := tw_le L
  have h2 := tw_le (textW L).2.1
  unfold nextE
  split
  · simp
  · split
    · simp
    · split
      · simp
      · show (textW (textW L).2.1).2.1.length ≤ _; omega
theorem nextE_small {L : List UInt8} : (nextE L).1.key.size ≤ 64 ∧ (nextE L).1.value.size ≤ 256 := by
  by_cases h : (nextE L).2.2 = 0
  · have := checkE_small (nextE_ok h).2
    exact ⟨this.2.1, this.2.2⟩
  · rw [(nextE_err h).1]
    simp [zeroE]

set_option maxHeartbeats 4000000 in
set_option maxRecDepth 100000 in
theorem rnextD_any (s : ByteArray) (hs : s.size ≤ 1000000) (w : World) :
    Calls Tryz.prog 86 #[.string s] w fun e w' => ∃ v, e = .returned (.tuple #[v, .string (txt (nextD s.data.toList).2.1), .int .i64 ((nextD s.data.toList).2.2 : Nat)]) ∧ OwnE 112 w.heap.size w' v (nextD s.data.toList).1 ∧ w.grownBy w' none := by
  have HG := Lib.hid (rget_any s (by unfold maxLen; omega) w)
  have hb := getR_bounds s.data.toList
  have hl : s.data.toList.length = s.size := by simp
  have HX : Hid (nextD s.data.toList = if (getR s.data.toList).2.2 ≠ 0 then ([], [], (getR s.data.toList).2.2) else if countE (getR s.data.toList).1 ≠ 0 then ([], [], countE (getR s.data.toList).1) else readE (getR s.data.toList).1 none (s.data.toList.drop (getR s.data.toList).2.1)) := rfl
  generalize nextD s.data.toList = R at *
  generalize getR s.data.toList = r at *
  obtain ⟨x, m, E⟩ := r
  unfold getV at HG
  simp only at hb HG HX
  rw [hl] at hb
  obtain ⟨hx, hm, -, hE, -⟩ := hb
  have HC := Lib.hid (fun w => rcount_any x hx w)
  have hclt := countE_lt x
  clear hl
  by_cases h0 : E = 0
  · subst h0
    by_cases h1 : countE x = 0
    · rw [h1] at HC
      have HX := Lib.hid (HX.out.trans ((if_neg (by simp)).trans (if_neg (by simp [h1]))))
      have hx16 : x ≤ 16 ∧ 1 ≤ x := by unfold countE at h1; split at h1 <;> (try split at h1) <;> omega
      have HX := Lib.hid (HX.out.trans (glueE_nil _ (readE_err x none (s.data.toList.drop m))))
      have HEX := Lib.hid (show (s.extract m s.size).data.toList = s.data.toList.drop m from bytes_drop s m)
      have hes : (s.extract m s.size).size ≤ 1000000 := by simp; omega
      clear h1 hclt
      go_enter Tryz.func86, Tryz.ntmps86
      go_wp2_with fail
      refine HG.out.mono ?_
      rintro e w1 ⟨rfl, rfl⟩
      go_wp2_with fail
      refine (HC.out _).mono ?_
      rintro e w0 ⟨rfl, rfl⟩
      go_wp2_with fail
      generalize s.extract m s.size = s0 at *
      go_loopw [8, 0, 9] (fun v vs q wr => ∃ (acc : List Ent) (cu : ByteArray), acc.length ≤ x ∧ vs = .string cu ∧ q = .int .u64 acc.length ∧ cu.size ≤ 1000000 ∧ (∀ y ∈ acc, y.key.size ≤ 64 ∧ y.value.size ≤ 256) ∧ OwnE 112 w.heap.size wr v acc ∧ w.grownBy wr none ∧ R = glueE acc (readE (x - acc.length) acc.getLast? cu.data.toList)) (fun _ _ q _ => x - (intOf q).toNat)
      case atStart => exact ⟨[], s0, Nat.zero_le _, rfl, rfl, hes, by simp, OwnE.nil _ _ _, only_refl _ _, by rw [HX.out, HEX.out]; rfl⟩
      case round =>
        obtain ⟨acc, cu, hi, rfl, rfl, hcs, hsm, ho, hg, hr⟩ := hrel
        have HO := Lib.hid ho
        have HGr := Lib.hid hg
        have HR := Lib.hid hr
        have HSM := Lib.hid hsm
        clear ho hg hr hsm
        by_cases hlt : acc.length < x
        · obtain ⟨n, hn⟩ : ∃ n, x - acc.length = n + 1 := ⟨x - acc.length - 1, by omega⟩
          have HNX := Lib.hid (rnextE_any cu hcs wr)
          have HST := Lib.hid (HR.out.trans ((congrArg (fun z => glueE acc (readE z acc.getLast? cu.data.toList)) hn).trans (glueE_step acc n acc.getLast? cu.data.toList)))
          have hlt64 := nextE_lt cu.data.toList
          have hsm2 := @nextE_small cu.data.toList
          have hle := nextE_le cu.data.toList
          have hcl : cu.data.toList.length = cu.size := by simp
          rw [hcl] at hle
          clear HR HX hcl
          generalize nextE cu.data.toList = Y at *
          obtain ⟨y, L', q⟩ := Y
          simp only at HNX HST hlt64 hsm2 hle
          have HTL := Lib.hid (txt_list L')
          have hts : (txt L').size ≤ 1000000 := by rw [txt_size]; omega
          by_cases h1 : q = 0
          · subst h1
            have HST := Lib.hid (HST.out.trans (if_neg (by simp)))
            obtain ⟨va, vc, hv⟩ := HO.out.es.shape
            have HOV := HO.out
            rw [hv] at HOV
            have HO2 := Lib.hid HOV
            subst hv
            have hvb := HOV.lt
            clear HOV HO
            have GA := fun w3 (g3 : wr.grownBy w3 none) => only_trans g3 (only_alloc (only_refl w3 none) (.cells #[.string y.key, .string y.value] 112))
            by_cases h2 : acc.length = 0
            · have h2 : acc = [] := List.length_eq_zero_iff.1 h2
              subst h2
              have HST := Lib.hid (HST.out.trans (if_neg (by simp [behindO])))
              go_wp2_with fail
              refine HNX.out.mono ?_
              rintro e w3 ⟨rfl, g3⟩
              have HO4 := Lib.hid (HO2.out.grown (GA w3 g3))
              have HG4 := Lib.hid (only_trans HGr.out (GA w3 g3))
              have V4 := Lib.hid (EntV.new w3 112 y)
              have hw3 : w.heap.size ≤ w3.heap.size := Nat.le_trans HGr.out.size g3.size
              clear g3 GA
              have GB := only_alloc (only_refl (w3.alloc (.cells #[.string y.key, .string y.value] 112)) none) (.cells #[.string y.key, .string y.value] 112)
              have HO5 := Lib.hid (HO4.out.grown GB)
              have HG5 := Lib.hid (only_trans HG4.out GB)
              have hone := es_one (w3.alloc (.cells #[.string y.key, .string y.value] 112)) y 112
              rw [show (w3.alloc (.cells #[.string y.key, .string y.value] 112)).heap.size = w3.heap.size + 1 by simp] at hone
              have HONE := Lib.hid hone
              clear GB hone
              obtain ⟨d0, d1⟩ := V4.out
              go_wp2_with (at_builtin; refine wpList_append_es rfl _ _ 94 112 rfl _ Tryz.underlying94 Tryz.infoRE rfl w.heap.size _ _ [] [y] rfl HO5.out _ rfl HONE.out ?c1 ?c2 ?_)
              case c1 => simp
              case c2 => simp; omega
              intro v6 w6 ho6 hg6 _
              have HO6 := Lib.hid ho6
              have HG6 := Lib.hid (only_row HG5.out hg6 (fun k e => (hvb k e).1))
              clear ho6 hg6
              go_wp2_with fail
              go_roundw
              case rel => exact ⟨[] ++ [y], txt L', by simp; omega, rfl, by go_num, hts, by simpa using hsm2, HO6.out, HG6.out, by rw [HST.out, HTL.out, show x - ([] ++ [y] : List Ent).length = n by simp at hn ⊢; omega]; simp⟩
              case measure => simp [intOf]; omega
            · obtain ⟨j, hj⟩ : ∃ j, acc.length = j + 1 := ⟨acc.length - 1, by omega⟩
              obtain ⟨z, hz⟩ : ∃ z, acc[j]? = some z := ⟨acc[j]'(by omega), List.getElem?_eq_getElem (by omega)⟩
              have HLZ : Hid (acc.getLast? = some z) := by
                show _ = _
                rw [List.getLast?_eq_getElem?, hj]
                exact hz
              have hzs := HSM.out z (List.mem_of_getElem? hz)
              rw [HLZ.out] at HST
              have HST : Hid (R = (if behindE z y ≠ 0 then ([], [], behindE z y) else glueE (acc ++ [y]) (readE n (some y) L'))) := HST.out
              have HBH := Lib.hid (fun w => rbehind_any z y (by omega) (by omega) (by omega) (by omega) w)
              have hbl := behindE_lt z y
              have HZA := Lib.hid (fun w' (g : wr.grownBy w' none) => (HO2.out.es.grown g).at hz)
              have hidx : ((acc.length : Int) - 1) = (j : Int) := by omega
              have HSN : Hid (∀ u ∈ acc ++ [y], u.key.size ≤ 64 ∧ u.value.size ≤ 256) := by
                intro u hu
                rcases List.mem_append.1 hu with hu | hu
                · exact HSM.out u hu
                · obtain rfl : u = y := by simpa using hu
                  exact hsm2
              have hjl : j < acc.length := by omega
              have HJ := Lib.hid hj
              have hpos : ¬ acc.length = 0 := h2
              clear hz hzs hj h2
              by_cases h3 : behindE z y = 0
              · have HST := Lib.hid (HST.out.trans (if_neg (by simp [h3])))
                rw [h3] at HBH
                clear h3 hbl
                go_wp2_with fail
                refine HNX.out.mono ?_
                rintro e w3 ⟨rfl, g3⟩
                have HO4 := Lib.hid (HO2.out.grown (GA w3 g3))
                have HG4 := Lib.hid (only_trans HGr.out (GA w3 g3))
                have V4 := Lib.hid (EntV.new w3 112 y)
                obtain ⟨zb, zo, zc, hzv, -, hz1, hz2, e0, e1⟩ := HZA.out _ (GA w3 g3)
                simp only [Value.slice.injEq, true_and] at hzv
                obtain ⟨rfl, rfl⟩ := hzv
                have hw3 : w.heap.size ≤ w3.heap.size := Nat.le_trans HGr.out.size g3.size
                unfold maxLen at hz2
                clear g3 GA
                obtain ⟨d0, d1⟩ := V4.out
                go_wp2_with fail
                generalize hwa : w3.alloc (.cells #[.string y.key, .string y.value] 112) = wa at *
                have HBG := Lib.hid (fun g : GW wa none => HBH.out g.world)
                have hx0 : ∀ g : GW wa none, g.world.cell? ⟨w3.heap.size, 0, none⟩ = some (.string y.key) := fun g => (V4.out.grown g.ok).1
                have hx1 : ∀ g : GW wa none, g.world.cell? ⟨w3.heap.size, 1, none⟩ = some (.string y.value) := fun g => (V4.out.grown g.ok).2
                have hz0 : ∀ g : GW wa none, g.world.cell? ⟨zb, zo + j * 2, none⟩ = some (.string z.key) := fun g => (Chg.of_none (S := fun _ => False) g.ok).cell e0 (fun e => e)
                have hz1 : ∀ g : GW wa none, g.world.cell? ⟨zb, zo + j * 2 + 1, none⟩ = some (.string z.value) := fun g => (Chg.of_none (S := fun _ => False) g.ok).cell e1 (fun e => e)
                clear e0 e1 d0 d1
                refine wp_region_gw wa none (by kernel_rfl) (by kernel_rfl) (only_refl _ _) ?_
                repeat (go_big_quiet_step ((go_at_call 112; exact calls_gw (HBG.out _))))
                refine wpQuiet_nil ?_
                rintro wb ⟨⟨_, hwb⟩, rfl⟩
                have HO6 := Lib.hid (HO4.out.grown hwb)
                have HG6 := Lib.hid (only_trans HG4.out hwb)
                obtain ⟨d0, d1⟩ := V4.out.grown hwb
                clear hwb
                have GB := only_alloc (only_refl wb none) (.cells #[.string y.key, .string y.value] 112)
                have HO7 := Lib.hid (HO6.out.grown GB)
                have HG7 := Lib.hid (only_trans HG6.out GB)
                have HONE := Lib.hid (es_one wb y 112)
                have hwz : w.heap.size ≤ wb.heap.size := HG6.out.size
                clear GB
                go_wp2_with (at_builtin; refine wpList_append_es rfl _ _ 94 112 rfl _ Tryz.underlying94 Tryz.infoRE rfl w.heap.size _ _ acc [y] rfl HO7.out _ rfl HONE.out ?c1 ?c2 ?_)
                case c1 => simp; omega
                case c2 => simp; omega
                intro v6 w6 ho6 hg6 _
                have HO8 := Lib.hid ho6
                have HG8 := Lib.hid (only_row HG7.out hg6 (fun k e => (hvb k e).1))
                clear ho6 hg6
                go_wp2_with fail
                go_roundw
                case rel => exact ⟨acc ++ [y], txt L', by simp; omega, rfl, by rw [List.length_append]; go_num, hts, HSN.out, HO8.out, HG8.out, by rw [HST.out, HTL.out, show x - (acc ++ [y]).length = n by simp; omega]; simp⟩
                case measure => simp [intOf]; omega
              · have HST := Lib.hid (HST.out.trans (if_pos h3))
                have HQ := Lib.hid h3
                generalize behindE z y = q at *
                have hqb : ((q : Int) != 0) = true := by rw [bne_iff_ne]; omega
                clear h3 hbl
                go_wp2_with fail
                refine HNX.out.mono ?_
                rintro e w3 ⟨rfl, g3⟩
                have HO4 := Lib.hid (HO2.out.grown (GA w3 g3))
                have HG4 := Lib.hid (only_trans HGr.out (GA w3 g3))
                have V4 := Lib.hid (EntV.new w3 112 y)
                obtain ⟨zb, zo, zc, hzv, -, hz1, hz2, e0, e1⟩ := HZA.out _ (GA w3 g3)
                simp only [Value.slice.injEq, true_and] at hzv
                obtain ⟨rfl, rfl⟩ := hzv
                have hw3 : w.heap.size ≤ w3.heap.size := Nat.le_trans HGr.out.size g3.size
                unfold maxLen at hz2
                clear g3 GA
                obtain ⟨d0, d1⟩ := V4.out
                go_wp2_with fail
                generalize hwa : w3.alloc (.cells #[.string y.key, .string y.value] 112) = wa at *
                have HBG := Lib.hid (fun g : GW wa none => HBH.out g.world)
                have hx0 : ∀ g : GW wa none, g.world.cell? ⟨w3.heap.size, 0, none⟩ = some (.string y.key) := fun g => (V4.out.grown g.ok).1
                have hx1 : ∀ g : GW wa none, g.world.cell? ⟨w3.heap.size, 1, none⟩ = some (.string y.value) := fun g => (V4.out.grown g.ok).2
                have hz0 : ∀ g : GW wa none, g.world.cell? ⟨zb, zo + j * 2, none⟩ = some (.string z.key) := fun g => (Chg.of_none (S := fun _ => False) g.ok).cell e0 (fun e => e)
                have hz1 : ∀ g : GW wa none, g.world.cell? ⟨zb, zo + j * 2 + 1, none⟩ = some (.string z.value) := fun g => (Chg.of_none (S := fun _ => False) g.ok).cell e1 (fun e => e)
                clear e0 e1 d0 d1
                refine wp_region_gw wa none (by kernel_rfl) (by kernel_rfl) (only_refl _ _) ?_
                repeat (go_big_quiet_step ((go_at_call 112; exact calls_gw (HBG.out _))))
                refine wpQuiet_nil ?_
                rintro wb ⟨⟨_, hwb⟩, rfl⟩
                have HO6 := Lib.hid (HO4.out.grown hwb)
                have HG6 := Lib.hid (only_trans HG4.out hwb)
                obtain ⟨d0, d1⟩ := V4.out.grown hwb
                clear hwb
                go_wp2_with fail
                go_ret3
                rw [HST.out]
                exact ⟨_, rfl, OwnE.nil _ _ _, HG6.out⟩
          · have HST := Lib.hid (HST.out.trans (if_pos h1))
            have hqb : ((q : Int) != 0) = true := by rw [bne_iff_ne]; omega
            have hqc : ((q : Int) == 0) = false := by simpa using h1
            clear h1
            go_wp2_with fail
            refine HNX.out.mono ?_
            rintro e w3 ⟨rfl, g3⟩
            have HG3 := Lib.hid (only_alloc (only_trans HGr.out g3) (.cells #[.string y.key, .string y.value] 112))
            clear g3
            go_wp2_with fail
            go_ret3
            rw [HST.out]
            exact ⟨_, rfl, OwnE.nil _ _ _, HG3.out⟩
        · have hie : x - acc.length = 0 := by omega
          rw [hie, glueE_zero] at HR
          have HCU : Hid (txt cu.data.toList = cu) := by
            show _ = _
            apply bytes_inj
            rw [txt_list]
          go_wp2_with fail
          go_ret3
          rw [HR.out]
          exact ⟨_, ret3 rfl (congrArg Value.string HCU.out.symm) rfl, HO.out, HGr.out⟩
    · have HX := Lib.hid (HX.out.trans ((if_neg (by simp)).trans (if_pos h1)))
      generalize countE x = q at *
      have hqb : ((q : Int) != 0) = true := by rw [bne_iff_ne]; omega
      clear h1
      go_enter Tryz.func86, Tryz.ntmps86
      go_wp2_with fail
      refine HG.out.mono ?_
      rintro e w1 ⟨rfl, rfl⟩
      go_wp2_with fail
      refine (HC.out _).mono ?_
      rintro e w0 ⟨rfl, rfl⟩
      go_wp2_with fail
      go_ret3
      rw [HX.out]
      exact ⟨_, rfl, OwnE.nil _ _ _, only_refl _ _⟩
  · have HX := Lib.hid (HX.out.trans (if_pos h0))
    have hqb : ((E : Int) != 0) = true := by rw [bne_iff_ne]; omega
    have hqc : ((E : Int) == 0) = false := by simpa using h0
    clear h0
    go_enter Tryz.func86, Tryz.ntmps86
    go_wp2_with fail
    refine HG.out.mono ?_
    rintro e w1 ⟨rfl, rfl⟩
    go_wp2_with fail
    go_ret3
    rw [HX.out]
    exact ⟨_, rfl, OwnE.nil _ _ _, only_refl _ _⟩

end Go.Proofs.YtbebdaglkjhbjaaGreatDoor.dr

/-
  The document's descriptors: Parse, Of.
-/
namespace Go.Proofs.YtbebdaglkjhbjaaGreatDoor.dr
open Go.RowKit Go.Proofs.YtbebdaglkjhbjaaGreatDoor.vi Go.Proofs.YtbebdaglkjhbjaaGreatDoor.um Go.Proofs.YtbebdaglkjhbjaaGreatDoor.wm Go.Proofs.YtbebdaglkjhbjaaGreatDoor.tr Go.Proofs.YtbebdaglkjhbjaaGreatDoor.em Go.Proofs.YtbebdaglkjhbjaaGreatDoor.law11 Go.Proofs.YtbebdaglkjhbjaaGreatDoor.dd
set_option linter.unusedVariables false
set_option linter.unusedSimpArgs false

set_option maxHeartbeats 1000000 in
set_option maxRecDepth 100000 in
theorem rparseD_any (s : ByteArray) (hs : s.size ≤ 1000000) (w : World) :
    Calls Tryz.prog 54 #[.string s] w fun e w' => ∃ v, e = .returned (.tuple #[v, .int .i64 ((parseD s.data.toList).2 : Nat)]) ∧ OwnE 112 w.heap.size w' v (parseD s.data.toList).1 ∧ w.grownBy w' none := by
  have HN := Lib.hid (rnextD_any s hs w)
  have HP : Hid (parseD s.data.toList = if (nextD s.data.toList).2.2 ≠ 0 then ([], (nextD s.data.toList).2.2) else if (nextD s.data.toList).2.1 ≠ [] then ([], 10) else ((nextD s.data.toList).1, 0)) := rfl
  generalize parseD s.data.toList = PP at *
  generalize nextD s.data.toList = R at *
  obtain ⟨l, rest, q⟩ := R
  simp only at HN HP
  by_cases h1 : q = 0
  · subst h1
    have HP := Lib.hid (HP.out.trans (if_neg (by simp)))
    by_cases h2 : rest = []
    · have HP := Lib.hid (HP.out.trans (if_neg (by simp [h2])))
      have he : (txt rest).toList.isEmpty = true := by subst h2; rw [ByteArray.toList_eq, txt_list]; rfl
      clear h2
      generalize txt rest = T at *
      go_enter Tryz.func54, Tryz.ntmps54
      go_wp2_with fail
      refine HN.out.mono ?_
      rintro e w1 ⟨v, rfl, o1, g1⟩
      have O1 := Lib.hid o1
      have G1 := Lib.hid g1
      obtain ⟨va, vc, rfl⟩ := o1.es.shape
      clear o1 g1
      go_wp2_with fail
      go_ret2
      rw [HP.out]
      exact ⟨_, rfl, O1.out, G1.out⟩
    · have HP := Lib.hid (HP.out.trans (if_pos h2))
      have he : (txt rest).toList.isEmpty = false := by
        rw [ByteArray.toList_eq, txt_list]
        simpa using h2
      clear h2
      generalize txt rest = T at *
      go_enter Tryz.func54, Tryz.ntmps54
      go_wp2_with fail
      refine HN.out.mono ?_
      rintro e w1 ⟨v, rfl, o1, g1⟩
      have G1 := Lib.hid g1
      obtain ⟨va, vc, rfl⟩ := o1.es.shape
      clear o1 g1
      go_wp2_with fail
      go_ret2
      rw [HP.out]
      exact ⟨_, rfl, OwnE.nil _ _ _, G1.out⟩
  · have HP := Lib.hid (HP.out.trans (if_pos h1))
    have hqb : ((q : Int) != 0) = true := by rw [bne_iff_ne]; omega
    clear h1
    go_enter Tryz.func54, Tryz.ntmps54
    go_wp2_with fail
    refine HN.out.mono ?_
    rintro e w1 ⟨v, rfl, o1, g1⟩
    have G1 := Lib.hid g1
    obtain ⟨va, vc, rfl⟩ := o1.es.shape
    clear o1 g1
    go_wp2_with fail
    go_ret2
    rw [HP.out]
    exact ⟨_, rfl, OwnE.nil _ _ _, G1.out⟩

/-! Of: put in one by one -/
def placeE (x : Ent) : List Ent → Nat
  | [] => 0
  | t :: r => if cmpE t x < 0 then placeE x r + 1 else 0
theorem placeE_le (x : Ent) : ∀ l : List Ent, placeE x l ≤ l.length
  | [] => Nat.le_refl _
  | t :: r => by unfold placeE; split; have := placeE_le x r; simp; omega; simp
theorem placeE_below (x : Ent) : ∀ (l : List Ent) (a : Nat) (t : Ent), a < placeE x l → l[a]? = some t → cmpE t x < 0
  | [], a, t, h, _ => by simp [placeE] at h
  | y :: r, a, t, h, ht => by
    unfold placeE at h
    split at h
    · rename_i hy
      cases a with
      | zero => simp at ht; subst ht; exact hy
      | succ a => exact placeE_below x r a t (by omega) (by simpa using ht)
    · omega
theorem placeE_at (x : Ent) : ∀ (l : List Ent) (t : Ent), l[placeE x l]? = some t → ¬ cmpE t x < 0
  | [], t, h => by simp at h
  | y :: r, t, h => by
    unfold placeE at h
    split at h
    · exact placeE_at x r t (by simpa using h)
    · rename_i hy; simp at h; subst h; exact hy
theorem insE_place (x : Ent) : ∀ l : List Ent, insE x l = l.take (placeE x l) ++ x :: l.drop (placeE x l)
  | [] => rfl
  | t :: r => by
    unfold insE placeE
    split
    · rw [insE_place x r]; simp
    · simp
theorem sort_next {l : List Ent} {i : Nat} {x : Ent} (h : l[i]? = some x) : sortE (l.take (i + 1)) = insE x (sortE (l.take i)) := by
  unfold sortE
  rw [List.take_add_one, h]
  simp
theorem sort_len (l : List Ent) : (sortE l).length = l.length := (sort_perm l).length_eq
theorem sort_mem {l : List Ent} {i : Nat} {x : Ent} (h : x ∈ sortE (l.take i)) : x ∈ l := List.mem_of_mem_take ((sort_perm _).mem_iff.1 h)
theorem twiceE_at : ∀ (l : List Ent) (i : Nat) (a b : Ent), l[i]? = some a → l[i + 1]? = some b → twiceE (l.drop i) = (decide (a.key = b.key) || twiceE (l.drop (i + 1)))
  | [], i, a, b, h, _ => by simp at h
  | x :: r, 0, a, b, h1, h2 => by
    cases r with
    | nil => simp at h2
    | cons y s => simp at h1 h2; subst h1 h2; rfl
  | x :: r, i + 1, a, b, h1, h2 => by simpa using twiceE_at r i a b (by simpa using h1) (by simpa using h2)
theorem twiceE_end (l : List Ent) (i : Nat) (h : l.length ≤ i + 1) : twiceE (l.drop i) = false := by
  have : (l.drop i).length ≤ 1 := by simp; omega
  match hl : l.drop i, this with
  | [], _ => rfl
  | [_], _ => rfl

section
variable {P : Program} {a : Option Addr} {n cap : Nat}
def Plain (a : Option Addr) : Prop := a = none ∨ ∃ g off, a = some ⟨g, off, none⟩
theorem own_plain {ty : TypeId} {base : Nat} {w : World} {ts : List Ent} (h : OwnE ty base w (.slice a n cap) ts) : Plain a ∧ n = ts.length ∧ n ≤ cap ∧ cap ≤ maxLen := by
  rcases h.2 with ⟨e, h0⟩ | ⟨g, c, cur, e, hb, hg, hnc, hcm, -⟩
  · simp only [Value.slice.injEq] at e
    obtain ⟨rfl, rfl, rfl⟩ := e
    exact ⟨.inl rfl, h0.symm, Nat.le_refl _, Nat.zero_le _⟩
  · simp only [Value.slice.injEq] at e
    obtain ⟨rfl, rfl, rfl⟩ := e
    exact ⟨.inr ⟨g, 0, rfl⟩, rfl, hnc, hcm⟩
theorem run_head (T e : TypeId) (ht : P.underlying T = some (.slice e)) (hz : ∀ w, (Go.sizeOf e).run P w = .ok 2 w) (ha : Plain a) (p : Nat) (hp : p ≤ cap) (w : World) :
    (Instr.slice T (.slice a n cap) none (some (.int .i64 (p : Nat))) none).run P w = .ok (.slice a p cap) w := by
  rcases ha with rfl | ⟨g, off, rfl⟩
  · simp [Instr.slice, run_underlying ht, Instr.sliceBounds, Instr.sliceBound, asIntOf, hz, hp, Result.andThen]
  · simp [Instr.slice, run_underlying ht, Instr.sliceBounds, Instr.sliceBound, asIntOf, hz, hp, Result.andThen, Addr.add]
theorem run_tail (T e : TypeId) (ht : P.underlying T = some (.slice e)) (hz : ∀ w, (Go.sizeOf e).run P w = .ok 2 w) (ha : Plain a) (p : Nat) (hp : p ≤ n) (hn : n ≤ cap) :
    ∃ q, (∀ w, (Instr.slice T (.slice a n cap) (some (.int .i64 (p : Nat))) none none).run P w = .ok (.slice q (n - p) (cap - p)) w) ∧ ∀ g off, a = some ⟨g, off, none⟩ → p < n → q = some ⟨g, off + p * 2, none⟩ := by
  refine ⟨if cap = p then a else a.map (·.add (p * 2)), fun w => ?_, fun g off e hlt => ?_⟩
  · simp [Instr.slice, run_underlying ht, Instr.sliceBounds, Instr.sliceBound, asIntOf, hz, hp, Result.andThen]
  · subst e
    rw [if_neg (by omega)]
    exact congrArg some (Addr.add_lit ..)
end

theorem sizeOfRE (w : World) : (Go.sizeOf 112).run Tryz.prog w = .ok 2 w := by kernel_rfl

end Go.Proofs.YtbebdaglkjhbjaaGreatDoor.dr

/-
  The library's Clone and SortFunc of entries, by entry.Cmp; the developers' Of.
-/
namespace Go.Proofs.YtbebdaglkjhbjaaGreatDoor.dd
open Go.RowKit Go.Lib Go.Sort Go.Proofs.YtbebdaglkjhbjaaGreatDoor.vi Go.Proofs.YtbebdaglkjhbjaaGreatDoor.um Go.Proofs.YtbebdaglkjhbjaaGreatDoor.wm Go.Proofs.YtbebdaglkjhbjaaGreatDoor.tr Go.Proofs.YtbebdaglkjhbjaaGreatDoor.em
set_option linter.unusedVariables false
set_option linter.unusedSimpArgs false

set_option maxHeartbeats 2000000 in
set_option maxRecDepth 100000 in
theorem sclone_any (xs : List Ent) (B : Nat) (w : World) (v : Value) (hl : xs.length ≤ 1000000) (h : Es B w v xs) :
    Calls Tryz.prog 155 #[v] w fun e w' => ∃ v', e = .returned v' ∧ OwnE 115 w.heap.size w' v' xs ∧ w.grownBy w' none := by
  have HE := Lib.hid h
  have q22 : ∀ (w : World) (a : Option Addr) (n c n' c' : Nat), (binOp .eql 77 (.slice a n c) (.slice none n' c')).run Tryz.prog w = .ok (.bool a.isNone) w := fun w a n c n' c' => Lib.run_eql_slice_nil w _ _ a n c n' c' Tryz.underlying77
  obtain ⟨a, cap, rfl, h0⟩ := h
  cases a with
  | none =>
    obtain rfl : xs = [] := by
      rcases h0 with h0 | ⟨b, off, h0, -⟩
      · exact h0
      · cases h0
    clear h0
    go_enter Tryz.func155, Tryz.ntmps155
    go_wp2_with fail
    go_ret
    exact ⟨_, rfl, OwnE.nil _ _ _, only_refl _ _⟩
  | some ad =>
    have HOM : Hid (OwnE 115 w.heap.size (w.alloc (.cells #[] 115)) (.slice (some ⟨w.heap.size, 0, none⟩) 0 0) []) := World.ownsRow_lit w #[] 0 (Nat.le_refl _) (Nat.zero_le _) rfl
    have HRA := Lib.hid (HE.out.grown (only_alloc (only_refl w none) (.cells #[] 115)))
    clear h0
    go_enter Tryz.func155, Tryz.ntmps155
    go_wp2_with (at_builtin; refine wpList_append_es rfl _ _ _ _ rfl _ Tryz.underlying77 Tryz.infoE rfl w.heap.size _ _ [] xs rfl HOM.out _ rfl HRA.out ?c3 ?c4 ?_)
    case c3 => simp; omega
    case c4 => simp
    intro v5 w5 ho5 hg5 _
    have HG5 := Lib.hid (below_to_none (below_of_only (below_of_none (only_alloc (only_refl w none) (.cells #[] 115))) hg5 (by simp) (fun k e => by simp [Value.ownBlock] at e; omega)))
    try rw [List.nil_append] at ho5
    have HO5 := Lib.hid ho5
    clear ho5 hg5
    go_wp2_with fail
    go_ret
    exact ⟨_, rfl, HO5.out, HG5.out⟩

def encE (x : Ent) : List Value := [.string x.key, .string x.value]
theorem swoE : SWO (ltOf cmpE) where
  irrefl x := by simp [ltOf, (cmpE_zero x x).2 rfl]
  trans x y z h1 h2 := by
    simp only [ltOf, decide_eq_true_eq] at *
    exact cmpE_trans h1 h2
  ntrans x y z h1 h2 := by
    simp only [ltOf, decide_eq_false_iff_not] at *
    intro h3
    rw [cmpE_neg] at h1 h2
    by_cases e1 : cmpE y x = 0
    · rw [(cmpE_zero y x).1 e1] at h2
      rw [cmpE_neg] at h3
      omega
    · by_cases e2 : cmpE z y = 0
      · rw [← (cmpE_zero z y).1 e2] at h1
        rw [cmpE_neg] at h3
        omega
      · have := cmpE_trans (a := z) (b := y) (c := x) (by omega) (by omega)
        rw [cmpE_neg] at h3
        omega

theorem cmp_lays (blk off size : Nat) (w : World) : CmpLays Tryz.prog 157 #[] encE 2 cmpE blk off size w :=
  fun _ _ _ _ x y => ee.Cmp_any x y _

theorem isAggE (w : World) : (isAgg 115).run Tryz.prog w = .ok true w := by kernel_rfl
theorem sizeOfE (w : World) : (Go.sizeOf 115).run Tryz.prog w = .ok 2 w := by kernel_rfl

theorem sort_worlds (enc : Ent → List Value) (w : World) (g m : Nat) (d : Array Ent) (os : Array Obj) : w.grownBy (sortWorldK enc 2 w g 0 m d os) (some g) := by
  refine ⟨rfl, rfl, rfl, ?_, fun k hk hne => ?_⟩
  · simp [sortWorldK, putRowK, putRow, mapBlock, Sort.ahead, grow]
  · have hkg : g ≠ k := fun e => hne (by rw [e])
    simp only [sortWorldK, putRowK, putRow, mapBlock, Sort.ahead, grow]
    rw [Array.getElem?_append_left (by simpa using hk), Array.getElem?_modify, if_neg hkg]

set_option maxRecDepth 100000 in
theorem blen_any (n : Nat) (hn : n ≤ 1000000) (w : World) : Calls Tryz.prog 128 #[.int .u64 (n : Nat)] w fun e w' => e = .returned (.int .i64 (Lib.bitLen n : Nat)) ∧ w' = w := by
  have HB := Tryz.bits_Len64 (n : Int) w (by omega) (by omega)
  rw [Int.toNat_natCast] at HB
  have HB := Lib.hid HB
  go_enter Tryz.func128, Tryz.ntmps128
  go_wp2_with fail
  refine HB.out.mono ?_
  rintro e w1 ⟨rfl, rfl⟩
  go_wp2_with fail
  go_ret
  exact ⟨rfl, rfl⟩

set_option maxHeartbeats 1000000 in
theorem sort_any (ts : List Ent) (w : World) (base : Nat) (v : Value) (hs : ts.length ≤ 1000000) (hpos : 0 < ts.length) (h : OwnE 115 base w v ts) :
    Calls Tryz.prog 156 #[v, .func (.func 157) #[] #[]] w fun e w' =>
      e = .returned (.tuple #[]) ∧ Es w.heap.size w' v (sortE ts) ∧ w.grownBy w' v.ownBlock := by
  have hall := h
  rcases h.2 with ⟨rfl, h0⟩ | ⟨g, cap, cur, rfl, hb, hg, hnc, hcm, hcs, htake⟩
  · omega
  · have hcell : ∀ (i c : Nat) (x : Ent), ts[i]? = some x → c < 2 → w.cell? ⟨g, 0 + (i * 2 + c), none⟩ = some (encE x)[c]! := fun i c x hx hc => by
      obtain ⟨f0, f1⟩ := flatE_get ts i x hx
      have hq := fun j u (hj : (flatE ts)[j]? = some u) => World.ownsRow.cells hall (g := g) rfl j u hj
      have ha : ∀ j, (⟨g, 0, none⟩ : Addr).add j = ⟨g, 0 + j, none⟩ := fun j => Addr.add_lit ..
      simp only [ha] at hq
      rcases (show c = 0 ∨ c = 1 by omega) with rfl | rfl
      · exact hq _ _ f0
      · exact hq _ _ f1
    have hH : HoldsK encE 2 w g 0 ts.toArray := fun j hj => by
      rw [size_flatK] at hj
      rw [get_flatK _ _ _ _ hj]
      have hj5 : j / 2 < ts.length := by simp at hj; omega
      have hx : ts[j / 2]? = some ts.toArray[j / 2]! := by
        rw [getElem!_pos ts.toArray (j / 2) (by simpa using hj5)]
        simp
      have := hcell (j / 2) (j % 2) _ hx (by omega)
      rw [show j / 2 * 2 + j % 2 = j by omega] at this
      exact ⟨this, by simp [World.frozen?, hg]⟩
    have hlt : g < w.heap.size := (Array.getElem?_eq_some_iff.1 hg).1
    have eg : ∀ args w, (callFunc 157 args).run Tryz.prog w = .ok (.enter 157 args) w := enters_of Tryz.func157 (by kernel_rfl) rfl
    have hsz : ts.toArray.size = ts.length := by simp
    have hlim : Lib.bitLen ts.toArray.size < 4611686018427387904 := Nat.lt_of_le_of_lt (Lib.bitLen_le ts.toArray.size 62 (by omega) (by rw [hsz]; omega)) (by omega)
    have hp := AnyQ.pdqsortCmpFunc_all Tryz.pdqE 2 isAggE sizeOfE encE cmpE 157 #[] swoE g 0 cap ts.toArray w eg (cmp_lays g 0 _ w) ⟨fun _ => rfl, fun x v hv => by simp [encE] at hv; rcases hv with rfl | rfl <;> rfl, hH, hlt⟩ (ts.toArray.size + 1) 0 ts.toArray.size (Lib.bitLen ts.toArray.size) ts.toArray w (by omega) rfl (SWK.start hH) (Nat.zero_le _) (Nat.le_refl _) (by rw [hsz]; omega) hlim (Or.inl rfl)
    change Calls Tryz.prog 159 _ _ _ at hp
    rw [hsz] at hp
    have hcon : Calls Tryz.prog 156 #[.slice (some ⟨g, 0, none⟩) ts.length cap, .func (.func 157) #[] #[]] w fun e w' =>
        e = .returned (.tuple #[]) ∧ ∃ d' n os, PermIn 0 ts.length ts.toArray d' ∧ SortedIn (ltOf cmpE) 0 ts.length d' ∧ w' = sortWorldK encE 2 w g 0 n d' os := by
      have HP := Lib.hid hp
      have HS := Lib.hid (pdq_sorts (ltOf cmpE) swoE ts.toArray 0 ts.length (Lib.bitLen ts.length) true true (Nat.zero_le _) (by rw [hsz]; exact Nat.le_refl _) (Or.inl rfl))
      have HL := Lib.hid (fun w => blen_any ts.length (by omega) w)
      have hmod : (ts.length : Int) % 18446744073709551616 = ts.length := by omega
      clear hp hlim hsz eg hlt hH hcell hall h hpos
      generalize Lib.bitLen ts.length = lim at *
      go_enter Tryz.func156, Tryz.ntmps156
      go_wp2_with fail
      refine (HL.out _).mono ?_
      rintro e w1 ⟨rfl, rfl⟩
      go_wp2_with fail
      refine HP.out.mono ?_
      rintro e w1 ⟨rfl, n, os, rfl⟩
      go_wp2_with fail
      go_end0
      exact ⟨rfl, _, n, os, HS.out.1, HS.out.2, rfl⟩
    refine hcon.mono ?_
    rintro e w' ⟨rfl, d', m, os, ⟨hp1, -, hp3⟩, hsd, rfl⟩
    have hd's : d'.size = ts.length := by rw [hp1, hsz]
    have hperm : d'.toList.Perm ts := by
      have e1 : d'.extract 0 ts.length = d' := by rw [← hd's]; simp
      have e2 : ts.toArray.extract 0 ts.length = ts.toArray := by rw [← hsz]; simp
      rw [e1, e2] at hp3
      simpa using hp3
    have hgw := sort_worlds encE w g m d' os
    have hH2 : HoldsK encE 2 (sortWorldK encE 2 w g 0 m d' os) g 0 d' :=
      holdsK_grow encE 2 _ os g 0 d' (by simp [putRowK, putRow, mapBlock, Sort.ahead]; exact hlt) (holdsK_putRowK encE 2 (Sort.ahead w m) g 0 ts.toArray d' (holdsK_ahead encE 2 w m g 0 _ hH) hp1)
    have hget : ∀ (i : Nat) (x : Ent), d'.toList[i]? = some x → d'[i]! = x ∧ i < d'.size := fun i x hx => by
      have hi := (List.getElem?_eq_some_iff.1 hx).1
      refine ⟨?_, by simpa using hi⟩
      rw [getElem!_pos d' i (by simpa using hi)]
      obtain ⟨_, he⟩ := List.getElem?_eq_some_iff.1 hx
      simpa using he
    have hpw : d'.toList.Pairwise leE := by
      rw [List.pairwise_iff_getElem]
      intro i j hi hj hij
      have := hsd i j (Nat.zero_le _) hij (by rw [← hd's]; simpa using hj)
      simp only [ltOf, decide_eq_false_iff_not] at this
      rw [getElem!_pos d' i (by simpa using hi), getElem!_pos d' j (by simpa using hj)] at this
      simp only [Array.getElem_toList]
      unfold leE
      rw [cmpE_neg]
      omega
    have hst : sortE ts = d'.toList := sorted_same (sort_sorted ts) hpw ((sort_perm ts).trans hperm.symm)
    refine ⟨rfl, ?_, hgw⟩
    rw [hst]
    have hln : d'.toList.length = ts.length := by simp [hd's]
    refine ⟨some ⟨g, 0, none⟩, cap, by rw [hln], .inr ⟨g, 0, rfl, hlt, by omega, hcm, fun i x hx => ?_⟩⟩
    obtain ⟨e1, e2⟩ := hget i x hx
    have hc := fun c (hc : c < 2) => (HoldsK.cell hH2 e2 hc).1
    rw [e1] at hc
    exact ⟨hc 0 (by omega), hc 1 (by omega)⟩

/-! Of -/
/-- Of sorted entries that all may be nothing is left to be told but that two keys are the same. -/
theorem walk_sorted : ∀ (l : List Ent) (p : Option Ent), (p.toList ++ l).Pairwise leE → (∀ x ∈ l, checkE x = 0) → walkE p l = if twiceE (p.toList ++ l) = true then 14 else 0
  | [], p, _, _ => by cases p <;> simp [walkE, twiceE]
  | x :: r, p, h, hc => by
    have hx := hc x (by simp)
    unfold walkE
    rw [if_neg (by simp [hx])]
    have hr : ∀ y ∈ r, checkE y = 0 := fun y hy => hc y (by simp [hy])
    cases p with
    | none =>
      rw [if_neg (by simp [behindO])]
      exact walk_sorted r (some x) (by simpa using h) hr
    | some a =>
      have h2 : (a :: x :: r).Pairwise leE := by simpa using h
      obtain ⟨h3, h4⟩ := List.pairwise_cons.1 h2
      have hax := h3 x (by simp)
      have hb : behindO (some a) x = if a.key = x.key then 14 else 0 := by
        show behindE a x = _
        unfold behindE leE at *
        rw [if_neg (by omega : ¬ 0 < cmpE a x)]
      have ih := walk_sorted r (some x) (by simpa using h4) hr
      rw [hb, ih]
      show _ = if (decide (a.key = x.key) || twiceE (x :: r)) = true then 14 else 0
      by_cases hk : a.key = x.key
      · simp [hk]
      · rw [if_neg (show ¬ ((if a.key = x.key then 14 else 0) ≠ 0) by simp [hk]), show (decide (a.key = x.key) || twiceE (x :: r)) = twiceE (x :: r) by simp [hk]]
        rfl
theorem check_sorted {l : List Ent} (h1 : countE l.length = 0) (h2 : firstE l = 0) : checkD (sortE l) = if twiceE (sortE l) = true then 14 else 0 := by
  have hp := sort_perm l
  have hc := (firstE_zero l).1 h2
  unfold checkD
  rw [hp.length_eq, if_neg (by simp [h1])]
  exact walk_sorted (sortE l) none (by simpa using sort_sorted l) (fun x hx => hc x (hp.mem_iff.1 hx))

set_option maxHeartbeats 4000000 in
set_option maxRecDepth 100000 in
theorem of_any (xs : List Ent) (B : Nat) (w : World) (v : Value) (hl : xs.length ≤ 1000000) (hz : ∀ x ∈ xs, x.key.size ≤ maxLen ∧ x.value.size ≤ maxLen) (hT : tb.Tab w) (h : Es B w v xs) :
    Calls Tryz.prog 150 #[v] w fun e w' => ∃ v', e = .returned (.tuple #[v', .int .i64 ((ofD xs).2 : Nat)]) ∧ Es w'.heap.size w' v' (ofD xs).1 ∧ w.grownBy w' none := by
  have HC := Lib.hid (fun w => count_any xs.length (by omega) w)
  have HE := Lib.hid h.low
  have HZ := Lib.hid hz
  have HTB := Lib.hid (fun w1 (g : w.grownBy w1 none) => tb.kept hT g)
  have hmod : (xs.length : Int) % 18446744073709551616 = xs.length := by omega
  have HD : Hid (ofD xs = if countE xs.length ≠ 0 then ([], countE xs.length) else if firstE xs ≠ 0 then ([], firstE xs) else if twiceE (sortE xs) = true then ([], 14) else (sortE xs, 0)) := rfl
  have hclt := countE_lt xs.length
  have HCS := Lib.hid (@check_sorted xs)
  generalize hR : ofD xs = R at *
  obtain ⟨a, cap, rfl⟩ := h.shape
  clear h hT hz hR
  by_cases hc : countE xs.length = 0
  · rw [hc] at HC
    have HD := Lib.hid (HD.out.trans (if_neg (by simp [hc])))
    have hpos : 0 < xs.length := by unfold countE at hc; split at hc <;> omega
    have HCC := Lib.hid hc
    clear hc hclt
    go_enter Tryz.func150, Tryz.ntmps150
    go_wp2_with fail
    refine (HC.out _).mono ?_
    rintro e w0 ⟨rfl, rfl⟩
    go_wp2_with fail
    go_loopw [19] (fun q wr => ∃ i : Nat, i ≤ xs.length ∧ q = .int .i64 i ∧ w.grownBy wr none ∧ firstE xs = firstE (xs.drop i)) (fun q _ => xs.length - (intOf q).toNat)
    case atStart => exact ⟨0, Nat.zero_le _, rfl, only_refl _ _, by simp⟩
    case round =>
      obtain ⟨i, hi, rfl, hg, hw⟩ := hrel
      have HG := Lib.hid hg
      have HW := Lib.hid hw
      clear hg hw
      by_cases hlt : i < xs.length
      · obtain ⟨x, hx⟩ : ∃ x, xs[i]? = some x := ⟨xs[i], List.getElem?_eq_getElem hlt⟩
        have HEi := Lib.hid (HE.out.grown HG.out)
        obtain ⟨b, off, cap', hv, hb, hle, hcm, c0, c1⟩ := HEi.out.at hx
        simp only [Value.slice.injEq, true_and] at hv
        obtain ⟨rfl, rfl⟩ := hv
        unfold maxLen at hcm
        have hsz := ent_size HZ.out hx
        have HWN := Lib.hid (HW.out.trans (firstE_at hx))
        have G1 := Lib.hid (only_trans HG.out (only_alloc (only_refl wr none) (.cells #[.string x.key, .string x.value] 115)))
        have HCK := Lib.hid (fun w1 (g : w.grownBy w1 none) => ee.check_any x w1 hsz.1 hsz.2 (HTB.out w1 g))
        have h1lt := checkE_lt x
        clear hx hsz HW
        by_cases h1 : checkE x = 0
        · rw [h1] at HCK HWN
          have HWN := Lib.hid (HWN.out.trans (if_neg (by simp)))
          clear h1lt h1
          go_wp2_with fail
          refine (HCK.out _ G1.out).mono ?_
          rintro e w1 ⟨rfl, g1⟩
          have G2 := Lib.hid (only_trans G1.out g1)
          clear g1
          go_wp2_with fail
          go_roundw
          case rel => exact ⟨i + 1, by omega, by go_num, G2.out, HWN.out⟩
          case measure => simp [intOf]; omega
        · have HWN := Lib.hid (HWN.out.trans (if_pos h1))
          have HQ := Lib.hid h1
          generalize checkE x = q at *
          have hqb : ((q : Int) != 0) = true := by rw [bne_iff_ne]; omega
          clear h1
          go_wp2_with fail
          refine (HCK.out _ G1.out).mono ?_
          rintro e w1 ⟨rfl, g1⟩
          have G2 := Lib.hid (only_trans G1.out g1)
          clear g1
          go_wp2_with fail
          go_ret2
          rw [HD.out, HWN.out, if_pos HQ.out]
          exact ⟨_, rfl, Es.nil _ _ _ _, G2.out⟩
      · have hie : i = xs.length := by omega
        subst hie
        rw [List.drop_length] at HW
        have HD := Lib.hid (HD.out.trans (if_neg (by rw [HW.out]; simp [firstE])))
        have hfz : firstE xs = 0 := by rw [HW.out]; rfl
        have HSC := Lib.hid (HCS.out HCC.out hfz)
        have HCL := Lib.hid (sclone_any xs _ wr _ hl (HE.out.grown HG.out))
        have HSZ : Hid (∀ x ∈ sortE xs, x.key.size ≤ maxLen ∧ x.value.size ≤ maxLen) := fun x hx => HZ.out x ((sort_perm xs).mem_iff.1 hx)
        have HSL : Hid ((sortE xs).length = xs.length) := (sort_perm xs).length_eq
        have hwz : w.heap.size ≤ wr.heap.size := HG.out.size
        clear hfz HCS
        go_wp2_with fail
        refine HCL.out.mono ?_
        rintro e w1 ⟨v1, rfl, o1, g1⟩
        have HST := Lib.hid (fun w2 (g : w1.grownBy w2 none) => sort_any xs w2 _ v1 hl hpos (o1.grown g))
        have HG1 := Lib.hid (only_trans HG.out g1)
        have hvb := Lib.hid (fun k e => (o1.lt k e).1)
        obtain ⟨va, vc, rfl⟩ := o1.es.shape
        clear o1 g1
        go_wp2_with fail
        refine (HST.out _ (only_refl _ _)).mono ?_
        rintro e w2 ⟨rfl, e2, g2⟩
        have HG2 := Lib.hid (only_row HG1.out g2 (fun k e => Nat.le_trans hwz (hvb.out k e)))
        have HE2 := Lib.hid e2.low
        have HCK := Lib.hid (dcheck_any (sortE xs) _ w2 _ (by rw [HSL.out]; exact hl) HSZ.out (HTB.out _ HG2.out) e2)
        rw [HSC.out] at HCK
        clear e2 g2
        by_cases ht : twiceE (sortE xs) = true
        · rw [if_pos ht] at HCK
          have HD := Lib.hid (HD.out.trans (if_pos ht))
          clear ht
          go_wp2_with fail
          refine HCK.out.mono ?_
          rintro e w3 ⟨rfl, g3⟩
          have HG3 := Lib.hid (only_trans HG2.out g3)
          clear g3
          go_wp2_with fail
          go_ret2
          rw [HD.out]
          exact ⟨_, rfl, Es.nil _ _ _ _, HG3.out⟩
        · rw [if_neg ht] at HCK
          have HD := Lib.hid (HD.out.trans (if_neg ht))
          clear ht
          go_wp2_with fail
          refine HCK.out.mono ?_
          rintro e w3 ⟨rfl, g3⟩
          have HG3 := Lib.hid (only_trans HG2.out g3)
          have HE3 := Lib.hid (HE2.out.grown g3).low
          clear g3
          go_wp2_with fail
          go_ret2
          rw [HD.out]
          exact ⟨_, rfl, HE3.out, HG3.out⟩
  · have HD := Lib.hid (HD.out.trans (if_pos hc))
    generalize countE xs.length = q at *
    have hqb : ((q : Int) != 0) = true := by rw [bne_iff_ne]; omega
    go_enter Tryz.func150, Tryz.ntmps150
    go_wp2_with fail
    refine (HC.out _).mono ?_
    rintro e w0 ⟨rfl, rfl⟩
    go_wp2_with fail
    go_ret2
    rw [HD.out]
    exact ⟨_, rfl, Es.nil _ _ _ _, only_refl _ _⟩

end Go.Proofs.YtbebdaglkjhbjaaGreatDoor.dd

/-
  Layer 12's statements: To, Few, slices.Equal, awake.
-/
namespace Go.Proofs.YtbebdaglkjhbjaaGreatDoor.law12
open Go.RowKit Go.Proofs.YtbebdaglkjhbjaaGreatDoor.vi Go.Proofs.YtbebdaglkjhbjaaGreatDoor.um Go.Proofs.YtbebdaglkjhbjaaGreatDoor.wm Go.Proofs.YtbebdaglkjhbjaaGreatDoor.tr Go.Proofs.YtbebdaglkjhbjaaGreatDoor.em Go.Proofs.YtbebdaglkjhbjaaGreatDoor.cur Go.Proofs.YtbebdaglkjhbjaaGreatDoor.law11 Go.Proofs.YtbebdaglkjhbjaaGreatDoor.dd Go.Proofs.YtbebdaglkjhbjaaGreatDoor.dr
set_option linter.unusedVariables false
set_option linter.unusedSimpArgs false

/-- How the sum of two lengths stands as an int. -/
theorem wrap_sum (a b : Nat) (ha : a ≤ 9223372036854775807) (hb : b ≤ 9223372036854775807) : IntKind.i64.wrap ((a : Int) + (b : Int)) = (if a + b ≤ 9223372036854775807 then ((a + b : Nat) : Int) else ((a + b : Nat) : Int) - 18446744073709551616) := by
  split <;> simp [IntKind.wrap, IntKind.bits, IntKind.signed] <;> omega

def fewE (xs : List Ent) : Bool := (xs.all fun x => decide (x.key.size + x.value.size ≤ 600)) && decide (xs.length ≤ 40)
theorem few_facts {xs : List Ent} (h : fewE xs = true) : xs.length ≤ 40 ∧ ∀ x ∈ xs, x.key.size + x.value.size ≤ 600 := by
  unfold fewE at h
  rw [Bool.and_eq_true, List.all_eq_true, decide_eq_true_eq] at h
  exact ⟨h.2, fun x hx => by simpa using h.1 x hx⟩

set_option maxHeartbeats 2000000 in
set_option maxRecDepth 100000 in
theorem few_any (xs : List Ent) (B : Nat) (w : World) (v : Value) (hl : xs.length ≤ 140737488351232) (hz : ∀ x ∈ xs, x.key.size ≤ 140737488351232 ∧ x.value.size ≤ 140737488351232) (h : Es B w v xs) :
    Calls Tryz.prog 40 #[v] w fun e w' => e = .returned (.bool (fewE xs)) ∧ w.grownBy w' none := by
  have HE := Lib.hid h
  have HZ := Lib.hid hz
  obtain ⟨a, cap, rfl⟩ := h.shape
  clear h hz
  go_enter Tryz.func40, Tryz.ntmps40
  go_wp2_with fail
  go_loopw [7] (fun q wr => ∃ i : Nat, i ≤ xs.length ∧ q = .int .i64 i ∧ w.grownBy wr none ∧ ((xs.take i).all fun x => decide (x.key.size + x.value.size ≤ 600)) = true) (fun q _ => xs.length - (intOf q).toNat)
  case atStart => exact ⟨0, Nat.zero_le _, rfl, only_refl _ _, by simp⟩
  case round =>
    obtain ⟨i, hi, rfl, hg, ht⟩ := hrel
    have HG := Lib.hid hg
    have HT := Lib.hid ht
    clear hg ht
    by_cases hlt : i < xs.length
    · obtain ⟨x, hx⟩ : ∃ x, xs[i]? = some x := ⟨xs[i], List.getElem?_eq_getElem hlt⟩
      obtain ⟨b, off, cx, hv, -, hle, hcm, c0, c1⟩ := (HE.out.grown HG.out).at hx
      simp only [Value.slice.injEq, true_and] at hv
      obtain ⟨rfl, rfl⟩ := hv
      unfold maxLen at hcm
      have hsz := HZ.out x (List.mem_of_getElem? hx)
      have G1 := Lib.hid (only_trans HG.out (only_alloc (only_refl wr none) (.cells #[.string x.key, .string x.value] 115)))
      by_cases hs : x.key.size + x.value.size ≤ 600
      · have HTN : Hid (((xs.take (i + 1)).all fun x => decide (x.key.size + x.value.size ≤ 600)) = true) := by
          show _ = _
          rw [List.take_add_one, hx, List.all_append, HT.out]
          simpa using hs
        have hsi : ¬ (600 : Int) < (x.key.size : Int) + (x.value.size : Int) := by omega
        clear hx hs HT
        go_wp2_with fail
        first
          | skip
          | (go_quiet (fail); go_wp2_with fail)
        go_roundw
        case rel => exact ⟨i + 1, by omega, by go_num, by first | exact G1.out | exact only_drewN G1.out _, HTN.out⟩
        case measure => simp [intOf]; omega
      · have HR : Hid (fewE xs = false) := by
          show _ = _
          unfold fewE
          rw [Bool.and_eq_false_iff]
          left
          rw [List.all_eq_false]
          exact ⟨x, List.mem_of_getElem? hx, by simpa using hs⟩
        have hsi : (600 : Int) < (x.key.size : Int) + (x.value.size : Int) := by omega
        clear hx hs HT
        go_wp2_with fail
        first
          | skip
          | (go_quiet (fail); go_wp2_with fail)
        go_ret
        rw [HR.out]
        exact ⟨rfl, by first | exact G1.out | exact only_drewN G1.out _⟩
    · have hie : i = xs.length := by omega
      subst hie
      have HR : Hid (fewE xs = decide (xs.length ≤ 40)) := by
        show _ = _
        have := HT.out
        rw [List.take_length] at this
        unfold fewE
        rw [this, Bool.true_and]
      go_wp2_with fail
      go_ret
      rw [HR.out]
      exact ⟨ret1 (congrArg Value.bool (by simp; first | done | omega)), HG.out⟩

set_option maxHeartbeats 2000000 in
set_option maxRecDepth 100000 in
theorem few2_any (xs : List Ent) (B : Nat) (w : World) (v : Value) (hl : xs.length ≤ maxLen) (hz : ∀ x ∈ xs, x.key.size ≤ maxLen ∧ x.value.size ≤ maxLen) (h : Es B w v xs) :
    Calls Tryz.prog 40 #[v] w fun e w' => ∃ bv : Bool, e = .returned (.bool bv) ∧ (bv = true → xs.length ≤ 40) ∧ w.grownBy w' none := by
  have HE := Lib.hid h
  have HZ := Lib.hid hz
  obtain ⟨a, cap, rfl⟩ := h.shape
  unfold maxLen at hl
  clear h hz
  go_enter Tryz.func40, Tryz.ntmps40
  go_wp2_with fail
  go_loopw [7] (fun q wr => ∃ i : Nat, i ≤ xs.length ∧ q = .int .i64 i ∧ w.grownBy wr none) (fun q _ => xs.length - (intOf q).toNat)
  case atStart => exact ⟨0, Nat.zero_le _, rfl, only_refl _ _⟩
  case round =>
    obtain ⟨i, hi, rfl, hg⟩ := hrel
    have HG := Lib.hid hg
    clear hg
    by_cases hlt : i < xs.length
    · obtain ⟨x, hx⟩ : ∃ x, xs[i]? = some x := ⟨xs[i], List.getElem?_eq_getElem hlt⟩
      obtain ⟨b, off, cx, hv, -, hle, hcm, c0, c1⟩ := (HE.out.grown HG.out).at hx
      simp only [Value.slice.injEq, true_and] at hv
      obtain ⟨rfl, rfl⟩ := hv
      unfold maxLen at hcm
      have hsz := HZ.out x (List.mem_of_getElem? hx)
      unfold maxLen at hsz
      have G1 := Lib.hid (only_trans HG.out (only_alloc (only_refl wr none) (.cells #[.string x.key, .string x.value] 115)))
      have hwr := wrap_sum x.key.size x.value.size hsz.1 hsz.2
      by_cases hs : (600 : Int) < (if x.key.size + x.value.size ≤ 9223372036854775807 then ((x.key.size + x.value.size : Nat) : Int) else ((x.key.size + x.value.size : Nat) : Int) - 18446744073709551616)
      · generalize (if x.key.size + x.value.size ≤ 9223372036854775807 then ((x.key.size + x.value.size : Nat) : Int) else ((x.key.size + x.value.size : Nat) : Int) - 18446744073709551616) = sm at *
        clear hx
        go_wp2_with fail
        go_ret
        exact ⟨false, rfl, fun e => by simp at e, G1.out⟩
      · generalize (if x.key.size + x.value.size ≤ 9223372036854775807 then ((x.key.size + x.value.size : Nat) : Int) else ((x.key.size + x.value.size : Nat) : Int) - 18446744073709551616) = sm at *
        clear hx
        go_wp2_with fail
        go_roundw
        case rel => exact ⟨i + 1, by omega, by go_num, G1.out⟩
        case measure => simp [intOf]; omega
    · have hie : i = xs.length := by omega
      subst hie
      go_wp2_with fail
      go_ret
      exact ⟨decide (xs.length ≤ 40), ret1 (congrArg Value.bool (by simp; first | done | omega)), fun e => by simpa using e, HG.out⟩

set_option maxHeartbeats 2000000 in
set_option maxRecDepth 100000 in
theorem to_any (xs : List Ent) (B : Nat) (w : World) (v : Value) (hl : xs.length ≤ 100000) (h : Es B w v xs) :
    Calls Tryz.prog 48 #[v] w fun e w' => ∃ v', e = .returned v' ∧ OwnE 112 w.heap.size w' v' xs ∧ w.grownBy w' none := by
  have HE := Lib.hid h
  obtain ⟨a, cap, rfl⟩ := h.shape
  clear h
  go_enter Tryz.func48, Tryz.ntmps48
  go_wp2_with fail
  go_loopw [3, 8] (fun vo q wr => ∃ i : Nat, i ≤ xs.length ∧ q = .int .i64 i ∧ w.grownBy wr none ∧ OwnE 112 w.heap.size wr vo (xs.take i)) (fun _ q _ => xs.length - (intOf q).toNat)
  case atStart => exact ⟨0, Nat.zero_le _, rfl, only_refl _ _, OwnE.nil _ _ _⟩
  case round =>
    obtain ⟨i, hi, rfl, hg, ho⟩ := hrel
    have HG := Lib.hid hg
    have HO := Lib.hid ho
    clear hg ho
    by_cases hlt : i < xs.length
    · obtain ⟨x, hx⟩ : ∃ x, xs[i]? = some x := ⟨xs[i], List.getElem?_eq_getElem hlt⟩
      obtain ⟨b, off, cx, hv, -, hle, hcm, c0, c1⟩ := (HE.out.grown HG.out).at hx
      simp only [Value.slice.injEq, true_and] at hv
      obtain ⟨rfl, rfl⟩ := hv
      unfold maxLen at hcm
      have HTK : Hid (xs.take (i + 1) = xs.take i ++ [x]) := by
        show _ = _
        rw [List.take_add_one, hx]; rfl
      have hvb := HO.out.lt
      have GA := only_alloc (only_refl wr none) (.cells #[.string x.key, .string x.value] 115)
      have GB := only_alloc GA (.cells #[.string x.key, .string x.value] 112)
      have HO2 := Lib.hid (HO.out.grown GB)
      have HG2 := Lib.hid (only_trans HG.out GB)
      have hone := es_one (wr.alloc (.cells #[.string x.key, .string x.value] 115)) x 112
      rw [show (wr.alloc (.cells #[.string x.key, .string x.value] 115)).heap.size = wr.heap.size + 1 by simp] at hone
      have HONE := Lib.hid hone
      have hwz : w.heap.size ≤ wr.heap.size := HG.out.size
      have htl : (xs.take i).length ≤ 100000 := by rw [List.length_take]; omega
      clear GA GB hone hx
      generalize xs.take i = acc at *
      go_wp2_with (at_builtin; refine wpList_append_es rfl _ _ 94 112 (by rfl) _ Tryz.underlying94 Tryz.infoRE rfl w.heap.size _ _ acc [x] (by rfl) HO2.out _ (by rfl) HONE.out ?c1 ?c2 ?_)
      case c1 => simp; omega
      case c2 => simp; omega
      intro v6 w6 ho6 hg6 _
      have HO6 := Lib.hid ho6
      have HG6 := Lib.hid (only_row HG2.out hg6 (fun k e => (hvb k e).1))
      clear ho6 hg6
      go_wp2_with fail
      go_roundw
      case rel => exact ⟨i + 1, by omega, by go_num, HG6.out, by rw [HTK.out]; exact HO6.out⟩
      case measure => simp [intOf]; omega
    · have hie : i = xs.length := by omega
      subst hie
      rw [List.take_length] at HO
      go_wp2_with fail
      go_ret
      exact ⟨_, rfl, HO.out, HG.out⟩

set_option maxHeartbeats 2000000 in
set_option maxRecDepth 100000 in
theorem equalE_any (xs ys : List Ent) (B1 B2 : Nat) (w : World) (v u : Value) (hl : xs.length ≤ 1000000) (h : Es B1 w v xs) (h2 : Es B2 w u ys) :
    Calls Tryz.prog 57 #[v, u] w fun e w' => e = .returned (.bool (decide (xs = ys))) ∧ w.grownBy w' none := by
  have HX := Lib.hid h
  have HY := Lib.hid h2
  obtain ⟨a, cap, rfl⟩ := h.shape
  obtain ⟨a2, cap2, rfl⟩ := h2.shape
  clear h h2
  by_cases hn : xs.length = ys.length
  · have HN := Lib.hid hn
    rw [← hn] at HY ⊢
    clear hn
    go_enter Tryz.func57, Tryz.ntmps57
    go_wp2_with fail
    go_loopw [13] (fun q wr => ∃ i : Nat, i ≤ xs.length ∧ q = .int .i64 i ∧ w.grownBy wr none ∧ xs.take i = ys.take i) (fun q _ => xs.length - (intOf q).toNat)
    case atStart => exact ⟨0, Nat.zero_le _, rfl, only_refl _ _, by simp⟩
    case round =>
      obtain ⟨i, hi, rfl, hg, ht⟩ := hrel
      have HG := Lib.hid hg
      have HT := Lib.hid ht
      clear hg ht
      by_cases hlt : i < xs.length
      · obtain ⟨x, hx⟩ : ∃ x, xs[i]? = some x := ⟨xs[i], List.getElem?_eq_getElem hlt⟩
        obtain ⟨y, hy⟩ : ∃ y, ys[i]? = some y := ⟨ys[i]'(by rw [← HN.out]; exact hlt), List.getElem?_eq_getElem (by rw [← HN.out]; exact hlt)⟩
        obtain ⟨b, off, cx, hv, -, hle, hcm, c0, c1⟩ := (HX.out.grown HG.out).at hx
        simp only [Value.slice.injEq, true_and] at hv
        obtain ⟨rfl, rfl⟩ := hv
        obtain ⟨b2, off2, cy, hv2, -, hle2, hcm2, e0, e1⟩ := (HY.out.grown HG.out).at hy
        rw [← HN.out] at hv2 hle2
        simp only [Value.slice.injEq, true_and] at hv2
        obtain ⟨rfl, rfl⟩ := hv2
        unfold maxLen at hcm hcm2
        have hk0 := beq_bytes x.key y.key
        have hv0 := beq_bytes x.value y.value
        have hci : (i : Int) < (xs.length : Int) := by omega
        have HNE := Lib.hid (fun (e : xs = ys) => (by rw [e] at hx; rw [hx] at hy; exact Option.some.inj hy : x = y))
        have HTN := Lib.hid (fun (e : x = y) => (by rw [List.take_add_one, List.take_add_one, hx, hy, HT.out, e] : xs.take (i + 1) = ys.take (i + 1)))
        clear hx hy HT
        by_cases hk : x.key = y.key
        · have hkb : (x.key.toList == y.key.toList) = true := by rw [hk0]; simp [hk]
          by_cases hvv : x.value = y.value
          · have hvb : (x.value.toList == y.value.toList) = true := by rw [hv0]; simp [hvv]
            have HTM := Lib.hid (HTN.out (by cases x; cases y; simp at hk hvv; simp [hk, hvv]))
            clear hk0 hv0 hk hvv HTN HNE
            go_wp2_with fail
            go_quiet (fail)
            go_wp2_with fail
            go_roundw
            case rel => exact ⟨i + 1, by omega, by go_num, only_drewN HG.out _, HTM.out⟩
            case measure => simp [intOf]; omega
          · have hvb : (x.value.toList == y.value.toList) = false := by rw [hv0]; simp [hvv]
            have HR : Hid (decide (xs = ys) = false) := decide_eq_false fun e => hvv (by rw [HNE.out e])
            clear hk0 hv0 hk hvv HTN HNE
            go_wp2_with fail
            go_quiet (fail)
            go_wp2_with fail
            go_ret
            rw [HR.out]
            exact ⟨rfl, only_drewN HG.out _⟩
        · have hkb : (x.key.toList == y.key.toList) = false := by rw [hk0]; simp [hk]
          have HR : Hid (decide (xs = ys) = false) := decide_eq_false fun e => hk (by rw [HNE.out e])
          clear hk0 hk HTN HNE
          by_cases hvv : x.value = y.value
          · have hvb : (x.value.toList == y.value.toList) = true := by rw [hv0]; simp [hvv]
            clear hv0 hvv
            go_wp2_with fail
            go_quiet (fail)
            go_wp2_with fail
            go_ret
            rw [HR.out]
            exact ⟨rfl, only_drewN HG.out _⟩
          · have hvb : (x.value.toList == y.value.toList) = false := by rw [hv0]; simp [hvv]
            clear hv0 hvv
            go_wp2_with fail
            go_quiet (fail)
            go_wp2_with fail
            go_ret
            rw [HR.out]
            exact ⟨rfl, only_drewN HG.out _⟩
      · have hie : i = xs.length := by omega
        subst hie
        have HR : Hid (decide (xs = ys) = true) := decide_eq_true (by have := HT.out; rw [List.take_length, HN.out, List.take_length] at this; exact this)
        go_wp2_with fail
        go_ret
        rw [HR.out]
        exact ⟨rfl, HG.out⟩
  · have hni : ((xs.length : Int) != (ys.length : Int)) = true := by rw [bne_iff_ne]; omega
    have HR : Hid (decide (xs = ys) = false) := decide_eq_false fun e => hn (by rw [e])
    go_enter Tryz.func57, Tryz.ntmps57
    go_wp2_with fail
    go_ret
    rw [HR.out]
    exact ⟨rfl, only_refl _ _⟩

def exB : Ent := ⟨⟨#[98]⟩, ⟨#[50]⟩⟩
def exA : Ent := ⟨⟨#[97]⟩, ⟨#[49]⟩⟩
theorem good_two (a : UInt8) (h : a.toNat < 128) : goodR [a] = true := good_abc _ (by intro x hx; simp at hx; subst hx; exact h)
theorem ex_check : checkE exB = 0 ∧ checkE exA = 0 := by
  constructor
  · unfold checkE exB checkN; simp only; rw [good_two _ (by decide), good_two _ (by decide)]; simp [ByteArray.size]
  · unfold checkE exA checkN; simp only; rw [good_two _ (by decide), good_two _ (by decide)]; simp [ByteArray.size]
theorem ex_sort : sortE [exB, exA] = [exA, exB] := by
  have h : ¬ cmpE exB exA < 0 := by decide
  simp [sortE, insE, h]
theorem ex_ofD : ofD [exB, exA] = ([exA, exB], 0) := by
  have h1 : firstE [exB, exA] = 0 := by simp [firstE, ex_check.1, ex_check.2]
  have h2 : twiceE [exA, exB] = false := by decide
  unfold ofD
  rw [if_neg (by simp [countE]), if_neg (by simp [h1]), ex_sort, if_neg (by simp [h2])]
theorem ex_key : txt (keyD [exA, exB]) = ⟨#[2, 1, 97, 1, 49, 1, 98, 1, 50]⟩ := by
  have e1 : enc 1 = [1] := enc_small (by omega)
  have e2 : enc 2 = [2] := enc_small (by omega)
  have p1 : putE exA = [1, 97, 1, 49] := by
    show (enc 1 ++ [97]) ++ (enc 1 ++ [49]) = _
    rw [e1]; rfl
  have p2 : putE exB = [1, 98, 1, 50] := by
    show (enc 1 ++ [98]) ++ (enc 1 ++ [50]) = _
    rw [e1]; rfl
  unfold keyD
  show txt (enc 2 ++ ([putE exA, putE exB] : List (List UInt8)).flatten) = _
  rw [e2, p1, p2]
  rfl
theorem es_two (w : World) (x y : Ent) (ty : TypeId) : Es (w.heap.size + 1) (w.alloc (.cells #[.string x.key, .string x.value, .string y.key, .string y.value] ty)) (.slice (some ⟨w.heap.size, 0, none⟩) 2 2) [x, y] :=
  ⟨_, _, rfl, .inr ⟨w.heap.size, 0, rfl, by omega, by simp, by unfold maxLen; omega, fun i z hz => by
    have hi : i = 0 ∨ i = 1 := by have := (List.getElem?_eq_some_iff.1 hz).1; simp at this; omega
    rcases hi with rfl | rfl
    · simp at hz; subst hz
      exact ⟨by rw [cell_new]; rfl, by rw [cell_new]; rfl⟩
    · simp at hz; subst hz
      exact ⟨by rw [cell_new]; rfl, by rw [cell_new]; rfl⟩⟩⟩

set_option maxHeartbeats 2000000 in
set_option maxRecDepth 100000 in
theorem awake_any (w : World) (hT : tb.Tab w) :
    Calls Tryz.prog 142 #[] w fun e w' => e = .returned (.bool true) ∧ w.grownBy w' none := by
  have HT := Lib.hid (fun w' (g : w.grownBy w' none) => law11.Awake_any ee.ecore w' (tb.kept hT g))
  have hes := es_two w exB exA 115
  have hga := only_alloc (only_refl w none) (.cells #[.string exB.key, .string exB.value, .string exA.key, .string exA.value] 115)
  have HO := Lib.hid (of_any [exB, exA] _ _ _ (by simp) (by intro x hx; simp at hx; rcases hx with rfl | rfl <;> simp [exB, exA, ByteArray.size, maxLen]) (tb.kept hT hga) hes)
  have HGA := Lib.hid hga
  rw [ex_ofD] at HO
  have HK := Lib.hid (fun B w v h => key_any [exA, exB] B w v (by simp) (by intro x hx; simp at hx; rcases hx with rfl | rfl <;> simp [exB, exA, ByteArray.size]) (by rw [← txt_size, ex_key]; simp [ByteArray.size]) h)
  rw [ex_key] at HK
  clear hes hga hT
  go_enter Tryz.func142, Tryz.ntmps142
  go_wp2_with fail
  refine HO.out.mono ?_
  rintro e w1 ⟨v1, rfl, e1, g1⟩
  have HE1 := Lib.hid e1
  have HG1 := Lib.hid (only_trans HGA.out g1)
  obtain ⟨va, vc, rfl⟩ := e1.shape
  clear e1 g1
  go_wp2_with fail
  refine (HT.out _ HG1.out).mono ?_
  rintro e w2 ⟨rfl, g2⟩
  have HE2 := Lib.hid (HE1.out.grown g2)
  have HG2 := Lib.hid (only_trans HG1.out g2)
  clear g2
  go_wp2_with fail
  refine (HK.out _ _ _ HE2.out).mono ?_
  rintro e w3 ⟨rfl, g3⟩
  have HG3 := Lib.hid (only_trans HG2.out g3)
  clear g3
  go_wp2_with fail
  go_ret
  exact ⟨rfl, HG3.out⟩

theorem Awake_any (w : World) (hT : tb.Tab w) :
    Calls Tryz.prog 129 #[] w fun e w' => e = .returned (.bool true) ∧ w.grownBy w' none := by
  go_enter Tryz.func129, Tryz.ntmps129
  go_wp2_with (go_at_call 142; refine (awake_any _ hT).mono ?_; rintro e w' ⟨rfl, g⟩)
  go_ret
  exact ⟨rfl, g⟩

end Go.Proofs.YtbebdaglkjhbjaaGreatDoor.law12

/-
  The statement DescrApart.
-/
namespace Go.Proofs.YtbebdaglkjhbjaaGreatDoor.law12
open Go.RowKit Go.Proofs.YtbebdaglkjhbjaaGreatDoor.vi Go.Proofs.YtbebdaglkjhbjaaGreatDoor.um Go.Proofs.YtbebdaglkjhbjaaGreatDoor.wm Go.Proofs.YtbebdaglkjhbjaaGreatDoor.tr Go.Proofs.YtbebdaglkjhbjaaGreatDoor.em Go.Proofs.YtbebdaglkjhbjaaGreatDoor.cur Go.Proofs.YtbebdaglkjhbjaaGreatDoor.law11 Go.Proofs.YtbebdaglkjhbjaaGreatDoor.dd Go.Proofs.YtbebdaglkjhbjaaGreatDoor.dr
set_option linter.unusedVariables false
set_option linter.unusedSimpArgs false

theorem puts_len : ∀ {l : List Ent}, (∀ x ∈ l, x.key.size + x.value.size ≤ 600) → ((l.map putE).flatten).length ≤ l.length * 620
  | [], _ => by simp
  | x :: r, h => by
    have hx := h x (by simp)
    have ih := puts_len (l := r) fun y hy => h y (by simp [hy])
    have e1 : (enc x.key.size).length ≤ 10 := enc_len_ten (by omega)
    have e2 : (enc x.value.size).length ≤ 10 := enc_len_ten (by omega)
    have hp : (putE x).length ≤ 620 := by
      unfold putE
      rw [List.length_append, tw_len, tw_len]
      omega
    simp only [List.map_cons, List.flatten_cons, List.length_append, List.length_cons]
    omega
theorem key_small {l : List Ent} (hl : l.length ≤ 40) (h : ∀ x ∈ l, x.key.size + x.value.size ≤ 600) : (keyD l).length ≤ 30000 := by
  have h1 := puts_len h
  have e1 : (enc l.length).length ≤ 10 := enc_len_ten (by omega)
  unfold keyD
  rw [List.length_append]
  omega
theorem ofD_err {xs : List Ent} (h0 : (ofD xs).2 ≠ 0) : (ofD xs).1 = [] := by
  unfold ofD at h0 ⊢
  split
  · rfl
  · rename_i k1
    rw [if_neg k1] at h0
    split
    · rfl
    · rename_i k2
      rw [if_neg k2] at h0
      split
      · rfl
      · rename_i k3
        rw [if_neg k3] at h0
        exact absurd rfl h0
theorem ofD_small {xs : List Ent} (h : fewE xs = true) : (ofD xs).1.length ≤ 40 ∧ ∀ x ∈ (ofD xs).1, x.key.size + x.value.size ≤ 600 := by
  obtain ⟨h1, h2⟩ := few_facts h
  by_cases h0 : (ofD xs).2 = 0
  · rw [(ofD_ok h0).1, (sort_perm xs).length_eq]
    exact ⟨h1, fun x hx => h2 x ((sort_perm xs).mem_iff.1 hx)⟩
  · rw [ofD_err h0]
    simp

theorem ofD_small2 {xs : List Ent} (h : xs.length ≤ 40) : (ofD xs).1.length ≤ 40 ∧ ∀ x ∈ (ofD xs).1, x.key.size + x.value.size ≤ 600 := by
  by_cases h0 : (ofD xs).2 = 0
  · obtain ⟨h1, h2⟩ := ofD_ok h0
    rw [h1, (sort_perm xs).length_eq]
    refine ⟨h, fun x hx => ?_⟩
    have := checkE_small (((checkD_ok _).1 h2).2.2.1 x hx)
    omega
  · rw [ofD_err h0]
    simp

/-- Keys of two descriptors that may be, and are not the same. -/
theorem keys_apart {x y : List Ent} (hx : checkD x = 0) (hy : checkD y = 0) (hne : x ≠ y) : txt (keyD x) ≠ (txt (keyD y)).extract 0 (txt (keyD x)).size := fun e => by
  have h1 : keyD x = (keyD y).take (keyD x).length := by
    have h2 := congrArg (fun b : ByteArray => b.data.toList) e
    simp only [txt_list, txt_size] at h2
    rw [h2]
    simp [txt]
  have h3 := key_apart hx hy (r := (keyD y).drop (keyD x).length) (by
    conv => rhs; lhs; rw [h1]
    rw [List.take_append_drop])
  exact hne h3.1
theorem keys_ne {x y : List Ent} (hx : checkD x = 0) (hy : checkD y = 0) (hne : x ≠ y) : txt (keyD x) ≠ txt (keyD y) := fun e => by
  have h := congrArg (fun b : ByteArray => b.data.toList) e
  simp only [txt_list] at h
  exact hne (key_apart hx hy (r := []) (by rw [List.append_nil]; exact h.symm)).1

end Go.Proofs.YtbebdaglkjhbjaaGreatDoor.law12
