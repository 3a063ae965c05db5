/-
  The document's descriptors.
-/
import Derived.Test.YtiolkedmpjjojaaGreatDoorDmath
import Derived.Test.YtiolkedmpjjojaaGreatDoorEs
import Derived.Test.YtiolkedmpjjojaaGreatDoorEref
import Derived.Test.YtiolkedmpjjojaaGreatDoorLaw11
import Derived.Test.YtiolkedmpjjojaaGreatDoorDnxt
namespace Go.Proofs.YtiolkedmpjjojaaGreatDoor.dr
open Go.RowKit Go.Proofs.YtiolkedmpjjojaaGreatDoor.vi Go.Proofs.YtiolkedmpjjojaaGreatDoor.um Go.Proofs.YtiolkedmpjjojaaGreatDoor.wm Go.Proofs.YtiolkedmpjjojaaGreatDoor.tr Go.Proofs.YtiolkedmpjjojaaGreatDoor.em Go.Proofs.YtiolkedmpjjojaaGreatDoor.law11 Go.Proofs.YtiolkedmpjjojaaGreatDoor.dd
set_option linter.unusedVariables false
set_option linter.unusedSimpArgs false

theorem rcount_any (n : Nat) (hn : n < 18446744073709551616) (w : World) :
    Calls Tryz.prog 52 #[.int .u64 (n : Nat)] w fun e w' => e = .returned (.int .i64 (countE n : Nat)) ∧ w = w' := by
  unfold countE
  by_cases h0 : n = 0
  · rw [if_pos h0]
    subst h0
    go_enter Tryz.func52, Tryz.ntmps52
    go_wp2_with fail
    go_ret
    exact ⟨rfl, rfl⟩
  · rw [if_neg h0]
    have h0i : ((n : Int) == 0) = false := by simpa using h0
    by_cases h1 : 16 < n
    · rw [if_pos h1]
      have h1i : (16 : Int) < (n : Int) := by omega
      go_enter Tryz.func52, Tryz.ntmps52
      go_wp2_with fail
      go_ret
      exact ⟨rfl, rfl⟩
    · rw [if_neg h1]
      have h1i : ¬ (16 : Int) < (n : Int) := by omega
      go_enter Tryz.func52, Tryz.ntmps52
      go_wp2_with fail
      go_ret
      exact ⟨rfl, rfl⟩

set_option maxHeartbeats 1000000 in
set_option maxRecDepth 100000 in
theorem rbehind_any (x y : Ent) (h1 : x.key.size ≤ 1000000) (h2 : x.value.size ≤ 1000000) (h3 : y.key.size ≤ 1000000) (h4 : y.value.size ≤ 1000000) (w : World) :
    Calls Tryz.prog 54 #[.agg #[.string x.key, .string x.value], .agg #[.string y.key, .string y.value]] w fun e w' => e = .returned (.int .i64 (behindE x y : Nat)) ∧ w.grownBy w' none := by
  have HC := Lib.hid (fun w => rcmp_any x y h1 h2 h3 h4 w)
  have G0 := Lib.hid (only_alloc (only_alloc (only_refl w none) (.cells #[.string x.key, .string x.value] 30)) (.cells #[.string y.key, .string y.value] 30))
  have V0 := Lib.hid (two_vars w 30 x y _ (only_refl _ none))
  have hk0 := beq_bytes x.key y.key
  unfold behindE
  by_cases hk : x.key = y.key
  · rw [if_pos hk]
    have hb : (x.key.toList == y.key.toList) = true := by rw [hk0]; simp [hk]
    clear hk0 hk
    go_enter Tryz.func54, Tryz.ntmps54
    obtain ⟨a0, a1, b0, b1⟩ := V0.out
    go_wp2_with fail
    go_ret
    exact ⟨rfl, G0.out⟩
  · rw [if_neg hk]
    have hb : (x.key.toList == y.key.toList) = false := by rw [hk0]; simp [hk]
    clear hk0 hk
    generalize cmpE x y = c at *
    obtain ⟨a0, a1, b0, b1⟩ := V0.out
    by_cases hc : 0 < c
    · rw [if_pos hc]
      go_enter Tryz.func54, Tryz.ntmps54
      go_wp2_with fail
      generalize (w.alloc (.cells #[.string x.key, .string x.value] 30)).alloc (.cells #[.string y.key, .string y.value] 30) = wa at *
      have HCG := Lib.hid (fun g : GW wa none => HC.out g.world)
      have hx0 : ∀ g : GW wa none, g.world.cell? ⟨w.heap.size, 0, none⟩ = some (.string x.key) := fun g => (Chg.of_none (S := fun _ => False) g.ok).cell a0 (fun e => e)
      have hx1 : ∀ g : GW wa none, g.world.cell? ⟨w.heap.size, 1, none⟩ = some (.string x.value) := fun g => (Chg.of_none (S := fun _ => False) g.ok).cell a1 (fun e => e)
      have hy0 : ∀ g : GW wa none, g.world.cell? ⟨w.heap.size + 1, 0, none⟩ = some (.string y.key) := fun g => (Chg.of_none (S := fun _ => False) g.ok).cell b0 (fun e => e)
      have hy1 : ∀ g : GW wa none, g.world.cell? ⟨w.heap.size + 1, 1, none⟩ = some (.string y.value) := fun g => (Chg.of_none (S := fun _ => False) g.ok).cell b1 (fun e => e)
      first
        | (refine (HC.out _).mono ?_; rintro e w1 ⟨rfl, g1⟩; have HW := Lib.hid g1)
        | (refine wp_region_gw wa none (by kernel_rfl) (by kernel_rfl) (only_refl _ _) ?_
           repeat (go_big_quiet_step ((go_at_call 18; exact calls_gw (HCG.out _))))
           refine wpQuiet_nil ?_
           rintro _ ⟨⟨w', hw'⟩, rfl⟩
           have HW := Lib.hid hw')
      go_wp2_with fail
      go_ret
      exact ⟨rfl, only_trans G0.out HW.out⟩
    · rw [if_neg hc]
      have hci : ¬ 0 < c := hc
      go_enter Tryz.func54, Tryz.ntmps54
      go_wp2_with fail
      generalize (w.alloc (.cells #[.string x.key, .string x.value] 30)).alloc (.cells #[.string y.key, .string y.value] 30) = wa at *
      have HCG := Lib.hid (fun g : GW wa none => HC.out g.world)
      have hx0 : ∀ g : GW wa none, g.world.cell? ⟨w.heap.size, 0, none⟩ = some (.string x.key) := fun g => (Chg.of_none (S := fun _ => False) g.ok).cell a0 (fun e => e)
      have hx1 : ∀ g : GW wa none, g.world.cell? ⟨w.heap.size, 1, none⟩ = some (.string x.value) := fun g => (Chg.of_none (S := fun _ => False) g.ok).cell a1 (fun e => e)
      have hy0 : ∀ g : GW wa none, g.world.cell? ⟨w.heap.size + 1, 0, none⟩ = some (.string y.key) := fun g => (Chg.of_none (S := fun _ => False) g.ok).cell b0 (fun e => e)
      have hy1 : ∀ g : GW wa none, g.world.cell? ⟨w.heap.size + 1, 1, none⟩ = some (.string y.value) := fun g => (Chg.of_none (S := fun _ => False) g.ok).cell b1 (fun e => e)
      first
        | (refine (HC.out _).mono ?_; rintro e w1 ⟨rfl, g1⟩; have HW := Lib.hid g1)
        | (refine wp_region_gw wa none (by kernel_rfl) (by kernel_rfl) (only_refl _ _) ?_
           repeat (go_big_quiet_step ((go_at_call 18; exact calls_gw (HCG.out _))))
           refine wpQuiet_nil ?_
           rintro _ ⟨⟨w', hw'⟩, rfl⟩
           have HW := Lib.hid hw')
      go_wp2_with fail
      go_ret
      exact ⟨rfl, only_trans G0.out HW.out⟩

set_option maxHeartbeats 2000000 in
set_option maxRecDepth 100000 in
theorem rcheckD_any (xs : List Ent) (B : Nat) (w : World) (v : Value) (hl : xs.length ≤ 1000) (hz : ∀ x ∈ xs, x.key.size ≤ 1000000 ∧ x.value.size ≤ 1000000) (h : Es B w v xs) :
    Calls Tryz.prog 30 #[v] w fun e w' => e = .returned (.int .i64 (checkD xs : Nat)) ∧ w.grownBy w' none := by
  have HC := Lib.hid (fun w => rcount_any xs.length (by omega) w)
  have HE := Lib.hid h.low
  have hmod : (xs.length : Int) % 18446744073709551616 = xs.length := by omega
  obtain ⟨a, cap, rfl⟩ := h.shape
  clear h
  go_enter Tryz.func30, Tryz.ntmps30
  go_wp2_with fail
  refine (HC.out _).mono ?_
  rintro e w0 ⟨rfl, rfl⟩
  go_wp2_with fail
  have HZ := Lib.hid hz
  have hclt := countE_lt xs.length
  clear hz
  go_loopw [3, 4] (fun ve q wr => ∃ (E i : Nat), E < 64 ∧ i ≤ xs.length ∧ ve = .int .i64 E ∧ q = .int .i64 i ∧ w.grownBy wr none ∧ checkD xs = (if E ≠ 0 then E else walkE ((xs.take i).getLast?) (xs.drop i))) (fun _ q _ => xs.length - (intOf q).toNat)
  case atStart => exact ⟨countE xs.length, 0, hclt, Nat.zero_le _, rfl, rfl, only_refl _ _, by simp [checkD]⟩
  case round =>
    obtain ⟨E, i, hE, hi, rfl, rfl, hg, hw⟩ := hrel
    have HG := Lib.hid hg
    have HW := Lib.hid hw
    clear hg hw
    by_cases hlt : i < xs.length
    · by_cases h0 : E = 0
      · subst h0
        have HW := Lib.hid (HW.out.trans (if_neg (by simp)))
        obtain ⟨x, hx⟩ : ∃ x, xs[i]? = some x := ⟨xs[i], List.getElem?_eq_getElem hlt⟩
        have HEi := Lib.hid (HE.out.grown HG.out)
        obtain ⟨b, off, cap', hv, hb, hle, hcm, c0, c1⟩ := HEi.out.at hx
        simp only [Value.slice.injEq, true_and] at hv
        obtain ⟨rfl, rfl⟩ := hv
        unfold maxLen at hcm
        have hsz := HZ.out x (List.mem_of_getElem? hx)
        have HWN := Lib.hid (HW.out.trans (walk_next _ hx))
        have HCK := Lib.hid (fun w => rcheckE_any x hsz.1 hsz.2 w)
        have h1lt := checkE_lt x
        have HLX := Lib.hid (last_snoc hx)
        clear hx HW
        by_cases h1 : checkE x = 0
        · rw [h1] at HCK HWN
          have HWN := Lib.hid (HWN.out.trans (if_neg (by simp)))
          clear h1lt h1
          by_cases h2 : i = 0
          · subst h2
            have HWN := Lib.hid (HWN.out.trans (if_neg (by simp [behindO])))
            simp only [Nat.zero_mul, Nat.add_zero] at c0 c1
            clear hsz
            go_wp2_with fail
            refine (HCK.out _).mono ?_
            rintro e w1 ⟨rfl, g1⟩
            have G1 := Lib.hid (only_trans HG.out g1)
            clear g1
            go_wp2_with fail
            go_roundw
            case rel => exact ⟨0, 1, by omega, by omega, rfl, by go_num, G1.out, by rw [HWN.out]; simp⟩
            case measure => simp [intOf]; omega
          · obtain ⟨j, rfl⟩ : ∃ j, i = j + 1 := ⟨i - 1, by omega⟩
            obtain ⟨y, hy⟩ : ∃ y, xs[j]? = some y := ⟨xs[j]'(by omega), List.getElem?_eq_getElem (by omega)⟩
            have hsy := HZ.out y (List.mem_of_getElem? hy)
            have HLY := Lib.hid (last_snoc hy)
            obtain ⟨b2, off2, cap2, hv2, -, -, -, e0, e1⟩ := HEi.out.at hy
            simp only [Value.slice.injEq, Option.some.injEq, Addr.mk.injEq, and_true, true_and] at hv2
            obtain ⟨⟨rfl, rfl⟩, rfl⟩ := hv2
            rw [HLY.out] at HWN
            have HBH := Lib.hid (fun w => rbehind_any y x hsy.1 hsy.2 hsz.1 hsz.2 w)
            have hbl := behindE_lt y x
            have HWN2 : Hid (checkD xs = (if behindE y x ≠ 0 then behindE y x else walkE ((xs.take (j + 1 + 1)).getLast?) (xs.drop (j + 1 + 1)))) := HWN.out
            clear hy hsy hsz HWN h2
            generalize behindE y x = q at *
            go_wp2_with fail
            refine (HCK.out _).mono ?_
            rintro e w1 ⟨rfl, g1⟩
            have G1 := Lib.hid (only_trans HG.out g1)
            have HBG := Lib.hid (fun g : GW w1 none => HBH.out g.world)
            have k1 := Chg.of_none (S := fun _ => False) g1
            have hx0 : ∀ g : GW w1 none, g.world.cell? ⟨b, off + (j + 1) * 2, none⟩ = some (.string x.key) := fun g => (Chg.of_none (S := fun _ => False) g.ok).cell (k1.cell c0 (fun e => e)) (fun e => e)
            have hx1 : ∀ g : GW w1 none, g.world.cell? ⟨b, off + (j + 1) * 2 + 1, none⟩ = some (.string x.value) := fun g => (Chg.of_none (S := fun _ => False) g.ok).cell (k1.cell c1 (fun e => e)) (fun e => e)
            have hy0 : ∀ g : GW w1 none, g.world.cell? ⟨b, off + j * 2, none⟩ = some (.string y.key) := fun g => (Chg.of_none (S := fun _ => False) g.ok).cell (k1.cell e0 (fun e => e)) (fun e => e)
            have hy1 : ∀ g : GW w1 none, g.world.cell? ⟨b, off + j * 2 + 1, none⟩ = some (.string y.value) := fun g => (Chg.of_none (S := fun _ => False) g.ok).cell (k1.cell e1 (fun e => e)) (fun e => e)
            clear g1 c0 c1 e0 e1 k1
            go_wp2_with fail
            refine wp_region_gw w1 none (by kernel_rfl) (by kernel_rfl) (only_refl _ _) ?_
            repeat (go_big_quiet_step ((go_at_call 54; exact calls_gw (HBG.out _))))
            refine wpQuiet_nil ?_
            rintro _ ⟨⟨w', hw'⟩, rfl⟩
            have HW' := Lib.hid hw'
            clear hw'
            go_wp2_with fail
            go_roundw
            case rel => exact ⟨q, j + 1 + 1, hbl, by omega, rfl, by go_num, only_trans G1.out HW'.out, HWN2.out⟩
            case measure => simp [intOf]; omega
        · have HWN := Lib.hid (HWN.out.trans (if_pos h1))
          have HQ := Lib.hid h1
          generalize checkE x = q at *
          have hqb : ((q : Int) == 0) = false := by simpa using h1
          clear h1 hsz
          go_wp2_with fail
          refine (HCK.out _).mono ?_
          rintro e w1 ⟨rfl, g1⟩
          have G1 := Lib.hid (only_trans HG.out g1)
          clear g1
          go_wp2_with fail
          go_roundw
          case rel => exact ⟨q, i + 1, h1lt, by omega, rfl, by go_num, G1.out, by rw [HWN.out, if_pos HQ.out]⟩
          case measure => simp [intOf]; omega
      · have HW := Lib.hid (HW.out.trans (if_pos h0))
        have h0b : ((E : Int) == 0) = false := by simpa using h0
        have hci : (i : Int) < (xs.length : Int) := by omega
        clear h0
        go_wp2_with fail
        go_ret
        rw [HW.out]
        exact ⟨rfl, HG.out⟩
    · have hie : i = xs.length := by omega
      subst hie
      rw [List.drop_length] at HW
      have HW : Hid (checkD xs = E) := by
        show _ = _
        rw [HW.out]
        by_cases h0 : E = 0
        · rw [if_neg (by simp [h0])]; simp [walkE, h0]
        · rw [if_pos h0]
      go_wp2_with fail
      go_ret
      rw [HW.out]
      exact ⟨rfl, HG.out⟩

set_option maxHeartbeats 2000000 in
set_option maxRecDepth 100000 in
theorem rkeyD_any (xs : List Ent) (B : Nat) (w : World) (v : Value) (hl : xs.length ≤ 1000) (hz : ∀ x ∈ xs, x.key.size ≤ 1000 ∧ x.value.size ≤ 1000) (hk : (keyD xs).length ≤ 1000000) (h : Es B w v xs) :
    Calls Tryz.prog 26 #[v] w fun e w' => e = .returned (.string (txt (keyD xs))) ∧ w.grownBy w' none := by
  have HP := Lib.hid (fun w => rput_any xs.length (by omega) w)
  have HE := Lib.hid h.low
  have hmod : (xs.length : Int) % 18446744073709551616 = xs.length := by omega
  obtain ⟨a, cap, rfl⟩ := h.shape
  clear h
  go_enter Tryz.func26, Tryz.ntmps26
  go_wp2_with fail
  refine (HP.out _).mono ?_
  rintro e w0 ⟨rfl, g0⟩
  go_wp2_with fail
  have HZ := Lib.hid hz
  have HG0 := Lib.hid g0
  have hkl : (enc xs.length).length + ((xs.map putE).flatten).length ≤ 1000000 := by unfold keyD at hk; rw [List.length_append] at hk; exact hk
  have HKD : Hid (txt (keyD xs) = encB xs.length ++ txt ((xs.map putE).flatten)) := by
    show _ = _
    apply ByteArray.ext
    simp [keyD, txt, encB_txt]
  have hn : (encB xs.length).size = (enc xs.length).length := by rw [encB_txt, txt_size]
  clear hz g0 hk
  go_loopw [3, 12] (fun vs q wr => ∃ i : Nat, i ≤ xs.length ∧ q = .int .i64 i ∧ vs = .string (encB xs.length ++ txt (((xs.take i).map putE).flatten)) ∧ w.grownBy wr none) (fun _ q _ => xs.length - (intOf q).toNat)
  case atStart => exact ⟨0, Nat.zero_le _, rfl, congrArg Value.string (by apply ByteArray.ext; simp [txt]), HG0.out⟩
  case round =>
    obtain ⟨i, hi, rfl, rfl, hg⟩ := hrel
    have HG := Lib.hid hg
    clear hg
    by_cases hlt : i < xs.length
    · obtain ⟨x, hx⟩ : ∃ x, xs[i]? = some x := ⟨xs[i], List.getElem?_eq_getElem hlt⟩
      obtain ⟨b, off, cap', hv, hb, hle, hcm, c0, c1⟩ := (HE.out.grown HG.out).at hx
      simp only [Value.slice.injEq, true_and] at hv
      obtain ⟨rfl, rfl⟩ := hv
      unfold maxLen at hcm
      have hsz := HZ.out x (List.mem_of_getElem? hx)
      have htk := keyD_take hx
      have hpl : ((xs.take i).map putE).flatten.length + (putE x).length ≤ ((xs.map putE).flatten).length := by
        rw [← List.length_append, ← htk]
        have := congrArg List.length (show (xs.map putE).flatten = ((xs.take (i + 1)).map putE).flatten ++ ((xs.drop (i + 1)).map putE).flatten by rw [← List.flatten_append, ← List.map_append, List.take_append_drop])
        rw [List.length_append] at this
        omega
      have HNX : Hid (encB xs.length ++ txt (((xs.take i).map putE).flatten) ++ txt (putE x) = encB xs.length ++ txt (((xs.take (i + 1)).map putE).flatten)) := by
        show _ = _
        rw [htk]
        apply ByteArray.ext
        simp [txt]
      have hs1 : (encB xs.length ++ txt (((xs.take i).map putE).flatten)).size ≤ 1000000 := by rw [ByteArray.size_append, hn, txt_size]; omega
      have hs2 : (txt (putE x)).size ≤ 1000000 := by rw [txt_size]; omega
      have G1 := Lib.hid (only_trans HG.out (only_alloc (only_refl wr none) (.cells #[.string x.key, .string x.value] 30)))
      have HPX := Lib.hid (fun w => rputE_any x (by omega) (by omega) w)
      clear hx hsz htk hpl
      generalize encB xs.length ++ txt (((xs.take i).map putE).flatten) = A at *
      generalize txt (putE x) = D at *
      go_wp2_with fail
      refine (HPX.out _).mono ?_
      rintro e w3 ⟨rfl, g3⟩
      have HG3 := Lib.hid (only_trans G1.out g3)
      clear g3
      go_wp2_with fail
      go_roundw
      case rel => exact ⟨i + 1, by omega, by go_num, congrArg Value.string HNX.out, HG3.out⟩
      case measure => simp [intOf]; omega
    · have hie : i = xs.length := by omega
      subst hie
      rw [List.take_length]
      rw [← HKD.out]
      go_wp2_with fail
      go_ret
      exact ⟨rfl, HG.out⟩

set_option maxRecDepth 100000 in
theorem rless12_any (a b : ByteArray) (h1 : a.size ≤ 1000000) (h2 : b.size ≤ 1000000) (w : World) :
    Calls Tryz.prog 27 #[.string a, .string b] w fun e w' => e = .returned (.bool (decide (cmpB a b < 0))) ∧ w.grownBy w' none := by
  have HC := Lib.hid (fun w => rcmp_any ⟨a, ByteArray.empty⟩ ⟨b, ByteArray.empty⟩ h1 (by simp) h2 (by simp) w)
  have HR : Hid (decide (cmpE ⟨a, ByteArray.empty⟩ ⟨b, ByteArray.empty⟩ < 0) = decide (cmpB a b < 0)) := by
    show _ = _
    unfold cmpE
    by_cases h : a = b
    · subst h
      simp [(cmpB_zero a a).2 rfl, (cmpB_zero ByteArray.empty ByteArray.empty).2 rfl]
    · simp [h]
  rw [← HR.out]
  generalize cmpE ⟨a, ByteArray.empty⟩ ⟨b, ByteArray.empty⟩ = c at *
  go_enter Tryz.func27, Tryz.ntmps27
  go_wp2_with fail
  refine (HC.out _).mono ?_
  rintro e w0 ⟨rfl, g0⟩
  go_wp2_with fail
  go_ret
  exact ⟨rfl, g0⟩

theorem Tryz.infoRE : (Tryz.prog.info? 30).map (fun i => (i.zero, i.size, i.bytes)) = some (some (.agg #[.string ⟨#[]⟩, .string ⟨#[]⟩]), 2, 32) := by kernel_rfl
theorem nextE_le (L : List UInt8) : (nextE L).2.1.length ≤ L.length := by
  have h1 := tw_le L
  have h2 := tw_le (textW L).2.1
  unfold nextE
  split
  · simp
  · split
    · simp
    · split
      · simp
      · show (textW (textW L).2.1).2.1.length ≤ _; omega
theorem nextE_small {L : List UInt8} : (nextE L).1.key.size ≤ 64 ∧ (nextE L).1.value.size ≤ 256 := by
  by_cases h : (nextE L).2.2 = 0
  · have := checkE_small (nextE_ok h).2
    exact ⟨this.2.1, this.2.2⟩
  · rw [(nextE_err h).1]
    simp [zeroE]

set_option maxHeartbeats 4000000 in
set_option maxRecDepth 100000 in
theorem rnextD_any (s : ByteArray) (hs : s.size ≤ 1000000) (w : World) :
    Calls Tryz.prog 36 #[.string s] w fun e w' => ∃ v, e = .returned (.tuple #[v, .string (txt (nextD s.data.toList).2.1), .int .i64 ((nextD s.data.toList).2.2 : Nat)]) ∧ OwnE 30 w.heap.size w' v (nextD s.data.toList).1 ∧ w.grownBy w' none := by
  have HG := Lib.hid (rget_any s (by unfold maxLen; omega) w)
  have hb := getR_bounds s.data.toList
  have hl : s.data.toList.length = s.size := by simp
  have HX : Hid (nextD s.data.toList = if (getR s.data.toList).2.2 ≠ 0 then ([], [], (getR s.data.toList).2.2) else if countE (getR s.data.toList).1 ≠ 0 then ([], [], countE (getR s.data.toList).1) else readE (getR s.data.toList).1 none (s.data.toList.drop (getR s.data.toList).2.1)) := rfl
  generalize nextD s.data.toList = R at *
  generalize getR s.data.toList = r at *
  obtain ⟨x, m, E⟩ := r
  unfold getV at HG
  simp only at hb HG HX
  rw [hl] at hb
  obtain ⟨hx, hm, -, hE, -⟩ := hb
  have HC := Lib.hid (fun w => rcount_any x hx w)
  have hclt := countE_lt x
  clear hl
  by_cases h0 : E = 0
  · subst h0
    by_cases h1 : countE x = 0
    · rw [h1] at HC
      have HX := Lib.hid (HX.out.trans ((if_neg (by simp)).trans (if_neg (by simp [h1]))))
      have hx16 : x ≤ 16 ∧ 1 ≤ x := by unfold countE at h1; split at h1 <;> (try split at h1) <;> omega
      have HX := Lib.hid (HX.out.trans (glueE_nil _ (readE_err x none (s.data.toList.drop m))))
      have HEX := Lib.hid (show (s.extract m s.size).data.toList = s.data.toList.drop m from bytes_drop s m)
      have hes : (s.extract m s.size).size ≤ 1000000 := by simp; omega
      clear h1 hclt
      go_enter Tryz.func36, Tryz.ntmps36
      go_wp2_with fail
      refine HG.out.mono ?_
      rintro e w1 ⟨rfl, rfl⟩
      go_wp2_with fail
      refine (HC.out _).mono ?_
      rintro e w0 ⟨rfl, rfl⟩
      go_wp2_with fail
      generalize s.extract m s.size = s0 at *
      go_loopw [8, 0, 9] (fun v vs q wr => ∃ (acc : List Ent) (cu : ByteArray), acc.length ≤ x ∧ vs = .string cu ∧ q = .int .u64 acc.length ∧ cu.size ≤ 1000000 ∧ (∀ y ∈ acc, y.key.size ≤ 64 ∧ y.value.size ≤ 256) ∧ OwnE 30 w.heap.size wr v acc ∧ w.grownBy wr none ∧ R = glueE acc (readE (x - acc.length) acc.getLast? cu.data.toList)) (fun _ _ q _ => x - (intOf q).toNat)
      case atStart => exact ⟨[], s0, Nat.zero_le _, rfl, rfl, hes, by simp, OwnE.nil _ _ _, only_refl _ _, by rw [HX.out, HEX.out]; rfl⟩
      case round =>
        obtain ⟨acc, cu, hi, rfl, rfl, hcs, hsm, ho, hg, hr⟩ := hrel
        have HO := Lib.hid ho
        have HGr := Lib.hid hg
        have HR := Lib.hid hr
        have HSM := Lib.hid hsm
        clear ho hg hr hsm
        by_cases hlt : acc.length < x
        · obtain ⟨n, hn⟩ : ∃ n, x - acc.length = n + 1 := ⟨x - acc.length - 1, by omega⟩
          have HNX := Lib.hid (rnextE_any cu hcs wr)
          have HST := Lib.hid (HR.out.trans ((congrArg (fun z => glueE acc (readE z acc.getLast? cu.data.toList)) hn).trans (glueE_step acc n acc.getLast? cu.data.toList)))
          have hlt64 := nextE_lt cu.data.toList
          have hsm2 := @nextE_small cu.data.toList
          have hle := nextE_le cu.data.toList
          have hcl : cu.data.toList.length = cu.size := by simp
          rw [hcl] at hle
          clear HR HX hcl
          generalize nextE cu.data.toList = Y at *
          obtain ⟨y, L', q⟩ := Y
          simp only at HNX HST hlt64 hsm2 hle
          have HTL := Lib.hid (txt_list L')
          have hts : (txt L').size ≤ 1000000 := by rw [txt_size]; omega
          by_cases h1 : q = 0
          · subst h1
            have HST := Lib.hid (HST.out.trans (if_neg (by simp)))
            obtain ⟨va, vc, hv⟩ := HO.out.es.shape
            have HOV := HO.out
            rw [hv] at HOV
            have HO2 := Lib.hid HOV
            subst hv
            have hvb := HOV.lt
            clear HOV HO
            have GA := fun w3 (g3 : wr.grownBy w3 none) => only_trans g3 (only_alloc (only_refl w3 none) (.cells #[.string y.key, .string y.value] 30))
            by_cases h2 : acc.length = 0
            · have h2 : acc = [] := List.length_eq_zero_iff.1 h2
              subst h2
              have HST := Lib.hid (HST.out.trans (if_neg (by simp [behindO])))
              go_wp2_with fail
              refine HNX.out.mono ?_
              rintro e w3 ⟨rfl, g3⟩
              have HO4 := Lib.hid (HO2.out.grown (GA w3 g3))
              have HG4 := Lib.hid (only_trans HGr.out (GA w3 g3))
              have V4 := Lib.hid (EntV.new w3 30 y)
              have hw3 : w.heap.size ≤ w3.heap.size := Nat.le_trans HGr.out.size g3.size
              clear g3 GA
              have GB := only_alloc (only_refl (w3.alloc (.cells #[.string y.key, .string y.value] 30)) none) (.cells #[.string y.key, .string y.value] 30)
              have HO5 := Lib.hid (HO4.out.grown GB)
              have HG5 := Lib.hid (only_trans HG4.out GB)
              have hone := es_one (w3.alloc (.cells #[.string y.key, .string y.value] 30)) y 30
              rw [show (w3.alloc (.cells #[.string y.key, .string y.value] 30)).heap.size = w3.heap.size + 1 by simp] at hone
              have HONE := Lib.hid hone
              clear GB hone
              obtain ⟨d0, d1⟩ := V4.out
              go_wp2_with (at_builtin; refine wpList_append_es rfl _ _ 46 30 rfl _ Tryz.underlying46 Tryz.infoRE rfl w.heap.size _ _ [] [y] rfl HO5.out _ rfl HONE.out ?c1 ?c2 ?_)
              case c1 => simp
              case c2 => simp; omega
              intro v6 w6 ho6 hg6 _
              have HO6 := Lib.hid ho6
              have HG6 := Lib.hid (only_row HG5.out hg6 (fun k e => (hvb k e).1))
              clear ho6 hg6
              go_wp2_with fail
              go_roundw
              case rel => exact ⟨[] ++ [y], txt L', by simp; omega, rfl, by go_num, hts, by simpa using hsm2, HO6.out, HG6.out, by rw [HST.out, HTL.out, show x - ([] ++ [y] : List Ent).length = n by simp at hn ⊢; omega]; simp⟩
              case measure => simp [intOf]; omega
            · obtain ⟨j, hj⟩ : ∃ j, acc.length = j + 1 := ⟨acc.length - 1, by omega⟩
              obtain ⟨z, hz⟩ : ∃ z, acc[j]? = some z := ⟨acc[j]'(by omega), List.getElem?_eq_getElem (by omega)⟩
              have HLZ : Hid (acc.getLast? = some z) := by
                show _ = _
                rw [List.getLast?_eq_getElem?, hj]
                exact hz
              have hzs := HSM.out z (List.mem_of_getElem? hz)
              rw [HLZ.out] at HST
              have HST : Hid (R = (if behindE z y ≠ 0 then ([], [], behindE z y) else glueE (acc ++ [y]) (readE n (some y) L'))) := HST.out
              have HBH := Lib.hid (fun w => rbehind_any z y (by omega) (by omega) (by omega) (by omega) w)
              have hbl := behindE_lt z y
              have HZA := Lib.hid (fun w' (g : wr.grownBy w' none) => (HO2.out.es.grown g).at hz)
              have hidx : ((acc.length : Int) - 1) = (j : Int) := by omega
              have HSN : Hid (∀ u ∈ acc ++ [y], u.key.size ≤ 64 ∧ u.value.size ≤ 256) := by
                intro u hu
                rcases List.mem_append.1 hu with hu | hu
                · exact HSM.out u hu
                · obtain rfl : u = y := by simpa using hu
                  exact hsm2
              have hjl : j < acc.length := by omega
              have HJ := Lib.hid hj
              have hpos : ¬ acc.length = 0 := h2
              clear hz hzs hj h2
              by_cases h3 : behindE z y = 0
              · have HST := Lib.hid (HST.out.trans (if_neg (by simp [h3])))
                rw [h3] at HBH
                clear h3 hbl
                go_wp2_with fail
                refine HNX.out.mono ?_
                rintro e w3 ⟨rfl, g3⟩
                have HO4 := Lib.hid (HO2.out.grown (GA w3 g3))
                have HG4 := Lib.hid (only_trans HGr.out (GA w3 g3))
                have V4 := Lib.hid (EntV.new w3 30 y)
                obtain ⟨zb, zo, zc, hzv, -, hz1, hz2, e0, e1⟩ := HZA.out _ (GA w3 g3)
                simp only [Value.slice.injEq, true_and] at hzv
                obtain ⟨rfl, rfl⟩ := hzv
                have hw3 : w.heap.size ≤ w3.heap.size := Nat.le_trans HGr.out.size g3.size
                unfold maxLen at hz2
                clear g3 GA
                obtain ⟨d0, d1⟩ := V4.out
                go_wp2_with fail
                generalize hwa : w3.alloc (.cells #[.string y.key, .string y.value] 30) = wa at *
                have HBG := Lib.hid (fun g : GW wa none => HBH.out g.world)
                have hx0 : ∀ g : GW wa none, g.world.cell? ⟨w3.heap.size, 0, none⟩ = some (.string y.key) := fun g => (V4.out.grown g.ok).1
                have hx1 : ∀ g : GW wa none, g.world.cell? ⟨w3.heap.size, 1, none⟩ = some (.string y.value) := fun g => (V4.out.grown g.ok).2
                have hz0 : ∀ g : GW wa none, g.world.cell? ⟨zb, zo + j * 2, none⟩ = some (.string z.key) := fun g => (Chg.of_none (S := fun _ => False) g.ok).cell e0 (fun e => e)
                have hz1 : ∀ g : GW wa none, g.world.cell? ⟨zb, zo + j * 2 + 1, none⟩ = some (.string z.value) := fun g => (Chg.of_none (S := fun _ => False) g.ok).cell e1 (fun e => e)
                clear e0 e1 d0 d1
                refine wp_region_gw wa none (by kernel_rfl) (by kernel_rfl) (only_refl _ _) ?_
                repeat (go_big_quiet_step ((go_at_call 54; exact calls_gw (HBG.out _))))
                refine wpQuiet_nil ?_
                rintro wb ⟨⟨_, hwb⟩, rfl⟩
                have HO6 := Lib.hid (HO4.out.grown hwb)
                have HG6 := Lib.hid (only_trans HG4.out hwb)
                obtain ⟨d0, d1⟩ := V4.out.grown hwb
                clear hwb
                have GB := only_alloc (only_refl wb none) (.cells #[.string y.key, .string y.value] 30)
                have HO7 := Lib.hid (HO6.out.grown GB)
                have HG7 := Lib.hid (only_trans HG6.out GB)
                have HONE := Lib.hid (es_one wb y 30)
                have hwz : w.heap.size ≤ wb.heap.size := HG6.out.size
                clear GB
                go_wp2_with (at_builtin; refine wpList_append_es rfl _ _ 46 30 rfl _ Tryz.underlying46 Tryz.infoRE rfl w.heap.size _ _ acc [y] rfl HO7.out _ rfl HONE.out ?c1 ?c2 ?_)
                case c1 => simp; omega
                case c2 => simp; omega
                intro v6 w6 ho6 hg6 _
                have HO8 := Lib.hid ho6
                have HG8 := Lib.hid (only_row HG7.out hg6 (fun k e => (hvb k e).1))
                clear ho6 hg6
                go_wp2_with fail
                go_roundw
                case rel => exact ⟨acc ++ [y], txt L', by simp; omega, rfl, by rw [List.length_append]; go_num, hts, HSN.out, HO8.out, HG8.out, by rw [HST.out, HTL.out, show x - (acc ++ [y]).length = n by simp; omega]; simp⟩
                case measure => simp [intOf]; omega
              · have HST := Lib.hid (HST.out.trans (if_pos h3))
                have HQ := Lib.hid h3
                generalize behindE z y = q at *
                have hqb : ((q : Int) != 0) = true := by rw [bne_iff_ne]; omega
                clear h3 hbl
                go_wp2_with fail
                refine HNX.out.mono ?_
                rintro e w3 ⟨rfl, g3⟩
                have HO4 := Lib.hid (HO2.out.grown (GA w3 g3))
                have HG4 := Lib.hid (only_trans HGr.out (GA w3 g3))
                have V4 := Lib.hid (EntV.new w3 30 y)
                obtain ⟨zb, zo, zc, hzv, -, hz1, hz2, e0, e1⟩ := HZA.out _ (GA w3 g3)
                simp only [Value.slice.injEq, true_and] at hzv
                obtain ⟨rfl, rfl⟩ := hzv
                have hw3 : w.heap.size ≤ w3.heap.size := Nat.le_trans HGr.out.size g3.size
                unfold maxLen at hz2
                clear g3 GA
                obtain ⟨d0, d1⟩ := V4.out
                go_wp2_with fail
                generalize hwa : w3.alloc (.cells #[.string y.key, .string y.value] 30) = wa at *
                have HBG := Lib.hid (fun g : GW wa none => HBH.out g.world)
                have hx0 : ∀ g : GW wa none, g.world.cell? ⟨w3.heap.size, 0, none⟩ = some (.string y.key) := fun g => (V4.out.grown g.ok).1
                have hx1 : ∀ g : GW wa none, g.world.cell? ⟨w3.heap.size, 1, none⟩ = some (.string y.value) := fun g => (V4.out.grown g.ok).2
                have hz0 : ∀ g : GW wa none, g.world.cell? ⟨zb, zo + j * 2, none⟩ = some (.string z.key) := fun g => (Chg.of_none (S := fun _ => False) g.ok).cell e0 (fun e => e)
                have hz1 : ∀ g : GW wa none, g.world.cell? ⟨zb, zo + j * 2 + 1, none⟩ = some (.string z.value) := fun g => (Chg.of_none (S := fun _ => False) g.ok).cell e1 (fun e => e)
                clear e0 e1 d0 d1
                refine wp_region_gw wa none (by kernel_rfl) (by kernel_rfl) (only_refl _ _) ?_
                repeat (go_big_quiet_step ((go_at_call 54; exact calls_gw (HBG.out _))))
                refine wpQuiet_nil ?_
                rintro wb ⟨⟨_, hwb⟩, rfl⟩
                have HO6 := Lib.hid (HO4.out.grown hwb)
                have HG6 := Lib.hid (only_trans HG4.out hwb)
                obtain ⟨d0, d1⟩ := V4.out.grown hwb
                clear hwb
                go_wp2_with fail
                go_ret3
                rw [HST.out]
                exact ⟨_, rfl, OwnE.nil _ _ _, HG6.out⟩
          · have HST := Lib.hid (HST.out.trans (if_pos h1))
            have hqb : ((q : Int) != 0) = true := by rw [bne_iff_ne]; omega
            have hqc : ((q : Int) == 0) = false := by simpa using h1
            clear h1
            go_wp2_with fail
            refine HNX.out.mono ?_
            rintro e w3 ⟨rfl, g3⟩
            have HG3 := Lib.hid (only_alloc (only_trans HGr.out g3) (.cells #[.string y.key, .string y.value] 30))
            clear g3
            go_wp2_with fail
            go_ret3
            rw [HST.out]
            exact ⟨_, rfl, OwnE.nil _ _ _, HG3.out⟩
        · have hie : x - acc.length = 0 := by omega
          rw [hie, glueE_zero] at HR
          have HCU : Hid (txt cu.data.toList = cu) := by
            show _ = _
            apply bytes_inj
            rw [txt_list]
          go_wp2_with fail
          go_ret3
          rw [HR.out]
          exact ⟨_, ret3 rfl (congrArg Value.string HCU.out.symm) rfl, HO.out, HGr.out⟩
    · have HX := Lib.hid (HX.out.trans ((if_neg (by simp)).trans (if_pos h1)))
      generalize countE x = q at *
      have hqb : ((q : Int) != 0) = true := by rw [bne_iff_ne]; omega
      clear h1
      go_enter Tryz.func36, Tryz.ntmps36
      go_wp2_with fail
      refine HG.out.mono ?_
      rintro e w1 ⟨rfl, rfl⟩
      go_wp2_with fail
      refine (HC.out _).mono ?_
      rintro e w0 ⟨rfl, rfl⟩
      go_wp2_with fail
      go_ret3
      rw [HX.out]
      exact ⟨_, rfl, OwnE.nil _ _ _, only_refl _ _⟩
  · have HX := Lib.hid (HX.out.trans (if_pos h0))
    have hqb : ((E : Int) != 0) = true := by rw [bne_iff_ne]; omega
    have hqc : ((E : Int) == 0) = false := by simpa using h0
    clear h0
    go_enter Tryz.func36, Tryz.ntmps36
    go_wp2_with fail
    refine HG.out.mono ?_
    rintro e w1 ⟨rfl, rfl⟩
    go_wp2_with fail
    go_ret3
    rw [HX.out]
    exact ⟨_, rfl, OwnE.nil _ _ _, only_refl _ _⟩

end Go.Proofs.YtiolkedmpjjojaaGreatDoor.dr
