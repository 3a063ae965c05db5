/-
  The developers' Tags, Find, twice.
-/
import Derived.Test.YtieheclnkopfpaaGreatDoorPpart
import Derived.Test.YtieheclnkopfpaaGreatDoorPsort
import Derived.Test.YtieheclnkopfpaaGreatDoorBundA
import Derived.Test.YtieheclnkopfpaaGreatDoorWread
namespace Go.Proofs.YtieheclnkopfpaaGreatDoor.pp
open Go.RowKit Go.Proofs.YtieheclnkopfpaaGreatDoor.tr Go.Proofs.YtieheclnkopfpaaGreatDoor.pm Go.Proofs.YtieheclnkopfpaaGreatDoor.vi Go.Proofs.YtieheclnkopfpaaGreatDoor.wm
set_option linter.unusedVariables false
set_option linter.unusedSimpArgs false

set_option maxHeartbeats 4000000 in
set_option maxRecDepth 100000 in
theorem tags_any (ts : List Tree) (w : World) (S : Nat → Prop) (v : Value) (hs : sizeL ts ≤ 50000) (h : Rd w S v ts) :
    Calls Tryz.prog 17 #[v] w fun e w' => ∃ v', e = .returned v' ∧ w'.ownsRow w.heap.size 23 1 v' ts.length (u64s (ts.map Tree.tag)) ∧ w.grownBy w' none := by
  have hl := len_size ts
  obtain ⟨i28, hi28, hz0, hz1, hz2⟩ := info_parts Tryz.info28
  have HR := Lib.hid h
  obtain ⟨a, cap, rfl⟩ := h.shape
  clear h
  go_enter Tryz.func17, Tryz.ntmps17
  go_wp2_with (at_make; refine wpList_make_own _ rfl _ _ 24 rfl w.heap.size 23 i28 (.int .u64 0) 1 Tryz.underlying24 hi28 hz0 hz1 _ _ _ ts.length rfl rfl rfl ?b1 ?b2 ?b3 ?_)
  case b1 => rw [hz2]; omega
  case b2 => unfold maxLen; omega
  case b3 => omega
  intro w1 ho1 hg1
  have HO1 := Lib.hid ho1
  have HG1 := Lib.hid hg1
  clear ho1 hg1
  go_wp2_with fail
  go_loopw [3, 11] (fun va q wr => ∃ i : Nat, i ≤ ts.length ∧ q = .int .i64 i ∧ wr.ownsRow w.heap.size 23 1 va i (u64s ((ts.map Tree.tag).take i)) ∧ w.grownBy wr none) (fun _ q _ => ts.length - (intOf q).toNat)
  case atStart => exact ⟨0, Nat.zero_le _, rfl, by rw [List.take_zero]; exact HO1.out, HG1.out⟩
  case round =>
    obtain ⟨i, hi, rfl, ho, hg⟩ := hrel
    have HO := Lib.hid ho
    have HG := Lib.hid hg
    have hsz := hg.size
    clear ho hg
    by_cases hlt : i < ts.length
    · obtain ⟨t, ht⟩ : ∃ t, ts[i]? = some t := ⟨ts[i], List.getElem?_eq_getElem hlt⟩
      obtain ⟨b, off, cap', lv, hv, h1, h2, h3, h4, hc, hr⟩ := (HR.out.grown HG.out).at ht
      simp only [Value.slice.injEq, true_and] at hv
      obtain ⟨rfl, rfl⟩ := hv
      obtain ⟨c0, c1, c2, c3, c4⟩ := hc
      have hga := only_alloc (only_refl wr none) (.cells #[.int .u64 (t.tag : Nat), .int .i64 t.typ, .int .u64 (t.num : Nat), .string t.text, lv] 38)
      have hgb := only_alloc hga (.cells #[.int .u64 (t.tag : Nat)] 23)
      have HOA := Lib.hid ((Chg.of_none (S := fun _ => False) hgb).ownsRow HO.out (fun _ _ e => e))
      have HGB := Lib.hid (only_trans HG.out hgb)
      have HBL := Lib.hid (fun k e => (HO.out.lt k e).1)
      have hza : (wr.alloc (.cells #[.int .u64 (t.tag : Nat), .int .i64 t.typ, .int .u64 (t.num : Nat), .string t.text, lv] 38)).heap.size = wr.heap.size + 1 := by simp
      have hcn := cell_new (wr.alloc (.cells #[.int .u64 (t.tag : Nat), .int .i64 t.typ, .int .u64 (t.num : Nat), .string t.text, lv] 38)) #[.int .u64 (t.tag : Nat)] 23 0
      rw [hza] at hcn
      have HD := Lib.hid (var_new wr 38 t lv)
      have HT : Hid (u64s ((ts.map Tree.tag).take (i + 1)) = u64s ((ts.map Tree.tag).take i) ++ [.int .u64 (t.tag : Nat)]) := by show _ = _; rw [List.take_add_one, List.getElem?_map, ht]; simp [u64s]
      obtain ⟨la, lc, rfl⟩ := hr.shape
      obtain ⟨d0, d1, d2, d3, d4⟩ := HD.out
      have HCN := Lib.hid hcn
      unfold maxLen at h2
      clear ht hr hga hgb hcn
      go_wp2_with (at_builtin; refine wpList_append_own _ rfl _ _ 24 rfl w.heap.size 23 i28 (.int .u64 0) 1 8 Tryz.underlying24 hi28 hz0 hz1 hz2 rfl (by decide) _ i (u64s ((ts.map Tree.tag).take i)) rfl HOA.out ⟨wr.heap.size + 1, 0, none⟩ 1 1 [.int .u64 (t.tag : Nat)] rfl rfl ?c1 ?c2 ?c3 ?c4 ?c5 ?_)
      case c1 =>
        intro j u hj
        match j, hj with
        | 0, hj => simp at hj; subst hj; exact HCN.out
      case c2 => intro u hu; simp at hu; subst hu; rfl
      case c3 => unfold maxLen; omega
      case c4 => omega
      case c5 => simp; omega
      intro v' w4 hown4 hg4 _
      have HO4 := Lib.hid hown4
      have HG4 := Lib.hid (below_to_none (below_of_only (below_of_none HGB.out) hg4 HGB.out.size (fun k e => HBL.out k e)))
      clear hown4 hg4
      go_wp2_with fail
      go_roundw
      case rel => exact ⟨i + 1, by omega, by go_num, by rw [HT.out]; exact HO4.out, HG4.out⟩
      case measure => simp [intOf]; omega
    · have hie : i = ts.length := by omega
      subst hie
      rw [List.take_of_length_le (by simp)] at HO
      go_wp2_with fail
      go_ret
      exact ⟨_, rfl, HO.out, HG.out⟩

set_option maxHeartbeats 4000000 in
set_option maxRecDepth 100000 in
theorem twice_any (ts : List Tree) (w : World) (S : Nat → Prop) (v : Value) (hs : sizeL ts ≤ 100000) (h : Rd w S v ts) :
    Calls Tryz.prog 31 #[v] w fun e w' => e = .returned (.bool (twiceB ts)) ∧ w.grownBy w' none := by
  have hl := len_size ts
  have HR := Lib.hid h
  obtain ⟨a, cap, rfl⟩ := h.shape
  clear h
  go_enter Tryz.func31, Tryz.ntmps31
  go_wp2_with fail
  go_loopw [6] (fun q wr => ∃ i : Nat, i ≤ ts.length ∧ q = .int .i64 i ∧ (∀ (j : Nat) (t u : Tree), j + 1 < i → ts[j]? = some t → ts[j + 1]? = some u → t.tag ≠ u.tag) ∧ w.grownBy wr none) (fun q _ => ts.length - (intOf q).toNat)
  case atStart => exact ⟨0, Nat.zero_le _, rfl, fun j t u hj => by omega, only_refl _ _⟩
  case round =>
    obtain ⟨i, hi, rfl, hall, hg⟩ := hrel
    have HA := Lib.hid hall
    have HG := Lib.hid hg
    clear hall hg
    by_cases hlt : i < ts.length
    · obtain ⟨t, ht⟩ : ∃ t, ts[i]? = some t := ⟨ts[i], List.getElem?_eq_getElem hlt⟩
      by_cases h0 : i = 0
      · subst h0
        go_wp2_with fail
        go_quiet (fail)
        go_wp2_with fail
        go_roundw
        case rel => exact ⟨1, by omega, rfl, fun j t u hj => by omega, only_drewN HG.out _⟩
        case measure => simp [intOf]; omega
      · obtain ⟨j, rfl⟩ : ∃ j, i = j + 1 := ⟨i - 1, by omega⟩
        obtain ⟨u, hu⟩ : ∃ u, ts[j]? = some u := ⟨ts[j], List.getElem?_eq_getElem (by omega)⟩
        obtain ⟨b, off, cap', lv, hv, h1, h2, h3, h4, hc, hr⟩ := (HR.out.grown HG.out).at ht
        simp only [Value.slice.injEq, true_and] at hv
        obtain ⟨rfl, rfl⟩ := hv
        obtain ⟨b', off', cap'', lv', hv', -, -, -, -, hc', -⟩ := (HR.out.grown HG.out).at hu
        simp only [Value.slice.injEq, Option.some.injEq, Addr.mk.injEq, and_true, true_and] at hv'
        obtain ⟨⟨rfl, rfl⟩, rfl⟩ := hv'
        have c0 := hc.c0
        have d0 := hc'.c0
        have HX := Lib.hid ht
        have HY := Lib.hid hu
        have e1 : (j : Int) + 1 - 1 = (j : Int) := by omega
        have e2 : ((j + 1 : Nat) : Int) = (j : Int) + 1 := by omega
        unfold maxLen at h2
        clear ht hu hc hc' hr
        have hpos : (0 : Int) < (j : Int) + 1 := by omega
        by_cases he : t.tag = u.tag
        · have hb : ((t.tag : Int) == (u.tag : Int)) = true := by rw [beq_iff_eq]; omega
          have HE := Lib.hid he
          clear he
          go_wp2_with fail
          go_quiet (fail)
          go_wp2_with fail
          go_ret
          exact ⟨ret1 (congrArg Value.bool ((twice_iff ts).2 ⟨j, u, t, HY.out, HX.out, HE.out.symm⟩).symm), only_drewN HG.out _⟩
        · have hb : ((t.tag : Int) == (u.tag : Int)) = false := by rw [beq_eq_false_iff_ne]; omega
          have HE := Lib.hid he
          clear he
          go_wp2_with fail
          go_quiet (fail)
          go_wp2_with fail
          go_roundw
          case rel =>
            refine ⟨j + 2, by omega, by go_num, fun k x y hk h1 h2 => ?_, only_drewN HG.out _⟩
            by_cases hkj : k + 1 < j + 1
            · exact HA.out k x y hkj h1 h2
            · obtain rfl : k = j := by omega
              rw [HY.out] at h1
              rw [HX.out] at h2
              simp only [Option.some.injEq] at h1 h2
              subst h1 h2
              exact fun e => HE.out e.symm
          case measure => simp [intOf]; omega
    · have hie : i = ts.length := by omega
      subst hie
      go_wp2_with fail
      go_ret
      exact ⟨ret1 (congrArg Value.bool (by
        symm
        cases hb : twiceB ts with
        | false => rfl
        | true =>
          obtain ⟨j, t, u, h1, h2, h3⟩ := (twice_iff ts).1 hb
          exact absurd h3 (HA.out j t u (List.getElem?_eq_some_iff.1 h2).1 h1 h2))), HG.out⟩

end Go.Proofs.YtieheclnkopfpaaGreatDoor.pp
