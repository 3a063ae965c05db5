/-
  Layer 12's statements: To, Few, slices.Equal, awake.
-/
import Derived.Test.YtiolkedmpjjojaaGreatDoorDrf2
import Derived.Test.YtiolkedmpjjojaaGreatDoorDsrt
import Derived.Test.YtiolkedmpjjojaaGreatDoorEei
namespace Go.Proofs.YtiolkedmpjjojaaGreatDoor.law12
open Go.RowKit Go.Proofs.YtiolkedmpjjojaaGreatDoor.vi Go.Proofs.YtiolkedmpjjojaaGreatDoor.um Go.Proofs.YtiolkedmpjjojaaGreatDoor.wm Go.Proofs.YtiolkedmpjjojaaGreatDoor.tr Go.Proofs.YtiolkedmpjjojaaGreatDoor.em Go.Proofs.YtiolkedmpjjojaaGreatDoor.cur Go.Proofs.YtiolkedmpjjojaaGreatDoor.law11 Go.Proofs.YtiolkedmpjjojaaGreatDoor.dd Go.Proofs.YtiolkedmpjjojaaGreatDoor.dr
set_option linter.unusedVariables false
set_option linter.unusedSimpArgs false

/-- How the sum of two lengths stands as an int. -/
theorem wrap_sum (a b : Nat) (ha : a ≤ 9223372036854775807) (hb : b ≤ 9223372036854775807) : IntKind.i64.wrap ((a : Int) + (b : Int)) = (if a + b ≤ 9223372036854775807 then ((a + b : Nat) : Int) else ((a + b : Nat) : Int) - 18446744073709551616) := by
  split <;> simp [IntKind.wrap, IntKind.bits, IntKind.signed] <;> omega

def fewE (xs : List Ent) : Bool := (xs.all fun x => decide (x.key.size + x.value.size ≤ 600)) && decide (xs.length ≤ 40)
theorem few_facts {xs : List Ent} (h : fewE xs = true) : xs.length ≤ 40 ∧ ∀ x ∈ xs, x.key.size + x.value.size ≤ 600 := by
  unfold fewE at h
  rw [Bool.and_eq_true, List.all_eq_true, decide_eq_true_eq] at h
  exact ⟨h.2, fun x hx => by simpa using h.1 x hx⟩

set_option maxHeartbeats 2000000 in
set_option maxRecDepth 100000 in
theorem few_any (xs : List Ent) (B : Nat) (w : World) (v : Value) (hl : xs.length ≤ 2000000) (hz : ∀ x ∈ xs, x.key.size ≤ 2000000 ∧ x.value.size ≤ 2000000) (h : Es B w v xs) :
    Calls Tryz.prog 21 #[v] w fun e w' => e = .returned (.bool (fewE xs)) ∧ w.grownBy w' none := by
  have HE := Lib.hid h
  have HZ := Lib.hid hz
  obtain ⟨a, cap, rfl⟩ := h.shape
  clear h hz
  go_enter Tryz.func21, Tryz.ntmps21
  go_wp2_with fail
  go_loopw [7] (fun q wr => ∃ i : Nat, i ≤ xs.length ∧ q = .int .i64 i ∧ w.grownBy wr none ∧ ((xs.take i).all fun x => decide (x.key.size + x.value.size ≤ 600)) = true) (fun q _ => xs.length - (intOf q).toNat)
  case atStart => exact ⟨0, Nat.zero_le _, rfl, only_refl _ _, by simp⟩
  case round =>
    obtain ⟨i, hi, rfl, hg, ht⟩ := hrel
    have HG := Lib.hid hg
    have HT := Lib.hid ht
    clear hg ht
    by_cases hlt : i < xs.length
    · obtain ⟨x, hx⟩ : ∃ x, xs[i]? = some x := ⟨xs[i], List.getElem?_eq_getElem hlt⟩
      obtain ⟨b, off, cx, hv, -, hle, hcm, c0, c1⟩ := (HE.out.grown HG.out).at hx
      simp only [Value.slice.injEq, true_and] at hv
      obtain ⟨rfl, rfl⟩ := hv
      unfold maxLen at hcm
      have hsz := HZ.out x (List.mem_of_getElem? hx)
      have G1 := Lib.hid (only_trans HG.out (only_alloc (only_refl wr none) (.cells #[.string x.key, .string x.value] 23)))
      by_cases hs : x.key.size + x.value.size ≤ 600
      · have HTN : Hid (((xs.take (i + 1)).all fun x => decide (x.key.size + x.value.size ≤ 600)) = true) := by
          show _ = _
          rw [List.take_add_one, hx, List.all_append, HT.out]
          simpa using hs
        have hsi : ¬ (600 : Int) < (x.key.size : Int) + (x.value.size : Int) := by omega
        clear hx hs HT
        go_wp2_with fail
        first
          | skip
          | (go_quiet (fail); go_wp2_with fail)
        go_roundw
        case rel => exact ⟨i + 1, by omega, by go_num, by first | exact G1.out | exact only_drewN G1.out _, HTN.out⟩
        case measure => simp [intOf]; omega
      · have HR : Hid (fewE xs = false) := by
          show _ = _
          unfold fewE
          rw [Bool.and_eq_false_iff]
          left
          rw [List.all_eq_false]
          exact ⟨x, List.mem_of_getElem? hx, by simpa using hs⟩
        have hsi : (600 : Int) < (x.key.size : Int) + (x.value.size : Int) := by omega
        clear hx hs HT
        go_wp2_with fail
        first
          | skip
          | (go_quiet (fail); go_wp2_with fail)
        go_ret
        rw [HR.out]
        exact ⟨rfl, by first | exact G1.out | exact only_drewN G1.out _⟩
    · have hie : i = xs.length := by omega
      subst hie
      have HR : Hid (fewE xs = decide (xs.length ≤ 40)) := by
        show _ = _
        have := HT.out
        rw [List.take_length] at this
        unfold fewE
        rw [this, Bool.true_and]
      go_wp2_with fail
      go_ret
      rw [HR.out]
      exact ⟨ret1 (congrArg Value.bool (by simp; first | done | omega)), HG.out⟩

set_option maxHeartbeats 2000000 in
set_option maxRecDepth 100000 in
theorem few2_any (xs : List Ent) (B : Nat) (w : World) (v : Value) (hl : xs.length ≤ maxLen) (hz : ∀ x ∈ xs, x.key.size ≤ maxLen ∧ x.value.size ≤ maxLen) (h : Es B w v xs) :
    Calls Tryz.prog 21 #[v] w fun e w' => ∃ bv : Bool, e = .returned (.bool bv) ∧ (bv = true → xs.length ≤ 40) ∧ w.grownBy w' none := by
  have HE := Lib.hid h
  have HZ := Lib.hid hz
  obtain ⟨a, cap, rfl⟩ := h.shape
  unfold maxLen at hl
  clear h hz
  go_enter Tryz.func21, Tryz.ntmps21
  go_wp2_with fail
  go_loopw [7] (fun q wr => ∃ i : Nat, i ≤ xs.length ∧ q = .int .i64 i ∧ w.grownBy wr none) (fun q _ => xs.length - (intOf q).toNat)
  case atStart => exact ⟨0, Nat.zero_le _, rfl, only_refl _ _⟩
  case round =>
    obtain ⟨i, hi, rfl, hg⟩ := hrel
    have HG := Lib.hid hg
    clear hg
    by_cases hlt : i < xs.length
    · obtain ⟨x, hx⟩ : ∃ x, xs[i]? = some x := ⟨xs[i], List.getElem?_eq_getElem hlt⟩
      obtain ⟨b, off, cx, hv, -, hle, hcm, c0, c1⟩ := (HE.out.grown HG.out).at hx
      simp only [Value.slice.injEq, true_and] at hv
      obtain ⟨rfl, rfl⟩ := hv
      unfold maxLen at hcm
      have hsz := HZ.out x (List.mem_of_getElem? hx)
      unfold maxLen at hsz
      have G1 := Lib.hid (only_trans HG.out (only_alloc (only_refl wr none) (.cells #[.string x.key, .string x.value] 23)))
      have hwr := wrap_sum x.key.size x.value.size hsz.1 hsz.2
      by_cases hs : (600 : Int) < (if x.key.size + x.value.size ≤ 9223372036854775807 then ((x.key.size + x.value.size : Nat) : Int) else ((x.key.size + x.value.size : Nat) : Int) - 18446744073709551616)
      · generalize (if x.key.size + x.value.size ≤ 9223372036854775807 then ((x.key.size + x.value.size : Nat) : Int) else ((x.key.size + x.value.size : Nat) : Int) - 18446744073709551616) = sm at *
        clear hx
        go_wp2_with fail
        go_ret
        exact ⟨false, rfl, fun e => by simp at e, G1.out⟩
      · generalize (if x.key.size + x.value.size ≤ 9223372036854775807 then ((x.key.size + x.value.size : Nat) : Int) else ((x.key.size + x.value.size : Nat) : Int) - 18446744073709551616) = sm at *
        clear hx
        go_wp2_with fail
        go_roundw
        case rel => exact ⟨i + 1, by omega, by go_num, G1.out⟩
        case measure => simp [intOf]; omega
    · have hie : i = xs.length := by omega
      subst hie
      go_wp2_with fail
      go_ret
      exact ⟨decide (xs.length ≤ 40), ret1 (congrArg Value.bool (by simp; first | done | omega)), fun e => by simpa using e, HG.out⟩

set_option maxHeartbeats 2000000 in
set_option maxRecDepth 100000 in
theorem to_any (xs : List Ent) (B : Nat) (w : World) (v : Value) (hl : xs.length ≤ 100000) (h : Es B w v xs) :
    Calls Tryz.prog 24 #[v] w fun e w' => ∃ v', e = .returned v' ∧ OwnE 30 w.heap.size w' v' xs ∧ w.grownBy w' none := by
  have HE := Lib.hid h
  obtain ⟨a, cap, rfl⟩ := h.shape
  clear h
  go_enter Tryz.func24, Tryz.ntmps24
  go_wp2_with fail
  go_loopw [3, 8] (fun vo q wr => ∃ i : Nat, i ≤ xs.length ∧ q = .int .i64 i ∧ w.grownBy wr none ∧ OwnE 30 w.heap.size wr vo (xs.take i)) (fun _ q _ => xs.length - (intOf q).toNat)
  case atStart => exact ⟨0, Nat.zero_le _, rfl, only_refl _ _, OwnE.nil _ _ _⟩
  case round =>
    obtain ⟨i, hi, rfl, hg, ho⟩ := hrel
    have HG := Lib.hid hg
    have HO := Lib.hid ho
    clear hg ho
    by_cases hlt : i < xs.length
    · obtain ⟨x, hx⟩ : ∃ x, xs[i]? = some x := ⟨xs[i], List.getElem?_eq_getElem hlt⟩
      obtain ⟨b, off, cx, hv, -, hle, hcm, c0, c1⟩ := (HE.out.grown HG.out).at hx
      simp only [Value.slice.injEq, true_and] at hv
      obtain ⟨rfl, rfl⟩ := hv
      unfold maxLen at hcm
      have HTK : Hid (xs.take (i + 1) = xs.take i ++ [x]) := by
        show _ = _
        rw [List.take_add_one, hx]; rfl
      have hvb := HO.out.lt
      have GA := only_alloc (only_refl wr none) (.cells #[.string x.key, .string x.value] 23)
      have GB := only_alloc GA (.cells #[.string x.key, .string x.value] 30)
      have HO2 := Lib.hid (HO.out.grown GB)
      have HG2 := Lib.hid (only_trans HG.out GB)
      have hone := es_one (wr.alloc (.cells #[.string x.key, .string x.value] 23)) x 30
      rw [show (wr.alloc (.cells #[.string x.key, .string x.value] 23)).heap.size = wr.heap.size + 1 by simp] at hone
      have HONE := Lib.hid hone
      have hwz : w.heap.size ≤ wr.heap.size := HG.out.size
      have htl : (xs.take i).length ≤ 100000 := by rw [List.length_take]; omega
      clear GA GB hone hx
      generalize xs.take i = acc at *
      go_wp2_with (at_builtin; refine wpList_append_es rfl _ _ 46 30 (by rfl) _ Tryz.underlying46 Tryz.infoRE rfl w.heap.size _ _ acc [x] (by rfl) HO2.out _ (by rfl) HONE.out ?c1 ?c2 ?_)
      case c1 => simp; omega
      case c2 => simp; omega
      intro v6 w6 ho6 hg6 _
      have HO6 := Lib.hid ho6
      have HG6 := Lib.hid (only_row HG2.out hg6 (fun k e => (hvb k e).1))
      clear ho6 hg6
      go_wp2_with fail
      go_roundw
      case rel => exact ⟨i + 1, by omega, by go_num, HG6.out, by rw [HTK.out]; exact HO6.out⟩
      case measure => simp [intOf]; omega
    · have hie : i = xs.length := by omega
      subst hie
      rw [List.take_length] at HO
      go_wp2_with fail
      go_ret
      exact ⟨_, rfl, HO.out, HG.out⟩

set_option maxHeartbeats 2000000 in
set_option maxRecDepth 100000 in
theorem equalE_any (xs ys : List Ent) (B1 B2 : Nat) (w : World) (v u : Value) (hl : xs.length ≤ 1000000) (h : Es B1 w v xs) (h2 : Es B2 w u ys) :
    Calls Tryz.prog 38 #[v, u] w fun e w' => e = .returned (.bool (decide (xs = ys))) ∧ w.grownBy w' none := by
  have HX := Lib.hid h
  have HY := Lib.hid h2
  obtain ⟨a, cap, rfl⟩ := h.shape
  obtain ⟨a2, cap2, rfl⟩ := h2.shape
  clear h h2
  by_cases hn : xs.length = ys.length
  · have HN := Lib.hid hn
    rw [← hn] at HY ⊢
    clear hn
    go_enter Tryz.func38, Tryz.ntmps38
    go_wp2_with fail
    go_loopw [13] (fun q wr => ∃ i : Nat, i ≤ xs.length ∧ q = .int .i64 i ∧ w.grownBy wr none ∧ xs.take i = ys.take i) (fun q _ => xs.length - (intOf q).toNat)
    case atStart => exact ⟨0, Nat.zero_le _, rfl, only_refl _ _, by simp⟩
    case round =>
      obtain ⟨i, hi, rfl, hg, ht⟩ := hrel
      have HG := Lib.hid hg
      have HT := Lib.hid ht
      clear hg ht
      by_cases hlt : i < xs.length
      · obtain ⟨x, hx⟩ : ∃ x, xs[i]? = some x := ⟨xs[i], List.getElem?_eq_getElem hlt⟩
        obtain ⟨y, hy⟩ : ∃ y, ys[i]? = some y := ⟨ys[i]'(by rw [← HN.out]; exact hlt), List.getElem?_eq_getElem (by rw [← HN.out]; exact hlt)⟩
        obtain ⟨b, off, cx, hv, -, hle, hcm, c0, c1⟩ := (HX.out.grown HG.out).at hx
        simp only [Value.slice.injEq, true_and] at hv
        obtain ⟨rfl, rfl⟩ := hv
        obtain ⟨b2, off2, cy, hv2, -, hle2, hcm2, e0, e1⟩ := (HY.out.grown HG.out).at hy
        rw [← HN.out] at hv2 hle2
        simp only [Value.slice.injEq, true_and] at hv2
        obtain ⟨rfl, rfl⟩ := hv2
        unfold maxLen at hcm hcm2
        have hk0 := beq_bytes x.key y.key
        have hv0 := beq_bytes x.value y.value
        have hci : (i : Int) < (xs.length : Int) := by omega
        have HNE := Lib.hid (fun (e : xs = ys) => (by rw [e] at hx; rw [hx] at hy; exact Option.some.inj hy : x = y))
        have HTN := Lib.hid (fun (e : x = y) => (by rw [List.take_add_one, List.take_add_one, hx, hy, HT.out, e] : xs.take (i + 1) = ys.take (i + 1)))
        clear hx hy HT
        by_cases hk : x.key = y.key
        · have hkb : (x.key.toList == y.key.toList) = true := by rw [hk0]; simp [hk]
          by_cases hvv : x.value = y.value
          · have hvb : (x.value.toList == y.value.toList) = true := by rw [hv0]; simp [hvv]
            have HTM := Lib.hid (HTN.out (by cases x; cases y; simp at hk hvv; simp [hk, hvv]))
            clear hk0 hv0 hk hvv HTN HNE
            go_wp2_with fail
            go_quiet (fail)
            go_wp2_with fail
            go_roundw
            case rel => exact ⟨i + 1, by omega, by go_num, only_drewN HG.out _, HTM.out⟩
            case measure => simp [intOf]; omega
          · have hvb : (x.value.toList == y.value.toList) = false := by rw [hv0]; simp [hvv]
            have HR : Hid (decide (xs = ys) = false) := decide_eq_false fun e => hvv (by rw [HNE.out e])
            clear hk0 hv0 hk hvv HTN HNE
            go_wp2_with fail
            go_quiet (fail)
            go_wp2_with fail
            go_ret
            rw [HR.out]
            exact ⟨rfl, only_drewN HG.out _⟩
        · have hkb : (x.key.toList == y.key.toList) = false := by rw [hk0]; simp [hk]
          have HR : Hid (decide (xs = ys) = false) := decide_eq_false fun e => hk (by rw [HNE.out e])
          clear hk0 hk HTN HNE
          by_cases hvv : x.value = y.value
          · have hvb : (x.value.toList == y.value.toList) = true := by rw [hv0]; simp [hvv]
            clear hv0 hvv
            go_wp2_with fail
            go_quiet (fail)
            go_wp2_with fail
            go_ret
            rw [HR.out]
            exact ⟨rfl, only_drewN HG.out _⟩
          · have hvb : (x.value.toList == y.value.toList) = false := by rw [hv0]; simp [hvv]
            clear hv0 hvv
            go_wp2_with fail
            go_quiet (fail)
            go_wp2_with fail
            go_ret
            rw [HR.out]
            exact ⟨rfl, only_drewN HG.out _⟩
      · have hie : i = xs.length := by omega
        subst hie
        have HR : Hid (decide (xs = ys) = true) := decide_eq_true (by have := HT.out; rw [List.take_length, HN.out, List.take_length] at this; exact this)
        go_wp2_with fail
        go_ret
        rw [HR.out]
        exact ⟨rfl, HG.out⟩
  · have hni : ((xs.length : Int) != (ys.length : Int)) = true := by rw [bne_iff_ne]; omega
    have HR : Hid (decide (xs = ys) = false) := decide_eq_false fun e => hn (by rw [e])
    go_enter Tryz.func38, Tryz.ntmps38
    go_wp2_with fail
    go_ret
    rw [HR.out]
    exact ⟨rfl, only_refl _ _⟩

set_option maxHeartbeats 2000000 in
set_option maxRecDepth 100000 in
theorem equalR_any (xs ys : List Ent) (B1 B2 : Nat) (w : World) (v u : Value) (hl : xs.length ≤ 1000000) (h : Es B1 w v xs) (h2 : Es B2 w u ys) :
    Calls Tryz.prog 28 #[v, u] w fun e w' => e = .returned (.bool (decide (xs = ys))) ∧ w.grownBy w' none := by
  have HX := Lib.hid h
  have HY := Lib.hid h2
  obtain ⟨a, cap, rfl⟩ := h.shape
  obtain ⟨a2, cap2, rfl⟩ := h2.shape
  clear h h2
  by_cases hn : xs.length = ys.length
  · have HN := Lib.hid hn
    rw [← hn] at HY ⊢
    clear hn
    go_enter Tryz.func28, Tryz.ntmps28
    go_wp2_with fail
    go_loopw [13] (fun q wr => ∃ i : Nat, i ≤ xs.length ∧ q = .int .i64 i ∧ w.grownBy wr none ∧ xs.take i = ys.take i) (fun q _ => xs.length - (intOf q).toNat)
    case atStart => exact ⟨0, Nat.zero_le _, rfl, only_refl _ _, by simp⟩
    case round =>
      obtain ⟨i, hi, rfl, hg, ht⟩ := hrel
      have HG := Lib.hid hg
      have HT := Lib.hid ht
      clear hg ht
      by_cases hlt : i < xs.length
      · obtain ⟨x, hx⟩ : ∃ x, xs[i]? = some x := ⟨xs[i], List.getElem?_eq_getElem hlt⟩
        obtain ⟨y, hy⟩ : ∃ y, ys[i]? = some y := ⟨ys[i]'(by rw [← HN.out]; exact hlt), List.getElem?_eq_getElem (by rw [← HN.out]; exact hlt)⟩
        obtain ⟨b, off, cx, hv, -, hle, hcm, c0, c1⟩ := (HX.out.grown HG.out).at hx
        simp only [Value.slice.injEq, true_and] at hv
        obtain ⟨rfl, rfl⟩ := hv
        obtain ⟨b2, off2, cy, hv2, -, hle2, hcm2, e0, e1⟩ := (HY.out.grown HG.out).at hy
        rw [← HN.out] at hv2 hle2
        simp only [Value.slice.injEq, true_and] at hv2
        obtain ⟨rfl, rfl⟩ := hv2
        unfold maxLen at hcm hcm2
        have hk0 := beq_bytes x.key y.key
        have hv0 := beq_bytes x.value y.value
        have hci : (i : Int) < (xs.length : Int) := by omega
        have HNE := Lib.hid (fun (e : xs = ys) => (by rw [e] at hx; rw [hx] at hy; exact Option.some.inj hy : x = y))
        have HTN := Lib.hid (fun (e : x = y) => (by rw [List.take_add_one, List.take_add_one, hx, hy, HT.out, e] : xs.take (i + 1) = ys.take (i + 1)))
        clear hx hy HT
        by_cases hk : x.key = y.key
        · have hkb : (x.key.toList == y.key.toList) = true := by rw [hk0]; simp [hk]
          by_cases hvv : x.value = y.value
          · have hvb : (x.value.toList == y.value.toList) = true := by rw [hv0]; simp [hvv]
            have HTM := Lib.hid (HTN.out (by cases x; cases y; simp at hk hvv; simp [hk, hvv]))
            clear hk0 hv0 hk hvv HTN HNE
            go_wp2_with fail
            go_quiet (fail)
            go_wp2_with fail
            go_roundw
            case rel => exact ⟨i + 1, by omega, by go_num, only_drewN HG.out _, HTM.out⟩
            case measure => simp [intOf]; omega
          · have hvb : (x.value.toList == y.value.toList) = false := by rw [hv0]; simp [hvv]
            have HR : Hid (decide (xs = ys) = false) := decide_eq_false fun e => hvv (by rw [HNE.out e])
            clear hk0 hv0 hk hvv HTN HNE
            go_wp2_with fail
            go_quiet (fail)
            go_wp2_with fail
            go_ret
            rw [HR.out]
            exact ⟨rfl, only_drewN HG.out _⟩
        · have hkb : (x.key.toList == y.key.toList) = false := by rw [hk0]; simp [hk]
          have HR : Hid (decide (xs = ys) = false) := decide_eq_false fun e => hk (by rw [HNE.out e])
          clear hk0 hk HTN HNE
          by_cases hvv : x.value = y.value
          · have hvb : (x.value.toList == y.value.toList) = true := by rw [hv0]; simp [hvv]
            clear hv0 hvv
            go_wp2_with fail
            go_quiet (fail)
            go_wp2_with fail
            go_ret
            rw [HR.out]
            exact ⟨rfl, only_drewN HG.out _⟩
          · have hvb : (x.value.toList == y.value.toList) = false := by rw [hv0]; simp [hvv]
            clear hv0 hvv
            go_wp2_with fail
            go_quiet (fail)
            go_wp2_with fail
            go_ret
            rw [HR.out]
            exact ⟨rfl, only_drewN HG.out _⟩
      · have hie : i = xs.length := by omega
        subst hie
        have HR : Hid (decide (xs = ys) = true) := decide_eq_true (by have := HT.out; rw [List.take_length, HN.out, List.take_length] at this; exact this)
        go_wp2_with fail
        go_ret
        rw [HR.out]
        exact ⟨rfl, HG.out⟩
  · have hni : ((xs.length : Int) != (ys.length : Int)) = true := by rw [bne_iff_ne]; omega
    have HR : Hid (decide (xs = ys) = false) := decide_eq_false fun e => hn (by rw [e])
    go_enter Tryz.func28, Tryz.ntmps28
    go_wp2_with fail
    go_ret
    rw [HR.out]
    exact ⟨rfl, only_refl _ _⟩

def exB : Ent := ⟨⟨#[98]⟩, ⟨#[50]⟩⟩
def exA : Ent := ⟨⟨#[97]⟩, ⟨#[49]⟩⟩
theorem good_two (a : UInt8) (h : a.toNat < 128) : goodR [a] = true := good_abc _ (by intro x hx; simp at hx; subst hx; exact h)
theorem ex_check : checkE exB = 0 ∧ checkE exA = 0 := by
  constructor
  · unfold checkE exB checkN; simp only; rw [good_two _ (by decide), good_two _ (by decide)]; simp [ByteArray.size]
  · unfold checkE exA checkN; simp only; rw [good_two _ (by decide), good_two _ (by decide)]; simp [ByteArray.size]
theorem ex_sort : sortE [exB, exA] = [exA, exB] := by
  have h : ¬ cmpE exB exA < 0 := by decide
  simp [sortE, insE, h]
theorem ex_ofD : ofD [exB, exA] = ([exA, exB], 0) := by
  have h1 : firstE [exB, exA] = 0 := by simp [firstE, ex_check.1, ex_check.2]
  have h2 : twiceE [exA, exB] = false := by decide
  unfold ofD
  rw [if_neg (by simp [countE]), if_neg (by simp [h1]), ex_sort, if_neg (by simp [h2])]
theorem ex_key : txt (keyD [exA, exB]) = ⟨#[2, 1, 97, 1, 49, 1, 98, 1, 50]⟩ := by
  have e1 : enc 1 = [1] := enc_small (by omega)
  have e2 : enc 2 = [2] := enc_small (by omega)
  have p1 : putE exA = [1, 97, 1, 49] := by
    show (enc 1 ++ [97]) ++ (enc 1 ++ [49]) = _
    rw [e1]; rfl
  have p2 : putE exB = [1, 98, 1, 50] := by
    show (enc 1 ++ [98]) ++ (enc 1 ++ [50]) = _
    rw [e1]; rfl
  unfold keyD
  show txt (enc 2 ++ ([putE exA, putE exB] : List (List UInt8)).flatten) = _
  rw [e2, p1, p2]
  rfl
theorem es_two (w : World) (x y : Ent) (ty : TypeId) : Es (w.heap.size + 1) (w.alloc (.cells #[.string x.key, .string x.value, .string y.key, .string y.value] ty)) (.slice (some ⟨w.heap.size, 0, none⟩) 2 2) [x, y] :=
  ⟨_, _, rfl, .inr ⟨w.heap.size, 0, rfl, by omega, by simp, by unfold maxLen; omega, fun i z hz => by
    have hi : i = 0 ∨ i = 1 := by have := (List.getElem?_eq_some_iff.1 hz).1; simp at this; omega
    rcases hi with rfl | rfl
    · simp at hz; subst hz
      exact ⟨by rw [cell_new]; rfl, by rw [cell_new]; rfl⟩
    · simp at hz; subst hz
      exact ⟨by rw [cell_new]; rfl, by rw [cell_new]; rfl⟩⟩⟩

set_option maxHeartbeats 2000000 in
set_option maxRecDepth 100000 in
theorem awake_any (w : World) (hT : tb.Tab w) :
    Calls Tryz.prog 20 #[] w fun e w' => e = .returned (.bool true) ∧ w.grownBy w' none := by
  have HT := Lib.hid (fun w' (g : w.grownBy w' none) => law11.Awake_any ee.ei.toECore w' (tb.kept hT g))
  have hes := es_two w exB exA 23
  have hga := only_alloc (only_refl w none) (.cells #[.string exB.key, .string exB.value, .string exA.key, .string exA.value] 23)
  have HO := Lib.hid (of_any [exB, exA] _ _ _ (by simp) (by intro x hx; simp at hx; rcases hx with rfl | rfl <;> simp [exB, exA, ByteArray.size, maxLen]) (tb.kept hT hga) hes)
  have HGA := Lib.hid hga
  rw [ex_ofD] at HO
  have HK := Lib.hid (fun B w v h => key_any [exA, exB] B w v (by simp) (by intro x hx; simp at hx; rcases hx with rfl | rfl <;> simp [exB, exA, ByteArray.size]) (by rw [← txt_size, ex_key]; simp [ByteArray.size]) h)
  rw [ex_key] at HK
  clear hes hga hT
  go_enter Tryz.func20, Tryz.ntmps20
  go_wp2_with fail
  refine HO.out.mono ?_
  rintro e w1 ⟨v1, rfl, e1, g1⟩
  have HE1 := Lib.hid e1
  have HG1 := Lib.hid (only_trans HGA.out g1)
  obtain ⟨va, vc, rfl⟩ := e1.shape
  clear e1 g1
  go_wp2_with fail
  refine (HT.out _ HG1.out).mono ?_
  rintro e w2 ⟨rfl, g2⟩
  have HE2 := Lib.hid (HE1.out.grown g2)
  have HG2 := Lib.hid (only_trans HG1.out g2)
  clear g2
  go_wp2_with fail
  refine (HK.out _ _ _ HE2.out).mono ?_
  rintro e w3 ⟨rfl, g3⟩
  have HG3 := Lib.hid (only_trans HG2.out g3)
  clear g3
  go_wp2_with fail
  go_ret
  exact ⟨rfl, HG3.out⟩

end Go.Proofs.YtiolkedmpjjojaaGreatDoor.law12
