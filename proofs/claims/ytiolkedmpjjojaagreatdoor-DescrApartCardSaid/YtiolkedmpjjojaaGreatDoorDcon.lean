/-
  The developers' descriptors: checkCount, checkBehind, Check, Key, Get, Cmp.
-/
import Derived.Test.YtiolkedmpjjojaaGreatDoorDmath
import Derived.Test.YtiolkedmpjjojaaGreatDoorEs
import Derived.Test.YtiolkedmpjjojaaGreatDoorEent
import Derived.Test.YtiolkedmpjjojaaGreatDoorBundC
namespace Go.Proofs.YtiolkedmpjjojaaGreatDoor.dd
open Go.RowKit Go.Proofs.YtiolkedmpjjojaaGreatDoor.vi Go.Proofs.YtiolkedmpjjojaaGreatDoor.um Go.Proofs.YtiolkedmpjjojaaGreatDoor.wm Go.Proofs.YtiolkedmpjjojaaGreatDoor.tr Go.Proofs.YtiolkedmpjjojaaGreatDoor.em Go.Proofs.YtiolkedmpjjojaaGreatDoor.cur Go.Proofs.YtiolkedmpjjojaaGreatDoor.law11 Go.Proofs.YtiolkedmpjjojaaGreatDoor.bd
set_option linter.unusedVariables false
set_option linter.unusedSimpArgs false

/-! checkCount -/
theorem count_any (n : Nat) (hn : n < 18446744073709551616) (w : World) :
    Calls Tryz.prog 50 #[.int .u64 (n : Nat)] w fun e w' => e = .returned (.int .i64 (countE n : Nat)) ∧ w = w' := by
  unfold countE
  by_cases h0 : n = 0
  · rw [if_pos h0]
    subst h0
    go_enter Tryz.func50, Tryz.ntmps50
    go_wp2_with fail
    go_ret
    exact ⟨rfl, rfl⟩
  · rw [if_neg h0]
    have h0i : ((n : Int) == 0) = false := by simpa using h0
    by_cases h1 : 16 < n
    · rw [if_pos h1]
      have h1i : (16 : Int) < (n : Int) := by omega
      go_enter Tryz.func50, Tryz.ntmps50
      go_wp2_with fail
      go_ret
      exact ⟨rfl, rfl⟩
    · rw [if_neg h1]
      have h1i : ¬ (16 : Int) < (n : Int) := by omega
      go_enter Tryz.func50, Tryz.ntmps50
      go_wp2_with fail
      go_ret
      exact ⟨rfl, rfl⟩

/-! checkBehind -/
def behindK : Option Ent → ByteArray → Nat
  | none, _ => 0
  | some a, k => if a.key = k then 14 else if Op.bytesLess k.data.toList a.key.data.toList = true then 7 else 0
theorem behindK_eq (p : Option Ent) (x : Ent) : behindK p x.key = behindO p x := by
  cases p with
  | none => rfl
  | some a =>
    show (if a.key = x.key then 14 else if Op.bytesLess x.key.data.toList a.key.data.toList = true then 7 else 0) = behindE a x
    unfold behindE
    by_cases h : a.key = x.key
    · rw [if_pos h, if_pos h]
    · rw [if_neg h, if_neg h]
      have hc : cmpE a x = cmpB a.key x.key := if_neg h
      rw [hc, cmpB_neg]
      have := cmpB_lt x.key a.key
      by_cases h2 : cmpB x.key a.key < 0
      · rw [if_pos (this.1 h2), if_pos (by omega)]
      · rw [if_neg (fun e => h2 (this.2 e)), if_neg (by omega)]

set_option maxHeartbeats 1000000 in
set_option maxRecDepth 100000 in
theorem behind_any (ys : List Ent) (key : ByteArray) (B : Nat) (w : World) (v : Value) (hl : ys.length ≤ 1000000) (h : Es B w v ys) :
    Calls Tryz.prog 53 #[v, .string key] w fun e w' => e = .returned (.int .i64 (behindK ys.getLast? key : Nat)) ∧ ∃ n, w' = w.drewN n := by
  rcases List.eq_nil_or_concat ys with rfl | ⟨zs, y, rfl⟩
  · obtain ⟨a, cap, rfl⟩ := h.shape
    go_enter Tryz.func53, Tryz.ntmps53
    go_wp2_with fail
    go_ret
    exact ⟨rfl, 0, rfl⟩
  · rw [List.concat_eq_append] at *
    have hln : (zs ++ [y]).length = zs.length + 1 := by simp
    obtain ⟨b, off, cap, rfl, hb, hle, hcm, c0, c1⟩ := h.at (i := zs.length) (x := y) (by simp)
    rw [hln] at hl hle ⊢
    unfold maxLen at hcm
    have HR : Hid (behindK (zs ++ [y]).getLast? key = if y.key = key then 14 else if Op.bytesLess key.data.toList y.key.data.toList = true then 7 else 0) := by
      show _ = _
      simp [behindK]
    have hk0 := beq_bytes key y.key
    clear h hln
    generalize zs.length = n at *
    generalize behindK (zs ++ [y]).getLast? key = R at *
    have hne : ¬ (n : Int) + 1 = 0 := by omega
    by_cases h1 : y.key = key
    · have hk : (key.toList == y.key.toList) = true := by rw [hk0]; simp [h1]
      have HR2 : Hid (R = 14) := by show _ = _; rw [HR.out, if_pos h1]
      clear HR hk0 h1
      go_enter Tryz.func53, Tryz.ntmps53
      go_wp2_with fail
      go_ret
      rw [HR2.out]
      exact ⟨rfl, 0, rfl⟩
    · have hk : (key.toList == y.key.toList) = false := by rw [hk0]; simp; exact fun e => h1 e.symm
      by_cases h2 : Op.bytesLess key.data.toList y.key.data.toList = true
      · have HR2 : Hid (R = 7) := by show _ = _; rw [HR.out, if_neg h1, if_pos h2]
        have h2b : Op.bytesLess key.toList y.key.toList = true := by rw [ByteArray.toList_eq, ByteArray.toList_eq]; exact h2
        clear HR hk0 h1
        go_enter Tryz.func53, Tryz.ntmps53
        go_wp2_with fail
        go_ret
        rw [HR2.out]
        exact ⟨rfl, 0, rfl⟩
      · have HR2 : Hid (R = 0) := by show _ = _; rw [HR.out, if_neg h1, if_neg h2]
        have h3 : Op.bytesLess key.toList y.key.toList = false := by rw [ByteArray.toList_eq, ByteArray.toList_eq]; simpa using h2
        clear HR hk0 h1 h2
        go_enter Tryz.func53, Tryz.ntmps53
        go_wp2_with fail
        go_ret
        rw [HR2.out]
        exact ⟨rfl, 0, rfl⟩

/-! Check -/
theorem last_snoc {l : List Ent} {i : Nat} {x : Ent} (h : l[i]? = some x) : (l.take (i + 1)).getLast? = some x := by
  rw [List.take_add_one, h]; simp
theorem drop_at {l : List Ent} {i : Nat} {x : Ent} (h : l[i]? = some x) : l.drop i = x :: l.drop (i + 1) := by
  obtain ⟨h1, h2⟩ := List.getElem?_eq_some_iff.1 h
  rw [← h2]; exact List.drop_eq_getElem_cons h1
theorem firstE_at {l : List Ent} {i : Nat} {x : Ent} (h : l[i]? = some x) : firstE (l.drop i) = if checkE x ≠ 0 then checkE x else firstE (l.drop (i + 1)) := by
  rw [drop_at h, firstE]
theorem walk_next {l : List Ent} {i : Nat} {x : Ent} (p : Option Ent) (h : l[i]? = some x) : walkE p (l.drop i) = if checkE x ≠ 0 then checkE x else if behindO p x ≠ 0 then behindO p x else walkE ((l.take (i + 1)).getLast?) (l.drop (i + 1)) := by
  rw [drop_at h, walkE, last_snoc h]

theorem ent_size {xs : List Ent} (h : ∀ x ∈ xs, x.key.size ≤ maxLen ∧ x.value.size ≤ maxLen) {i : Nat} {x : Ent} (hx : xs[i]? = some x) : x.key.size ≤ maxLen ∧ x.value.size ≤ maxLen := h x (List.mem_of_getElem? hx)

set_option maxHeartbeats 2000000 in
set_option maxRecDepth 100000 in
theorem dcheck_any (xs : List Ent) (B : Nat) (w : World) (v : Value) (hl : xs.length ≤ 1000000) (hz : ∀ x ∈ xs, x.key.size ≤ maxLen ∧ x.value.size ≤ maxLen) (hT : tb.Tab w) (h : Es B w v xs) :
    Calls Tryz.prog 29 #[v] w fun e w' => e = .returned (.int .i64 (checkD xs : Nat)) ∧ w.grownBy w' none := by
  have HC := Lib.hid (fun w => count_any xs.length (by omega) w)
  have HE := Lib.hid h.low
  have HZ := Lib.hid hz
  have HTB := Lib.hid (fun w1 (g : w.grownBy w1 none) => tb.kept hT g)
  have hlt := countE_lt xs.length
  have hmod : (xs.length : Int) % 18446744073709551616 = xs.length := by omega
  have HD : Hid (checkD xs = if countE xs.length ≠ 0 then countE xs.length else walkE none xs) := rfl
  obtain ⟨a, cap, rfl⟩ := h.shape
  clear h hT hz
  by_cases hc : countE xs.length = 0
  · rw [hc] at HC HD
    have HD2 := Lib.hid (HD.out.trans (if_neg (by simp)))
    clear HD hlt hc
    go_enter Tryz.func29, Tryz.ntmps29
    go_wp2_with fail
    refine (HC.out _).mono ?_
    rintro e w0 ⟨rfl, rfl⟩
    go_wp2_with fail
    go_loopw [17] (fun q wr => ∃ i : Nat, i ≤ xs.length ∧ q = .int .i64 i ∧ w.grownBy wr none ∧ walkE none xs = walkE ((xs.take i).getLast?) (xs.drop i)) (fun q _ => xs.length - (intOf q).toNat)
    case atStart => exact ⟨0, Nat.zero_le _, rfl, only_refl _ _, by simp⟩
    case round =>
      obtain ⟨i, hi, rfl, hg, hw⟩ := hrel
      have HG := Lib.hid hg
      have HW := Lib.hid hw
      clear hg hw
      by_cases hlt : i < xs.length
      · obtain ⟨x, hx⟩ : ∃ x, xs[i]? = some x := ⟨xs[i], List.getElem?_eq_getElem hlt⟩
        have HEi := Lib.hid (HE.out.grown HG.out)
        obtain ⟨b, off, cap', hv, hb, hle, hcm, c0, c1⟩ := HEi.out.at hx
        simp only [Value.slice.injEq, true_and] at hv
        obtain ⟨rfl, rfl⟩ := hv
        unfold maxLen at hcm
        have hsz := ent_size HZ.out hx
        have HWN := Lib.hid (HW.out.trans (walk_next _ hx))
        have GA := only_alloc (only_refl wr none) (.cells #[.string x.key, .string x.value] 23)
        have G1 := Lib.hid (only_trans HG.out GA)
        have V1 := Lib.hid (EntV.new wr 23 x)
        have HCK := Lib.hid (fun w1 (g : w.grownBy w1 none) => ee.check_any x w1 hsz.1 hsz.2 (HTB.out w1 g))
        have HBH := Lib.hid (fun w1 (g : wr.grownBy w1 none) => behind_any (xs.take i) x.key _ w1 _ (by simp; omega) ((HEi.out.grown g).take i (by omega)))
        rw [behindK_eq] at HBH
        have h1lt := checkE_lt x
        have h2lt := behindO_lt ((xs.take i).getLast?) x
        have HGA := Lib.hid GA
        clear hx hsz GA HW
        by_cases h1 : checkE x = 0
        · rw [h1] at HCK HWN
          have HWN := Lib.hid (HWN.out.trans (if_neg (by simp)))
          clear h1lt h1
          by_cases h2 : behindO ((xs.take i).getLast?) x = 0
          · rw [h2] at HBH HWN
            have HWN := Lib.hid (HWN.out.trans (if_neg (by simp)))
            clear h2lt h2
            go_wp2_with fail
            refine (HCK.out _ G1.out).mono ?_
            rintro e w1 ⟨rfl, g1⟩
            have G2 := Lib.hid (only_trans G1.out g1)
            have V2 := Lib.hid (V1.out.grown g1)
            have HGB := Lib.hid (only_trans HGA.out g1)
            obtain ⟨d0, d1⟩ := V2.out
            clear g1
            go_wp2_with fail
            have HBQ := Lib.hid (fun n => HBH.out (w1.drewN n) (only_drewN HGB.out n))
            go_quiet (first | (go_at_call 53; exact Calls.quiet_of (HBQ.out _)))
            go_wp2_with fail
            go_roundw
            case rel => exact ⟨i + 1, by omega, by go_num, only_drewN G2.out _, HWN.out⟩
            case measure => simp [intOf]; omega
          · have HWN := Lib.hid (HWN.out.trans (if_pos h2))
            generalize behindO ((xs.take i).getLast?) x = q at *
            have hqb : ((q : Int) != 0) = true := by rw [bne_iff_ne]; omega
            go_wp2_with fail
            refine (HCK.out _ G1.out).mono ?_
            rintro e w1 ⟨rfl, g1⟩
            have G2 := Lib.hid (only_trans G1.out g1)
            have V2 := Lib.hid (V1.out.grown g1)
            have HGB := Lib.hid (only_trans HGA.out g1)
            obtain ⟨d0, d1⟩ := V2.out
            clear g1
            go_wp2_with fail
            have HBQ := Lib.hid (fun n => HBH.out (w1.drewN n) (only_drewN HGB.out n))
            go_quiet (first | (go_at_call 53; exact Calls.quiet_of (HBQ.out _)))
            go_wp2_with fail
            go_ret
            rw [HD2.out, HWN.out]
            exact ⟨rfl, only_drewN G2.out _⟩
        · have HWN := Lib.hid (HWN.out.trans (if_pos h1))
          generalize checkE x = q at *
          have hqb : ((q : Int) != 0) = true := by rw [bne_iff_ne]; omega
          clear HBH h2lt
          go_wp2_with fail
          refine (HCK.out _ G1.out).mono ?_
          rintro e w1 ⟨rfl, g1⟩
          have G2 := Lib.hid (only_trans G1.out g1)
          clear g1
          go_wp2_with fail
          go_ret
          rw [HD2.out, HWN.out]
          exact ⟨rfl, G2.out⟩
      · have hie : i = xs.length := by omega
        subst hie
        rw [List.drop_length] at HW
        go_wp2_with fail
        go_ret
        rw [HD2.out, HW.out]
        exact ⟨rfl, HG.out⟩
  · have hqb : ((countE xs.length : Int) != 0) = true := by rw [bne_iff_ne]; omega
    have HD2 := Lib.hid (HD.out.trans (if_pos hc))
    generalize countE xs.length = q at *
    clear HD hc
    go_enter Tryz.func29, Tryz.ntmps29
    go_wp2_with fail
    refine (HC.out _).mono ?_
    rintro e w0 ⟨rfl, rfl⟩
    go_wp2_with fail
    go_ret
    rw [HD2.out]
    exact ⟨rfl, only_refl _ _⟩

/-! Key -/
theorem keyD_take {l : List Ent} {i : Nat} {x : Ent} (h : l[i]? = some x) : ((l.take (i + 1)).map putE).flatten = ((l.take i).map putE).flatten ++ putE x := by
  rw [List.take_add_one, h]; simp

set_option maxHeartbeats 2000000 in
set_option maxRecDepth 100000 in
theorem key_any (xs : List Ent) (B : Nat) (w : World) (v : Value) (hl : xs.length ≤ 1000) (hz : ∀ x ∈ xs, x.key.size ≤ 1000 ∧ x.value.size ≤ 1000) (hk : (keyD xs).length ≤ 1000000) (h : Es B w v xs) :
    Calls Tryz.prog 31 #[v] w fun e w' => e = .returned (.string (txt (keyD xs))) ∧ w.grownBy w' none := by
  have HP := Lib.hid (fun w => put_any xs.length (by omega) w)
  have HE := Lib.hid h.low
  have HZ := Lib.hid hz
  have hmod : (xs.length : Int) % 18446744073709551616 = xs.length := by omega
  obtain ⟨a, cap, rfl⟩ := h.shape
  clear h hz
  go_enter Tryz.func31, Tryz.ntmps31
  have HB := Lib.hid (Bld.new w (fun k => w.heap.size ≤ k) (Nat.le_refl _))
  have HGA := Lib.hid (only_alloc (only_refl w none) (.cells #[.pointer none, .slice none 0 0] 88))
  have hkl : (enc xs.length).length + ((xs.map putE).flatten).length ≤ 1000000 := by unfold keyD at hk; rw [List.length_append] at hk; exact hk
  have HN : Hid ((encB xs.length).data.toList = enc xs.length) := by
    show _ = _
    rw [encB_txt, txt_list]
  have hn : (encB xs.length).size = (enc xs.length).length := by rw [encB_txt, txt_size]
  clear hk
  go_wp2_with fail
  refine (HP.out _).mono ?_
  rintro e w1 ⟨rfl, g1⟩
  have HB1 := Lib.hid (HB.out.kept (T := fun _ => False) (Chg.of_none g1) (fun _ _ e => e))
  have HG1 := Lib.hid (only_trans HGA.out g1)
  clear g1
  go_wp2_with fail
  refine (write_any _ _ _ _ _ HB1.out (by rw [hn]; simp; omega)).mono ?_
  rintro e w2 ⟨rfl, g2, b2⟩
  have HG2 := Lib.hid (Chg.none_new HG1.out g2 (fun k e => e))
  rw [HN.out, List.nil_append] at b2
  have HB2 := Lib.hid (b2.mono (T := fun k => w.heap.size ≤ k) (fun k _ hk => by rcases hk with hk | hk; exact hk; have := HG1.out.size; omega))
  clear g2 b2
  go_wp2_with fail
  go_loopw [13] (fun q wr => ∃ i : Nat, i ≤ xs.length ∧ q = .int .i64 i ∧ Bld wr w.heap.size (fun k => w.heap.size ≤ k) (enc xs.length ++ ((xs.take i).map putE).flatten) ∧ w.grownBy wr none) (fun q _ => xs.length - (intOf q).toNat)
  case atStart => exact ⟨0, Nat.zero_le _, rfl, by simpa using HB2.out, HG2.out⟩
  case round =>
    obtain ⟨i, hi, rfl, hb, hg⟩ := hrel
    have HG := Lib.hid hg
    have HBi := Lib.hid hb
    clear hg hb
    by_cases hlt : i < xs.length
    · obtain ⟨x, hx⟩ : ∃ x, xs[i]? = some x := ⟨xs[i], List.getElem?_eq_getElem hlt⟩
      have HEi := Lib.hid (HE.out.grown HG.out)
      obtain ⟨b, off, cap', hv, hb, hle, hcm, c0, c1⟩ := HEi.out.at hx
      simp only [Value.slice.injEq, true_and] at hv
      obtain ⟨rfl, rfl⟩ := hv
      unfold maxLen at hcm
      have hsz := HZ.out x (List.mem_of_getElem? hx)
      have HTK := Lib.hid (keyD_take hx)
      have hpl : ((xs.take i).map putE).flatten.length + (putE x).length ≤ ((xs.map putE).flatten).length := by
        rw [← List.length_append, ← HTK.out]
        have := congrArg List.length (show (xs.map putE).flatten = ((xs.take (i + 1)).map putE).flatten ++ ((xs.drop (i + 1)).map putE).flatten by rw [← List.flatten_append, ← List.map_append, List.take_append_drop])
        rw [List.length_append] at this
        omega
      have GA := only_alloc (only_refl wr none) (.cells #[.string x.key, .string x.value] 23)
      have G1 := Lib.hid (only_trans HG.out GA)
      have HBA := Lib.hid (HBi.out.kept (T := fun _ => False) (Chg.of_none GA) (fun _ _ e => e))
      have HPX := Lib.hid (fun w => ee.put_any x w (by omega) (by omega))
      clear hx GA hsz
      go_wp2_with fail
      refine (HPX.out _).mono ?_
      rintro e w3 ⟨rfl, g3⟩
      have HG3 := Lib.hid (only_trans G1.out g3)
      have HB3 := Lib.hid (HBA.out.kept (T := fun _ => False) (Chg.of_none g3) (fun _ _ e => e))
      clear g3
      go_wp2_with fail
      refine (write_any _ _ _ _ _ HB3.out (by rw [txt_size, List.length_append]; omega)).mono ?_
      rintro e w4 ⟨rfl, g4, b4⟩
      have HG4 := Lib.hid (Chg.none_new HG3.out g4 (fun k e => e))
      rw [txt_list, List.append_assoc, ← HTK.out] at b4
      have HB4 := Lib.hid (b4.mono (T := fun k => w.heap.size ≤ k) (fun k _ hk => by rcases hk with hk | hk; exact hk; have := HG3.out.size; omega))
      clear g4 b4
      go_wp2_with fail
      go_roundw
      case rel => exact ⟨i + 1, by omega, by go_num, HB4.out, HG4.out⟩
      case measure => simp [intOf]; omega
    · have hie : i = xs.length := by omega
      subst hie
      rw [List.take_length] at HBi
      go_wp2_with fail
      refine (string_any _ _ _ _ HBi.out).mono ?_
      rintro e w4 ⟨rfl, g4, -⟩
      have HG4 := Lib.hid (Chg.none_new HG.out g4 (fun k e => by first | exact e | (rcases e with e | e; exact e; have := HG.out.size; omega)))
      clear g4
      go_wp2_with fail
      go_ret
      exact ⟨rfl, HG4.out⟩

/-! Get -/
theorem getD_at {l : List Ent} {i : Nat} {x : Ent} (key : ByteArray) (h : l[i]? = some x) : getD key (l.drop i) = if x.key = key then (x.value, true) else getD key (l.drop (i + 1)) := by
  rw [drop_at h, getD]

set_option maxHeartbeats 2000000 in
set_option maxRecDepth 100000 in
theorem get_any (xs : List Ent) (key : ByteArray) (B : Nat) (w : World) (v : Value) (hl : xs.length ≤ 1000000) (h : Es B w v xs) :
    Calls Tryz.prog 25 #[v, .string key] w fun e w' => e = .returned (.tuple #[.string (getD key xs).1, .bool (getD key xs).2]) ∧ w.grownBy w' none := by
  have HE := Lib.hid h.low
  obtain ⟨a, cap, rfl⟩ := h.shape
  clear h
  go_enter Tryz.func25, Tryz.ntmps25
  go_wp2_with fail
  go_loopw [10] (fun q wr => ∃ i : Nat, i ≤ xs.length ∧ q = .int .i64 i ∧ w.grownBy wr none ∧ getD key xs = getD key (xs.drop i)) (fun q _ => xs.length - (intOf q).toNat)
  case atStart => exact ⟨0, Nat.zero_le _, rfl, only_refl _ _, by simp⟩
  case round =>
    obtain ⟨i, hi, rfl, hg, hd⟩ := hrel
    have HG := Lib.hid hg
    have HD := Lib.hid hd
    clear hg hd
    by_cases hlt : i < xs.length
    · obtain ⟨x, hx⟩ : ∃ x, xs[i]? = some x := ⟨xs[i], List.getElem?_eq_getElem hlt⟩
      obtain ⟨b, off, cap', hv, hb, hle, hcm, c0, c1⟩ := (HE.out.grown HG.out).at hx
      simp only [Value.slice.injEq, true_and] at hv
      obtain ⟨rfl, rfl⟩ := hv
      unfold maxLen at hcm
      have HDN := Lib.hid (HD.out.trans (getD_at key hx))
      have G1 := Lib.hid (only_trans HG.out (only_alloc (only_refl wr none) (.cells #[.string x.key, .string x.value] 23)))
      have hk0 := beq_bytes x.key key
      clear hx HD
      by_cases h1 : x.key = key
      · have hk : (x.key.toList == key.toList) = true := by rw [hk0]; simp [h1]
        have HDN := Lib.hid (HDN.out.trans (if_pos h1))
        clear hk0 h1
        go_wp2_with fail
        go_ret2
        rw [HDN.out]
        exact ⟨rfl, G1.out⟩
      · have hk : (x.key.toList == key.toList) = false := by rw [hk0]; simp [h1]
        have HDN := Lib.hid (HDN.out.trans (if_neg h1))
        clear hk0 h1
        go_wp2_with fail
        go_roundw
        case rel => exact ⟨i + 1, by omega, by go_num, G1.out, HDN.out⟩
        case measure => simp [intOf]; omega
    · have hie : i = xs.length := by omega
      subst hie
      rw [List.drop_length] at HD
      go_wp2_with fail
      go_ret2
      rw [HD.out]
      exact ⟨rfl, HG.out⟩

/-! Cmp -/
set_option maxHeartbeats 2000000 in
set_option maxRecDepth 100000 in
theorem dcmp_any (xs ys : List Ent) (B : Nat) (w : World) (v u : Value) (hx : xs.length ≤ 1000) (hy : ys.length ≤ 1000) (hz : ∀ x ∈ xs, x.key.size ≤ 1000 ∧ x.value.size ≤ 1000) (hz2 : ∀ x ∈ ys, x.key.size ≤ 1000 ∧ x.value.size ≤ 1000)
    (hk : (keyD xs).length ≤ 1000000) (hk2 : (keyD ys).length ≤ 1000000) (h : Es B w v xs) (h2 : Es B w u ys) :
    Calls Tryz.prog 32 #[v, u] w fun e w' => e = .returned (.int .i64 (cmpB (txt (keyD xs)) (txt (keyD ys)))) ∧ w.grownBy w' none := by
  have HK1 := Lib.hid (fun w1 (g : w.grownBy w1 none) => key_any xs B w1 v hx hz hk (h.grown g))
  have HK2 := Lib.hid (fun w1 (g : w.grownBy w1 none) => key_any ys B w1 u hy hz2 hk2 (h2.grown g))
  have HC := Lib.hid (fun w => ee.compare_any (txt (keyD xs)) (txt (keyD ys)) w)
  obtain ⟨a, cap, rfl⟩ := h.shape
  obtain ⟨a2, cap2, rfl⟩ := h2.shape
  generalize txt (keyD xs) = X at *
  generalize txt (keyD ys) = Y at *
  generalize cmpB X Y = r at *
  clear h h2 hz hz2
  go_enter Tryz.func32, Tryz.ntmps32
  go_wp2_with fail
  refine (HK1.out _ (only_refl _ _)).mono ?_
  rintro e w1 ⟨rfl, g1⟩
  have G1 := Lib.hid g1
  clear g1
  go_wp2_with fail
  refine (HK2.out _ G1.out).mono ?_
  rintro e w2 ⟨rfl, g2⟩
  have G2 := Lib.hid (only_trans G1.out g2)
  clear g2
  go_wp2_with fail
  refine (HC.out _).mono ?_
  rintro e w3 ⟨rfl, rfl⟩
  go_wp2_with fail
  go_ret
  exact ⟨rfl, G2.out⟩

end Go.Proofs.YtiolkedmpjjojaaGreatDoor.dd
