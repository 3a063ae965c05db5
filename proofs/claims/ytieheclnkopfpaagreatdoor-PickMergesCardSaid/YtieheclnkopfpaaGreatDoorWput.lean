/-
  The developers' writing of fields: head, withLength, size, Size, write, Put.
-/
import Derived.Test.YtieheclnkopfpaaGreatDoorLaw09
import Derived.Test.YtieheclnkopfpaaGreatDoorBundC
import Derived.Test.YtieheclnkopfpaaGreatDoorBundF
namespace Go.Proofs.YtieheclnkopfpaaGreatDoor.ww
open Go.RowKit Go.Proofs.YtieheclnkopfpaaGreatDoor.tr Go.Proofs.YtieheclnkopfpaaGreatDoor.wm Go.Proofs.YtieheclnkopfpaaGreatDoor.vi Go.Proofs.YtieheclnkopfpaaGreatDoor.bd
set_option linter.unusedVariables false
set_option linter.unusedSimpArgs false

set_option maxHeartbeats 1000000 in
set_option maxRecDepth 100000 in
theorem head_any (a y n : Nat) (x : ByteArray) (la : Option Addr) (ll lc : Nat) (ha : a ≤ 4294967296) (hy : y ≤ 2) (w : World) :
    Calls Tryz.prog 68 #[.agg #[.int .u64 (a : Nat), .int .i64 (y : Nat), .int .u64 (n : Nat), .string x, .slice la ll lc]] w fun e w' => e = .returned (.int .u64 ((4 * a + y : Nat) : Int)) ∧ w.grownBy w' none := by
  have h1 : ((a : Int) * 4) % 18446744073709551616 = 4 * (a : Int) := by omega
  have h2 : (y : Int) % 18446744073709551616 = (y : Int) := by omega
  have h3 : (4 * (a : Int) + (y : Int)) % 18446744073709551616 = ((4 * a + y : Nat) : Int) := by omega
  go_enter Tryz.func68, Tryz.ntmps68
  go_wp2_with fail
  go_ret
  exact ⟨ret1 (congrArg (Value.int .u64) (by omega)), only_alloc (only_refl _ _) _⟩

theorem with_any (n : Nat) (hn : n ≤ 2000000) (w : World) :
    Calls Tryz.prog 69 #[.int .i64 (n : Nat)] w fun e w' => e = .returned (.int .i64 (((enc n).length + n : Nat) : Int)) ∧ w = w' := by
  have hz := fun w => size_any n (by omega) w
  have h10 := enc_len_ten (n := n) (by omega)
  have h1 : (n : Int) % 18446744073709551616 = (n : Int) := by omega
  generalize (enc n).length = k at *
  go_enter Tryz.func69, Tryz.ntmps69
  go_wp2_with fail
  refine (hz _).mono ?_
  rintro e w' ⟨rfl, rfl⟩
  go_wp2_with fail
  go_ret
  exact ⟨ret1 (congrArg (Value.int .i64) (by omega)), rfl⟩

theorem var_y {w : World} {b : Nat} {t : Tree} {v : Value} (h : Var w b t v) {y : Nat} (hy : t.typ = (y : Int)) : w.cell? ⟨b, 1, none⟩ = some (.int .i64 (y : Nat)) := by
  rw [← hy]; exact h.2.1

set_option maxHeartbeats 8000000 in
set_option maxRecDepth 100000 in
theorem wsize_any : ∀ (n : Nat) (ts : List Tree), sizeL ts ≤ n → sizeL ts ≤ 100000 → ∀ (d p : Nat), checkL d p ts = 0 → fitsL ts → (wrL ts).length ≤ 1000000 → ∀ (w : World) (S : Nat → Prop) (v : Value), Rd w S v ts →
    Calls Tryz.prog 58 #[v] w fun e w' => e = .returned (.int .i64 ((wrL ts).length : Nat)) ∧ w.grownBy w' none := by
  intro n
  induction n with
  | zero =>
    intro ts hn _ d p _ _ _ w S v h
    have hl := len_size ts
    obtain rfl : ts = [] := List.length_eq_zero_iff.1 (by omega)
    obtain ⟨a, cap, rfl⟩ := h.shape
    go_enter Tryz.func58, Tryz.ntmps58
    go_wp2_with fail
    refine wp_loop_rounds 1 ?_
    rw [rounds_succ]
    go_wp2_with fail
    go_ret
    exact ⟨by rw [wrL_nil]; rfl, only_refl _ _⟩
  | succ n ih =>
    intro ts hn hb d p hc hf hw w S v h
    have hl := len_size ts
    have HR := Lib.hid h
    have IH := Lib.hid ih
    have HC := Lib.hid hc
    have HF := Lib.hid hf
    obtain ⟨a, cap, rfl⟩ := h.shape
    clear h ih hc hf
    go_enter Tryz.func58, Tryz.ntmps58
    go_wp2_with fail
    go_loopw [3, 8] (fun x q wr => ∃ i : Nat, i ≤ ts.length ∧ q = .int .i64 i ∧ x = .int .i64 ((wrL (ts.take i)).length : Nat) ∧ w.grownBy wr none) (fun _ q _ => ts.length - (intOf q).toNat)
    case atStart => exact ⟨0, by omega, rfl, by rw [List.take_zero, wrL_nil]; rfl, only_refl _ _⟩
    case round =>
      obtain ⟨i, hi, rfl, rfl, hg⟩ := hrel
      have HG := Lib.hid hg
      clear hg
      by_cases hlt : i < ts.length
      · obtain ⟨t, ht⟩ : ∃ t, ts[i]? = some t := ⟨ts[i], List.getElem?_eq_getElem hlt⟩
        have hts := size_mem ht
        obtain ⟨b, off, cap', lv, hv, h1, h2, h3, h4, hc, hr⟩ := (HR.out.grown HG.out).at ht
        simp only [Value.slice.injEq, true_and] at hv
        obtain ⟨rfl, rfl⟩ := hv
        obtain ⟨c0, c1, c2, c3, c4⟩ := hc
        obtain ⟨g0, g1, g2, g3, g4⟩ := good_at HC.out HF.out ht
        have hsn : wrL (ts.take (i + 1)) = wrL (ts.take i) ++ wrT t := by rw [take_snoc ht, wrL_append, wrL_cons, wrL_nil, List.append_nil]
        have hln : (wrL (ts.take i)).length + (wrT t).length ≤ 1000000 := by
          have h5 := congrArg List.length hsn
          have h6 := congrArg List.length (show wrL ts = wrL (ts.take (i + 1)) ++ wrL (ts.drop (i + 1)) by rw [← wrL_append, List.take_append_drop])
          rw [List.length_append] at h5 h6
          omega
        obtain ⟨y, hy⟩ : ∃ y : Nat, t.typ = (y : Int) := ⟨t.typ.toNat, by omega⟩
        have hy2 : y ≤ 2 := by omega
        have HL := Lib.hid hr
        have hle := len_size t.list
        have hD := var_new wr 38 t lv
        have HIH := Lib.hid (fun h => IH.out t.list (by omega) (by omega) (d + 1) 0 g4 g3 h)
        have HP2 := Lib.hid (fun w => size_any t.num g2 w)
        have HWL := Lib.hid with_any
        have hwt : (wrT t).length = (enc (4 * t.tag + y)).length + (if y = 0 then (enc t.num).length else if y = 2 then (enc (wrL t.list).length).length + (wrL t.list).length else (enc t.text.size).length + t.text.size) := by
          rw [wr_eq, hy]
          rcases (show y = 0 ∨ y = 1 ∨ y = 2 by omega) with h | h | h <;> rw [h] <;> simp
        have hsl := congrArg List.length hsn
        rw [List.length_append] at hsl
        have e1 : (enc (4 * t.tag + y)).length ≤ 10 := enc_len_ten (by omega)
        have e2 : (enc t.num).length ≤ 10 := enc_len_ten g2
        have HH := Lib.hid (fun la ll lc w => head_any t.tag y t.num t.text la ll lc g0 hy2 w)
        have HP1 := Lib.hid (fun w => size_any (4 * t.tag + y) (by omega) w)
        have hk1 : y = 1 → t.text.size ≤ 1000000 := fun h => by rw [if_neg (by omega), if_neg (by omega)] at hwt; omega
        have hk2 : y = 2 → (wrL t.list).length ≤ 1000000 := fun h => by rw [if_neg (by omega), if_pos h] at hwt; omega
        obtain ⟨la, lc, rfl⟩ := hr.shape
        rw [hy] at hD
        have HD := Lib.hid hD
        have HGW := Lib.hid (only_alloc (only_refl wr none) (.cells #[.int .u64 (t.tag : Nat), .int .i64 (y : Int), .int .u64 (t.num : Nat), .string t.text, .slice la t.list.length lc] 38))
        rw [hy] at c1
        have HY := Lib.hid hy
        have HSL := Lib.hid hsl
        have HWT := Lib.hid hwt
        clear ht hr hsn hD hy g3 g4 hsl hwt
        unfold maxLen at h2
        generalize (wrL (ts.take i)).length = A at *
        generalize (enc (4 * t.tag + y)).length = E1 at *
        have d1 := var_y HD.out HY.out
        have d0 := HD.out.1
        have d2 := HD.out.2.2.1
        have d3 := HD.out.2.2.2.1
        have d4 := HD.out.2.2.2.2
        go_wp2_with fail
        generalize wr.alloc (.cells #[.int .u64 (t.tag : Nat), .int .i64 (y : Int), .int .u64 (t.num : Nat), .string t.text, .slice la t.list.length lc] 38) = wa at *
        refine (HH.out _ _ _ _).mono ?_
        rintro e w1 ⟨rfl, g1⟩
        have HD1 := Lib.hid (HD.out.grown g1)
        have HG1 := Lib.hid (only_trans HGW.out g1)
        clear c0 c1 c2 c3 c4 d0 d1 d2 d3 d4 g1
        go_wp2_with fail
        refine (HP1.out _).mono ?_
        rintro e w2 ⟨rfl, rfl⟩
        have d1 := var_y HD1.out HY.out
        have d2 := HD1.out.2.2.1
        have d3 := HD1.out.2.2.2.1
        have d4 := HD1.out.2.2.2.2
        rcases (show y = 0 ∨ y = 1 ∨ y = 2 by omega) with h0 | h0 | h0
        · have hwt := HWT.out
          rw [if_pos h0] at hwt
          have hsl := HSL.out
          rw [hwt] at hsl hln
          have HE := Lib.hid hsl
          subst h0
          clear hk1 hk2 HWT hwt hsl HSL
          generalize (enc t.num).length = E2 at *
          go_wp2_with fail
          refine (HP2.out _).mono ?_
          rintro e w3 ⟨rfl, rfl⟩
          have HG2 := Lib.hid (only_trans HG.out HG1.out)
          go_wp2_with fail
          go_roundw
          case rel => exact ⟨i + 1, by omega, by go_num, congrArg (Value.int .i64) (by rw [HE.out]; omega), HG2.out⟩
          case measure => simp [intOf]; omega
        · have hwt := HWT.out
          rw [if_neg (by omega), if_neg (by omega)] at hwt
          have hsl := HSL.out
          rw [hwt] at hsl hln
          have HE := Lib.hid hsl
          have hk := hk1 h0
          subst h0
          have HP4 := Lib.hid (HWL.out t.text.size (by omega))
          have e3 : (enc t.text.size).length ≤ 10 := enc_len_ten (by omega)
          clear hk1 hk2 HWT hwt hsl HSL
          generalize (enc t.text.size).length = E2 at *
          go_wp2_with fail
          refine (HP4.out _).mono ?_
          rintro e w3 ⟨rfl, rfl⟩
          have HG2 := Lib.hid (only_trans HG.out HG1.out)
          go_wp2_with fail
          go_roundw
          case rel => exact ⟨i + 1, by omega, by go_num, congrArg (Value.int .i64) (by rw [HE.out]; omega), HG2.out⟩
          case measure => simp [intOf]; omega
        · have hwt := HWT.out
          rw [if_neg (by omega), if_pos h0] at hwt
          have hsl := HSL.out
          rw [hwt] at hsl hln
          have HE := Lib.hid hsl
          have hk := hk2 h0
          subst h0
          have HT5 := Lib.hid (HIH.out hk w1 S _ (HL.out.grown HG1.out))
          have HP4 := Lib.hid (HWL.out (wrL t.list).length (by omega))
          have e3 : (enc (wrL t.list).length).length ≤ 10 := enc_len_ten (by omega)
          clear hk1 hk2 HWT hwt hsl HSL HIH
          generalize (enc (wrL t.list).length).length = E2 at *
          generalize (wrL t.list).length = k at *
          go_wp2_with fail
          refine HT5.out.mono ?_
          rintro e w3 ⟨rfl, g3⟩
          have HG2 := Lib.hid (only_trans HG.out (only_trans HG1.out g3))
          clear g3
          go_wp2_with fail
          refine (HP4.out _).mono ?_
          rintro e w4 ⟨rfl, rfl⟩
          go_wp2_with fail
          go_roundw
          case rel => exact ⟨i + 1, by omega, by go_num, congrArg (Value.int .i64) (by rw [HE.out]; omega), HG2.out⟩
          case measure => simp [intOf]; omega
      · have hie : i = ts.length := by omega
        subst hie
        go_wp2_with fail
        go_ret
        exact ⟨by rw [List.take_length]; rfl, HG.out⟩

end Go.Proofs.YtieheclnkopfpaaGreatDoor.ww
