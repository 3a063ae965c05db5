/-
  The document's fields as bytes: Text, Put, one, all, Get, First.
-/
import Derived.Test.YtigmfbmjfjkfjaaDoorWfew
import Derived.Test.YtigmfbmjfjkfjaaDoorBundT
import Derived.Test.YtigmfbmjfjkfjaaDoorBundA
import Derived.Handy
import Derived.Deep.LoopGhost
namespace Go.Proofs.YtigmfbmjfjkfjaaDoor.wm
open Go.RowKit Go.Proofs.YtigmfbmjfjkfjaaDoor.tr Go.Proofs.YtigmfbmjfjkfjaaDoor.vi
set_option linter.unusedVariables false
set_option linter.unusedSimpArgs false

theorem encB_txt (n : Nat) : encB n = txt (enc n) := rfl
theorem txt_append (a b : List UInt8) : txt a ++ txt b = txt (a ++ b) := by
  apply ByteArray.ext
  apply Array.ext'
  simp [txt]
theorem txt_data (s : ByteArray) : s = txt s.data.toList := (txt_of s).symm

/-- A field of those that may be. -/
theorem good_at : ∀ {ts : List Tree} {d p i : Nat} {t : Tree}, checkL d p ts = 0 → fitsL ts → ts[i]? = some t → t.tag ≤ 4294967296 ∧ (0 ≤ t.typ ∧ t.typ ≤ 2) ∧ t.num < 18446744073709551616 ∧ fitsL t.list ∧ checkL (d + 1) 0 t.list = 0
  | [], d, p, i, t, _, _, h => by simp at h
  | x :: r, d, p, 0, t, hc, hf, h => by
    simp at h; subst h
    obtain ⟨h0, h1, h2, h3, h4, h5, h6⟩ := check_ok hc
    obtain ⟨f1, f2, f3⟩ := (fitsL_cons x r).1 hf
    exact ⟨h1, by unfold bad at h3; omega, f1, f2, h5⟩
  | x :: r, d, p, i + 1, t, hc, hf, h => by
    obtain ⟨h0, h1, h2, h3, h4, h5, h6⟩ := check_ok hc
    obtain ⟨f1, f2, f3⟩ := (fitsL_cons x r).1 hf
    exact good_at (i := i) h6 f3 (by simpa using h)

set_option maxHeartbeats 4000000 in
set_option maxRecDepth 100000 in
theorem rtext_any : ∀ (n : Nat) (ts : List Tree), sizeL ts ≤ n → sizeL ts ≤ 100000 → ∀ (d p : Nat), checkL d p ts = 0 → fitsL ts → (wrL ts).length ≤ 1000000 → ∀ (w : World) (S : Nat → Prop) (v : Value), Rd w S v ts →
    Calls Tryd.prog 29 #[v] w fun e w' => e = .returned (.string (txt (wrL ts))) ∧ w.grownBy w' none := by
  intro n
  induction n with
  | zero =>
    intro ts hn _ d p _ _ _ w S v h
    have hl := len_size ts
    obtain rfl : ts = [] := List.length_eq_zero_iff.1 (by omega)
    obtain ⟨a, cap, rfl⟩ := h.shape
    go_enter Tryd.func29, Tryd.ntmps29
    go_wp2_with fail
    refine wp_loop_rounds 1 ?_
    rw [rounds_succ]
    go_wp2_with fail
    go_ret
    exact ⟨by rw [wrL_nil]; rfl, only_refl _ _⟩
  | succ n ih =>
    intro ts hn hb d p hc hf hw w S v h
    have hl := len_size ts
    have HR := Lib.hid h
    have IH := Lib.hid ih
    have HC := Lib.hid hc
    have HF := Lib.hid hf
    obtain ⟨a, cap, rfl⟩ := h.shape
    clear h ih hc hf
    go_enter Tryd.func29, Tryd.ntmps29
    go_wp2_with fail
    go_loopw [3, 9] (fun x q wr => ∃ i : Nat, i ≤ ts.length ∧ q = .int .i64 i ∧ x = .string (txt (wrL (ts.take i))) ∧ w.grownBy wr none) (fun _ q _ => ts.length - (intOf q).toNat)
    case atStart => exact ⟨0, by omega, rfl, by rw [List.take_zero, wrL_nil]; rfl, only_refl _ _⟩
    case round =>
      obtain ⟨i, hi, rfl, rfl, hg⟩ := hrel
      have HG := Lib.hid hg
      clear hg
      by_cases hlt : i < ts.length
      · obtain ⟨t, ht⟩ : ∃ t, ts[i]? = some t := ⟨ts[i], List.getElem?_eq_getElem hlt⟩
        have hts := size_mem ht
        obtain ⟨b, off, cap', lv, hv, h1, h2, h3, h4, hc, hr⟩ := (HR.out.grown HG.out).at ht
        simp only [Value.slice.injEq, true_and] at hv
        obtain ⟨rfl, rfl⟩ := hv
        obtain ⟨c0, c1, c2, c3, c4⟩ := hc
        obtain ⟨g0, g1, g2, g3, g4⟩ := good_at HC.out HF.out ht
        have hsn : wrL (ts.take (i + 1)) = wrL (ts.take i) ++ wrT t := by rw [take_snoc ht, wrL_append, wrL_cons, wrL_nil, List.append_nil]
        have hln : (wrL (ts.take i)).length + (wrT t).length ≤ 1000000 := by
          have h5 := congrArg List.length hsn
          have h6 := congrArg List.length (show wrL ts = wrL (ts.take (i + 1)) ++ wrL (ts.drop (i + 1)) by rw [← wrL_append, List.take_append_drop])
          rw [List.length_append] at h5 h6
          omega
        obtain ⟨y, hy⟩ : ∃ y : Nat, t.typ = (y : Int) := ⟨t.typ.toNat, by omega⟩
        have hy2 : y ≤ 2 := by omega
        have HP1 := Lib.hid (fun w => rput_any (4 * t.tag + y) (by omega) w)
        have hw1 : (4 * (t.tag : Int)) % 18446744073709551616 = 4 * (t.tag : Int) := by omega
        have HL := Lib.hid hr
        have hle := len_size t.list
        have hD := var_new wr 45 t lv
        have HIH := Lib.hid (fun h => IH.out t.list (by omega) (by omega) (d + 1) 0 g4 g3 h)
        have HP2 := Lib.hid (fun w => rput_any t.num g2 w)
        have HP3 := Lib.hid (fun (k : Nat) (hk : k ≤ 1000000) w => rput_any k (by omega) w)
        have hs1 : (encB (4 * t.tag + y)).size ≤ 10 := by rw [encB_txt, txt_size]; exact enc_len_ten (by omega)
        have hs2 : (encB t.num).size ≤ 10 := by rw [encB_txt, txt_size]; exact enc_len_ten g2
        have hs3 : ∀ k, k ≤ 1000000 → (encB k).size ≤ 10 := fun k hk => by rw [encB_txt, txt_size]; exact enc_len_ten (by omega)
        have HS3 := Lib.hid hs3
        have hsA : (txt (wrL (ts.take i))).size ≤ 1000000 := by rw [txt_size]; omega
        have HWT : Hid (wrT t = enc (4 * t.tag + y) ++ (if y = 0 then enc t.num else if y = 2 then enc (wrL t.list).length ++ wrL t.list else enc t.text.size ++ t.text.data.toList)) := by
          show wrT t = _
          rw [wr_eq, hy]
          rcases (show y = 0 ∨ y = 1 ∨ y = 2 by omega) with h | h | h <;> rw [h] <;> simp
        have hwt := congrArg List.length HWT.out
        have htx : t.text.data.toList.length = t.text.size := by simp
        have HF0 : Hid (y = 0 → txt (wrL (ts.take i)) ++ encB (4 * t.tag + y) ++ encB t.num = txt (wrL (ts.take (i + 1)))) := fun h => by
          rw [encB_txt, encB_txt, txt_append, txt_append, hsn, HWT.out, if_pos h, List.append_assoc]
        have HF1 : Hid (y = 1 → txt (wrL (ts.take i)) ++ encB (4 * t.tag + y) ++ encB t.text.size ++ t.text = txt (wrL (ts.take (i + 1)))) := fun h => by
          obtain ⟨B, hB⟩ : ∃ B, t.text = txt B := ⟨_, (txt_of _).symm⟩
          rw [hsn, HWT.out, if_neg (by omega), if_neg (by omega), hB, encB_txt, encB_txt, txt_append, txt_append, txt_append, txt_list]
          simp only [List.append_assoc]
        have HF2 : Hid (y = 2 → txt (wrL (ts.take i)) ++ encB (4 * t.tag + y) ++ encB (wrL t.list).length ++ txt (wrL t.list) = txt (wrL (ts.take (i + 1)))) := fun h => by
          rw [encB_txt, encB_txt, txt_append, txt_append, txt_append, hsn, HWT.out, if_neg (by omega), if_pos h]
          simp only [List.append_assoc]
        have hk1 : y = 1 → t.text.size ≤ 1000000 := fun h => by rw [if_neg (by omega), if_neg (by omega)] at hwt; simp only [List.length_append] at hwt; omega
        have hk2 : y = 2 → (wrL t.list).length ≤ 1000000 := fun h => by rw [if_neg (by omega), if_pos h] at hwt; simp only [List.length_append] at hwt; omega
        obtain ⟨la, lc, rfl⟩ := hr.shape
        rw [hy] at hD
        have HD := Lib.hid hD
        have HGW := Lib.hid (only_alloc (only_refl wr none) (.cells #[.int .u64 (t.tag : Nat), .int .i64 (y : Int), .int .u64 (t.num : Nat), .string t.text, .slice la t.list.length lc] 45))
        rw [hy] at c1
        have HY := Lib.hid hy
        clear ht hr hsn hD hwt htx hs3 hy g3 g4
        unfold maxLen at h2
        generalize txt (wrL (ts.take i)) = A at *
        generalize encB (4 * t.tag + y) = E1 at *
        go_wp2_with fail
        generalize wr.alloc (.cells #[.int .u64 (t.tag : Nat), .int .i64 (y : Int), .int .u64 (t.num : Nat), .string t.text, .slice la t.list.length lc] 45) = wa at *
        refine (HP1.out _).mono ?_
        rintro e w1 ⟨rfl, g1⟩
        obtain ⟨d0, d1, d2, d3, d4⟩ := HD.out.grown g1
        rw [HY.out] at d1
        have HD1 := Lib.hid (HD.out.grown g1)
        have HG1 := Lib.hid (only_trans HGW.out g1)
        clear c0 c1 c2 c3 c4 g1
        rcases (show y = 0 ∨ y = 1 ∨ y = 2 by omega) with h0 | h0 | h0
        · have HE := Lib.hid (HF0.out h0)
          subst h0
          clear HF0 HF1 HF2 hk1 hk2 HWT
          generalize encB t.num = E2 at *
          go_wp2_with fail
          refine (HP2.out _).mono ?_
          rintro e w2 ⟨rfl, g2⟩
          have HG2 := Lib.hid (only_trans HG.out (only_trans HG1.out g2))
          clear g2
          go_wp2_with fail
          go_roundw
          case rel => exact ⟨i + 1, by omega, by go_num, congrArg Value.string HE.out, HG2.out⟩
          case measure => simp [intOf]; omega
        · have HE := Lib.hid (HF1.out h0)
          have hk := hk1 h0
          subst h0
          have hs4 := HS3.out _ hk
          have HP4 := Lib.hid (HP3.out _ hk)
          clear HF0 HF1 HF2 hk1 hk2 HWT
          generalize encB t.text.size = E2 at *
          go_wp2_with fail
          refine (HP4.out _).mono ?_
          rintro e w2 ⟨rfl, g2⟩
          have HG2 := Lib.hid (only_trans HG.out (only_trans HG1.out g2))
          clear g2
          go_wp2_with fail
          go_roundw
          case rel => exact ⟨i + 1, by omega, by go_num, congrArg Value.string HE.out, HG2.out⟩
          case measure => simp [intOf]; omega
        · have HE := Lib.hid (HF2.out h0)
          have hk := hk2 h0
          subst h0
          have hs4 := HS3.out _ hk
          have HP4 := Lib.hid (HP3.out _ hk)
          have HT5 := Lib.hid (HIH.out hk w1 S _ (HL.out.grown HG1.out))
          have hX : (txt (wrL t.list)).size = (wrL t.list).length := txt_size _
          clear HF0 HF1 HF2 hk1 hk2 HWT HIH
          generalize encB (wrL t.list).length = E2 at *
          generalize txt (wrL t.list) = X at *
          generalize (wrL t.list).length = k at *
          subst hX
          go_wp2_with fail
          refine HT5.out.mono ?_
          rintro e w5 ⟨rfl, g5⟩
          have HG5 := Lib.hid (only_trans HG1.out g5)
          clear g5
          go_wp2_with fail
          refine (HP4.out _).mono ?_
          rintro e w2 ⟨rfl, g2⟩
          have HG2 := Lib.hid (only_trans HG.out (only_trans HG5.out g2))
          clear g2
          go_wp2_with fail
          go_roundw
          case rel => exact ⟨i + 1, by omega, by go_num, congrArg Value.string HE.out, HG2.out⟩
          case measure => simp [intOf]; omega
      · have hie : i = ts.length := by omega
        subst hie
        rw [List.take_length]
        go_wp2_with fail
        go_ret
        exact ⟨rfl, HG.out⟩

theorem rputw_any (ts : List Tree) (w : World) (S : Nat → Prop) (v : Value) (hs : sizeL ts ≤ 100000) (hf : fitsL ts) (hw : checkL 0 0 ts = 0 → (wrL ts).length ≤ 1000000) (h : Rd w S v ts) :
    Calls Tryd.prog 11 #[v] w fun e w' => e = .returned (.tuple #[.string (txt (putR ts).1), .int .i64 ((putR ts).2 : Nat)]) ∧ w.grownBy w' none := by
  have HC := Lib.hid (rcheck_any _ ts (Nat.le_refl _) 0 (by omega) w S v h)
  have hcl := checkL_lt _ ts 0 0 (Nat.le_refl _)
  by_cases hc : checkL 0 0 ts = 0
  · have hw := hw hc
    have HT := Lib.hid (fun w' (g : w.grownBy w' none) => rtext_any _ ts (Nat.le_refl _) hs 0 0 hc hf hw w' S v (h.grown g))
    have HP : Hid (putR ts = if 65536 < (wrL ts).length then ([], 4) else (wrL ts, 0)) := by show putR ts = _; unfold putR; rw [if_neg (by simp [hc])]
    have hX : (txt (wrL ts)).size = (wrL ts).length := txt_size _
    rw [hc] at HC
    obtain ⟨a, cap, rfl⟩ := h.shape
    by_cases hb : 65536 < (wrL ts).length
    · have HE : Hid (putR ts = ([], 4)) := by rw [HP.out, if_pos hb]; trivial
      have hb2 : 65536 < (txt (wrL ts)).size := by omega
      clear HP hX hc
      generalize txt (wrL ts) = X at *
      go_enter Tryd.func11, Tryd.ntmps11
      go_wp2_with fail
      refine HC.out.mono ?_
      rintro e w1 ⟨rfl, g1⟩
      have G1 := Lib.hid g1
      go_wp2_with fail
      refine (HT.out _ G1.out).mono ?_
      rintro e w2 ⟨rfl, g2⟩
      have G2 := Lib.hid (only_trans G1.out g2)
      clear g1 g2
      go_wp2_with fail
      go_ret2
      exact ⟨by rw [HE.out]; rfl, G2.out⟩
    · have HE : Hid (putR ts = (wrL ts, 0)) := by rw [HP.out, if_neg hb]; trivial
      have hb2 : ¬ 65536 < (txt (wrL ts)).size := by omega
      clear HP hX hc
      have HX := Lib.hid (show txt (wrL ts) = txt (wrL ts) from rfl)
      go_enter Tryd.func11, Tryd.ntmps11
      go_wp2_with fail
      refine HC.out.mono ?_
      rintro e w1 ⟨rfl, g1⟩
      have G1 := Lib.hid g1
      go_wp2_with fail
      refine (HT.out _ G1.out).mono ?_
      rintro e w2 ⟨rfl, g2⟩
      have G2 := Lib.hid (only_trans G1.out g2)
      clear g1 g2
      go_wp2_with fail
      go_ret2
      exact ⟨by rw [HE.out]; rfl, G2.out⟩
  · have HE : Hid (putR ts = ([], checkL 0 0 ts)) := by show putR ts = _; unfold putR; rw [if_pos hc]
    have hqb : ((checkL 0 0 ts : Int) != 0) = true := by rw [bne_iff_ne]; omega
    obtain ⟨a, cap, rfl⟩ := h.shape
    clear hw
    generalize checkL 0 0 ts = q at *
    go_enter Tryd.func11, Tryd.ntmps11
    go_wp2_with fail
    refine HC.out.mono ?_
    rintro e w1 ⟨rfl, g1⟩
    have G1 := Lib.hid g1
    clear g1
    go_wp2_with fail
    go_ret2
    exact ⟨by rw [HE.out]; rfl, G1.out⟩

end Go.Proofs.YtigmfbmjfjkfjaaDoor.wm
