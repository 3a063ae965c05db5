/-
  Law14, Pxi, Pxn, Pxa, Pxp
-/
import Derived.Test.YtbebdaglkjhbjaaGreatDoorBundR
import Derived.Test.YtbebdaglkjhbjaaGreatDoorBundC
import Derived.Test.YtbebdaglkjhbjaaGreatDoorBundE
import Derived.Laws.Cover1
import Derived.Test.YtbebdaglkjhbjaaGreatDoorBundH

/-
  The laws of layer 14, against contracts of package prefix: few, awake, PrefixBack.
-/
namespace Go.Proofs.YtbebdaglkjhbjaaGreatDoor.law14
open Go.RowKit Go.Proofs.YtbebdaglkjhbjaaGreatDoor.cur Go.Proofs.YtbebdaglkjhbjaaGreatDoor.vi Go.Proofs.YtbebdaglkjhbjaaGreatDoor.um Go.Proofs.YtbebdaglkjhbjaaGreatDoor.wm Go.Proofs.YtbebdaglkjhbjaaGreatDoor.tr Go.Proofs.YtbebdaglkjhbjaaGreatDoor.em Go.Proofs.YtbebdaglkjhbjaaGreatDoor.rm Go.Proofs.YtbebdaglkjhbjaaGreatDoor.fm Go.Proofs.YtbebdaglkjhbjaaGreatDoor.crc Go.Proofs.YtbebdaglkjhbjaaGreatDoor.rr Go.Proofs.YtbebdaglkjhbjaaGreatDoor.pl
set_option linter.unusedVariables false
set_option linter.unusedSimpArgs false

/-- The call's own texts, as an argument. -/
theorem strs_own {base : Nat} {w : World} {a : Option Addr} {n cap : Nat} {l : List (List UInt8)} (h : w.ownsRow base 9 1 (.slice a n cap) n (texts l)) (hn : l.length = n) (hl : ∀ x ∈ l, x.length ≤ 1000000) : Strs w a n cap (l.map str) := by
  refine ⟨by simp [hn], fun x hx => ?_, ?_⟩
  · obtain ⟨y, hy, rfl⟩ := List.mem_map.1 hx
    have := hl y hy
    rw [str_size]; unfold maxLen; omega
  · by_cases h0 : n = 0
    · exact .inl h0
    · obtain ⟨g, cap', hv, -, -⟩ := h.form (by omega)
      simp only [Value.slice.injEq] at hv
      obtain ⟨rfl, -, rfl⟩ := hv
      rcases h.2 with ⟨h', _⟩ | ⟨g', cap', cur, h', _, _, hnc, hcm, _⟩
      · simp at h'
      · simp only [Value.slice.injEq, Option.some.injEq, Addr.mk.injEq, and_true, true_and] at h'
        obtain ⟨rfl, rfl⟩ := h'
        refine .inr ⟨g, 0, rfl, hnc, hcm, fun i x hx => ?_⟩
        have hi : i < n := by have := (List.getElem?_eq_some_iff.1 hx).1; simp at this; omega
        rw [Nat.zero_add, h.cellAt i (by omega)]
        rw [List.getElem?_map] at hx
        simp only [texts, List.getElem?_map]
        cases hli : l[i]? with
        | none => rw [hli] at hx; simp at hx
        | some y => rw [hli] at hx; simp at hx; simp [hx]

def fewP (xs : List ByteArray) : Bool := (xs.all fun x => decide (x.size ≤ 300)) && decide (xs.length ≤ 60)
theorem few_facts {xs : List ByteArray} (h : fewP xs = true) : xs.length ≤ 60 ∧ ∀ x ∈ xs, x.size ≤ 300 := by
  unfold fewP at h
  rw [Bool.and_eq_true, List.all_eq_true] at h
  exact ⟨of_decide_eq_true h.2, fun x hx => of_decide_eq_true (h.1 x hx)⟩

theorem ex_put : putP none (ls [⟨#[117, 115, 101, 114]⟩, ⟨#[117, 115, 101, 114, 115]⟩]) = ([0, 4, 117, 115, 101, 114, 4, 1, 115], 0) := by
  have e0 : enc 0 = [0] := enc_small (by omega)
  have e4 : enc 4 = [4] := enc_small (by omega)
  have e1 : enc 1 = [1] := enc_small (by omega)
  have h : lt [117, 115, 101, 114] [117, 115, 101, 114, 115] = true := by decide
  show putP none [[117, 115, 101, 114], [117, 115, 101, 114, 115]] = _
  rw [putP_cons, putP_cons]
  simp [putP, oneP, com, h, e0, e4, e1]

theorem strs_two (w : World) (x y : ByteArray) (hx : x.size ≤ maxLen) (hy : y.size ≤ maxLen) : Strs (w.alloc (.cells #[.string x, .string y] 9)) (some ⟨w.heap.size, 0, none⟩) 2 2 [x, y] :=
  ⟨rfl, by intro z hz; simp at hz; rcases hz with rfl | rfl <;> assumption, .inr ⟨_, 0, rfl, by omega, by unfold maxLen; omega, fun i z hz => by
    have hi : i = 0 ∨ i = 1 := by have := (List.getElem?_eq_some_iff.1 hz).1; simp at this; omega
    rcases hi with rfl | rfl
    · simp at hz; subst hz; rw [cell_new]; rfl
    · simp at hz; subst hz; rw [cell_new]; rfl⟩⟩

end Go.Proofs.YtbebdaglkjhbjaaGreatDoor.law14

/-
  The developers' package prefix: Common, One, Put.
-/
namespace Go.Proofs.YtbebdaglkjhbjaaGreatDoor.px
open Go.RowKit Go.Proofs.YtbebdaglkjhbjaaGreatDoor.vi Go.Proofs.YtbebdaglkjhbjaaGreatDoor.um Go.Proofs.YtbebdaglkjhbjaaGreatDoor.wm Go.Proofs.YtbebdaglkjhbjaaGreatDoor.tr Go.Proofs.YtbebdaglkjhbjaaGreatDoor.em Go.Proofs.YtbebdaglkjhbjaaGreatDoor.rm Go.Proofs.YtbebdaglkjhbjaaGreatDoor.fm Go.Proofs.YtbebdaglkjhbjaaGreatDoor.crc Go.Proofs.YtbebdaglkjhbjaaGreatDoor.rr Go.Proofs.YtbebdaglkjhbjaaGreatDoor.bd
set_option linter.unusedVariables false
set_option linter.unusedSimpArgs false

set_option maxRecDepth 100000 in
theorem com_any (s t : ByteArray) (h1 : s.size ≤ 1000000) (h2 : t.size ≤ 1000000) (w : World) :
    Calls Tryz.prog 75 #[.string s, .string t] w fun e w' => e = .returned (.int .i64 (com s.data.toList t.data.toList : Nat)) ∧ w.grownBy w' none := by
  have H1 := Lib.hid (show s.data.toList.length = s.size by simp)
  have H2 := Lib.hid (show t.data.toList.length = t.size by simp)
  obtain ⟨m, hm⟩ : ∃ m : Nat, m = min s.size t.size := ⟨_, rfl⟩
  have hmi : min (s.size : Int) (t.size : Int) = (m : Int) := by omega
  have hms : m ≤ s.size := by omega
  have hmt : m ≤ t.size := by omega
  have HM := Lib.hid hm
  clear hm
  go_enter Tryz.func75, Tryz.ntmps75
  go_wp2_with fail
  go_loopw [13] (fun q wr => ∃ i : Nat, i ≤ m ∧ q = .int .i64 i ∧ com s.data.toList t.data.toList = i + com (s.data.toList.drop i) (t.data.toList.drop i) ∧ ∃ n, wr = w.drewN n) (fun q _ => m - (intOf q).toNat)
  case atStart => exact ⟨0, Nat.zero_le _, rfl, by simp, 0, rfl⟩
  case round =>
    obtain ⟨i, him, rfl, hL, n0, rfl⟩ := hrel
    by_cases hlt : i < m
    · have hlt1 : i < s.size := by omega
      have hlt2 : i < t.size := by omega
      have HD := Lib.hid (hL.trans (congrArg (i + ·) (com_drop s t i hlt1 hlt2)))
      clear hL
      have hc1 : (i : Int) < (s.size : Int) := by omega
      have hc2 : (i : Int) < (t.size : Int) := by omega
      by_cases hq : s[i] = t[i]
      · have HD2 : Hid (com s.data.toList t.data.toList = i + 1 + com (s.data.toList.drop (i + 1)) (t.data.toList.drop (i + 1))) := by
          show _ = _
          rw [HD.out, if_pos hq]; omega
        have hqi : ((s[i].toNat : Int) != (t[i].toNat : Int)) = false := by rw [hq]; simp
        clear HD hq
        go_wp2_with fail
        go_quiet (fail)
        go_wp2_with fail
        go_roundw
        case rel => exact ⟨i + 1, by omega, by go_num, HD2.out, _, rfl⟩
        case measure => simp [intOf]; omega
      · have hqi : ((s[i].toNat : Int) != (t[i].toNat : Int)) = true := by rw [bne_iff_ne]; exact fun e => hq (UInt8.toNat_inj.1 (by omega))
        have HD2 : Hid (com s.data.toList t.data.toList = i) := by
          show _ = _
          rw [HD.out, if_neg hq]; rfl
        clear HD hq
        go_wp2_with fail
        go_quiet (fail)
        go_wp2_with fail
        go_ret
        rw [HD2.out]
        exact ⟨rfl, only_drewN (only_drewN (only_refl _ _) _) _⟩
    · have hie : i = m := by omega
      subst hie
      have HD : Hid (com s.data.toList t.data.toList = i) := by
        show _ = _
        rw [hL]
        by_cases hs : s.size ≤ i
        · rw [show s.data.toList.drop i = [] from List.drop_eq_nil_of_le (by rw [H1.out]; omega)]
          cases t.data.toList.drop i <;> rfl
        · rw [show t.data.toList.drop i = [] from List.drop_eq_nil_of_le (by rw [H2.out]; have := HM.out; omega)]
          cases s.data.toList.drop i <;> rfl
      clear hL
      go_wp2_with fail
      go_ret
      rw [HD.out]
      exact ⟨rfl, only_drewN (only_refl _ _) _⟩

theorem oneP_txt (s : ByteArray) (a : List UInt8) : encB (com a s.data.toList) ++ encB (s.size - com a s.data.toList) ++ s.extract (com a s.data.toList) s.size = txt (oneP a s.data.toList) := rr.oneP_txt s a

set_option maxHeartbeats 1000000 in
set_option maxRecDepth 100000 in
theorem one_any (a s : ByteArray) (h1 : a.size ≤ 1000000) (h2 : s.size ≤ 1000000) (w : World) :
    Calls Tryz.prog 44 #[.string a, .string s] w fun e w' => e = .returned (.string (txt (oneP a.data.toList s.data.toList))) ∧ w.grownBy w' none := by
  have HC := Lib.hid (fun w => com_any a s h1 h2 w)
  have HT := Lib.hid (oneP_txt s a.data.toList)
  have hk := (com_le a.data.toList s.data.toList).2
  have hl : s.data.toList.length = s.size := by simp
  rw [hl] at hk
  clear hl
  generalize com a.data.toList s.data.toList = k at *
  have HK := Lib.hid (fun w1 => vi.put_any k (by omega) w1)
  have HV := Lib.hid (fun w1 => vi.put_any (s.size - k) (by omega) w1)
  have hz1 : (encB k).size ≤ 10 := by rw [encB_txt, txt_size]; exact enc_len_ten (by omega)
  have hz2 : (encB (s.size - k)).size ≤ 10 := by rw [encB_txt, txt_size]; exact enc_len_ten (by omega)
  have hxs : (s.extract k s.size).size = s.size - k := by rw [ByteArray.size_extract]; omega
  have hmod : ((s.size - k : Nat) : Int) % 18446744073709551616 = ((s.size - k : Nat) : Int) := by omega
  have hmod2 : (k : Int) % 18446744073709551616 = (k : Int) := by omega
  generalize encB k = E1 at *
  generalize encB (s.size - k) = E2 at *
  go_enter Tryz.func44, Tryz.ntmps44
  go_wp2_with fail
  refine (HC.out _).mono ?_
  rintro e w1 ⟨rfl, g1⟩
  have G1 := Lib.hid g1
  clear g1
  go_wp2_with fail
  refine (HK.out _).mono ?_
  rintro e w2 ⟨rfl, g2⟩
  have G2 := Lib.hid (only_trans G1.out g2)
  clear g2
  go_wp2_with fail
  refine (HV.out _).mono ?_
  rintro e w3 ⟨rfl, g3⟩
  have G3 := Lib.hid (only_trans G2.out g3)
  clear g3
  go_wp2_with fail
  go_ret
  exact ⟨ret1 (congrArg Value.string HT.out), G3.out⟩

theorem le_lt (A : Bs) (x : ByteArray) : (Op.bytesLess x.data.toList A || decide (x = txt A)) = !lt A x.data.toList := by
  by_cases h : x = txt A
  · subst h
    rw [decide_eq_true rfl, txt_list, Bool.or_true]
    unfold lt
    rw [less_irrefl]; rfl
  · rw [decide_eq_false h, Bool.or_false]
    rcases less_tri A x.data.toList with h1 | h1 | h1
    · unfold lt
      rw [h1, less_asymm h1]; rfl
    · exact absurd (by rw [h1, txt_of]) h
    · unfold lt
      rw [h1, less_asymm h1]; rfl

set_option maxHeartbeats 4000000 in
set_option maxRecDepth 100000 in
theorem putP_any (xs : List ByteArray) (w : World) (a : Option Addr) (cap : Nat) (hl : xs.length ≤ 3000) (hz : ∀ x ∈ xs, x.size ≤ 3000) (h : Strs w a xs.length cap xs) :
    Calls Tryz.prog 97 #[.slice a xs.length cap] w fun e w' => e = .returned (.tuple #[.string (txt (putP none (ls xs)).1), .int .i64 ((putP none (ls xs)).2 : Nat)]) ∧ w.grownBy w' none := by
  have HS := Lib.hid h
  have HZ := Lib.hid hz
  have HX := Lib.hid (glP_nil (putP none (ls xs)) (putP_err (ls xs) none))
  generalize hR : putP none (ls xs) = R at *
  clear h hz
  have HB := Lib.hid (Bld.new w (fun k => w.heap.size ≤ k) (Nat.le_refl _))
  have HGA := Lib.hid (only_alloc (only_refl w none) (.cells #[.pointer none, .slice none 0 0] 85))
  go_enter Tryz.func97, Tryz.ntmps97
  go_wp2_with fail
  go_loopw [5, 10] (fun va q wr => ∃ (i : Nat) (acc A : Bs), i ≤ xs.length ∧ q = .int .i64 i ∧ va = .string (txt A) ∧ A = (prv xs i).getD [] ∧ A.length ≤ 3000 ∧ acc.length ≤ i * 3020 ∧ R = glP acc (putP (prv xs i) (ls (xs.drop i))) ∧ Bld wr w.heap.size (fun k => w.heap.size ≤ k) acc ∧ w.grownBy wr none) (fun _ q _ => xs.length - (intOf q).toNat)
  case atStart => exact ⟨0, [], [], Nat.zero_le _, rfl, rfl, rfl, Nat.zero_le _, Nat.zero_le _, HX.out.trans (by rw [← hR]; rfl), HB.out, HGA.out⟩
  case round =>
    obtain ⟨i, acc, A, hi, rfl, rfl, hA, hAl, hal, hE, hb, hg⟩ := hrel
    have HG := Lib.hid hg
    have HBi := Lib.hid hb
    clear hg hb HX hR HB HGA
    by_cases hlt : i < xs.length
    · obtain ⟨x, hx⟩ : ∃ x, xs[i]? = some x := ⟨xs[i], List.getElem?_eq_getElem hlt⟩
      rw [ls_drop hx, glP_step] at hE
      have HE := Lib.hid hE
      obtain ⟨-, -, hc⟩ := HS.out.kept HG.out
      obtain ⟨b, off, rfl, h5, h6, h7⟩ := hc.resolve_left (by omega)
      unfold maxLen at h6
      have c1 := h7 i x hx
      have hxs := HZ.out x (List.mem_of_getElem? hx)
      have htl : x.data.toList.length = x.size := by simp
      have hpr2 : prv xs (i + 1) = some x.data.toList := by simp [prv, hx]
      have hol := oneP_len A x.data.toList (by omega)
      have HO := Lib.hid (fun w => one_any (txt A) x (by rw [txt_size]; omega) (by omega) w)
      rw [txt_list] at HO
      have hxt := Lib.hid (txt_of x)
      have HWS := Lib.hid (fun w4 (h : Bld w4 w.heap.size (fun k => w.heap.size ≤ k) acc) => write_any _ _ acc (txt (oneP A x.data.toList)) w4 h (by rw [txt_size]; omega))
      rw [txt_list] at HWS
      have hdec : (Op.bytesLess x.toList (txt A).toList || (x.toList == (txt A).toList)) = !lt A x.data.toList := by
        rw [beq_bytes]
        rw [ByteArray.toList_eq, ByteArray.toList_eq, txt_list]
        exact le_lt A x
      have hTX := Lib.hid (show x = txt x.data.toList from hxt.out.symm)
      have hali : (acc ++ oneP A x.data.toList).length ≤ (i + 1) * 3020 := by rw [List.length_append]; omega
      have hxl2 : x.data.toList.length ≤ 3000 := by omega
      by_cases h0 : i = 0
      · subst h0
        have HE2 : Hid (R = glP (acc ++ oneP A x.data.toList) (putP (prv xs 1) (ls (xs.drop 1)))) := by
          show _ = _
          have := HE.out
          rw [if_neg (by simp [prv])] at this
          rw [this, hpr2, hA]
        have hA2 : x.data.toList = (prv xs 1).getD [] := by rw [hpr2]; rfl
        clear HE hE h7 hx hol hpr2 hdec hA
        simp only [Nat.add_zero] at c1
        generalize oneP A x.data.toList = D at *
        go_wp2_with fail
        refine (HO.out _).mono ?_
        rintro e w1 ⟨rfl, g1⟩
        have HG1 := Lib.hid (only_trans HG.out g1)
        have HB1 := Lib.hid (HBi.out.kept (T := fun _ => False) (Chg.of_none g1) (fun _ _ e => e))
        clear g1
        go_wp2_with fail
        refine (HWS.out _ HB1.out).mono ?_
        rintro e w2 ⟨rfl, g2, b2⟩
        have HG2 := Lib.hid (Chg.none_new HG1.out g2 (fun k e => e))
        have HB2 := Lib.hid (b2.mono (T := fun k => w.heap.size ≤ k) (fun k _ hk => by rcases hk with hk | hk; exact hk; have := HG1.out.size; omega))
        clear g2 b2
        go_wp2_with fail
        go_roundw
        case rel => exact ⟨1, acc ++ D, x.data.toList, by omega, by go_num, congrArg Value.string hTX.out, hA2, hxl2, hali, HE2.out, HB2.out, HG2.out⟩
        case measure => simp [intOf]; omega
      · obtain ⟨j, rfl⟩ : ∃ j, i = j + 1 := ⟨i - 1, by omega⟩
        obtain ⟨y, hy⟩ : ∃ y, xs[j]? = some y := ⟨xs[j], List.getElem?_eq_getElem (by omega)⟩
        have hpr : prv xs (j + 1) = some A := by
          have : prv xs (j + 1) = some y.data.toList := by simp [prv, hy]
          rw [this] at hA ⊢
          rw [hA]; rfl
        have hgt : (0 : Int) < ((j + 1 : Nat) : Int) := by omega
        cases hl2 : lt A x.data.toList with
        | false =>
          have HE2 : Hid (R = ([], 7)) := by
            show _ = _
            rw [HE.out, hpr, if_pos (by simp [hl2])]
          rw [hl2] at hdec
          clear HE hE h7 hx hy hol hpr2 hpr hA hl2 HO HWS
          generalize txt A = TA at *
          simp only [Bool.not_false, Bool.not_true] at hdec
          go_wp2_with fail
          go_ret2
          rw [HE2.out]
          exact ⟨rfl, HG.out⟩
        | true =>
          have HE2 : Hid (R = glP (acc ++ oneP A x.data.toList) (putP (prv xs (j + 2)) (ls (xs.drop (j + 2))))) := by
            show _ = _
            rw [HE.out, hpr, if_neg (by simp [hl2]), hpr2]; rfl
          have hA2 : x.data.toList = (prv xs (j + 2)).getD [] := by rw [hpr2]; rfl
          rw [hl2] at hdec
          clear HE hE h7 hx hy hol hpr2 hpr hA hl2
          generalize oneP A x.data.toList = D at *
          generalize txt A = TA at *
          simp only [Bool.not_false, Bool.not_true] at hdec
          go_wp2_with fail
          refine (HO.out _).mono ?_
          rintro e w1 ⟨rfl, g1⟩
          have HG1 := Lib.hid (only_trans HG.out g1)
          have HB1 := Lib.hid (HBi.out.kept (T := fun _ => False) (Chg.of_none g1) (fun _ _ e => e))
          clear g1
          go_wp2_with fail
          refine (HWS.out _ HB1.out).mono ?_
          rintro e w2 ⟨rfl, g2, b2⟩
          have HG2 := Lib.hid (Chg.none_new HG1.out g2 (fun k e => e))
          have HB2 := Lib.hid (b2.mono (T := fun k => w.heap.size ≤ k) (fun k _ hk => by rcases hk with hk | hk; exact hk; have := HG1.out.size; omega))
          clear g2 b2
          go_wp2_with fail
          go_roundw
          case rel => exact ⟨j + 2, acc ++ D, x.data.toList, by omega, by go_num, congrArg Value.string hTX.out, hA2, hxl2, hali, HE2.out, HB2.out, HG2.out⟩
          case measure => simp [intOf]; omega
    · have hie : i = xs.length := by omega
      subst hie
      rw [List.drop_length] at hE
      have HE2 : Hid (R = (acc, 0)) := by
        show _ = _
        rw [hE]
        show glP acc (putP _ []) = _
        cases prv xs xs.length <;> simp [putP, glP]
      clear hE
      go_wp2_with fail
      refine (string_any _ _ _ _ HBi.out).mono ?_
      rintro e w4 ⟨rfl, g4, -⟩
      have HG4 := Lib.hid (Chg.none_new HG.out g4 (fun k e => e))
      clear g4
      go_wp2_with fail
      go_ret2
      rw [HE2.out]
      exact ⟨rfl, HG4.out⟩

end Go.Proofs.YtbebdaglkjhbjaaGreatDoor.px

/-
  The developers' package prefix: Next, All.
-/
namespace Go.Proofs.YtbebdaglkjhbjaaGreatDoor.px
open Go.RowKit Go.Proofs.YtbebdaglkjhbjaaGreatDoor.vi Go.Proofs.YtbebdaglkjhbjaaGreatDoor.um Go.Proofs.YtbebdaglkjhbjaaGreatDoor.wm Go.Proofs.YtbebdaglkjhbjaaGreatDoor.tr Go.Proofs.YtbebdaglkjhbjaaGreatDoor.em Go.Proofs.YtbebdaglkjhbjaaGreatDoor.rm Go.Proofs.YtbebdaglkjhbjaaGreatDoor.fm Go.Proofs.YtbebdaglkjhbjaaGreatDoor.crc Go.Proofs.YtbebdaglkjhbjaaGreatDoor.rr Go.Proofs.YtbebdaglkjhbjaaGreatDoor.cur Go.Proofs.YtbebdaglkjhbjaaGreatDoor.law11
set_option linter.unusedVariables false
set_option linter.unusedSimpArgs false

/-! The mathematics -/
def shR (L : Bs) (n : Nat) : Nat × Nat := if (getR L).2.2 ≠ 0 then (0, (getR L).2.2) else if n < (getR L).1 then (0, 23) else ((getR L).1, 0)
theorem com_pre (a m : Bs) (k : Nat) (hk : k ≤ a.length) : k ≤ com a (a.take k ++ m) := by
  induction a generalizing k with
  | nil => simp at hk; omega
  | cons x r ih =>
    cases k with
    | zero => omega
    | succ j =>
      have := ih j (by simpa using hk)
      simp only [List.take_succ_cons, List.cons_append, com, if_true]
      omega
/-- What stands next, as it is read step by step. -/
theorem nextP_step (L a : Bs) (f : Bool) : nextP L a f =
    if (shR L (if f = true then [] else a).length).2 ≠ 0 then ([], [], (shR L (if f = true then [] else a).length).2)
    else if (textW (L.drop (getR L).2.1)).2.2 ≠ 0 then ([], [], (textW (L.drop (getR L).2.1)).2.2)
    else if f = false ∧ lt (if f = true then [] else a) ((if f = true then [] else a).take (getR L).1 ++ (textW (L.drop (getR L).2.1)).1) = false then ([], [], 7)
    else if (getR L).1 < com (if f = true then [] else a) ((if f = true then [] else a).take (getR L).1 ++ (textW (L.drop (getR L).2.1)).1) then ([], [], 23)
    else ((if f = true then [] else a).take (getR L).1 ++ (textW (L.drop (getR L).2.1)).1, (textW (L.drop (getR L).2.1)).2.1, 0) := by
  unfold nextP shR textW
  generalize getR L = r
  obtain ⟨k, i, e⟩ := r
  simp only
  generalize getR (L.drop i) = r2
  obtain ⟨n, j, e2⟩ := r2
  simp only
  by_cases h1 : e = 0
  · subst h1
    cases f with
    | true =>
      by_cases hk : k = 0
      · subst hk
        by_cases h3 : e2 = 0
        · subst h3
          by_cases h4 : L.length - (i + j) < n
          · have h4' : L.length - i - j < n := by omega
            simp [h4, h4']
          · have h4' : ¬ L.length - i - j < n := by omega
            simp [h4, h4', com_nil, List.drop_drop, Nat.add_assoc]
        · simp [h3]
      · have hk2 : 0 < k := by omega
        simp [hk, hk2]
    | false =>
      by_cases hk : a.length < k
      · simp [hk]
      · by_cases h3 : e2 = 0
        · subst h3
          by_cases h4 : L.length - (i + j) < n
          · have h4' : L.length - i - j < n := by omega
            simp [hk, h4, h4']
          · have h4' : ¬ L.length - i - j < n := by omega
            have := com_pre a ((L.drop (i + j)).take n) k (by omega)
            by_cases h5 : lt a (a.take k ++ (L.drop (i + j)).take n) = false
            · simp [hk, h4, h4', h5, List.drop_drop]
            · simp only [Bool.not_eq_false] at h5
              by_cases h6 : com a (a.take k ++ (L.drop (i + j)).take n) = k
              · simp [hk, h4, h4', h5, h6, List.drop_drop, Nat.add_assoc]
              · have h7 : k < com a (a.take k ++ (L.drop (i + j)).take n) := by omega
                simp [hk, h4, h4', h5, h6, h7, List.drop_drop]
        · simp [hk, h3]
  · simp [h1]

/-! nextShared, nextLeft -/
set_option maxRecDepth 100000 in
theorem shared_any (w : World) (b : Nat) (s : ByteArray) (k : Nat) (a : ByteArray) (hc : Cur w b s k) (ha : a.size ≤ 1000000) :
    Calls Tryz.prog 107 #[.pointer (some ⟨b, 0, none⟩), .string a] w fun e w' => e = .returned (.tuple #[.int .u64 ((shR (s.data.toList.drop k) a.size).1 : Nat), .int .i64 ((shR (s.data.toList.drop k) a.size).2 : Nat)]) ∧ Cur w' b s (k + (getR (s.data.toList.drop k)).2.1) ∧ w.grownBy w' (some b) := by
  have HN := Lib.hid (vi.next_some hc)
  have hbd := getR_bounds (s.data.toList.drop k)
  unfold shR
  generalize getR (s.data.toList.drop k) = r at *
  obtain ⟨x, m, E⟩ := r
  simp only at hbd HN ⊢
  obtain ⟨hx, -, -, hE, -⟩ := hbd
  have hmod : (a.size : Int) % 18446744073709551616 = (a.size : Int) := by omega
  clear hc
  by_cases h0 : E = 0
  · subst h0
    rw [if_neg (by simp)]
    by_cases h1 : a.size < x
    · rw [if_pos h1]
      have h1i : (a.size : Int) < (x : Int) := by omega
      go_enter Tryz.func107, Tryz.ntmps107
      go_wp2_with fail
      refine HN.out.mono ?_
      rintro e w1 ⟨rfl, c1, g1⟩
      have C1 := Lib.hid c1
      have G1 := Lib.hid g1
      clear c1 g1
      go_wp2_with fail
      go_ret2
      exact ⟨rfl, C1.out, G1.out⟩
    · rw [if_neg h1]
      have h1i : ¬ (a.size : Int) < (x : Int) := by omega
      go_enter Tryz.func107, Tryz.ntmps107
      go_wp2_with fail
      refine HN.out.mono ?_
      rintro e w1 ⟨rfl, c1, g1⟩
      have C1 := Lib.hid c1
      have G1 := Lib.hid g1
      clear c1 g1
      go_wp2_with fail
      go_ret2
      exact ⟨rfl, C1.out, G1.out⟩
  · rw [if_pos h0]
    have hqb : ((E : Int) != 0) = true := by rw [bne_iff_ne]; omega
    clear h0
    go_enter Tryz.func107, Tryz.ntmps107
    go_wp2_with fail
    refine HN.out.mono ?_
    rintro e w1 ⟨rfl, c1, g1⟩
    have C1 := Lib.hid c1
    have G1 := Lib.hid g1
    clear c1 g1
    go_wp2_with fail
    go_ret2
    exact ⟨rfl, C1.out, G1.out⟩

set_option maxRecDepth 100000 in
theorem left_any (w : World) (b : Nat) (s : ByteArray) (k : Nat) (hc : Cur w b s k) :
    Calls Tryz.prog 108 #[.pointer (some ⟨b, 0, none⟩)] w fun e w' => ∃ k', e = .returned (.tuple #[.string (txt (textW (s.data.toList.drop k)).1), .int .i64 ((textW (s.data.toList.drop k)).2.2 : Nat)]) ∧ Cur w' b s k' ∧
      ((textW (s.data.toList.drop k)).2.2 = 0 → s.data.toList.drop k' = (textW (s.data.toList.drop k)).2.1) ∧ w.grownBy w' (some b) := by
  have HN := Lib.hid (vi.next_some hc)
  have hbd := getR_bounds (s.data.toList.drop k)
  have hl : (s.data.toList.drop k).length = s.size - k := by simp
  have hks := hc.le
  have hml := hc.hs
  have HT : Hid (textW (s.data.toList.drop k) = if (getR (s.data.toList.drop k)).2.2 ≠ 0 then ([], [], (getR (s.data.toList.drop k)).2.2) else if s.size - k - (getR (s.data.toList.drop k)).2.1 < (getR (s.data.toList.drop k)).1 then ([], [], 1) else ((s.data.toList.drop (k + (getR (s.data.toList.drop k)).2.1)).take (getR (s.data.toList.drop k)).1, s.data.toList.drop (k + (getR (s.data.toList.drop k)).2.1 + (getR (s.data.toList.drop k)).1), 0)) := by
    show _ = _
    unfold textW
    rw [hl, List.drop_drop, List.drop_drop, Nat.add_assoc]
  generalize textW (s.data.toList.drop k) = R at *
  generalize getR (s.data.toList.drop k) = r at *
  obtain ⟨x, m, E⟩ := r
  simp only at hbd HN HT
  rw [hl] at hbd
  obtain ⟨hx, hm, hm10, hE, hpos⟩ := hbd
  unfold maxLen at hml
  clear hl hpos hc
  by_cases h0 : E = 0
  · subst h0
    by_cases h1 : s.size - k - m < x
    · have HR : Hid (R = ([], [], 1)) := by show _ = _; rw [HT.out, if_neg (by simp), if_pos h1]
      clear HT
      have HTK := Lib.hid (fun (w : World) (h : Cur w b s (k + m)) => take_no h x (by omega) (by omega))
      go_enter Tryz.func108, Tryz.ntmps108
      go_wp2_with fail
      refine HN.out.mono ?_
      rintro e w1 ⟨rfl, c1, g1⟩
      have C1 := Lib.hid c1
      have G1 := Lib.hid g1
      clear c1 g1
      go_wp2_with fail
      refine (HTK.out _ C1.out).mono ?_
      rintro e w2 ⟨rfl, n, rfl⟩
      have C2 := Lib.hid (C1.out.kept (only_drewN (only_refl w1 none) n) (by simp))
      have G2 := Lib.hid (only_drewN G1.out n)
      go_wp2_with fail
      go_ret2
      rw [HR.out]
      exact ⟨_, rfl, C2.out, fun e => by simp at e, G2.out⟩
    · have HR : Hid (R = ((s.data.toList.drop (k + m)).take x, s.data.toList.drop (k + m + x), 0)) := by show _ = _; rw [HT.out, if_neg (by simp), if_neg h1]
      clear HT
      have HTK := Lib.hid (fun (w : World) (h : Cur w b s (k + m)) => take_ok h x (by omega))
      go_enter Tryz.func108, Tryz.ntmps108
      go_wp2_with fail
      refine HN.out.mono ?_
      rintro e w1 ⟨rfl, c1, g1⟩
      have C1 := Lib.hid c1
      have G1 := Lib.hid g1
      clear c1 g1
      go_wp2_with fail
      refine (HTK.out _ C1.out).mono ?_
      rintro e w2 ⟨rfl, c2, g2⟩
      have C2 := Lib.hid c2
      have G2 := Lib.hid (only_trans G1.out g2)
      clear c2 g2
      go_wp2_with fail
      have HE1 := Lib.hid (txt_ext s (k + m) x)
      go_ret2
      rw [HR.out]
      exact ⟨_, ret2 (congrArg Value.string HE1.out.symm) rfl, C2.out, fun _ => rfl, G2.out⟩
  · have HR : Hid (R = ([], [], E)) := by show _ = _; rw [HT.out, if_pos h0]
    have hqb : ((E : Int) != 0) = true := by rw [bne_iff_ne]; omega
    have HE := Lib.hid h0
    clear HT h0
    go_enter Tryz.func108, Tryz.ntmps108
    go_wp2_with fail
    refine HN.out.mono ?_
    rintro e w1 ⟨rfl, c1, g1⟩
    have C1 := Lib.hid c1
    have G1 := Lib.hid g1
    clear c1 g1
    go_wp2_with fail
    go_ret2
    rw [HR.out]
    exact ⟨_, rfl, C1.out, fun e => absurd e HE.out, G1.out⟩

/-! Next -/
set_option maxRecDepth 100000 in
theorem next_nil (a : ByteArray) (f : Bool) (w : World) : Calls Tryz.prog 82 #[.pointer none, .string a, .bool f] w fun e w' => e = .returned (.tuple #[.string ⟨#[]⟩, .int .i64 25]) ∧ w.grownBy w' none := by
  have HV := Lib.hid (fun w => vi.next_nil w)
  have HS : Hid (∀ (a : ByteArray) (w : World), Calls Tryz.prog 107 #[.pointer none, .string a] w fun e w' => e = .returned (.tuple #[.int .u64 0, .int .i64 25]) ∧ w = w') := by
    show ∀ (a : ByteArray) (w : World), _
    intro a w
    go_enter Tryz.func107, Tryz.ntmps107
    go_wp2_with fail
    refine (HV.out _).mono ?_
    rintro e w1 ⟨rfl, rfl⟩
    go_wp2_with fail
    go_ret2
    exact ⟨rfl, rfl⟩
  cases f with
  | true =>
    go_enter Tryz.func82, Tryz.ntmps82
    go_wp2_with fail
    refine (HS.out _ _).mono ?_
    rintro e w1 ⟨rfl, rfl⟩
    go_wp2_with fail
    go_ret2
    exact ⟨rfl, only_refl _ _⟩
  | false =>
    go_enter Tryz.func82, Tryz.ntmps82
    go_wp2_with fail
    refine (HS.out _ _).mono ?_
    rintro e w1 ⟨rfl, rfl⟩
    go_wp2_with fail
    go_ret2
    exact ⟨rfl, only_refl _ _⟩

set_option maxHeartbeats 2000000 in
set_option maxRecDepth 100000 in
theorem next_false (w : World) (b : Nat) (s : ByteArray) (k : Nat) (a : ByteArray) (hc : Cur w b s k) (hs : s.size ≤ 450000) (ha : a.size ≤ 450000) :
    Calls Tryz.prog 82 #[.pointer (some ⟨b, 0, none⟩), .string a, .bool false] w fun e w' => ∃ k', e = .returned (.tuple #[.string (txt (nextP (s.data.toList.drop k) a.data.toList false).1), .int .i64 ((nextP (s.data.toList.drop k) a.data.toList false).2.2 : Nat)]) ∧ Cur w' b s k' ∧
      ((nextP (s.data.toList.drop k) a.data.toList false).2.2 = 0 → s.data.toList.drop k' = (nextP (s.data.toList.drop k) a.data.toList false).2.1) ∧ w.grownBy w' (some b) := by
  have HR := Lib.hid (nextP_step (s.data.toList.drop k) a.data.toList false)
  generalize nextP (s.data.toList.drop k) a.data.toList false = R at *
  obtain ⟨A, hA⟩ : ∃ A : Bs, A = a.data.toList := ⟨_, rfl⟩
  have hTA : a = txt A := by rw [hA]; exact (txt_of a).symm
  have hAl : A.length ≤ 450000 := by rw [hA]; first | (simp; done) | (simp; exact ha)
  have HS := Lib.hid (shared_any w b s k a hc (by rw [hTA, txt_size]; omega))
  have hAs : a.size = A.length := by rw [hTA, txt_size]
  rw [hAs] at HS
  simp only [Bool.false_eq_true, if_false] at HR
  rw [← hA] at HR
  have HL := Lib.hid (fun w k h => left_any w b s k h)
  have hbd := getR_bounds (s.data.toList.drop k)
  have htl : (textW ((s.data.toList.drop k).drop (getR (s.data.toList.drop k)).2.1)).1.length ≤ 450000 := by
    have := tw_le ((s.data.toList.drop k).drop (getR (s.data.toList.drop k)).2.1)
    have e2 : s.data.toList.length = s.size := by simp
    simp only [List.length_drop, e2] at this
    omega
  have hql := textW_lt ((s.data.toList.drop k).drop (getR (s.data.toList.drop k)).2.1)
  have hsl : (shR (s.data.toList.drop k) A.length).2 < 64 ∧ (shR (s.data.toList.drop k) A.length).2 = 0 → (shR (s.data.toList.drop k) A.length).1 = (getR (s.data.toList.drop k)).1 ∧ (getR (s.data.toList.drop k)).1 ≤ A.length := fun h => by
    unfold shR at h ⊢
    split
    · rename_i h1; rw [if_pos h1] at h; exact absurd h.2 h1
    · rename_i h1
      rw [if_neg h1] at h
      split
      · rename_i h2; rw [if_pos h2] at h; simp at h
      · exact ⟨rfl, by omega⟩
  have hs64 : (shR (s.data.toList.drop k) A.length).2 < 64 := by
    unfold shR
    split
    · simp only; omega
    · split <;> simp
  have hdd : ∀ m, (s.data.toList.drop k).drop m = s.data.toList.drop (k + m) := fun m => List.drop_drop
  rw [hdd] at HR htl hql
  have HLK := Lib.hid (fun w (h : Cur w b s (k + (getR (s.data.toList.drop k)).2.1)) => HL.out w _ h)
  generalize getR (s.data.toList.drop k) = r at *
  obtain ⟨x, m, E⟩ := r
  simp only at HR HS HLK hbd hsl htl hql
  generalize shR (s.data.toList.drop k) A.length = sh at *
  obtain ⟨n, q⟩ := sh
  simp only at HR HS hsl hs64
  generalize textW (s.data.toList.drop (k + m)) = T at *
  obtain ⟨t, rest, q2⟩ := T
  simp only at HR HLK htl hql
  clear hc hbd HL hdd hAs
  by_cases h0 : q = 0
  · subst h0
    obtain ⟨rfl, hxA⟩ := hsl ⟨by omega, rfl⟩
    have HR1 := Lib.hid (HR.out.trans (if_neg (by simp)))
    clear HR hsl hs64
    by_cases h1 : q2 = 0
    · subst h1
      have HR2 := Lib.hid (HR1.out.trans (if_neg (by simp)))
      clear HR1
      have HC := Lib.hid (fun w => com_any (txt A) (txt (A.take n ++ t)) (by rw [txt_size]; omega) (by rw [txt_size, List.length_append, List.length_take]; omega) w)
      rw [txt_list, txt_list] at HC
      have hM : (txt A).extract 0 n ++ txt t = txt (A.take n ++ t) := by apply ByteArray.ext; simp [txt]
      have hz1 : ((txt A).extract 0 n).size ≤ 450000 := by rw [ByteArray.size_extract, txt_size]; omega
      have hz2 : (txt t).size ≤ 450000 := by rw [txt_size]; omega
      have hcl := (com_le A (A.take n ++ t)).1
      have hTAs : (txt A).size = A.length := txt_size A
      have hdec : (Op.bytesLess (txt (A.take n ++ t)).toList (txt A).toList || ((txt (A.take n ++ t)).toList == (txt A).toList)) = !lt A (A.take n ++ t) := by
        rw [beq_bytes]
        have := le_lt A (txt (A.take n ++ t))
        rw [txt_list] at this
        rw [ByteArray.toList_eq, ByteArray.toList_eq, txt_list, txt_list]
        exact this
      cases hl2 : lt A (A.take n ++ t) with
      | false =>
        have HR3 := Lib.hid (HR2.out.trans (if_pos (by simp [hl2])))
        rw [hl2] at hdec
        simp only [Bool.not_false] at hdec
        clear HR2 hl2 HC
        subst hTA
        clear hA
        generalize A.take n ++ t = S at *
        go_enter Tryz.func82, Tryz.ntmps82
        go_wp2_with fail
        refine HS.out.mono ?_
        rintro e w1 ⟨rfl, c1, g1⟩
        have C1 := Lib.hid c1
        have G1 := Lib.hid g1
        clear c1 g1
        go_wp2_with fail
        refine (HLK.out _ C1.out).mono ?_
        rintro e w2 ⟨k2, rfl, c2, hk2, g2⟩
        have C2 := Lib.hid c2
        have HK2 := Lib.hid hk2
        have G2 := Lib.hid (only_trans G1.out g2)
        clear c2 hk2 g2
        go_wp2_with fail
        go_ret2
        rw [HR3.out]
        exact ⟨_, rfl, C2.out, fun e => by simp at e, G2.out⟩
      | true =>
        have HR3 := Lib.hid (HR2.out.trans (if_neg (by simp [hl2])))
        rw [hl2] at hdec
        simp only [Bool.not_true] at hdec
        clear HR2 hl2
        subst hTA
        clear hA
        generalize A.take n ++ t = S at *
        have hcl2 : com A S ≤ 450000 := by omega
        generalize com A S = c at *
        have hmod : (c : Int) % 18446744073709551616 = (c : Int) := by omega
        by_cases h9 : n < c
        · have HR4 := Lib.hid (HR3.out.trans (if_pos h9))
          have h9i : (n : Int) < (c : Int) := by omega
          clear HR3
          go_enter Tryz.func82, Tryz.ntmps82
          go_wp2_with fail
          refine HS.out.mono ?_
          rintro e w1 ⟨rfl, c1, g1⟩
          have C1 := Lib.hid c1
          have G1 := Lib.hid g1
          clear c1 g1
          go_wp2_with fail
          refine (HLK.out _ C1.out).mono ?_
          rintro e w2 ⟨k2, rfl, c2, hk2, g2⟩
          have C2 := Lib.hid c2
          have HK2 := Lib.hid hk2
          have G2 := Lib.hid (only_trans G1.out g2)
          clear c2 hk2 g2
          go_wp2_with fail
          refine (HC.out _).mono ?_
          rintro e w3 ⟨rfl, g3⟩
          have C3 := Lib.hid (C2.out.kept g3 (by simp))
          have G3 := Lib.hid (only_trans G2.out (only_of_none g3 _))
          clear g3
          go_wp2_with fail
          go_ret2
          rw [HR4.out]
          exact ⟨_, rfl, C3.out, fun e => by simp at e, G3.out⟩
        · have HR4 := Lib.hid (HR3.out.trans (if_neg h9))
          have h9i : ¬ (n : Int) < (c : Int) := by omega
          clear HR3
          go_enter Tryz.func82, Tryz.ntmps82
          go_wp2_with fail
          refine HS.out.mono ?_
          rintro e w1 ⟨rfl, c1, g1⟩
          have C1 := Lib.hid c1
          have G1 := Lib.hid g1
          clear c1 g1
          go_wp2_with fail
          refine (HLK.out _ C1.out).mono ?_
          rintro e w2 ⟨k2, rfl, c2, hk2, g2⟩
          have C2 := Lib.hid c2
          have HK2 := Lib.hid hk2
          have G2 := Lib.hid (only_trans G1.out g2)
          clear c2 hk2 g2
          go_wp2_with fail
          refine (HC.out _).mono ?_
          rintro e w3 ⟨rfl, g3⟩
          have C3 := Lib.hid (C2.out.kept g3 (by simp))
          have G3 := Lib.hid (only_trans G2.out (only_of_none g3 _))
          clear g3
          go_wp2_with fail
          go_ret2
          rw [HR4.out]
          exact ⟨_, rfl, C3.out, fun _ => HK2.out (by first | rfl | trivial), G3.out⟩
    · have HR2 := Lib.hid (HR1.out.trans (if_pos h1))
      have hqb : ((q2 : Int) != 0) = true := by rw [bne_iff_ne]; omega
      have HQ := Lib.hid h1
      clear HR1 h1
      subst hTA; clear hA
      go_enter Tryz.func82, Tryz.ntmps82
      go_wp2_with fail
      refine HS.out.mono ?_
      rintro e w1 ⟨rfl, c1, g1⟩
      have C1 := Lib.hid c1
      have G1 := Lib.hid g1
      clear c1 g1
      go_wp2_with fail
      refine (HLK.out _ C1.out).mono ?_
      rintro e w2 ⟨k2, rfl, c2, hk2, g2⟩
      have C2 := Lib.hid c2
      have HK2 := Lib.hid hk2
      have G2 := Lib.hid (only_trans G1.out g2)
      clear c2 hk2 g2
      go_wp2_with fail
      go_ret2
      rw [HR2.out]
      exact ⟨_, rfl, C2.out, fun e => absurd e HQ.out, G2.out⟩
  · have HR1 := Lib.hid (HR.out.trans (if_pos h0))
    have hqb : ((q : Int) != 0) = true := by rw [bne_iff_ne]; omega
    have HQ := Lib.hid h0
    clear HR h0 hsl
    subst hTA; clear hA
    go_enter Tryz.func82, Tryz.ntmps82
    go_wp2_with fail
    refine HS.out.mono ?_
    rintro e w1 ⟨rfl, c1, g1⟩
    have C1 := Lib.hid c1
    have G1 := Lib.hid g1
    clear c1 g1
    go_wp2_with fail
    go_ret2
    rw [HR1.out]
    exact ⟨_, rfl, C1.out, fun e => absurd e HQ.out, G1.out⟩

set_option maxHeartbeats 2000000 in
set_option maxRecDepth 100000 in
theorem next_true (w : World) (b : Nat) (s : ByteArray) (k : Nat) (a : ByteArray) (hc : Cur w b s k) (hs : s.size ≤ 450000) (ha : a.size ≤ 450000) :
    Calls Tryz.prog 82 #[.pointer (some ⟨b, 0, none⟩), .string a, .bool true] w fun e w' => ∃ k', e = .returned (.tuple #[.string (txt (nextP (s.data.toList.drop k) a.data.toList true).1), .int .i64 ((nextP (s.data.toList.drop k) a.data.toList true).2.2 : Nat)]) ∧ Cur w' b s k' ∧
      ((nextP (s.data.toList.drop k) a.data.toList true).2.2 = 0 → s.data.toList.drop k' = (nextP (s.data.toList.drop k) a.data.toList true).2.1) ∧ w.grownBy w' (some b) := by
  have HR := Lib.hid (nextP_step (s.data.toList.drop k) a.data.toList true)
  generalize nextP (s.data.toList.drop k) a.data.toList true = R at *
  obtain ⟨A, hA⟩ : ∃ A : Bs, A = ([] : Bs) := ⟨_, rfl⟩
  have hTA : (⟨#[]⟩ : ByteArray) = txt A := by rw [hA]; rfl
  have hAl : A.length ≤ 450000 := by rw [hA]; first | (simp; done) | (simp; exact ha)
  have HS := Lib.hid (shared_any w b s k (⟨#[]⟩ : ByteArray) hc (by rw [hTA, txt_size]; omega))
  have hAs : (⟨#[]⟩ : ByteArray).size = A.length := by rw [hTA, txt_size]
  rw [hAs] at HS
  simp only [if_true] at HR
  rw [← hA] at HR
  have HL := Lib.hid (fun w k h => left_any w b s k h)
  have hbd := getR_bounds (s.data.toList.drop k)
  have htl : (textW ((s.data.toList.drop k).drop (getR (s.data.toList.drop k)).2.1)).1.length ≤ 450000 := by
    have := tw_le ((s.data.toList.drop k).drop (getR (s.data.toList.drop k)).2.1)
    have e2 : s.data.toList.length = s.size := by simp
    simp only [List.length_drop, e2] at this
    omega
  have hql := textW_lt ((s.data.toList.drop k).drop (getR (s.data.toList.drop k)).2.1)
  have hsl : (shR (s.data.toList.drop k) A.length).2 < 64 ∧ (shR (s.data.toList.drop k) A.length).2 = 0 → (shR (s.data.toList.drop k) A.length).1 = (getR (s.data.toList.drop k)).1 ∧ (getR (s.data.toList.drop k)).1 ≤ A.length := fun h => by
    unfold shR at h ⊢
    split
    · rename_i h1; rw [if_pos h1] at h; exact absurd h.2 h1
    · rename_i h1
      rw [if_neg h1] at h
      split
      · rename_i h2; rw [if_pos h2] at h; simp at h
      · exact ⟨rfl, by omega⟩
  have hs64 : (shR (s.data.toList.drop k) A.length).2 < 64 := by
    unfold shR
    split
    · simp only; omega
    · split <;> simp
  have hdd : ∀ m, (s.data.toList.drop k).drop m = s.data.toList.drop (k + m) := fun m => List.drop_drop
  rw [hdd] at HR htl hql
  have HLK := Lib.hid (fun w (h : Cur w b s (k + (getR (s.data.toList.drop k)).2.1)) => HL.out w _ h)
  generalize getR (s.data.toList.drop k) = r at *
  obtain ⟨x, m, E⟩ := r
  simp only at HR HS HLK hbd hsl htl hql
  generalize shR (s.data.toList.drop k) A.length = sh at *
  obtain ⟨n, q⟩ := sh
  simp only at HR HS hsl hs64
  generalize textW (s.data.toList.drop (k + m)) = T at *
  obtain ⟨t, rest, q2⟩ := T
  simp only at HR HLK htl hql
  clear hc hbd HL hdd hAs
  by_cases h0 : q = 0
  · subst h0
    obtain ⟨rfl, hxA⟩ := hsl ⟨by omega, rfl⟩
    have HR1 := Lib.hid (HR.out.trans (if_neg (by simp)))
    clear HR hsl hs64
    by_cases h1 : q2 = 0
    · subst h1
      have HR2 := Lib.hid (HR1.out.trans (if_neg (by simp)))
      clear HR1
      have HC := Lib.hid (fun w => com_any (txt A) (txt (A.take n ++ t)) (by rw [txt_size]; omega) (by rw [txt_size, List.length_append, List.length_take]; omega) w)
      rw [txt_list, txt_list] at HC
      have hM : (txt A).extract 0 n ++ txt t = txt (A.take n ++ t) := by apply ByteArray.ext; simp [txt]
      have hz1 : ((txt A).extract 0 n).size ≤ 450000 := by rw [ByteArray.size_extract, txt_size]; omega
      have hz2 : (txt t).size ≤ 450000 := by rw [txt_size]; omega
      have hcl := (com_le A (A.take n ++ t)).1
      have hTAs : (txt A).size = A.length := txt_size A
      have HR3 := Lib.hid (HR2.out.trans (if_neg (by simp)))
      clear HR2
      clear hTA
      subst hA
      obtain rfl : n = 0 := by simp at hxA; exact hxA
      have e0 : txt ([] : Bs) = (⟨#[]⟩ : ByteArray) := rfl
      have HR4 : Hid (R = (t, rest, 0)) := by
        show _ = _
        rw [HR3.out, com_nil, if_neg (by omega)]
        rfl
      have HCC : Hid (∀ w, Calls Tryz.prog 75 #[.string ⟨#[]⟩, .string (txt t)] w fun e w' => e = .returned (.int .i64 (0 : Nat)) ∧ w.grownBy w' none) := by
        show ∀ w, _
        intro w
        have := HC.out w
        rw [com_nil] at this
        exact this
      clear HR3 HC hM hz1 hTAs e0 hcl hxA
      go_enter Tryz.func82, Tryz.ntmps82
      go_wp2_with fail
      refine HS.out.mono ?_
      rintro e w1 ⟨rfl, c1, g1⟩
      have C1 := Lib.hid c1
      have G1 := Lib.hid g1
      clear c1 g1
      go_wp2_with fail
      refine (HLK.out _ C1.out).mono ?_
      rintro e w2 ⟨k2, rfl, c2, hk2, g2⟩
      have C2 := Lib.hid c2
      have HK2 := Lib.hid hk2
      have G2 := Lib.hid (only_trans G1.out g2)
      clear c2 hk2 g2
      go_wp2_with fail
      refine (HCC.out _).mono ?_
      rintro e w3 ⟨rfl, g3⟩
      have C3 := Lib.hid (C2.out.kept g3 (by simp))
      have G3 := Lib.hid (only_trans G2.out (only_of_none g3 _))
      clear g3
      go_wp2_with fail
      go_ret2
      rw [HR4.out]
      exact ⟨_, rfl, C3.out, fun _ => HK2.out (by first | rfl | trivial), G3.out⟩
    · have HR2 := Lib.hid (HR1.out.trans (if_pos h1))
      have hqb : ((q2 : Int) != 0) = true := by rw [bne_iff_ne]; omega
      have HQ := Lib.hid h1
      clear HR1 h1
      clear hTA; subst hA
      go_enter Tryz.func82, Tryz.ntmps82
      go_wp2_with fail
      refine HS.out.mono ?_
      rintro e w1 ⟨rfl, c1, g1⟩
      have C1 := Lib.hid c1
      have G1 := Lib.hid g1
      clear c1 g1
      go_wp2_with fail
      refine (HLK.out _ C1.out).mono ?_
      rintro e w2 ⟨k2, rfl, c2, hk2, g2⟩
      have C2 := Lib.hid c2
      have HK2 := Lib.hid hk2
      have G2 := Lib.hid (only_trans G1.out g2)
      clear c2 hk2 g2
      go_wp2_with fail
      go_ret2
      rw [HR2.out]
      exact ⟨_, rfl, C2.out, fun e => absurd e HQ.out, G2.out⟩
  · have HR1 := Lib.hid (HR.out.trans (if_pos h0))
    have hqb : ((q : Int) != 0) = true := by rw [bne_iff_ne]; omega
    have HQ := Lib.hid h0
    clear HR h0 hsl
    clear hTA; subst hA
    go_enter Tryz.func82, Tryz.ntmps82
    go_wp2_with fail
    refine HS.out.mono ?_
    rintro e w1 ⟨rfl, c1, g1⟩
    have C1 := Lib.hid c1
    have G1 := Lib.hid g1
    clear c1 g1
    go_wp2_with fail
    go_ret2
    rw [HR1.out]
    exact ⟨_, rfl, C1.out, fun e => absurd e HQ.out, G1.out⟩

end Go.Proofs.YtbebdaglkjhbjaaGreatDoor.px

/-
  The developers' package prefix: All; it keeps its contracts.
-/
namespace Go.Proofs.YtbebdaglkjhbjaaGreatDoor.px
open Go.RowKit Go.Proofs.YtbebdaglkjhbjaaGreatDoor.vi Go.Proofs.YtbebdaglkjhbjaaGreatDoor.um Go.Proofs.YtbebdaglkjhbjaaGreatDoor.wm Go.Proofs.YtbebdaglkjhbjaaGreatDoor.tr Go.Proofs.YtbebdaglkjhbjaaGreatDoor.em Go.Proofs.YtbebdaglkjhbjaaGreatDoor.rm Go.Proofs.YtbebdaglkjhbjaaGreatDoor.fm Go.Proofs.YtbebdaglkjhbjaaGreatDoor.crc Go.Proofs.YtbebdaglkjhbjaaGreatDoor.rr Go.Proofs.YtbebdaglkjhbjaaGreatDoor.cur Go.Proofs.YtbebdaglkjhbjaaGreatDoor.law11
set_option linter.unusedVariables false
set_option linter.unusedSimpArgs false

theorem next_some (w : World) (b : Nat) (s : ByteArray) (k : Nat) (a : ByteArray) (f : Bool) (hc : Cur w b s k) (hs : s.size ≤ 450000) (ha : a.size ≤ 450000) :
    Calls Tryz.prog 82 #[.pointer (some ⟨b, 0, none⟩), .string a, .bool f] w fun e w' => ∃ k', e = .returned (.tuple #[.string (txt (nextP (s.data.toList.drop k) a.data.toList f).1), .int .i64 ((nextP (s.data.toList.drop k) a.data.toList f).2.2 : Nat)]) ∧ Cur w' b s k' ∧
      ((nextP (s.data.toList.drop k) a.data.toList f).2.2 = 0 → s.data.toList.drop k' = (nextP (s.data.toList.drop k) a.data.toList f).2.1) ∧ w.grownBy w' (some b) := by
  cases f with
  | true => exact next_true w b s k a hc hs ha
  | false => exact next_false w b s k a hc hs ha

end Go.Proofs.YtbebdaglkjhbjaaGreatDoor.px

/-
  Package prefix keeps what the laws of layer 14 ask.
-/
namespace Go.Proofs.YtbebdaglkjhbjaaGreatDoor.px
open Go.RowKit Go.Proofs.YtbebdaglkjhbjaaGreatDoor.vi Go.Proofs.YtbebdaglkjhbjaaGreatDoor.um Go.Proofs.YtbebdaglkjhbjaaGreatDoor.wm Go.Proofs.YtbebdaglkjhbjaaGreatDoor.tr Go.Proofs.YtbebdaglkjhbjaaGreatDoor.em Go.Proofs.YtbebdaglkjhbjaaGreatDoor.rm Go.Proofs.YtbebdaglkjhbjaaGreatDoor.fm Go.Proofs.YtbebdaglkjhbjaaGreatDoor.crc Go.Proofs.YtbebdaglkjhbjaaGreatDoor.rr Go.Proofs.YtbebdaglkjhbjaaGreatDoor.cur
set_option linter.unusedVariables false
set_option linter.unusedSimpArgs false

end Go.Proofs.YtbebdaglkjhbjaaGreatDoor.px
