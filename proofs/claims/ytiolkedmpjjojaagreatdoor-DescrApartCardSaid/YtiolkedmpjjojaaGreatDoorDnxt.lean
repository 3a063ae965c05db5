/-
  The developers' descriptors: Next, Parse.
-/
import Derived.Test.YtiolkedmpjjojaaGreatDoorDcon
namespace Go.Proofs.YtiolkedmpjjojaaGreatDoor.dd
open Go.RowKit Go.Proofs.YtiolkedmpjjojaaGreatDoor.vi Go.Proofs.YtiolkedmpjjojaaGreatDoor.um Go.Proofs.YtiolkedmpjjojaaGreatDoor.wm Go.Proofs.YtiolkedmpjjojaaGreatDoor.tr Go.Proofs.YtiolkedmpjjojaaGreatDoor.em Go.Proofs.YtiolkedmpjjojaaGreatDoor.cur Go.Proofs.YtiolkedmpjjojaaGreatDoor.law11
set_option linter.unusedVariables false
set_option linter.unusedSimpArgs false

theorem Tryz.infoE : (Tryz.prog.info? 23).map (fun i => (i.zero, i.size, i.bytes)) = some (some (.agg #[.string ⟨#[]⟩, .string ⟨#[]⟩]), 2, 32) := by kernel_rfl

theorem only_row {a b c : World} {row o : Option Nat} (h : a.grownBy b row) (g : b.grownBy c o) (hk : ∀ k, o = some k → a.heap.size ≤ k) : a.grownBy c row := by
  cases o with
  | none => exact only_trans h (only_of_none g row)
  | some k => exact only_new h g (hk k rfl)

def glueE (acc : List Ent) (r : List Ent × List UInt8 × Nat) : List Ent × List UInt8 × Nat := if r.2.2 ≠ 0 then ([], [], r.2.2) else (acc ++ r.1, r.2.1, 0)
theorem glueE_zero (acc : List Ent) (p : Option Ent) (L : List UInt8) : glueE acc (readE 0 p L) = (acc, L, 0) := by simp [glueE, readE]
theorem glueE_step (acc : List Ent) (n : Nat) (p : Option Ent) (L : List UInt8) : glueE acc (readE (n + 1) p L) =
    if (nextE L).2.2 ≠ 0 then ([], [], (nextE L).2.2) else if behindO p (nextE L).1 ≠ 0 then ([], [], behindO p (nextE L).1) else glueE (acc ++ [(nextE L).1]) (readE n (some (nextE L).1) (nextE L).2.1) := by
  have e : readE (n + 1) p L = if (nextE L).2.2 ≠ 0 then ([], [], (nextE L).2.2) else if behindO p (nextE L).1 ≠ 0 then ([], [], behindO p (nextE L).1)
    else if (readE n (some (nextE L).1) (nextE L).2.1).2.2 ≠ 0 then ([], [], (readE n (some (nextE L).1) (nextE L).2.1).2.2)
    else ((nextE L).1 :: (readE n (some (nextE L).1) (nextE L).2.1).1, (readE n (some (nextE L).1) (nextE L).2.1).2.1, 0) := by rw [readE]
  rw [e]
  generalize readE n (some (nextE L).1) (nextE L).2.1 = r
  by_cases h1 : (nextE L).2.2 = 0
  · by_cases h2 : behindO p (nextE L).1 = 0
    · by_cases h3 : r.2.2 = 0 <;> simp [glueE, h1, h2, h3]
    · simp [glueE, h1, h2]
  · simp [glueE, h1]
theorem glueE_nil (r : List Ent × List UInt8 × Nat) (h : r.2.2 ≠ 0 → r.1 = [] ∧ r.2.1 = []) : r = glueE [] r := by
  obtain ⟨a, b, c⟩ := r
  unfold glueE
  simp only at *
  split
  · rename_i h0
    obtain ⟨rfl, rfl⟩ := h h0
    rfl
  · rename_i h0
    have : c = 0 := by omega
    subst this
    rfl

set_option maxHeartbeats 4000000 in
set_option maxRecDepth 100000 in
theorem next_any (W w : World) (b : Nat) (s : ByteArray) (k : Nat) (hs : s.size ≤ 1000000) (hT : tb.Tab W) (hw : W.grownBy w none) (hb : W.heap.size ≤ b) (hc : Cur w b s k) :
    Calls Tryz.prog 35 #[.pointer (some ⟨b, 0, none⟩)] w fun e w' => ∃ k' v, e = .returned (.tuple #[v, .int .i64 ((nextD (s.data.toList.drop k)).2.2 : Nat)]) ∧ Cur w' b s k' ∧ OwnE 23 w.heap.size w' v (nextD (s.data.toList.drop k)).1 ∧
      ((nextD (s.data.toList.drop k)).2.2 = 0 → s.data.toList.drop k' = (nextD (s.data.toList.drop k)).2.1) ∧ w.grownBy w' (some b) := by
  have HN := Lib.hid (vi.next_some hc)
  have hbd := getR_bounds (s.data.toList.drop k)
  have HX : Hid (nextD (s.data.toList.drop k) = if (getR (s.data.toList.drop k)).2.2 ≠ 0 then ([], [], (getR (s.data.toList.drop k)).2.2) else if countE (getR (s.data.toList.drop k)).1 ≠ 0 then ([], [], countE (getR (s.data.toList.drop k)).1) else readE (getR (s.data.toList.drop k)).1 none (s.data.toList.drop (k + (getR (s.data.toList.drop k)).2.1))) := by
    show _ = _
    rw [← List.drop_drop]
    rfl
  have hbw : b < w.heap.size := hc.lt
  have HTB := Lib.hid hT
  have HNW := Lib.hid (fun w1 (g : w.grownBy w1 (some b)) => only_new hw g hb)
  generalize nextD (s.data.toList.drop k) = R at *
  generalize getR (s.data.toList.drop k) = r at *
  obtain ⟨x, m, E⟩ := r
  simp only at hbd HN HX
  obtain ⟨hx, -, -, hE, -⟩ := hbd
  have HC := Lib.hid (fun w => count_any x hx w)
  clear hT hw hc
  by_cases h0 : E = 0
  · subst h0
    by_cases h1 : countE x = 0
    · rw [h1] at HC
      have HX := Lib.hid (HX.out.trans ((if_neg (by simp)).trans (if_neg (by simp [h1]))))
      have hx16 : x ≤ 16 ∧ 1 ≤ x := by unfold countE at h1; split at h1 <;> (try split at h1) <;> omega
      have HX := Lib.hid (HX.out.trans (glueE_nil _ (readE_err x none (s.data.toList.drop (k + m)))))
      clear h1
      go_enter Tryz.func35, Tryz.ntmps35
      go_wp2_with fail
      refine HN.out.mono ?_
      rintro e w1 ⟨rfl, c1, g1⟩
      have C1 := Lib.hid c1
      have G1 := Lib.hid g1
      clear c1 g1
      go_wp2_with fail
      refine (HC.out _).mono ?_
      rintro e w2 ⟨rfl, rfl⟩
      go_wp2_with fail
      go_loopw [7, 25] (fun v q wr => ∃ (i k' : Nat) (acc : List Ent), i ≤ x ∧ acc.length = i ∧ q = .int .u64 i ∧ OwnE 23 w.heap.size wr v acc ∧ Cur wr b s k' ∧ w.grownBy wr (some b) ∧ R = glueE acc (readE (x - i) acc.getLast? (s.data.toList.drop k'))) (fun _ q _ => x - (intOf q).toNat)
      case atStart => exact ⟨0, k + m, [], Nat.zero_le _, rfl, rfl, OwnE.nil _ _ _, C1.out, G1.out, HX.out⟩
      case round =>
        obtain ⟨i, k', acc, hi, rfl, rfl, ho, hcu, hg, hr⟩ := hrel
        have HO := Lib.hid ho
        have HCU := Lib.hid hcu
        have HG := Lib.hid hg
        have HR := Lib.hid hr
        clear ho hcu hg hr
        by_cases hlt : acc.length < x
        · obtain ⟨n, hn⟩ : ∃ n, x - acc.length = n + 1 := ⟨x - acc.length - 1, by omega⟩
          have HNX := Lib.hid (ee.next_any W wr b s k' HTB.out (HNW.out _ HG.out) hb HCU.out)
          have HST := Lib.hid (HR.out.trans ((congrArg (fun z => glueE acc (readE z acc.getLast? (s.data.toList.drop k'))) hn).trans (glueE_step acc n acc.getLast? (s.data.toList.drop k'))))
          have hlt64 := nextE_lt (s.data.toList.drop k')
          have hbl := behindO_lt acc.getLast? (nextE (s.data.toList.drop k')).1
          have HBK := Lib.hid (behindK_eq acc.getLast? (nextE (s.data.toList.drop k')).1)
          clear HR HX
          generalize nextE (s.data.toList.drop k') = Y at *
          obtain ⟨y, L', q⟩ := Y
          simp only at HNX HST hlt64 hbl HBK
          by_cases h1 : q = 0
          · subst h1
            have HST := Lib.hid (HST.out.trans (if_neg (by simp)))
            obtain ⟨va, vc, hv⟩ := HO.out.es.shape
            have HOV := HO.out
            rw [hv] at HOV
            have HO2 := Lib.hid HOV
            subst hv
            have hvb := HOV.lt
            clear HOV HO
            go_wp2_with fail
            refine HNX.out.mono ?_
            rintro e w3 ⟨k2, rfl, c3, hk3, g3⟩
            have HO3 := Lib.hid (HO2.out.kept g3 (.inr (fun e => by have := (hvb _ e).1; omega)))
            have C3 := Lib.hid c3
            have HK3 := Lib.hid (by first | exact hk3 rfl | exact hk3 trivial : s.data.toList.drop k2 = L')
            have HG3 := Lib.hid (only_trans HG.out g3)
            have hsz3 := HG3.out.size
            clear c3 hk3 g3
            have GA := only_alloc (only_refl w3 none) (.cells #[.string y.key, .string y.value] 23)
            have V4 := Lib.hid (EntV.new w3 23 y)
            have HO4 := Lib.hid (HO3.out.grown GA)
            have C4 := Lib.hid (C3.out.kept GA (by simp))
            have HG4 := Lib.hid (only_trans HG3.out (only_of_none GA (some b)))
            have HGA := Lib.hid GA
            have HBH := Lib.hid (fun w1 (g : (w3.alloc (.cells #[.string y.key, .string y.value] 23)).grownBy w1 none) => behind_any acc y.key _ w1 _ (by omega) (HO4.out.es.grown g))
            rw [HBK.out] at HBH
            clear GA
            by_cases h2 : behindO acc.getLast? y = 0
            · rw [h2] at HBH
              have HST := Lib.hid (HST.out.trans (if_neg (by simp [h2])))
              obtain ⟨d0, d1⟩ := V4.out
              clear h2 hbl HBK hlt64
              go_wp2_with fail
              generalize hwa : w3.alloc (.cells #[.string y.key, .string y.value] 23) = wa at *
              refine (HBH.out _ (only_refl _ _)).mono ?_
              rintro e w5 ⟨rfl, n5, rfl⟩
              have GB := only_drewN (only_refl wa none) n5
              have GC := only_alloc GB (.cells #[.string y.key, .string y.value] 23)
              have HO5 := Lib.hid (HO4.out.grown GC)
              have C5 := Lib.hid (C4.out.kept GC (by simp))
              have HG5 := Lib.hid (only_trans HG4.out (only_of_none GC (some b)))
              have HONE : Hid (Es (wa.heap.size + 1) ((wa.drewN n5).alloc (.cells #[.string y.key, .string y.value] 23)) (.slice (some ⟨wa.heap.size, 0, none⟩) 1 1) [y]) := es_one (wa.drewN n5) y _
              have hwz : w.heap.size ≤ wa.heap.size := HG4.out.size
              clear GB GC
              obtain ⟨d0, d1⟩ := (V4.out.grown (only_drewN (only_refl wa none) n5))
              go_wp2_with (at_builtin; refine wpList_append_es rfl _ _ 43 23 rfl _ Tryz.underlying43 Tryz.infoE rfl w.heap.size _ _ acc [y] rfl HO5.out _ rfl HONE.out ?c1 ?c2 ?_)
              case c1 => simp; omega
              case c2 => simp; omega
              intro v6 w6 ho6 hg6 _
              have HO6 := Lib.hid ho6
              have C6 := Lib.hid (C5.out.kept hg6 (fun e => by have := (hvb _ e.symm).1; omega))
              have HG6 := Lib.hid (only_row HG5.out hg6 (fun k e => (hvb k e).1))
              clear ho6 hg6
              go_wp2_with fail
              go_roundw
              case rel => exact ⟨acc.length + 1, k2, acc ++ [y], by omega, by simp, by go_num, HO6.out, C6.out, HG6.out, by rw [HST.out, HK3.out, show x - (acc.length + 1) = n by omega]; simp⟩
              case measure => simp [intOf]; omega
            · have HST := Lib.hid (HST.out.trans (if_pos h2))
              generalize behindO acc.getLast? y = q at *
              have hqb : ((q : Int) != 0) = true := by rw [bne_iff_ne]; omega
              have HQ := Lib.hid h2
              obtain ⟨d0, d1⟩ := V4.out
              clear h2 hbl HBK hlt64
              go_wp2_with fail
              generalize hwa : w3.alloc (.cells #[.string y.key, .string y.value] 23) = wa at *
              refine (HBH.out _ (only_refl _ _)).mono ?_
              rintro e w5 ⟨rfl, n5, rfl⟩
              go_wp2_with fail
              go_ret2
              rw [HST.out]
              exact ⟨k2, _, rfl, C4.out.kept (only_drewN (only_refl _ none) _) (by simp), OwnE.nil _ _ _, fun e => absurd e HQ.out, only_drewN HG4.out _⟩
          · have HST := Lib.hid (HST.out.trans (if_pos h1))
            have hqb : ((q : Int) != 0) = true := by rw [bne_iff_ne]; omega
            have HQ := Lib.hid h1
            clear h1 hbl HBK hlt64
            go_wp2_with fail
            refine HNX.out.mono ?_
            rintro e w3 ⟨k2, rfl, c3, hk3, g3⟩
            have HG3 := Lib.hid (only_trans HG.out g3)
            have C3 := Lib.hid c3
            clear c3 hk3 g3
            go_wp2_with fail
            go_ret2
            rw [HST.out]
            exact ⟨k2, _, rfl, C3.out.kept (only_alloc (only_refl _ none) _) (by simp), OwnE.nil _ _ _, fun e => absurd e HQ.out, only_alloc HG3.out _⟩
        · have hie : x - acc.length = 0 := by omega
          rw [hie, glueE_zero] at HR
          go_wp2_with fail
          go_ret2
          rw [HR.out]
          exact ⟨k', _, rfl, HCU.out, HO.out, fun _ => rfl, HG.out⟩
    · have HX := Lib.hid (HX.out.trans ((if_neg (by simp)).trans (if_pos h1)))
      have HQ := Lib.hid h1
      generalize countE x = q at *
      have hqb : ((q : Int) != 0) = true := by rw [bne_iff_ne]; omega
      clear h1
      go_enter Tryz.func35, Tryz.ntmps35
      go_wp2_with fail
      refine HN.out.mono ?_
      rintro e w1 ⟨rfl, c1, g1⟩
      have C1 := Lib.hid c1
      have G1 := Lib.hid g1
      clear c1 g1
      go_wp2_with fail
      refine (HC.out _).mono ?_
      rintro e w2 ⟨rfl, rfl⟩
      go_wp2_with fail
      go_ret2
      rw [HX.out]
      exact ⟨_, _, rfl, C1.out, OwnE.nil _ _ _, fun e => absurd e HQ.out, G1.out⟩
  · have HX := Lib.hid (HX.out.trans (if_pos h0))
    have HQ := Lib.hid h0
    have hqb : ((E : Int) != 0) = true := by rw [bne_iff_ne]; omega
    clear h0
    go_enter Tryz.func35, Tryz.ntmps35
    go_wp2_with fail
    refine HN.out.mono ?_
    rintro e w1 ⟨rfl, c1, g1⟩
    have C1 := Lib.hid c1
    have G1 := Lib.hid g1
    clear c1 g1
    go_wp2_with fail
    go_ret2
    rw [HX.out]
    exact ⟨_, _, rfl, C1.out, OwnE.nil _ _ _, fun e => absurd e HQ.out, G1.out⟩

theorem next_nil (w : World) : Calls Tryz.prog 35 #[.pointer none] w fun e w' => e = .returned (.tuple #[.slice none 0 0, .int .i64 25]) ∧ w = w' := by
  have HN := Lib.hid (fun w => vi.next_nil w)
  go_enter Tryz.func35, Tryz.ntmps35
  go_wp2_with fail
  refine (HN.out _).mono ?_
  rintro e w1 ⟨rfl, rfl⟩
  go_wp2_with fail
  go_ret2
  exact ⟨rfl, rfl⟩

set_option maxHeartbeats 1000000 in
set_option maxRecDepth 100000 in
theorem parse_any (s : ByteArray) (w : World) (hs : s.size ≤ 1000000) (hT : tb.Tab w) :
    Calls Tryz.prog 33 #[.string s] w fun e w' => ∃ v, e = .returned (.tuple #[v, .int .i64 ((parseD s.data.toList).2 : Nat)]) ∧ OwnE 23 w.heap.size w' v (parseD s.data.toList).1 ∧ w.grownBy w' none := by
  have HO := Lib.hid (over_any s)
  have GA := only_alloc (only_refl w none) (.cells #[.string s, .int .i64 0] 69)
  have HN := Lib.hid (next_any w _ w.heap.size s 0 hs hT GA (Nat.le_refl _) (Cur.new s (by unfold maxLen; omega) w))
  rw [List.drop_zero] at HN
  have HGA := Lib.hid GA
  have hlt := nextD_lt s.data.toList
  have hl : s.data.toList.length = s.size := by simp
  clear GA hT
  have HP : Hid (parseD s.data.toList = if (nextD s.data.toList).2.2 ≠ 0 then ([], (nextD s.data.toList).2.2) else if (nextD s.data.toList).2.1 ≠ [] then ([], 10) else ((nextD s.data.toList).1, 0)) := rfl
  generalize parseD s.data.toList = PP at *
  generalize nextD s.data.toList = R at *
  obtain ⟨l, rest, q⟩ := R
  simp only at HN hlt HP
  by_cases h1 : q = 0
  · subst h1
    have HP := Lib.hid (HP.out.trans (if_neg (by simp)))
    go_enter Tryz.func33, Tryz.ntmps33
    go_wp2_with fail
    refine (HO.out _).mono ?_
    rintro e w1 ⟨rfl, rfl⟩
    go_wp2_with fail
    refine HN.out.mono ?_
    rintro e w2 ⟨k, v, rfl, c2, o2, hk, g2⟩
    have hk2 : s.data.toList.drop k = rest := by first | exact hk rfl | exact hk trivial
    have hk3 := congrArg List.length hk2
    rw [List.length_drop, hl] at hk3
    have HL := Lib.hid (left_some c2)
    have O2 := Lib.hid (OwnE.mono (base' := w.heap.size) o2 (by simp))
    have G2 := Lib.hid (only_new HGA.out g2 (Nat.le_refl _))
    obtain ⟨va, vc, rfl⟩ := o2.es.shape
    clear c2 o2 hk g2 hk2
    by_cases h2 : rest = []
    · have HP := Lib.hid (HP.out.trans (if_neg (by simp [h2])))
      subst h2
      rw [List.length_nil] at hk3
      rw [hk3] at HL
      go_wp2_with fail
      refine HL.out.mono ?_
      rintro e w3 ⟨rfl, n, rfl⟩
      go_wp2_with fail
      go_ret2
      rw [HP.out]
      exact ⟨_, rfl, O2.out.grown (only_drewN (only_refl _ _) _), only_drewN G2.out _⟩
    · have HP := Lib.hid (HP.out.trans (if_pos h2))
      have h3 : rest.length ≠ 0 := fun e => h2 (List.length_eq_zero_iff.1 e)
      rw [hk3] at HL
      generalize rest.length = m at *
      have h4 : (0 : Int) < (m : Int) := by omega
      go_wp2_with fail
      refine HL.out.mono ?_
      rintro e w3 ⟨rfl, n, rfl⟩
      go_wp2_with fail
      go_ret2
      rw [HP.out]
      exact ⟨_, rfl, OwnE.nil _ _ _, only_drewN G2.out _⟩
  · have HP := Lib.hid (HP.out.trans (if_pos h1))
    have hqb : ((q : Int) != 0) = true := by rw [bne_iff_ne]; omega
    go_enter Tryz.func33, Tryz.ntmps33
    go_wp2_with fail
    refine (HO.out _).mono ?_
    rintro e w1 ⟨rfl, rfl⟩
    go_wp2_with fail
    refine HN.out.mono ?_
    rintro e w2 ⟨k, v, rfl, c2, o2, hk, g2⟩
    have G2 := Lib.hid (only_new HGA.out g2 (Nat.le_refl _))
    obtain ⟨va, vc, rfl⟩ := o2.es.shape
    clear c2 o2 hk g2
    go_wp2_with fail
    go_ret2
    rw [HP.out]
    exact ⟨_, rfl, OwnE.nil _ _ _, G2.out⟩

end Go.Proofs.YtiolkedmpjjojaaGreatDoor.dd
