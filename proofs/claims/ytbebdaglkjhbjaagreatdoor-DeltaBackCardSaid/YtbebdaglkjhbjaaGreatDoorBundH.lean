/-
  Law13, Law13T, Tbi, Tcl, Tsr, Tof, Law13W
-/
import Derived.Test.YtbebdaglkjhbjaaGreatDoorBundR
import Derived.Test.YtbebdaglkjhbjaaGreatDoorBundG
import Derived.Deep.RegionHeld3
import Derived.Test.YtbebdaglkjhbjaaGreatDoorBundE
import Derived.Lib.SliceRun
import Derived.Test.YtbebdaglkjhbjaaGreatDoorSlayT

/-
  The laws of layer 13: Few.
-/
namespace Go.Proofs.YtbebdaglkjhbjaaGreatDoor.law13
open Go.RowKit Go.Proofs.YtbebdaglkjhbjaaGreatDoor.vi Go.Proofs.YtbebdaglkjhbjaaGreatDoor.um Go.Proofs.YtbebdaglkjhbjaaGreatDoor.wm Go.Proofs.YtbebdaglkjhbjaaGreatDoor.tr Go.Proofs.YtbebdaglkjhbjaaGreatDoor.em Go.Proofs.YtbebdaglkjhbjaaGreatDoor.rm Go.Proofs.YtbebdaglkjhbjaaGreatDoor.law11 Go.Proofs.YtbebdaglkjhbjaaGreatDoor.dd Go.Proofs.YtbebdaglkjhbjaaGreatDoor.dr Go.Proofs.YtbebdaglkjhbjaaGreatDoor.tm Go.Proofs.YtbebdaglkjhbjaaGreatDoor.tf Go.Proofs.YtbebdaglkjhbjaaGreatDoor.law12
set_option linter.unusedVariables false
set_option linter.unusedSimpArgs false

/-- What the laws run on, of one row (n: how many rows there are). -/
def fewR (n : Nat) (r : Rw) : Bool := decide (r.d.length ≤ 18) && fewE r.d && (decide (n ≤ 40) || decide ((keyD r.d).length ≤ 100))
def fewT (rs : List Rw) : Bool := (rs.all (fewR rs.length)) && decide (rs.length ≤ 300)

set_option maxHeartbeats 4000000 in
set_option maxRecDepth 100000 in
theorem few_any (rs : List Rw) (S : Nat → Prop) (w : World) (v : Value) (hl : rs.length ≤ 140737488351232) (hz : ∀ r ∈ rs, r.d.length ≤ 140737488351232 ∧ ∀ x ∈ r.d, x.key.size ≤ 140737488351232 ∧ x.value.size ≤ 140737488351232) (h : Rs S w v rs) :
    Calls Tryz.prog 9 #[v] w fun e w' => e = .returned (.bool (fewT rs)) ∧ w.grownBy w' none := by
  have HS := Lib.hid h
  have HZ := Lib.hid hz
  obtain ⟨a, cap, rfl⟩ := h.shape
  clear h hz
  go_enter Tryz.func9, Tryz.ntmps9
  go_wp2_with fail
  go_loopw [7] (fun q wr => ∃ i : Nat, i ≤ rs.length ∧ q = .int .i64 i ∧ w.grownBy wr none ∧ ((rs.take i).all (fewR rs.length)) = true) (fun q _ => rs.length - (intOf q).toNat)
  case atStart => exact ⟨0, Nat.zero_le _, rfl, only_refl _ _, by simp⟩
  case round =>
    obtain ⟨i, hi, rfl, hg, ht⟩ := hrel
    have HG := Lib.hid hg
    have HT := Lib.hid ht
    clear hg ht
    by_cases hlt : i < rs.length
    · obtain ⟨x, hx⟩ : ∃ x, rs[i]? = some x := ⟨rs[i], List.getElem?_eq_getElem hlt⟩
      obtain ⟨b, off, cx, uu, hv, -, hle, hcm, c0, he, c1⟩ := (HS.out.grown HG.out).at hx
      simp only [Value.slice.injEq, true_and] at hv
      obtain ⟨rfl, rfl⟩ := hv
      unfold maxLen at hcm
      obtain ⟨xa, xc, rfl⟩ := he.shape
      obtain ⟨z1, z2⟩ := HZ.out x (List.mem_of_getElem? hx)
      have GA := Lib.hid (only_alloc (only_refl wr none) (.cells #[.slice xa x.d.length xc, .int .u64 (x.n : Nat)] 80))
      have d0 : (wr.alloc (.cells #[.slice xa x.d.length xc, .int .u64 (x.n : Nat)] 80)).cell? ⟨wr.heap.size, 0, none⟩ = some (.slice xa x.d.length xc) := by rw [cell_new]; rfl
      have HEA := Lib.hid (he.grown GA.out)
      have HGA := Lib.hid (only_trans HG.out GA.out)
      have D0 := Lib.hid d0
      have HTN : Hid (fewR rs.length x = true → ((rs.take (i + 1)).all (fewR rs.length)) = true) := fun hq => by rw [List.take_add_one, hx, List.all_append, HT.out]; simpa using hq
      have HTF : Hid (fewR rs.length x = false → fewT rs = false) := fun hq => by
        unfold fewT
        rw [Bool.and_eq_false_iff]
        left
        rw [List.all_eq_false]
        exact ⟨x, List.mem_of_getElem? hx, by simp [hq]⟩
      clear d0 he hx HT
      by_cases h18 : (18 : Int) < (x.d.length : Int)
      · have HRR := Lib.hid (HTF.out (by unfold fewR; rw [decide_eq_false (by omega)]; rfl))
        go_wp2_with fail
        go_ret
        rw [HRR.out]
        exact ⟨rfl, HGA.out⟩
      · have HF := Lib.hid (law12.few_any x.d _ _ _ z1 z2 HEA.out.es)
        have h18n : decide (x.d.length ≤ 18) = true := decide_eq_true (by omega)
        cases hf : fewE x.d with
        | false =>
          have HRR := Lib.hid (HTF.out (by unfold fewR; rw [hf, h18n]; rfl))
          rw [hf] at HF
          clear h18n hf
          go_wp2_with fail
          refine HF.out.mono ?_
          rintro e w1 ⟨rfl, g1⟩
          go_wp2_with fail
          go_ret
          rw [HRR.out]
          exact ⟨rfl, only_trans HGA.out g1⟩
        | true =>
          rw [hf] at HF
          obtain ⟨k1, k2⟩ := law12.few_facts hf
          have hks := key_small k1 k2
          have K2 := Lib.hid k2
          have HFR : Hid (fewR rs.length x = (decide (rs.length ≤ 40) || decide ((keyD x.d).length ≤ 100))) := by
            show _ = _
            unfold fewR
            rw [hf, h18n]; rfl
          clear h18n hf k2
          by_cases h40 : (40 : Int) < (rs.length : Int)
          · have HK := Lib.hid (fun w2 (g : (wr.alloc (.cells #[.slice xa x.d.length xc, .int .u64 (x.n : Nat)] 80)).grownBy w2 none) => key_any x.d _ w2 _ (by omega) (fun z hz => by have := K2.out z hz; omega) (by omega) ((HEA.out.grown g).es))
            have HD := Lib.hid (fun w2 (g : (wr.alloc (.cells #[.slice xa x.d.length xc, .int .u64 (x.n : Nat)] 80)).grownBy w2 none) => (Chg.of_none (S := fun _ => False) g).cell D0.out (fun e => e))
            have hkl : (txt (keyD x.d)).size = (keyD x.d).length := txt_size _
            by_cases h100 : (100 : Int) < ((keyD x.d).length : Int)
            · have HRR := Lib.hid (HTF.out (by rw [HFR.out, decide_eq_false (by omega), decide_eq_false (by omega)]; rfl))
              go_wp2_with fail
              refine HF.out.mono ?_
              rintro e w1 ⟨rfl, g1⟩
              have G1 := Lib.hid (only_trans HGA.out g1)
              have e0 := HD.out w1 g1
              have HK1 := Lib.hid (HK.out w1 g1)
              clear g1 HD HK
              go_wp2_with fail
              refine HK1.out.mono ?_
              rintro e w2 ⟨rfl, g2⟩
              go_wp2_with fail
              go_ret
              rw [HRR.out]
              exact ⟨rfl, only_trans G1.out g2⟩
            · have HRR := Lib.hid (HTN.out (by rw [HFR.out, decide_eq_true (p := (keyD x.d).length ≤ 100) (by omega), Bool.or_true]))
              go_wp2_with fail
              refine HF.out.mono ?_
              rintro e w1 ⟨rfl, g1⟩
              have G1 := Lib.hid (only_trans HGA.out g1)
              have e0 := HD.out w1 g1
              have HK1 := Lib.hid (HK.out w1 g1)
              clear g1 HD HK
              go_wp2_with fail
              refine HK1.out.mono ?_
              rintro e w2 ⟨rfl, g2⟩
              have G2 := Lib.hid (only_trans G1.out g2)
              clear g2
              go_wp2_with fail
              go_roundw
              case rel => exact ⟨i + 1, by omega, by go_num, G2.out, HRR.out⟩
              case measure => simp [intOf]; omega
          · have HRR := Lib.hid (HTN.out (by rw [HFR.out, decide_eq_true (p := rs.length ≤ 40) (by omega), Bool.true_or]))
            go_wp2_with fail
            refine HF.out.mono ?_
            rintro e w1 ⟨rfl, g1⟩
            have G1 := Lib.hid (only_trans HGA.out g1)
            clear g1
            go_wp2_with fail
            go_roundw
            case rel => exact ⟨i + 1, by omega, by go_num, G1.out, HRR.out⟩
            case measure => simp [intOf]; omega
    · have hie : i = rs.length := by omega
      subst hie
      have HR : Hid (fewT rs = decide (rs.length ≤ 300)) := by
        show _ = _
        have := HT.out
        rw [List.take_length] at this
        unfold fewT
        rw [this, Bool.true_and]
      go_wp2_with fail
      go_ret
      rw [HR.out]
      exact ⟨ret1 (congrArg Value.bool (by simp; first | done | omega)), HG.out⟩

end Go.Proofs.YtbebdaglkjhbjaaGreatDoor.law13

/-
  The laws of layer 13: To.
-/
namespace Go.Proofs.YtbebdaglkjhbjaaGreatDoor.law13
open Go.RowKit Go.Proofs.YtbebdaglkjhbjaaGreatDoor.vi Go.Proofs.YtbebdaglkjhbjaaGreatDoor.um Go.Proofs.YtbebdaglkjhbjaaGreatDoor.wm Go.Proofs.YtbebdaglkjhbjaaGreatDoor.tr Go.Proofs.YtbebdaglkjhbjaaGreatDoor.em Go.Proofs.YtbebdaglkjhbjaaGreatDoor.rm Go.Proofs.YtbebdaglkjhbjaaGreatDoor.law11 Go.Proofs.YtbebdaglkjhbjaaGreatDoor.dd Go.Proofs.YtbebdaglkjhbjaaGreatDoor.dr Go.Proofs.YtbebdaglkjhbjaaGreatDoor.tm Go.Proofs.YtbebdaglkjhbjaaGreatDoor.tf Go.Proofs.YtbebdaglkjhbjaaGreatDoor.law12
set_option linter.unusedVariables false
set_option linter.unusedSimpArgs false

theorem Tryz.infoRW : (Tryz.prog.info? 97).map (fun i => (i.zero, i.size, i.bytes)) = some (some (.agg #[.slice none 0 0, .int .u64 0]), 2, 32) := by kernel_rfl

theorem ess_own {ty : TypeId} {base : Nat} {w : World} {v : Value} {xs : List Ent} (h : OwnE ty base w v xs) : EsS (fun k => base ≤ k ∧ k < w.heap.size) w v xs := by
  have hl := h.lt
  obtain ⟨a, cap, e, h5⟩ := h.es
  refine ⟨a, cap, e, ?_⟩
  rcases h5 with h5 | ⟨b, off, h1, h2, h3, h4, h6⟩
  · exact .inl h5
  · refine .inr ⟨b, off, h1, ?_, h3, h4, h6⟩
    unfold OwnE at h
    rcases h.2 with ⟨e2, h0⟩ | ⟨g, cap2, cur, e2, hb, hg, -⟩
    · rw [e] at e2
      simp only [Value.slice.injEq] at e2
      rw [h1] at e2; simp at e2
    · rw [e, h1] at e2
      simp only [Value.slice.injEq, Option.some.injEq, Addr.mk.injEq, and_true, true_and] at e2
      obtain ⟨⟨rfl, rfl⟩, rfl⟩ := e2
      exact ⟨hb, h2⟩

set_option maxHeartbeats 4000000 in
set_option maxRecDepth 100000 in
theorem to_any (rs : List Rw) (S : Nat → Prop) (w : World) (v : Value) (hl : rs.length ≤ 100000) (hz : ∀ r ∈ rs, r.d.length ≤ 100000) (h : Rs S w v rs) :
    Calls Tryz.prog 12 #[v] w fun e w' => ∃ v' T, e = .returned v' ∧ OwnR 97 w.heap.size T w' v' rs ∧ (∀ k, T k → w.heap.size ≤ k) ∧ w.grownBy w' none := by
  have HS := Lib.hid h
  have HZ := Lib.hid hz
  obtain ⟨a, cap, rfl⟩ := h.shape
  clear h hz
  go_enter Tryz.func12, Tryz.ntmps12
  go_wp2_with fail
  go_loopw [3, 8] (fun vo q wr => ∃ i : Nat, i ≤ rs.length ∧ q = .int .i64 i ∧ w.grownBy wr none ∧ ∃ T, OwnR 97 w.heap.size T wr vo (rs.take i) ∧ (∀ k, T k → w.heap.size ≤ k)) (fun _ q _ => rs.length - (intOf q).toNat)
  case atStart => exact ⟨0, Nat.zero_le _, rfl, only_refl _ _, fun _ => False, OwnR.nil _ _ _ _ (fun k e => e.elim), fun k e => e.elim⟩
  case round =>
    obtain ⟨i, hi, rfl, hg, T, ho, hT⟩ := hrel
    have HG := Lib.hid hg
    have HO := Lib.hid ho
    have HTT := Lib.hid hT
    clear hg ho hT
    by_cases hlt : i < rs.length
    · obtain ⟨x, hx⟩ : ∃ x, rs[i]? = some x := ⟨rs[i], List.getElem?_eq_getElem hlt⟩
      obtain ⟨b, off, cx, uu, hv, -, hle, hcm, c0, he, c1⟩ := (HS.out.grown HG.out).at hx
      simp only [Value.slice.injEq, true_and] at hv
      obtain ⟨rfl, rfl⟩ := hv
      unfold maxLen at hcm
      have HTK : Hid (rs.take (i + 1) = rs.take i ++ [x]) := by
        show _ = _
        rw [List.take_add_one, hx]; rfl
      obtain ⟨xa, xc, rfl⟩ := he.shape
      have hzx := HZ.out x (List.mem_of_getElem? hx)
      have hvb := HO.out.lt
      have hwz : w.heap.size ≤ wr.heap.size := HG.out.size
      have htl : (rs.take i).length ≤ 100000 := by rw [List.length_take]; omega
      have GA := Lib.hid (only_alloc (only_refl wr none) (.cells #[.slice xa x.d.length xc, .int .u64 (x.n : Nat)] 80))
      have d1 : (wr.alloc (.cells #[.slice xa x.d.length xc, .int .u64 (x.n : Nat)] 80)).cell? ⟨wr.heap.size, 1, none⟩ = some (.int .u64 (x.n : Nat)) := by rw [cell_new]; rfl
      have d0 : (wr.alloc (.cells #[.slice xa x.d.length xc, .int .u64 (x.n : Nat)] 80)).cell? ⟨wr.heap.size, 0, none⟩ = some (.slice xa x.d.length xc) := by rw [cell_new]; rfl
      have HTO := Lib.hid (fun w1 (g : (wr.alloc (.cells #[.slice xa x.d.length xc, .int .u64 (x.n : Nat)] 80)).grownBy w1 none) => law12.to_any x.d _ w1 _ hzx ((he.grown GA.out).grown g).es)
      have hsa : (wr.alloc (.cells #[.slice xa x.d.length xc, .int .u64 (x.n : Nat)] 80)).heap.size = wr.heap.size + 1 := by simp
      have D1 := Lib.hid d1
      have D0 := Lib.hid d0
      have HGA := Lib.hid (only_trans HG.out GA.out)
      have HOA := Lib.hid (HO.out.grown GA.out)
      clear d0 d1 he hx
      generalize rs.take i = acc at *
      go_wp2_with fail
      generalize wr.alloc (.cells #[.slice xa x.d.length xc, .int .u64 (x.n : Nat)] 80) = wa at *
      have HDR := Lib.hid (only_drew (only_refl wa none))
      have HCE := Lib.hid (fun w1 (g : wa.grownBy w1 none) => (⟨(Chg.of_none (S := fun _ => False) g).cell D0.out (fun e => e), (Chg.of_none (S := fun _ => False) g).cell D1.out (fun e => e)⟩ : w1.cell? ⟨wr.heap.size, 0, none⟩ = some (.slice xa x.d.length xc) ∧ w1.cell? ⟨wr.heap.size, 1, none⟩ = some (.int .u64 (x.n : Nat))))
      obtain ⟨p0, p1⟩ := HCE.out wa (only_refl _ _)
      have hne : ∀ k, Value.ownBlock u3 = some k → k < wr.heap.size := fun k e => by have := (HO.out.lt k e).2; exact this
      have HNE := Lib.hid hne
      go_region_held3 (fun w' => w'.cell? ⟨wr.heap.size, 0, none⟩ = some (.slice xa x.d.length xc) ∧ w'.cell? ⟨wr.heap.size, 1, none⟩ = some (.int .u64 (x.n : Nat)))
        (first
          | go_keep
          | exact HCE.out _ G2.out
          | exact HCE.out _ (only_trans G2.out (only_alloc (only_refl _ none) _))
          | exact HC6.out)
        (first
          | (go_at_call 48; refine (HTO.out _ HDR.out).mono ?_; rintro e w2 ⟨v2, rfl, o2, g2⟩; have HE2 := Lib.hid (ess_own o2); have G2 := Lib.hid (only_trans HDR.out g2); have hsz2 : wa.heap.size ≤ w2.heap.size := g2.size; obtain ⟨ya, yc, rfl⟩ := o2.es.shape; clear o2 g2)
          | (refine step_append_rs (by rfl) _ _ 30 97 (by rfl) _ Tryz.underlying30 Tryz.infoRW rfl w.heap.size _ _ _ acc [x] (by rfl) (HOA.out.grown (only_trans G2.out (only_alloc (only_refl _ none) _))) _ (by rfl) (rs_one w2 _ _ x _ HE2.out) (fun k hk => by simp at hk ⊢; omega) (fun k e hk => by have h1 := HNE.out k e; simp at hk; omega) (by simp; omega) (by simp; omega) ?_; intro v6 w6 ho6 hg6; have HO6 := Lib.hid ho6; have HG6 := Lib.hid (only_row (only_trans HGA.out (only_trans G2.out (only_alloc (only_refl _ none) _))) hg6 (fun k e => (HO.out.lt k e).1)); have HC6 := Lib.hid (show w6.cell? ⟨wr.heap.size, 0, none⟩ = some (.slice xa x.d.length xc) ∧ w6.cell? ⟨wr.heap.size, 1, none⟩ = some (.int .u64 (x.n : Nat)) from by obtain ⟨m1, m2⟩ := HCE.out _ (only_trans G2.out (only_alloc (only_refl _ none) (.cells #[.slice ya x.d.length yc, .int .u64 (x.n : Nat)] 97))); have hkk : Chg (fun k => Value.ownBlock u3 = some k) _ w6 := Chg.of_grown hg6 (fun k e => .inl e); exact ⟨hkk.cell m1 (fun e => Nat.lt_irrefl _ (HNE.out _ e)), hkk.cell m2 (fun e => Nat.lt_irrefl _ (HNE.out _ e))⟩); clear ho6 hg6))
      go_wp2_with fail
      go_roundw
      case rel => exact ⟨i + 1, by omega, by go_num, HG6.out, _, by rw [HTK.out]; exact HO6.out, fun k hk => by rcases hk with hk | hk; exact HTT.out k hk; simp at hk; omega⟩
      case measure => simp [intOf]; omega
    · have hie : i = rs.length := by omega
      subst hie
      rw [List.take_length] at HO
      have hvb := HO.out.lt
      obtain ⟨oa, oc, rfl⟩ := HO.out.rd.shape
      go_wp2_with fail
      go_ret
      exact ⟨_, T, rfl, HO.out, HTT.out, HG.out⟩

end Go.Proofs.YtbebdaglkjhbjaaGreatDoor.law13

/-
  The developers' tables: checkCount, check, checkBehind, Check.
-/
namespace Go.Proofs.YtbebdaglkjhbjaaGreatDoor.ti
open Go.RowKit Go.Proofs.YtbebdaglkjhbjaaGreatDoor.vi Go.Proofs.YtbebdaglkjhbjaaGreatDoor.um Go.Proofs.YtbebdaglkjhbjaaGreatDoor.wm Go.Proofs.YtbebdaglkjhbjaaGreatDoor.tr Go.Proofs.YtbebdaglkjhbjaaGreatDoor.em Go.Proofs.YtbebdaglkjhbjaaGreatDoor.rm Go.Proofs.YtbebdaglkjhbjaaGreatDoor.law11 Go.Proofs.YtbebdaglkjhbjaaGreatDoor.dd Go.Proofs.YtbebdaglkjhbjaaGreatDoor.tm Go.Proofs.YtbebdaglkjhbjaaGreatDoor.tf
set_option linter.unusedVariables false
set_option linter.unusedSimpArgs false

/-- Rows of any size that stand in memory. -/
def Rok (r : Rw) : Prop := r.d.length ≤ 1000000 ∧ (∀ x ∈ r.d, x.key.size ≤ maxLen ∧ x.value.size ≤ maxLen) ∧ r.n < 18446744073709551616
theorem fit_ok {r : Rw} (h : rowE r = 0) (hn : r.n < 18446744073709551616) : Fit r := by
  obtain ⟨h1, -⟩ := rowE_pos h
  have h2 := (checkD_ok _).1 h1
  have hs : ∀ x ∈ r.d, x.key.size ≤ 64 ∧ x.value.size ≤ 256 := fun x hx => (checkE_small (h2.2.2.1 x hx)).2
  have hl : r.d.length ≤ 16 := h2.2.1
  refine ⟨by omega, fun x hx => by have := hs x hx; omega, ?_, hn⟩
  have := law12.key_small (l := r.d) (by omega) (fun x hx => by have := hs x hx; omega)
  omega

theorem tcount_any (n : Nat) (hn : n ≤ maxLen) (w : World) :
    Calls Tryz.prog 58 #[.int .i64 (n : Nat)] w fun e w' => e = .returned (.int .i64 (if 256 < n then 13 else 0)) ∧ w = w' := by
  unfold maxLen at hn
  by_cases h1 : 256 < n
  · rw [if_pos h1]
    have h1i : (256 : Int) < (n : Int) := by omega
    go_enter Tryz.func58, Tryz.ntmps58
    go_wp2_with fail
    go_ret
    exact ⟨rfl, rfl⟩
  · rw [if_neg h1]
    have h1i : ¬ (256 : Int) < (n : Int) := by omega
    go_enter Tryz.func58, Tryz.ntmps58
    go_wp2_with fail
    go_ret
    exact ⟨rfl, rfl⟩

set_option maxHeartbeats 2000000 in
set_option maxRecDepth 100000 in
theorem rchk_any (r : Rw) (S : Nat → Prop) (w : World) (u : Value) (hr : Rok r) (hT : tb.Tab w) (h : EsS S w u r.d) :
    Calls Tryz.prog 59 #[.agg #[u, .int .u64 (r.n : Nat)]] w fun e w' => e = .returned (.int .i64 (rowE r : Nat)) ∧ w.grownBy w' none := by
  obtain ⟨h1, h2, h4⟩ := hr
  have GA := Lib.hid (only_alloc (only_refl w none) (.cells #[u, .int .u64 (r.n : Nat)] 80))
  have HC := Lib.hid (dcheck_any r.d _ _ u h1 h2 (tb.kept hT GA.out) ((h.grown GA.out).es))
  have HR : Hid (rowE r = if checkD r.d ≠ 0 then checkD r.d else if r.n = 0 then 18 else 0) := rfl
  have hcl := checkD_lt r.d
  have c1 : ∀ w', (w.alloc (.cells #[u, .int .u64 (r.n : Nat)] 80)).grownBy w' none → w'.cell? ⟨w.heap.size, 1, none⟩ = some (.int .u64 (r.n : Nat)) := fun w' g => (Chg.of_none (S := fun _ => False) g).cell (by rw [cell_new]; rfl) (fun e => e)
  have HC1 := Lib.hid c1
  obtain ⟨ua, uc, rfl⟩ := h.shape
  clear c1 h hT
  generalize rowE r = E at *
  generalize checkD r.d = c at *
  generalize hn : r.n = n at *
  clear hn
  go_enter Tryz.func59, Tryz.ntmps59
  go_wp2_with fail
  refine HC.out.mono ?_
  rintro e w1 ⟨rfl, g1⟩
  have G1 := Lib.hid (only_trans GA.out g1)
  have d1 := HC1.out w1 g1
  clear g1
  by_cases hc : c = 0
  · subst hc
    by_cases h0 : n = 0
    · subst h0
      go_wp2_with fail
      go_ret
      rw [HR.out]
      exact ⟨rfl, G1.out⟩
    · have h0b : ((n : Int) == 0) = false := by simpa using h0
      go_wp2_with fail
      go_ret
      rw [HR.out, if_neg (by simp), if_neg h0]
      exact ⟨rfl, G1.out⟩
  · have hcb : ((c : Int) != 0) = true := by rw [bne_iff_ne]; omega
    go_wp2_with fail
    go_ret
    rw [HR.out, if_pos hc]
    exact ⟨rfl, G1.out⟩

theorem cmp_zero (a b : Bs) : cmpB (txt a) (txt b) = 0 ↔ a = b := by
  rw [cmpB_zero]
  constructor
  · intro e; exact congrArg (fun x : ByteArray => x.data.toList) e
  · rintro rfl; rfl
theorem cmp_neg (a b : Bs) : cmpB (txt a) (txt b) < 0 ↔ lt a b = true := by
  have := rr.lt_dec (txt a) (txt b)
  rw [txt_list, txt_list] at this
  rw [← this]; simp

set_option maxHeartbeats 2000000 in
set_option maxRecDepth 100000 in
theorem tbehind_any (rs : List Rw) (x : Rw) (S : Nat → Prop) (B : Nat) (w : World) (v u : Value) (hl : rs.length ≤ 1000000) (hx : Fit x) (hz : ∀ r, rs.getLast? = some r → Fit r) (h : Rs S w v rs) (he : Es B w u x.d) :
    Calls Tryz.prog 60 #[v, u] w fun e w' => e = .returned (.int .i64 (behT rs.getLast? x : Nat)) ∧ w.grownBy w' none := by
  rcases List.eq_nil_or_concat rs with rfl | ⟨zs, y, rfl⟩
  · obtain ⟨a, cap, rfl⟩ := h.shape
    obtain ⟨ua, uc, rfl⟩ := he.shape
    go_enter Tryz.func60, Tryz.ntmps60
    go_wp2_with fail
    go_ret
    exact ⟨rfl, only_refl _ _⟩
  · rw [List.concat_eq_append] at *
    have hln : (zs ++ [y]).length = zs.length + 1 := by simp
    have hg : (zs ++ [y]).getLast? = some y := by simp
    have HY := hz y hg
    obtain ⟨b, off, cap, vv, rfl, hb, hle, hcm, c0, hye, c1⟩ := h.at (i := zs.length) (r := y) (by simp)
    rw [hg]
    rw [hln] at hl hle ⊢
    unfold maxLen at hcm
    have HC := Lib.hid (fun w2 (g : w.grownBy w2 none) => dcmp_any x.d y.d _ w2 u vv hx.1 HY.1 hx.2.1 HY.2.1 hx.2.2.1 HY.2.2.1 (he.low.grown g) (hye.es.grown g))
    obtain ⟨ya, yc, rfl⟩ := hye.shape
    obtain ⟨xa, xc, rfl⟩ := he.shape
    have k1 := cmp_zero (keyD x.d) (keyD y.d)
    have k2 := cmp_neg (keyD x.d) (keyD y.d)
    have HB : Hid (behT (some y) x = if keyD y.d = keyD x.d then 14 else if lt (keyD y.d) (keyD x.d) = true then 0 else 7) := rfl
    have hci : ((zs.length + 1 : Nat) : Int) - 1 = (zs.length : Int) := by omega
    have HTRI := less_tri (keyD y.d) (keyD x.d)
    have HAS : lt (keyD x.d) (keyD y.d) = true → ¬ lt (keyD y.d) (keyD x.d) = true := fun e e2 => by
      have := less_asymm e
      unfold lt at e2
      rw [this] at e2; cases e2
    generalize cmpB (txt (keyD x.d)) (txt (keyD y.d)) = c at *
    generalize keyD x.d = kx at *
    generalize keyD y.d = ky at *
    generalize hn : zs.length = n at *
    have hne : ¬ (n : Int) + 1 = 0 := by omega
    have HTR := Lib.hid HTRI
    have HA := Lib.hid HAS
    clear h he hye hn HTRI HAS hln hg HY hz
    by_cases h0 : c = 0
    · have HR : Hid (behT (some y) x = 14) := by show _ = _; rw [HB.out, if_pos (k1.1 h0).symm]
      subst h0
      clear k1 k2
      go_enter Tryz.func60, Tryz.ntmps60
      go_wp2_with fail
      refine (HC.out _ (only_refl _ _)).mono ?_
      rintro e w1 ⟨rfl, g1⟩
      have G1 := Lib.hid g1
      clear g1
      go_wp2_with fail
      go_ret
      rw [HR.out]
      exact ⟨rfl, G1.out⟩
    · have hkk : ¬ ky = kx := fun e => h0 (k1.2 e.symm)
      have h0b : (c == 0) = false := by simpa using h0
      by_cases h1 : c < 0
      · have HR : Hid (behT (some y) x = 7) := by show _ = _; rw [HB.out, if_neg hkk, if_neg (HA.out (k2.1 h1))]
        clear k1 k2 hkk
        go_enter Tryz.func60, Tryz.ntmps60
        go_wp2_with fail
        refine (HC.out _ (only_refl _ _)).mono ?_
        rintro e w1 ⟨rfl, g1⟩
        have G1 := Lib.hid g1
        clear g1
        go_wp2_with fail
        go_ret
        rw [HR.out]
        exact ⟨rfl, G1.out⟩
      · have HR : Hid (behT (some y) x = 0) := by
          show _ = _
          have h3 : lt ky kx = true := by
            rcases HTR.out with h | h | h
            · exact h
            · exact absurd h hkk
            · exact absurd (k2.2 h) h1
          rw [HB.out, if_neg hkk, if_pos h3]
        clear k1 k2 hkk
        go_enter Tryz.func60, Tryz.ntmps60
        go_wp2_with fail
        refine (HC.out _ (only_refl _ _)).mono ?_
        rintro e w1 ⟨rfl, g1⟩
        have G1 := Lib.hid g1
        clear g1
        go_wp2_with fail
        go_ret
        rw [HR.out]
        exact ⟨rfl, G1.out⟩

set_option maxHeartbeats 4000000 in
set_option maxRecDepth 100000 in
theorem tcheck_any (rs : List Rw) (S : Nat → Prop) (w : World) (v : Value) (hl : rs.length ≤ maxLen) (hz : ∀ r ∈ rs, Rok r) (hT : tb.Tab w) (h : Rs S w v rs) :
    Calls Tryz.prog 21 #[v] w fun e w' => e = .returned (.int .i64 (checkT rs : Nat)) ∧ w.grownBy w' none := by
  have HS := Lib.hid h
  have HZ := Lib.hid hz
  have HTB := Lib.hid (fun w1 (g : w.grownBy w1 none) => tb.kept hT g)
  have HC := Lib.hid (fun w => tcount_any rs.length hl w)
  unfold maxLen at hl
  obtain ⟨a, cap, rfl⟩ := h.shape
  clear h hz hT
  by_cases hbig : 256 < rs.length
  · have HR : Hid (checkT rs = 13) := by show _ = _; unfold checkT; rw [if_pos hbig]
    rw [if_pos hbig] at HC
    go_enter Tryz.func21, Tryz.ntmps21
    go_wp2_with fail
    refine (HC.out _).mono ?_
    rintro e w0 ⟨rfl, rfl⟩
    go_wp2_with fail
    go_ret
    rw [HR.out]
    exact ⟨rfl, only_refl _ _⟩
  · have HR : Hid (checkT rs = walkT ((rs.take 0).getLast?) (rs.drop 0)) := by show _ = _; unfold checkT; rw [if_neg hbig]; rfl
    rw [if_neg hbig] at HC
    go_enter Tryz.func21, Tryz.ntmps21
    go_wp2_with fail
    refine (HC.out _).mono ?_
    rintro e w0 ⟨rfl, rfl⟩
    go_wp2_with fail
    go_loopw [16] (fun q wr => ∃ i : Nat, i ≤ rs.length ∧ q = .int .i64 i ∧ w.grownBy wr none ∧ checkT rs = walkT ((rs.take i).getLast?) (rs.drop i) ∧ ∀ r, (rs.take i).getLast? = some r → Fit r) (fun q _ => rs.length - (intOf q).toNat)
    case atStart => exact ⟨0, Nat.zero_le _, rfl, only_refl _ _, HR.out, by simp⟩
    case round =>
      obtain ⟨i, hi, rfl, hg, hw, hf⟩ := hrel
      have HG := Lib.hid hg
      have HW := Lib.hid hw
      have HF := Lib.hid hf
      clear hg hw HR hf
      by_cases hlt : i < rs.length
      · obtain ⟨x, hx⟩ : ∃ x, rs[i]? = some x := ⟨rs[i], List.getElem?_eq_getElem hlt⟩
        have HSi := Lib.hid (HS.out.grown HG.out)
        obtain ⟨b, off, cx, uu, hv, -, hle, hcm, c0, he, c1⟩ := HSi.out.at hx
        simp only [Value.slice.injEq, true_and] at hv
        obtain ⟨rfl, rfl⟩ := hv
        unfold maxLen at hcm
        have hxr := HZ.out x (List.mem_of_getElem? hx)
        have HWN := Lib.hid (HW.out.trans (walkT_next hx))
        have HTK := Lib.hid (snocT hx)
        obtain ⟨xa, xc, rfl⟩ := he.shape
        have GA := only_alloc (only_refl wr none) (.cells #[.slice xa x.d.length xc, .int .u64 (x.n : Nat)] 80)
        have d0 : (wr.alloc (.cells #[.slice xa x.d.length xc, .int .u64 (x.n : Nat)] 80)).cell? ⟨wr.heap.size, 0, none⟩ = some (.slice xa x.d.length xc) := by rw [cell_new]; rfl
        have G1 := Lib.hid (only_trans HG.out GA)
        have HCK := Lib.hid (fun w1 (g : w.grownBy w1 none) h => rchk_any x S w1 (.slice xa x.d.length xc) hxr (HTB.out w1 g) h)
        have HEA := Lib.hid (he.grown GA)
        have HGA := Lib.hid GA
        have D0 := Lib.hid d0
        have hrl := rowE_lt x
        have hbl := behT_lt (rs.take i).getLast? x
        have htl : (rs.take i).length = i := by rw [List.length_take]; omega
        have HFX := Lib.hid (fun h => fit_ok (r := x) h hxr.2.2)
        have HBF := Lib.hid (fun (hfit : Fit x) w1 (g : (wr.alloc (.cells #[.slice xa x.d.length xc, .int .u64 (x.n : Nat)] 80)).grownBy w1 none) => tbehind_any (rs.take i) x S w1.heap.size w1 _ (.slice xa x.d.length xc) (by omega) hfit HF.out ((HSi.out.grown (only_trans HGA.out g)).take i (by omega)) ((HEA.out.grown g).es))
        clear hx GA HW d0 he hxr htl
        by_cases h1 : rowE x = 0
        · have HBH := Lib.hid (HBF.out (HFX.out h1))
          have HNF : Hid (Fit x) := HFX.out h1
          rw [h1] at HCK HWN
          have HWN := Lib.hid (HWN.out.trans (if_neg (by simp)))
          clear hrl h1 HBF HFX
          by_cases h2 : behT (rs.take i).getLast? x = 0
          · rw [h2] at HBH HWN
            have HWN := Lib.hid (HWN.out.trans (if_neg (by simp)))
            clear hbl h2
            go_wp2_with fail
            refine (HCK.out _ G1.out HEA.out).mono ?_
            rintro e w1 ⟨rfl, g1⟩
            have G2 := Lib.hid (only_trans G1.out g1)
            have HAG := Lib.hid g1
            clear g1
            go_wp2_with fail
            have HQ := Lib.hid (fun g : GW w1 none => HBH.out g.world (only_trans HAG.out g.ok))
            have x0 : ∀ g : GW w1 none, g.world.cell? ⟨wr.heap.size, 0, none⟩ = some (.slice xa x.d.length xc) := fun g => (Chg.of_none (S := fun _ => False) (only_trans HAG.out g.ok)).cell D0.out (fun e => e)
            refine wp_region_gw w1 none (by kernel_rfl) (by kernel_rfl) (only_refl _ _) ?_
            repeat (go_big_quiet_step ((go_at_call 60; exact calls_gw (HQ.out _))))
            refine wpQuiet_nil ?_
            rintro wb ⟨⟨_, hwb⟩, rfl⟩
            have G3 := Lib.hid (only_trans G2.out hwb)
            clear hwb x0
            go_wp2_with fail
            go_roundw
            case rel => exact ⟨i + 1, by omega, by go_num, G3.out, HWN.out, fun r hr => by rw [HTK.out] at hr; cases hr; exact HNF.out⟩
            case measure => simp [intOf]; omega
          · have HWN := Lib.hid (HWN.out.trans (if_pos h2))
            generalize behT (rs.take i).getLast? x = q at *
            have hqb : ((q : Int) != 0) = true := by rw [bne_iff_ne]; omega
            go_wp2_with fail
            refine (HCK.out _ G1.out HEA.out).mono ?_
            rintro e w1 ⟨rfl, g1⟩
            have G2 := Lib.hid (only_trans G1.out g1)
            have HAG := Lib.hid g1
            clear g1
            go_wp2_with fail
            have HQ := Lib.hid (fun g : GW w1 none => HBH.out g.world (only_trans HAG.out g.ok))
            have x0 : ∀ g : GW w1 none, g.world.cell? ⟨wr.heap.size, 0, none⟩ = some (.slice xa x.d.length xc) := fun g => (Chg.of_none (S := fun _ => False) (only_trans HAG.out g.ok)).cell D0.out (fun e => e)
            refine wp_region_gw w1 none (by kernel_rfl) (by kernel_rfl) (only_refl _ _) ?_
            repeat (go_big_quiet_step ((go_at_call 60; exact calls_gw (HQ.out _))))
            refine wpQuiet_nil ?_
            rintro wb ⟨⟨_, hwb⟩, rfl⟩
            have G3 := Lib.hid (only_trans G2.out hwb)
            clear hwb x0
            go_wp2_with fail
            go_ret
            rw [HWN.out]
            exact ⟨rfl, G3.out⟩
        · have HWN := Lib.hid (HWN.out.trans (if_pos h1))
          clear HBF HFX hbl
          generalize rowE x = q at *
          have hqb : ((q : Int) != 0) = true := by rw [bne_iff_ne]; omega
          go_wp2_with fail
          refine (HCK.out _ G1.out HEA.out).mono ?_
          rintro e w1 ⟨rfl, g1⟩
          have G2 := Lib.hid (only_trans G1.out g1)
          have HAG := Lib.hid g1
          clear g1
          go_wp2_with fail
          go_ret
          rw [HWN.out]
          exact ⟨rfl, G2.out⟩
      · have hie : i = rs.length := by omega
        subst hie
        rw [List.drop_length] at HW
        go_wp2_with fail
        go_ret
        rw [HW.out]
        exact ⟨rfl, HG.out⟩

end Go.Proofs.YtbebdaglkjhbjaaGreatDoor.ti

/-
  The developers' tables: slices.Clone of rows, of entries; Clone.
-/
namespace Go.Proofs.YtbebdaglkjhbjaaGreatDoor.ti
open Go.RowKit Go.Proofs.YtbebdaglkjhbjaaGreatDoor.vi Go.Proofs.YtbebdaglkjhbjaaGreatDoor.um Go.Proofs.YtbebdaglkjhbjaaGreatDoor.wm Go.Proofs.YtbebdaglkjhbjaaGreatDoor.tr Go.Proofs.YtbebdaglkjhbjaaGreatDoor.em Go.Proofs.YtbebdaglkjhbjaaGreatDoor.rm Go.Proofs.YtbebdaglkjhbjaaGreatDoor.law11 Go.Proofs.YtbebdaglkjhbjaaGreatDoor.dd Go.Proofs.YtbebdaglkjhbjaaGreatDoor.tm Go.Proofs.YtbebdaglkjhbjaaGreatDoor.tf
set_option linter.unusedVariables false
set_option linter.unusedSimpArgs false

theorem Tryz.infoTR : (Tryz.prog.info? 80).map (fun i => (i.zero, i.size, i.bytes)) = some (some (.agg #[.slice none 0 0, .int .u64 0]), 2, 32) := by kernel_rfl

theorem OwnR.none_of {ty : TypeId} {base : Nat} {S : Nat → Prop} {w : World} {v : Value} (h : w.ownsRow base ty 2 v 0 []) (hS : ∀ k, S k → k < w.heap.size) (hv : ∀ k, v.ownBlock = some k → ¬ S k) : OwnR ty base S w v [] :=
  ⟨fun _ => .nilIface, h, fun i r e => by simp at e, hS, hv⟩

set_option maxHeartbeats 2000000 in
set_option maxRecDepth 100000 in
theorem rclone_any (rs : List Rw) (S : Nat → Prop) (w : World) (v : Value) (hl : rs.length ≤ 1000000) (h : Rs S w v rs) :
    Calls Tryz.prog 93 #[v] w fun e w' => ∃ v', e = .returned v' ∧ OwnR 80 w.heap.size (fun k => k < w.heap.size) w' v' rs ∧ w.grownBy w' none := by
  have HE := Lib.hid h.low
  have q22 : ∀ (w : World) (a : Option Addr) (n c n' c' : Nat), (binOp .eql 32 (.slice a n c) (.slice none n' c')).run Tryz.prog w = .ok (.bool a.isNone) w := fun w a n c n' c' => Lib.run_eql_slice_nil w _ _ a n c n' c' Tryz.underlying32
  obtain ⟨a, cap, rfl, h0⟩ := h
  cases a with
  | none =>
    obtain rfl : rs = [] := by
      rcases h0 with h0 | ⟨b, off, h0, -⟩
      · exact h0
      · cases h0
    clear h0
    go_enter Tryz.func93, Tryz.ntmps93
    go_wp2_with fail
    go_ret
    exact ⟨_, rfl, OwnR.nil _ _ _ _ (fun k hk => hk), only_refl _ _⟩
  | some ad =>
    have HOM : Hid (OwnR 80 w.heap.size (fun k => k < w.heap.size) (w.alloc (.cells #[] 80)) (.slice (some ⟨w.heap.size, 0, none⟩) 0 0) []) := OwnR.none_of (World.ownsRow_lit w #[] 0 (Nat.le_refl _) (Nat.zero_le _) rfl) (fun k hk => by simp; omega) (fun k e hk => by simp [Value.ownBlock] at e; omega)
    have HRA := Lib.hid (HE.out.grown (only_alloc (only_refl w none) (.cells #[] 80)))
    clear h0
    go_enter Tryz.func93, Tryz.ntmps93
    go_wp2_with (at_builtin; refine wpList_append_rs rfl _ _ _ _ rfl _ Tryz.underlying22 Tryz.infoTR rfl w.heap.size _ _ _ [] rs rfl HOM.out _ rfl HRA.out (fun k hk => by have hk : k < w.heap.size := hk; simp; omega) (fun k e hk => by have hk : k < w.heap.size := hk; cases e; exact Nat.lt_irrefl _ hk) ?c3 ?c4 ?_)
    case c3 => simp; omega
    case c4 => simp
    intro v5 w5 ho5 hg5
    have HG5 := Lib.hid (below_to_none (below_of_only (below_of_none (only_alloc (only_refl w none) (.cells #[] 80))) hg5 (by simp) (fun k e => by simp [Value.ownBlock] at e; omega)))
    try rw [List.nil_append] at ho5
    have HO5 := Lib.hid ho5
    have HLT := Lib.hid (fun k e => (ho5.lt k e).1)
    clear ho5 hg5
    go_wp2_with fail
    go_ret
    exact ⟨_, rfl, HO5.out.more (fun k hk => by first | exact hk | exact hk.elim id id) (fun k hk => Nat.lt_of_lt_of_le hk HG5.out.size) (fun k e hk => by have := HLT.out k e; have hk : k < w.heap.size := hk; omega), HG5.out⟩

set_option maxHeartbeats 2000000 in
set_option maxRecDepth 100000 in
theorem dclone_any (xs : List Ent) (B : Nat) (w : World) (v : Value) (hl : xs.length ≤ 1000000) (h : Es B w v xs) :
    Calls Tryz.prog 94 #[v] w fun e w' => ∃ v', e = .returned v' ∧ OwnE 115 w.heap.size w' v' xs ∧ w.grownBy w' none := by
  have HE := Lib.hid h
  have q22 : ∀ (w : World) (a : Option Addr) (n c n' c' : Nat), (binOp .eql 78 (.slice a n c) (.slice none n' c')).run Tryz.prog w = .ok (.bool a.isNone) w := fun w a n c n' c' => Lib.run_eql_slice_nil w _ _ a n c n' c' Tryz.underlying78
  obtain ⟨a, cap, rfl, h0⟩ := h
  cases a with
  | none =>
    obtain rfl : xs = [] := by
      rcases h0 with h0 | ⟨b, off, h0, -⟩
      · exact h0
      · cases h0
    clear h0
    go_enter Tryz.func94, Tryz.ntmps94
    go_wp2_with fail
    go_ret
    exact ⟨_, rfl, OwnE.nil _ _ _, only_refl _ _⟩
  | some ad =>
    have HOM : Hid (OwnE 115 w.heap.size (w.alloc (.cells #[] 115)) (.slice (some ⟨w.heap.size, 0, none⟩) 0 0) []) := World.ownsRow_lit w #[] 0 (Nat.le_refl _) (Nat.zero_le _) rfl
    have HRA := Lib.hid (HE.out.grown (only_alloc (only_refl w none) (.cells #[] 115)))
    clear h0
    go_enter Tryz.func94, Tryz.ntmps94
    go_wp2_with (at_builtin; refine wpList_append_es rfl _ _ _ _ rfl _ Tryz.underlying77 Tryz.infoE rfl w.heap.size _ _ [] xs rfl HOM.out _ rfl HRA.out ?c3 ?c4 ?_)
    case c3 => simp; omega
    case c4 => simp
    intro v5 w5 ho5 hg5 _
    have HG5 := Lib.hid (below_to_none (below_of_only (below_of_none (only_alloc (only_refl w none) (.cells #[] 115))) hg5 (by simp) (fun k e => by simp [Value.ownBlock] at e; omega)))
    try rw [List.nil_append] at ho5
    have HO5 := Lib.hid ho5
    clear ho5 hg5
    go_wp2_with fail
    go_ret
    exact ⟨_, rfl, HO5.out, HG5.out⟩

/-- A clone: a row of its own, each row's entries of its own, too (of the first i rows). -/
def OwnC (base i : Nat) (w : World) (v : Value) (rs : List Rw) : Prop :=
  ∃ uv : Nat → Value, w.ownsRow base 80 2 v rs.length (flatR rs uv) ∧ (∀ j r, rs[j]? = some r → j < i → OwnE 115 base w (uv j) r.d ∧ ∀ k, (uv j).ownBlock = some k → v.ownBlock ≠ some k) ∧ ∀ j, j < rs.length → (uv j).oneCell' = true

theorem OwnC.grown {base i : Nat} {w w' : World} {v : Value} {rs : List Rw} (h : OwnC base i w v rs) (g : w.grownBy w' none) : OwnC base i w' v rs := by
  obtain ⟨uv, h1, h2, h3⟩ := h
  exact ⟨uv, World.ownsRow.kept h1 g (by cases v.ownBlock <;> simp), fun j r hj hi => ⟨(h2 j r hj hi).1.grown g, (h2 j r hj hi).2⟩, h3⟩
theorem OwnC.shape {base i : Nat} {w : World} {v : Value} {rs : List Rw} (h : OwnC base i w v rs) : ∃ a cap, v = .slice a rs.length cap := by
  obtain ⟨uv, h1, -⟩ := h
  rcases h1.2 with ⟨e, h0⟩ | ⟨g, cap, cur, e, -⟩
  · exact ⟨none, 0, by rw [e, h0]⟩
  · exact ⟨_, _, e⟩
theorem flatR_set : ∀ (l : List Rw) (uv : Nat → Value) (i : Nat) (u : Value), i < l.length → (flatR l uv).set (i * 2) u = flatR l (fun j => if j = i then u else uv j)
  | [], _, i, _, h => by simp at h
  | x :: r, uv, 0, u, _ => by
    simp only [flatR, Nat.zero_mul, List.set_cons_zero, if_pos]
    congr 2
    all_goals first | rfl | exact flatR_congr r _ _ fun i _ => by simp
  | x :: r, uv, i + 1, u, h => by
    have := flatR_set r (fun i => uv (i + 1)) i u (by simpa using h)
    rw [show (i + 1) * 2 = i * 2 + 1 + 1 by omega]
    simp only [flatR, List.set_cons_succ, this]
    congr 2
    all_goals first | rfl | (exact flatR_congr r _ _ fun j _ => by simp)

theorem OwnC.stored {base i : Nat} {w w1 : World} {g cap : Nat} {rs : List Rw} {r : Rw} {u : Value} (h : OwnC base i w (.slice (some ⟨g, 0, none⟩) rs.length cap) rs) (hr : rs[i]? = some r) (gw : w.grownBy w1 none) (hu : OwnE 115 w.heap.size w1 u r.d) :
    OwnC base (i + 1) (w1.setCell ⟨g, i * 2, none⟩ u) (.slice (some ⟨g, 0, none⟩) rs.length cap) rs ∧ base ≤ g := by
  have h' := h.grown gw
  obtain ⟨uv0, k1, -, -⟩ := h
  have hgl := (World.ownsRow.lt k1 g rfl)
  obtain ⟨uv, h1, h2, h3⟩ := h'
  have hi := (List.getElem?_eq_some_iff.1 hr).1
  have hst := h1.stored (i * 2) u
  rw [flatR_set rs uv i u hi] at hst
  have hone : u.oneCell' = true := by obtain ⟨a, c, rfl⟩ := hu.es.shape; rfl
  refine ⟨⟨_, hst.1, fun j x hx hj => ?_, fun j hj => ?_⟩, hgl.1⟩
  · by_cases hji : j = i
    · subst hji
      rw [hr] at hx
      cases hx
      simp only [if_pos]
      have hlt := hu.lt
      refine ⟨((hu.kept (row := some g) hst.2 (by
        cases hb : u.ownBlock with
        | none => exact .inl rfl
        | some k => right; intro e; cases e; have := (hlt _ hb).1; omega)).mono (Nat.le_trans hgl.1 (Nat.le_of_lt hgl.2))), fun k hk e => ?_⟩
      simp [Value.ownBlock] at e
      subst e
      have := (hlt _ hk).1
      omega
    · simp only [if_neg hji]
      obtain ⟨m1, m2⟩ := h2 j x hx (by omega)
      refine ⟨m1.kept (row := some g) hst.2 (by
        cases hb : (uv j).ownBlock with
        | none => exact .inl rfl
        | some k => right; intro e; cases e; exact m2 _ hb rfl), m2⟩
  · by_cases hji : j = i
    · subst hji; simpa using hone
    · simpa [hji] using h3 j hj

set_option maxHeartbeats 4000000 in
set_option maxRecDepth 100000 in
theorem tclone_any (rs : List Rw) (S : Nat → Prop) (w : World) (v : Value) (hl : rs.length ≤ 1000000) (hz : ∀ r ∈ rs, r.d.length ≤ 1000000) (h : Rs S w v rs) :
    Calls Tryz.prog 66 #[v] w fun e w' => ∃ v', e = .returned v' ∧ OwnC w.heap.size rs.length w' v' rs ∧ w.grownBy w' none := by
  have HS := Lib.hid h
  have HZ := Lib.hid hz
  have HC := Lib.hid (rclone_any rs S w v hl h)
  obtain ⟨a, cap, rfl⟩ := h.shape
  clear h hz
  go_enter Tryz.func66, Tryz.ntmps66
  go_wp2_with fail
  refine HC.out.mono ?_
  rintro e w1 ⟨v1, rfl, o1, g1⟩
  go_wp2_with fail
  have HO0 : Hid (OwnC w.heap.size 0 w1 v1 rs) := by
    obtain ⟨uv, k1, k2, k3, k4⟩ := o1
    exact ⟨uv, k1, fun j r _ hj => by omega, fun j hj => (k2 j rs[j] (List.getElem?_eq_getElem hj)).one⟩
  have G1 := Lib.hid g1
  obtain ⟨oa, oc, rfl⟩ := HO0.out.shape
  clear o1 g1 HC
  go_loopw [10] (fun q wr => ∃ i : Nat, i ≤ rs.length ∧ q = .int .i64 i ∧ w.grownBy wr none ∧ OwnC w.heap.size i wr (.slice oa rs.length oc) rs) (fun q _ => rs.length - (intOf q).toNat)
  case atStart => exact ⟨0, Nat.zero_le _, rfl, G1.out, HO0.out⟩
  case round =>
    obtain ⟨i, hi, rfl, hg, ho⟩ := hrel
    have HG := Lib.hid hg
    have HO := Lib.hid ho
    clear hg ho HO0 G1
    by_cases hlt : i < rs.length
    · obtain ⟨x, hx⟩ : ∃ x, rs[i]? = some x := ⟨rs[i], List.getElem?_eq_getElem hlt⟩
      obtain ⟨g, hoa⟩ : ∃ g, oa = some ⟨g, 0, none⟩ := by
        obtain ⟨uv, k1, -⟩ := HO.out
        rcases k1.2 with ⟨e, h0⟩ | ⟨g, cap, cur, e, -⟩
        · omega
        · simp only [Value.slice.injEq, true_and] at e
          exact ⟨g, e.1⟩
      subst hoa
      obtain ⟨b, off, cx, uu, hv, -, hle, hcm, c0, he, c1⟩ := (HS.out.grown HG.out).at hx
      simp only [Value.slice.injEq, true_and] at hv
      obtain ⟨rfl, rfl⟩ := hv
      unfold maxLen at hcm
      obtain ⟨xa, xc, rfl⟩ := he.shape
      have hxl := HZ.out x (List.mem_of_getElem? hx)
      have GA := Lib.hid (only_alloc (only_refl wr none) (.cells #[.slice xa x.d.length xc, .int .u64 (x.n : Nat)] 80))
      have HDC := Lib.hid (dclone_any x.d _ _ (.slice xa x.d.length xc) hxl ((he.grown GA.out).es))
      have HXI := Lib.hid hx
      have hgf : ∀ w2, wr.grownBy w2 none → w2.frozen? ⟨g, i * 2, none⟩ = false ∧ ∃ u, w2.cell? ⟨g, i * 2, none⟩ = some u := fun w2 g2 => by
        obtain ⟨uv, k1, -⟩ := HO.out.grown g2
        refine ⟨k1.frozenAt _, ?_⟩
        have := World.ownsRow.cells k1 (g := g) rfl _ _ (flatR_get rs uv i x hx).1
        rw [show (⟨g, 0, none⟩ : Addr).add (i * 2) = ⟨g, 0 + i * 2, none⟩ from Addr.add_lit .., Nat.zero_add] at this
        exact ⟨_, this⟩
      have HGF := Lib.hid hgf
      have hsa : (wr.alloc (.cells #[.slice xa x.d.length xc, .int .u64 (x.n : Nat)] 80)).heap.size = wr.heap.size + 1 := by simp
      clear hx he hgf
      go_wp2_with fail
      refine HDC.out.mono ?_
      rintro e w2 ⟨v2, rfl, o2, g2⟩
      have G2 := Lib.hid (only_trans GA.out g2)
      obtain ⟨f2, u2, z2⟩ := HGF.out w2 G2.out
      have HST := Lib.hid (HO.out.stored HXI.out G2.out (o2.mono (by rw [hsa]; omega)))
      obtain ⟨ya, yc, rfl⟩ := o2.es.shape
      clear o2 g2 hsa
      go_wp2_with fail
      go_roundw
      case rel => exact ⟨i + 1, by omega, by go_num, only_setCell (only_trans HG.out G2.out) (.inr HST.out.2) _, HST.out.1⟩
      case measure => simp [intOf]; omega
    · have hie : i = rs.length := by omega
      subst hie
      go_wp2_with fail
      go_ret
      exact ⟨_, rfl, HO.out, HG.out⟩

end Go.Proofs.YtbebdaglkjhbjaaGreatDoor.ti

/-
  The developers' tables: the library's sort by the keys; Of.
-/
namespace Go.Proofs.YtbebdaglkjhbjaaGreatDoor.ti
open Go.RowKit Go.Lib Go.Sort Go.Proofs.YtbebdaglkjhbjaaGreatDoor.vi Go.Proofs.YtbebdaglkjhbjaaGreatDoor.um Go.Proofs.YtbebdaglkjhbjaaGreatDoor.wm Go.Proofs.YtbebdaglkjhbjaaGreatDoor.tr Go.Proofs.YtbebdaglkjhbjaaGreatDoor.em Go.Proofs.YtbebdaglkjhbjaaGreatDoor.rm Go.Proofs.YtbebdaglkjhbjaaGreatDoor.law11 Go.Proofs.YtbebdaglkjhbjaaGreatDoor.dd Go.Proofs.YtbebdaglkjhbjaaGreatDoor.tm Go.Proofs.YtbebdaglkjhbjaaGreatDoor.tf
set_option linter.unusedVariables false
set_option linter.unusedSimpArgs false

theorem gd_exact {w w' : World} (h : Gd w w') : ∃ q os, w' = grow (w.drewN q) os := by
  obtain ⟨⟨h1, h2, h3, h4, h5⟩, h6⟩ := h
  refine ⟨w'.drawn - w.drawn, w'.heap.extract w.heap.size w'.heap.size, ?_⟩
  have hh : w'.heap = w.heap ++ w'.heap.extract w.heap.size w'.heap.size := by
    apply Array.ext_getElem?
    intro i
    by_cases hi : i < w.heap.size
    · rw [Array.getElem?_append_left hi]; exact h5 i hi (by simp)
    · rw [Array.getElem?_append_right (by omega), Array.getElem?_extract]
      by_cases h2 : i < w'.heap.size
      · rw [if_pos (by omega), show w.heap.size + (i - w.heap.size) = i by omega]
      · rw [if_neg (by omega), Array.getElem?_eq_none (by omega)]
  cases w; cases w'
  simp only [grow, World.drewN, World.mk.injEq] at *
  exact ⟨hh, h2, by omega, h1, h3⟩

/-- A row as it stands in the cells, whose entries are read in a world. -/
structure RV (S : Nat → Prop) (w : World) where
  v : Value
  r : Rw
  es : EsS S w v r.d
  fit : Fit r
instance (S : Nat → Prop) (w : World) : Inhabited (RV S w) := ⟨⟨.slice none 0 0, ⟨[], 0⟩, ⟨none, 0, rfl, .inl rfl⟩, by
  refine ⟨by simp, by simp, ?_, by simp⟩
  have : (enc 0).length ≤ 10 := enc_len_ten (by omega)
  unfold keyD
  rw [List.length_append]
  simp
  omega⟩⟩
def encR {S : Nat → Prop} {w : World} (x : RV S w) : List Value := [x.v, .int .u64 (x.r.n : Nat)]
def cmpR {S : Nat → Prop} {w : World} (x y : RV S w) : Int := cmpB (txt (keyD x.r.d)) (txt (keyD y.r.d))
theorem ltOf_R {S : Nat → Prop} {w : World} (x y : RV S w) : ltOf cmpR x y = lt (key x.r) (key y.r) := by
  have h := cmp_neg (keyD x.r.d) (keyD y.r.d)
  unfold ltOf cmpR key
  cases hl : lt (keyD x.r.d) (keyD y.r.d) with
  | true => exact decide_eq_true (h.2 hl)
  | false => exact decide_eq_false fun e => by rw [h.1 e] at hl; cases hl
theorem swoR {S : Nat → Prop} {w : World} : SWO (ltOf (cmpR (S := S) (w := w))) where
  irrefl x := by rw [ltOf_R]; unfold lt; exact less_irrefl _
  trans x y z h1 h2 := by
    rw [ltOf_R] at *
    exact less_trans _ _ _ h1 h2
  ntrans x y z h1 h2 := by
    rw [ltOf_R] at *
    cases h3 : lt (key x.r) (key z.r) with
    | false => rfl
    | true =>
      rcases less_tri (key x.r) (key y.r) with h | h | h
      · unfold lt at h1; rw [h] at h1; cases h1
      · rw [h] at h3; rw [h3] at h2; cases h2
      · have := less_trans _ _ _ h h3
        unfold lt at h2; rw [this] at h2; cases h2

set_option maxHeartbeats 1000000 in
set_option maxRecDepth 100000 in
theorem of1_raw (xd yd : List Ent) (xn yn : Nat) (B : Nat) (w : World) (xv yv : Value) (hx : xd.length ≤ 1000) (hy : yd.length ≤ 1000) (hz : ∀ x ∈ xd, x.key.size ≤ 1000 ∧ x.value.size ≤ 1000) (hz2 : ∀ x ∈ yd, x.key.size ≤ 1000 ∧ x.value.size ≤ 1000)
    (hk : (keyD xd).length ≤ 1000000) (hk2 : (keyD yd).length ≤ 1000000) (h : Es B w xv xd) (h2 : Es B w yv yd) :
    Calls Tryz.prog 118 #[.agg #[xv, .int .u64 (xn : Nat)], .agg #[yv, .int .u64 (yn : Nat)]] w fun e w' => e = .returned (.int .i64 (cmpB (txt (keyD xd)) (txt (keyD yd)))) ∧ Gd w w' := by
  have HC := Lib.hid (fun w2 (g2 : w.grownBy w2 none) => dcmpD_any xd yd B w2 xv yv hx hy hz hz2 hk hk2 (h.grown g2) (h2.grown g2))
  obtain ⟨xa, xc, rfl⟩ := h.shape
  obtain ⟨ya, yc, rfl⟩ := h2.shape
  have hgd : Gd w ((w.alloc (.cells #[.slice xa xd.length xc, .int .u64 (xn : Nat)] 80)).alloc (.cells #[.slice ya yd.length yc, .int .u64 (yn : Nat)] 80)) := ((Gd.refl w).alloc _).alloc _
  have HGD := Lib.hid hgd
  clear h h2 hz hz2 hgd
  generalize cmpB (txt (keyD xd)) (txt (keyD yd)) = c at *
  go_enter Tryz.func118, Tryz.ntmps118
  go_wp2_with fail
  refine (HC.out _ HGD.out.ok).mono ?_
  rintro e w1 ⟨rfl, g1⟩
  have G1 := Lib.hid (HGD.out.trans g1)
  clear g1
  go_wp2_with fail
  go_ret
  exact ⟨rfl, G1.out⟩

theorem of1_any {S T : Nat → Prop} {w0 : World} (x y : RV S w0) (w : World) (g : Chg T w0 w) (hT : ∀ k, S k → ¬ T k) :
    Calls Tryz.prog 118 #[.agg (encR x).toArray, .agg (encR y).toArray] w fun e w' => e = .returned (.int .i64 (cmpR x y)) ∧ ∃ q os', w' = grow (w.drewN q) os' :=
  (of1_raw x.r.d y.r.d x.r.n y.r.n _ w x.v y.v x.fit.1 y.fit.1 x.fit.2.1 y.fit.2.1 x.fit.2.2.1 y.fit.2.2.1 (x.es.kept g hT).es (y.es.kept g hT).es).mono fun _ _ ⟨h1, h2⟩ => ⟨h1, gd_exact h2⟩

theorem sort_chg {S : Nat → Prop} {w0 : World} (w : World) (g m : Nat) (d : Array (RV S w0)) (os : Array Obj) : w.grownBy (sortWorldK encR 2 w g 0 m d os) (some g) := by
  refine ⟨rfl, rfl, rfl, ?_, fun k hk hne => ?_⟩
  · simp [sortWorldK, putRowK, putRow, mapBlock, Sort.ahead, grow]
  · have hkg : g ≠ k := fun e => hne (by rw [e])
    simp only [sortWorldK, putRowK, putRow, mapBlock, Sort.ahead, grow]
    rw [Array.getElem?_append_left (by simpa using hk), Array.getElem?_modify, if_neg hkg]

theorem isAggR (w : World) : (isAgg 80).run Tryz.prog w = .ok true w := by kernel_rfl
theorem sizeOfR (w : World) : (Go.sizeOf 80).run Tryz.prog w = .ok 2 w := by kernel_rfl

set_option maxHeartbeats 1000000 in
theorem sortR_any (ts : List Rw) (S : Nat → Prop) (w : World) (base : Nat) (v : Value) (hs : ts.length ≤ 1000000) (hf : ∀ r ∈ ts, Fit r) (h : OwnR 80 base S w v ts) :
    Calls Tryz.prog 117 #[v, .func (.func 118) #[] #[]] w fun e w' =>
      e = .returned (.tuple #[]) ∧ ∃ o : List Rw, o.Perm ts ∧ o.Pairwise (fun a b => ¬ ltR b a) ∧ Rs (fun k => S k ∨ v.ownBlock = some k) w' v o ∧ w.grownBy w' v.ownBlock := by
  have hrd := h.rd
  obtain ⟨uv, hall, hes, hSl, hSv⟩ := h
  rcases hall.2 with ⟨rfl, h0⟩ | ⟨g, cap, cur, rfl, hb, hg, hnc, hcm, hcs, htake⟩
  · have : ts = [] := List.length_eq_zero_iff.1 h0
    subst this
    have HP := Lib.hid (fun lim W => AnyF.pdqsortCmpFunc_none Tryz.pdqT none 0 lim (.func (.func 118) #[] #[]) W)
    have HP2 : Hid (∀ (lim : Int) (W : World), Calls Tryz.prog 127 #[.slice none 0 0, .int .i64 0, .int .i64 0, .int .i64 lim, .func (.func 118) #[] #[]] W fun e w' => e = .returned (.tuple #[]) ∧ w' = W) := fun lim W => HP.out lim W
    have HL := Lib.hid (fun w => blen_any 0 (by omega) w)
    clear HP hall hes hSl hSv h0
    go_enter Tryz.func117, Tryz.ntmps117
    go_wp2_with fail
    refine (HL.out _).mono ?_
    rintro e w1 ⟨rfl, rfl⟩
    go_wp2_with fail
    refine (HP2.out _ _).mono ?_
    rintro e w1 ⟨rfl, rfl⟩
    go_wp2_with fail
    go_end0
    exact ⟨rfl, [], List.Perm.refl _, List.Pairwise.nil, hrd, only_refl _ _⟩
  · obtain ⟨rl, hrl⟩ : ∃ rl : List (RV S w), rl.length = ts.length ∧ ∀ (i : Nat) (x : RV S w), rl[i]? = some x → ts[i]? = some x.r ∧ x.v = uv i := by
      refine ⟨List.ofFn (fun i : Fin ts.length => (⟨uv i, ts[i], hes i ts[i] (List.getElem?_eq_getElem i.2), hf _ (List.getElem_mem i.2)⟩ : RV S w)), by simp, fun i x hx => ?_⟩
      rw [List.getElem?_ofFn] at hx
      split at hx
      · rename_i hi
        cases hx
        exact ⟨List.getElem?_eq_getElem hi, rfl⟩
      · cases hx
    obtain ⟨hrl1, hrl2⟩ := hrl
    have hmap : rl.map (fun x => x.r) = ts := by
      apply List.ext_getElem?
      intro i
      rw [List.getElem?_map]
      by_cases hi : i < rl.length
      · rw [List.getElem?_eq_getElem hi]
        exact ((hrl2 i rl[i] (List.getElem?_eq_getElem hi)).1).symm
      · rw [List.getElem?_eq_none (by omega), List.getElem?_eq_none (by omega)]; rfl
    have hcell : ∀ (i c : Nat) (x : RV S w), rl[i]? = some x → c < 2 → w.cell? ⟨g, 0 + (i * 2 + c), none⟩ = some (encR x)[c]! := fun i c x hx hc => by
      obtain ⟨e1, e2⟩ := hrl2 i x hx
      obtain ⟨f0, f1⟩ := flatR_get ts uv i x.r e1
      have hq := fun j u (hj : (flatR ts uv)[j]? = some u) => World.ownsRow.cells hall (g := g) rfl j u hj
      have ha : ∀ j, (⟨g, 0, none⟩ : Addr).add j = ⟨g, 0 + j, none⟩ := fun j => Addr.add_lit ..
      simp only [ha] at hq
      rcases (show c = 0 ∨ c = 1 by omega) with rfl | rfl
      · have := hq _ _ f0
        rw [← e2] at this
        exact this
      · exact hq _ _ f1
    have hH : HoldsK encR 2 w g 0 rl.toArray := fun j hj => by
      rw [size_flatK] at hj
      rw [get_flatK _ _ _ _ hj]
      have hj5 : j / 2 < rl.length := by simp at hj; omega
      have hx : rl[j / 2]? = some rl.toArray[j / 2]! := by
        rw [getElem!_pos rl.toArray (j / 2) (by simpa using hj5)]
        simp
      have := hcell (j / 2) (j % 2) _ hx (by omega)
      rw [show j / 2 * 2 + j % 2 = j by omega] at this
      exact ⟨this, by simp [World.frozen?, hg]⟩
    have hlt : g < w.heap.size := (Array.getElem?_eq_some_iff.1 hg).1
    have eg : ∀ args w, (callFunc 118 args).run Tryz.prog w = .ok (.enter 118 args) w := enters_of Tryz.func118 (by kernel_rfl) rfl
    have hsz : rl.toArray.size = ts.length := by simp [hrl1]
    have hST : ∀ k, S k → ¬ (k = g) := fun k hk e => hSv g rfl (e ▸ hk)
    have hcl : CmpLays Tryz.prog 118 #[] encR 2 cmpR g 0 rl.toArray.size w := fun m os dk _ x y =>
      of1_any (T := fun k => k = g) x y _ (Chg.of_grown (sort_chg w g m dk os) (fun k e => .inl (by cases e; rfl))) hST
    have hlim : Lib.bitLen rl.toArray.size < 4611686018427387904 := Nat.lt_of_le_of_lt (Lib.bitLen_le rl.toArray.size 62 (by omega) (by rw [hsz]; omega)) (by omega)
    have hp := AnyQ.pdqsortCmpFunc_all Tryz.pdqT 2 isAggR sizeOfR encR cmpR 118 #[] swoR g 0 cap rl.toArray w eg hcl ⟨fun _ => rfl, fun x v hv => by simp [encR] at hv; rcases hv with rfl | rfl; exact x.es.one; rfl, hH, hlt⟩ (rl.toArray.size + 1) 0 rl.toArray.size (Lib.bitLen rl.toArray.size) rl.toArray w (by omega) rfl (SWK.start hH) (Nat.zero_le _) (Nat.le_refl _) (by rw [hsz]; omega) hlim (Or.inl rfl)
    change Calls Tryz.prog 127 _ _ _ at hp
    rw [hsz] at hp
    have hcon : Calls Tryz.prog 117 #[.slice (some ⟨g, 0, none⟩) ts.length cap, .func (.func 118) #[] #[]] w fun e w' =>
        e = .returned (.tuple #[]) ∧ ∃ d' n os, PermIn 0 ts.length rl.toArray d' ∧ SortedIn (ltOf cmpR) 0 ts.length d' ∧ w' = sortWorldK encR 2 w g 0 n d' os := by
      have HP := Lib.hid hp
      have HS := Lib.hid (pdq_sorts (ltOf cmpR) swoR rl.toArray 0 ts.length (Lib.bitLen ts.length) true true (Nat.zero_le _) (by rw [hsz]; exact Nat.le_refl _) (Or.inl rfl))
      have HL := Lib.hid (fun w => blen_any ts.length (by omega) w)
      have hmod : (ts.length : Int) % 18446744073709551616 = ts.length := by omega
      clear hp hlim hsz eg hlt hH hcell hall hcl hST hmap hrl2 hrl1 hrd hes hSl hSv htake hcs hcm hnc hg hb
      generalize Lib.bitLen ts.length = lim at *
      go_enter Tryz.func117, Tryz.ntmps117
      go_wp2_with fail
      refine (HL.out _).mono ?_
      rintro e w1 ⟨rfl, rfl⟩
      go_wp2_with fail
      refine HP.out.mono ?_
      rintro e w1 ⟨rfl, n, os, rfl⟩
      go_wp2_with fail
      go_end0
      exact ⟨rfl, _, n, os, HS.out.1, HS.out.2, rfl⟩
    refine hcon.mono ?_
    rintro e w' ⟨rfl, d', m, os, ⟨hp1, -, hp3⟩, hsd, rfl⟩
    have hd's : d'.size = ts.length := by rw [hp1, hsz]
    have hperm : d'.toList.Perm rl := by
      have e1 : d'.extract 0 ts.length = d' := by rw [← hd's]; simp
      have e2 : rl.toArray.extract 0 ts.length = rl.toArray := by rw [← hsz]; simp
      rw [e1, e2] at hp3
      simpa using hp3
    have hgw := sort_chg w g m d' os
    have hH2 : HoldsK encR 2 (sortWorldK encR 2 w g 0 m d' os) g 0 d' :=
      holdsK_grow encR 2 _ os g 0 d' (by simp [putRowK, putRow, mapBlock, Sort.ahead]; exact hlt) (holdsK_putRowK encR 2 (Sort.ahead w m) g 0 rl.toArray d' (holdsK_ahead encR 2 w m g 0 _ hH) hp1)
    have hget : ∀ (i : Nat) (x : RV S w), d'.toList[i]? = some x → d'[i]! = x ∧ i < d'.size := fun i x hx => by
      have hi := (List.getElem?_eq_some_iff.1 hx).1
      refine ⟨?_, by simpa using hi⟩
      rw [getElem!_pos d' i (by simpa using hi)]
      obtain ⟨_, he⟩ := List.getElem?_eq_some_iff.1 hx
      simpa using he
    have hpw : d'.toList.Pairwise (fun a b => ¬ ltR b.r a.r) := by
      rw [List.pairwise_iff_getElem]
      intro i j hi hj hij
      have := hsd i j (Nat.zero_le _) hij (by rw [← hd's]; simpa using hj)
      rw [ltOf_R] at this
      rw [getElem!_pos d' i (by simpa using hi), getElem!_pos d' j (by simpa using hj)] at this
      simp only [Array.getElem_toList]
      intro e
      unfold ltR at e
      rw [this] at e; cases e
    refine ⟨rfl, d'.toList.map (fun x => x.r), by rw [← hmap]; exact hperm.map _, by rw [List.pairwise_map]; exact hpw, ?_, hgw⟩
    have hln : (d'.toList.map (fun x => x.r)).length = ts.length := by simp [hd's]
    refine ⟨some ⟨g, 0, none⟩, cap, by rw [hln], .inr ⟨g, 0, rfl, .inr rfl, by omega, hcm, fun i r hr => ?_⟩⟩
    rw [List.getElem?_map] at hr
    cases hx : d'.toList[i]? with
    | none => rw [hx] at hr; cases hr
    | some x =>
      rw [hx] at hr
      cases hr
      obtain ⟨e1, e2⟩ := hget i x hx
      have hc := fun c (hc : c < 2) => (HoldsK.cell hH2 e2 hc).1
      rw [e1] at hc
      exact ⟨x.v, hc 0 (by omega), (x.es.kept (T := fun k => k = g) (Chg.of_grown hgw (fun k e => .inl (by cases e; rfl))) hST).mono (fun k _ hk => .inl hk), hc 1 (by omega)⟩

end Go.Proofs.YtbebdaglkjhbjaaGreatDoor.ti

/-
  The developers' tables: Of.
-/
namespace Go.Proofs.YtbebdaglkjhbjaaGreatDoor.ti
open Go.RowKit Go.Lib Go.Proofs.YtbebdaglkjhbjaaGreatDoor.vi Go.Proofs.YtbebdaglkjhbjaaGreatDoor.um Go.Proofs.YtbebdaglkjhbjaaGreatDoor.wm Go.Proofs.YtbebdaglkjhbjaaGreatDoor.tr Go.Proofs.YtbebdaglkjhbjaaGreatDoor.em Go.Proofs.YtbebdaglkjhbjaaGreatDoor.rm Go.Proofs.YtbebdaglkjhbjaaGreatDoor.law11 Go.Proofs.YtbebdaglkjhbjaaGreatDoor.dd Go.Proofs.YtbebdaglkjhbjaaGreatDoor.tm Go.Proofs.YtbebdaglkjhbjaaGreatDoor.tf
set_option linter.unusedVariables false
set_option linter.unusedSimpArgs false

theorem firstT_next {rs : List Rw} {i : Nat} {x : Rw} (h : rs[i]? = some x) : firstT (rs.drop i) = if rowE x ≠ 0 then rowE x else firstT (rs.drop (i + 1)) := by
  obtain ⟨hi, rfl⟩ := List.getElem?_eq_some_iff.1 h
  rw [List.drop_eq_getElem_cons hi]; rfl
theorem walk_sorted : ∀ (l : List Rw) (p : Option Rw), (p.toList ++ l).Pairwise (fun a b => ¬ ltR b a) → (∀ x ∈ l, rowE x = 0) → walkT p l = 0 ∨ walkT p l = 14
  | [], p, _, _ => by simp [walkT]
  | x :: r, p, h, hc => by
    have hx := hc x (by simp)
    unfold walkT
    rw [if_neg (by simp [hx])]
    have hr : ∀ y ∈ r, rowE y = 0 := fun y hy => hc y (by simp [hy])
    cases p with
    | none =>
      rw [if_neg (by simp [behT])]
      exact walk_sorted r (some x) (by simpa using h) hr
    | some a =>
      have h2 : (a :: x :: r).Pairwise (fun a b => ¬ ltR b a) := by simpa using h
      obtain ⟨h3, h4⟩ := List.pairwise_cons.1 h2
      have hax := h3 x (by simp)
      have hb : behT (some a) x = 14 ∨ behT (some a) x = 0 := by
        show (if key a = key x then 14 else if lt (key a) (key x) = true then 0 else 7) = 14 ∨ (if key a = key x then 14 else if lt (key a) (key x) = true then 0 else 7) = 0
        by_cases hk : key a = key x
        · left; rw [if_pos hk]
        · right
          rw [if_neg hk]
          rcases less_tri (key a) (key x) with k | k | k
          · rw [if_pos (show lt (key a) (key x) = true from k)]
          · exact absurd k hk
          · exact absurd k hax
      rcases hb with hb | hb
      · rw [if_pos (by simp [hb])]; exact .inr hb
      · rw [if_neg (by simp [hb])]
        exact walk_sorted r (some x) (by simpa using h4) hr
theorem check_sorted {o : List Rw} (hl : ¬ 256 < o.length) (h : o.Pairwise (fun a b => ¬ ltR b a)) (hc : ∀ x ∈ o, rowE x = 0) : checkT o = 0 ∨ checkT o = 14 := by
  unfold checkT
  rw [if_neg hl]
  exact walk_sorted o none (by simpa using h) hc

theorem ess_tight {ty : TypeId} {base : Nat} {w : World} {v : Value} {xs : List Ent} (h : OwnE ty base w v xs) : EsS (fun k => v.ownBlock = some k) w v xs := by
  obtain ⟨a, cap, e, h5⟩ := h.es
  refine ⟨a, cap, e, ?_⟩
  rcases h5 with h5 | ⟨b, off, h1, h2, h3, h4, h6⟩
  · exact .inl h5
  · exact .inr ⟨b, off, h1, by rw [e, h1]; rfl, h3, h4, h6⟩
theorem OwnC.ownR {base : Nat} {w : World} {v : Value} {rs : List Rw} (h : OwnC base rs.length w v rs) : ∃ T : Nat → Prop, OwnR 80 base T w v rs ∧ ∀ k, T k → base ≤ k := by
  obtain ⟨uv, h1, h2, h3⟩ := h
  have hlt : ∀ j, j < rs.length → ∀ k, (uv j).ownBlock = some k → base ≤ k ∧ k < w.heap.size ∧ v.ownBlock ≠ some k := fun j hj k hk => by
    obtain ⟨m1, m2⟩ := h2 j rs[j] (List.getElem?_eq_getElem hj) hj
    exact ⟨(m1.lt k hk).1, (m1.lt k hk).2, m2 k hk⟩
  refine ⟨fun k => ∃ j, j < rs.length ∧ (uv j).ownBlock = some k, ⟨uv, h1, fun j r hr => ?_, fun k ⟨j, hj, hk⟩ => (hlt j hj k hk).2.1, fun k hv ⟨j, hj, hk⟩ => (hlt j hj k hk).2.2 hv⟩, fun k ⟨j, hj, hk⟩ => (hlt j hj k hk).1⟩
  have hj := (List.getElem?_eq_some_iff.1 hr).1
  exact (ess_tight (h2 j r hr hj).1).mono fun k _ hk => ⟨j, hj, hk⟩

set_option maxHeartbeats 4000000 in
set_option maxRecDepth 100000 in
theorem of_any (rs : List Rw) (S : Nat → Prop) (w : World) (v : Value) (hl : rs.length ≤ maxLen) (hz : ∀ r ∈ rs, Rok r) (hT : tb.Tab w) (h : Rs S w v rs) :
    Calls Tryz.prog 95 #[v] w fun e w' => ∃ v', e = .returned (.tuple #[v', .int .i64 ((ofT rs).2 : Nat)]) ∧ Rs (fun k => k < w'.heap.size) w' v' (ofT rs).1 ∧ w.grownBy w' none := by
  have HS := Lib.hid h
  have HZ := Lib.hid hz
  have HTB := Lib.hid (fun w1 (g : w.grownBy w1 none) => tb.kept hT g)
  have HC := Lib.hid (fun w => tcount_any rs.length hl w)
  have HD : Hid (ofT rs = if 256 < rs.length then ([], 13) else if firstT rs ≠ 0 then ([], firstT rs) else match insAllT [] rs with
    | none => ([], 14)
    | some o => (o, 0)) := rfl
  have HOS := Lib.hid (fun (o : List Rw) (hb : ¬ 256 < rs.length) (hf : firstT rs = 0) (hp : o.Perm rs) (hs : o.Pairwise fun a b => ¬ ltR b a) => ofT_sorted hb hf hp hs)
  generalize hR : ofT rs = R at *
  unfold maxLen at hl
  obtain ⟨a, cap, rfl⟩ := h.shape
  clear h hz hT hR
  by_cases hbig : 256 < rs.length
  · have HR := Lib.hid (HD.out.trans (if_pos hbig))
    rw [if_pos hbig] at HC
    go_enter Tryz.func95, Tryz.ntmps95
    go_wp2_with fail
    refine (HC.out _).mono ?_
    rintro e w0 ⟨rfl, rfl⟩
    go_wp2_with fail
    go_ret2
    rw [HR.out]
    exact ⟨_, rfl, Rs.nil _ _ _ _, only_refl _ _⟩
  · have HR := Lib.hid (HD.out.trans (if_neg hbig))
    rw [if_neg hbig] at HC
    go_enter Tryz.func95, Tryz.ntmps95
    go_wp2_with fail
    refine (HC.out _).mono ?_
    rintro e w0 ⟨rfl, rfl⟩
    go_wp2_with fail
    go_loopw [18] (fun q wr => ∃ i : Nat, i ≤ rs.length ∧ q = .int .i64 i ∧ w.grownBy wr none ∧ firstT rs = firstT (rs.drop i)) (fun q _ => rs.length - (intOf q).toNat)
    case atStart => exact ⟨0, Nat.zero_le _, rfl, only_refl _ _, rfl⟩
    case round =>
      obtain ⟨i, hi, rfl, hg, hw⟩ := hrel
      have HG := Lib.hid hg
      have HW := Lib.hid hw
      clear hg hw HD
      by_cases hlt : i < rs.length
      · obtain ⟨x, hx⟩ : ∃ x, rs[i]? = some x := ⟨rs[i], List.getElem?_eq_getElem hlt⟩
        obtain ⟨b, off, cx, uu, hv, -, hle, hcm, c0, he, c1⟩ := (HS.out.grown HG.out).at hx
        simp only [Value.slice.injEq, true_and] at hv
        obtain ⟨rfl, rfl⟩ := hv
        unfold maxLen at hcm
        have hxr := HZ.out x (List.mem_of_getElem? hx)
        have HWN := Lib.hid (HW.out.trans (firstT_next hx))
        obtain ⟨xa, xc, rfl⟩ := he.shape
        have GA := only_alloc (only_refl wr none) (.cells #[.slice xa x.d.length xc, .int .u64 (x.n : Nat)] 80)
        have G1 := Lib.hid (only_trans HG.out GA)
        have HCK := Lib.hid (fun w1 (g : w.grownBy w1 none) h => rchk_any x S w1 (.slice xa x.d.length xc) hxr (HTB.out w1 g) h)
        have HEA := Lib.hid (he.grown GA)
        have hrl := rowE_lt x
        clear hx GA HW he hxr
        by_cases h1 : rowE x = 0
        · rw [h1] at HCK HWN
          have HWN := Lib.hid (HWN.out.trans (if_neg (by simp)))
          clear hrl h1
          go_wp2_with fail
          refine (HCK.out _ G1.out HEA.out).mono ?_
          rintro e w1 ⟨rfl, g1⟩
          have G2 := Lib.hid (only_trans G1.out g1)
          clear g1
          go_wp2_with fail
          go_roundw
          case rel => exact ⟨i + 1, by omega, by go_num, G2.out, HWN.out⟩
          case measure => simp [intOf]; omega
        · have HWN := Lib.hid (HWN.out.trans (if_pos h1))
          have HRF := Lib.hid (HR.out.trans (if_pos (by rw [HWN.out]; exact h1)))
          rw [HWN.out] at HRF
          generalize rowE x = q at *
          have hqb : ((q : Int) != 0) = true := by rw [bne_iff_ne]; omega
          go_wp2_with fail
          refine (HCK.out _ G1.out HEA.out).mono ?_
          rintro e w1 ⟨rfl, g1⟩
          have G2 := Lib.hid (only_trans G1.out g1)
          clear g1
          go_wp2_with fail
          go_ret2
          rw [HRF.out]
          exact ⟨_, rfl, Rs.nil _ _ _ _, G2.out⟩
      · have hie : i = rs.length := by omega
        subst hie
        rw [List.drop_length] at HW
        have hf0 : firstT rs = 0 := HW.out
        have hok := (firstT_zero rs).1 hf0
        have HFIT : Hid (∀ r ∈ rs, Fit r) := fun r hr => fit_ok (hok r hr) (HZ.out r hr).2.2
        have HOK := Lib.hid hok
        have HO2 := Lib.hid (fun o hp hs => HOS.out o hbig hf0 hp hs)
        have HSW := Lib.hid (HS.out.grown HG.out)
        have HCL := Lib.hid (tclone_any rs S wr _ (by omega) (fun r hr => (HZ.out r hr).1) HSW.out)
        have hl2 : rs.length ≤ 256 := by omega
        clear hf0 hok HOS HR HW
        go_wp2_with fail
        refine HCL.out.mono ?_
        rintro e w1 ⟨v1, rfl, oc1, g1⟩
        obtain ⟨T, ot1, hT1⟩ := oc1.ownR
        have HOT := Lib.hid ot1
        have HT1 := Lib.hid hT1
        have G1 := Lib.hid (only_trans HG.out g1)
        have hwz : w.heap.size ≤ wr.heap.size := HG.out.size
        have HSO := Lib.hid (sortR_any rs T w1 _ v1 (by omega) HFIT.out ot1)
        have HLT := Lib.hid ot1.lt
        obtain ⟨oa, oc, rfl⟩ := oc1.shape
        clear oc1 ot1 hT1 g1
        go_wp2_with fail
        refine HSO.out.mono ?_
        rintro e w2 ⟨rfl, o, hp, hs, ors, g2⟩
        have hln := hp.length_eq
        have HP := Lib.hid hp
        have HRS := Lib.hid ors
        have G2 := Lib.hid (only_row G1.out g2 (fun k e => by have := (HLT.out k e).1; omega))
        have HCK := Lib.hid (fun w3 (g : w2.grownBy w3 none) => tcheck_any o _ w3 _ (by unfold maxLen; omega) (fun r hr => HZ.out r (hp.mem_iff.1 hr)) (HTB.out _ (only_trans G2.out g)) (ors.grown g))
        have hcs := check_sorted (o := o) (by omega) hs (fun r hr => HOK.out r (hp.mem_iff.1 hr))
        have HRO := Lib.hid (HO2.out o hp hs)
        rw [← hln]
        clear hp hs ors g2 HO2
        go_wp2_with fail
        refine (HCK.out _ (only_refl _ _)).mono ?_
        rintro e w3 ⟨rfl, g3⟩
        have G3 := Lib.hid (only_trans G2.out g3)
        have HR3 := Lib.hid ((HRS.out.grown g3).low)
        clear g3
        by_cases hc0 : checkT o = 0
        · have HRF := Lib.hid (HRO.out.trans (if_pos hc0))
          rw [hc0]
          go_wp2_with fail
          go_ret2
          rw [HRF.out]
          exact ⟨_, rfl, HR3.out, G3.out⟩
        · have hc14 : checkT o = 14 := hcs.resolve_left hc0
          have HRF := Lib.hid (HRO.out.trans (if_neg hc0))
          rw [hc14]
          go_wp2_with fail
          go_ret2
          rw [HRF.out]
          exact ⟨_, rfl, Rs.nil _ _ _ _, G3.out⟩

end Go.Proofs.YtbebdaglkjhbjaaGreatDoor.ti

/-
  The laws of layer 13: awake.
-/
namespace Go.Proofs.YtbebdaglkjhbjaaGreatDoor.law13
open Go.RowKit Go.Proofs.YtbebdaglkjhbjaaGreatDoor.vi Go.Proofs.YtbebdaglkjhbjaaGreatDoor.um Go.Proofs.YtbebdaglkjhbjaaGreatDoor.wm Go.Proofs.YtbebdaglkjhbjaaGreatDoor.tr Go.Proofs.YtbebdaglkjhbjaaGreatDoor.em Go.Proofs.YtbebdaglkjhbjaaGreatDoor.rm Go.Proofs.YtbebdaglkjhbjaaGreatDoor.law11 Go.Proofs.YtbebdaglkjhbjaaGreatDoor.dd Go.Proofs.YtbebdaglkjhbjaaGreatDoor.dr Go.Proofs.YtbebdaglkjhbjaaGreatDoor.tm Go.Proofs.YtbebdaglkjhbjaaGreatDoor.tf Go.Proofs.YtbebdaglkjhbjaaGreatDoor.ti
set_option linter.unusedVariables false
set_option linter.unusedSimpArgs false

def eA : Ent := ⟨⟨#[97]⟩, ⟨#[]⟩⟩
def eB : Ent := ⟨⟨#[98]⟩, ⟨#[]⟩⟩
def rA : Rw := ⟨[eA], 1⟩
def rB : Rw := ⟨[eB], 2⟩
theorem ex_chk : checkE eA = 0 ∧ checkE eB = 0 := by
  have h0 : goodR [] = true := good_abc _ (by intro x hx; simp at hx)
  constructor
  · unfold checkE eA checkN; simp only; rw [law12.good_two _ (by decide), h0]; simp [ByteArray.size]
  · unfold checkE eB checkN; simp only; rw [law12.good_two _ (by decide), h0]; simp [ByteArray.size]
theorem ex_row : rowE rA = 0 ∧ rowE rB = 0 := by
  have h : ∀ x : Ent, checkE x = 0 → checkD [x] = 0 := fun x hx => by simp [checkD, countE, walkE, hx, behindO]
  constructor
  · simp [rowE, rA, h eA ex_chk.1]
  · simp [rowE, rB, h eB ex_chk.2]
theorem ex_keyA : key rA = [1, 1, 97, 0] := by
  have e1 : enc 1 = [1] := enc_small (by omega)
  have e0 : enc 0 = [0] := enc_small (by omega)
  have p1 : putE eA = [1, 97, 0] := by
    show (enc 1 ++ [97]) ++ (enc 0 ++ []) = _
    rw [e1, e0]; rfl
  show enc 1 ++ ([putE eA] : List (List UInt8)).flatten = _
  rw [e1, p1]; rfl
theorem ex_keyB : key rB = [1, 1, 98, 0] := by
  have e1 : enc 1 = [1] := enc_small (by omega)
  have e0 : enc 0 = [0] := enc_small (by omega)
  have p1 : putE eB = [1, 98, 0] := by
    show (enc 1 ++ [98]) ++ (enc 0 ++ []) = _
    rw [e1, e0]; rfl
  show enc 1 ++ ([putE eB] : List (List UInt8)).flatten = _
  rw [e1, p1]; rfl
theorem ex_ofT : ofT [rB, rA] = ([rA, rB], 0) := by
  have hf : firstT [rB, rA] = 0 := by simp [firstT, ex_row.1, ex_row.2]
  have h1 : lt (key rB) (key rA) = false := by rw [ex_keyA, ex_keyB]; decide
  have h2 : ¬ key rB = key rA := by rw [ex_keyA, ex_keyB]; decide
  unfold ofT
  rw [if_neg (by simp), if_neg (by simp [hf])]
  simp [insAllT, insT, h1, h2]
theorem rok_ex : ∀ r ∈ [rB, rA], Rok r := by
  intro r hr
  simp at hr
  rcases hr with rfl | rfl <;> exact ⟨by simp [rA, rB], by intro x hx; simp [rA, rB] at hx; subst hx; simp [eA, eB, ByteArray.size, maxLen], by simp [rA, rB]⟩

theorem law12_es_one (w : World) (x : Ent) (ty : TypeId) : EsS (fun _ => True) (w.alloc (.cells #[.string x.key, .string x.value] ty)) (.slice (some ⟨w.heap.size, 0, none⟩) 1 1) [x] :=
  (EsS.of (es_one w x ty)).mono fun _ _ _ => trivial
theorem rs_two (w : World) (u v : Value) (x y : Rw) (ty : TypeId) (h : EsS (fun _ => True) w u x.d) (h2 : EsS (fun _ => True) w v y.d) :
    Rs (fun _ => True) (w.alloc (.cells #[u, .int .u64 (x.n : Nat), v, .int .u64 (y.n : Nat)] ty)) (.slice (some ⟨w.heap.size, 0, none⟩) 2 2) [x, y] :=
  ⟨_, _, rfl, .inr ⟨w.heap.size, 0, rfl, trivial, by simp, by unfold maxLen; omega, fun i z hz => by
    have hi : i = 0 ∨ i = 1 := by have := (List.getElem?_eq_some_iff.1 hz).1; simp at this; omega
    rcases hi with rfl | rfl
    · simp at hz; subst hz
      exact ⟨u, by rw [cell_new]; rfl, h.grown (only_alloc (only_refl _ _) _), by rw [cell_new]; rfl⟩
    · simp at hz; subst hz
      exact ⟨v, by rw [cell_new]; rfl, h2.grown (only_alloc (only_refl _ _) _), by rw [cell_new]; rfl⟩⟩⟩

set_option maxHeartbeats 2000000 in
set_option maxRecDepth 100000 in
theorem awake_any (w : World) (hT : tb.Tab w) :
    Calls Tryz.prog 119 #[] w fun e w' => e = .returned (.bool true) ∧ w.grownBy w' none := by
  have HT := Lib.hid (fun w' (g : w.grownBy w' none) => law12.Awake_any w' (tb.kept hT g))
  have hA := law12_es_one w eA 115
  have hB := law12_es_one (w.alloc (.cells #[.string eA.key, .string eA.value] 115)) eB 115
  have g1 := only_alloc (only_refl w none) (.cells #[.string eA.key, .string eA.value] 115)
  have g2 := only_alloc (only_refl (w.alloc (.cells #[.string eA.key, .string eA.value] 115)) none) (.cells #[.string eB.key, .string eB.value] 115)
  have hz1 : (w.alloc (.cells #[.string eA.key, .string eA.value] 115)).heap.size = w.heap.size + 1 := by simp
  rw [hz1] at hB
  have hA2 := hA.grown g2
  have hz2 : ((w.alloc (.cells #[.string eA.key, .string eA.value] 115)).alloc (.cells #[.string eB.key, .string eB.value] 115)).heap.size = w.heap.size + 1 + 1 := by simp
  have hrs := rs_two _ _ _ rB rA 80 hB hA2
  rw [hz2] at hrs
  have HG := Lib.hid (only_alloc (only_trans g1 g2) (.cells #[.slice (some ⟨w.heap.size + 1, 0, none⟩) 1 1, .int .u64 (rB.n : Nat), .slice (some ⟨w.heap.size, 0, none⟩) 1 1, .int .u64 (rA.n : Nat)] 80))
  have HO := Lib.hid (of_any [rB, rA] _ _ _ (by simp [maxLen]) rok_ex (tb.kept hT HG.out) hrs)
  rw [ex_ofT] at HO
  clear hA hB g1 g2 hz1 hA2 hz2 hrs hT
  go_enter Tryz.func119, Tryz.ntmps119
  go_wp2_with fail
  refine HO.out.mono ?_
  rintro e w1 ⟨v1, rfl, r1, g1⟩
  have G1 := Lib.hid (only_trans HG.out g1)
  obtain ⟨b, off, cap, u0, hv, -, hc1, hc2, k0, -, k1⟩ := r1.at (i := 0) (r := rA) rfl
  obtain ⟨b', off', cap', u1, hv', -, -, -, m0, -, m1⟩ := r1.at (i := 1) (r := rB) rfl
  have hv3 := hv.symm.trans hv'
  simp only [Value.slice.injEq, Option.some.injEq, Addr.mk.injEq, and_true, true_and] at hv3
  obtain ⟨⟨rfl, rfl⟩, rfl⟩ := hv3
  subst hv
  have HK1 := Lib.hid (fun w2 (g : w1.grownBy w2 none) => (⟨(Chg.of_none (S := fun _ => False) g).cell k1 (fun e => e), (Chg.of_none (S := fun _ => False) g).cell m1 (fun e => e)⟩ : w2.cell? ⟨b, off + 0 * 2 + 1, none⟩ = some (.int .u64 1) ∧ w2.cell? ⟨b, off + 1 * 2 + 1, none⟩ = some (.int .u64 2)))
  clear r1 g1 hv' k0 k1 m0 m1
  unfold maxLen at hc2
  have hc1 : 2 ≤ cap := hc1
  go_wp2_with fail
  refine (HT.out _ G1.out).mono ?_
  rintro e w2 ⟨rfl, g2⟩
  have G2 := Lib.hid (only_trans G1.out g2)
  obtain ⟨c0, c1⟩ := HK1.out w2 g2
  simp only [Nat.zero_mul, Nat.add_zero, Nat.one_mul] at c0 c1
  clear g2
  go_wp2_with fail
  go_ret
  exact ⟨rfl, G2.out⟩

theorem Awake_any (w : World) (hT : tb.Tab w) :
    Calls Tryz.prog 98 #[] w fun e w' => e = .returned (.bool true) ∧ w.grownBy w' none := by
  go_enter Tryz.func98, Tryz.ntmps98
  go_wp2_with (go_at_call 119; refine (awake_any _ hT).mono ?_; rintro e w' ⟨rfl, g⟩)
  go_ret
  exact ⟨rfl, g⟩

end Go.Proofs.YtbebdaglkjhbjaaGreatDoor.law13
