/-
  Go's slices.DeleteFunc at rows.
-/
import Derived.Test.YtbebdaglkjhbjaaGreatDoorDlf
namespace Go.Proofs.YtbebdaglkjhbjaaGreatDoor.da
open Go.RowKit Go.Proofs.YtbebdaglkjhbjaaGreatDoor.vi Go.Proofs.YtbebdaglkjhbjaaGreatDoor.um Go.Proofs.YtbebdaglkjhbjaaGreatDoor.wm Go.Proofs.YtbebdaglkjhbjaaGreatDoor.tr Go.Proofs.YtbebdaglkjhbjaaGreatDoor.em Go.Proofs.YtbebdaglkjhbjaaGreatDoor.rm Go.Proofs.YtbebdaglkjhbjaaGreatDoor.law11 Go.Proofs.YtbebdaglkjhbjaaGreatDoor.dd Go.Proofs.YtbebdaglkjhbjaaGreatDoor.dr Go.Proofs.YtbebdaglkjhbjaaGreatDoor.tm Go.Proofs.YtbebdaglkjhbjaaGreatDoor.tf Go.Proofs.YtbebdaglkjhbjaaGreatDoor.dl Go.Proofs.YtbebdaglkjhbjaaGreatDoor.dz Go.Proofs.YtbebdaglkjhbjaaGreatDoor.ti
set_option linter.unusedVariables false
set_option linter.unusedSimpArgs false

theorem sizeTR (w : World) : (Go.sizeOf 80).run Tryz.prog w = .ok 2 w := by kernel_rfl

set_option maxHeartbeats 4000000 in
set_option maxRecDepth 100000 in
theorem del_any (w : World) (g n cap B : Nat) (T : Nat → Prop) (rs : List Rw) (p : Rw → Bool) (hn : n ≤ 1000) (h0 : 0 < n) (hl : rs.length = n) (hcap : n ≤ cap) (hcm : cap ≤ maxLen) (hR : RowW g n T w (fun j => rs.getD j default)) (hF : ∀ r ∈ rs, Fit r)
    (hC : ∀ w1, w.grownBy w1 (some g) → ∀ u x, Fit x → EsS T w1 u x.d → Calls Tryz.prog 63 #[.agg #[u, .int .u64 (x.n : Nat)], .pointer (some ⟨B, 0, none⟩)] w1 fun e w' => e = .returned (.bool (p x)) ∧ w1.grownBy w' none) :
    Calls Tryz.prog 65 #[.slice (some ⟨g, 0, none⟩) n cap, .func (.func 63) #[] #[.pointer (some ⟨B, 0, none⟩)]] w fun e w' => ∃ m c', e = .returned (.slice (some ⟨g, 0, none⟩) m cap) ∧ m = (kept p rs n).length ∧ RowW g m T w' c' ∧ (∀ (j : Nat) (x : Rw), (kept p rs n)[j]? = some x → c' j = x) ∧ w.grownBy w' (some g) := by
  have hgd : ∀ (j : Nat) (x : Rw), rs[j]? = some x → rs.getD j default = x := fun j x h => by rw [List.getD_eq_getElem?_getD, h]; rfl
  have hFj : ∀ j, j < n → Fit (rs.getD j default) := fun j hj => by
    have : rs[j]? = some rs[j] := List.getElem?_eq_getElem (by omega)
    rw [hgd j _ this]
    exact hF _ (List.mem_of_getElem? this)
  have HI := Lib.hid (index_any w g n cap B T (fun j => rs.getD j default) p hn hcap hcm hR hFj (fun w1 gg => hC w1 (only_of_none gg _)))
  have HR := Lib.hid hR
  have HF := Lib.hid hF
  have HC := Lib.hid hC
  have HGD := Lib.hid hgd
  unfold maxLen at hcm
  clear hR hF hC hFj hgd
  go_enter Tryz.func65, Tryz.ntmps65
  go_wp2_with fail
  refine HI.out.mono ?_
  rintro e w1 ⟨q, rfl, g1, hq⟩
  have G1 := Lib.hid g1
  clear g1
  rcases hq with ⟨rfl, hall⟩ | ⟨i0, rfl, hi0, hpi, hbe⟩
  · have HK : Hid (kept p rs n = rs) := by
      show (rs.take n).filter (fun r => !p r) = rs
      rw [List.take_of_length_le (by omega)]
      refine List.filter_eq_self.2 fun r hr => ?_
      obtain ⟨j, hj⟩ := List.getElem?_of_mem hr
      have := hall j (by have := (List.getElem?_eq_some_iff.1 hj).1; omega)
      simp only [HGD.out j r hj] at this
      simp [this]
    go_wp2_with fail
    go_ret
    exact ⟨n, _, rfl, by rw [HK.out, hl], HR.out.grown G1.out, fun j x hx => by rw [HK.out] at hx; exact HGD.out j x hx, only_of_none G1.out _⟩
  · have HK0 : Hid (kept p rs (i0 + 1) = rs.take i0) := by
      have hx : rs[i0]? = some (rs.getD i0 default) := by
        have : rs[i0]? = some rs[i0] := List.getElem?_eq_getElem (by omega)
        rw [HGD.out i0 _ this]; exact this
      show kept p rs (i0 + 1) = _
      rw [kept_next hx, if_pos hpi, List.append_nil]
      unfold kept
      refine List.filter_eq_self.2 fun r hr => ?_
      obtain ⟨j, hj⟩ := List.getElem?_of_mem hr
      have hji : j < i0 := by have := (List.getElem?_eq_some_iff.1 hj).1; rw [List.length_take] at this; omega
      rw [List.getElem?_take, if_pos hji] at hj
      have := hbe j hji
      simp only [HGD.out j r hj] at this
      simp [this]
    clear hpi hbe
    have hne1 : ((i0 : Int) == -1) = false := by rw [beq_eq_false_iff_ne]; omega
    go_wp2_with fail
    go_loopw [5, 6] (fun vi vj wr => ∃ (j : Nat) (c : Nat → Rw), vi = .int .i64 (kept p rs j).length ∧ vj = .int .i64 j ∧ j ≤ n ∧ (kept p rs j).length < j ∧ RowW g n T wr c ∧ (∀ (k : Nat) (x : Rw), (kept p rs j)[k]? = some x → c k = x) ∧ (∀ k, j ≤ k → c k = rs.getD k default) ∧ w.grownBy wr (some g)) (fun _ vj _ => n - (intOf vj).toNat)
    case atStart =>
      refine ⟨i0 + 1, _, ?_, by go_num, by omega, ?_, HR.out.grown G1.out, fun k x hk => ?_, fun k _ => rfl, only_of_none G1.out _⟩
      · rw [HK0.out, List.length_take]; congr 2; omega
      · rw [HK0.out, List.length_take]; omega
      · rw [HK0.out] at hk
        have hki : k < i0 := by have := (List.getElem?_eq_some_iff.1 hk).1; rw [List.length_take] at this; omega
        rw [List.getElem?_take, if_pos hki] at hk
        exact HGD.out k x hk
    case round =>
      obtain ⟨j, c, rfl, rfl, hj, hkl, hRw, hck, hcr, hg⟩ := hrel
      have HG := Lib.hid hg
      have HRW := Lib.hid hRw
      have HCK := Lib.hid hck
      have HCR := Lib.hid hcr
      clear hg hRw hck hcr HK0 HI G1
      by_cases hlt : j < n
      · obtain ⟨x, hx⟩ : ∃ x, rs[j]? = some x := ⟨rs[j], List.getElem?_eq_getElem (by omega)⟩
        have hcj : c j = x := (HCR.out j (Nat.le_refl _)).trans (HGD.out j x hx)
        have hfx := HF.out x (List.mem_of_getElem? hx)
        have HKN := Lib.hid (kept_next (p := p) hx)
        obtain ⟨u, a1, a2, a3, -, -⟩ := HRW.out.2.2 j hlt
        rw [hcj] at a2 a3
        have HES := Lib.hid a2
        obtain ⟨ua, uc, rfl⟩ := a2.shape
        have GA := Lib.hid (only_alloc (only_refl wr none) (.cells #[.slice ua x.d.length uc, .int .u64 (x.n : Nat)] 80))
        have F0 := Lib.hid (heap_alloc_new wr (.cells #[.slice ua x.d.length uc, .int .u64 (x.n : Nat)] 80))
        have HCX := Lib.hid (HC.out _ (only_trans HG.out (only_of_none GA.out _)) _ x hfx (HES.out.grown GA.out))
        have hglt : g < wr.heap.size := HRW.out.1
        clear a2 hx hcj hfx
        cases hpx : p x with
        | true =>
          have HK1 := Lib.hid (HKN.out.trans ((congrArg (fun z => kept p rs j ++ z) (if_pos hpx)).trans (List.append_nil _)))
          rw [hpx] at HCX
          clear hpx HKN
          generalize hKL : kept p rs j = L at *
          clear hKL
          go_wp2_with fail
          refine HCX.out.mono ?_
          rintro e w2 ⟨rfl, g2⟩
          have G2 := Lib.hid (only_trans GA.out g2)
          clear g2
          go_wp2_with fail
          go_roundw
          case rel =>
            refine ⟨j + 1, c, by rw [HK1.out], by go_num, by omega, by rw [HK1.out]; omega, HRW.out.grown G2.out, fun k y hk => ?_, fun k hk => HCR.out k (by omega), only_trans HG.out (only_of_none G2.out _)⟩
            rw [HK1.out] at hk
            exact HCK.out k y hk
          case measure => simp [intOf]; omega
        | false =>
          have HK1 := Lib.hid (HKN.out.trans (congrArg (fun z => kept p rs j ++ z) (if_neg (by simp [hpx]))))
          rw [hpx] at HCX
          clear hpx HKN
          generalize hKL : kept p rs j = L at *
          clear hKL
          generalize hN : L.length = N at *
          have HN := Lib.hid hN
          clear hN
          go_wp2_with fail
          refine HCX.out.mono ?_
          rintro e w2 ⟨rfl, g2⟩
          have G2 := Lib.hid (only_trans GA.out g2)
          have F2 := Lib.hid (heap_kept F0.out g2 (by simp))
          obtain ⟨d0, d1, -⟩ := cells2 F2.out
          have HR2 := Lib.hid (HRW.out.grown G2.out)
          obtain ⟨ui, b1, -, b3, b4, b5⟩ := HR2.out.2.2 N (by omega)
          have HST := Lib.hid (HR2.out.set (i := N) (x := x) (by omega) (HES.out.grown G2.out))
          clear g2
          go_wp2_with fail
          go_roundw
          case rel =>
            refine ⟨j + 1, _, ?_, by go_num, by omega, by rw [HK1.out, List.length_append, HN.out]; simp; omega, HST.out, fun k y hk => ?_, fun k hk => ?_, only_setCell (p := ⟨g, N * 2 + 1, none⟩) (only_setCell (p := ⟨g, N * 2, none⟩) (only_trans HG.out (only_of_none G2.out _)) (.inl rfl) _) (.inl rfl) _⟩
            · rw [HK1.out, List.length_append, HN.out]
              go_num
            · rw [HK1.out] at hk
              by_cases hkn : k = N
              · subst hkn
                rw [List.getElem?_append_right (by have := HN.out; omega), HN.out] at hk
                simp at hk
                simp [hk]
              · simp only [if_neg hkn]
                have hkl : k < L.length := by
                  have := (List.getElem?_eq_some_iff.1 hk).1
                  simp at this; have := HN.out; omega
                rw [List.getElem?_append_left hkl] at hk
                exact HCK.out k y hk
            · have hkn : ¬ k = N := by omega
              simp only [if_neg hkn]
              exact HCR.out k (by omega)
          case measure => simp [intOf]; omega
      · have hje : j = n := by omega
        subst hje
        generalize hN : (kept p rs j).length = N at *
        have HN := Lib.hid hN
        have ht := dr.run_tail (P := Tryz.prog) (a := some ⟨g, 0, none⟩) (n := j) (cap := cap) 32 80 Tryz.underlying32 sizeTR (.inr ⟨g, 0, rfl⟩) N (by omega) (by omega)
        obtain ⟨qq, ht1, ht2⟩ := ht
        obtain rfl : qq = some ⟨g, 0 + N * 2, none⟩ := ht2 g 0 rfl hkl
        simp only [Nat.zero_add] at ht1
        have hh := fun w9 => dr.run_head (P := Tryz.prog) (a := some ⟨g, 0, none⟩) (n := j) (cap := cap) 32 80 Tryz.underlying32 sizeTR (.inr ⟨g, 0, rfl⟩) N (by omega) w9
        have hcell : ∀ i, i < (j - N) * 2 → (wr.cell? ⟨g, N * 2 + i, none⟩).isSome = true ∧ wr.frozen? ⟨g, N * 2 + i, none⟩ = false := fun i hi => by
          obtain ⟨u, a1, -, a3, a4, a5⟩ := HRW.out.2.2 (N + i / 2) (by omega)
          rcases (show i % 2 = 0 ∨ i % 2 = 1 by omega) with hm | hm
          · rw [show N * 2 + i = (N + i / 2) * 2 by omega]
            exact ⟨by rw [a1]; rfl, a4⟩
          · rw [show N * 2 + i = (N + i / 2) * 2 + 1 by omega]
            exact ⟨by rw [a3]; rfl, a5⟩
        have hcl : ∀ ty, (Builtin.clear_ #[32] ty #[.slice (some ⟨g, N * 2, none⟩) (j - N) (cap - N)]).run Tryz.prog wr = .ok (.tuple #[]) (wr.setCells g (N * 2) (Builtin.zeroCells #[.slice none 0 0, .int .u64 0] (j - N)).toList) := fun ty => by
          exact run_clear_rows wr _ _ ty (.slice none 0 0) (.int .u64 0) Tryz.underlying32 zeroTR rfl rfl rfl g (N * 2) (j - N) (cap - N) (by omega) (fun i hi => (hcell i hi).1) (fun i hi => (hcell i hi).2)
        have HCUT := Lib.hid (HRW.out.cut (m := N) (by omega) (Builtin.zeroCells #[.slice none 0 0, .int .u64 0] (j - N)).toList)
        clear hN hcell ht2
        generalize wr.setCells g (N * 2) (Builtin.zeroCells #[.slice none 0 0, .int .u64 0] (j - N)).toList = wz at *
        go_wp2_with fail
        go_ret
        exact ⟨N, c, rfl, HN.out.symm, HCUT.out.1, HCK.out, only_trans HG.out HCUT.out.2⟩

end Go.Proofs.YtbebdaglkjhbjaaGreatDoor.da
