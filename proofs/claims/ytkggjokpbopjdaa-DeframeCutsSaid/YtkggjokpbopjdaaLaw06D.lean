/-
  DeframeCuts, for whatever keeps the contracts of a deframer: the walk.
-/
import Derived.Test.YtkggjokpbopjdaaLaw06C
namespace Go.Proofs.Ytkggjokpbopjdaa.law06
open Go.RowKit Go.Proofs.Ytkggjokpbopjdaa.fm Go.Proofs.Ytkggjokpbopjdaa.vi Go.Proofs.Ytkggjokpbopjdaa.crc
set_option linter.unusedVariables false
set_option linter.unusedSimpArgs false

theorem Try.infoInt : (Try.prog.info? 3).map (fun i => (i.zero, i.size, i.bytes)) = some (some (.int .i64 0), 1, 8) := by kernel_rfl

set_option maxHeartbeats 1000000 in
set_option maxRecDepth 100000 in
theorem cuts_long (I : Iface) (s : ByteArray) (hs : s.size ≤ maxLen) (ca : Option Addr) (len cap : Nat) (hlen : len ≤ maxLen) (hl : 4000 < s.size ∨ 60 < len) (W : World) :
    Calls Try.prog 7 #[.string s, .slice ca len cap] W fun e w' => e = .returned (.bool true) ∧ W.grownBy w' none := by
  unfold maxLen at hs hlen
  rcases (show 4000 < s.size ∨ (¬ 4000 < s.size ∧ 60 < len) by omega) with h | ⟨h, h'⟩ <;> clear hl
  all_goals
    go_enter Try.func7, Try.ntmps7
    go_wp2_with fail
    refine (awake_any I _).mono ?_
    rintro e w0 ⟨rfl, g0⟩
    go_wp2_with fail
    go_ret
    exact ⟨rfl, g0⟩

set_option maxHeartbeats 8000000 in
set_option maxRecDepth 100000 in
theorem cuts_main (I : Iface) (s : ByteArray) (hs : s.size ≤ 4000) (ca : Option Addr) (len cap : Nat) (hlen : len ≤ 60) (K : Nat → Nat) (hK : ∀ i, K i < 65536) (W : World)
    (hcut : len = 0 ∨ ∃ cb off, ca = some ⟨cb, off, none⟩ ∧ len ≤ cap ∧ cap ≤ maxLen ∧ ∀ i, i < len → W.cell? ⟨cb, off + i, none⟩ = some (.int .u16 (K i : Nat))) :
    Calls Try.prog 7 #[.string s, .slice ca len cap] W fun e w' => e = .returned (.bool true) ∧ W.grownBy w' none := by
  obtain ⟨iI, hi, hz0, hz1, hz2⟩ := info_parts Try.infoInt
  have HC := Lib.hid hcut
  have HK := Lib.hid hK
  clear hcut hK
  have hLl : s.data.toList.length = s.size := by simp
  have hE := Lib.hid (ext_list s)
  have Hnew := Lib.hid I.new
  have Hfeed := Lib.hid I.feed
  have Herr := Lib.hid I.err
  have Hwaits := Lib.hid I.waits
  have Hcount := Lib.hid I.count
  have hob := (ofR_bounds _ s.data.toList (Nat.le_refl _))
  have hs1 : ((s.size : Int) + 1) ≠ 0 := by omega
  go_enter Try.func7, Try.ntmps7
  go_wp2_with fail
  refine (awake_any I _).mono ?_
  rintro e w0 ⟨rfl, g0⟩
  go_wp2_with fail
  refine (Hnew.out _).mono ?_
  rintro e w1 ⟨a, Sa, rfl, da, hSa, g1⟩
  have A1 := Lib.hid da
  have HSA := Lib.hid (fun k hk => And.intro (hSa k hk) (Iface.lt da k hk))
  clear da hSa
  go_wp2_with fail
  refine (Hnew.out _).mono ?_
  rintro e w2 ⟨b, Sb, rfl, db, hSb, g2⟩
  have A2 := Lib.hid (Iface.none A1.out g2)
  have B2 := Lib.hid db
  have HSB := Lib.hid (fun k hk => And.intro (hSb k hk) (Iface.lt db k hk))
  clear db hSb
  go_wp2_with fail
  refine (Hnew.out _).mono ?_
  rintro e w3 ⟨c, Sc, rfl, dc, hSc, g3⟩
  have A3 := Lib.hid (Iface.none A2.out g3)
  have B3 := Lib.hid (Iface.none B2.out g3)
  have C3 := Lib.hid dc
  have HSC := Lib.hid (fun k hk => And.intro (hSc k hk) (Iface.lt dc k hk))
  have G3 := Lib.hid (only_trans (only_trans (only_trans g0 g1) g2) g3)
  have hsz0 := g0.size
  have hsz1 := g1.size
  have hsz2 := g2.size
  have hsz3 : w2.heap.size ≤ w3.heap.size := g3.size
  clear dc hSc g0 g1 g2 g3
  go_wp2_with fail
  have hf := Hfeed.out _ a Sa [] _ _ _ _ (Iface.none A3.out (only_alloc (only_refl w3 none) (.cells #[.string s] 9))) (Strs.one s (by unfold maxLen; omega) w3) (fun bb off e h => by have := (HSA.out bb h).2; simp at e <;> omega) (by decide) (by rw [cat_one, hLl]; simp; omega)
  rw [cat_one, List.nil_append, ofR_nil, List.length_nil, List.drop_zero] at hf
  refine hf.mono ?_
  clear hf
  rintro e w4 ⟨vw, Sa4, rfl, d4, hS4, g4, o4⟩
  have g4' : Chg Sa w3 w4 := (Chg.alloc (Chg.refl Sa w3) (.cells #[.string s] 9)).trans' g4
  have hsz4 := g4'.size
  have HSA4 : Hid (∀ k, Sa4 k → Sa k ∨ w3.heap.size ≤ k) := fun k hk => by
    rcases hS4 k hk with h | h
    · exact .inl h
    · simp at h; exact .inr (by omega)
  have hst : St I W w4.heap.size a b c Sa4 Sb Sc s.data.toList [] [] (w3.alloc (.cells #[.string s] 9)).heap.size vw (ofR s.data.toList).1 0 (.slice none 0 0) [] w4 :=
    ⟨d4, I.kept B3.out g4' (fun k h1 h2 => by have := HSB.out k h1; have := HSA.out k h2; omega), I.kept C3.out g4' (fun k h1 h2 => by have := HSC.out k h1; have := HSA.out k h2; omega), o4, Own.nil _ _, Chg.none_new G3.out g4' (fun k h => by have := HSA.out k h; omega), Nat.le_refl _,
     fun k h => ⟨Iface.lt d4 k h, by rcases HSA4.out k h with h | h; { have := HSA.out k h; omega }; omega, fun h' => by have := HSB.out k h'; rcases HSA4.out k h with h | h; { have := HSA.out k h; omega }; omega, fun h' => by have := HSC.out k h'; rcases HSA4.out k h with h | h; { have := HSA.out k h; omega }; omega⟩,
     fun k h => by have h1 := HSB.out k h; exact ⟨by omega, by omega, fun h' => by have := HSC.out k h'; omega⟩,
     fun k h => by have := HSC.out k h; omega, fun k e => (Own.lt o4 k e).2, fun k e => (by cases e), by omega⟩
  have S4 := Lib.hid hst
  have HCB : Hid (∀ k, Sc k → k < w4.heap.size) := fun k h => by have := HSC.out k h; omega
  clear d4 g4 g4' o4 hst hS4
  generalize (w3.alloc (.cells #[.string s] 9)).heap.size = B0 at *
  have hvw := S4.out.hv
  go_wp2_with fail
  go_loopw [9, 38] (fun v q wr => ∃ (i : Nat) (zs : List Int), i ≤ len ∧ q = .int .i64 i ∧ zs.length = i ∧ (∀ z ∈ zs, 0 ≤ z ∧ z ≤ (s.size : Int)) ∧ OwnI w4.heap.size wr v zs ∧ St I W w4.heap.size a b c Sa4 Sb Sc s.data.toList [] [] B0 vw (ofR s.data.toList).1 0 (.slice none 0 0) [] wr) (fun _ q _ => len - (intOf q).toNat)
  case atStart => exact ⟨0, [], by omega, rfl, rfl, by simp, World.ownsRow_nil _ _ _ _, S4.out⟩
  case round =>
    obtain ⟨i, zs, hi', rfl, hzl, hzr, ho, hst⟩ := hrel
    have HO := Lib.hid ho
    have HS := Lib.hid hst
    have HZ := Lib.hid hzr
    have hBr := hst.hB
    clear ho hst hzr
    by_cases hlt : i < len
    · obtain ⟨cb, off, rfl, h5, h6, h7⟩ := HC.out.resolve_left (by omega)
      have c1 := HS.out.gw.cell (h7 i hlt) (by simp)
      unfold maxLen at h6
      obtain ⟨z, hz, hzs⟩ : ∃ z : Nat, (K i : Int) % ((s.size : Int) + 1) = (z : Int) ∧ z ≤ s.size := ⟨K i % (s.size + 1), by simp, by have := Nat.mod_lt (K i) (show 0 < s.size + 1 by omega); omega⟩
      have hki := HK.out i
      clear h7
      generalize K i = k at *
      go_wp2_with (at_builtin; refine wpList_append_own _ rfl (.tmp 42) (.tmp 49) 55 rfl w4.heap.size 3 iI (.int .i64 0) 1 8 Try.underlying55 hi hz0 hz1 hz2 rfl (by decide) _ zs.length (zs.map (Value.int .i64)) rfl (World.ownsRow.alloc HO.out _) ⟨wr.heap.size, 0, none⟩ 1 1 [.int .i64 (z : Int)] rfl rfl ?c1 ?c2 ?c3 ?c4 ?c5 ?_)
      case c1 =>
        intro j u hj
        match j, hj with
        | 0, hj => simp at hj; subst hj; simp [Addr.add]
      case c2 => intro u hu; simp at hu; subst hu; rfl
      case c3 => unfold maxLen; omega
      case c4 => omega
      case c5 => simp; omega
      intro v' w5 hown5 hg5 _
      have HO5 := Lib.hid hown5
      have HS5 := Lib.hid ((HS.out.none (only_alloc (only_refl _ none) (.cells #[.int .i64 (z : Int)] 3))).stepI (World.ownsRow.alloc HO.out _) (Nat.le_refl _) hg5)
      clear hown5 hg5
      go_wp2_with fail
      go_roundw
      case rel =>
        refine ⟨i + 1, zs ++ [(z : Int)], by omega, by go_num, by simp [hzl], ?_, ?_, HS5.out⟩
        · intro y hy
          rcases List.mem_append.1 hy with h | h
          · exact HZ.out y h
          · simp at h; subst h; omega
        · unfold OwnI; rw [List.length_append, hzl]; simpa using HO5.out
      case measure => simp [intOf]; omega
    · have hie : i = len := by omega
      subst hie
      have hsort := sort_any HO.out (by omega)
      go_wp2_with fail
      refine hsort.mono ?_
      rintro e w5 ⟨rfl, ho5, g5⟩
      clear hsort
      have HO5 := Lib.hid ho5
      have HS5 := Lib.hid (HS.out.stepI HO.out (Nat.le_refl _) g5)
      have hB5 := HS5.out.hB
      clear ho5 g5
      have hsl : (zs.mergeSort fun x y => decide (x ≤ y)).length = i := by rw [List.length_mergeSort, hzl]
      have hsg := sorted_get zs (s.size : Int) (fun z hz => (HZ.out z hz).2)
      have hsm : ∀ z ∈ (zs.mergeSort fun x y => decide (x ≤ y)), 0 ≤ z ∧ z ≤ (s.size : Int) := fun z hz => HZ.out z (List.mem_mergeSort.1 hz)
      generalize (zs.mergeSort fun x y => decide (x ≤ y)) = ys at *
      rw [hzl] at hsg
      have HSG := Lib.hid hsg
      have HSM := Lib.hid hsm
      clear hsg hsm HZ HO HS hBr HK HC
      go_wp2_with (at_builtin; refine wpList_append_own _ rfl (.tmp 54) (.tmp 57) 55 rfl w4.heap.size 3 iI (.int .i64 0) 1 8 Try.underlying55 hi hz0 hz1 hz2 rfl (by decide) _ ys.length (ys.map (Value.int .i64)) rfl (World.ownsRow.alloc HO5.out _) ⟨w5.heap.size, 0, none⟩ 1 1 [.int .i64 (s.size : Int)] rfl rfl ?c1 ?c2 ?c3 ?c4 ?c5 ?_)
      case c1 =>
        intro j u hj
        match j, hj with
        | 0, hj => simp at hj; subst hj; simp [Addr.add]
      case c2 => intro u hu; simp at hu; subst hu; rfl
      case c3 => unfold maxLen; omega
      case c4 => omega
      case c5 => simp; omega
      intro v6 w6 hown6 hg6 _
      have HS6 := Lib.hid ((HS5.out.none (only_alloc (only_refl _ none) (.cells #[.int .i64 (s.size : Int)] 3))).stepI (World.ownsRow.alloc HO5.out _) (Nat.le_refl _) hg6)
      try rw [hsl] at hown6
      rw [show ys.map (Value.int .i64) ++ [Value.int .i64 (s.size : Int)] = (ys ++ [(s.size : Int)]).map (Value.int .i64) by simp] at hown6
      obtain ⟨g6, cap6, rfl, hg60, hg61⟩ := World.ownsRow.form hown6 (by omega)
      have hrow : ∀ j, j ≤ i → w6.cell? ⟨g6, j, none⟩ = some (.int .i64 ((ys ++ [(s.size : Int)]).getD j 0)) := fun j hj => OwnI.cell (base := w4.heap.size) hown6 (by simp [hsl]) j (by omega)
      have hF : ∀ j, j ≤ i → 0 ≤ (ys ++ [(s.size : Int)]).getD j 0 ∧ (ys ++ [(s.size : Int)]).getD j 0 ≤ (s.size : Int) := fun j hj => by
        rw [List.getD_eq_getElem?_getD, List.getElem?_eq_getElem (by simp [hsl]; omega)]
        have := List.getElem_mem (l := ys ++ [(s.size : Int)]) (n := j) (by simp [hsl]; omega)
        rcases List.mem_append.1 this with h | h
        · exact HSM.out _ h
        · simp at h; simp [h]
      have hFn : (ys ++ [(s.size : Int)]).getD i 0 = (s.size : Int) := by
        rw [List.getD_eq_getElem?_getD, List.getElem?_append_right (by omega), hsl]; simp
      obtain ⟨F, hFF⟩ : ∃ F : Nat → Nat, ∀ j, j ≤ i → (ys ++ [(s.size : Int)]).getD j 0 = (F j : Int) := ⟨fun j => ((ys ++ [(s.size : Int)]).getD j 0).toNat, fun j hj => by have := hF j hj; simp only; omega⟩
      have hFm : ∀ j k, j ≤ k → k ≤ i → F j ≤ F k := fun j k hjk hk => by
        have := HSG.out j k hjk hk
        rw [hFF j (by omega), hFF k hk] at this
        omega
      have hFl : F i = s.size := by have := hFF i (Nat.le_refl _); rw [hFn] at this; omega
      have HROW := Lib.hid (fun j (hj : j ≤ i) => by rw [← hFF j hj]; exact hrow j hj : ∀ j, j ≤ i → w6.cell? ⟨g6, j, none⟩ = some (.int .i64 (F j : Nat)))
      have HFM := Lib.hid hFm
      have HST := Lib.hid (HS6.out.up HS6.out.hB (Nat.le_refl _))
      have hbase := HS6.out.hB
      clear hown6 hg6 hrow hF hFn hFF hFm HSG HSM HO5 HS5 HS6 hsl
      go_wp2_with fail
      go_loopw [12, 13, 60] (fun v q cc wr => ∃ (j fr : Nat) (ps : List (List UInt8)), j ≤ i + 1 ∧ cc = .int .i64 j ∧ q = .int .i64 fr ∧ ps.length = j ∧ ps.flatten = s.data.toList.take fr ∧ fr ≤ s.size ∧ (∀ k, j ≤ k → k ≤ i → fr ≤ F k) ∧ (j = i + 1 → fr = s.size) ∧ (∀ x ∈ ps, x.length ≤ 4000) ∧ Own w6.heap.size wr v ps ∧ St I W w6.heap.size a b c Sa4 Sb Sc s.data.toList [] [] B0 vw (ofR s.data.toList).1 0 (.slice none 0 0) [] wr ∧ (∀ k, k ≤ i → wr.cell? ⟨g6, k, none⟩ = some (.int .i64 (F k : Nat)))) (fun _ _ cc _ => i + 1 - (intOf cc).toNat)
      case atStart => exact ⟨0, 0, [], by omega, rfl, rfl, rfl, by simp, by omega, fun k _ _ => by omega, fun h => by omega, by simp, Own.nil _ _, HST.out, HROW.out⟩
      case round =>
        obtain ⟨j, fr, ps, hj, rfl, rfl, hpl, hpf, hfr, hfm, hfe, hpx, ho, hst, hrow⟩ := hrel
        have HO := Lib.hid ho
        have HS := Lib.hid hst
        have HR := Lib.hid hrow
        have HPF := Lib.hid hpf
        have HPX := Lib.hid hpx
        have HM := Lib.hid hfm
        have HFE := Lib.hid hfe
        have hBr := hst.hB
        clear ho hst hrow hpf hpx hfm hfe
        by_cases hlt2 : j < i + 1
        · have c1 := HR.out j (by omega)
          have hk1 := HM.out j (Nat.le_refl _) (by omega)
          have hk2 : F j ≤ s.size := by rw [← hFl]; exact HFM.out j i (by omega) (Nat.le_refl _)
          have HMn := Lib.hid (fun k (h1 : j + 1 ≤ k) (h2 : k ≤ i) => HFM.out j k (by omega) h2)
          have HFEn : Hid (j + 1 = i + 1 → F j = s.size) := fun h => by rw [← hFl]; congr 1; omega
          generalize F j = k at *
          obtain ⟨x, hx⟩ : ∃ x, x = (s.data.toList.drop fr).take (k - fr) := ⟨_, rfl⟩
          have hxs : s.extract fr k = str x := by rw [hx, ← hE.out, str_of]
          have hxl : x.length ≤ 4000 := by rw [hx]; simp; omega
          have hone := Own.one wr x
          have HX := Lib.hid hx
          clear hx
          rw [← hxs] at hone
          have HONE := Lib.hid hone
          have HXS := Lib.hid hxs
          clear hone hxs
          go_wp2_with (at_builtin; refine wpList_append_texts rfl (.tmp 64) (.tmp 69) rfl w6.heap.size _ ps rfl (World.ownsRow.alloc HO.out _) wr.heap.size _ [x] rfl HONE.out ?c1 ?c2 ?_)
          case c1 => simp; omega
          case c2 => simp; omega
          intro v' w7 ho7 g7
          have hblk : ∀ k, Value.ownBlock u12 = some k → w6.heap.size ≤ k := fun k e => (Own.lt HO.out k e).1
          have HS7 := Lib.hid ((HS.out.none (only_alloc (only_refl _ none) (.cells #[.string (s.extract fr k)] 9))).stepT (World.ownsRow.alloc HO.out _) (Nat.le_refl _) g7)
          have HR7 := Lib.hid (fun k' (hk' : k' ≤ i) => g7.cell ((only_alloc (only_refl wr none) (.cells #[.string (s.extract fr k)] 9)).cell (HR.out k' hk') (by simp)) (fun e => by have h : w6.heap.size ≤ g6 := hblk g6 e.symm; omega))
          have HO7 := Lib.hid ho7
          clear ho7 g7 hblk
          go_wp2_with fail
          go_roundw
          case rel =>
            refine ⟨j + 1, k, ps ++ [x], by omega, by go_num, rfl, by simp [hpl], ?_, hk2, HMn.out, HFEn, ?_, HO7.out, HS7.out, HR7.out⟩
            · rw [List.flatten_append, HPF.out, HX.out]
              simp only [List.flatten_cons, List.flatten_nil, List.append_nil]
              rw [← List.take_add]
              congr 1
              omega
            · intro y hy
              rcases List.mem_append.1 hy with h | h
              · exact HPX.out y h
              · simp at h; subst h; exact hxl
          case measure => simp [intOf]; omega
        · have hje : j = i + 1 := by omega
          have hfe := HFE.out hje
          have hflat : ps.flatten = s.data.toList := by rw [HPF.out, hfe, List.take_of_length_le (by omega)]
          obtain ⟨pa, pc, hsh⟩ := row_shape HO.out
          have ho := HO.out
          rw [hsh] at ho
          have hstr := strs_of_own ho rfl (fun x hx => by have := HPX.out x hx; omega)
          have hf := Hfeed.out wr b Sb [] pa ps.length pc (ps.map str) HS.out.db hstr (fun bb off e => Iface.far HS.out.db HO.out bb (by rw [hsh, e]; rfl)) (by unfold maxLen; omega) (by rw [cat_str, hflat, hLl]; simp; omega)
          rw [cat_str, hflat, List.nil_append, ofR_nil, List.length_nil, List.drop_zero] at hf
          have HF8 := Lib.hid hf
          have HSH := Lib.hid hsh
          clear hf hstr ho hflat HR HPF HPX HM HFE HROW HFM hsh
          subst hje
          go_wp2_with fail
          rw [HSH.out]
          refine HF8.out.mono ?_
          rintro e w8 ⟨vg, Sb8, rfl, d8, hS8, g8, o8⟩
          have hsz8 := g8.size
          have hBr8 := HS.out.hB
          have hst8 : St I W w8.heap.size a b c Sa4 Sb8 Sc s.data.toList s.data.toList [] B0 vw (ofR s.data.toList).1 wr.heap.size vg (ofR s.data.toList).1 w8 :=
            ⟨I.kept HS.out.da g8 (fun k h1 h2 => (HS.out.sa k h1).2.2.1 h2), d8, I.kept HS.out.dc g8 (fun k h1 h2 => (HS.out.sb k h2).2.2 h1), own_chg HS.out.own g8 (Iface.far HS.out.db HS.out.own), o8, Chg.none_new HS.out.gw g8 (fun k h => (HS.out.sb k h).2.1), Nat.le_refl _,
             fun k h => by
               have h1 := HS.out.sa k h
               exact ⟨by omega, h1.2.1, fun h' => by rcases hS8 k h' with h2 | h2; { exact h1.2.2.1 h2 }; omega, h1.2.2.2⟩,
             fun k h => ⟨Iface.lt d8 k h, by rcases hS8 k h with h2 | h2; { exact (HS.out.sb k h2).2.1 }; have := HS.out.hW; omega, fun h' => by rcases hS8 k h with h2 | h2; { exact (HS.out.sb k h2).2.2 h' }; have := Iface.lt HS.out.dc k h'; omega⟩,
             HS.out.sc, fun k e => by have := HS.out.hv k e; omega, fun k e => (Own.lt o8 k e).2, by have := HS.out.hW; omega⟩
          have S8 := Lib.hid hst8
          clear d8 hS8 g8 o8 hst8 HF8 HO HS
          generalize wr.heap.size = B1 at *
          go_wp2_with fail
          go_loopw [17, 78] (fun v cc wq => ∃ (j : Nat) (Sc : Nat → Prop), j ≤ s.size ∧ cc = .int .i64 j ∧ Own w8.heap.size wq v (ofR (s.data.toList.take j)).1 ∧ St I W w8.heap.size a b c Sa4 Sb8 Sc s.data.toList s.data.toList (s.data.toList.take j) B0 vw (ofR s.data.toList).1 B1 vg (ofR s.data.toList).1 wq) (fun _ cc _ => s.size - (intOf cc).toNat)
          case atStart => exact ⟨0, Sc, by omega, rfl, by rw [List.take_zero, ofR_nil]; exact Own.nil _ _, by rw [List.take_zero]; exact S8.out⟩
          case round =>
            obtain ⟨j, Sc', hj3, rfl, ho, hst⟩ := hrel
            have HO := Lib.hid ho
            have HS := Lib.hid hst
            have hBq := hst.hB
            clear ho hst
            by_cases hlt3 : j < s.size
            · have HSCL := Lib.hid (Iface.lt HS.out.dc)
              obtain ⟨x, hx⟩ : ∃ x : ByteArray, s.extract j (j + 1) = x := ⟨_, rfl⟩
              have hxl : x.data.toList = (s.data.toList.drop j).take 1 := by rw [← hx, hE.out, show j + 1 - j = 1 by omega]
              have hxs : x.size = 1 := by rw [← hx]; simp; omega
              have htk : s.data.toList.take j ++ x.data.toList = s.data.toList.take (j + 1) := by rw [hxl, ← List.take_add]
              have hf := Hfeed.out _ c Sc' (s.data.toList.take j) _ _ _ _ (Iface.none HS.out.dc (only_alloc (only_refl wr none) (.cells #[.string x] 9))) (Strs.one x (by unfold maxLen; omega) wr) (fun bb off e h => by have := HSCL.out bb h; simp at e <;> omega) (by decide) (by rw [cat_one]; simp; omega)
              have hmore := ofR_more (s.data.toList.take j) x.data.toList
              have hb3 := (ofR_bounds _ (s.data.toList.take j) (Nat.le_refl _)).2.1
              have hb4 := (ofR_bounds _ (s.data.toList.take (j + 1)) (Nat.le_refl _)).2.1
              rw [List.length_take] at hb3 hb4
              rw [cat_one, htk] at hf
              rw [htk] at hmore
              have HF := Lib.hid hf
              have HMO := Lib.hid hmore
              have hdl : ((ofR (s.data.toList.take (j + 1))).1.drop (ofR (s.data.toList.take j)).1.length).length ≤ 4001 := by rw [List.length_drop]; omega
              have hsl3 := run_slice_string (P := Try.prog) (w := wr) 9 s .i64 .i64 (j : Int) ((j : Int) + 1) Try.underlying9 (by omega) (by omega) (by omega)
              rw [show ((j : Int) + 1).toNat = j + 1 by omega, Int.toNat_natCast, hx] at hsl3
              clear hf hmore hxl htk hx
              go_wp2_with fail
              refine HF.out.mono ?_
              rintro e w9 ⟨v9, Sc9, rfl, d9, hS9, g9, o9⟩
              have g9' : Chg Sc' wr w9 := (Chg.alloc (Chg.refl Sc' wr) (.cells #[.string x] 9)).trans' g9
              have hsz9 := g9'.size
              have hBw8 := HS.out.hB
              have hS9' : ∀ k, Sc9 k → Sc' k ∨ wr.heap.size ≤ k := fun k hk => by
                rcases hS9 k hk with h | h
                · exact .inl h
                · simp at h; exact .inr (by omega)
              have hst9 : St I W w8.heap.size a b c Sa4 Sb8 Sc9 s.data.toList s.data.toList (s.data.toList.take (j + 1)) B0 vw (ofR s.data.toList).1 B1 vg (ofR s.data.toList).1 w9 :=
                ⟨I.kept HS.out.da g9' (fun k h1 h2 => (HS.out.sa k h1).2.2.2 h2), I.kept HS.out.db g9' (fun k h1 h2 => (HS.out.sb k h1).2.2 h2), d9, own_chg HS.out.own g9' (Iface.far HS.out.dc HS.out.own), own_chg HS.out.own1 g9' (Iface.far HS.out.dc HS.out.own1), Chg.none_new HS.out.gw g9' HS.out.sc, by omega,
                 fun k h => by
                   have h1 := HS.out.sa k h
                   exact ⟨h1.1, h1.2.1, h1.2.2.1, fun h' => by rcases hS9' k h' with h2 | h2; { exact h1.2.2.2 h2 }; omega⟩,
                 fun k h => by
                   have h1 := HS.out.sb k h
                   exact ⟨h1.1, h1.2.1, fun h' => by rcases hS9' k h' with h2 | h2; { exact h1.2.2 h2 }; omega⟩,
                 fun k h => by rcases hS9' k h with h2 | h2; { exact HS.out.sc k h2 }; have := HS.out.gw.size; omega, HS.out.hv, HS.out.hv1, HS.out.hW⟩
              have HS9 := Lib.hid hst9
              have HO9 := Lib.hid (own_chg HO.out g9' (Iface.far HS.out.dc HO.out))
              have HP9 := Lib.hid o9
              clear d9 hS9 hS9' g9 g9' o9 hst9 HF
              go_wp2_with (at_builtin; refine wpList_append_texts rfl (.tmp 81) (.tmp 89) rfl w8.heap.size _ (ofR (s.data.toList.take j)).1 rfl HO9.out _ _ _ rfl HP9.out ?c1 ?c2 ?_)
              case c1 => omega
              case c2 => omega
              intro v' w10 ho10 g10
              rw [HMO.out] at ho10
              have HS10 := Lib.hid (HS9.out.stepT HO9.out (Nat.le_refl _) g10)
              have HO10 := Lib.hid ho10
              clear ho10 g10
              go_wp2_with fail
              go_roundw
              case rel => exact ⟨j + 1, Sc9, by omega, by go_num, HO10.out, HS10.out⟩
              case measure => simp [intOf]; omega
            · have hje3 : j = s.size := by omega
              have htk : s.data.toList.take j = s.data.toList := List.take_of_length_le (by omega)
              rw [htk] at HO HS
              have hob2 : (ofR s.data.toList).1.length ≤ maxLen := by unfold maxLen; omega
              have hq1 := equal_texts hob2 HS.out.own1 HS.out.own
              have hq2 := fun (w : World) (g : wr.grownBy w none) => equal_texts hob2 (HO.out.kept g) (HS.out.own.kept g)
              have HQ2 := Lib.hid hq2
              clear hq2
              subst hje3
              go_wp2_with fail
              refine hq1.mono ?_
              rintro e w10 ⟨rfl, g10⟩
              have hq2 := HQ2.out _ g10
              have S10 := Lib.hid (HS.out.none g10)
              clear g10 HQ2 hq1 HS HO
              go_wp2_with fail
              refine hq2.mono ?_
              rintro e w11 ⟨rfl, g11⟩
              have hs := S10.out.none g11
              have T0 : Hid (Tri I W a b c s.data.toList _) := ⟨_, _, _, hs.da, hs.db, hs.dc, fun k h => (hs.sa k h).2.2.1, fun k h => (hs.sa k h).2.2.2, fun k h => (hs.sb k h).2.2, fun k h => (hs.sa k h).2.1, fun k h => (hs.sb k h).2.1, hs.sc, hs.gw⟩
              clear hs g11 S10 hq2
              go_wp2_with fail
              refine (tri_err T0.out).mono ?_
              rintro e v0 ⟨rfl, t0⟩
              have T1 := Lib.hid t0
              clear t0
              go_wp2_with fail
              refine (tri_err T1.out.rot).mono ?_
              rintro e v1 ⟨rfl, t1⟩
              have T2 := Lib.hid t1.rot.rot
              clear t1
              go_wp2_with fail
              refine (tri_err T2.out).mono ?_
              rintro e v2 ⟨rfl, t2⟩
              have T3 := Lib.hid t2
              clear t2
              go_wp2_with fail
              refine (tri_err T3.out.rot.rot).mono ?_
              rintro e v3 ⟨rfl, t3⟩
              have T4 := Lib.hid t3.rot
              clear t3
              go_wp2_with fail
              refine (tri_waits T4.out).mono ?_
              rintro e v4 ⟨rfl, t4⟩
              have T5 := Lib.hid t4
              clear t4
              go_wp2_with fail
              refine (tri_waits T5.out.rot).mono ?_
              rintro e v5 ⟨rfl, t5⟩
              have T6 := Lib.hid t5.rot.rot
              clear t5
              go_wp2_with fail
              refine (tri_waits T6.out).mono ?_
              rintro e v6 ⟨rfl, t6⟩
              have T7 := Lib.hid t6
              clear t6
              go_wp2_with fail
              refine (tri_waits T7.out.rot.rot).mono ?_
              rintro e v7 ⟨rfl, t7⟩
              have T8 := Lib.hid t7.rot
              clear t7
              go_wp2_with fail
              refine (tri_count T8.out).mono ?_
              rintro e v8 ⟨rfl, t8⟩
              have T9 := Lib.hid t8
              clear t8
              go_wp2_with fail
              refine (tri_count T9.out.rot.rot).mono ?_
              rintro e v9 ⟨rfl, t9⟩
              have T10 := Lib.hid t9.rot
              clear t9
              go_wp2_with fail
              go_ret
              obtain ⟨_, _, _, -, -, -, -, -, -, -, -, -, hg⟩ := T10.out
              exact ⟨rfl, hg⟩

theorem cuts_any (I : Iface) (W : World) (s : ByteArray) (hs : s.size ≤ maxLen) (a : Option Addr) (len cap : Nat) (zs : List Int) (h : IsInts .u16 W a len cap zs) (hlen : len ≤ maxLen) :
    Calls Try.prog 7 #[.string s, .slice a len cap] W fun e w' => e = .returned (.bool true) ∧ W.grownBy w' none := by
  by_cases hl : 4000 < s.size ∨ 60 < len
  · exact cuts_long I s hs a len cap hlen hl W
  · have hwf : ∀ i, i < len → 0 ≤ zs.getD i 0 ∧ zs.getD i 0 ≤ 65535 := fun i hi => by
      rcases h with ⟨h0, -⟩ | ⟨b, off, rfl, -, -, -, -, hc⟩
      · omega
      · simpa [Lit.wf, IntKind.min, IntKind.max, IntKind.signed, IntKind.bits] using (hc i hi).2
    refine cuts_main I s (by omega) a len cap (by omega) (fun i => if i < len then (zs.getD i 0).toNat else 0) (fun i => ?_) W ?_
    · split
      · have := hwf i (by assumption); omega
      · omega
    · rcases h with ⟨h0, -⟩ | ⟨b, off, rfl, -, h1, h2, -, hc⟩
      · exact .inl h0
      · refine .inr ⟨b, off, rfl, h1, h2, fun i hi => ?_⟩
        simp only [if_pos hi]
        rw [(hc i hi).1, show (((zs.getD i 0).toNat : Nat) : Int) = zs.getD i 0 by have := hwf i hi; omega]

end Go.Proofs.Ytkggjokpbopjdaa.law06
