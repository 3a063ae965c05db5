/-
  The library's Clone and SortFunc of entries, by entry.Cmp; the developers' Of.
-/
import Derived.Test.YtiolkedmpjjojaaGreatDoorDnxt
import Derived.Test.YtiolkedmpjjojaaGreatDoorSlayE
import Derived.Lib.SliceRun
namespace Go.Proofs.YtiolkedmpjjojaaGreatDoor.dd
open Go.RowKit Go.Lib Go.Sort Go.Proofs.YtiolkedmpjjojaaGreatDoor.vi Go.Proofs.YtiolkedmpjjojaaGreatDoor.um Go.Proofs.YtiolkedmpjjojaaGreatDoor.wm Go.Proofs.YtiolkedmpjjojaaGreatDoor.tr Go.Proofs.YtiolkedmpjjojaaGreatDoor.em
set_option linter.unusedVariables false
set_option linter.unusedSimpArgs false

set_option maxHeartbeats 2000000 in
set_option maxRecDepth 100000 in
theorem sclone_any (xs : List Ent) (B : Nat) (w : World) (v : Value) (hl : xs.length ≤ 1000000) (h : Es B w v xs) :
    Calls Tryz.prog 37 #[v] w fun e w' => ∃ v', e = .returned v' ∧ OwnE 23 w.heap.size w' v' xs ∧ w.grownBy w' none := by
  have HE := Lib.hid h
  have q22 : ∀ (w : World) (a : Option Addr) (n c n' c' : Nat), (binOp .eql 41 (.slice a n c) (.slice none n' c')).run Tryz.prog w = .ok (.bool a.isNone) w := fun w a n c n' c' => Lib.run_eql_slice_nil w _ _ a n c n' c' Tryz.underlying41
  obtain ⟨a, cap, rfl, h0⟩ := h
  cases a with
  | none =>
    obtain rfl : xs = [] := by
      rcases h0 with h0 | ⟨b, off, h0, -⟩
      · exact h0
      · cases h0
    clear h0
    go_enter Tryz.func37, Tryz.ntmps37
    go_wp2_with fail
    go_ret
    exact ⟨_, rfl, OwnE.nil _ _ _, only_refl _ _⟩
  | some ad =>
    have HOM : Hid (OwnE 23 w.heap.size (w.alloc (.cells #[] 23)) (.slice (some ⟨w.heap.size, 0, none⟩) 0 0) []) := World.ownsRow_lit w #[] 0 (Nat.le_refl _) (Nat.zero_le _) rfl
    have HRA := Lib.hid (HE.out.grown (only_alloc (only_refl w none) (.cells #[] 23)))
    clear h0
    go_enter Tryz.func37, Tryz.ntmps37
    go_wp2_with (at_builtin; refine wpList_append_es rfl _ _ _ _ rfl _ Tryz.underlying41 Tryz.infoE rfl w.heap.size _ _ [] xs rfl HOM.out _ rfl HRA.out ?c3 ?c4 ?_)
    case c3 => simp; omega
    case c4 => simp
    intro v5 w5 ho5 hg5 _
    have HG5 := Lib.hid (below_to_none (below_of_only (below_of_none (only_alloc (only_refl w none) (.cells #[] 23))) hg5 (by simp) (fun k e => by simp [Value.ownBlock] at e; omega)))
    try rw [List.nil_append] at ho5
    have HO5 := Lib.hid ho5
    clear ho5 hg5
    go_wp2_with fail
    go_ret
    exact ⟨_, rfl, HO5.out, HG5.out⟩

def encE (x : Ent) : List Value := [.string x.key, .string x.value]
theorem swoE : SWO (ltOf cmpE) where
  irrefl x := by simp [ltOf, (cmpE_zero x x).2 rfl]
  trans x y z h1 h2 := by
    simp only [ltOf, decide_eq_true_eq] at *
    exact cmpE_trans h1 h2
  ntrans x y z h1 h2 := by
    simp only [ltOf, decide_eq_false_iff_not] at *
    intro h3
    rw [cmpE_neg] at h1 h2
    by_cases e1 : cmpE y x = 0
    · rw [(cmpE_zero y x).1 e1] at h2
      rw [cmpE_neg] at h3
      omega
    · by_cases e2 : cmpE z y = 0
      · rw [← (cmpE_zero z y).1 e2] at h1
        rw [cmpE_neg] at h3
        omega
      · have := cmpE_trans (a := z) (b := y) (c := x) (by omega) (by omega)
        rw [cmpE_neg] at h3
        omega

theorem cmp_lays (blk off size : Nat) (w : World) : CmpLays Tryz.prog 17 #[] encE 2 cmpE blk off size w :=
  fun _ _ _ _ x y => ee.Cmp_any x y _

theorem isAggE (w : World) : (isAgg 23).run Tryz.prog w = .ok true w := by kernel_rfl
theorem sizeOfE (w : World) : (Go.sizeOf 23).run Tryz.prog w = .ok 2 w := by kernel_rfl

theorem sort_worlds (enc : Ent → List Value) (w : World) (g m : Nat) (d : Array Ent) (os : Array Obj) : w.grownBy (sortWorldK enc 2 w g 0 m d os) (some g) := by
  refine ⟨rfl, rfl, rfl, ?_, fun k hk hne => ?_⟩
  · simp [sortWorldK, putRowK, putRow, mapBlock, Sort.ahead, grow]
  · have hkg : g ≠ k := fun e => hne (by rw [e])
    simp only [sortWorldK, putRowK, putRow, mapBlock, Sort.ahead, grow]
    rw [Array.getElem?_append_left (by simpa using hk), Array.getElem?_modify, if_neg hkg]

set_option maxRecDepth 100000 in
theorem blen_any (n : Nat) (hn : n ≤ 1000000) (w : World) : Calls Tryz.prog 67 #[.int .u64 (n : Nat)] w fun e w' => e = .returned (.int .i64 (Lib.bitLen n : Nat)) ∧ w' = w := by
  have HB := Tryz.bits_Len64 (n : Int) w (by omega) (by omega)
  rw [Int.toNat_natCast] at HB
  have HB := Lib.hid HB
  go_enter Tryz.func67, Tryz.ntmps67
  go_wp2_with fail
  refine HB.out.mono ?_
  rintro e w1 ⟨rfl, rfl⟩
  go_wp2_with fail
  go_ret
  exact ⟨rfl, rfl⟩

set_option maxHeartbeats 1000000 in
theorem sort_any (ts : List Ent) (w : World) (base : Nat) (v : Value) (hs : ts.length ≤ 1000000) (hpos : 0 < ts.length) (h : OwnE 23 base w v ts) :
    Calls Tryz.prog 51 #[v, .func (.func 17) #[] #[]] w fun e w' =>
      e = .returned (.tuple #[]) ∧ Es w.heap.size w' v (sortE ts) ∧ w.grownBy w' v.ownBlock := by
  have hall := h
  rcases h.2 with ⟨rfl, h0⟩ | ⟨g, cap, cur, rfl, hb, hg, hnc, hcm, hcs, htake⟩
  · omega
  · have hcell : ∀ (i c : Nat) (x : Ent), ts[i]? = some x → c < 2 → w.cell? ⟨g, 0 + (i * 2 + c), none⟩ = some (encE x)[c]! := fun i c x hx hc => by
      obtain ⟨f0, f1⟩ := flatE_get ts i x hx
      have hq := fun j u (hj : (flatE ts)[j]? = some u) => World.ownsRow.cells hall (g := g) rfl j u hj
      have ha : ∀ j, (⟨g, 0, none⟩ : Addr).add j = ⟨g, 0 + j, none⟩ := fun j => Addr.add_lit ..
      simp only [ha] at hq
      rcases (show c = 0 ∨ c = 1 by omega) with rfl | rfl
      · exact hq _ _ f0
      · exact hq _ _ f1
    have hH : HoldsK encE 2 w g 0 ts.toArray := fun j hj => by
      rw [size_flatK] at hj
      rw [get_flatK _ _ _ _ hj]
      have hj5 : j / 2 < ts.length := by simp at hj; omega
      have hx : ts[j / 2]? = some ts.toArray[j / 2]! := by
        rw [getElem!_pos ts.toArray (j / 2) (by simpa using hj5)]
        simp
      have := hcell (j / 2) (j % 2) _ hx (by omega)
      rw [show j / 2 * 2 + j % 2 = j by omega] at this
      exact ⟨this, by simp [World.frozen?, hg]⟩
    have hlt : g < w.heap.size := (Array.getElem?_eq_some_iff.1 hg).1
    have eg : ∀ args w, (callFunc 17 args).run Tryz.prog w = .ok (.enter 17 args) w := enters_of Tryz.func17 (by kernel_rfl) rfl
    have hsz : ts.toArray.size = ts.length := by simp
    have hlim : Lib.bitLen ts.toArray.size < 4611686018427387904 := Nat.lt_of_le_of_lt (Lib.bitLen_le ts.toArray.size 62 (by omega) (by rw [hsz]; omega)) (by omega)
    have hp := AnyQ.pdqsortCmpFunc_all Tryz.pdqE 2 isAggE sizeOfE encE cmpE 17 #[] swoE g 0 cap ts.toArray w eg (cmp_lays g 0 _ w) ⟨fun _ => rfl, fun x v hv => by simp [encE] at hv; rcases hv with rfl | rfl <;> rfl, hH, hlt⟩ (ts.toArray.size + 1) 0 ts.toArray.size (Lib.bitLen ts.toArray.size) ts.toArray w (by omega) rfl (SWK.start hH) (Nat.zero_le _) (Nat.le_refl _) (by rw [hsz]; omega) hlim (Or.inl rfl)
    change Calls Tryz.prog 66 _ _ _ at hp
    rw [hsz] at hp
    have hcon : Calls Tryz.prog 51 #[.slice (some ⟨g, 0, none⟩) ts.length cap, .func (.func 17) #[] #[]] w fun e w' =>
        e = .returned (.tuple #[]) ∧ ∃ d' n os, PermIn 0 ts.length ts.toArray d' ∧ SortedIn (ltOf cmpE) 0 ts.length d' ∧ w' = sortWorldK encE 2 w g 0 n d' os := by
      have HP := Lib.hid hp
      have HS := Lib.hid (pdq_sorts (ltOf cmpE) swoE ts.toArray 0 ts.length (Lib.bitLen ts.length) true true (Nat.zero_le _) (by rw [hsz]; exact Nat.le_refl _) (Or.inl rfl))
      have HL := Lib.hid (fun w => blen_any ts.length (by omega) w)
      have hmod : (ts.length : Int) % 18446744073709551616 = ts.length := by omega
      clear hp hlim hsz eg hlt hH hcell hall h hpos
      generalize Lib.bitLen ts.length = lim at *
      go_enter Tryz.func51, Tryz.ntmps51
      go_wp2_with fail
      refine (HL.out _).mono ?_
      rintro e w1 ⟨rfl, rfl⟩
      go_wp2_with fail
      refine HP.out.mono ?_
      rintro e w1 ⟨rfl, n, os, rfl⟩
      go_wp2_with fail
      go_end0
      exact ⟨rfl, _, n, os, HS.out.1, HS.out.2, rfl⟩
    refine hcon.mono ?_
    rintro e w' ⟨rfl, d', m, os, ⟨hp1, -, hp3⟩, hsd, rfl⟩
    have hd's : d'.size = ts.length := by rw [hp1, hsz]
    have hperm : d'.toList.Perm ts := by
      have e1 : d'.extract 0 ts.length = d' := by rw [← hd's]; simp
      have e2 : ts.toArray.extract 0 ts.length = ts.toArray := by rw [← hsz]; simp
      rw [e1, e2] at hp3
      simpa using hp3
    have hgw := sort_worlds encE w g m d' os
    have hH2 : HoldsK encE 2 (sortWorldK encE 2 w g 0 m d' os) g 0 d' :=
      holdsK_grow encE 2 _ os g 0 d' (by simp [putRowK, putRow, mapBlock, Sort.ahead]; exact hlt) (holdsK_putRowK encE 2 (Sort.ahead w m) g 0 ts.toArray d' (holdsK_ahead encE 2 w m g 0 _ hH) hp1)
    have hget : ∀ (i : Nat) (x : Ent), d'.toList[i]? = some x → d'[i]! = x ∧ i < d'.size := fun i x hx => by
      have hi := (List.getElem?_eq_some_iff.1 hx).1
      refine ⟨?_, by simpa using hi⟩
      rw [getElem!_pos d' i (by simpa using hi)]
      obtain ⟨_, he⟩ := List.getElem?_eq_some_iff.1 hx
      simpa using he
    have hpw : d'.toList.Pairwise leE := by
      rw [List.pairwise_iff_getElem]
      intro i j hi hj hij
      have := hsd i j (Nat.zero_le _) hij (by rw [← hd's]; simpa using hj)
      simp only [ltOf, decide_eq_false_iff_not] at this
      rw [getElem!_pos d' i (by simpa using hi), getElem!_pos d' j (by simpa using hj)] at this
      simp only [Array.getElem_toList]
      unfold leE
      rw [cmpE_neg]
      omega
    have hst : sortE ts = d'.toList := sorted_same (sort_sorted ts) hpw ((sort_perm ts).trans hperm.symm)
    refine ⟨rfl, ?_, hgw⟩
    rw [hst]
    have hln : d'.toList.length = ts.length := by simp [hd's]
    refine ⟨some ⟨g, 0, none⟩, cap, by rw [hln], .inr ⟨g, 0, rfl, hlt, by omega, hcm, fun i x hx => ?_⟩⟩
    obtain ⟨e1, e2⟩ := hget i x hx
    have hc := fun c (hc : c < 2) => (HoldsK.cell hH2 e2 hc).1
    rw [e1] at hc
    exact ⟨hc 0 (by omega), hc 1 (by omega)⟩

/-! Of -/
/-- Of sorted entries that all may be nothing is left to be told but that two keys are the same. -/
theorem walk_sorted : ∀ (l : List Ent) (p : Option Ent), (p.toList ++ l).Pairwise leE → (∀ x ∈ l, checkE x = 0) → walkE p l = if twiceE (p.toList ++ l) = true then 14 else 0
  | [], p, _, _ => by cases p <;> simp [walkE, twiceE]
  | x :: r, p, h, hc => by
    have hx := hc x (by simp)
    unfold walkE
    rw [if_neg (by simp [hx])]
    have hr : ∀ y ∈ r, checkE y = 0 := fun y hy => hc y (by simp [hy])
    cases p with
    | none =>
      rw [if_neg (by simp [behindO])]
      exact walk_sorted r (some x) (by simpa using h) hr
    | some a =>
      have h2 : (a :: x :: r).Pairwise leE := by simpa using h
      obtain ⟨h3, h4⟩ := List.pairwise_cons.1 h2
      have hax := h3 x (by simp)
      have hb : behindO (some a) x = if a.key = x.key then 14 else 0 := by
        show behindE a x = _
        unfold behindE leE at *
        rw [if_neg (by omega : ¬ 0 < cmpE a x)]
      have ih := walk_sorted r (some x) (by simpa using h4) hr
      rw [hb, ih]
      show _ = if (decide (a.key = x.key) || twiceE (x :: r)) = true then 14 else 0
      by_cases hk : a.key = x.key
      · simp [hk]
      · rw [if_neg (show ¬ ((if a.key = x.key then 14 else 0) ≠ 0) by simp [hk]), show (decide (a.key = x.key) || twiceE (x :: r)) = twiceE (x :: r) by simp [hk]]
        rfl
theorem check_sorted {l : List Ent} (h1 : countE l.length = 0) (h2 : firstE l = 0) : checkD (sortE l) = if twiceE (sortE l) = true then 14 else 0 := by
  have hp := sort_perm l
  have hc := (firstE_zero l).1 h2
  unfold checkD
  rw [hp.length_eq, if_neg (by simp [h1])]
  exact walk_sorted (sortE l) none (by simpa using sort_sorted l) (fun x hx => hc x (hp.mem_iff.1 hx))

set_option maxHeartbeats 4000000 in
set_option maxRecDepth 100000 in
theorem of_any (xs : List Ent) (B : Nat) (w : World) (v : Value) (hl : xs.length ≤ 1000000) (hz : ∀ x ∈ xs, x.key.size ≤ maxLen ∧ x.value.size ≤ maxLen) (hT : tb.Tab w) (h : Es B w v xs) :
    Calls Tryz.prog 22 #[v] w fun e w' => ∃ v', e = .returned (.tuple #[v', .int .i64 ((ofD xs).2 : Nat)]) ∧ Es w'.heap.size w' v' (ofD xs).1 ∧ w.grownBy w' none := by
  have HC := Lib.hid (fun w => count_any xs.length (by omega) w)
  have HE := Lib.hid h.low
  have HZ := Lib.hid hz
  have HTB := Lib.hid (fun w1 (g : w.grownBy w1 none) => tb.kept hT g)
  have hmod : (xs.length : Int) % 18446744073709551616 = xs.length := by omega
  have HD : Hid (ofD xs = if countE xs.length ≠ 0 then ([], countE xs.length) else if firstE xs ≠ 0 then ([], firstE xs) else if twiceE (sortE xs) = true then ([], 14) else (sortE xs, 0)) := rfl
  have hclt := countE_lt xs.length
  have HCS := Lib.hid (@check_sorted xs)
  generalize hR : ofD xs = R at *
  obtain ⟨a, cap, rfl⟩ := h.shape
  clear h hT hz hR
  by_cases hc : countE xs.length = 0
  · rw [hc] at HC
    have HD := Lib.hid (HD.out.trans (if_neg (by simp [hc])))
    have hpos : 0 < xs.length := by unfold countE at hc; split at hc <;> omega
    have HCC := Lib.hid hc
    clear hc hclt
    go_enter Tryz.func22, Tryz.ntmps22
    go_wp2_with fail
    refine (HC.out _).mono ?_
    rintro e w0 ⟨rfl, rfl⟩
    go_wp2_with fail
    go_loopw [19] (fun q wr => ∃ i : Nat, i ≤ xs.length ∧ q = .int .i64 i ∧ w.grownBy wr none ∧ firstE xs = firstE (xs.drop i)) (fun q _ => xs.length - (intOf q).toNat)
    case atStart => exact ⟨0, Nat.zero_le _, rfl, only_refl _ _, by simp⟩
    case round =>
      obtain ⟨i, hi, rfl, hg, hw⟩ := hrel
      have HG := Lib.hid hg
      have HW := Lib.hid hw
      clear hg hw
      by_cases hlt : i < xs.length
      · obtain ⟨x, hx⟩ : ∃ x, xs[i]? = some x := ⟨xs[i], List.getElem?_eq_getElem hlt⟩
        have HEi := Lib.hid (HE.out.grown HG.out)
        obtain ⟨b, off, cap', hv, hb, hle, hcm, c0, c1⟩ := HEi.out.at hx
        simp only [Value.slice.injEq, true_and] at hv
        obtain ⟨rfl, rfl⟩ := hv
        unfold maxLen at hcm
        have hsz := ent_size HZ.out hx
        have HWN := Lib.hid (HW.out.trans (firstE_at hx))
        have G1 := Lib.hid (only_trans HG.out (only_alloc (only_refl wr none) (.cells #[.string x.key, .string x.value] 23)))
        have HCK := Lib.hid (fun w1 (g : w.grownBy w1 none) => ee.check_any x w1 hsz.1 hsz.2 (HTB.out w1 g))
        have h1lt := checkE_lt x
        clear hx hsz HW
        by_cases h1 : checkE x = 0
        · rw [h1] at HCK HWN
          have HWN := Lib.hid (HWN.out.trans (if_neg (by simp)))
          clear h1lt h1
          go_wp2_with fail
          refine (HCK.out _ G1.out).mono ?_
          rintro e w1 ⟨rfl, g1⟩
          have G2 := Lib.hid (only_trans G1.out g1)
          clear g1
          go_wp2_with fail
          go_roundw
          case rel => exact ⟨i + 1, by omega, by go_num, G2.out, HWN.out⟩
          case measure => simp [intOf]; omega
        · have HWN := Lib.hid (HWN.out.trans (if_pos h1))
          have HQ := Lib.hid h1
          generalize checkE x = q at *
          have hqb : ((q : Int) != 0) = true := by rw [bne_iff_ne]; omega
          clear h1
          go_wp2_with fail
          refine (HCK.out _ G1.out).mono ?_
          rintro e w1 ⟨rfl, g1⟩
          have G2 := Lib.hid (only_trans G1.out g1)
          clear g1
          go_wp2_with fail
          go_ret2
          rw [HD.out, HWN.out, if_pos HQ.out]
          exact ⟨_, rfl, Es.nil _ _ _ _, G2.out⟩
      · have hie : i = xs.length := by omega
        subst hie
        rw [List.drop_length] at HW
        have HD := Lib.hid (HD.out.trans (if_neg (by rw [HW.out]; simp [firstE])))
        have hfz : firstE xs = 0 := by rw [HW.out]; rfl
        have HSC := Lib.hid (HCS.out HCC.out hfz)
        have HCL := Lib.hid (sclone_any xs _ wr _ hl (HE.out.grown HG.out))
        have HSZ : Hid (∀ x ∈ sortE xs, x.key.size ≤ maxLen ∧ x.value.size ≤ maxLen) := fun x hx => HZ.out x ((sort_perm xs).mem_iff.1 hx)
        have HSL : Hid ((sortE xs).length = xs.length) := (sort_perm xs).length_eq
        have hwz : w.heap.size ≤ wr.heap.size := HG.out.size
        clear hfz HCS
        go_wp2_with fail
        refine HCL.out.mono ?_
        rintro e w1 ⟨v1, rfl, o1, g1⟩
        have HST := Lib.hid (fun w2 (g : w1.grownBy w2 none) => sort_any xs w2 _ v1 hl hpos (o1.grown g))
        have HG1 := Lib.hid (only_trans HG.out g1)
        have hvb := Lib.hid (fun k e => (o1.lt k e).1)
        obtain ⟨va, vc, rfl⟩ := o1.es.shape
        clear o1 g1
        go_wp2_with fail
        refine (HST.out _ (only_refl _ _)).mono ?_
        rintro e w2 ⟨rfl, e2, g2⟩
        have HG2 := Lib.hid (only_row HG1.out g2 (fun k e => Nat.le_trans hwz (hvb.out k e)))
        have HE2 := Lib.hid e2.low
        have HCK := Lib.hid (dcheck_any (sortE xs) _ w2 _ (by rw [HSL.out]; exact hl) HSZ.out (HTB.out _ HG2.out) e2)
        rw [HSC.out] at HCK
        clear e2 g2
        by_cases ht : twiceE (sortE xs) = true
        · rw [if_pos ht] at HCK
          have HD := Lib.hid (HD.out.trans (if_pos ht))
          clear ht
          go_wp2_with fail
          refine HCK.out.mono ?_
          rintro e w3 ⟨rfl, g3⟩
          have HG3 := Lib.hid (only_trans HG2.out g3)
          clear g3
          go_wp2_with fail
          go_ret2
          rw [HD.out]
          exact ⟨_, rfl, Es.nil _ _ _ _, HG3.out⟩
        · rw [if_neg ht] at HCK
          have HD := Lib.hid (HD.out.trans (if_neg ht))
          clear ht
          go_wp2_with fail
          refine HCK.out.mono ?_
          rintro e w3 ⟨rfl, g3⟩
          have HG3 := Lib.hid (only_trans HG2.out g3)
          have HE3 := Lib.hid (HE2.out.grown g3).low
          clear g3
          go_wp2_with fail
          go_ret2
          rw [HD.out]
          exact ⟨_, rfl, HE3.out, HG3.out⟩
  · have HD := Lib.hid (HD.out.trans (if_pos hc))
    generalize countE xs.length = q at *
    have hqb : ((q : Int) != 0) = true := by rw [bne_iff_ne]; omega
    go_enter Tryz.func22, Tryz.ntmps22
    go_wp2_with fail
    refine (HC.out _).mono ?_
    rintro e w0 ⟨rfl, rfl⟩
    go_wp2_with fail
    go_ret2
    rw [HD.out]
    exact ⟨_, rfl, Es.nil _ _ _ _, only_refl _ _⟩

end Go.Proofs.YtiolkedmpjjojaaGreatDoor.dd
