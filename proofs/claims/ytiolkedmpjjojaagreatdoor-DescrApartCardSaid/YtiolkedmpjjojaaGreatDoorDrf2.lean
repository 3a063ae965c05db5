/-
  The document's descriptors: Parse, Of.
-/
import Derived.Test.YtiolkedmpjjojaaGreatDoorDref
import Derived.Lib.SliceRun
namespace Go.Proofs.YtiolkedmpjjojaaGreatDoor.dr
open Go.RowKit Go.Proofs.YtiolkedmpjjojaaGreatDoor.vi Go.Proofs.YtiolkedmpjjojaaGreatDoor.um Go.Proofs.YtiolkedmpjjojaaGreatDoor.wm Go.Proofs.YtiolkedmpjjojaaGreatDoor.tr Go.Proofs.YtiolkedmpjjojaaGreatDoor.em Go.Proofs.YtiolkedmpjjojaaGreatDoor.law11 Go.Proofs.YtiolkedmpjjojaaGreatDoor.dd
set_option linter.unusedVariables false
set_option linter.unusedSimpArgs false

set_option maxHeartbeats 1000000 in
set_option maxRecDepth 100000 in
theorem rparseD_any (s : ByteArray) (hs : s.size ≤ 1000000) (w : World) :
    Calls Tryz.prog 34 #[.string s] w fun e w' => ∃ v, e = .returned (.tuple #[v, .int .i64 ((parseD s.data.toList).2 : Nat)]) ∧ OwnE 30 w.heap.size w' v (parseD s.data.toList).1 ∧ w.grownBy w' none := by
  have HN := Lib.hid (rnextD_any s hs w)
  have HP : Hid (parseD s.data.toList = if (nextD s.data.toList).2.2 ≠ 0 then ([], (nextD s.data.toList).2.2) else if (nextD s.data.toList).2.1 ≠ [] then ([], 10) else ((nextD s.data.toList).1, 0)) := rfl
  generalize parseD s.data.toList = PP at *
  generalize nextD s.data.toList = R at *
  obtain ⟨l, rest, q⟩ := R
  simp only at HN HP
  by_cases h1 : q = 0
  · subst h1
    have HP := Lib.hid (HP.out.trans (if_neg (by simp)))
    by_cases h2 : rest = []
    · have HP := Lib.hid (HP.out.trans (if_neg (by simp [h2])))
      have he : (txt rest).toList.isEmpty = true := by subst h2; rw [ByteArray.toList_eq, txt_list]; rfl
      clear h2
      generalize txt rest = T at *
      go_enter Tryz.func34, Tryz.ntmps34
      go_wp2_with fail
      refine HN.out.mono ?_
      rintro e w1 ⟨v, rfl, o1, g1⟩
      have O1 := Lib.hid o1
      have G1 := Lib.hid g1
      obtain ⟨va, vc, rfl⟩ := o1.es.shape
      clear o1 g1
      go_wp2_with fail
      go_ret2
      rw [HP.out]
      exact ⟨_, rfl, O1.out, G1.out⟩
    · have HP := Lib.hid (HP.out.trans (if_pos h2))
      have he : (txt rest).toList.isEmpty = false := by
        rw [ByteArray.toList_eq, txt_list]
        simpa using h2
      clear h2
      generalize txt rest = T at *
      go_enter Tryz.func34, Tryz.ntmps34
      go_wp2_with fail
      refine HN.out.mono ?_
      rintro e w1 ⟨v, rfl, o1, g1⟩
      have G1 := Lib.hid g1
      obtain ⟨va, vc, rfl⟩ := o1.es.shape
      clear o1 g1
      go_wp2_with fail
      go_ret2
      rw [HP.out]
      exact ⟨_, rfl, OwnE.nil _ _ _, G1.out⟩
  · have HP := Lib.hid (HP.out.trans (if_pos h1))
    have hqb : ((q : Int) != 0) = true := by rw [bne_iff_ne]; omega
    clear h1
    go_enter Tryz.func34, Tryz.ntmps34
    go_wp2_with fail
    refine HN.out.mono ?_
    rintro e w1 ⟨v, rfl, o1, g1⟩
    have G1 := Lib.hid g1
    obtain ⟨va, vc, rfl⟩ := o1.es.shape
    clear o1 g1
    go_wp2_with fail
    go_ret2
    rw [HP.out]
    exact ⟨_, rfl, OwnE.nil _ _ _, G1.out⟩

/-! Of: put in one by one -/
def placeE (x : Ent) : List Ent → Nat
  | [] => 0
  | t :: r => if cmpE t x < 0 then placeE x r + 1 else 0
theorem placeE_le (x : Ent) : ∀ l : List Ent, placeE x l ≤ l.length
  | [] => Nat.le_refl _
  | t :: r => by unfold placeE; split; have := placeE_le x r; simp; omega; simp
theorem placeE_below (x : Ent) : ∀ (l : List Ent) (a : Nat) (t : Ent), a < placeE x l → l[a]? = some t → cmpE t x < 0
  | [], a, t, h, _ => by simp [placeE] at h
  | y :: r, a, t, h, ht => by
    unfold placeE at h
    split at h
    · rename_i hy
      cases a with
      | zero => simp at ht; subst ht; exact hy
      | succ a => exact placeE_below x r a t (by omega) (by simpa using ht)
    · omega
theorem placeE_at (x : Ent) : ∀ (l : List Ent) (t : Ent), l[placeE x l]? = some t → ¬ cmpE t x < 0
  | [], t, h => by simp at h
  | y :: r, t, h => by
    unfold placeE at h
    split at h
    · exact placeE_at x r t (by simpa using h)
    · rename_i hy; simp at h; subst h; exact hy
theorem insE_place (x : Ent) : ∀ l : List Ent, insE x l = l.take (placeE x l) ++ x :: l.drop (placeE x l)
  | [] => rfl
  | t :: r => by
    unfold insE placeE
    split
    · rw [insE_place x r]; simp
    · simp
theorem sort_next {l : List Ent} {i : Nat} {x : Ent} (h : l[i]? = some x) : sortE (l.take (i + 1)) = insE x (sortE (l.take i)) := by
  unfold sortE
  rw [List.take_add_one, h]
  simp
theorem sort_len (l : List Ent) : (sortE l).length = l.length := (sort_perm l).length_eq
theorem sort_mem {l : List Ent} {i : Nat} {x : Ent} (h : x ∈ sortE (l.take i)) : x ∈ l := List.mem_of_mem_take ((sort_perm _).mem_iff.1 h)
theorem twiceE_at : ∀ (l : List Ent) (i : Nat) (a b : Ent), l[i]? = some a → l[i + 1]? = some b → twiceE (l.drop i) = (decide (a.key = b.key) || twiceE (l.drop (i + 1)))
  | [], i, a, b, h, _ => by simp at h
  | x :: r, 0, a, b, h1, h2 => by
    cases r with
    | nil => simp at h2
    | cons y s => simp at h1 h2; subst h1 h2; rfl
  | x :: r, i + 1, a, b, h1, h2 => by simpa using twiceE_at r i a b (by simpa using h1) (by simpa using h2)
theorem twiceE_end (l : List Ent) (i : Nat) (h : l.length ≤ i + 1) : twiceE (l.drop i) = false := by
  have : (l.drop i).length ≤ 1 := by simp; omega
  match hl : l.drop i, this with
  | [], _ => rfl
  | [_], _ => rfl

section
variable {P : Program} {a : Option Addr} {n cap : Nat}
def Plain (a : Option Addr) : Prop := a = none ∨ ∃ g off, a = some ⟨g, off, none⟩
theorem own_plain {ty : TypeId} {base : Nat} {w : World} {ts : List Ent} (h : OwnE ty base w (.slice a n cap) ts) : Plain a ∧ n = ts.length ∧ n ≤ cap ∧ cap ≤ maxLen := by
  rcases h.2 with ⟨e, h0⟩ | ⟨g, c, cur, e, hb, hg, hnc, hcm, -⟩
  · simp only [Value.slice.injEq] at e
    obtain ⟨rfl, rfl, rfl⟩ := e
    exact ⟨.inl rfl, h0.symm, Nat.le_refl _, Nat.zero_le _⟩
  · simp only [Value.slice.injEq] at e
    obtain ⟨rfl, rfl, rfl⟩ := e
    exact ⟨.inr ⟨g, 0, rfl⟩, rfl, hnc, hcm⟩
theorem run_head (T e : TypeId) (ht : P.underlying T = some (.slice e)) (hz : ∀ w, (Go.sizeOf e).run P w = .ok 2 w) (ha : Plain a) (p : Nat) (hp : p ≤ cap) (w : World) :
    (Instr.slice T (.slice a n cap) none (some (.int .i64 (p : Nat))) none).run P w = .ok (.slice a p cap) w := by
  rcases ha with rfl | ⟨g, off, rfl⟩
  · simp [Instr.slice, run_underlying ht, Instr.sliceBounds, Instr.sliceBound, asIntOf, hz, hp, Result.andThen]
  · simp [Instr.slice, run_underlying ht, Instr.sliceBounds, Instr.sliceBound, asIntOf, hz, hp, Result.andThen, Addr.add]
theorem run_tail (T e : TypeId) (ht : P.underlying T = some (.slice e)) (hz : ∀ w, (Go.sizeOf e).run P w = .ok 2 w) (ha : Plain a) (p : Nat) (hp : p ≤ n) (hn : n ≤ cap) :
    ∃ q, (∀ w, (Instr.slice T (.slice a n cap) (some (.int .i64 (p : Nat))) none none).run P w = .ok (.slice q (n - p) (cap - p)) w) ∧ ∀ g off, a = some ⟨g, off, none⟩ → p < n → q = some ⟨g, off + p * 2, none⟩ := by
  refine ⟨if cap = p then a else a.map (·.add (p * 2)), fun w => ?_, fun g off e hlt => ?_⟩
  · simp [Instr.slice, run_underlying ht, Instr.sliceBounds, Instr.sliceBound, asIntOf, hz, hp, Result.andThen]
  · subst e
    rw [if_neg (by omega)]
    exact congrArg some (Addr.add_lit ..)
end

theorem sizeOfRE (w : World) : (Go.sizeOf 30).run Tryz.prog w = .ok 2 w := by kernel_rfl

set_option maxHeartbeats 16000000 in
set_option maxRecDepth 100000 in
theorem rofD_any (xs : List Ent) (B : Nat) (w : World) (v : Value) (hl : xs.length ≤ 1000) (hz : ∀ x ∈ xs, x.key.size ≤ 1000 ∧ x.value.size ≤ 1000) (h : Es B w v xs) :
    Calls Tryz.prog 23 #[v] w fun e w' => ∃ v', e = .returned (.tuple #[v', .int .i64 ((ofD xs).2 : Nat)]) ∧ Es w'.heap.size w' v' (ofD xs).1 ∧ w.grownBy w' none := by
  have HC := Lib.hid (fun w => rcount_any xs.length (by omega) w)
  have HE := Lib.hid h.low
  have HZ := Lib.hid hz
  have hmod : (xs.length : Int) % 18446744073709551616 = xs.length := by omega
  have hclt := countE_lt xs.length
  have HD : Hid (ofD xs = if countE xs.length ≠ 0 then ([], countE xs.length) else if firstE xs ≠ 0 then ([], firstE xs) else if twiceE (sortE xs) = true then ([], 14) else (sortE xs, 0)) := rfl
  obtain ⟨a, cap, rfl⟩ := h.shape
  clear h hz
  go_enter Tryz.func23, Tryz.ntmps23
  go_wp2_with fail
  refine (HC.out _).mono ?_
  rintro e w0 ⟨rfl, rfl⟩
  go_wp2_with fail
  go_loopw [4, 5] (fun ve q wr => ∃ (E i : Nat), E < 64 ∧ i ≤ xs.length ∧ ve = .int .i64 E ∧ q = .int .i64 i ∧ w.grownBy wr none ∧ (if countE xs.length ≠ 0 then countE xs.length else firstE xs) = (if E ≠ 0 then E else firstE (xs.drop i))) (fun _ q _ => xs.length - (intOf q).toNat)
  case atStart => exact ⟨countE xs.length, 0, hclt, Nat.zero_le _, rfl, rfl, only_refl _ _, by simp⟩
  case round =>
    obtain ⟨E, i, hE, hi, rfl, rfl, hg, hw⟩ := hrel
    have HG := Lib.hid hg
    have HW := Lib.hid hw
    clear hg hw
    by_cases h0 : E = 0
    · subst h0
      rw [show ((0 : Nat) : Int) = 0 from rfl]
      have HW := Lib.hid (HW.out.trans (if_neg (by simp)))
      by_cases hlt : i < xs.length
      · obtain ⟨x, hx⟩ : ∃ x, xs[i]? = some x := ⟨xs[i], List.getElem?_eq_getElem hlt⟩
        obtain ⟨b, off, cap', hv, hb, hle, hcm, c0, c1⟩ := (HE.out.grown HG.out).at hx
        simp only [Value.slice.injEq, true_and] at hv
        obtain ⟨rfl, rfl⟩ := hv
        unfold maxLen at hcm
        have hsz := HZ.out x (List.mem_of_getElem? hx)
        have HWN := Lib.hid (HW.out.trans (firstE_at hx))
        have HCK := Lib.hid (fun w => rcheckE_any x (by omega) (by omega) w)
        have h1lt := checkE_lt x
        have HWM : Hid ((if countE xs.length ≠ 0 then countE xs.length else firstE xs) = (if checkE x ≠ 0 then checkE x else firstE (xs.drop (i + 1)))) := HWN.out
        clear hx HW HWN hsz
        generalize checkE x = q at *
        go_wp2_with fail
        refine (HCK.out _).mono ?_
        rintro e w1 ⟨rfl, g1⟩
        have G1 := Lib.hid (only_trans HG.out g1)
        clear g1
        go_wp2_with fail
        go_roundw
        case rel => exact ⟨q, i + 1, h1lt, by omega, rfl, by go_num, G1.out, HWM.out⟩
        case measure => simp [intOf]; omega
      · have hie : i = xs.length := by omega
        subst hie
        rw [List.drop_length] at HW
        have hc0 : countE xs.length = 0 := by
          have := HW.out
          simp only [firstE] at this
          by_cases h : countE xs.length = 0
          · exact h
          · rw [if_pos h] at this; exact this
        have hf0 : firstE xs = 0 := by
          have := HW.out
          rw [if_neg (by simp [hc0])] at this
          exact this
        have HD := Lib.hid (HD.out.trans ((if_neg (by simp [hc0])).trans (if_neg (by simp [hf0]))))
        have hxl : xs.length ≤ 16 := by unfold countE at hc0; split at hc0 <;> (try split at hc0) <;> omega
        have HGS := Lib.hid HG.out
        clear hc0 hf0 HW HC hclt hE
        go_wp2_with fail
        go_loopw [6, 36] (fun vo q wr => ∃ i : Nat, i ≤ xs.length ∧ q = .int .i64 i ∧ OwnE 30 w.heap.size wr vo (sortE (xs.take i)) ∧ w.grownBy wr none) (fun _ q _ => xs.length - (intOf q).toNat)
        case atStart => exact ⟨0, Nat.zero_le _, rfl, OwnE.nil _ _ _, HGS.out⟩
        case round =>
          obtain ⟨i, hi, rfl, ho, hg⟩ := hrel
          have HO := Lib.hid ho
          have HG2 := Lib.hid hg
          clear ho hg HG HGS
          by_cases hlt : i < xs.length
          · obtain ⟨x, hx⟩ : ∃ x, xs[i]? = some x := ⟨xs[i], List.getElem?_eq_getElem hlt⟩
            obtain ⟨b, off, cap', hv, hb, hle, hcm, c0, c1⟩ := (HE.out.grown HG2.out).at hx
            simp only [Value.slice.injEq, true_and] at hv
            obtain ⟨rfl, rfl⟩ := hv
            unfold maxLen at hcm
            have hxs := HZ.out x (List.mem_of_getElem? hx)
            have HSN := Lib.hid (sort_next hx)
            have HAS : Hid (∀ y ∈ sortE (xs.take i), y.key.size ≤ 1000 ∧ y.value.size ≤ 1000) := fun y hy => HZ.out y (sort_mem hy)
            have hal : (sortE (xs.take i)).length ≤ 16 := by rw [sort_len, List.length_take]; omega
            clear hx
            generalize sortE (xs.take i) = acc at *
            obtain ⟨ao, oc, hao⟩ := HO.out.es.shape
            have hov := HO.out
            rw [hao] at hov
            obtain ⟨hpl, -, hoc1, hoc2⟩ := own_plain hov
            unfold maxLen at hoc2
            have GA := only_alloc (only_refl wr none) (.cells #[.string x.key, .string x.value] 30)
            have HO2 := Lib.hid (hov.grown GA)
            have HGA := Lib.hid (only_trans HG2.out GA)
            have HDA := Lib.hid (EntV.new wr 30 x)
            have HPL := Lib.hid (insE_place x acc)
            have hpl2 := placeE_le x acc
            subst hao
            clear hov GA HO
            go_wp2_with fail
            generalize hxb : wr.heap.size = xb at *
            generalize wr.alloc (.cells #[.string x.key, .string x.value] 30) = wa at *
            go_loopw [9] (fun q wr => ∃ a : Nat, a ≤ placeE x acc ∧ q = .int .i64 a ∧ wa.grownBy wr none) (fun q _ => acc.length - (intOf q).toNat)
            case atStart => exact ⟨0, Nat.zero_le _, rfl, only_refl _ _⟩
            case round =>
              obtain ⟨a, ha, rfl, hg3⟩ := hrel
              have HW3 := Lib.hid hg3
              have HG3 := Lib.hid (only_trans HGA.out hg3)
              have HO3 := Lib.hid (HO2.out.grown hg3)
              have HD3 := Lib.hid (HDA.out.grown hg3)
              clear hg3
              by_cases hap : a < placeE x acc
              · obtain ⟨y, hy⟩ : ∃ y, acc[a]? = some y := ⟨acc[a]'(by omega), List.getElem?_eq_getElem (by omega)⟩
                obtain ⟨g0, o0, cx, hvx, -, m1, m2, e0, e1⟩ := HO3.out.es.at hy
                simp only [Value.slice.injEq, true_and] at hvx
                obtain ⟨rfl, rfl⟩ := hvx
                have hys := HAS.out y (List.mem_of_getElem? hy)
                have HCM := Lib.hid (fun w => rcmp_any y x (by omega) (by omega) (by omega) (by omega) w)
                have hlt2 := placeE_below x acc a y hap hy
                clear hy hys
                generalize cmpE y x = c at *
                have hal3 : (a : Int) < (acc.length : Int) := by omega
                have hc : c < 0 := hlt2
                have HCG := Lib.hid (fun g : GW wr none => HCM.out g.world)
                have hy0 : ∀ g : GW wr none, g.world.cell? ⟨g0, o0 + a * 2, none⟩ = some (.string y.key) := fun g => (Chg.of_none (S := fun _ => False) g.ok).cell e0 (fun e => e)
                have hy1 : ∀ g : GW wr none, g.world.cell? ⟨g0, o0 + a * 2 + 1, none⟩ = some (.string y.value) := fun g => (Chg.of_none (S := fun _ => False) g.ok).cell e1 (fun e => e)
                have hx0 : ∀ g : GW wr none, g.world.cell? ⟨xb, 0, none⟩ = some (.string x.key) := fun g => (HD3.out.grown g.ok).1
                have hx1 : ∀ g : GW wr none, g.world.cell? ⟨xb, 1, none⟩ = some (.string x.value) := fun g => (HD3.out.grown g.ok).2
                go_wp2_with fail
                refine wp_region_gw wr none (by kernel_rfl) (by kernel_rfl) (only_refl _ _) ?_
                repeat (go_big_quiet_step ((go_at_call 18; exact calls_gw (HCG.out _))))
                refine wpQuiet_nil ?_
                rintro wb ⟨⟨_, hwb0⟩, rfl⟩
                have HWB := Lib.hid (only_trans HW3.out hwb0)
                clear hwb0
                go_wp2_with fail
                go_roundw
                case rel => exact ⟨a + 1, by omega, by go_num, HWB.out⟩
                case measure => simp [intOf]; omega
              · have hae : a = placeE x acc := by omega
                rw [← hae] at HPL
                have HAT := Lib.hid (fun t (h : acc[a]? = some t) => placeE_at x acc t (by rw [← hae]; exact h))
                have hal5 : a ≤ acc.length := by omega
                clear hap hae ha hpl2
                by_cases hal3 : a < acc.length
                · obtain ⟨y, hy⟩ : ∃ y, acc[a]? = some y := ⟨acc[a]'(by omega), List.getElem?_eq_getElem (by omega)⟩
                  obtain ⟨g0, o0, cx, hvx, -, m1, m2, e0, e1⟩ := HO3.out.es.at hy
                  simp only [Value.slice.injEq, true_and] at hvx
                  obtain ⟨rfl, rfl⟩ := hvx
                  have hys := HAS.out y (List.mem_of_getElem? hy)
                  have HCM := Lib.hid (fun w => rcmp_any y x (by omega) (by omega) (by omega) (by omega) w)
                  have hc : ¬ cmpE y x < 0 := HAT.out y hy
                  clear hy hys
                  generalize cmpE y x = c at *
                  have hali : (a : Int) < (acc.length : Int) := by omega
                  have HCG := Lib.hid (fun g : GW wr none => HCM.out g.world)
                  have hy0 : ∀ g : GW wr none, g.world.cell? ⟨g0, o0 + a * 2, none⟩ = some (.string y.key) := fun g => (Chg.of_none (S := fun _ => False) g.ok).cell e0 (fun e => e)
                  have hy1 : ∀ g : GW wr none, g.world.cell? ⟨g0, o0 + a * 2 + 1, none⟩ = some (.string y.value) := fun g => (Chg.of_none (S := fun _ => False) g.ok).cell e1 (fun e => e)
                  have hx0 : ∀ g : GW wr none, g.world.cell? ⟨xb, 0, none⟩ = some (.string x.key) := fun g => (HD3.out.grown g.ok).1
                  have hx1 : ∀ g : GW wr none, g.world.cell? ⟨xb, 1, none⟩ = some (.string x.value) := fun g => (HD3.out.grown g.ok).2
                  go_wp2_with fail
                  refine wp_region_gw wr none (by kernel_rfl) (by kernel_rfl) (only_refl _ _) ?_
                  repeat (go_big_quiet_step ((go_at_call 18; exact calls_gw (HCG.out _))))
                  refine wpQuiet_nil ?_
                  rintro wb ⟨⟨_, hwb0⟩, rfl⟩
                  have HG4 := Lib.hid (only_trans HG3.out hwb0)
                  have HO4 := Lib.hid (HO3.out.grown hwb0)
                  have HD4 := Lib.hid (HD3.out.grown hwb0)
                  have hwb : w.heap.size ≤ wb.heap.size := HG4.out.size
                  clear hwb0
                  have HOE := Lib.hid HO4.out.es
                  have HRH := Lib.hid (run_head (P := Tryz.prog) 46 30 Tryz.underlying46 sizeOfRE (n := acc.length) (cap := oc) hpl a (by omega))
                  obtain ⟨q2, hq2, hq3⟩ := run_tail (P := Tryz.prog) 46 30 Tryz.underlying46 sizeOfRE (n := acc.length) (cap := oc) hpl a (by omega) (by omega)
                  have HQ3 := Lib.hid hq3
                  have hq1 := HRH.out
                  have HTK := Lib.hid (HOE.out.take a (by omega))
                  clear hq3
                  go_wp2_with (at_builtin; refine wpList_append_es rfl _ _ 46 30 (by rfl) _ Tryz.underlying46 Tryz.infoRE rfl wb.heap.size _ _ [] (acc.take a) (by rfl) (OwnE.nil _ _ _) _ (by rfl) HTK.out ?a1 ?a2 ?_)
                  case a1 => simp; omega
                  case a2 => exact Nat.le_refl _
                  intro v5 w5 ho5 hg5 _
                  have hg5n : wb.grownBy w5 none := hg5
                  try rw [List.nil_append] at ho5
                  have GA5 := only_alloc (only_refl w5 none) (.cells #[.string x.key, .string x.value] 30)
                  have HO5 := Lib.hid (ho5.grown GA5)
                  have hb5 := Lib.hid (fun k e => (ho5.lt k e).1)
                  have HG5 := Lib.hid (only_trans HG4.out (only_trans hg5n GA5))
                  have HX5 := Lib.hid (HOE.out.grown (only_trans hg5n GA5))
                  have HONE := Lib.hid (es_one w5 x 30)
                  have hw5 : wb.heap.size ≤ w5.heap.size := hg5n.size
                  obtain ⟨d0, d1⟩ := HD4.out.grown hg5n
                  clear ho5 hg5 hg5n GA5 hq1
                  go_wp2_with (at_builtin; refine wpList_append_es rfl _ _ 46 30 (by rfl) _ Tryz.underlying46 Tryz.infoRE rfl wb.heap.size _ _ (acc.take a) [x] (by rfl) HO5.out _ (by rfl) HONE.out ?b1 ?b2 ?_)
                  case b1 => simp; omega
                  case b2 => simp; omega
                  intro v6 w6 ho6 hg6 _
                  have HO6 := Lib.hid ho6
                  have hb6 := Lib.hid (fun k e => (ho6.lt k e).1)
                  have HG6 := Lib.hid (only_row HG5.out hg6 (fun k e => Nat.le_trans hwb (hb5.out k e)))
                  have HX6 := Lib.hid ((HX5.out.kept (T := fun k => v5.ownBlock = some k) (Chg.of_grown hg6 (fun k e => .inl e)) (fun k e => hb5.out k e)).drop a (by omega) q2 HQ3.out)
                  have hw6 : wb.heap.size ≤ w6.heap.size := by have := hg6.size; simp at this; omega
                  clear ho6 hg6 d0 d1
                  go_wp2_with (at_builtin; refine wpList_append_es rfl _ _ 46 30 (by rfl) _ Tryz.underlying46 Tryz.infoRE rfl wb.heap.size _ _ (acc.take a ++ [x]) (acc.drop a) (by rfl) HO6.out _ (by rfl) HX6.out ?e1 ?e2 ?_)
                  case e1 => simp; omega
                  case e2 => exact hw6
                  intro v7 w7 ho7 hg7 _
                  have HO7 := Lib.hid (ho7.mono hwb)
                  have HG7 := Lib.hid (only_row HG6.out hg7 (fun k e => Nat.le_trans hwb (hb6.out k e)))
                  clear ho7 hg7
                  go_wp2_with fail
                  
                  go_roundw
                  case rel => exact ⟨i + 1, by omega, by go_num, by rw [HSN.out, HPL.out]; simpa using HO7.out, HG7.out⟩
                  case measure => simp [intOf]; omega
                · have hali : ¬ (a : Int) < (acc.length : Int) := by omega
                  go_wp2_with fail
                  refine wp_region_gw wr none (by kernel_rfl) (by kernel_rfl) (only_refl _ _) ?_
                  repeat (go_big_quiet_step (fail))
                  refine wpQuiet_nil ?_
                  rintro wb ⟨⟨_, hwb0⟩, rfl⟩
                  have HG4 := Lib.hid (only_trans HG3.out hwb0)
                  have HO4 := Lib.hid (HO3.out.grown hwb0)
                  have HD4 := Lib.hid (HD3.out.grown hwb0)
                  have hwb : w.heap.size ≤ wb.heap.size := HG4.out.size
                  clear hwb0
                  have HOE := Lib.hid HO4.out.es
                  have HRH := Lib.hid (run_head (P := Tryz.prog) 46 30 Tryz.underlying46 sizeOfRE (n := acc.length) (cap := oc) hpl a (by omega))
                  obtain ⟨q2, hq2, hq3⟩ := run_tail (P := Tryz.prog) 46 30 Tryz.underlying46 sizeOfRE (n := acc.length) (cap := oc) hpl a (by omega) (by omega)
                  have HQ3 := Lib.hid hq3
                  have hq1 := HRH.out
                  have HTK := Lib.hid (HOE.out.take a (by omega))
                  clear hq3
                  go_wp2_with (at_builtin; refine wpList_append_es rfl _ _ 46 30 (by rfl) _ Tryz.underlying46 Tryz.infoRE rfl wb.heap.size _ _ [] (acc.take a) (by rfl) (OwnE.nil _ _ _) _ (by rfl) HTK.out ?a1 ?a2 ?_)
                  case a1 => simp; omega
                  case a2 => exact Nat.le_refl _
                  intro v5 w5 ho5 hg5 _
                  have hg5n : wb.grownBy w5 none := hg5
                  try rw [List.nil_append] at ho5
                  have GA5 := only_alloc (only_refl w5 none) (.cells #[.string x.key, .string x.value] 30)
                  have HO5 := Lib.hid (ho5.grown GA5)
                  have hb5 := Lib.hid (fun k e => (ho5.lt k e).1)
                  have HG5 := Lib.hid (only_trans HG4.out (only_trans hg5n GA5))
                  have HX5 := Lib.hid (HOE.out.grown (only_trans hg5n GA5))
                  have HONE := Lib.hid (es_one w5 x 30)
                  have hw5 : wb.heap.size ≤ w5.heap.size := hg5n.size
                  obtain ⟨d0, d1⟩ := HD4.out.grown hg5n
                  clear ho5 hg5 hg5n GA5 hq1
                  go_wp2_with (at_builtin; refine wpList_append_es rfl _ _ 46 30 (by rfl) _ Tryz.underlying46 Tryz.infoRE rfl wb.heap.size _ _ (acc.take a) [x] (by rfl) HO5.out _ (by rfl) HONE.out ?b1 ?b2 ?_)
                  case b1 => simp; omega
                  case b2 => simp; omega
                  intro v6 w6 ho6 hg6 _
                  have HO6 := Lib.hid ho6
                  have hb6 := Lib.hid (fun k e => (ho6.lt k e).1)
                  have HG6 := Lib.hid (only_row HG5.out hg6 (fun k e => Nat.le_trans hwb (hb5.out k e)))
                  have HX6 := Lib.hid ((HX5.out.kept (T := fun k => v5.ownBlock = some k) (Chg.of_grown hg6 (fun k e => .inl e)) (fun k e => hb5.out k e)).drop a (by omega) q2 HQ3.out)
                  have hw6 : wb.heap.size ≤ w6.heap.size := by have := hg6.size; simp at this; omega
                  clear ho6 hg6 d0 d1
                  go_wp2_with (at_builtin; refine wpList_append_es rfl _ _ 46 30 (by rfl) _ Tryz.underlying46 Tryz.infoRE rfl wb.heap.size _ _ (acc.take a ++ [x]) (acc.drop a) (by rfl) HO6.out _ (by rfl) HX6.out ?e1 ?e2 ?_)
                  case e1 => simp; omega
                  case e2 => exact hw6
                  intro v7 w7 ho7 hg7 _
                  have HO7 := Lib.hid (ho7.mono hwb)
                  have HG7 := Lib.hid (only_row HG6.out hg7 (fun k e => Nat.le_trans hwb (hb6.out k e)))
                  clear ho7 hg7
                  go_wp2_with fail
                  
                  go_roundw
                  case rel => exact ⟨i + 1, by omega, by go_num, by rw [HSN.out, HPL.out]; simpa using HO7.out, HG7.out⟩
                  case measure => simp [intOf]; omega
          · have hie : i = xs.length := by omega
            subst hie
            rw [List.take_length] at HO
            have hln : (sortE xs).length = xs.length := sort_len xs
            generalize sortE xs = L at *
            obtain ⟨ao, oc, hao⟩ := HO.out.es.shape
            have hov := HO.out
            rw [hao] at hov
            obtain ⟨-, -, hoc1, hoc2⟩ := own_plain hov
            unfold maxLen at hoc2
            have HO2 := Lib.hid hov.es
            have GWR := Lib.hid (only_refl wr none)
            rename World => w2
            have HGX := Lib.hid HG2.out
            subst hao
            clear hov HO
            rw [← hln] at hxl
            clear hln
            go_wp2_with fail
            go_loopw [11] (fun q wr => ∃ i : Nat, i ≤ L.length ∧ q = .int .i64 (i + 1 : Nat) ∧ w2.grownBy wr none ∧ twiceE L = twiceE (L.drop i)) (fun q _ => L.length + 1 - (intOf q).toNat)
            case atStart => exact ⟨0, Nat.zero_le _, rfl, only_refl _ _, by simp⟩
            case round =>
              obtain ⟨i, hi2, rfl, hg3, htw⟩ := hrel
              have HG3 := Lib.hid hg3
              have HTW := Lib.hid htw
              clear hg3 htw
              by_cases hlt2 : i + 1 < L.length
              · obtain ⟨y, hy⟩ : ∃ y, L[i]? = some y := ⟨L[i]'(by omega), List.getElem?_eq_getElem (by omega)⟩
                obtain ⟨z, hz2⟩ : ∃ z, L[i + 1]? = some z := ⟨L[i + 1], List.getElem?_eq_getElem hlt2⟩
                obtain ⟨g0, o0, cx, hvx, -, m1, m2, e0, e1⟩ := (HO2.out.grown HG3.out).at hy
                simp only [Value.slice.injEq, true_and] at hvx
                obtain ⟨rfl, rfl⟩ := hvx
                obtain ⟨g1, o1, cy, hvy, -, -, -, f0, f1⟩ := (HO2.out.grown HG3.out).at hz2
                simp only [Value.slice.injEq, Option.some.injEq, Addr.mk.injEq, and_true, true_and] at hvy
                obtain ⟨⟨rfl, rfl⟩, rfl⟩ := hvy
                have HTN := Lib.hid (HTW.out.trans (twiceE_at L i y z hy hz2))
                have hk0 := beq_bytes y.key z.key
                have hi1 : (i : Int) + 1 < (L.length : Int) := by omega
                clear hy hz2 HTW
                by_cases hk : y.key = z.key
                · have hkb : (y.key.toList == z.key.toList) = true := by rw [hk0]; simp [hk]
                  have HD := Lib.hid (HD.out.trans (if_pos (by rw [HTN.out]; simp [hk])))
                  clear hk0 hk
                  go_wp2_with fail
                  go_quiet (fail)
                  go_wp2_with fail
                  go_ret2
                  rw [HD.out]
                  exact ⟨_, rfl, Es.nil _ _ _ _, only_drewN (only_trans HGX.out HG3.out) _⟩
                · have hkb : (y.key.toList == z.key.toList) = false := by rw [hk0]; simp [hk]
                  have HTN : Hid (twiceE L = twiceE (L.drop (i + 1))) := by
                    show _ = _
                    rw [HTN.out]; simp [hk]
                  clear hk0 hk
                  go_wp2_with fail
                  go_quiet (fail)
                  go_wp2_with fail
                  go_roundw
                  case rel => exact ⟨i + 1, by omega, by go_num, only_drewN HG3.out _, HTN.out⟩
                  case measure => simp [intOf]; omega
              · have hi1 : ¬ (i : Int) + 1 < (L.length : Int) := by omega
                have HD := Lib.hid (HD.out.trans (if_neg (by rw [HTW.out, twiceE_end L i (by omega)]; simp)))
                go_wp2_with fail
                go_ret2
                rw [HD.out]
                exact ⟨_, rfl, (HO2.out.grown HG3.out).low, only_trans HGX.out HG3.out⟩
    · have hwe : (if countE xs.length ≠ 0 then countE xs.length else firstE xs) = E := HW.out.trans (if_pos h0)
      have HD : Hid (ofD xs = ([], E)) := by
        show _ = _
        rw [HD.out]
        by_cases h : countE xs.length = 0
        · rw [if_neg (by simp [h])]
          rw [if_neg (by simp [h])] at hwe
          rw [hwe, if_pos h0]
        · rw [if_pos h]
          rw [if_pos h] at hwe
          rw [hwe]
      have h0b : ((E : Int) == 0) = false := by simpa using h0
      have hqb : ((E : Int) != 0) = true := by rw [bne_iff_ne]; omega
      clear hwe h0
      by_cases hlt : i < xs.length
      · have hci : (i : Int) < (xs.length : Int) := by omega
        go_wp2_with fail
        go_ret2
        rw [HD.out]
        exact ⟨_, rfl, Es.nil _ _ _ _, HG.out⟩
      · have hci : ¬ (i : Int) < (xs.length : Int) := by omega
        go_wp2_with fail
        go_ret2
        rw [HD.out]
        exact ⟨_, rfl, Es.nil _ _ _ _, HG.out⟩

end Go.Proofs.YtiolkedmpjjojaaGreatDoor.dr
