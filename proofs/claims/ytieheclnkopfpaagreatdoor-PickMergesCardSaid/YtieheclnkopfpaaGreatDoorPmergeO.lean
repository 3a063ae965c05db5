/-
  The document's Merge where all lists may be.
-/
import Derived.Test.YtieheclnkopfpaaGreatDoorPslice
namespace Go.Proofs.YtieheclnkopfpaaGreatDoor.pm
open Go.RowKit Go.Proofs.YtieheclnkopfpaaGreatDoor.tr
set_option linter.unusedVariables false
set_option linter.unusedSimpArgs false

theorem insAll_next {out o : List Tree} {fs : List Tree} {t : Tree} (h : insAll out fs = some o) : insAll out (fs ++ [t]) = ins t o := by
  rw [insAll_append, h]
  show (ins t o).bind _ = _
  cases ins t o <;> rfl
theorem insAll_stop {out o : List Tree} {fs gs : List Tree} {t : Tree} (h : insAll out fs = some o) (hn : ins t o = none) : insAll out (fs ++ t :: gs) = none := by
  rw [insAll_append, h]
  show (ins t o).bind _ = _
  rw [hn]; rfl

/-- What the loops keep: the fields so far, in a row of their own behind N, their lists below it. -/
def Acc (B N : Nat) (w : World) (v : Value) (fs acc : List Tree) : Prop :=
  B ≤ N ∧ N ≤ w.heap.size ∧ OwnF 43 N (fun k => k < N) w v acc ∧ insAll [] fs = some acc

theorem acc_len {B N : Nat} {w : World} {v : Value} {fs acc : List Tree} (h : Acc B N w v fs acc) : acc.length = fs.length := by
  have := (insAll_facts fs [] acc List.Pairwise.nil h.2.2.2).2.length_eq
  simpa using this

set_option maxHeartbeats 16000000 in
set_option maxRecDepth 100000 in
theorem rmerge_ok (Ls : List (List Tree)) (hs : sizeL Ls.flatten ≤ 5000) (hok : ∀ l ∈ Ls, checkL 0 0 l = 0) (hsl : ∀ l ∈ Ls, sizeL l ≤ 1000) (w : World) (S : Nat → Prop) (v : Value) (h : Lls w S v Ls) :
    Calls Tryz.prog 19 #[v] w fun e w' => ∃ v', e = .returned (.tuple #[v', .int .i64 ((mergeR Ls).2 : Nat)]) ∧ Rd w' (fun _ => True) v' (mergeR Ls).1 ∧ w.grownBy w' none := by
  have HL := Lib.hid (lls_low h)
  have HOK := Lib.hid hok
  have HSL := Lib.hid hsl
  have hn : Ls.length ≤ 1000 := h.1
  have hfl : Ls.flatten.length ≤ 5000 := by have := len_size Ls.flatten; omega
  have HF0 := Lib.hid (firstErr_all hok)
  obtain ⟨-, a, cap, rfl, -⟩ := h
  clear hok hsl
  go_enter Tryz.func19, Tryz.ntmps19
  go_wp2_with fail
  go_loopw [16] (fun q wr => ∃ i : Nat, i ≤ Ls.length ∧ q = .int .i64 i ∧ w.grownBy wr none) (fun q _ => Ls.length - (intOf q).toNat)
  case atStart => exact ⟨0, Nat.zero_le _, rfl, only_refl _ _⟩
  case round =>
    obtain ⟨i, hi, rfl, hg⟩ := hrel
    have HG := Lib.hid hg
    clear hg
    by_cases hlt : i < Ls.length
    · obtain ⟨l, hl⟩ : ∃ l, Ls[i]? = some l := ⟨Ls[i], List.getElem?_eq_getElem hlt⟩
      have hsl := HSL.out l (List.mem_of_getElem? hl)
      obtain ⟨-, b, off, u, rfl, h1, h2, h3, h4, h5⟩ := (HL.out.grown HG.out).at hl
      have HC := Lib.hid (rcheck_any _ l (Nat.le_refl _) 0 (by omega) wr _ u h4)
      rw [HOK.out l (List.mem_of_getElem? hl)] at HC
      obtain ⟨ua, uc, rfl⟩ := h4.shape
      have hll := len_size l
      unfold maxLen at h2
      clear hl h4
      go_wp2_with fail
      refine HC.out.mono ?_
      rintro e w1 ⟨rfl, g1⟩
      have HG1 := Lib.hid (only_trans HG.out g1)
      clear g1
      go_wp2_with fail
      go_roundw
      case rel => exact ⟨i + 1, by omega, by go_num, HG1.out⟩
      case measure => simp [intOf]; omega
    · have hie : i = Ls.length := by omega
      subst hie
      go_wp2_with fail
      go_loopw [7, 28] (fun va q wr => ∃ (i N : Nat) (acc : List Tree), i ≤ Ls.length ∧ q = .int .i64 i ∧ Acc w.heap.size N wr va (Ls.take i).flatten acc ∧ w.grownBy wr none) (fun _ q _ => Ls.length - (intOf q).toNat)
      case atStart => exact ⟨0, w.heap.size, [], Nat.zero_le _, rfl, ⟨Nat.le_refl _, HG.out.size, (OwnF.nil _ _ _).more (fun k e => e.elim) (fun k e => Nat.lt_of_lt_of_le e HG.out.size) (fun k e => by simp [Value.ownBlock] at e), rfl⟩, HG.out⟩
      case round =>
        obtain ⟨i, N, acc, hi, rfl, ha, hg⟩ := hrel
        have HA := Lib.hid ha
        have HGB := Lib.hid hg
        clear ha hg HG
        by_cases hlt : i < Ls.length
        · obtain ⟨l, hl⟩ : ∃ l, Ls[i]? = some l := ⟨Ls[i], List.getElem?_eq_getElem hlt⟩
          have hsl := HSL.out l (List.mem_of_getElem? hl)
          have hll := len_size l
          have HLX := Lib.hid hl
          obtain ⟨-, b, off, u, rfl, h1, h2, h3, h4, h5⟩ := (HL.out.grown HGB.out).at hl
          have HU : Hid (∀ wr', wr.grownBy wr' none → Rd wr' (fun k => k < w.heap.size) u l) := fun wr' g => h4.grown g
          obtain ⟨ua, uc, rfl⟩ := h4.shape
          have hGW := Lib.hid (only_refl wr none)
          unfold maxLen at h2
          clear hl h4
          rename World => w2
          go_wp2_with fail
          go_loopw [7, 34] (fun va q wr => ∃ (j N : Nat) (acc : List Tree), j ≤ l.length ∧ q = .int .i64 j ∧ Acc w.heap.size N wr va ((Ls.take i).flatten ++ l.take j) acc ∧ w.grownBy wr none ∧ w2.grownBy wr none) (fun _ q _ => l.length - (intOf q).toNat)
          case atStart => exact ⟨0, N, acc, Nat.zero_le _, rfl, by rw [List.take_zero, List.append_nil]; exact HA.out, HGB.out, only_refl _ _⟩
          case round =>
            clear HA
            obtain ⟨j, N, acc, hj, rfl, ha, hg, hg2⟩ := hrel
            have HA := Lib.hid ha
            have HG := Lib.hid hg
            have HG2 := Lib.hid hg2
            have hwz := hg.size
            have hal := acc_len ha
            clear ha hg hg2 HGB
            by_cases hlt2 : j < l.length
            · obtain ⟨t, ht⟩ : ∃ t, l[j]? = some t := ⟨l[j], List.getElem?_eq_getElem hlt2⟩
              have hts := size_mem ht
              obtain ⟨b', off', cap', lv, hv, k1, k2, k3, k4, hc, hr⟩ := (HU.out wr HG2.out).at ht
              simp only [Value.slice.injEq, true_and] at hv
              obtain ⟨rfl, rfl⟩ := hv
              obtain ⟨c0, c1, c2, c3, c4⟩ := hc
              obtain ⟨la, lc, rfl⟩ := hr.shape
              have HTK : Hid (l.take (j + 1) = l.take j ++ [t]) := take_snoc ht
              have HSP : Hid (Ls.flatten = ((Ls.take i).flatten ++ l.take j) ++ t :: (l.drop (j + 1) ++ (Ls.drop (i + 1)).flatten)) := by
                show _ = _
                rw [flat_split HLX.out]
                have h6 : l = l.take j ++ t :: l.drop (j + 1) := split_at ht
                have h7 : l ++ (Ls.drop (i + 1)).flatten = l.take j ++ (t :: (l.drop (j + 1) ++ (Ls.drop (i + 1)).flatten)) := by
                  rw [show l ++ (Ls.drop (i + 1)).flatten = (l.take j ++ t :: l.drop (j + 1)) ++ (Ls.drop (i + 1)).flatten by rw [← h6]]
                  simp only [List.append_assoc, List.cons_append]
                rw [h7, List.append_assoc]
              have hal2 : acc.length ≤ 5000 := by
                have := congrArg List.length HSP.out
                rw [List.length_append, List.length_cons] at this
                omega
              clear hal
              obtain ⟨ao, oc, hao⟩ := HA.out.2.2.1.rd.shape
              have HAO := HA.out
              rw [hao] at HAO
              have HA2 := Lib.hid HAO
              obtain ⟨hpl, -, hoc1, hoc2⟩ := own_plain HAO.2.2.1
              have HD := Lib.hid (var_new wr 43 t (.slice la t.list.length lc))
              have hga := only_alloc (only_refl wr none) (.cells #[.int .u64 (t.tag : Nat), .int .i64 t.typ, .int .u64 (t.num : Nat), .string t.text, .slice la t.list.length lc] 43)
              have HGA := Lib.hid (only_trans HG.out hga)
              have HGA2 := Lib.hid (only_trans HG2.out hga)
              have HOA := Lib.hid (HAO.2.2.1.grown hga)
              have HRA := Lib.hid (hr.grown hga)
              have hN1 := HAO.1
              have hN2 := HAO.2.1
              have hsa : (wr.alloc (.cells #[.int .u64 (t.tag : Nat), .int .i64 t.typ, .int .u64 (t.num : Nat), .string t.text, .slice la t.list.length lc] 43)).heap.size = wr.heap.size + 1 := by simp
              have HINS := Lib.hid HAO.2.2.2
              subst hao
              unfold maxLen at k2 hoc2
              clear ht hr hga HAO
              rename World => w3
              go_wp2_with fail
              generalize hwa : w3.alloc (.cells #[.int .u64 (t.tag : Nat), .int .i64 t.typ, .int .u64 (t.num : Nat), .string t.text, .slice la t.list.length lc] 43) = wa at *
              obtain ⟨d0, d1, d2, d3, d4⟩ := HD.out
              clear c0 c1 c2 c3 c4
              have hpla := place_le t acc
              go_loopw [12] (fun q wr => ∃ a : Nat, a ≤ place t acc ∧ q = .int .i64 a ∧ wa.grownBy wr none) (fun q _ => acc.length - (intOf q).toNat)
              case atStart => exact ⟨0, Nat.zero_le _, rfl, only_refl _ _⟩
              case round =>
                obtain ⟨a, ha, rfl, hg4⟩ := hrel
                have HG4 := Lib.hid hg4
                have HO4 := Lib.hid (HOA.out.grown hg4)
                have HD4 := Lib.hid (HD.out.grown hg4)
                have f0 := HD4.out.1
                clear hg4 d0 d1 d2 d3 d4
                by_cases hap : a < place t acc
                · obtain ⟨x, hx⟩ : ∃ x, acc[a]? = some x := ⟨acc[a]'(by omega), List.getElem?_eq_getElem (by omega)⟩
                  have hxt := place_below t acc a x hap hx
                  obtain ⟨g, o, cx, lx, hvx, m1, m2, m3, m4, hcx, -⟩ := HO4.out.rd.at hx
                  simp only [Value.slice.injEq, true_and] at hvx
                  obtain ⟨rfl, rfl⟩ := hvx
                  have e0 := hcx.c0
                  have hb : decide (x.tag < t.tag) = true := decide_eq_true hxt
                  have hal3 : a < acc.length := by omega
                  clear hx hcx hxt
                  go_wp2_with fail
                  go_quiet (fail)
                  go_wp2_with fail
                  go_roundw
                  case rel => exact ⟨a + 1, by omega, by go_num, only_drewN HG4.out _⟩
                  case measure => simp [intOf]; omega
                · have hae : a = place t acc := by omega
                  have HPL := Lib.hid (ins_place t acc)
                  have HPA := Lib.hid (place_at t acc)
                  have HRH := Lib.hid (run_head (P := Tryz.prog) 33 43 Tryz.underlying33 sizeOfR (n := acc.length) (cap := oc) hpl a (by omega))
                  obtain ⟨q2, hq2, hq3⟩ := run_tail (P := Tryz.prog) 33 43 Tryz.underlying33 sizeOfR (n := acc.length) (cap := oc) hpl a (by omega) (by omega)
                  have HQ2 := Lib.hid hq2
                  have HQ3 := Lib.hid hq3
                  rw [← hae] at HPL HPA
                  clear hap hq2 hq3 hae
                  by_cases hal3 : a < acc.length
                  · obtain ⟨x, hx⟩ : ∃ x, acc[a]? = some x := ⟨acc[a], List.getElem?_eq_getElem hal3⟩
                    have hxt := HPA.out x hx
                    rw [hx] at HPL
                    simp only [Option.map_some, Option.some.injEq] at HPL
                    obtain ⟨g, o, cx, lx, hvx, m1, m2, m3, m4, hcx, -⟩ := HO4.out.rd.at hx
                    simp only [Value.slice.injEq, true_and] at hvx
                    obtain ⟨rfl, rfl⟩ := hvx
                    have e0 := hcx.c0
                    have hb : decide (x.tag < t.tag) = false := decide_eq_false (by omega)
                    clear hx hcx
                    by_cases hxe : x.tag = t.tag
                    · have hb2 : ((x.tag : Int) == (t.tag : Int)) = true := by rw [beq_iff_eq]; omega
                      have HNO : Hid (mergeR Ls = ([], 14)) := by
                        have h8 := HPL.out
                        rw [if_pos hxe] at h8
                        show _ = _
                        unfold mergeR
                        rw [if_neg (by rw [HF0.out]; simp), HSP.out, insAll_stop HINS.out h8]
                      clear hxe hxt
                      go_wp2_with fail
                      go_quiet (fail)
                      go_wp2_with fail
                      go_quiet (fail)
                      go_wp2_with fail
                      go_ret2
                      rw [HNO.out]
                      exact ⟨_, rfl, .nil _ _, only_trans HGA.out (only_drewN (only_drewN HG4.out _) _)⟩
                    · have hb2 : ((x.tag : Int) == (t.tag : Int)) = false := by rw [beq_eq_false_iff_ne]; omega
                      have HYES := Lib.hid HPL.out
                      rw [if_neg hxe] at HYES
                      clear hxe hxt HPL HPA
                      have hq1 := HRH.out
                      have hq2 := HQ2.out
                      have hal4 := HA2.out.2.2.1.all_lt
                      have hw4 : w3.heap.size + 1 ≤ wr.heap.size := by have := HG4.out.size; omega
                      have HRO := Lib.hid (fun m => ((HO4.out.rd.mono (T := fun k => k < w3.heap.size + 1) (fun k _ hk => by have := hal4 k hk; omega)).grown (only_drewN (only_refl wr none) m)))
                      have HNI := Lib.hid (fun m => ((OwnF.nil 43 (w3.heap.size + 1) (wr.drewN m)).more (T := fun k => k < w3.heap.size + 1) (fun k e => e.elim) (fun k e => Nat.lt_of_lt_of_le e hw4) (fun k e => by simp [Value.ownBlock] at e)))
                      have HRT := Lib.hid ((HRA.out.mono (T := fun k => k < w3.heap.size + 1) (fun k _ hk => by omega)).grown HG4.out)
                      go_wp2_with fail
                      go_quiet (fail)
                      go_wp2_with fail
                      go_quiet (fail)
                      go_wp2_with (at_builtin; refine ff.wpList_append_any rfl _ _ _ _ rfl _ Tryz.underlying33 Tryz.infoRefF rfl (w3.heap.size + 1) (fun k => k < w3.heap.size + 1) (fun k => k < w3.heap.size + 1) _ [] (acc.take a) rfl (HNI.out _) _ rfl (Rd.take' (HRO.out _) a (by omega)) ?a1 ?a2 ?a3 ?a4 ?_)
                      case a1 => intro k hk; exact Nat.lt_of_lt_of_le hk hw4
                      case a2 => intro k e; cases (show (none : Option Nat) = some k from e)
                      case a3 => simp; omega
                      case a4 => exact hw4
                      intro v5 w5 ho5 hg5
                      have hg5n : wr.grownBy w5 none := only_trans (only_drewN (only_refl wr none) _) hg5
                      have ho5s := ho5.more (T := fun k => k < w3.heap.size + 1) (fun k hk => by first | exact hk | exact Or.elim hk id id) (fun k hk => by have := hg5n.size; omega) (fun k e => by have := (ho5.lt k e).1; omega)
                      try rw [List.nil_append] at ho5s
                      have HO5 := Lib.hid ho5s
                      have HG5 := Lib.hid hg5n
                      have HR5 := Lib.hid (HRT.out.grown hg5n)
                      have HD5 := Lib.hid (HD4.out.grown hg5n)
                      have HX5 := Lib.hid ((HRO.out 0).grown hg5n)
                      have hw5 : w3.heap.size + 1 ≤ w5.heap.size := by have := hg5n.size; omega
                      have hb5 := Lib.hid (fun k e => (ho5s.lt k e).1)
                      clear ho5 hg5 hg5n ho5s f0 hq1
                      obtain ⟨d0, d1, d2, d3, d4⟩ := HD5.out
                      go_wp2_with (at_builtin; refine wpList_append_fh rfl _ _ _ 43 (by rfl) w5 _ Tryz.underlying33 Tryz.infoRefF rfl (w3.heap.size + 1) (fun k => k < w3.heap.size + 1) (fun k => k < w3.heap.size + 1) _ _ (by rfl) HO5.out t (.slice la t.list.length lc) HR5.out ?b1 ?b2 w5.heap.size rfl (by rfl) ?b3 ?b4 ?_)
                      case b1 => intro k hk; omega
                      case b2 => intro k e hk; have := hb5.out k e; omega
                      case b3 => simp; omega
                      case b4 => exact hw5
                      intro v6 w6 ho6 hg6 _
                      have ho6s := ho6.more (T := fun k => k < w3.heap.size + 1) (fun k hk => by first | exact hk | exact Or.elim hk id id) (fun k hk => by have := hg6.size; omega) (fun k e => by have := (ho6.lt k e).1; omega)
                      have HO6 := Lib.hid ho6s
                      have HX6 := Lib.hid (Rd.drop' (HX5.out.kept (T := fun k => v5.ownBlock = some k) (Chg.of_grown hg6 (fun k e => .inl e)) (fun k hk e => by have := hb5.out k e; omega)) a (by omega) q2 HQ3.out)
                      have HG6 := Lib.hid (fun (u : World) (g : u.grownBy w5 none) (hu : u.heap.size ≤ w3.heap.size) => below_to_none (below_of_only (below_of_none g) hg6 g.size (fun k e => by have := hb5.out k e; omega)))
                      have hb6 := Lib.hid (fun k e => (ho6s.lt k e).1)
                      have hw6 : w3.heap.size + 1 ≤ w6.heap.size := by have := hg6.size; omega
                      clear ho6 hg6 ho6s d0 d1 d2 d3 d4
                      go_wp2_with (at_builtin; refine ff.wpList_append_any rfl _ _ _ _ rfl _ Tryz.underlying33 Tryz.infoRefF rfl (w3.heap.size + 1) (fun k => k < w3.heap.size + 1) (fun k => k < w3.heap.size + 1) _ _ (acc.drop a) (by rfl) HO6.out _ (by rfl) HX6.out ?e1 ?e2 ?e3 ?e4 ?_)
                      case e1 => intro k hk; omega
                      case e2 => intro k e hk; have := hb6.out k e; omega
                      case e3 => simp; omega
                      case e4 => exact hw6
                      intro v7 w7 ho7 hg7
                      have ho7s := ho7.more (T := fun k => k < w3.heap.size + 1) (fun k hk => by first | exact hk | exact Or.elim hk id id) (fun k hk => by have := hg7.size; omega) (fun k e => by have := (ho7.lt k e).1; omega)
                      have HO7 := Lib.hid ho7s
                      have HG7 := Lib.hid (fun (u : World) (g : u.grownBy w5 none) (hu : u.heap.size ≤ w3.heap.size) => below_to_none (below_of_only (below_of_none (HG6.out u g hu)) hg7 (HG6.out u g hu).size (fun k e => by have := hb6.out k e; omega)))
                      have hw7 : w3.heap.size + 1 ≤ w7.heap.size := by have := hg7.size; omega
                      have HEQ : Hid (insAll [] ((Ls.take i).flatten ++ l.take (j + 1)) = some (acc.take a ++ t :: acc.drop a)) := by
                        show _ = _
                        rw [HTK.out, ← List.append_assoc, insAll_next HINS.out, HYES.out]
                      clear ho7 hg7 ho7s
                      go_wp2_with fail
                      go_roundw
                      case rel => exact ⟨j + 1, w3.heap.size + 1, _, by omega, by go_num, ⟨by omega, hw7, HO7.out, HEQ.out⟩, HG7.out w (only_trans HGA.out (only_trans HG4.out HG5.out)) (by omega), HG7.out w2 (only_trans HGA2.out (only_trans HG4.out HG5.out)) (by have := HG2.out.size; omega)⟩
                      case measure => simp [intOf]; omega
                  · have hac : a = acc.length := by omega
                    have HYES := Lib.hid HPL.out
                    rw [List.getElem?_eq_none (by omega)] at HYES
                    simp only [Option.map_none] at HYES
                    rw [if_neg (by simp)] at HYES
                    have hal5 : a ≤ acc.length := by omega
                    clear HPL HPA hac
                    have hq1 := HRH.out
                    have hq2 := HQ2.out
                    have hal4 := HA2.out.2.2.1.all_lt
                    have hw4 : w3.heap.size + 1 ≤ wr.heap.size := by have := HG4.out.size; omega
                    have HRO := Lib.hid (fun m => ((HO4.out.rd.mono (T := fun k => k < w3.heap.size + 1) (fun k _ hk => by have := hal4 k hk; omega)).grown (only_drewN (only_refl wr none) m)))
                    have HNI := Lib.hid (fun m => ((OwnF.nil 43 (w3.heap.size + 1) (wr.drewN m)).more (T := fun k => k < w3.heap.size + 1) (fun k e => e.elim) (fun k e => Nat.lt_of_lt_of_le e hw4) (fun k e => by simp [Value.ownBlock] at e)))
                    have HRT := Lib.hid ((HRA.out.mono (T := fun k => k < w3.heap.size + 1) (fun k _ hk => by omega)).grown HG4.out)
                    go_wp2_with fail
                    go_quiet (fail)
                    go_wp2_with fail
                    go_quiet (fail)
                    go_wp2_with (at_builtin; refine ff.wpList_append_any rfl _ _ _ _ rfl _ Tryz.underlying33 Tryz.infoRefF rfl (w3.heap.size + 1) (fun k => k < w3.heap.size + 1) (fun k => k < w3.heap.size + 1) _ [] (acc.take a) rfl (HNI.out _) _ rfl (Rd.take' (HRO.out _) a (by omega)) ?a1 ?a2 ?a3 ?a4 ?_)
                    case a1 => intro k hk; exact Nat.lt_of_lt_of_le hk hw4
                    case a2 => intro k e; cases (show (none : Option Nat) = some k from e)
                    case a3 => simp; omega
                    case a4 => exact hw4
                    intro v5 w5 ho5 hg5
                    have hg5n : wr.grownBy w5 none := only_trans (only_drewN (only_refl wr none) _) hg5
                    have ho5s := ho5.more (T := fun k => k < w3.heap.size + 1) (fun k hk => by first | exact hk | exact Or.elim hk id id) (fun k hk => by have := hg5n.size; omega) (fun k e => by have := (ho5.lt k e).1; omega)
                    try rw [List.nil_append] at ho5s
                    have HO5 := Lib.hid ho5s
                    have HG5 := Lib.hid hg5n
                    have HR5 := Lib.hid (HRT.out.grown hg5n)
                    have HD5 := Lib.hid (HD4.out.grown hg5n)
                    have HX5 := Lib.hid ((HRO.out 0).grown hg5n)
                    have hw5 : w3.heap.size + 1 ≤ w5.heap.size := by have := hg5n.size; omega
                    have hb5 := Lib.hid (fun k e => (ho5s.lt k e).1)
                    clear ho5 hg5 hg5n ho5s f0 hq1
                    obtain ⟨d0, d1, d2, d3, d4⟩ := HD5.out
                    go_wp2_with (at_builtin; refine wpList_append_fh rfl _ _ _ 43 (by rfl) w5 _ Tryz.underlying33 Tryz.infoRefF rfl (w3.heap.size + 1) (fun k => k < w3.heap.size + 1) (fun k => k < w3.heap.size + 1) _ _ (by rfl) HO5.out t (.slice la t.list.length lc) HR5.out ?b1 ?b2 w5.heap.size rfl (by rfl) ?b3 ?b4 ?_)
                    case b1 => intro k hk; omega
                    case b2 => intro k e hk; have := hb5.out k e; omega
                    case b3 => simp; omega
                    case b4 => exact hw5
                    intro v6 w6 ho6 hg6 _
                    have ho6s := ho6.more (T := fun k => k < w3.heap.size + 1) (fun k hk => by first | exact hk | exact Or.elim hk id id) (fun k hk => by have := hg6.size; omega) (fun k e => by have := (ho6.lt k e).1; omega)
                    have HO6 := Lib.hid ho6s
                    have HX6 := Lib.hid (Rd.drop' (HX5.out.kept (T := fun k => v5.ownBlock = some k) (Chg.of_grown hg6 (fun k e => .inl e)) (fun k hk e => by have := hb5.out k e; omega)) a (by omega) q2 HQ3.out)
                    have HG6 := Lib.hid (fun (u : World) (g : u.grownBy w5 none) (hu : u.heap.size ≤ w3.heap.size) => below_to_none (below_of_only (below_of_none g) hg6 g.size (fun k e => by have := hb5.out k e; omega)))
                    have hb6 := Lib.hid (fun k e => (ho6s.lt k e).1)
                    have hw6 : w3.heap.size + 1 ≤ w6.heap.size := by have := hg6.size; omega
                    clear ho6 hg6 ho6s d0 d1 d2 d3 d4
                    go_wp2_with (at_builtin; refine ff.wpList_append_any rfl _ _ _ _ rfl _ Tryz.underlying33 Tryz.infoRefF rfl (w3.heap.size + 1) (fun k => k < w3.heap.size + 1) (fun k => k < w3.heap.size + 1) _ _ (acc.drop a) (by rfl) HO6.out _ (by rfl) HX6.out ?e1 ?e2 ?e3 ?e4 ?_)
                    case e1 => intro k hk; omega
                    case e2 => intro k e hk; have := hb6.out k e; omega
                    case e3 => simp; omega
                    case e4 => exact hw6
                    intro v7 w7 ho7 hg7
                    have ho7s := ho7.more (T := fun k => k < w3.heap.size + 1) (fun k hk => by first | exact hk | exact Or.elim hk id id) (fun k hk => by have := hg7.size; omega) (fun k e => by have := (ho7.lt k e).1; omega)
                    have HO7 := Lib.hid ho7s
                    have HG7 := Lib.hid (fun (u : World) (g : u.grownBy w5 none) (hu : u.heap.size ≤ w3.heap.size) => below_to_none (below_of_only (below_of_none (HG6.out u g hu)) hg7 (HG6.out u g hu).size (fun k e => by have := hb6.out k e; omega)))
                    have hw7 : w3.heap.size + 1 ≤ w7.heap.size := by have := hg7.size; omega
                    have HEQ : Hid (insAll [] ((Ls.take i).flatten ++ l.take (j + 1)) = some (acc.take a ++ t :: acc.drop a)) := by
                      show _ = _
                      rw [HTK.out, ← List.append_assoc, insAll_next HINS.out, HYES.out]
                    clear ho7 hg7 ho7s
                    go_wp2_with fail
                    go_roundw
                    case rel => exact ⟨j + 1, w3.heap.size + 1, _, by omega, by go_num, ⟨by omega, hw7, HO7.out, HEQ.out⟩, HG7.out w (only_trans HGA.out (only_trans HG4.out HG5.out)) (by omega), HG7.out w2 (only_trans HGA2.out (only_trans HG4.out HG5.out)) (by have := HG2.out.size; omega)⟩
                    case measure => simp [intOf]; omega
            · have hje : j = l.length := by omega
              subst hje
              rw [List.take_length] at HA
              go_wp2_with fail
              go_roundw
              case rel => exact ⟨i + 1, N, acc, by omega, by go_num, by rw [flat_take HLX.out]; exact HA.out, HG.out⟩
              case measure => simp [intOf]; omega
        · have hie : i = Ls.length := by omega
          subst hie
          rw [List.take_length] at HA
          have HM : Hid (mergeR Ls = (acc, 0)) := by
            show _ = _
            unfold mergeR
            rw [if_neg (by rw [HF0.out]; simp), HA.out.2.2.2]
          go_wp2_with fail
          go_ret2
          rw [HM.out]
          exact ⟨_, rfl, HA.out.2.2.1.rd.mono (fun _ _ _ => trivial), HGB.out⟩

end Go.Proofs.YtieheclnkopfpaaGreatDoor.pm
