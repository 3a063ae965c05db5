/-
  The developers' write and Put, Size.
-/
import Derived.Test.YtieheclnkopfpaaGreatDoorWput
namespace Go.Proofs.YtieheclnkopfpaaGreatDoor.ww
open Go.RowKit Go.Proofs.YtieheclnkopfpaaGreatDoor.tr Go.Proofs.YtieheclnkopfpaaGreatDoor.wm Go.Proofs.YtieheclnkopfpaaGreatDoor.vi Go.Proofs.YtieheclnkopfpaaGreatDoor.bd
set_option linter.unusedVariables false
set_option linter.unusedSimpArgs false

theorem encB_list (n : Nat) : (encB n).data.toList = enc n := rfl
theorem encB_size (n : Nat) : (encB n).size = (enc n).length := by rw [encB_txt, txt_size]

set_option maxHeartbeats 16000000 in
set_option maxRecDepth 100000 in
theorem wwrite_any : ∀ (n : Nat) (ts : List Tree), sizeL ts ≤ n → sizeL ts ≤ 100000 → ∀ (d p : Nat), checkL d p ts = 0 → fitsL ts → ∀ (l0 : List UInt8), l0.length + (wrL ts).length ≤ 900000 → ∀ (w : World) (b : Nat) (S T : Nat → Prop) (v : Value), Bld w b S l0 → Rd w T v ts → (∀ k, T k → ¬ S k) →
    Calls Tryz.prog 59 #[.pointer (some ⟨b, 0, none⟩), v] w fun e w' => e = .returned (.tuple #[]) ∧ Chg S w w' ∧ Bld w' b (fun k => S k ∨ w.heap.size ≤ k) (l0 ++ wrL ts) := by
  intro n
  induction n with
  | zero =>
    intro ts hn _ d p _ _ l0 _ w b S T v hB h _
    have hl := len_size ts
    obtain rfl : ts = [] := List.length_eq_zero_iff.1 (by omega)
    obtain ⟨a, cap, rfl⟩ := h.shape
    have HB := Lib.hid hB
    clear hB
    go_enter Tryz.func59, Tryz.ntmps59
    go_wp2_with fail
    refine wp_loop_rounds 1 ?_
    rw [rounds_succ]
    go_wp2_with fail
    go_end0
    exact ⟨rfl, Chg.refl _ _, by rw [wrL_nil, List.append_nil]; exact HB.out.mono fun k _ hk => .inl hk⟩
  | succ n ih =>
    intro ts hn hb d p hc hf l0 hw w b S T v hB h hTS
    have hl := len_size ts
    have HR := Lib.hid h.tight
    have IH := Lib.hid ih
    have HC := Lib.hid hc
    have HF := Lib.hid hf
    have HB0 := Lib.hid hB
    have HTS := Lib.hid hTS
    have hbl := hB.lt
    have hbS := Lib.hid hB.own
    obtain ⟨a, cap, rfl⟩ := h.shape
    clear h ih hc hf hB hTS
    go_enter Tryz.func59, Tryz.ntmps59
    go_wp2_with fail
    go_loopw [8] (fun q wr => ∃ i : Nat, i ≤ ts.length ∧ q = .int .i64 i ∧ Chg S w wr ∧ Bld wr b (fun k => S k ∨ w.heap.size ≤ k) (l0 ++ wrL (ts.take i))) (fun q _ => ts.length - (intOf q).toNat)
    case atStart => exact ⟨0, by omega, rfl, Chg.refl _ _, by rw [List.take_zero, wrL_nil, List.append_nil]; exact HB0.out.mono fun k _ hk => .inl hk⟩
    case round =>
      obtain ⟨i, hi, rfl, hg, hB⟩ := hrel
      have HG := Lib.hid hg
      have HB := Lib.hid hB
      have hsz := hg.size
      clear hg hB
      by_cases hlt : i < ts.length
      · obtain ⟨t, ht⟩ : ∃ t, ts[i]? = some t := ⟨ts[i], List.getElem?_eq_getElem hlt⟩
        have hts := size_mem ht
        obtain ⟨bb, off, cap', lv, hv, h1, h2, h3, h4, hc, hr⟩ := (HR.out.kept HG.out (fun k hk => HTS.out k hk.1)).at ht
        simp only [Value.slice.injEq, true_and] at hv
        obtain ⟨rfl, rfl⟩ := hv
        obtain ⟨c0, c1, c2, c3, c4⟩ := hc
        obtain ⟨g0, g1, g2, g3, g4⟩ := good_at HC.out HF.out ht
        have hsn : wrL (ts.take (i + 1)) = wrL (ts.take i) ++ wrT t := by rw [take_snoc ht, wrL_append, wrL_cons, wrL_nil, List.append_nil]
        have hln : l0.length + (wrL (ts.take i)).length + (wrT t).length ≤ 900000 := by
          have h5 := congrArg List.length hsn
          have h6 := congrArg List.length (show wrL ts = wrL (ts.take (i + 1)) ++ wrL (ts.drop (i + 1)) by rw [← wrL_append, List.take_append_drop])
          rw [List.length_append] at h5 h6
          omega
        obtain ⟨y, hy⟩ : ∃ y : Nat, t.typ = (y : Int) := ⟨t.typ.toNat, by omega⟩
        have hy2 : y ≤ 2 := by omega
        have HL := Lib.hid hr
        have hle := len_size t.list
        have hD := var_new wr 38 t lv
        have HIH := Lib.hid (IH.out t.list (by omega) (by omega) (d + 1) 0 g4 g3)
        have HSZ := Lib.hid (fun h => wsize_any _ t.list (Nat.le_refl _) (by omega) (d + 1) 0 g4 g3 h)
        have HP2 := Lib.hid (fun w => put_any t.num g2 w)
        have HWT : Hid (wrT t = enc (4 * t.tag + y) ++ (if y = 0 then enc t.num else if y = 2 then enc (wrL t.list).length ++ wrL t.list else enc t.text.size ++ t.text.data.toList)) := by
          show wrT t = _
          rw [wr_eq, hy]
          rcases (show y = 0 ∨ y = 1 ∨ y = 2 by omega) with h | h | h <;> rw [h] <;> simp
        have hwt := congrArg List.length HWT.out
        have htx : t.text.data.toList.length = t.text.size := by simp
        have HH := Lib.hid (fun la ll lc w => head_any t.tag y t.num t.text la ll lc g0 hy2 w)
        have HP1 := Lib.hid (fun w => put_any (4 * t.tag + y) (by omega) w)
        have HPN := Lib.hid (fun (k : Nat) (hk : k ≤ 1000000) w => put_any k (by omega) w)
        have HSN := Lib.hid hsn
        have e1 : (encB (4 * t.tag + y)).size = (enc (4 * t.tag + y)).length := encB_size _
        have e2 : (encB t.num).size = (enc t.num).length := encB_size _
        have hk1 : y = 1 → t.text.size ≤ 1000000 := fun h => by rw [if_neg (by omega), if_neg (by omega)] at hwt; simp only [List.length_append] at hwt; omega
        have hk2 : y = 2 → (wrL t.list).length ≤ 1000000 := fun h => by rw [if_neg (by omega), if_pos h] at hwt; simp only [List.length_append] at hwt; omega
        obtain ⟨la, lc, rfl⟩ := hr.shape
        rw [hy] at hD
        have HD := Lib.hid hD
        have HGW := Lib.hid (only_alloc (only_refl wr none) (.cells #[.int .u64 (t.tag : Nat), .int .i64 (y : Int), .int .u64 (t.num : Nat), .string t.text, .slice la t.list.length lc] 38))
        have hsa : (wr.alloc (.cells #[.int .u64 (t.tag : Nat), .int .i64 (y : Int), .int .u64 (t.num : Nat), .string t.text, .slice la t.list.length lc] 38)).heap.size = wr.heap.size + 1 := by simp
        rw [hy] at c1
        have HY := Lib.hid hy
        have HLN := Lib.hid hln
        have HWTL := Lib.hid hwt
        -- the builder's own blocks, those of this world alone
        have HB1 := Lib.hid (HB.out.mono (T := fun k => (S k ∨ w.heap.size ≤ k) ∧ k < wr.heap.size) (fun k hk hs => ⟨hs, hk⟩))
        clear ht hr hsn hD hy g3 g4 hln hwt
        unfold maxLen at h2
        have d1 := var_y HD.out HY.out
        have d0 := HD.out.1
        have d2 := HD.out.2.2.1
        have d3 := HD.out.2.2.2.1
        have d4 := HD.out.2.2.2.2
        go_wp2_with fail
        generalize wr.alloc (.cells #[.int .u64 (t.tag : Nat), .int .i64 (y : Int), .int .u64 (t.num : Nat), .string t.text, .slice la t.list.length lc] 38) = wa at *
        refine (HH.out _ _ _ _).mono ?_
        rintro e w1 ⟨rfl, g1⟩
        clear c0 c1 c2 c3 c4 d0 d1 d2 d3 d4
        have HG1 := Lib.hid (only_trans HGW.out g1)
        have HD1 := Lib.hid (HD.out.grown g1)
        clear g1
        go_wp2_with fail
        refine (HP1.out _).mono ?_
        rintro e w2 ⟨rfl, g2'⟩
        have HG2 := Lib.hid (only_trans HG1.out g2')
        have HD2 := Lib.hid (HD1.out.grown g2')
        have hs2 : wr.heap.size + 1 ≤ w2.heap.size := by have := g2'.size; have := HG1.out.size; have h0 := World.block_lt_of_cell? w1 ⟨wr.heap.size, 0, none⟩ HD1.out.1; simp only at h0; omega
        have HB2 := Lib.hid (HB1.out.kept (T := fun _ => False) (Chg.of_none HG2.out) (fun _ _ e => e))
        clear g2'
        go_wp2_with fail
        refine (write_any b _ _ (encB (4 * t.tag + y)) w2 HB2.out (by rw [List.length_append, e1]; have := HLN.out; have := HWTL.out; simp only [List.length_append] at this; omega)).mono ?_
        rintro e w3 ⟨rfl, g3, hB3⟩
        have hs3 := g3.size
        have HD3 := Lib.hid (HD2.out.kept g3 (fun hk => by omega))
        have HC3 := Lib.hid ((Chg.of_none (S := fun k => (S k ∨ w.heap.size ≤ k) ∧ k < wr.heap.size) HG2.out).trans' g3)
        have HB3 := Lib.hid (hB3.mono (T := fun k => ((S k ∨ w.heap.size ≤ k) ∧ k < wr.heap.size) ∨ (w2.heap.size ≤ k ∧ k < w3.heap.size)) (fun k hk hs => by
          rcases hs with hs | hs
          · exact .inl hs
          · exact .inr ⟨hs, hk⟩))
        rw [encB_list] at HB3
        clear g3 hB3
        have d1 := var_y HD3.out HY.out
        have d2 := HD3.out.2.2.1
        have d3 := HD3.out.2.2.2.1
        have d4 := HD3.out.2.2.2.2
        rcases (show y = 0 ∨ y = 1 ∨ y = 2 by omega) with h0 | h0 | h0
        · have HE : Hid (l0 ++ wrL (ts.take i) ++ enc (4 * t.tag + y) ++ enc t.num = l0 ++ wrL (ts.take (i + 1))) := by show _ = _; rw [HSN.out, HWT.out, if_pos h0]; simp only [List.append_assoc]
          have hlen : (l0 ++ wrL (ts.take i) ++ enc (4 * t.tag + y)).length + (encB t.num).size ≤ 1000000 := by
            have h5 := HWTL.out
            rw [if_pos h0] at h5
            simp only [List.length_append] at h5 ⊢
            have := HLN.out; omega
          have HLE := Lib.hid hlen
          subst h0
          clear hk1 hk2 HWT HWTL HIH HSZ hlen
          go_wp2_with fail
          refine (HP2.out _).mono ?_
          rintro e w4 ⟨rfl, g4⟩
          have HG4 := Lib.hid g4
          clear d1 d2 d3 d4 g4
          go_wp2_with fail
          refine (write_any b _ _ (encB t.num) w4 (HB3.out.kept (T := fun _ => False) (Chg.of_none HG4.out) (fun _ _ e => e)) HLE.out).mono ?_
          rintro e w5 ⟨rfl, g5, hB5⟩
          have HCE : Hid (Chg S w w5) := HG.out.trans ((HC3.out.trans (T := fun _ => False) (Chg.of_none HG4.out) (fun _ e => e.elim)).trans g5 (fun k hk => by rcases hk with hk | hk; exact .inl hk; exact .inr (by omega))) (fun k hk => hk.1)
          have HBE := Lib.hid (hB5.mono (T := fun k => S k ∨ w.heap.size ≤ k) (fun k _ hk => by have := HG4.out.size; rcases hk with (hk | hk) | hk; exact hk.1; exact .inr (by omega); exact .inr (by omega)))
          rw [encB_list, HE.out] at HBE
          clear g5 hB5
          go_wp2_with fail
          go_roundw
          case rel => exact ⟨i + 1, by omega, by go_num, HCE.out, HBE.out⟩
          case measure => simp [intOf]; omega
        · have HE : Hid (l0 ++ wrL (ts.take i) ++ enc (4 * t.tag + y) ++ enc t.text.size ++ t.text.data.toList = l0 ++ wrL (ts.take (i + 1))) := by show _ = _; rw [HSN.out, HWT.out, if_neg (by omega), if_neg (by omega)]; simp only [List.append_assoc]
          have hk := hk1 h0
          have e4 : (encB t.text.size).size = (enc t.text.size).length := encB_size _
          have hlen : (l0 ++ wrL (ts.take i) ++ enc (4 * t.tag + y)).length + (encB t.text.size).size ≤ 1000000 ∧ (l0 ++ wrL (ts.take i) ++ enc (4 * t.tag + y) ++ enc t.text.size).length + t.text.size ≤ 1000000 := by
            have h5 := HWTL.out
            rw [if_neg (by omega), if_neg (by omega)] at h5
            simp only [List.length_append] at h5 ⊢
            have := HLN.out; omega
          have HLE := Lib.hid hlen
          have HP4 := Lib.hid (HPN.out _ hk)
          subst h0
          clear hk1 hk2 HWT HWTL HIH HSZ hlen
          go_wp2_with fail
          refine (HP4.out _).mono ?_
          rintro e w4 ⟨rfl, g4⟩
          have HG4 := Lib.hid g4
          have hs4 := g4.size
          have HD4 := Lib.hid (HD3.out.grown g4)
          clear d1 d2 d3 d4 g4
          go_wp2_with fail
          refine (write_any b _ _ (encB t.text.size) w4 (HB3.out.kept (T := fun _ => False) (Chg.of_none HG4.out) (fun _ _ e => e)) HLE.out.1).mono ?_
          rintro e w5 ⟨rfl, g5, hB5⟩
          have HD5 := Lib.hid (HD4.out.kept g5 (fun hk => by omega))
          have hs5 := g5.size
          have HC5 : Hid (Chg (fun k => (S k ∨ w.heap.size ≤ k) ∧ k < wr.heap.size) wr w5) := (HC3.out.trans (T := fun _ => False) (Chg.of_none HG4.out) (fun _ e => e.elim)).trans g5 (fun k hk => by rcases hk with hk | hk; exact .inl hk; exact .inr (by omega))
          have HB5 := Lib.hid hB5
          rw [encB_list] at HB5
          clear g5 hB5
          have d3 := HD5.out.2.2.2.1
          go_wp2_with fail
          refine (write_any b _ _ t.text w5 HB5.out HLE.out.2).mono ?_
          rintro e w6 ⟨rfl, g6, hB6⟩
          have HCE : Hid (Chg S w w6) := HG.out.trans (HC5.out.trans g6 (fun k hk => by rcases hk with (hk | hk) | hk; exact .inl hk; exact .inr (by omega); exact .inr (by omega))) (fun k hk => hk.1)
          have HBE := Lib.hid (hB6.mono (T := fun k => S k ∨ w.heap.size ≤ k) (fun k _ hk => by rcases hk with ((hk | hk) | hk) | hk; exact hk.1; exact .inr (by omega); exact .inr (by omega); exact .inr (by omega)))
          rw [HE.out] at HBE
          clear g6 hB6 d3
          go_wp2_with fail
          go_roundw
          case rel => exact ⟨i + 1, by omega, by go_num, HCE.out, HBE.out⟩
          case measure => simp [intOf]; omega
        · have HE : Hid (l0 ++ wrL (ts.take i) ++ enc (4 * t.tag + y) ++ enc (wrL t.list).length ++ wrL t.list = l0 ++ wrL (ts.take (i + 1))) := by show _ = _; rw [HSN.out, HWT.out, if_neg (by omega), if_pos h0]; simp only [List.append_assoc]
          have hk := hk2 h0
          have e4 : (encB (wrL t.list).length).size = (enc (wrL t.list).length).length := encB_size _
          have hlen : (l0 ++ wrL (ts.take i) ++ enc (4 * t.tag + y)).length + (encB (wrL t.list).length).size ≤ 1000000 ∧ (l0 ++ wrL (ts.take i) ++ enc (4 * t.tag + y) ++ enc (wrL t.list).length).length + (wrL t.list).length ≤ 900000 := by
            have h5 := HWTL.out
            rw [if_neg (by omega), if_pos h0] at h5
            simp only [List.length_append] at h5 ⊢
            have := HLN.out; omega
          have HLE := Lib.hid hlen
          have HP4 := Lib.hid (HPN.out _ hk)
          have HL3 := Lib.hid (HL.out.kept HC3.out (fun k hk hk2 => by rcases hk2.1 with h | h; exact HTS.out k hk.1 h; have := hk.2; omega))
          have HS4 := Lib.hid (HSZ.out hk w3 _ _ HL3.out)
          have hkb : ((wrL t.list).length : Int) % 18446744073709551616 = ((wrL t.list).length : Int) := by omega
          subst h0
          clear hk1 hk2 HWT HWTL HSZ hlen
          go_wp2_with fail
          refine HS4.out.mono ?_
          rintro e w4 ⟨rfl, g4⟩
          have HG4 := Lib.hid g4
          clear g4
          go_wp2_with fail
          refine (HP4.out _).mono ?_
          rintro e w5 ⟨rfl, g5⟩
          have HG5 := Lib.hid (only_trans HG4.out g5)
          have hs5 := HG5.out.size
          have HD5 := Lib.hid (HD3.out.grown HG5.out)
          have HL5 := Lib.hid (HL3.out.grown HG5.out)
          clear d1 d2 d3 d4 g5
          go_wp2_with fail
          refine (write_any b _ _ (encB (wrL t.list).length) w5 (HB3.out.kept (T := fun _ => False) (Chg.of_none HG5.out) (fun _ _ e => e)) HLE.out.1).mono ?_
          rintro e w6 ⟨rfl, g6, hB6⟩
          have HD6 := Lib.hid (HD5.out.kept g6 (fun hk => by omega))
          have hs6 := g6.size
          have HL6 := Lib.hid (HL5.out.kept g6 (fun k hk hk2 => by have := hk.2; rcases hk2 with h | h; (rcases h.1 with h | h; exact HTS.out k hk.1 h; omega); omega))
          have HC6 : Hid (Chg (fun k => (S k ∨ w.heap.size ≤ k) ∧ k < wr.heap.size) wr w6) := (HC3.out.trans (T := fun _ => False) (Chg.of_none HG5.out) (fun _ e => e.elim)).trans g6 (fun k hk => by rcases hk with hk | hk; exact .inl hk; exact .inr (by omega))
          have HB6 := Lib.hid hB6
          rw [encB_list] at HB6
          clear g6 hB6
          have d4 := HD6.out.2.2.2.2
          have HW7 := Lib.hid (HIH.out _ HLE.out.2 w6 b _ _ _ HB6.out HL6.out (fun k hk hk2 => by have := hk.2; rcases hk2 with (h | h) | h; (rcases h.1 with h | h; exact HTS.out k hk.1 h; omega); omega; omega))
          go_wp2_with fail
          refine HW7.out.mono ?_
          rintro e w7 ⟨rfl, g7, hB7⟩
          have HCE : Hid (Chg S w w7) := HG.out.trans (HC6.out.trans g7 (fun k hk => by rcases hk with (hk | hk) | hk; exact .inl hk; exact .inr (by omega); exact .inr (by omega))) (fun k hk => hk.1)
          have HBE := Lib.hid (hB7.mono (T := fun k => S k ∨ w.heap.size ≤ k) (fun k _ hk => by rcases hk with ((hk | hk) | hk) | hk; exact hk.1; exact .inr (by omega); exact .inr (by omega); exact .inr (by omega)))
          rw [HE.out] at HBE
          clear g7 hB7 d4
          go_wp2_with fail
          go_roundw
          case rel => exact ⟨i + 1, by omega, by go_num, HCE.out, HBE.out⟩
          case measure => simp [intOf]; omega
      · have hie : i = ts.length := by omega
        subst hie
        rw [List.take_length] at HB
        go_wp2_with fail
        go_end0
        exact ⟨rfl, HG.out, HB.out⟩

end Go.Proofs.YtieheclnkopfpaaGreatDoor.ww
