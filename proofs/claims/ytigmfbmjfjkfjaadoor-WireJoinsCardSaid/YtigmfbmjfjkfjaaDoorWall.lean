/-
  The developers' reading of all fields; Get, First.
-/
import Derived.Test.YtigmfbmjfjkfjaaDoorWnext
namespace Go.Proofs.YtigmfbmjfjkfjaaDoor.ww
open Go.RowKit Go.Proofs.YtigmfbmjfjkfjaaDoor.tr Go.Proofs.YtigmfbmjfjkfjaaDoor.wm Go.Proofs.YtigmfbmjfjkfjaaDoor.vi Go.Proofs.YtigmfbmjfjkfjaaDoor.cur
set_option linter.unusedVariables false
set_option linter.unusedSimpArgs false

set_option maxHeartbeats 4000000 in
set_option maxRecDepth 100000 in
theorem wall_any (d D : Nat) (hd : D + d = 8) (s : ByteArray) (hsz : s.size ≤ 100000)
    (hnext : ∀ (w : World) (r c k p : Nat), p < 18446744073709551616 → Rdr w r c s k D p → Calls Tryd.prog 33 #[.pointer (some ⟨r, 0, none⟩)] w (NextQ w r c s k D (oneW (subD d) (s.data.toList.drop k) p)))
    (w : World) (r c : Nat) (h : Rdr w r c s 0 D 0) :
    Calls Tryd.prog 31 #[.pointer (some ⟨r, 0, none⟩)] w (AllQ w r c (readD d s.data.toList)) := by
  have HN := Lib.hid hnext
  have hlen : s.data.toList.length = s.size := by simp
  have HLEN := Lib.hid hlen
  have hrl := h.lt
  have hcl := h.cur.lt
  have HR0 := Lib.hid h
  clear hnext hlen h
  go_enter Tryd.func31, Tryd.ntmps31
  go_wp2_with fail
  go_loopg [4] s.size (fun gg v wr => ∃ (k last : Nat) (acc : List Tree) (S' : Nat → Prop), k ≤ s.size ∧ s.size - k ≤ gg ∧ Rdr wr r c s k D last ∧ last < 18446744073709551616 ∧ OwnF 41 w.heap.size S' wr v acc ∧ (∀ k, S' k → w.heap.size ≤ k) ∧ acc.length ≤ k ∧
    Chg (fun j => j = r ∨ j = c) w wr ∧ glueW acc (allW (subD d) (s.data.toList.drop k) last) = readD d s.data.toList)
  case atStart => exact ⟨0, 0, [], fun _ => False, Nat.zero_le _, by omega, HR0.out, by omega, OwnF.nil _ _ _, fun k e => e.elim, by simp, Chg.refl _ _, by rw [List.drop_zero, readD_eq, glueW_nil _ (allW_good _ _ _ _ (Nat.le_refl _))]⟩
  case round =>
    obtain ⟨k, last, acc, S', hk, hgk, hr, hlast, ho, hS, hacc, hg, hall⟩ := hrel
    have HR := Lib.hid hr
    have HW := Lib.hid ho
    have HS := Lib.hid hS
    have HG := Lib.hid hg
    have hsw := hg.size
    have HALL := Lib.hid hall
    have hdl : (s.data.toList.drop k).length = s.size - k := by rw [List.length_drop, HLEN.out]
    have HLF := Lib.hid (left_some hr.cur)
    have HC := Lib.hid (fun n => HN.out (wr.drewN n) r c k last hlast (hr.kept (T := fun _ => False) ((Chg.refl _ wr).drewN n) (fun e => e) (fun e => e)))
    have r0 : wr.cell? ⟨r, 0, none⟩ = some (.pointer (some ⟨c, 0, none⟩)) := by simp [World.cell?, hr.row]
    clear hr ho hS hg hall
    by_cases hend : k = s.size
    · have hnil : s.data.toList.drop k = [] := List.drop_of_length_le (by rw [HLEN.out]; omega)
      rw [hnil, allW_nil] at HALL
      have hX0 : s.size - k = 0 := by omega
      rw [hX0] at HLF
      have HK := Lib.hid hend
      clear HC hnil hend hX0
      go_wp2_with fail
      refine HLF.out.mono ?_
      rintro e w1 ⟨rfl, n1, rfl⟩
      go_wp2_with fail
      go_ret2
      refine ⟨u4, S', ?_, ?_, HS.out, HG.out.drewN _⟩
      · rw [← HALL.out]; simp [glueW]
      · rw [← HALL.out]; simpa [glueW] using HW.out.kept (T := fun _ => False) ((Chg.refl _ wr).drewN n1) (fun _ _ e => e) (fun _ _ e => e)
    · have hne : s.data.toList.drop k ≠ [] := fun h => by rw [h] at hdl; simp at hdl; omega
      have htag := one_tag (subD d) (s.data.toList.drop k) last
      rw [hdl] at htag
      have HDD : Hid (∀ m, (s.data.toList.drop k).drop m = s.data.toList.drop (k + m)) := fun m => by rw [List.drop_drop]
      have HERR := Lib.hid (fun h => @allW_err (subD d) (s.data.toList.drop k) last hne h)
      have HOK := Lib.hid (fun h => @allW_ok (subD d) (s.data.toList.drop k) last hne h)
      have HPOS := Lib.hid (fun h => one_pos (subD d) (s.data.toList.drop k) last h)
      obtain ⟨X, hX, hX0⟩ : ∃ X : Nat, s.size - k = X ∧ 0 < X := ⟨_, rfl, by omega⟩
      rw [hX] at HLF
      generalize hq : oneW (subD d) (s.data.toList.drop k) last = q at *
      clear hq hne
      go_wp2_with fail
      refine HLF.out.mono ?_
      rintro e w1 ⟨rfl, n1, rfl⟩
      go_wp2_with fail
      refine (HC.out n1).mono ?_
      rintro e1 w1 ⟨lv1, S1, rfl, r1, hS1, g1, hrd⟩
      obtain ⟨xa, xc, rfl⟩ := r1.shape
      by_cases he : q.2.2 = 0
      · have heb : ((q.2.2 : Int) != 0) = false := by rw [he]; rfl
        have HQ := Lib.hid (HOK.out he)
        have hpos := HPOS.out he
        have hz1 : wr.heap.size ≤ w1.heap.size := g1.size
        have HV := Lib.hid (var_new w1 41 q.1 (.slice xa q.1.list.length xc))
        have hga := only_alloc (only_refl w1 none) (.cells #[.int .u64 (q.1.tag : Nat), .int .i64 q.1.typ, .int .u64 (q.1.num : Nat), .string q.1.text, .slice xa q.1.list.length xc] 41)
        have g1' : Chg (fun j => j = r ∨ j = c) wr w1 := ((Chg.refl (fun j => j = r ∨ j = c) wr).drewN n1).trans' g1
        have HRA := Lib.hid (r1.grown hga)
        have HO1 := Lib.hid (HW.out.kept g1' (fun j hj hj2 => by have := HS.out j hj; rcases hj2 with h | h <;> omega) (fun j hj hj2 => by have := (HW.out.lt j hj).1; rcases hj2 with h | h <;> omega))
        have HOA := Lib.hid (HO1.out.grown hga)
        have HGA := Lib.hid ((HG.out.trans' g1').of_none' hga)
        have HRD := Lib.hid ((hrd he).kept (T := fun _ => False) (Chg.of_none hga) (fun e => e) (fun e => e))
        have hza : (w1.alloc (.cells #[.int .u64 (q.1.tag : Nat), .int .i64 q.1.typ, .int .u64 (q.1.num : Nat), .string q.1.text, .slice xa q.1.list.length xc] 41)).heap.size = w1.heap.size + 1 := by simp
        have HN1 : Hid (∀ k, S1 k → wr.heap.size ≤ k ∧ k < w1.heap.size) := hS1
        have HB := Lib.hid (fun k e => (HW.out.lt k e).2)
        have HB0 := Lib.hid (fun k e => (HW.out.lt k e).1)
        clear r1 g1 hS1 hga hrd g1' he
        go_wp2_with (at_builtin; refine wpList_append_f rfl _ _ _ 41 (by rfl) (w1.alloc (.cells #[.int .u64 (q.1.tag : Nat), .int .i64 q.1.typ, .int .u64 (q.1.num : Nat), .string q.1.text, .slice xa q.1.list.length xc] 41)) _ Tryd.underlying25 Tryd.infoF rfl w.heap.size S' S1 _ acc (by rfl) HOA.out q.1 (.slice xa q.1.list.length xc) HRA.out ?c1 ?c2 (w1.heap.size + 1) hza (by rfl) ?c3 ?c4 ?_)
        case c1 => intro k hk; have := (HN1.out k hk).2; omega
        case c2 => intro k e hk; have h1 := HB.out k e; have h2 := (HN1.out k hk).1; omega
        case c3 => omega
        case c4 => omega
        intro v7 w7 ho7 g7
        have hc7 : Chg (fun k => u4.ownBlock = some k) _ w7 := Chg.of_grown g7 (fun k e => .inl e)
        have HRD7 := Lib.hid (HRD.out.kept hc7 (fun e => by have := HB0.out _ e; omega) (fun e => by have := HB0.out _ e; omega))
        have HO7 := Lib.hid ho7
        have HG7 : Hid (Chg (fun j => j = r ∨ j = c) w w7) := HGA.out.trans hc7 (fun j hj => .inr (HB0.out j hj))
        clear ho7 g7 hc7
        go_wp2_with fail
        go_roundg (gk - 1)
        case measure => omega
        case rel =>
          refine ⟨k + q.2.1, q.1.tag, acc ++ [q.1], fun k => S' k ∨ S1 k, by omega, by omega, HRD7.out, by omega, HO7.out, fun k hk => ?_, by simp; omega, HG7.out, ?_⟩
          · rcases hk with hk | hk
            · exact HS.out k hk
            · have := (HN1.out k hk).1; omega
          · rw [← HALL.out, HQ.out, HDD.out, glueW_glueW]
      · have heb : ((q.2.2 : Int) != 0) = true := by rw [bne_iff_ne]; omega
        have HQ := Lib.hid (HERR.out (by simpa using he))
        have HRR : Hid (readD d s.data.toList = ([], q.2.2)) := by
          show _ = _
          rw [← HALL.out, HQ.out]
          unfold glueW
          rw [if_pos (by simpa using he)]
        have HGE : Hid (Chg (fun j => j = r ∨ j = c) w w1) := HG.out.trans' (((Chg.refl (fun j => j = r ∨ j = c) wr).drewN n1).trans' g1)
        clear r1 g1 hS1 he hrd
        go_wp2_with fail
        go_ret2
        exact ⟨.slice none 0 0, fun _ => False, by rw [HRR.out]; rfl, by rw [HRR.out]; exact OwnF.nil _ _ _, fun k e => e.elim, by first | exact HGE.out | exact HGE.out.alloc _⟩

/-- The developers' reading of all, however many Lists there may be. -/
theorem wread_any : ∀ (d D : Nat), D + d = 8 → ∀ (s : ByteArray), s.size ≤ 100000 → ∀ (w : World) (r c : Nat), Rdr w r c s 0 D 0 → Calls Tryd.prog 31 #[.pointer (some ⟨r, 0, none⟩)] w (AllQ w r c (readD d s.data.toList))
  | 0, D, hd, s, hs, w, r, c, h => wall_any 0 D hd s hs (fun w r c k p hp h => wnext_any 0 D hd (fun e he => by omega) w r c s k p hs hp h) w r c h
  | d + 1, D, hd, s, hs, w, r, c, h => wall_any (d + 1) D hd s hs (fun w r c k p hp h => wnext_any (d + 1) D hd (fun e he s hs w r c h => by
      obtain rfl : d = e := by omega
      exact wread_any d (D + 1) (by omega) s hs w r c h) w r c s k p hs hp h) w r c h

theorem wfield_any (s : ByteArray) (hs : s.size ≤ 100000) (w : World) (r c k p : Nat) (hp : p < 18446744073709551616) (h : Rdr w r c s k 0 p) : Calls Tryd.prog 33 #[.pointer (some ⟨r, 0, none⟩)] w (NextQ w r c s k 0 (oneW (subD 8) (s.data.toList.drop k) p)) :=
  wnext_any 8 0 rfl (fun e he s hs w r c h => by
    obtain rfl : e = 7 := by omega
    exact wread_any 7 1 rfl s hs w r c h) w r c s k p hs hp h

set_option maxHeartbeats 2000000 in
set_option maxRecDepth 100000 in
theorem get_any (s : ByteArray) (w : World) (hs : s.size ≤ 100000) : Calls Tryd.prog 14 #[.string s] w fun e w' => ∃ v, e = .returned (.tuple #[v, .int .i64 ((getW s.data.toList).2 : Nat)]) ∧ Rd w' (fun _ => True) v (getW s.data.toList).1 ∧ w.grownBy w' none := by
  have hlen : s.data.toList.length = s.size := by simp
  unfold getW
  rw [hlen]
  clear hlen
  by_cases hb : 65536 < s.size
  · rw [if_pos hb]
    go_enter Tryd.func14, Tryd.ntmps14
    go_wp2_with fail
    go_ret2
    exact ⟨.slice none 0 0, rfl, .nil _ _, only_refl _ _⟩
  · rw [if_neg hb]
    have hcu := Cur.new s (by unfold maxLen; omega) w
    have hrn := rdr_new _ w.heap.size 0 s hcu
    have HA := Lib.hid (wread_any 8 0 rfl s hs _ _ _ hrn)
    have HSW : Hid ((w.alloc (.cells #[.string s, .int .i64 0] 93)).heap.size = w.heap.size + 1) := by show _ = _; simp
    have HG0 := Lib.hid (only_alloc (only_alloc (only_refl w none) (.cells #[.string s, .int .i64 0] 93)) (.cells #[.pointer (some ⟨w.heap.size, 0, none⟩), .int .i64 ((0 : Nat) : Int), .int .u64 0] 74))
    have e0 : ((0 : Nat) : Int) = 0 := rfl
    rw [HSW.out] at HA
    rw [e0] at HA HG0
    generalize readD 8 s.data.toList = q at *
    clear hcu hrn e0
    go_enter Tryd.func14, Tryd.ntmps14
    go_wp2_with fail
    refine (over_any _ _).mono ?_
    rintro e w0 ⟨rfl, rfl⟩
    go_wp2_with fail
    refine HA.out.mono ?_
    rintro e1 w1 ⟨v1, S1, rfl, o1, hS1, g1⟩
    have HO1 := Lib.hid o1.rd
    have HG1 : Hid (w.grownBy w1 none) := Chg.none_new HG0.out g1 (fun j hj => by rcases hj with hj | hj <;> omega)
    clear o1 hS1 g1
    go_wp2_with fail
    go_ret2
    exact ⟨v1, rfl, HO1.out.mono (fun _ _ _ => trivial), HG1.out⟩

set_option maxHeartbeats 2000000 in
set_option maxRecDepth 100000 in
theorem first_any (s : ByteArray) (w : World) (hs : s.size ≤ 100000) : Calls Tryd.prog 16 #[.string s] w fun e w' => ∃ lv, e = .returned (.tuple #[.agg #[.int .u64 ((oneW (subD 8) s.data.toList 0).1.tag : Nat), .int .i64 (oneW (subD 8) s.data.toList 0).1.typ, .int .u64 ((oneW (subD 8) s.data.toList 0).1.num : Nat), .string (oneW (subD 8) s.data.toList 0).1.text, lv], .int .i64 ((oneW (subD 8) s.data.toList 0).2.1 : Nat), .int .i64 ((oneW (subD 8) s.data.toList 0).2.2 : Nat)]) ∧
    Rd w' (fun _ => True) lv (oneW (subD 8) s.data.toList 0).1.list ∧ w.grownBy w' none := by
  have hz : (w.alloc (.cells #[.int .u64 0, .int .i64 0, .int .u64 0, .string ⟨#[]⟩, .slice none 0 0] 41)).heap.size = w.heap.size + 1 := by simp
  have hcu := Cur.new s (by unfold maxLen; omega) (w.alloc (.cells #[.int .u64 0, .int .i64 0, .int .u64 0, .string ⟨#[]⟩, .slice none 0 0] 41))
  rw [hz] at hcu
  have hrn := rdr_new _ (w.heap.size + 1) 0 s hcu
  have hz2 : ((w.alloc (.cells #[.int .u64 0, .int .i64 0, .int .u64 0, .string ⟨#[]⟩, .slice none 0 0] 41)).alloc (.cells #[.string s, .int .i64 0] 93)).heap.size = w.heap.size + 2 := by simp
  have HA := Lib.hid (wfield_any s hs _ _ _ 0 0 (by omega) hrn)
  have e0 : ((0 : Nat) : Int) = 0 := rfl
  have HG0 := Lib.hid (only_alloc (only_alloc (only_alloc (only_refl w none) (.cells #[.int .u64 0, .int .i64 0, .int .u64 0, .string ⟨#[]⟩, .slice none 0 0] 41)) (.cells #[.string s, .int .i64 0] 93)) (.cells #[.pointer (some ⟨w.heap.size + 1, 0, none⟩), .int .i64 0, .int .u64 0] 74))
  have HZ0 : Hid ((((w.alloc (.cells #[.int .u64 0, .int .i64 0, .int .u64 0, .string ⟨#[]⟩, .slice none 0 0] 41)).alloc (.cells #[.string s, .int .i64 0] 93)).alloc (.cells #[.pointer (some ⟨w.heap.size + 1, 0, none⟩), .int .i64 0, .int .u64 0] 74)).heap[w.heap.size]? = some (.cells #[.int .u64 0, .int .i64 0, .int .u64 0, .string ⟨#[]⟩, .slice none 0 0] 41 (0, 0))) :=
    (heap_alloc_old _ _ (by simp only [World.alloc, Array.size_push]; omega)).trans ((heap_alloc_old _ _ (by simp)).trans (heap_alloc_new w _))
  rw [hz2, e0, List.drop_zero] at HA
  clear hcu hrn e0 hz
  have HQE := Lib.hid (one_err (subD 8) s.data.toList 0)
  generalize oneW (subD 8) s.data.toList 0 = q at *
  go_enter Tryd.func16, Tryd.ntmps16
  go_wp2_with fail
  refine (over_any _ _).mono ?_
  rintro e w0 ⟨rfl, rfl⟩
  go_wp2_with fail
  refine HA.out.mono ?_
  rintro e1 w1 ⟨lv1, S1, rfl, r1, hS1, g1, hrd⟩
  have hz1 := g1.size
  have HZ1 : Hid (w1.heap[w.heap.size]? = some (.cells #[.int .u64 0, .int .i64 0, .int .u64 0, .string ⟨#[]⟩, .slice none 0 0] 41 (0, 0))) := by
    show _ = _
    rw [g1.block w.heap.size (Array.getElem?_eq_some_iff.1 HZ0.out).1 (fun hj => by rcases hj with hj | hj <;> omega)]; exact HZ0.out
  have HG1 : Hid (w.grownBy w1 none) := Chg.none_new HG0.out g1 (fun j hj => by rcases hj with hj | hj <;> omega)
  have HR1 := Lib.hid r1
  have HS1 : Hid (∀ j, S1 j → w.heap.size < j ∧ j < w1.heap.size) := fun j hj => by
    have h1 := hS1 j hj
    simp only [World.alloc, Array.size_push] at h1
    omega
  have HRD := Lib.hid hrd
  obtain ⟨la, lc, rfl⟩ := r1.shape
  obtain ⟨⟨z0, z1, z2, z3, z4⟩, y0, y1, y2, y3, y4⟩ := five_at HZ1.out
  clear g1 r1 hS1 hrd
  have HV := Lib.hid (var_new w1 41 q.1 (.slice la q.1.list.length lc))
  have hga := only_alloc (only_refl w1 none) (.cells #[.int .u64 (q.1.tag : Nat), .int .i64 q.1.typ, .int .u64 (q.1.num : Nat), .string q.1.text, .slice la q.1.list.length lc] 41)
  have HG2 := Lib.hid (only_trans HG1.out hga)
  have HR2 := Lib.hid (HR1.out.grown hga)
  have HZ2 : Hid ((w1.alloc (.cells #[.int .u64 (q.1.tag : Nat), .int .i64 q.1.typ, .int .u64 (q.1.num : Nat), .string q.1.text, .slice la q.1.list.length lc] 41)).heap[w.heap.size]? = some (.cells #[.int .u64 0, .int .i64 0, .int .u64 0, .string ⟨#[]⟩, .slice none 0 0] 41 (0, 0))) := (heap_alloc_old _ _ (Array.getElem?_eq_some_iff.1 HZ1.out).1).trans HZ1.out
  have hf1 : w.heap.size < w1.heap.size := (Array.getElem?_eq_some_iff.1 HZ1.out).1
  by_cases he : q.2.2 = 0
  · have heb : ((q.2.2 : Int) != 0) = false := by rw [he]; rfl
    have hrd := (HRD.out he).kept (T := fun _ => False) (Chg.of_none hga) (fun e => e) (fun e => e)
    have HCU := Lib.hid (fun W (g : Chg (fun j => j = w.heap.size) (w1.alloc (.cells #[.int .u64 (q.1.tag : Nat), .int .i64 q.1.typ, .int .u64 (q.1.num : Nat), .string q.1.text, .slice la q.1.list.length lc] 41)) W) => at_some (cur_chg hrd.cur g (fun e => by omega)))
    have r0 : (w1.alloc (.cells #[.int .u64 (q.1.tag : Nat), .int .i64 q.1.typ, .int .u64 (q.1.num : Nat), .string q.1.text, .slice la q.1.list.length lc] 41)).cell? ⟨w.heap.size + 2, 0, none⟩ = some (.pointer (some ⟨w.heap.size + 1, 0, none⟩)) := by simp [World.cell?, hrd.row]
    obtain ⟨d0, d1, d2, d3, d4⟩ := HV.out
    obtain ⟨⟨k0, k1, k2, k3, k4⟩, l0, l1, l2, l3, l4⟩ := five_at HZ2.out
    have HE := Lib.hid he
    clear hrd hga z0 z1 z2 z3 z4 y0 y1 y2 y3 y4 he
    go_wp2_with fail
    generalize w1.alloc (.cells #[.int .u64 (q.1.tag : Nat), .int .i64 q.1.typ, .int .u64 (q.1.num : Nat), .string q.1.text, .slice la q.1.list.length lc] 41) = w2 at *
    generalize w1.heap.size = fb at *
    generalize hgb : w.heap.size = gb at *
    have hne : gb ≠ fb := by omega
    have hne2 : fb ≠ gb := by omega
    go_region_held3 (fun w' => (w'.cell? ⟨fb, 0, none⟩ = some (.int .u64 (q.1.tag : Nat)) ∧ w'.cell? ⟨fb, 1, none⟩ = some (.int .i64 q.1.typ) ∧ w'.cell? ⟨fb, 2, none⟩ = some (.int .u64 (q.1.num : Nat)) ∧ w'.cell? ⟨fb, 3, none⟩ = some (.string q.1.text) ∧ w'.cell? ⟨fb, 4, none⟩ = some (.slice la q.1.list.length lc)) ∧ w'.cell? ⟨gb + 2, 0, none⟩ = some (.pointer (some ⟨gb + 1, 0, none⟩)))
      (go_keep)
      (first | (go_at_call 34; refine (HCU.out _ (by first | exact (Chg.refl _ _).drew | exact ((Chg.refl (fun j => j = gb) w2).drew).trans' (five_sets' w2.drew gb _ _ _ _ _))).mono ?_; rintro e wz ⟨rfl, rfl⟩))
    have g5 := five_sets' w2 gb (.int .u64 (q.1.tag : Nat)) (.int .i64 q.1.typ) (.int .u64 (q.1.num : Nat)) (.string q.1.text) (.slice la q.1.list.length lc)
    go_wp2_with fail
    exact bodyPost_ret (results_cell3 rfl _ _ gb 41 #[.int .u64 (q.1.tag : Nat), .int .i64 q.1.typ, .int .u64 (q.1.num : Nat), .string q.1.text, .slice la q.1.list.length lc] (0, 0) _ rfl (heap_five HZ2.out _ _ _ _ _) Tryd.underlying41 rfl (by kernel_rfl)) rfl ⟨.slice la q.1.list.length lc, by rw [HE.out]; simp, (HR2.out.kept (T := fun j => j = gb) g5.drew (fun j hj e => by have := (HS1.out j hj).1; omega)).mono (fun _ _ _ => trivial), only_drew (Chg.none_new HG2.out g5 (fun j hj => by omega))⟩
  · have heb : ((q.2.2 : Int) != 0) = true := by rw [bne_iff_ne]; omega
    have HQ : Hid (q.1 = zeroT ∧ q.2.1 = 0) := HQE.out he
    clear hga
    have g5 := five_sets' w1 w.heap.size (.int .u64 0) (.int .i64 0) (.int .u64 0) (.string ⟨#[]⟩) (.slice none 0 0)
    go_wp2_with fail
    exact bodyPost_ret (results_cell3 rfl _ _ w.heap.size 41 #[.int .u64 0, .int .i64 0, .int .u64 0, .string ⟨#[]⟩, .slice none 0 0] (0, 0) _ rfl ((heap_alloc_old _ _ (by have := g5.size; omega)).trans (heap_five HZ1.out _ _ _ _ _)) Tryd.underlying41 rfl (by kernel_rfl)) rfl ⟨.slice none 0 0, by rw [HQ.out.1, HQ.out.2]; rfl, by rw [HQ.out.1]; exact .nil _ _, only_alloc (Chg.none_new HG1.out g5 (fun j hj => by omega)) _⟩

end Go.Proofs.YtigmfbmjfjkfjaaDoor.ww
