/-
  The developers' reader of fields: ways, checkHead, and how each type is read (num, text, list).
-/
import Derived.Test.YtigmfbmjfjkfjaaDoorWmore
import Derived.Test.YtigmfbmjfjkfjaaDoorWread
import Derived.Test.YtigmfbmjfjkfjaaDoorBundA
import Derived.Laws.EntriesVeiled
namespace Go.Proofs.YtigmfbmjfjkfjaaDoor.ww
open Go.RowKit Go.Proofs.YtigmfbmjfjkfjaaDoor.tr Go.Proofs.YtigmfbmjfjkfjaaDoor.wm Go.Proofs.YtigmfbmjfjkfjaaDoor.vi Go.Proofs.YtigmfbmjfjkfjaaDoor.cur
set_option linter.unusedVariables false
set_option linter.unusedSimpArgs false

/-- A reader in block r, its cursor in block c: over s, at place k, within so many lists, behind that tag. -/
structure Rdr (w : World) (r c : Nat) (s : ByteArray) (k D p : Nat) : Prop where
  cur : Cur w c s k
  row : w.heap[r]? = some (.cells #[.pointer (some ⟨c, 0, none⟩), .int .i64 (D : Nat), .int .u64 (p : Nat)] 74 (0, 0))
  ne : r ≠ c

/-- A field's variable. -/
def Slot (w : World) (f a y n : Nat) (x : ByteArray) (lv : Value) : Prop :=
  w.heap[f]? = some (.cells #[.int .u64 (a : Nat), .int .i64 (y : Nat), .int .u64 (n : Nat), .string x, lv] 41 (0, 0))

theorem Slot.kept {T : Nat → Prop} {w w' : World} {f a y n : Nat} {x : ByteArray} {lv : Value} (h : Slot w f a y n x lv) (g : Chg T w w') (hf : ¬ T f) : Slot w' f a y n x lv := by
  unfold Slot at *
  rw [g.block f (Array.getElem?_eq_some_iff.1 h).1 hf]; exact h
theorem Slot.lt {w : World} {f a y n : Nat} {x : ByteArray} {lv : Value} (h : Slot w f a y n x lv) : f < w.heap.size := (Array.getElem?_eq_some_iff.1 h).1
theorem Rdr.lt {w : World} {r c : Nat} {s : ByteArray} {k D p : Nat} (h : Rdr w r c s k D p) : r < w.heap.size := (Array.getElem?_eq_some_iff.1 h.row).1
theorem cur_chg {T : Nat → Prop} {w w' : World} {c : Nat} {s : ByteArray} {k : Nat} (h : Cur w c s k) (g : Chg T w w') (hc : ¬ T c) : Cur w' c s k := by
  have e := g.block c h.lt hc
  exact ⟨(World.cell?_of_block (a := ⟨c, 0, none⟩) e).trans h.c0, (World.cell?_of_block (a := ⟨c, 1, none⟩) e).trans h.c1,
    (World.frozen?_of_block (a := ⟨c, 0, none⟩) e).trans h.f0, (World.frozen?_of_block (a := ⟨c, 1, none⟩) e).trans h.f1, h.le, h.hs⟩
theorem Rdr.kept {T : Nat → Prop} {w w' : World} {r c : Nat} {s : ByteArray} {k D p : Nat} (h : Rdr w r c s k D p) (g : Chg T w w') (hr : ¬ T r) (hc : ¬ T c) : Rdr w' r c s k D p :=
  ⟨cur_chg h.cur g hc, by rw [g.block r h.lt hr]; exact h.row, h.ne⟩
/-- The cursor goes on. -/
theorem Rdr.moved {w w' : World} {r c : Nat} {s : ByteArray} {k k' D p : Nat} (h : Rdr w r c s k D p) (hc : Cur w' c s k') (g : w.grownBy w' (some c)) : Rdr w' r c s k' D p :=
  ⟨hc, by rw [g.block r h.lt (fun e => h.ne (Option.some.inj e))]; exact h.row, h.ne⟩

/-- What one of the ways hands back. -/
def WayP (sub : Option (List UInt8 → List Tree × Nat)) (w : World) (c f a y : Nat) (s : ByteArray) (k : Nat) (e : Ending) (w' : World) : Prop :=
  e = .returned (.int .i64 ((bodyW sub y (s.data.toList.drop k)).err : Nat)) ∧ Chg (fun q => q = c ∨ q = f) w w' ∧
  ∃ (k' n : Nat) (x : ByteArray) (lv : Value) (S' : Nat → Prop), Cur w' c s k' ∧ Slot w' f a y n x lv ∧ (∀ q, S' q → w.heap.size ≤ q ∧ q < w'.heap.size) ∧
    ((bodyW sub y (s.data.toList.drop k)).err = 0 → k' = k + (bodyW sub y (s.data.toList.drop k)).len ∧ n = (bodyW sub y (s.data.toList.drop k)).num ∧ x = txt (bodyW sub y (s.data.toList.drop k)).text ∧ Rd w' S' lv (bodyW sub y (s.data.toList.drop k)).list)

theorem ways_any (w : World) : Calls Tryd.prog 48 #[] w fun e w' => e = .returned (.agg #[.func (.func 57) #[] #[], .func (.func 58) #[] #[], .func (.func 59) #[] #[]]) ∧ w.grownBy w' none := by
  go_enter Tryd.func48, Tryd.ntmps48
  go_wp2_with fail
  refine bodyPost_ret (results_cell_row rfl _ _ w.heap.size 98 #[.func (.func 57) #[] #[], .func (.func 58) #[] #[], .func (.func 59) #[] #[]] (0, 0) _ rfl ?_ Tryd.underlying98 rfl (by kernel_rfl)) rfl ⟨rfl, ?_⟩
  · exact heap_alloc_new w _
  · exact only_alloc (only_refl _ _) _

set_option maxHeartbeats 2000000 in
set_option maxRecDepth 100000 in
theorem chead_any (n p : Nat) (hn : n < 18446744073709551616) (la : Option Addr) (ll lc m : Nat) (x : ByteArray) (w : World) (r : Nat) (v0 v1 : Value) (hp : w.heap[r]? = some (.cells #[v0, v1, .int .u64 (p : Nat)] 74 (0, 0))) :
    Calls Tryd.prog 47 #[.pointer (some ⟨r, 0, none⟩), .agg #[.int .u64 ((n / 4 : Nat) : Int), .int .i64 ((n % 4 : Nat) : Int), .int .u64 (m : Nat), .string x, .slice la ll lc]] w fun e w' => e = .returned (.int .i64 (headE n p : Nat)) ∧ w.grownBy w' none := by
  obtain ⟨a, ha⟩ : ∃ a, n / 4 = a := ⟨_, rfl⟩
  obtain ⟨y, hy⟩ : ∃ y, n % 4 = y := ⟨_, rfl⟩
  have hy4 : y < 4 := by omega
  have HE : Hid (headE n p = if a = 0 ∨ 4294967296 < a then 18 else if y = 3 then 8 else if a ≤ p then 7 else 0) := by show _ = _; unfold headE; rw [ha, hy]
  rw [ha, hy]
  have c2 : w.cell? ⟨r, 2, none⟩ = some (.int .u64 (p : Nat)) := by simp [World.cell?, hp]
  have hlt : r < w.heap.size := (Array.getElem?_eq_some_iff.1 hp).1
  clear hp ha hy
  by_cases h0 : a = 0 ∨ 4294967296 < a
  · rw [HE.out, if_pos h0]
    rcases (show a = 0 ∨ (0 < a ∧ 4294967296 < a) by omega) with h | ⟨h, h'⟩
    · have hb : ((a : Int) == 0) = true := by rw [beq_iff_eq]; omega
      clear h0 h HE
      go_enter Tryd.func47, Tryd.ntmps47
      go_wp2_with fail
      go_ret
      exact ⟨rfl, only_alloc (only_refl _ _) _⟩
    · have hb : ((a : Int) == 0) = false := by rw [beq_eq_false_iff_ne]; omega
      have hb2 : (4294967296 : Int) < (a : Int) := by omega
      clear h0 h h' HE
      go_enter Tryd.func47, Tryd.ntmps47
      go_wp2_with fail
      go_ret
      exact ⟨rfl, only_alloc (only_refl _ _) _⟩
  · rw [HE.out, if_neg h0]
    have hb : ((a : Int) == 0) = false := by rw [beq_eq_false_iff_ne]; omega
    have hb2 : ¬ (4294967296 : Int) < (a : Int) := by omega
    by_cases h1 : y = 3
    · rw [if_pos h1]
      subst h1
      clear h0 HE
      go_enter Tryd.func47, Tryd.ntmps47
      go_wp2_with fail
      go_ret
      exact ⟨rfl, only_alloc (only_refl _ _) _⟩
    · rw [if_neg h1]
      have hb3 : ¬ (2 : Int) < (y : Int) := by omega
      by_cases h2 : a ≤ p
      · rw [if_pos h2]
        have hb4 : decide (a ≤ p) = true := by rw [decide_eq_true_eq]; omega
        clear h0 h1 h2 HE
        go_enter Tryd.func47, Tryd.ntmps47
        go_wp2_with fail
        go_quiet (fail)
        go_wp2_with fail
        go_ret
        exact ⟨rfl, only_drewN (only_alloc (only_refl _ _) _) _⟩
      · rw [if_neg h2]
        have hb4 : decide (a ≤ p) = false := by rw [decide_eq_false_iff_not]; omega
        clear h0 h1 h2 HE
        go_enter Tryd.func47, Tryd.ntmps47
        go_wp2_with fail
        go_quiet (fail)
        go_wp2_with fail
        go_ret
        exact ⟨rfl, only_drewN (only_alloc (only_refl _ _) _) _⟩

set_option maxHeartbeats 2000000 in
set_option maxRecDepth 100000 in
theorem num_any (sub : Option (List UInt8 → List Tree × Nat)) (w : World) (r c f a : Nat) (s : ByteArray) (k D p : Nat) (h : Rdr w r c s k D p) (hf : Slot w f a 0 0 ⟨#[]⟩ (.slice none 0 0)) (hfr : f ≠ r) (hfc : f ≠ c) :
    Calls Tryd.prog 57 #[.pointer (some ⟨r, 0, none⟩), .pointer (some ⟨f, 0, none⟩)] w (WayP sub w c f a 0 s k) := by
  have HN := Lib.hid (next_some h.cur)
  have hb := getR_bounds (s.data.toList.drop k)
  have HB : Hid (∀ n m E, getR (s.data.toList.drop k) = (n, m, E) → bodyW sub 0 (s.data.toList.drop k) = if E ≠ 0 then ⟨0, [], [], 0, E⟩ else ⟨n, [], [], m, 0⟩) := fun n m E e => by unfold bodyW; rw [e]; simp
  have r0 : w.cell? ⟨r, 0, none⟩ = some (.pointer (some ⟨c, 0, none⟩)) := by simp [World.cell?, h.row]
  have HF := Lib.hid hf
  obtain ⟨n, m, E, hg⟩ : ∃ n m E, getR (s.data.toList.drop k) = (n, m, E) := ⟨_, _, _, rfl⟩
  have HBW := Lib.hid (HB.out n m E hg)
  rw [hg] at hb HN
  simp only at hb HN
  have HC := Lib.hid hfc
  clear h hf hg HB
  go_enter Tryd.func57, Tryd.ntmps57
  go_wp2_with fail
  refine HN.out.mono ?_
  rintro e w1 ⟨rfl, hc1, g1⟩
  have HC1 := Lib.hid hc1
  have HG1 : Hid (Chg (fun q => q = c ∨ q = f) w w1) := Chg.of_grown g1 (fun q e => .inl (.inl (Option.some.inj e).symm))
  have hs1 : Slot w1 f a 0 0 ⟨#[]⟩ (.slice none 0 0) := HF.out.kept (T := fun q => q = c) (Chg.of_grown g1 (fun q e => .inl (Option.some.inj e).symm)) HC.out
  have HS1 := Lib.hid hs1
  have f2 : w1.cell? ⟨f, 2, none⟩ = some (.int .u64 0) := by unfold Slot at hs1; simp [World.cell?, hs1]
  have x2 : w1.frozen? ⟨f, 2, none⟩ = false := by unfold Slot at hs1; simp [World.frozen?, hs1]
  clear hc1 g1 hs1
  go_wp2_with fail
  go_ret
  have hss : Slot (w1.setCell ⟨f, 2, none⟩ (.int .u64 (n : Nat))) f a 0 n ⟨#[]⟩ (.slice none 0 0) := by
    have := HS1.out
    unfold Slot at this ⊢
    exact heap_setc this
  have hcc : Cur (w1.setCell ⟨f, 2, none⟩ (.int .u64 (n : Nat))) c s (k + m) := cur_chg HC1.out (Chg.set_one w1 f 2 _) (fun e => HC.out e.symm)
  have hch := HG1.out.setCell (p := ⟨f, 2, none⟩) (.inl (.inr rfl)) (.int .u64 (n : Nat))
  unfold WayP
  rw [HBW.out]
  by_cases hE : E = 0
  · subst hE
    exact ⟨rfl, hch, _, _, _, _, fun _ => False, hcc, hss, fun q e => e.elim, fun _ => ⟨rfl, rfl, rfl, .nil _ _⟩⟩
  · rw [if_pos hE]
    exact ⟨rfl, hch, _, _, _, _, fun _ => False, hcc, hss, fun q e => e.elim, fun e => absurd e hE⟩

set_option maxHeartbeats 4000000 in
set_option maxRecDepth 100000 in
theorem text_any (sub : Option (List UInt8 → List Tree × Nat)) (w : World) (r c f a : Nat) (s : ByteArray) (k D p : Nat) (h : Rdr w r c s k D p) (hf : Slot w f a 1 0 ⟨#[]⟩ (.slice none 0 0)) (hfr : f ≠ r) (hfc : f ≠ c) :
    Calls Tryd.prog 58 #[.pointer (some ⟨r, 0, none⟩), .pointer (some ⟨f, 0, none⟩)] w (WayP sub w c f a 1 s k) := by
  have HN := Lib.hid (next_some h.cur)
  have hb := getR_bounds (s.data.toList.drop k)
  have hlen : (s.data.toList.drop k).length = s.size - k := by simp
  rw [hlen] at hb
  have HB : Hid (∀ n m E, getR (s.data.toList.drop k) = (n, m, E) → bodyW sub 1 (s.data.toList.drop k) = if E ≠ 0 then ⟨0, [], [], 0, E⟩ else if s.size - k - m < n then ⟨0, [], [], 0, 1⟩ else ⟨0, ((s.data.toList.drop k).drop m).take n, [], m + n, 0⟩) := fun n m E e => by unfold bodyW; rw [e, hlen]; simp
  have HR := Lib.hid h
  have r0 : w.cell? ⟨r, 0, none⟩ = some (.pointer (some ⟨c, 0, none⟩)) := by simp [World.cell?, h.row]
  have HF := Lib.hid hf
  obtain ⟨n, m, E, hg⟩ : ∃ n m E, getR (s.data.toList.drop k) = (n, m, E) := ⟨_, _, _, rfl⟩
  have HBW := Lib.hid (HB.out n m E hg)
  rw [hg] at hb HN
  simp only at hb HN
  have HC := Lib.hid hfc
  have hkle := h.cur.le
  clear h hf hg HB hlen
  by_cases hE : E = 0
  · subst hE
    have hbw := HBW.out
    rw [if_neg (by simp)] at hbw
    go_enter Tryd.func58, Tryd.ntmps58
    go_wp2_with fail
    refine HN.out.mono ?_
    rintro e w1 ⟨rfl, hc1, g1⟩
    have HC1 := Lib.hid hc1
    have HG1 : Hid (Chg (fun q => q = c ∨ q = f) w w1) := Chg.of_grown g1 (fun q e => .inl (.inl (Option.some.inj e).symm))
    have HS1 : Hid (Slot w1 f a 1 0 ⟨#[]⟩ (.slice none 0 0)) := HF.out.kept (T := fun q => q = c) (Chg.of_grown g1 (fun q e => .inl (Option.some.inj e).symm)) HC.out
    have q0 : w1.cell? ⟨r, 0, none⟩ = some (.pointer (some ⟨c, 0, none⟩)) := by simp [World.cell?, (HR.out.moved hc1 g1).row]
    by_cases hlt : s.size - k - m < n
    · rw [if_pos hlt] at hbw
      have HW := Lib.hid hbw
      have HT := Lib.hid (take_no hc1 n (by omega) hb.1)
      clear hc1 g1 hbw HBW
      go_wp2_with fail
      refine HT.out.mono ?_
      rintro e w2 ⟨rfl, j, rfl⟩
      go_wp2_with fail
      go_ret
      unfold WayP
      rw [HW.out]
      exact ⟨rfl, HG1.out.drewN _, _, _, _, _, fun _ => False, cur_chg (T := fun _ => False) HC1.out ((Chg.refl _ w1).drewN j) (fun e => e), HS1.out.kept (T := fun _ => False) ((Chg.refl _ w1).drewN j) (fun e => e), fun q e => e.elim, fun e => by simp at e⟩
    · rw [if_neg hlt] at hbw
      have HW := Lib.hid hbw
      have HT := Lib.hid (take_ok hc1 n (by omega))
      clear hc1 g1 hbw HBW
      go_wp2_with fail
      refine HT.out.mono ?_
      rintro e w2 ⟨rfl, hc2, g2⟩
      have HC2 := Lib.hid hc2
      have HG2 : Hid (Chg (fun q => q = c ∨ q = f) w w2) := HG1.out.trans (T := fun q => q = c) (Chg.of_grown g2 (fun q e => .inl (Option.some.inj e).symm)) (fun q e => .inl (.inl e))
      have hs2 : Slot w2 f a 1 0 ⟨#[]⟩ (.slice none 0 0) := HS1.out.kept (T := fun q => q = c) (Chg.of_grown g2 (fun q e => .inl (Option.some.inj e).symm)) HC.out
      have HS2 := Lib.hid hs2
      have f3 : w2.cell? ⟨f, 3, none⟩ = some (.string ⟨#[]⟩) := by unfold Slot at hs2; simp [World.cell?, hs2]
      have x3 : w2.frozen? ⟨f, 3, none⟩ = false := by unfold Slot at hs2; simp [World.frozen?, hs2]
      have HX : Hid (s.extract (k + m) (k + m + n) = txt (((s.data.toList.drop k).drop m).take n)) := by show _ = _; rw [← txt_of (s.extract (k + m) (k + m + n)), fm_ext, List.drop_drop]; congr 2; omega
      clear hc2 g2 hs2
      generalize s.extract (k + m) (k + m + n) = X at *
      go_wp2_with fail
      go_ret
      have hss : Slot (w2.setCell ⟨f, 3, none⟩ (.string X)) f a 1 0 X (.slice none 0 0) := by
        have := HS2.out
        unfold Slot at this ⊢
        exact heap_setc this
      unfold WayP
      rw [HW.out]
      exact ⟨rfl, HG2.out.setCell (p := ⟨f, 3, none⟩) (.inl (.inr rfl)) _, _, _, _, _, fun _ => False, cur_chg HC2.out (Chg.set_one w2 f 3 _) (fun e => HC.out e.symm), hss, fun q e => e.elim, fun _ => ⟨Nat.add_assoc k m n, rfl, HX.out, .nil _ _⟩⟩
  · have hqb : ((E : Int) != 0) = true := by rw [bne_iff_ne]; omega
    have hbw := HBW.out
    rw [if_pos hE] at hbw
    have HW := Lib.hid hbw
    have HE := Lib.hid hE
    clear hbw HBW hE
    go_enter Tryd.func58, Tryd.ntmps58
    go_wp2_with fail
    refine HN.out.mono ?_
    rintro e w1 ⟨rfl, hc1, g1⟩
    have HC1 := Lib.hid hc1
    have HG1 : Hid (Chg (fun q => q = c ∨ q = f) w w1) := Chg.of_grown g1 (fun q e => .inl (.inl (Option.some.inj e).symm))
    have HS1 : Hid (Slot w1 f a 1 0 ⟨#[]⟩ (.slice none 0 0)) := HF.out.kept (T := fun q => q = c) (Chg.of_grown g1 (fun q e => .inl (Option.some.inj e).symm)) HC.out
    clear hc1 g1
    go_wp2_with fail
    go_ret
    unfold WayP
    rw [HW.out]
    exact ⟨rfl, HG1.out, _, _, _, _, fun _ => False, HC1.out, HS1.out, fun q e => e.elim, fun e => absurd e HE.out⟩

end Go.Proofs.YtigmfbmjfjkfjaaDoor.ww
