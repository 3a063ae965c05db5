/-
  The developers' reader of fields: a List.
-/
import Derived.Test.YtigmfbmjfjkfjaaDoorWways
namespace Go.Proofs.YtigmfbmjfjkfjaaDoor.ww
open Go.RowKit Go.Proofs.YtigmfbmjfjkfjaaDoor.tr Go.Proofs.YtigmfbmjfjkfjaaDoor.wm Go.Proofs.YtigmfbmjfjkfjaaDoor.vi Go.Proofs.YtigmfbmjfjkfjaaDoor.cur
set_option linter.unusedVariables false
set_option linter.unusedSimpArgs false

/-- What the reading of all that is left hands back. -/
def AllQ (w : World) (r c : Nat) (q : List Tree × Nat) (e : Ending) (w' : World) : Prop :=
  ∃ v S', e = .returned (.tuple #[v, .int .i64 (q.2 : Nat)]) ∧ OwnF 41 w.heap.size S' w' v q.1 ∧ (∀ k, S' k → w.heap.size ≤ k) ∧ Chg (fun k => k = r ∨ k = c) w w'

theorem rdr_new (w : World) (c D : Nat) (s : ByteArray) (h : Cur w c s 0) : Rdr (w.alloc (.cells #[.pointer (some ⟨c, 0, none⟩), .int .i64 (D : Nat), .int .u64 0] 74)) w.heap.size c s 0 D 0 :=
  ⟨cur_chg (T := fun _ => False) h ((Chg.refl _ w).alloc _) (fun e => e), heap_alloc_new w _, by have := h.lt; omega⟩

set_option maxHeartbeats 8000000 in
set_option maxRecDepth 100000 in
theorem list_any (d D : Nat) (hd : D + d = 8) (hall : ∀ e, d = e + 1 → ∀ (s : ByteArray), s.size ≤ 100000 → ∀ (w : World) (r c : Nat), Rdr w r c s 0 (D + 1) 0 → Calls Tryd.prog 31 #[.pointer (some ⟨r, 0, none⟩)] w (AllQ w r c (readD e s.data.toList)))
    (w : World) (r c f a : Nat) (s : ByteArray) (k p : Nat) (hsz : s.size ≤ 100000) (h : Rdr w r c s k D p) (hf : Slot w f a 2 0 ⟨#[]⟩ (.slice none 0 0)) (hfr : f ≠ r) (hfc : f ≠ c) :
    Calls Tryd.prog 59 #[.pointer (some ⟨r, 0, none⟩), .pointer (some ⟨f, 0, none⟩)] w (WayP (subD d) w c f a 2 s k) := by
  have HN := Lib.hid (next_some h.cur)
  have hb := getR_bounds (s.data.toList.drop k)
  have hlen : (s.data.toList.drop k).length = s.size - k := by simp
  rw [hlen] at hb
  have HB : Hid (∀ n m E, getR (s.data.toList.drop k) = (n, m, E) → bodyW (subD d) 2 (s.data.toList.drop k) = if E ≠ 0 then ⟨0, [], [], 0, E⟩ else if s.size - k - m < n then ⟨0, [], [], 0, 1⟩ else bodyL (subD d) (((s.data.toList.drop k).drop m).take n) (m + n)) := fun n m E e => by unfold bodyW; rw [e, hlen]; simp
  have HR := Lib.hid h
  have HALL := Lib.hid hall
  have r0 : w.cell? ⟨r, 0, none⟩ = some (.pointer (some ⟨c, 0, none⟩)) := by simp [World.cell?, h.row]
  have HF := Lib.hid hf
  obtain ⟨n, m, E, hg⟩ : ∃ n m E, getR (s.data.toList.drop k) = (n, m, E) := ⟨_, _, _, rfl⟩
  have HBW := Lib.hid (HB.out n m E hg)
  rw [hg] at hb HN
  simp only at hb HN
  have HC := Lib.hid hfc
  have HFR := Lib.hid hfr
  have hflt := hf.lt
  have hkle := h.cur.le
  have hne := Lib.hid h.ne
  clear h hf hg HB hlen hall
  by_cases hE : E = 0
  · subst hE
    have hbw := HBW.out
    rw [if_neg (by simp)] at hbw
    go_enter Tryd.func59, Tryd.ntmps59
    go_wp2_with fail
    refine HN.out.mono ?_
    rintro e w1 ⟨rfl, hc1, g1⟩
    have HC1 := Lib.hid hc1
    have HG1 : Hid (Chg (fun q => q = c ∨ q = f) w w1) := Chg.of_grown g1 (fun q e => .inl (.inl (Option.some.inj e).symm))
    have HS1 : Hid (Slot w1 f a 2 0 ⟨#[]⟩ (.slice none 0 0)) := HF.out.kept (T := fun q => q = c) (Chg.of_grown g1 (fun q e => .inl (Option.some.inj e).symm)) HC.out
    have HR1 := Lib.hid (HR.out.moved hc1 g1)
    have q0 : w1.cell? ⟨r, 0, none⟩ = some (.pointer (some ⟨c, 0, none⟩)) := by simp [World.cell?, HR1.out.row]
    have hz1 := g1.size
    by_cases hlt : s.size - k - m < n
    · rw [if_pos hlt] at hbw
      have HW := Lib.hid hbw
      have HT := Lib.hid (sub_no hc1 n (by omega) hb.1)
      clear hc1 g1 hbw HBW
      go_wp2_with fail
      refine HT.out.mono ?_
      rintro e w2 ⟨rfl, j, rfl⟩
      go_wp2_with fail
      go_ret
      unfold WayP
      rw [HW.out]
      exact ⟨rfl, HG1.out.drewN _, _, _, _, _, fun _ => False, cur_chg (T := fun _ => False) HC1.out ((Chg.refl _ w1).drewN j) (fun e => e), HS1.out.kept (T := fun _ => False) ((Chg.refl _ w1).drewN j) (fun e => e), fun q e => e.elim, fun e => by simp at e⟩
    · rw [if_neg hlt] at hbw
      have HT := Lib.hid (sub_ok hc1 n (by omega))
      have HBX := Lib.hid hbw
      clear hc1 g1 hbw HBW
      go_wp2_with fail
      refine HT.out.mono ?_
      rintro e w2 ⟨c', rfl, hcl, hc', hc2, g2⟩
      have HC2 := Lib.hid hc2
      have HG2 : Hid (Chg (fun q => q = c ∨ q = f) w w2) := HG1.out.trans (T := fun q => q = c) (Chg.of_grown g2 (fun q e => .inl (Option.some.inj e).symm)) (fun q e => .inl (.inl e))
      have HS2 : Hid (Slot w2 f a 2 0 ⟨#[]⟩ (.slice none 0 0)) := HS1.out.kept (T := fun q => q = c) (Chg.of_grown g2 (fun q e => .inl (Option.some.inj e).symm)) HC.out
      have HR2 := Lib.hid (HR1.out.moved hc2 g2)
      have hz2 := g2.size
      have p1 : w2.cell? ⟨r, 1, none⟩ = some (.int .i64 (D : Nat)) := by simp [World.cell?, HR2.out.row]
      have HC' := Lib.hid hc'
      have hclt := hc'.lt
      clear hc2 g2 hc'
      by_cases hd0 : d = 0
      · subst hd0
        have hD8 : (8 : Int) ≤ (D : Int) := by omega
        have HW : Hid (bodyW (subD 0) 2 (s.data.toList.drop k) = ⟨0, [], [], 0, 9⟩) := by show _ = _; rw [HBX.out]; rfl
        clear HBX
        go_wp2_with fail
        go_ret
        unfold WayP
        rw [HW.out]
        exact ⟨rfl, HG2.out, _, _, _, _, fun _ => False, HC2.out, HS2.out, fun q e => e.elim, fun e => by simp at e⟩
      · obtain ⟨e0, rfl⟩ : ∃ e0, d = e0 + 1 := ⟨d - 1, by omega⟩
        have hD8 : ¬ (8 : Int) ≤ (D : Int) := by omega
        have HW : Hid (bodyW (subD (e0 + 1)) 2 (s.data.toList.drop k) = if (readD e0 (((s.data.toList.drop k).drop m).take n)).2 ≠ 0 then ⟨0, [], [], 0, (readD e0 (((s.data.toList.drop k).drop m).take n)).2⟩ else ⟨0, [], (readD e0 (((s.data.toList.drop k).drop m).take n)).1, m + n, 0⟩) := by show _ = _; rw [HBX.out]; rfl
        have hX : (s.extract (k + m) (k + m + n)).data.toList = ((s.data.toList.drop k).drop m).take n := by rw [fm_ext, List.drop_drop]; congr 1; omega
        have hrn := rdr_new w2 c' (D + 1) (s.extract (k + m) (k + m + n)) HC'.out
        have HA := Lib.hid (HALL.out e0 rfl (s.extract (k + m) (k + m + n)) (by simp; omega) _ _ _ hrn)
        rw [hX] at HA
        have hsa : (w2.alloc (.cells #[.pointer (some ⟨c', 0, none⟩), .int .i64 ((D + 1 : Nat) : Int), .int .u64 0] 74)).heap.size = w2.heap.size + 1 := by simp
        have HG3 := Lib.hid (HG2.out.alloc (.cells #[.pointer (some ⟨c', 0, none⟩), .int .i64 ((D + 1 : Nat) : Int), .int .u64 0] 74))
        have HS3 : Hid (Slot (w2.alloc (.cells #[.pointer (some ⟨c', 0, none⟩), .int .i64 ((D + 1 : Nat) : Int), .int .u64 0] 74)) f a 2 0 ⟨#[]⟩ (.slice none 0 0)) := HS2.out.kept (T := fun _ => False) ((Chg.refl _ w2).alloc _) (fun e => e)
        have HC3 : Hid (Cur (w2.alloc (.cells #[.pointer (some ⟨c', 0, none⟩), .int .i64 ((D + 1 : Nat) : Int), .int .u64 0] 74)) c s (k + m + n)) := cur_chg (T := fun _ => False) HC2.out ((Chg.refl _ w2).alloc _) (fun e => e)
        generalize readD e0 (((s.data.toList.drop k).drop m).take n) = q at *
        clear HBX hrn hX
        have hcast : ((D + 1 : Nat) : Int) = (D : Int) + 1 := by omega
        rw [hcast] at HA HG3 HS3 HC3 hsa
        go_wp2_with fail
        refine HA.out.mono ?_
        rintro e w4 ⟨v4, S4, rfl, o4, hS4, g4⟩
        have hz4 := g4.size
        have HG4 : Hid (Chg (fun q => q = c ∨ q = f) w w4) := HG3.out.trans g4 (fun q hq => by rcases hq with hq | hq; exact .inr (by omega); exact .inr (by omega))
        have hclt0 := HC1.out.lt
        have hs4 : Slot w4 f a 2 0 ⟨#[]⟩ (.slice none 0 0) := HS3.out.kept g4 (fun hq => by rcases hq with hq | hq <;> omega)
        have hcc4 : Cur w4 c s (k + m + n) := cur_chg HC3.out g4 (fun hq => by rcases hq with hq | hq <;> omega)
        have HS4 := Lib.hid hs4
        have HCC := Lib.hid hcc4
        have f4 : w4.cell? ⟨f, 4, none⟩ = some (.slice none 0 0) := by unfold Slot at hs4; simp [World.cell?, hs4]
        have x4 : w4.frozen? ⟨f, 4, none⟩ = false := by unfold Slot at hs4; simp [World.frozen?, hs4]
        have HRD := Lib.hid o4.rd
        have HO4 := Lib.hid o4
        have HT4 : Hid (∀ q, (S4 q ∨ v4.ownBlock = some q) → w.heap.size + 0 < q ∧ q < w4.heap.size) := fun q hq => by
          refine ⟨?_, HO4.out.all_lt q hq⟩
          rcases hq with hq | hq
          · have := hS4 q hq; omega
          · have := (HO4.out.lt q hq).1; omega
        obtain ⟨va, vc, rfl⟩ := o4.rd.shape
        clear o4 hS4 g4 hs4 hcc4 HA
        go_wp2_with fail
        go_ret
        have hss : Slot (w4.setCell ⟨f, 4, none⟩ (.slice va q.1.length vc)) f a 2 0 ⟨#[]⟩ (.slice va q.1.length vc) := by
          have := HS4.out
          unfold Slot at this ⊢
          exact heap_setc this
        have hrr := HRD.out.kept (T := fun q => q = f) (Chg.set_one w4 f 4 (.slice va q.1.length vc)) (fun q hq e => by have := (HT4.out q hq).1; omega)
        have hch := HG4.out.setCell (p := ⟨f, 4, none⟩) (.inl (.inr rfl)) (.slice va q.1.length vc)
        have hcu := cur_chg HCC.out (Chg.set_one w4 f 4 (.slice va q.1.length vc)) (fun e => HC.out e.symm)
        unfold WayP
        rw [HW.out]
        by_cases hq : q.2 = 0
        · rw [if_neg (by omega)]
          exact ⟨by rw [hq]; rfl, hch, _, _, _, _, _, hcu, hss, fun q hq => ⟨by have := (HT4.out q hq).1; omega, by have := (HT4.out q hq).2; simpa [World.setCell] using this⟩, fun _ => ⟨Nat.add_assoc k m n, rfl, rfl, hrr⟩⟩
        · rw [if_pos hq]
          exact ⟨rfl, hch, _, _, _, _, fun _ => False, hcu, hss, fun q e => e.elim, fun e => absurd e hq⟩
  · have hqb : ((E : Int) != 0) = true := by rw [bne_iff_ne]; omega
    have hbw := HBW.out
    rw [if_pos hE] at hbw
    have HW := Lib.hid hbw
    have HE := Lib.hid hE
    clear hbw HBW hE
    go_enter Tryd.func59, Tryd.ntmps59
    go_wp2_with fail
    refine HN.out.mono ?_
    rintro e w1 ⟨rfl, hc1, g1⟩
    have HC1 := Lib.hid hc1
    have HG1 : Hid (Chg (fun q => q = c ∨ q = f) w w1) := Chg.of_grown g1 (fun q e => .inl (.inl (Option.some.inj e).symm))
    have HS1 : Hid (Slot w1 f a 2 0 ⟨#[]⟩ (.slice none 0 0)) := HF.out.kept (T := fun q => q = c) (Chg.of_grown g1 (fun q e => .inl (Option.some.inj e).symm)) HC.out
    clear hc1 g1
    go_wp2_with fail
    go_ret
    unfold WayP
    rw [HW.out]
    exact ⟨rfl, HG1.out, _, _, _, _, fun _ => False, HC1.out, HS1.out, fun q e => e.elim, fun e => absurd e HE.out⟩

end Go.Proofs.YtigmfbmjfjkfjaaDoor.ww
