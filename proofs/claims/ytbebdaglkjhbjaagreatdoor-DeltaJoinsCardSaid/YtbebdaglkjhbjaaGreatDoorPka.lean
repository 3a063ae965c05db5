/-
  The developers' package pack: the count, a row's number, a row.
-/
import Derived.Test.YtbebdaglkjhbjaaGreatDoorPkrn
import Derived.Test.YtbebdaglkjhbjaaGreatDoorBundX
import Derived.Test.YtbebdaglkjhbjaaGreatDoorBundE
import Derived.Test.YtbebdaglkjhbjaaGreatDoorBundH
namespace Go.Proofs.YtbebdaglkjhbjaaGreatDoor.ka
open Go.RowKit Go.Proofs.YtbebdaglkjhbjaaGreatDoor.ee Go.Proofs.YtbebdaglkjhbjaaGreatDoor.vi Go.Proofs.YtbebdaglkjhbjaaGreatDoor.um Go.Proofs.YtbebdaglkjhbjaaGreatDoor.wm Go.Proofs.YtbebdaglkjhbjaaGreatDoor.tr Go.Proofs.YtbebdaglkjhbjaaGreatDoor.em Go.Proofs.YtbebdaglkjhbjaaGreatDoor.rm Go.Proofs.YtbebdaglkjhbjaaGreatDoor.crc Go.Proofs.YtbebdaglkjhbjaaGreatDoor.cur Go.Proofs.YtbebdaglkjhbjaaGreatDoor.law11 Go.Proofs.YtbebdaglkjhbjaaGreatDoor.dd Go.Proofs.YtbebdaglkjhbjaaGreatDoor.dr Go.Proofs.YtbebdaglkjhbjaaGreatDoor.tm Go.Proofs.YtbebdaglkjhbjaaGreatDoor.tf Go.Proofs.YtbebdaglkjhbjaaGreatDoor.rr Go.Proofs.YtbebdaglkjhbjaaGreatDoor.pk Go.Proofs.YtbebdaglkjhbjaaGreatDoor.kr
set_option linter.unusedVariables false
set_option linter.unusedSimpArgs false

def cntR (L : Bs) : Nat × Nat := if (getR L).2.2 ≠ 0 then (0, (getR L).2.2) else if 256 < (getR L).1 then (0, 13) else ((getR L).1, 0)
def numR (L : Bs) : Nat × Nat := if (getR L).2.2 ≠ 0 then (0, (getR L).2.2) else if (getR L).1 = 0 then (0, 17) else ((getR L).1, 0)
/-- The row that stands next. -/
def rowR (L a : Bs) (f : Bool) : Rw × Bs × Nat :=
  if (nextP L a f).2.2 ≠ 0 then (⟨[], 0⟩, [], (nextP L a f).2.2)
  else if (parseD (nextP L a f).1).2 ≠ 0 then (⟨[], 0⟩, [], (parseD (nextP L a f).1).2)
  else if (numR (nextP L a f).2.1).2 ≠ 0 then (⟨[], 0⟩, [], (numR (nextP L a f).2.1).2)
  else (⟨(parseD (nextP L a f).1).1, (numR (nextP L a f).2.1).1⟩, (nextP L a f).2.1.drop (getR (nextP L a f).2.1).2.1, 0)
theorem numR_lt (L : Bs) : (numR L).2 < 64 := by
  have := (getR_bounds L).2.2.2.1
  unfold numR
  split
  · simp only; omega
  split <;> simp
theorem rowR_lt (L a : Bs) (f : Bool) : (rowR L a f).2.2 < 64 := by
  have h1 := nextP_code L a f
  have h2 := parseD_lt (nextP L a f).1
  have h3 := numR_lt (nextP L a f).2.1
  unfold rowR
  split
  · simp only; omega
  split
  · exact h2
  split
  · exact h3
  · simp
/-- Of a row that is read: its descriptor is small, its key what was read, behind it less. -/
theorem rowR_ok {L a : Bs} {f : Bool} (h : (rowR L a f).2.2 = 0) : Fit (rowR L a f).1 ∧ (rowR L a f).1.d.length ≤ 16 ∧ (∀ x ∈ (rowR L a f).1.d, x.key.size ≤ 64 ∧ x.value.size ≤ 256) ∧ (key (rowR L a f).1).length + (rowR L a f).2.1.length ≤ a.length + L.length ∧ key (rowR L a f).1 = (nextP L a f).1 ∧ rowE (rowR L a f).1 = 0 := by
  have hb := getR_bounds (nextP L a f).2.1
  unfold rowR at h ⊢
  by_cases h1 : (nextP L a f).2.2 ≠ 0
  · rw [if_pos h1] at h; exact absurd h h1
  rw [if_neg h1] at h ⊢
  by_cases h2 : (parseD (nextP L a f).1).2 ≠ 0
  · rw [if_pos h2] at h; exact absurd h h2
  rw [if_neg h2] at h ⊢
  by_cases h3 : (numR (nextP L a f).2.1).2 ≠ 0
  · rw [if_pos h3] at h; exact absurd h h3
  rw [if_neg h3]
  obtain ⟨n1, n2⟩ := nextP_len (L := L) (a := a) (first := f) (by omega)
  obtain ⟨s1, s2, s3⟩ := parseD_small (nextP L a f).1 (by omega)
  obtain ⟨-, s4⟩ := parseD_ok (L := (nextP L a f).1) (by omega)
  have hn : (numR (nextP L a f).2.1).1 < 18446744073709551616 ∧ (numR (nextP L a f).2.1).1 ≠ 0 := by
    unfold numR at h3 ⊢
    split
    · rename_i h4; rw [if_pos h4] at h3; exact absurd h4 h3
    split
    · rename_i h4 h5; rw [if_neg h4, if_pos h5] at h3; simp at h3
    · rename_i h4 h5; exact ⟨hb.1, h5⟩
  have he : rowE ⟨(parseD (nextP L a f).1).1, (numR (nextP L a f).2.1).1⟩ = 0 := by
    unfold rowE
    rw [if_neg (by simpa using s4), if_neg hn.2]
  refine ⟨ti.fit_ok he hn.1, s1, s2, ?_, s3, he⟩
  have hk : key ⟨(parseD (nextP L a f).1).1, (numR (nextP L a f).2.1).1⟩ = (nextP L a f).1 := s3
  rw [hk, List.length_drop]
  omega
theorem glK_row (acc : List Rw) (n : Nat) (a : Bs) (f : Bool) (L : Bs) : glK acc (readK (n + 1) a f L) =
    if (rowR L a f).2.2 ≠ 0 then ([], [], (rowR L a f).2.2) else glK (acc ++ [(rowR L a f).1]) (readK n (key (rowR L a f).1) false (rowR L a f).2.1) := by
  rw [glK_step]
  have hk : (rowR L a f).2.2 = 0 → key (rowR L a f).1 = (nextP L a f).1 := fun h => (rowR_ok h).2.2.2.2.1
  unfold rowR numR at *
  by_cases h1 : (nextP L a f).2.2 ≠ 0
  · rw [if_pos h1, if_pos h1, if_pos h1]
  rw [if_neg h1] at hk
  rw [if_neg h1, if_neg h1]
  by_cases h2 : (parseD (nextP L a f).1).2 ≠ 0
  · rw [if_pos h2, if_pos h2, if_pos h2]
  rw [if_neg h2] at hk
  rw [if_neg h2, if_neg h2]
  by_cases h3 : (getR (nextP L a f).2.1).2.2 ≠ 0
  · simp only [if_pos h3]
  rw [if_neg h3] at hk
  simp only [if_neg h3] at hk ⊢
  by_cases h4 : (getR (nextP L a f).2.1).1 = 0
  · simp [h4]
  · simp only [if_neg h4] at hk ⊢
    have := hk (by simp)
    simp only [ne_eq, not_true_eq_false, if_false] at this ⊢
    rw [this]

/-! The count, a number -/
set_option maxRecDepth 100000 in
theorem count_any (w : World) (b : Nat) (s : ByteArray) (k : Nat) (hc : Cur w b s k) :
    Calls Tryz.prog 50 #[.pointer (some ⟨b, 0, none⟩)] w fun e w' => e = .returned (.tuple #[.int .u64 ((cntR (s.data.toList.drop k)).1 : Nat), .int .i64 ((cntR (s.data.toList.drop k)).2 : Nat)]) ∧ Cur w' b s (k + (getR (s.data.toList.drop k)).2.1) ∧ w.grownBy w' (some b) := by
  have HN := Lib.hid (vi.next_some hc)
  have hbd := getR_bounds (s.data.toList.drop k)
  unfold cntR
  generalize getR (s.data.toList.drop k) = r at *
  obtain ⟨x, m, E⟩ := r
  simp only at hbd HN ⊢
  obtain ⟨hx, -, -, hE, -⟩ := hbd
  clear hc
  by_cases h0 : E = 0
  · subst h0
    rw [if_neg (by simp)]
    by_cases h1 : 256 < x
    · rw [if_pos h1]
      have h1i : (256 : Int) < (x : Int) := by omega
      go_enter Tryz.func50, Tryz.ntmps50
      go_wp2_with fail
      refine HN.out.mono ?_
      rintro e w1 ⟨rfl, c1, g1⟩
      have C1 := Lib.hid c1
      have G1 := Lib.hid g1
      clear c1 g1
      go_wp2_with fail
      go_ret2
      exact ⟨rfl, C1.out, G1.out⟩
    · rw [if_neg h1]
      have h1i : ¬ (256 : Int) < (x : Int) := by omega
      go_enter Tryz.func50, Tryz.ntmps50
      go_wp2_with fail
      refine HN.out.mono ?_
      rintro e w1 ⟨rfl, c1, g1⟩
      have C1 := Lib.hid c1
      have G1 := Lib.hid g1
      clear c1 g1
      go_wp2_with fail
      go_ret2
      exact ⟨rfl, C1.out, G1.out⟩
  · rw [if_pos h0]
    have hqb : ((E : Int) != 0) = true := by rw [bne_iff_ne]; omega
    clear h0
    go_enter Tryz.func50, Tryz.ntmps50
    go_wp2_with fail
    refine HN.out.mono ?_
    rintro e w1 ⟨rfl, c1, g1⟩
    have C1 := Lib.hid c1
    have G1 := Lib.hid g1
    clear c1 g1
    go_wp2_with fail
    go_ret2
    exact ⟨rfl, C1.out, G1.out⟩

set_option maxRecDepth 100000 in
theorem number_any (w : World) (b : Nat) (s : ByteArray) (k : Nat) (hc : Cur w b s k) :
    Calls Tryz.prog 84 #[.pointer (some ⟨b, 0, none⟩)] w fun e w' => e = .returned (.tuple #[.int .u64 ((numR (s.data.toList.drop k)).1 : Nat), .int .i64 ((numR (s.data.toList.drop k)).2 : Nat)]) ∧ Cur w' b s (k + (getR (s.data.toList.drop k)).2.1) ∧ w.grownBy w' (some b) := by
  have HN := Lib.hid (vi.next_some hc)
  have hbd := getR_bounds (s.data.toList.drop k)
  unfold numR
  generalize getR (s.data.toList.drop k) = r at *
  obtain ⟨x, m, E⟩ := r
  simp only at hbd HN ⊢
  obtain ⟨hx, -, -, hE, -⟩ := hbd
  clear hc
  by_cases h0 : E = 0
  · subst h0
    rw [if_neg (by simp)]
    by_cases h1 : x = 0
    · rw [if_pos h1]
      subst h1
      go_enter Tryz.func84, Tryz.ntmps84
      go_wp2_with fail
      refine HN.out.mono ?_
      rintro e w1 ⟨rfl, c1, g1⟩
      have C1 := Lib.hid c1
      have G1 := Lib.hid g1
      clear c1 g1
      go_wp2_with fail
      go_ret2
      exact ⟨rfl, C1.out, G1.out⟩
    · rw [if_neg h1]
      have h1i : ((x : Int) == 0) = false := by rw [beq_eq_false_iff_ne]; omega
      go_enter Tryz.func84, Tryz.ntmps84
      go_wp2_with fail
      refine HN.out.mono ?_
      rintro e w1 ⟨rfl, c1, g1⟩
      have C1 := Lib.hid c1
      have G1 := Lib.hid g1
      clear c1 g1
      go_wp2_with fail
      go_ret2
      exact ⟨rfl, C1.out, G1.out⟩
  · rw [if_pos h0]
    have hqb : ((E : Int) != 0) = true := by rw [bne_iff_ne]; omega
    clear h0
    go_enter Tryz.func84, Tryz.ntmps84
    go_wp2_with fail
    refine HN.out.mono ?_
    rintro e w1 ⟨rfl, c1, g1⟩
    have C1 := Lib.hid c1
    have G1 := Lib.hid g1
    clear c1 g1
    go_wp2_with fail
    go_ret2
    exact ⟨rfl, C1.out, G1.out⟩

theorem OwnE.far {ty : TypeId} {base b : Nat} {w w' : World} {v : Value} {xs : List Ent} (h : OwnE ty base w v xs) (g : w.grownBy w' (some b)) (hb : b < base) : OwnE ty base w' v xs :=
  h.kept g (by
    cases e : v.ownBlock with
    | none => exact .inl rfl
    | some k => right; intro e2; injection e2 with e3; have := (h.lt k e).1; omega)

/-! A row -/
set_option maxHeartbeats 2000000 in
set_option maxRecDepth 100000 in
theorem row_any (W w : World) (b : Nat) (s : ByteArray) (k : Nat) (a : ByteArray) (f : Bool) (hs : s.size ≤ 450000) (ha : a.size ≤ 450000) (hT : tb.Tab W) (hW : W.grownBy w none) (hb : W.heap.size ≤ b) (hc : Cur w b s k) :
    Calls Tryz.prog 51 #[.pointer (some ⟨b, 0, none⟩), .string a, .bool f] w fun e w' => ∃ k' v, e = .returned (.tuple #[.agg #[v, .int .u64 ((rowR (s.data.toList.drop k) a.data.toList f).1.n : Nat)], .int .i64 ((rowR (s.data.toList.drop k) a.data.toList f).2.2 : Nat)]) ∧ Cur w' b s k' ∧
      OwnE 115 w.heap.size w' v (rowR (s.data.toList.drop k) a.data.toList f).1.d ∧ ((rowR (s.data.toList.drop k) a.data.toList f).2.2 = 0 → s.data.toList.drop k' = (rowR (s.data.toList.drop k) a.data.toList f).2.1) ∧ w.grownBy w' (some b) := by
  have HN := Lib.hid (fun w1 (h : Cur w1 b s k) => px.next_some w1 b s k a f h (by omega) (by omega))
  have hcd := nextP_code (s.data.toList.drop k) a.data.toList f
  have hnl := @nextP_len (s.data.toList.drop k) a.data.toList f
  have hal : a.data.toList.length = a.size := by simp
  have hsl : (s.data.toList.drop k).length ≤ s.size := by simp
  rw [hal] at hnl
  have HT := Lib.hid (fun w1 (g : w.grownBy w1 (some b)) => tb.kept hT (only_new hW g hb))
  have HX : Hid (rowR (s.data.toList.drop k) a.data.toList f = if (nextP (s.data.toList.drop k) a.data.toList f).2.2 ≠ 0 then (⟨[], 0⟩, [], (nextP (s.data.toList.drop k) a.data.toList f).2.2)
    else if (parseD (nextP (s.data.toList.drop k) a.data.toList f).1).2 ≠ 0 then (⟨[], 0⟩, [], (parseD (nextP (s.data.toList.drop k) a.data.toList f).1).2)
    else if (numR (nextP (s.data.toList.drop k) a.data.toList f).2.1).2 ≠ 0 then (⟨[], 0⟩, [], (numR (nextP (s.data.toList.drop k) a.data.toList f).2.1).2)
    else (⟨(parseD (nextP (s.data.toList.drop k) a.data.toList f).1).1, (numR (nextP (s.data.toList.drop k) a.data.toList f).2.1).1⟩, (nextP (s.data.toList.drop k) a.data.toList f).2.1.drop (getR (nextP (s.data.toList.drop k) a.data.toList f).2.1).2.1, 0)) := rfl
  have hblt : b < w.heap.size := hc.lt
  have C0 := Lib.hid (hc.kept (only_alloc (only_refl w none) (.cells #[.slice none 0 0, .int .u64 0] 80)) (by simp))
  have G0 := Lib.hid (only_alloc (only_refl w (some b)) (.cells #[.slice none 0 0, .int .u64 0] 80))
  have B0 := Lib.hid (heap_alloc_new w (.cells #[.slice none 0 0, .int .u64 0] 80))
  have hne : some w.heap.size ≠ some b := by simp; omega
  have HNE := Lib.hid hne
  clear hT hW hc hal hne
  generalize rowR (s.data.toList.drop k) a.data.toList f = R at *
  generalize nextP (s.data.toList.drop k) a.data.toList f = Q at *
  obtain ⟨t, rest, q⟩ := Q
  simp only at HN hcd hnl HX
  by_cases hq : q = 0
  · subst hq
    have hn1 := (hnl rfl).1
    have HXq1 := Lib.hid (HX.out.trans (if_neg (by simp)))
    have HPA := Lib.hid (fun w1 (h : tb.Tab w1) => dd.parse_any (txt t) w1 (by rw [txt_size]; omega) h)
    rw [txt_list] at HPA
    have hpl := parseD_lt t
    generalize parseD t = P at *
    obtain ⟨d, g⟩ := P
    simp only at HPA hpl HXq1
    clear hnl
    by_cases hg : g = 0
    · subst hg
      have HXq2 := Lib.hid (HXq1.out.trans (if_neg (by simp)))
      have HNU := Lib.hid (fun w1 k1 (h : Cur w1 b s k1) => number_any w1 b s k1 h)
      have hnl2 := numR_lt rest
      have hnb : (numR rest).1 < 18446744073709551616 := by
        have := (getR_bounds rest).1
        unfold numR
        split
        · simp
        split
        · simp
        · exact this
      by_cases hm : (numR rest).2 = 0
      · have HXq3 := Lib.hid (HXq2.out.trans (if_neg (by simp [hm])))
        have HM := Lib.hid hm
        go_enter Tryz.func51, Tryz.ntmps51
        go_wp2_with fail
        refine (HN.out _ C0.out).mono ?_
        rintro e w1 ⟨k1, rfl, c1, hk1, g1⟩
        have hd1 : s.data.toList.drop k1 = rest := by first | exact hk1 rfl | exact hk1 trivial
        have C1 := Lib.hid c1
        have G1 := Lib.hid (only_trans G0.out g1)
        have B1 := Lib.hid (heap_kept B0.out g1 HNE.out)
        clear c1 g1 hk1
        go_wp2_with fail
        refine (HPA.out _ (HT.out _ G1.out)).mono ?_
        rintro e w2 ⟨v, rfl, o2, g2⟩
        have C2 := Lib.hid (C1.out.kept g2 (by simp))
        have G2 := Lib.hid (only_trans G1.out (only_of_none g2 _))
        have B2 := Lib.hid (heap_kept B1.out g2 (by simp))
        have hw1 : w.heap.size + 1 ≤ w1.heap.size := (Array.getElem?_eq_some_iff.1 B1.out).1
        have O2 := Lib.hid (OwnE.mono (base' := w.heap.size + 1) o2 hw1)
        obtain ⟨va, vc, rfl⟩ := o2.es.shape
        clear o2 g2
        have HN3 := HNU.out _ _ C2.out
        rw [hd1] at HN3
        have HN3 := Lib.hid HN3
        have HD3 : Hid (s.data.toList.drop (k1 + (getR rest).2.1) = rest.drop (getR rest).2.1) := by show _ = _; rw [← hd1, List.drop_drop]
        clear hd1 hm
        generalize numR rest = nr at *
        obtain ⟨n, z⟩ := nr
        simp only at HN3 HXq3 HM hnl2 hnb
        obtain rfl : z = 0 := HM.out
        go_wp2_with fail
        refine HN3.out.mono ?_
        rintro e w3 ⟨rfl, c3, g3⟩
        have C3 := Lib.hid c3
        have G3 := Lib.hid (only_trans G2.out g3)
        have B3 := Lib.hid (heap_kept B2.out g3 HNE.out)
        have O3 := Lib.hid (OwnE.far O2.out g3 (by omega))
        obtain ⟨z0, z1, x0, x1⟩ := cells_of B3.out
        clear c3 g3
        go_wp2_with fail
        rw [HXq3.out]
        exact bodyPost_ret (results_cell2 rfl _ _ w.heap.size 80 #[.slice va d.length vc, .int .u64 (n : Nat)] (0, 0) _ rfl (heap_setc (heap_setc B3.out)) Tryz.underlying80 rfl (by kernel_rfl)) rfl ⟨_, .slice va d.length vc, rfl, C3.out.kept (only_setCell (only_setCell (only_refl _ (some w.heap.size)) (.inl rfl) _) (.inl rfl) _) (fun e => HNE.out e.symm), OwnE.mono (OwnE.far O3.out (only_setCell (only_setCell (only_refl _ (some w.heap.size)) (.inl rfl) _) (.inl rfl) _) (Nat.lt_succ_self _)) (Nat.le_succ _), fun _ => HD3.out, only_setCell (only_setCell G3.out (.inr (Nat.le_refl _)) _) (.inr (Nat.le_refl _)) _⟩
      · have HXq4 := Lib.hid (HXq2.out.trans (if_pos hm))
        have HM := Lib.hid hm
        go_enter Tryz.func51, Tryz.ntmps51
        go_wp2_with fail
        refine (HN.out _ C0.out).mono ?_
        rintro e w1 ⟨k1, rfl, c1, hk1, g1⟩
        have hd1 : s.data.toList.drop k1 = rest := by first | exact hk1 rfl | exact hk1 trivial
        have C1 := Lib.hid c1
        have G1 := Lib.hid (only_trans G0.out g1)
        have B1 := Lib.hid (heap_kept B0.out g1 HNE.out)
        clear c1 g1 hk1
        go_wp2_with fail
        refine (HPA.out _ (HT.out _ G1.out)).mono ?_
        rintro e w2 ⟨v, rfl, o2, g2⟩
        have C2 := Lib.hid (C1.out.kept g2 (by simp))
        have G2 := Lib.hid (only_trans G1.out (only_of_none g2 _))
        have B2 := Lib.hid (heap_kept B1.out g2 (by simp))
        have hw1 : w.heap.size + 1 ≤ w1.heap.size := (Array.getElem?_eq_some_iff.1 B1.out).1
        have O2 := Lib.hid (OwnE.mono (base' := w.heap.size + 1) o2 hw1)
        obtain ⟨va, vc, rfl⟩ := o2.es.shape
        clear o2 g2
        have HN3 := HNU.out _ _ C2.out
        rw [hd1] at HN3
        have HN3 := Lib.hid HN3
        clear hd1 hm
        generalize numR rest = nr at *
        obtain ⟨n, z⟩ := nr
        simp only at HN3 HXq4 HM hnl2 hnb
        have hqb : ((z : Int) != 0) = true := by have := HM.out; rw [bne_iff_ne]; omega
        go_wp2_with fail
        refine HN3.out.mono ?_
        rintro e w3 ⟨rfl, c3, g3⟩
        have C3 := Lib.hid c3
        have G3 := Lib.hid (only_trans G2.out g3)
        have B3 := Lib.hid (heap_kept B2.out g3 HNE.out)
        have O3 := Lib.hid (OwnE.far O2.out g3 (by omega))
        obtain ⟨z0, z1, x0, x1⟩ := cells_of B3.out
        clear c3 g3
        go_wp2_with fail
        rw [HXq4.out]
        exact bodyPost_ret (results_cell2 rfl _ _ w.heap.size 80 #[.slice none 0 0, .int .u64 0] (0, 0) _ rfl (heap_setc (heap_setc B3.out)) Tryz.underlying80 rfl (by kernel_rfl)) rfl ⟨_, .slice none 0 0, rfl, C3.out.kept (only_setCell (only_setCell (only_refl _ (some w.heap.size)) (.inl rfl) _) (.inl rfl) _) (fun e => HNE.out e.symm), OwnE.nil _ _ _, fun e => absurd e HM.out, only_setCell (only_setCell G3.out (.inr (Nat.le_refl _)) _) (.inr (Nat.le_refl _)) _⟩
    · have HXq5 := Lib.hid (HXq1.out.trans (if_pos hg))
      have hqb : ((g : Int) != 0) = true := by rw [bne_iff_ne]; omega
      have HQ := Lib.hid hg
      clear hg
      go_enter Tryz.func51, Tryz.ntmps51
      go_wp2_with fail
      refine (HN.out _ C0.out).mono ?_
      rintro e w1 ⟨k1, rfl, c1, hk1, g1⟩
      have C1 := Lib.hid c1
      have G1 := Lib.hid (only_trans G0.out g1)
      have B1 := Lib.hid (heap_kept B0.out g1 HNE.out)
      clear c1 g1 hk1
      go_wp2_with fail
      refine (HPA.out _ (HT.out _ G1.out)).mono ?_
      rintro e w2 ⟨v, rfl, o2, g2⟩
      have C2 := Lib.hid (C1.out.kept g2 (by simp))
      have G2 := Lib.hid (only_trans G1.out (only_of_none g2 _))
      have B2 := Lib.hid (heap_kept B1.out g2 (by simp))
      have hw1 : w.heap.size + 1 ≤ w1.heap.size := (Array.getElem?_eq_some_iff.1 B1.out).1
      have O2 := Lib.hid (OwnE.mono (base' := w.heap.size + 1) o2 hw1)
      obtain ⟨va, vc, rfl⟩ := o2.es.shape
      clear o2 g2
      obtain ⟨z0, z1, x0, x1⟩ := cells_of B2.out
      go_wp2_with fail
      rw [HXq5.out]
      exact bodyPost_ret (results_cell2 rfl _ _ w.heap.size 80 #[.slice none 0 0, .int .u64 0] (0, 0) _ rfl (heap_setc (heap_setc B2.out)) Tryz.underlying80 rfl (by kernel_rfl)) rfl ⟨_, .slice none 0 0, rfl, C2.out.kept (only_setCell (only_setCell (only_refl _ (some w.heap.size)) (.inl rfl) _) (.inl rfl) _) (fun e => HNE.out e.symm), OwnE.nil _ _ _, fun e => absurd e HQ.out, only_setCell (only_setCell G2.out (.inr (Nat.le_refl _)) _) (.inr (Nat.le_refl _)) _⟩
  · have HXq6 := Lib.hid (HX.out.trans (if_pos hq))
    have hqb : ((q : Int) != 0) = true := by rw [bne_iff_ne]; omega
    have HQ := Lib.hid hq
    clear hq hnl
    go_enter Tryz.func51, Tryz.ntmps51
    go_wp2_with fail
    refine (HN.out _ C0.out).mono ?_
    rintro e w1 ⟨k1, rfl, c1, hk1, g1⟩
    have C1 := Lib.hid c1
    have G1 := Lib.hid (only_trans G0.out g1)
    have B1 := Lib.hid (heap_kept B0.out g1 HNE.out)
    clear c1 g1 hk1
    obtain ⟨z0, z1, x0, x1⟩ := cells_of B1.out
    go_wp2_with fail
    rw [HXq6.out]
    exact bodyPost_ret (results_cell2 rfl _ _ w.heap.size 80 #[.slice none 0 0, .int .u64 0] (0, 0) _ rfl (heap_setc (heap_setc B1.out)) Tryz.underlying80 rfl (by kernel_rfl)) rfl ⟨_, .slice none 0 0, rfl, C1.out.kept (only_setCell (only_setCell (only_refl _ (some w.heap.size)) (.inl rfl) _) (.inl rfl) _) (fun e => HNE.out e.symm), OwnE.nil _ _ _, fun e => absurd e HQ.out, only_setCell (only_setCell G1.out (.inr (Nat.le_refl _)) _) (.inr (Nat.le_refl _)) _⟩

end Go.Proofs.YtbebdaglkjhbjaaGreatDoor.ka
