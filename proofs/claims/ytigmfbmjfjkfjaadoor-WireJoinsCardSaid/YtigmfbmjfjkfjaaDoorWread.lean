/-
  The document's reading of fields: one, all, Get, First.
-/
import Derived.Test.YtigmfbmjfjkfjaaDoorWref
import Derived.Test.YtigmfbmjfjkfjaaDoorBundT
namespace Go.Proofs.YtigmfbmjfjkfjaaDoor.wm
open Go.RowKit Go.Proofs.YtigmfbmjfjkfjaaDoor.tr Go.Proofs.YtigmfbmjfjkfjaaDoor.vi
set_option linter.unusedVariables false
set_option linter.unusedSimpArgs false

theorem results_cell3 {P : Program} {fn : Func} {p u v : Tmp} {ty : TypeId} (h : fn.results = #[.cell p ty, .tmp u, .tmp v]) (tmps : Array Value) (w : World) (g : Nat) (t : TypeId) (cs : Array Value) (fr : Nat × Nat) (d : TypeDesc)
    (hp : tmps.getD p undef = .pointer (some ⟨g, 0, none⟩)) (hg : w.heap[g]? = some (.cells cs t fr))
    (hu : P.underlying ty = some d) (hd : (match d with | .struct _ | .array _ _ => true | _ => false) = true) (hi : (P.info? ty).map (·.size) = some cs.size) :
    (results fn tmps).run P w = .ok (.tuple #[.agg cs, tmps.getD u undef, tmps.getD v undef]) w := by
  have hp' : tmps[p]?.getD undef = .pointer (some ⟨g, 0, none⟩) := by simpa using hp
  simp [results, h, hp', asAddr, run_loadVar_row w g t ty cs fr d hg hu hd hi]

theorem heap_setc {w : World} {b i : Nat} {v : Value} {c : Array Value} {t : TypeId} {fz : Nat × Nat} (h : w.heap[b]? = some (.cells c t fz)) : (w.setCell ⟨b, i, none⟩ v).heap[b]? = some (.cells (c.setIfInBounds i v) t fz) := by
  simp [World.setCell, Array.getElem?_modify, h]
/-- A block of five cells, written whole. -/
theorem heap_five {w : World} {g : Nat} {z0 z1 z2 z3 z4 : Value} {ty : TypeId} {fz : Nat × Nat} (h : w.heap[g]? = some (.cells #[z0, z1, z2, z3, z4] ty fz)) (a b c d e : Value) :
    (((((w.setCell ⟨g, 0, none⟩ a).setCell ⟨g, 1, none⟩ b).setCell ⟨g, 2, none⟩ c).setCell ⟨g, 3, none⟩ d).setCell ⟨g, 4, none⟩ e).heap[g]? = some (.cells #[a, b, c, d, e] ty fz) :=
  heap_setc (heap_setc (heap_setc (heap_setc (heap_setc h))))

theorem fm_ext (s : ByteArray) (a b : Nat) : (s.extract a b).data.toList = (s.data.toList.drop a).take (b - a) := by
  simp [List.take_drop]

/-- A field as a value. -/
def fv (t : Tree) (v : Value) : Value := .agg #[.int .u64 (t.tag : Nat), .int .i64 t.typ, .int .u64 (t.num : Nat), .string t.text, v]

/-- What one field's reading hands back. -/
def OneP (w : World) (q : Tree × Nat × Nat) (e : Ending) (w' : World) : Prop :=
  ∃ lv S', e = .returned (.tuple #[.agg #[.int .u64 (q.1.tag : Nat), .int .i64 q.1.typ, .int .u64 (q.1.num : Nat), .string q.1.text, lv], .int .i64 (q.2.1 : Nat), .int .i64 (q.2.2 : Nat)]) ∧ Rd w' S' lv q.1.list ∧ (∀ k, S' k → w.heap.size ≤ k ∧ k < w'.heap.size) ∧ w.grownBy w' none

/-- What the reading of all hands back. -/
def AllP (ty : TypeId) (w : World) (q : List Tree × Nat) (e : Ending) (w' : World) : Prop :=
  ∃ v S', e = .returned (.tuple #[v, .int .i64 (q.2 : Nat)]) ∧ OwnF ty w.heap.size S' w' v q.1 ∧ (∀ k, S' k → w.heap.size ≤ k) ∧ w.grownBy w' none

set_option maxHeartbeats 16000000 in
set_option maxRecDepth 100000 in
theorem rone_any (d D : Nat) (hd : D + d = 8) (hall : ∀ e, d = e + 1 → ∀ (s : ByteArray), s.size ≤ 100000 → ∀ w : World, Calls Tryd.prog 32 #[.string s, .int .i64 ((D : Int) + 1)] w (AllP 45 w (readD e s.data.toList)))
    (s : ByteArray) (hs : s.size ≤ 100000) (last : Nat) (hl : last < 18446744073709551616) (w : World) :
    Calls Tryd.prog 35 #[.string s, .int .i64 (D : Nat), .int .u64 (last : Nat)] w (OneP w (oneW (subD d) s.data.toList last)) := by
  have hlen : s.data.toList.length = s.size := by simp
  have HG1 := Lib.hid (fun w => rget_any s (by unfold maxLen; omega) w)
  have HG2 := Lib.hid (fun k w => rget_any (s.extract k s.size) (by simp; unfold maxLen; omega) w)
  simp only [bytes_drop] at HG2
  have HALL := Lib.hid hall
  have HLEN := Lib.hid hlen
  generalize hL : s.data.toList = L at *
  have HLL := Lib.hid hL
  clear hall hlen hL
  refine one_cases (subD d) L last (P := fun q => Calls Tryd.prog 35 #[.string s, .int .i64 (D : Nat), .int .u64 (last : Nat)] w (OneP w q)) ?_ ?_ ?_ ?_ ?_ ?_ ?_ ?_ ?_ ?_ ?_
  · intro h
    have hb := getR_bounds L
    obtain ⟨n, k, e0, hg⟩ : ∃ n k e, getR L = (n, k, e) := ⟨_, _, _, rfl⟩
    rw [hg] at h hb HG1 ⊢
    simp only at h hb ⊢
    have hqb : ((e0 : Int) != 0) = true := by rw [bne_iff_ne]; omega
    simp only [getV] at HG1
    go_enter Tryd.func35, Tryd.ntmps35
    go_wp2_with fail
    refine (HG1.out _).mono ?_
    rintro e w1 ⟨rfl, rfl⟩
    go_wp2_with fail
    exact bodyPost_ret (results_cell3 rfl _ _ w.heap.size 45 #[.int .u64 0, .int .i64 0, .int .u64 0, .string ⟨#[]⟩, .slice none 0 0] (0, 0) _ rfl (heap_alloc_new w _) Tryd.underlying45 rfl (by kernel_rfl)) rfl ⟨.slice none 0 0, fun _ => False, rfl, .nil _ _, fun k e => e.elim, only_alloc (only_refl _ _) _⟩
  · intro n k hg hk hkl hn hbad
    rw [hg] at HG1
    simp only [getV] at HG1
    have hks : k ≤ s.size := by have := HLEN.out; omega
    rcases (show n / 4 = 0 ∨ (n / 4 ≠ 0 ∧ 4294967296 < n / 4) by omega) with h | ⟨h, h'⟩
    · have a0 : ((n : Int) / 4 == 0) = true := by rw [beq_iff_eq]; omega
      clear hbad h
      go_enter Tryd.func35, Tryd.ntmps35
      go_wp2_with fail
      refine (HG1.out _).mono ?_
      rintro e w1 ⟨rfl, rfl⟩
      go_wp2_with fail
      exact bodyPost_ret (results_cell3 rfl _ _ w.heap.size 45 #[.int .u64 0, .int .i64 0, .int .u64 0, .string ⟨#[]⟩, .slice none 0 0] (0, 0) _ rfl ((heap_alloc_old _ _ (by simp)).trans (heap_alloc_new w _)) Tryd.underlying45 rfl (by kernel_rfl)) rfl ⟨.slice none 0 0, fun _ => False, rfl, .nil _ _, fun k e => e.elim, only_alloc (only_alloc (only_refl _ _) _) _⟩
    · have a0 : ((n : Int) / 4 == 0) = false := by rw [beq_eq_false_iff_ne]; omega
      have a1 : (4294967296 : Int) < (n : Int) / 4 := by omega
      clear hbad h h'
      go_enter Tryd.func35, Tryd.ntmps35
      go_wp2_with fail
      refine (HG1.out _).mono ?_
      rintro e w1 ⟨rfl, rfl⟩
      go_wp2_with fail
      exact bodyPost_ret (results_cell3 rfl _ _ w.heap.size 45 #[.int .u64 0, .int .i64 0, .int .u64 0, .string ⟨#[]⟩, .slice none 0 0] (0, 0) _ rfl ((heap_alloc_old _ _ (by simp)).trans (heap_alloc_new w _)) Tryd.underlying45 rfl (by kernel_rfl)) rfl ⟨.slice none 0 0, fun _ => False, rfl, .nil _ _, fun k e => e.elim, only_alloc (only_alloc (only_refl _ _) _) _⟩
  · intro n k hg hk hkl hn h1 h2 h3
    rw [hg] at HG1
    simp only [getV] at HG1
    have hks : k ≤ s.size := by have := HLEN.out; omega
    have a0 : ((n : Int) / 4 == 0) = false := by rw [beq_eq_false_iff_ne]; omega
    have a1 : ¬ (4294967296 : Int) < (n : Int) / 4 := by omega
    have b0 : ((n : Int) % 4 == 3) = true := by rw [beq_iff_eq]; omega
    clear h1 h2 h3
    go_enter Tryd.func35, Tryd.ntmps35
    go_wp2_with fail
    refine (HG1.out _).mono ?_
    rintro e w1 ⟨rfl, rfl⟩
    go_wp2_with fail
    exact bodyPost_ret (results_cell3 rfl _ _ w.heap.size 45 #[.int .u64 0, .int .i64 0, .int .u64 0, .string ⟨#[]⟩, .slice none 0 0] (0, 0) _ rfl ((heap_alloc_old _ _ (by simp)).trans (heap_alloc_new w _)) Tryd.underlying45 rfl (by kernel_rfl)) rfl ⟨.slice none 0 0, fun _ => False, rfl, .nil _ _, fun k e => e.elim, only_alloc (only_alloc (only_refl _ _) _) _⟩
  · intro n k hg hk hkl hn h1 h2 h3 h4
    rw [hg] at HG1
    simp only [getV] at HG1
    have hks : k ≤ s.size := by have := HLEN.out; omega
    have a0 : ((n : Int) / 4 == 0) = false := by rw [beq_eq_false_iff_ne]; omega
    have a1 : ¬ (4294967296 : Int) < (n : Int) / 4 := by omega
    have b0 : ((n : Int) % 4 == 3) = false := by rw [beq_eq_false_iff_ne]; omega
    have c0 : (n : Int) / 4 ≤ (last : Int) := by omega
    clear h1 h2 h3 h4
    go_enter Tryd.func35, Tryd.ntmps35
    go_wp2_with fail
    refine (HG1.out _).mono ?_
    rintro e w1 ⟨rfl, rfl⟩
    go_wp2_with fail
    exact bodyPost_ret (results_cell3 rfl _ _ w.heap.size 45 #[.int .u64 0, .int .i64 0, .int .u64 0, .string ⟨#[]⟩, .slice none 0 0] (0, 0) _ rfl ((heap_alloc_old _ _ (by simp)).trans (heap_alloc_new w _)) Tryd.underlying45 rfl (by kernel_rfl)) rfl ⟨.slice none 0 0, fun _ => False, rfl, .nil _ _, fun k e => e.elim, only_alloc (only_alloc (only_refl _ _) _) _⟩
  · intro n k hg hk hkl h1 h2 h3 h4 h5
    obtain ⟨m, j, e1, hg2⟩ : ∃ m j e, getR (L.drop k) = (m, j, e) := ⟨_, _, _, rfl⟩
    rw [hg2] at h5 ⊢
    simp only at h5 ⊢
    rw [hg] at HG1
    simp only [getV] at HG1
    have hks : k ≤ s.size := by have := HLEN.out; omega
    have HG3 := Lib.hid (HG2.out k)
    rw [hg2] at HG3
    simp only [getV] at HG3
    have a0 : ((n : Int) / 4 == 0) = false := by rw [beq_eq_false_iff_ne]; omega
    have a1 : ¬ (4294967296 : Int) < (n : Int) / 4 := by omega
    have b0 : ((n : Int) % 4 == 3) = false := by rw [beq_eq_false_iff_ne]; omega
    have c0 : ¬ (n : Int) / 4 ≤ (last : Int) := by omega
    have hqb : ((e1 : Int) != 0) = true := by rw [bne_iff_ne]; omega
    clear h1 h2 h3 h4
    go_enter Tryd.func35, Tryd.ntmps35
    go_wp2_with fail
    refine (HG1.out _).mono ?_
    rintro e w1 ⟨rfl, rfl⟩
    go_wp2_with fail
    refine (HG3.out _).mono ?_
    rintro e w2 ⟨rfl, rfl⟩
    go_wp2_with fail
    exact bodyPost_ret (results_cell3 rfl _ _ w.heap.size 45 #[.int .u64 0, .int .i64 0, .int .u64 0, .string ⟨#[]⟩, .slice none 0 0] (0, 0) _ rfl ((heap_alloc_old _ _ (by simp)).trans (heap_alloc_new w _)) Tryd.underlying45 rfl (by kernel_rfl)) rfl ⟨.slice none 0 0, fun _ => False, rfl, .nil _ _, fun k e => e.elim, only_alloc (only_alloc (only_refl _ _) _) _⟩
  · intro n k m j hg hk hkj h1 h2 h4 hg2 hm hn
    have h3 : n % 4 ≠ 3 := by omega
    rw [hg] at HG1
    simp only [getV] at HG1
    have hks : k ≤ s.size := by have := HLEN.out; omega
    have HG3 := Lib.hid (HG2.out k)
    rw [hg2] at HG3
    simp only [getV] at HG3
    have a0 : ((n : Int) / 4 == 0) = false := by rw [beq_eq_false_iff_ne]; omega
    have a1 : ¬ (4294967296 : Int) < (n : Int) / 4 := by omega
    have b0 : ((n : Int) % 4 == 3) = false := by rw [beq_eq_false_iff_ne]; omega
    have c0 : ¬ (n : Int) / 4 ≤ (last : Int) := by omega
    have t0 : ((n : Int) % 4 == 0) = true := by rw [beq_iff_eq]; omega
    have hkj' : k + j ≤ s.size := by have := HLEN.out; omega
    have E1 := Lib.hid (show ((n / 4 : Nat) : Int) = (n : Int) / 4 by omega)
    have E2 := Lib.hid (show (n : Int) % 4 = 0 by omega)
    clear h1 h2 h3 h4 hn
    go_enter Tryd.func35, Tryd.ntmps35
    go_wp2_with fail
    refine (HG1.out _).mono ?_
    rintro e w1 ⟨rfl, rfl⟩
    go_wp2_with fail
    refine (HG3.out _).mono ?_
    rintro e w2 ⟨rfl, rfl⟩
    go_wp2_with fail
    have e1 := E1.out
    have e2 := E2.out
    exact bodyPost_ret (results_cell3 rfl _ _ w.heap.size 45 #[.int .u64 ((n : Int) / 4), .int .i64 ((n : Int) % 4), .int .u64 (m : Nat), .string ⟨#[]⟩, .slice none 0 0] (0, 0) _ rfl ((heap_alloc_old _ _ (by simp)).trans (heap_alloc_new w _)) Tryd.underlying45 rfl (by kernel_rfl)) rfl ⟨.slice none 0 0, fun _ => False, by simp [fv, Tree.tag, Tree.typ, Tree.num, Tree.text, Tree.list, e1, e2], .nil _ _, fun k e => e.elim, only_alloc (only_alloc (only_refl _ _) _) _⟩
  · intro n k m j hg hk hkj h1 h2 h4 hg2 hm hn hlt
    have h3 : n % 4 ≠ 3 := by omega
    rw [hg] at HG1
    simp only [getV] at HG1
    have hks : k ≤ s.size := by have := HLEN.out; omega
    have HG3 := Lib.hid (HG2.out k)
    rw [hg2] at HG3
    simp only [getV] at HG3
    have a0 : ((n : Int) / 4 == 0) = false := by rw [beq_eq_false_iff_ne]; omega
    have a1 : ¬ (4294967296 : Int) < (n : Int) / 4 := by omega
    have b0 : ((n : Int) % 4 == 3) = false := by rw [beq_eq_false_iff_ne]; omega
    have c0 : ¬ (n : Int) / 4 ≤ (last : Int) := by omega
    have t0 : ((n : Int) % 4 == 0) = false := by rw [beq_eq_false_iff_ne]; omega
    have hkj' : k + j ≤ s.size := by have := HLEN.out; omega
    have hsub : ((s.size : Int) - ((k : Int) + (j : Int))) % 18446744073709551616 = (s.size : Int) - ((k : Int) + (j : Int)) := by omega
    have l0 : (s.size : Int) - ((k : Int) + (j : Int)) < (m : Int) := by have := HLEN.out; omega
    clear h1 h2 h3 h4 hn hlt
    go_enter Tryd.func35, Tryd.ntmps35
    go_wp2_with fail
    refine (HG1.out _).mono ?_
    rintro e w1 ⟨rfl, rfl⟩
    go_wp2_with fail
    refine (HG3.out _).mono ?_
    rintro e w2 ⟨rfl, rfl⟩
    go_wp2_with fail
    exact bodyPost_ret (results_cell3 rfl _ _ w.heap.size 45 #[.int .u64 0, .int .i64 0, .int .u64 0, .string ⟨#[]⟩, .slice none 0 0] (0, 0) _ rfl ((heap_alloc_old _ _ (by simp)).trans (heap_alloc_new w _)) Tryd.underlying45 rfl (by kernel_rfl)) rfl ⟨.slice none 0 0, fun _ => False, rfl, .nil _ _, fun k e => e.elim, only_alloc (only_alloc (only_refl _ _) _) _⟩
  · intro n k m j hg hk hkm h1 h2 h4 hg2 hn
    have h3 : n % 4 ≠ 3 := by omega
    rw [hg] at HG1
    simp only [getV] at HG1
    have hks : k ≤ s.size := by have := HLEN.out; omega
    have HG3 := Lib.hid (HG2.out k)
    rw [hg2] at HG3
    simp only [getV] at HG3
    have a0 : ((n : Int) / 4 == 0) = false := by rw [beq_eq_false_iff_ne]; omega
    have a1 : ¬ (4294967296 : Int) < (n : Int) / 4 := by omega
    have b0 : ((n : Int) % 4 == 3) = false := by rw [beq_eq_false_iff_ne]; omega
    have c0 : ¬ (n : Int) / 4 ≤ (last : Int) := by omega
    have t0 : ((n : Int) % 4 == 0) = false := by rw [beq_eq_false_iff_ne]; omega
    have hkj' : k + j ≤ s.size := by have := HLEN.out; omega
    have hsub : ((s.size : Int) - ((k : Int) + (j : Int))) % 18446744073709551616 = (s.size : Int) - ((k : Int) + (j : Int)) := by omega
    have hkm' : k + j + m ≤ s.size := by have := HLEN.out; omega
    have l0 : ¬ (s.size : Int) - ((k : Int) + (j : Int)) < (m : Int) := by omega
    have t1 : ((n : Int) % 4 == 1) = true := by rw [beq_iff_eq]; omega
    have hsl := fun w => run_slice_string (P := Tryd.prog) (w := w) 9 s .i64 .i64 ((k : Int) + (j : Int)) ((k : Int) + (j : Int) + (m : Int)) Tryd.underlying9 (by omega) (by omega) (by omega)
    have hn1 : ((k : Int) + (j : Int)).toNat = k + j := by omega
    have hn2 : ((k : Int) + (j : Int) + (m : Int)).toNat = k + j + m := by omega
    simp only [hn1, hn2] at hsl
    have E1 := Lib.hid (show ((n / 4 : Nat) : Int) = (n : Int) / 4 by omega)
    have E2 := Lib.hid (show (n : Int) % 4 = 1 by omega)
    have ET : Hid (txt ((L.drop (k + j)).take m) = s.extract (k + j) (k + j + m)) := by show txt _ = _; rw [← txt_of (s.extract (k + j) (k + j + m)), fm_ext, HLL.out]; congr 2; omega
    clear h1 h2 h3 h4 hn
    go_enter Tryd.func35, Tryd.ntmps35
    go_wp2_with fail
    refine (HG1.out _).mono ?_
    rintro e w1 ⟨rfl, rfl⟩
    go_wp2_with fail
    refine (HG3.out _).mono ?_
    rintro e w2 ⟨rfl, rfl⟩
    go_wp2_with fail
    have e1 := E1.out
    have e2 := E2.out
    rw [ET.out]
    exact bodyPost_ret (results_cell3 rfl _ _ w.heap.size 45 #[.int .u64 ((n : Int) / 4), .int .i64 ((n : Int) % 4), .int .u64 0, .string (s.extract (k + j) (k + j + m)), .slice none 0 0] (0, 0) _ rfl ((heap_alloc_old _ _ (by simp)).trans (heap_alloc_new w _)) Tryd.underlying45 rfl (by kernel_rfl)) rfl ⟨.slice none 0 0, fun _ => False, by simp [fv, Tree.tag, Tree.typ, Tree.num, Tree.text, Tree.list, e1, e2], .nil _ _, fun k e => e.elim, only_alloc (only_alloc (only_refl _ _) _) _⟩
  · intro n k m j hg hk hkm h1 h2 h4 hg2 hn hs0
    have h3 : n % 4 ≠ 3 := by omega
    obtain rfl : d = 0 := by
      cases d with
      | zero => rfl
      | succ e => cases hs0
    have hdd : ((D : Int) == 8) = true := by rw [beq_iff_eq]; omega
    rw [hg] at HG1
    simp only [getV] at HG1
    have hks : k ≤ s.size := by have := HLEN.out; omega
    have HG3 := Lib.hid (HG2.out k)
    rw [hg2] at HG3
    simp only [getV] at HG3
    have a0 : ((n : Int) / 4 == 0) = false := by rw [beq_eq_false_iff_ne]; omega
    have a1 : ¬ (4294967296 : Int) < (n : Int) / 4 := by omega
    have b0 : ((n : Int) % 4 == 3) = false := by rw [beq_eq_false_iff_ne]; omega
    have c0 : ¬ (n : Int) / 4 ≤ (last : Int) := by omega
    have t0 : ((n : Int) % 4 == 0) = false := by rw [beq_eq_false_iff_ne]; omega
    have hkj' : k + j ≤ s.size := by have := HLEN.out; omega
    have hsub : ((s.size : Int) - ((k : Int) + (j : Int))) % 18446744073709551616 = (s.size : Int) - ((k : Int) + (j : Int)) := by omega
    have hkm' : k + j + m ≤ s.size := by have := HLEN.out; omega
    have l0 : ¬ (s.size : Int) - ((k : Int) + (j : Int)) < (m : Int) := by omega
    have t1 : ((n : Int) % 4 == 1) = false := by rw [beq_eq_false_iff_ne]; omega
    have hsl := fun w => run_slice_string (P := Tryd.prog) (w := w) 9 s .i64 .i64 ((k : Int) + (j : Int)) ((k : Int) + (j : Int) + (m : Int)) Tryd.underlying9 (by omega) (by omega) (by omega)
    have hn1 : ((k : Int) + (j : Int)).toNat = k + j := by omega
    have hn2 : ((k : Int) + (j : Int) + (m : Int)).toNat = k + j + m := by omega
    simp only [hn1, hn2] at hsl
    clear h1 h2 h3 h4 hn hs0
    go_enter Tryd.func35, Tryd.ntmps35
    go_wp2_with fail
    refine (HG1.out _).mono ?_
    rintro e w1 ⟨rfl, rfl⟩
    go_wp2_with fail
    refine (HG3.out _).mono ?_
    rintro e w2 ⟨rfl, rfl⟩
    go_wp2_with fail
    exact bodyPost_ret (results_cell3 rfl _ _ w.heap.size 45 #[.int .u64 0, .int .i64 0, .int .u64 0, .string ⟨#[]⟩, .slice none 0 0] (0, 0) _ rfl ((heap_alloc_old _ _ (by simp)).trans (heap_alloc_new w _)) Tryd.underlying45 rfl (by kernel_rfl)) rfl ⟨.slice none 0 0, fun _ => False, rfl, .nil _ _, fun k e => e.elim, only_alloc (only_alloc (only_refl _ _) _) _⟩
  · intro n k m j p hg hk hkm h1 h2 h4 hg2 hn hs0 hq
    have h3 : n % 4 ≠ 3 := by omega
    obtain ⟨e, rfl, rfl⟩ : ∃ e, d = e + 1 ∧ p = readD e := by
      cases d with
      | zero => cases hs0
      | succ e => exact ⟨e, rfl, by simp only [subD, Option.some.injEq] at hs0; exact hs0.symm⟩
    rw [hg] at HG1
    simp only [getV] at HG1
    have hks : k ≤ s.size := by have := HLEN.out; omega
    have HG3 := Lib.hid (HG2.out k)
    rw [hg2] at HG3
    simp only [getV] at HG3
    have a0 : ((n : Int) / 4 == 0) = false := by rw [beq_eq_false_iff_ne]; omega
    have a1 : ¬ (4294967296 : Int) < (n : Int) / 4 := by omega
    have b0 : ((n : Int) % 4 == 3) = false := by rw [beq_eq_false_iff_ne]; omega
    have c0 : ¬ (n : Int) / 4 ≤ (last : Int) := by omega
    have t0 : ((n : Int) % 4 == 0) = false := by rw [beq_eq_false_iff_ne]; omega
    have hkj' : k + j ≤ s.size := by have := HLEN.out; omega
    have hsub : ((s.size : Int) - ((k : Int) + (j : Int))) % 18446744073709551616 = (s.size : Int) - ((k : Int) + (j : Int)) := by omega
    have hkm' : k + j + m ≤ s.size := by have := HLEN.out; omega
    have l0 : ¬ (s.size : Int) - ((k : Int) + (j : Int)) < (m : Int) := by omega
    have t1 : ((n : Int) % 4 == 1) = false := by rw [beq_eq_false_iff_ne]; omega
    have hsl := fun w => run_slice_string (P := Tryd.prog) (w := w) 9 s .i64 .i64 ((k : Int) + (j : Int)) ((k : Int) + (j : Int) + (m : Int)) Tryd.underlying9 (by omega) (by omega) (by omega)
    have hn1 : ((k : Int) + (j : Int)).toNat = k + j := by omega
    have hn2 : ((k : Int) + (j : Int) + (m : Int)).toNat = k + j + m := by omega
    simp only [hn1, hn2] at hsl
    have hdd : ((D : Int) == 8) = false := by rw [beq_eq_false_iff_ne]; omega
    have hee : (D : Int) ≤ 8 := by omega
    have HA := Lib.hid (fun w => HALL.out e rfl (s.extract (k + j) (k + j + m)) (by simp; omega) w)
    have ET : Hid ((s.extract (k + j) (k + j + m)).data.toList = (L.drop (k + j)).take m) := by show _ = _; rw [fm_ext, HLL.out]; congr 1; omega
    rw [ET.out] at HA
    have hql : (readD e ((L.drop (k + j)).take m)).2 ≠ 0 := hq
    have hqb : (((readD e ((L.drop (k + j)).take m)).2 : Int) != 0) = true := by rw [bne_iff_ne]; omega
    have HAP : Hid (∀ w e5 w5, AllP 45 w (readD e ((L.drop (k + j)).take m)) e5 w5 → AllP 45 w (readD e ((L.drop (k + j)).take m)) e5 w5) := fun _ _ _ h => h
    generalize readD e ((L.drop (k + j)).take m) = q at *
    clear h1 h2 h3 h4 hn hs0
    go_enter Tryd.func35, Tryd.ntmps35
    go_wp2_with fail
    refine (HG1.out _).mono ?_
    rintro e w1 ⟨rfl, rfl⟩
    go_wp2_with fail
    refine (HG3.out _).mono ?_
    rintro e w2 ⟨rfl, rfl⟩
    go_wp2_with fail
    refine (HA.out _).mono ?_
    rintro e5 w5 ⟨v5, S5, rfl, o5, hS5, g5⟩
    obtain ⟨xa, xc, rfl⟩ := o5.rd.shape
    have hb5 := g5.block w.heap.size (by simp only [World.alloc, Array.size_push]; omega) (by simp)
    rw [(heap_alloc_old _ _ (by simp)).trans (heap_alloc_new w _)] at hb5
    have hf5 := g5.block (w.heap.size + 1) (by simp only [World.alloc, Array.size_push]; omega) (by simp)
    rw [show (w.alloc (.cells #[.int .u64 0, .int .i64 0, .int .u64 0, .string ⟨#[]⟩, .slice none 0 0] 45)).alloc (.cells #[.int .u64 ((n : Int) / 4), .int .i64 ((n : Int) % 4), .int .u64 0, .string ⟨#[]⟩, .slice none 0 0] 45) = ((w.alloc (.cells #[.int .u64 0, .int .i64 0, .int .u64 0, .string ⟨#[]⟩, .slice none 0 0] 45)).alloc (.cells #[.int .u64 ((n : Int) / 4), .int .i64 ((n : Int) % 4), .int .u64 0, .string ⟨#[]⟩, .slice none 0 0] 45)) from rfl] at hf5
    have hfz := heap_alloc_new (w.alloc (.cells #[.int .u64 0, .int .i64 0, .int .u64 0, .string ⟨#[]⟩, .slice none 0 0] 45)) (.cells #[.int .u64 ((n : Int) / 4), .int .i64 ((n : Int) % 4), .int .u64 0, .string ⟨#[]⟩, .slice none 0 0] 45)
    rw [show (w.alloc (.cells #[.int .u64 0, .int .i64 0, .int .u64 0, .string ⟨#[]⟩, .slice none 0 0] 45)).heap.size = w.heap.size + 1 by simp] at hfz
    rw [hfz] at hf5
    have HB5 := Lib.hid hb5
    have HF5 := Lib.hid hf5
    have HO5 := Lib.hid o5
    have HS5 := Lib.hid hS5
    have HG5 := Lib.hid (only_trans (only_alloc (only_alloc (only_refl w none) (.cells #[.int .u64 0, .int .i64 0, .int .u64 0, .string ⟨#[]⟩, .slice none 0 0] 45)) (.cells #[.int .u64 ((n : Int) / 4), .int .i64 ((n : Int) % 4), .int .u64 0, .string ⟨#[]⟩, .slice none 0 0] 45)) g5)
    have r0 : w5.cell? ⟨w.heap.size, 0, none⟩ = some (.int .u64 0) := by simp [World.cell?, hb5]
    have r1 : w5.cell? ⟨w.heap.size, 1, none⟩ = some (.int .i64 0) := by simp [World.cell?, hb5]
    have r2 : w5.cell? ⟨w.heap.size, 2, none⟩ = some (.int .u64 0) := by simp [World.cell?, hb5]
    have r3 : w5.cell? ⟨w.heap.size, 3, none⟩ = some (.string ⟨#[]⟩) := by simp [World.cell?, hb5]
    have r4 : w5.cell? ⟨w.heap.size, 4, none⟩ = some (.slice none 0 0) := by simp [World.cell?, hb5]
    have x0 : w5.frozen? ⟨w.heap.size, 0, none⟩ = false := by simp [World.frozen?, hb5]
    have x1 : w5.frozen? ⟨w.heap.size, 1, none⟩ = false := by simp [World.frozen?, hb5]
    have x2 : w5.frozen? ⟨w.heap.size, 2, none⟩ = false := by simp [World.frozen?, hb5]
    have x3 : w5.frozen? ⟨w.heap.size, 3, none⟩ = false := by simp [World.frozen?, hb5]
    have x4 : w5.frozen? ⟨w.heap.size, 4, none⟩ = false := by simp [World.frozen?, hb5]
    have f0 : w5.cell? ⟨w.heap.size + 1, 0, none⟩ = some (.int .u64 ((n : Int) / 4)) := by simp [World.cell?, hf5]
    have f1 : w5.cell? ⟨w.heap.size + 1, 1, none⟩ = some (.int .i64 ((n : Int) % 4)) := by simp [World.cell?, hf5]
    have f2 : w5.cell? ⟨w.heap.size + 1, 2, none⟩ = some (.int .u64 0) := by simp [World.cell?, hf5]
    have f3 : w5.cell? ⟨w.heap.size + 1, 3, none⟩ = some (.string ⟨#[]⟩) := by simp [World.cell?, hf5]
    have f4 : w5.cell? ⟨w.heap.size + 1, 4, none⟩ = some (.slice none 0 0) := by simp [World.cell?, hf5]
    have y4 : w5.frozen? ⟨w.heap.size + 1, 4, none⟩ = false := by simp [World.frozen?, hf5]
    clear hb5 hf5 hfz o5 hS5 g5
    go_wp2_with fail
    refine bodyPost_ret (results_cell3 rfl _ _ w.heap.size 45 #[.int .u64 0, .int .i64 0, .int .u64 0, .string ⟨#[]⟩, .slice none 0 0] (0, 0) _ rfl (heap_five HB5.out _ _ _ _ _) Tryd.underlying45 rfl (by kernel_rfl)) rfl ⟨.slice none 0 0, fun _ => False, rfl, .nil _ _, fun k e => e.elim, ?_⟩
    exact only_setCell (only_setCell (only_setCell (only_setCell (only_setCell HG5.out (.inr (Nat.le_refl _)) _) (.inr (Nat.le_refl _)) _) (.inr (Nat.le_refl _)) _) (.inr (Nat.le_refl _)) _) (.inr (Nat.le_refl _)) _
  · intro n k m j p hg hk hkm h1 h2 h4 hg2 hn hs0 hq
    have h3 : n % 4 ≠ 3 := by omega
    obtain ⟨e, rfl, rfl⟩ : ∃ e, d = e + 1 ∧ p = readD e := by
      cases d with
      | zero => cases hs0
      | succ e => exact ⟨e, rfl, by simp only [subD, Option.some.injEq] at hs0; exact hs0.symm⟩
    rw [hg] at HG1
    simp only [getV] at HG1
    have hks : k ≤ s.size := by have := HLEN.out; omega
    have HG3 := Lib.hid (HG2.out k)
    rw [hg2] at HG3
    simp only [getV] at HG3
    have a0 : ((n : Int) / 4 == 0) = false := by rw [beq_eq_false_iff_ne]; omega
    have a1 : ¬ (4294967296 : Int) < (n : Int) / 4 := by omega
    have b0 : ((n : Int) % 4 == 3) = false := by rw [beq_eq_false_iff_ne]; omega
    have c0 : ¬ (n : Int) / 4 ≤ (last : Int) := by omega
    have t0 : ((n : Int) % 4 == 0) = false := by rw [beq_eq_false_iff_ne]; omega
    have hkj' : k + j ≤ s.size := by have := HLEN.out; omega
    have hsub : ((s.size : Int) - ((k : Int) + (j : Int))) % 18446744073709551616 = (s.size : Int) - ((k : Int) + (j : Int)) := by omega
    have hkm' : k + j + m ≤ s.size := by have := HLEN.out; omega
    have l0 : ¬ (s.size : Int) - ((k : Int) + (j : Int)) < (m : Int) := by omega
    have t1 : ((n : Int) % 4 == 1) = false := by rw [beq_eq_false_iff_ne]; omega
    have hsl := fun w => run_slice_string (P := Tryd.prog) (w := w) 9 s .i64 .i64 ((k : Int) + (j : Int)) ((k : Int) + (j : Int) + (m : Int)) Tryd.underlying9 (by omega) (by omega) (by omega)
    have hn1 : ((k : Int) + (j : Int)).toNat = k + j := by omega
    have hn2 : ((k : Int) + (j : Int) + (m : Int)).toNat = k + j + m := by omega
    simp only [hn1, hn2] at hsl
    have hdd : ((D : Int) == 8) = false := by rw [beq_eq_false_iff_ne]; omega
    have hee : (D : Int) ≤ 8 := by omega
    have HA := Lib.hid (fun w => HALL.out e rfl (s.extract (k + j) (k + j + m)) (by simp; omega) w)
    have ET : Hid ((s.extract (k + j) (k + j + m)).data.toList = (L.drop (k + j)).take m) := by show _ = _; rw [fm_ext, HLL.out]; congr 1; omega
    rw [ET.out] at HA
    have E1 := Lib.hid (show ((n / 4 : Nat) : Int) = (n : Int) / 4 by omega)
    have E2 := Lib.hid (show (n : Int) % 4 = 2 by omega)
    obtain ⟨ql, hql⟩ : ∃ ql, (readD e ((L.drop (k + j)).take m)).1 = ql := ⟨_, rfl⟩
    unfold AllP at HA
    simp only [hq, hql] at HA ⊢
    clear h1 h2 h3 h4 hn hs0 hq hql
    go_enter Tryd.func35, Tryd.ntmps35
    go_wp2_with fail
    refine (HG1.out _).mono ?_
    rintro e w1 ⟨rfl, rfl⟩
    go_wp2_with fail
    refine (HG3.out _).mono ?_
    rintro e w2 ⟨rfl, rfl⟩
    go_wp2_with fail
    refine (HA.out _).mono ?_
    rintro e5 w5 ⟨v5, S5, rfl, o5, hS5, g5⟩
    obtain ⟨xa, xc, rfl⟩ := o5.rd.shape
    have hb5 := g5.block w.heap.size (by simp only [World.alloc, Array.size_push]; omega) (by simp)
    rw [(heap_alloc_old _ _ (by simp)).trans (heap_alloc_new w _)] at hb5
    have hf5 := g5.block (w.heap.size + 1) (by simp only [World.alloc, Array.size_push]; omega) (by simp)
    rw [show (w.alloc (.cells #[.int .u64 0, .int .i64 0, .int .u64 0, .string ⟨#[]⟩, .slice none 0 0] 45)).alloc (.cells #[.int .u64 ((n : Int) / 4), .int .i64 ((n : Int) % 4), .int .u64 0, .string ⟨#[]⟩, .slice none 0 0] 45) = ((w.alloc (.cells #[.int .u64 0, .int .i64 0, .int .u64 0, .string ⟨#[]⟩, .slice none 0 0] 45)).alloc (.cells #[.int .u64 ((n : Int) / 4), .int .i64 ((n : Int) % 4), .int .u64 0, .string ⟨#[]⟩, .slice none 0 0] 45)) from rfl] at hf5
    have hfz := heap_alloc_new (w.alloc (.cells #[.int .u64 0, .int .i64 0, .int .u64 0, .string ⟨#[]⟩, .slice none 0 0] 45)) (.cells #[.int .u64 ((n : Int) / 4), .int .i64 ((n : Int) % 4), .int .u64 0, .string ⟨#[]⟩, .slice none 0 0] 45)
    rw [show (w.alloc (.cells #[.int .u64 0, .int .i64 0, .int .u64 0, .string ⟨#[]⟩, .slice none 0 0] 45)).heap.size = w.heap.size + 1 by simp] at hfz
    rw [hfz] at hf5
    have HB5 := Lib.hid hb5
    have HF5 := Lib.hid hf5
    have HO5 := Lib.hid o5
    have HS5 := Lib.hid hS5
    have HG5 := Lib.hid (only_trans (only_alloc (only_alloc (only_refl w none) (.cells #[.int .u64 0, .int .i64 0, .int .u64 0, .string ⟨#[]⟩, .slice none 0 0] 45)) (.cells #[.int .u64 ((n : Int) / 4), .int .i64 ((n : Int) % 4), .int .u64 0, .string ⟨#[]⟩, .slice none 0 0] 45)) g5)
    have r0 : w5.cell? ⟨w.heap.size, 0, none⟩ = some (.int .u64 0) := by simp [World.cell?, hb5]
    have r1 : w5.cell? ⟨w.heap.size, 1, none⟩ = some (.int .i64 0) := by simp [World.cell?, hb5]
    have r2 : w5.cell? ⟨w.heap.size, 2, none⟩ = some (.int .u64 0) := by simp [World.cell?, hb5]
    have r3 : w5.cell? ⟨w.heap.size, 3, none⟩ = some (.string ⟨#[]⟩) := by simp [World.cell?, hb5]
    have r4 : w5.cell? ⟨w.heap.size, 4, none⟩ = some (.slice none 0 0) := by simp [World.cell?, hb5]
    have x0 : w5.frozen? ⟨w.heap.size, 0, none⟩ = false := by simp [World.frozen?, hb5]
    have x1 : w5.frozen? ⟨w.heap.size, 1, none⟩ = false := by simp [World.frozen?, hb5]
    have x2 : w5.frozen? ⟨w.heap.size, 2, none⟩ = false := by simp [World.frozen?, hb5]
    have x3 : w5.frozen? ⟨w.heap.size, 3, none⟩ = false := by simp [World.frozen?, hb5]
    have x4 : w5.frozen? ⟨w.heap.size, 4, none⟩ = false := by simp [World.frozen?, hb5]
    have f0 : w5.cell? ⟨w.heap.size + 1, 0, none⟩ = some (.int .u64 ((n : Int) / 4)) := by simp [World.cell?, hf5]
    have f1 : w5.cell? ⟨w.heap.size + 1, 1, none⟩ = some (.int .i64 ((n : Int) % 4)) := by simp [World.cell?, hf5]
    have f2 : w5.cell? ⟨w.heap.size + 1, 2, none⟩ = some (.int .u64 0) := by simp [World.cell?, hf5]
    have f3 : w5.cell? ⟨w.heap.size + 1, 3, none⟩ = some (.string ⟨#[]⟩) := by simp [World.cell?, hf5]
    have f4 : w5.cell? ⟨w.heap.size + 1, 4, none⟩ = some (.slice none 0 0) := by simp [World.cell?, hf5]
    have y4 : w5.frozen? ⟨w.heap.size + 1, 4, none⟩ = false := by simp [World.frozen?, hf5]
    clear hb5 hf5 hfz o5 hS5 g5
    have hs5 : ∀ k, (S5 k ∨ (Value.slice xa ql.length xc).ownBlock = some k) → w.heap.size + 2 ≤ k ∧ k < w5.heap.size := fun k hk => by
      refine ⟨?_, HO5.out.all_lt k hk⟩
      rcases hk with hk | hk
      · have := HS5.out k hk; simp only [World.alloc, Array.size_push] at this; omega
      · have := (HO5.out.lt k hk).1; simp only [World.alloc, Array.size_push] at this; omega
    have HS := Lib.hid hs5
    clear hs5
    go_wp2_with fail
    have e1 := E1.out
    have e2 := E2.out
    have hb6 : (w5.setCell ⟨w.heap.size + 1, 4, none⟩ (.slice xa ql.length xc)).heap[w.heap.size]? = some (.cells #[.int .u64 0, .int .i64 0, .int .u64 0, .string ⟨#[]⟩, .slice none 0 0] 45) := (Below.heap_setCell _ _ _ _ (by simp)).trans HB5.out
    have gc : Chg (fun k => k = w.heap.size ∨ k = w.heap.size + 1) w5 ((((((w5.setCell ⟨w.heap.size + 1, 4, none⟩ (.slice xa ql.length xc)).setCell ⟨w.heap.size, 0, none⟩ (.int .u64 ((n : Int) / 4))).setCell ⟨w.heap.size, 1, none⟩ (.int .i64 ((n : Int) % 4))).setCell ⟨w.heap.size, 2, none⟩ (.int .u64 0)).setCell ⟨w.heap.size, 3, none⟩ (.string ⟨#[]⟩)).setCell ⟨w.heap.size, 4, none⟩ (.slice xa ql.length xc)) :=
      ((((((Chg.refl _ w5).setCell (.inl (.inr rfl)) _).setCell (.inl (.inl rfl)) _).setCell (.inl (.inl rfl)) _).setCell (.inl (.inl rfl)) _).setCell (.inl (.inl rfl)) _).setCell (.inl (.inl rfl)) _
    have gg := only_setCell (only_setCell (only_setCell (only_setCell (only_setCell (only_setCell HG5.out (p := ⟨w.heap.size + 1, 4, none⟩) (.inr (Nat.le_succ _)) (.slice xa ql.length xc)) (p := ⟨w.heap.size, 0, none⟩) (.inr (Nat.le_refl _)) (.int .u64 ((n : Int) / 4))) (p := ⟨w.heap.size, 1, none⟩) (.inr (Nat.le_refl _)) (.int .i64 ((n : Int) % 4))) (p := ⟨w.heap.size, 2, none⟩) (.inr (Nat.le_refl _)) (.int .u64 0)) (p := ⟨w.heap.size, 3, none⟩) (.inr (Nat.le_refl _)) (.string ⟨#[]⟩)) (p := ⟨w.heap.size, 4, none⟩) (.inr (Nat.le_refl _)) (.slice xa ql.length xc)
    refine bodyPost_ret (results_cell3 rfl _ _ w.heap.size 45 #[.int .u64 ((n : Int) / 4), .int .i64 ((n : Int) % 4), .int .u64 0, .string ⟨#[]⟩, .slice xa ql.length xc] (0, 0) _ rfl (heap_five hb6 _ _ _ _ _) Tryd.underlying45 rfl (by kernel_rfl)) rfl ⟨.slice xa ql.length xc, fun k => S5 k ∨ (Value.slice xa ql.length xc).ownBlock = some k, by simp [fv, Tree.tag, Tree.typ, Tree.num, Tree.text, Tree.list, e1, e2], HO5.out.rd.kept gc (fun k hk e => by have := HS.out k hk; omega), fun k hk => ⟨by have := HS.out k hk; omega, by have := (HS.out k hk).2; have := gc.size; omega⟩, gg⟩

-- MORE
set_option maxHeartbeats 4000000 in
set_option maxRecDepth 100000 in
theorem rall_any (d D : Nat) (hd : D + d = 8) (hone : ∀ (s : ByteArray), s.size ≤ 100000 → ∀ (last : Nat), last < 18446744073709551616 → ∀ w : World, Calls Tryd.prog 35 #[.string s, .int .i64 (D : Nat), .int .u64 (last : Nat)] w (OneP w (oneW (subD d) s.data.toList last)))
    (s : ByteArray) (hs : s.size ≤ 100000) (w : World) :
    Calls Tryd.prog 32 #[.string s, .int .i64 (D : Nat)] w (AllP 45 w (readD d s.data.toList)) := by
  have HO := Lib.hid hone
  have hlen : s.data.toList.length = s.size := by simp
  have HLEN := Lib.hid hlen
  clear hone hlen
  go_enter Tryd.func32, Tryd.ntmps32
  go_wp2_with fail
  go_loopg [6, 7, 0] s.size (fun gg v y x wr => ∃ (k last : Nat) (acc : List Tree) (S' : Nat → Prop), k ≤ s.size ∧ s.size - k ≤ gg ∧ x = .string (s.extract k s.size) ∧ y = .int .u64 (last : Nat) ∧ last < 18446744073709551616 ∧ OwnF 45 w.heap.size S' wr v acc ∧ (∀ k, S' k → w.heap.size ≤ k) ∧ acc.length ≤ k ∧
    w.grownBy wr none ∧ glueW acc (allW (subD d) (s.data.toList.drop k) last) = readD d s.data.toList)
  case atStart => exact ⟨0, 0, [], fun _ => False, Nat.zero_le _, by omega, by simp, rfl, by omega, OwnF.nil _ _ _, fun k e => e.elim, by simp, only_refl _ _, by rw [List.drop_zero, readD_eq, glueW_nil _ (allW_good _ _ _ _ (Nat.le_refl _))]⟩
  case round =>
    obtain ⟨k, last, acc, S', hk, hgk, rfl, rfl, hlast, ho, hS, hacc, hg, hall⟩ := hrel
    have HW := Lib.hid ho
    have HS := Lib.hid hS
    have HG := Lib.hid hg
    have hsz := hg.size
    have HALL := Lib.hid hall
    have hX : (s.extract k s.size).size = s.size - k := by simp
    have hdl : (s.data.toList.drop k).length = s.size - k := by rw [List.length_drop, HLEN.out]
    have HC := Lib.hid (HO.out (s.extract k s.size) (by omega) last hlast)
    rw [bytes_drop] at HC
    clear ho hS hg hall
    by_cases hend : k = s.size
    · have hnil : s.data.toList.drop k = [] := List.drop_of_length_le (by rw [HLEN.out]; omega)
      rw [hnil, allW_nil] at HALL
      have hX0 : (s.extract k s.size).size = 0 := by omega
      have HK := Lib.hid hend
      clear HC hnil hend
      generalize s.extract k s.size = X at *
      clear hX
      go_wp2_with fail
      go_ret2
      refine ⟨u6, S', ?_, ?_, HS.out, HG.out⟩
      · rw [← HALL.out]; simp [glueW]
      · rw [← HALL.out]; simpa [glueW] using HW.out
    · have hne : s.data.toList.drop k ≠ [] := fun h => by rw [h] at hdl; simp at hdl; omega
      have htag := one_tag (subD d) (s.data.toList.drop k) last
      rw [hdl] at htag
      have HEXT : Hid (∀ m, m ≤ s.size - k → (s.extract k s.size).extract m (s.size - k) = s.extract (k + m) s.size) := fun m hm => by
        have := extract_drop s k m hk hm
        rwa [hX] at this
      have HDD : Hid (∀ m, (s.data.toList.drop k).drop m = s.data.toList.drop (k + m)) := fun m => by rw [List.drop_drop]
      have HERR := Lib.hid (fun h => @allW_err (subD d) (s.data.toList.drop k) last hne h)
      have HOK := Lib.hid (fun h => @allW_ok (subD d) (s.data.toList.drop k) last hne h)
      have HPOS := Lib.hid (fun h => one_pos (subD d) (s.data.toList.drop k) last h)
      have hX0 : 0 < (s.extract k s.size).size := by omega
      generalize hq : oneW (subD d) (s.data.toList.drop k) last = q at *
      clear hq hne
      generalize hXX : s.extract k s.size = X at *
      clear hXX
      go_wp2_with fail
      refine (HC.out wr).mono ?_
      rintro e1 w1 ⟨lv1, S1, rfl, r1, hS1, g1⟩
      obtain ⟨xa, xc, rfl⟩ := r1.shape
      by_cases he : q.2.2 = 0
      · have heb : ((q.2.2 : Int) != 0) = false := by rw [he]; rfl
        have HQ := Lib.hid (HOK.out he)
        have hpos := HPOS.out he
        have HV := Lib.hid (var_new w1 45 q.1 (.slice xa q.1.list.length xc))
        have hga := only_alloc (only_refl w1 none) (.cells #[.int .u64 (q.1.tag : Nat), .int .i64 q.1.typ, .int .u64 (q.1.num : Nat), .string q.1.text, .slice xa q.1.list.length xc] 45)
        have HRA := Lib.hid (r1.grown hga)
        have HOA := Lib.hid (HW.out.grown (only_trans g1 hga))
        have HGA := Lib.hid (only_trans HG.out (only_trans g1 hga))
        have hz1 := g1.size
        have hza : (w1.alloc (.cells #[.int .u64 (q.1.tag : Nat), .int .i64 q.1.typ, .int .u64 (q.1.num : Nat), .string q.1.text, .slice xa q.1.list.length xc] 45)).heap.size = w1.heap.size + 1 := by simp
        have HN : Hid (∀ k, S1 k → wr.heap.size ≤ k ∧ k < w1.heap.size) := hS1
        have HB := Lib.hid (fun k e => (HW.out.lt k e).2)
        have HB0 := Lib.hid (fun k e => (HW.out.lt k e).1)
        clear r1 g1 hS1 hga
        have hm := HEXT.out q.2.1 (by omega)
        have HM := Lib.hid hm
        have hk2 : q.2.1 ≤ X.size := by omega
        clear hm he
        go_wp2_with (at_builtin; refine wpList_append_f rfl _ _ _ 45 (by rfl) (w1.alloc (.cells #[.int .u64 (q.1.tag : Nat), .int .i64 q.1.typ, .int .u64 (q.1.num : Nat), .string q.1.text, .slice xa q.1.list.length xc] 45)) _ Tryd.underlying32 Tryd.infoRefF rfl w.heap.size S' S1 _ acc (by rfl) HOA.out q.1 (.slice xa q.1.list.length xc) HRA.out ?c1 ?c2 (w1.heap.size + 1) hza (by rfl) ?c3 ?c4 ?_)
        case c1 => intro k hk; have := (HN.out k hk).2; omega
        case c2 => intro k e hk; have h1 := HB.out k e; have h2 := (HN.out k hk).1; omega
        case c3 => omega
        case c4 => omega
        intro v7 w7 ho7 g7
        have hc7 : Chg (fun k => u6.ownBlock = some k) _ w7 := Chg.of_grown g7 (fun k e => .inl e)
        obtain ⟨d0, d1, d2, d3, d4⟩ := HV.out.kept hc7 (fun e => by have := HB.out _ e; omega)
        have HO7 := Lib.hid ho7
        have HG7 := Lib.hid (below_to_none (below_of_only (below_of_none HGA.out) g7 HGA.out.size (fun k e => HB0.out k e)))
        clear ho7 g7 hc7
        go_wp2_with fail
        rw [HM.out]
        go_roundg (gk - 1)
        case measure => omega
        case rel =>
          refine ⟨k + q.2.1, q.1.tag, acc ++ [q.1], fun k => S' k ∨ S1 k, by omega, by omega, rfl, rfl, by omega, HO7.out, fun k hk => ?_, by simp; omega, HG7.out, ?_⟩
          · rcases hk with hk | hk
            · exact HS.out k hk
            · have := (HN.out k hk).1; omega
          · rw [← HALL.out, HQ.out, HDD.out, glueW_glueW]
      · have heb : ((q.2.2 : Int) != 0) = true := by rw [bne_iff_ne]; omega
        have HQ := Lib.hid (HERR.out (by simpa using he))
        have HR : Hid (readD d s.data.toList = ([], q.2.2)) := by
          show _ = _
          rw [← HALL.out, HQ.out]
          unfold glueW
          rw [if_pos (by simpa using he)]
        have HGE := Lib.hid (only_trans HG.out g1)
        clear r1 g1 hS1 he
        go_wp2_with fail
        go_ret2
        exact ⟨.slice none 0 0, fun _ => False, by rw [HR.out]; rfl, by rw [HR.out]; exact OwnF.nil _ _ _, fun k e => e.elim, by first | exact HGE.out | exact only_alloc HGE.out _⟩

/-- The document's reading of all, however many Lists there may be. -/
theorem rread_any : ∀ (d D : Nat), D + d = 8 → ∀ (s : ByteArray), s.size ≤ 100000 → ∀ w : World, Calls Tryd.prog 32 #[.string s, .int .i64 (D : Nat)] w (AllP 45 w (readD d s.data.toList))
  | 0, D, hd, s, hs, w => rall_any 0 D hd (fun s hs last hl w => rone_any 0 D hd (fun e he => by omega) s hs last hl w) s hs w
  | d + 1, D, hd, s, hs, w => rall_any (d + 1) D hd (fun s hs last hl w => rone_any (d + 1) D hd (fun e he s hs w => by
      obtain rfl : d = e := by omega
      have := rread_any d (D + 1) (by omega) s hs w
      rwa [show ((D + 1 : Nat) : Int) = (D : Int) + 1 by omega] at this) s hs last hl w) s hs w

theorem rfirst_any (s : ByteArray) (hs : s.size ≤ 100000) (w : World) : Calls Tryd.prog 17 #[.string s] w (OneP w (oneW (subD 8) s.data.toList 0)) := by
  have HO := Lib.hid (rone_any 8 0 rfl (fun e he s hs w => by
    obtain rfl : e = 7 := by omega
    exact rread_any 7 1 rfl s hs w) s hs 0 (by omega))
  generalize oneW (subD 8) s.data.toList 0 = q at *
  go_enter Tryd.func17, Tryd.ntmps17
  go_wp2_with fail
  refine (HO.out _).mono ?_
  rintro e1 w1 ⟨lv1, S1, rfl, r1, hS1, g1⟩
  have hb5 := g1.block w.heap.size (by simp only [World.alloc, Array.size_push]; omega) (by simp)
  rw [heap_alloc_new w _] at hb5
  have HB5 := Lib.hid hb5
  have HR1 := Lib.hid r1
  have HS1 : Hid (∀ k, S1 k → w.heap.size + 1 ≤ k ∧ k < w1.heap.size) := fun k hk => by have := hS1 k hk; simp only [World.alloc, Array.size_push] at this; omega
  have HG1 := Lib.hid (only_trans (only_alloc (only_refl w none) (.cells #[.int .u64 0, .int .i64 0, .int .u64 0, .string ⟨#[]⟩, .slice none 0 0] 45)) g1)
  have r0 : w1.cell? ⟨w.heap.size, 0, none⟩ = some (.int .u64 0) := by simp [World.cell?, hb5]
  have r1 : w1.cell? ⟨w.heap.size, 1, none⟩ = some (.int .i64 0) := by simp [World.cell?, hb5]
  have r2 : w1.cell? ⟨w.heap.size, 2, none⟩ = some (.int .u64 0) := by simp [World.cell?, hb5]
  have r3 : w1.cell? ⟨w.heap.size, 3, none⟩ = some (.string ⟨#[]⟩) := by simp [World.cell?, hb5]
  have r4 : w1.cell? ⟨w.heap.size, 4, none⟩ = some (.slice none 0 0) := by simp [World.cell?, hb5]
  have x0 : w1.frozen? ⟨w.heap.size, 0, none⟩ = false := by simp [World.frozen?, hb5]
  have x1 : w1.frozen? ⟨w.heap.size, 1, none⟩ = false := by simp [World.frozen?, hb5]
  have x2 : w1.frozen? ⟨w.heap.size, 2, none⟩ = false := by simp [World.frozen?, hb5]
  have x3 : w1.frozen? ⟨w.heap.size, 3, none⟩ = false := by simp [World.frozen?, hb5]
  have x4 : w1.frozen? ⟨w.heap.size, 4, none⟩ = false := by simp [World.frozen?, hb5]
  obtain ⟨xa, xc, rfl⟩ := HR1.out.shape
  clear hb5 hS1 g1
  go_wp2_with fail
  have gc : Chg (fun k => k = w.heap.size) w1 (((((w1.setCell ⟨w.heap.size, 0, none⟩ (.int .u64 (q.1.tag : Nat))).setCell ⟨w.heap.size, 1, none⟩ (.int .i64 q.1.typ)).setCell ⟨w.heap.size, 2, none⟩ (.int .u64 (q.1.num : Nat))).setCell ⟨w.heap.size, 3, none⟩ (.string q.1.text)).setCell ⟨w.heap.size, 4, none⟩ (.slice xa q.1.list.length xc)) :=
    (((((Chg.refl (fun k => k = w.heap.size) w1).setCell (p := ⟨w.heap.size, 0, none⟩) (.inl rfl) _).setCell (p := ⟨w.heap.size, 1, none⟩) (.inl rfl) _).setCell (p := ⟨w.heap.size, 2, none⟩) (.inl rfl) _).setCell (p := ⟨w.heap.size, 3, none⟩) (.inl rfl) _).setCell (p := ⟨w.heap.size, 4, none⟩) (.inl rfl) _
  have gg := only_setCell (only_setCell (only_setCell (only_setCell (only_setCell HG1.out (p := ⟨w.heap.size, 0, none⟩) (.inr (Nat.le_refl _)) (.int .u64 (q.1.tag : Nat))) (p := ⟨w.heap.size, 1, none⟩) (.inr (Nat.le_refl _)) (.int .i64 q.1.typ)) (p := ⟨w.heap.size, 2, none⟩) (.inr (Nat.le_refl _)) (.int .u64 (q.1.num : Nat))) (p := ⟨w.heap.size, 3, none⟩) (.inr (Nat.le_refl _)) (.string q.1.text)) (p := ⟨w.heap.size, 4, none⟩) (.inr (Nat.le_refl _)) (.slice xa q.1.list.length xc)
  refine bodyPost_ret (results_cell3 rfl _ _ w.heap.size 45 #[.int .u64 (q.1.tag : Nat), .int .i64 q.1.typ, .int .u64 (q.1.num : Nat), .string q.1.text, .slice xa q.1.list.length xc] (0, 0) _ rfl (heap_five HB5.out _ _ _ _ _) Tryd.underlying45 rfl (by kernel_rfl)) rfl ⟨.slice xa q.1.list.length xc, S1, rfl, HR1.out.kept gc (fun k hk e => by have := HS1.out k hk; omega), fun k hk => ⟨by have := HS1.out k hk; omega, by have := (HS1.out k hk).2; have := gc.size; omega⟩, gg⟩

theorem rgetw_any (s : ByteArray) (hs : s.size ≤ 100000) (w : World) : Calls Tryd.prog 15 #[.string s] w (AllP 45 w (getW s.data.toList)) := by
  have hlen : s.data.toList.length = s.size := by simp
  have HA := Lib.hid (fun w => rread_any 8 0 rfl s hs w)
  unfold getW
  rw [hlen]
  clear hlen
  by_cases hb : 65536 < s.size
  · rw [if_pos hb]
    go_enter Tryd.func15, Tryd.ntmps15
    go_wp2_with fail
    go_ret2
    exact ⟨.slice none 0 0, fun _ => False, rfl, OwnF.nil _ _ _, fun k e => e.elim, only_refl _ _⟩
  · rw [if_neg hb]
    generalize readD 8 s.data.toList = q at *
    go_enter Tryd.func15, Tryd.ntmps15
    go_wp2_with fail
    refine (HA.out _).mono ?_
    rintro e1 w1 ⟨v1, S1, rfl, o1, hS1, g1⟩
    have HO1 := Lib.hid o1
    have HS1 := Lib.hid hS1
    have HG1 := Lib.hid g1
    clear o1 hS1 g1
    go_wp2_with fail
    go_ret2
    exact ⟨v1, S1, rfl, HO1.out, HS1.out, HG1.out⟩

end Go.Proofs.YtigmfbmjfjkfjaaDoor.wm
