/-
  The developers' reader of fields: next, all; Get, First.
-/
import Derived.Test.YtigmfbmjfjkfjaaDoorWlist
import Derived.Deep.RegionHeld3
import Derived.Sort.AtCall
namespace Go.Proofs.YtigmfbmjfjkfjaaDoor.ww
open Go.RowKit Go.Proofs.YtigmfbmjfjkfjaaDoor.tr Go.Proofs.YtigmfbmjfjkfjaaDoor.wm Go.Proofs.YtigmfbmjfjkfjaaDoor.vi Go.Proofs.YtigmfbmjfjkfjaaDoor.cur
set_option linter.unusedVariables false
set_option linter.unusedSimpArgs false

theorem results_cell2 {P : Program} {fn : Func} {p u : Tmp} {ty : TypeId} (h : fn.results = #[.cell p ty, .tmp u]) (tmps : Array Value) (w : World) (g : Nat) (t : TypeId) (cs : Array Value) (fr : Nat × Nat) (d : TypeDesc)
    (hp : tmps.getD p undef = .pointer (some ⟨g, 0, none⟩)) (hg : w.heap[g]? = some (.cells cs t fr))
    (hu : P.underlying ty = some d) (hd : (match d with | .struct _ | .array _ _ => true | _ => false) = true) (hi : (P.info? ty).map (·.size) = some cs.size) :
    (results fn tmps).run P w = .ok (.tuple #[.agg cs, tmps.getD u undef]) w := by
  have hp' : tmps[p]?.getD undef = .pointer (some ⟨g, 0, none⟩) := by simpa using hp
  simp [results, h, hp', asAddr, run_loadVar_row w g t ty cs fr d hg hu hd hi]

theorem five_at {w : World} {g : Nat} {z0 z1 z2 z3 z4 : Value} {ty : TypeId} (h : w.heap[g]? = some (.cells #[z0, z1, z2, z3, z4] ty (0, 0))) :
    (w.cell? ⟨g, 0, none⟩ = some z0 ∧ w.cell? ⟨g, 1, none⟩ = some z1 ∧ w.cell? ⟨g, 2, none⟩ = some z2 ∧ w.cell? ⟨g, 3, none⟩ = some z3 ∧ w.cell? ⟨g, 4, none⟩ = some z4) ∧
    w.frozen? ⟨g, 0, none⟩ = false ∧ w.frozen? ⟨g, 1, none⟩ = false ∧ w.frozen? ⟨g, 2, none⟩ = false ∧ w.frozen? ⟨g, 3, none⟩ = false ∧ w.frozen? ⟨g, 4, none⟩ = false := by
  simp [World.cell?, World.frozen?, h]

def Z5 : Obj := .cells #[.int .u64 0, .int .i64 0, .int .u64 0, .string ⟨#[]⟩, .slice none 0 0] 41 (0, 0)

/-- What the reading of the next field hands back. -/
def NextQ (w : World) (r c : Nat) (s : ByteArray) (k D : Nat) (q : Tree × Nat × Nat) (e : Ending) (w' : World) : Prop :=
  ∃ lv S', e = .returned (.tuple #[.agg #[.int .u64 (q.1.tag : Nat), .int .i64 q.1.typ, .int .u64 (q.1.num : Nat), .string q.1.text, lv], .int .i64 (q.2.2 : Nat)]) ∧ Rd w' S' lv q.1.list ∧ (∀ j, S' j → w.heap.size ≤ j ∧ j < w'.heap.size) ∧
    Chg (fun j => j = r ∨ j = c) w w' ∧ (q.2.2 = 0 → Rdr w' r c s (k + q.2.1) D q.1.tag)

/-- The result's block, set to nothing: what comes back beside an error. -/
theorem five_sets {S : Nat → Prop} {w w1 : World} {g : Nat} (hg : Chg S w w1) (hge : w.heap.size ≤ g) (a b c d e : Value) : Chg S w (((((w1.setCell ⟨g, 0, none⟩ a).setCell ⟨g, 1, none⟩ b).setCell ⟨g, 2, none⟩ c).setCell ⟨g, 3, none⟩ d).setCell ⟨g, 4, none⟩ e) :=
  ((((hg.setCell (p := ⟨g, 0, none⟩) (.inr hge) a).setCell (p := ⟨g, 1, none⟩) (.inr hge) b).setCell (p := ⟨g, 2, none⟩) (.inr hge) c).setCell (p := ⟨g, 3, none⟩) (.inr hge) d).setCell (p := ⟨g, 4, none⟩) (.inr hge) e
theorem five_sets' (w1 : World) (g : Nat) (a b c d e : Value) : Chg (fun k => k = g) w1 (((((w1.setCell ⟨g, 0, none⟩ a).setCell ⟨g, 1, none⟩ b).setCell ⟨g, 2, none⟩ c).setCell ⟨g, 3, none⟩ d).setCell ⟨g, 4, none⟩ e) :=
  (((((Chg.refl (fun k => k = g) w1).setCell (p := ⟨g, 0, none⟩) (.inl rfl) a).setCell (p := ⟨g, 1, none⟩) (.inl rfl) b).setCell (p := ⟨g, 2, none⟩) (.inl rfl) c).setCell (p := ⟨g, 3, none⟩) (.inl rfl) d).setCell (p := ⟨g, 4, none⟩) (.inl rfl) e

theorem idx_0 (w : World) : (Instr.index 98 (.agg #[.func (.func 57) #[] #[], .func (.func 58) #[] #[], .func (.func 59) #[] #[]]) (.int .i64 0)).run Tryd.prog w = .ok (.func (.func 57) #[] #[]) w := by kernel_rfl

theorem idx_1 (w : World) : (Instr.index 98 (.agg #[.func (.func 57) #[] #[], .func (.func 58) #[] #[], .func (.func 59) #[] #[]]) (.int .i64 1)).run Tryd.prog w = .ok (.func (.func 58) #[] #[]) w := by kernel_rfl

theorem idx_2 (w : World) : (Instr.index 98 (.agg #[.func (.func 57) #[] #[], .func (.func 58) #[] #[], .func (.func 59) #[] #[]]) (.int .i64 2)).run Tryd.prog w = .ok (.func (.func 59) #[] #[]) w := by kernel_rfl

theorem slot_y {w : World} {f a y n : Nat} {x : ByteArray} {lv : Value} {z : Int} (h : Slot w f a y n x lv) (hz : (y : Int) = z) : w.cell? ⟨f, 1, none⟩ = some (.int .i64 z) := by
  unfold Slot at h
  simp [World.cell?, h, hz]

set_option maxHeartbeats 8000000 in
set_option maxRecDepth 100000 in
theorem wnext_any (d D : Nat) (hd : D + d = 8) (hall : ∀ e, d = e + 1 → ∀ (s : ByteArray), s.size ≤ 100000 → ∀ (w : World) (r c : Nat), Rdr w r c s 0 (D + 1) 0 → Calls Tryd.prog 31 #[.pointer (some ⟨r, 0, none⟩)] w (AllQ w r c (readD e s.data.toList)))
    (w : World) (r c : Nat) (s : ByteArray) (k p : Nat) (hsz : s.size ≤ 100000) (hp : p < 18446744073709551616) (h : Rdr w r c s k D p) :
    Calls Tryd.prog 33 #[.pointer (some ⟨r, 0, none⟩)] w (NextQ w r c s k D (oneW (subD d) (s.data.toList.drop k) p)) := by
  have HALL := Lib.hid hall
  have hrl := h.lt
  have hcl := h.cur.lt
  have hkle := h.cur.le
  have HNE := Lib.hid h.ne
  -- behind the result's block
  have h0 : Rdr (w.alloc (.cells #[.int .u64 0, .int .i64 0, .int .u64 0, .string ⟨#[]⟩, .slice none 0 0] 41)) r c s k D p := h.kept (T := fun _ => False) ((Chg.refl _ w).alloc _) (fun e => e) (fun e => e)
  have HR0 := Lib.hid h0
  have HN := Lib.hid (next_some h0.cur)
  have r0 : (w.alloc (.cells #[.int .u64 0, .int .i64 0, .int .u64 0, .string ⟨#[]⟩, .slice none 0 0] 41)).cell? ⟨r, 0, none⟩ = some (.pointer (some ⟨c, 0, none⟩)) := by simp [World.cell?, h0.row]
  have HZ0 := Lib.hid (heap_alloc_new w (.cells #[.int .u64 0, .int .i64 0, .int .u64 0, .string ⟨#[]⟩, .slice none 0 0] 41))
  have hs0 : (w.alloc (.cells #[.int .u64 0, .int .i64 0, .int .u64 0, .string ⟨#[]⟩, .slice none 0 0] 41)).heap.size = w.heap.size + 1 := by simp
  have HG0 : Hid (Chg (fun j => j = r ∨ j = c) w (w.alloc (.cells #[.int .u64 0, .int .i64 0, .int .u64 0, .string ⟨#[]⟩, .slice none 0 0] 41))) := (Chg.refl _ w).alloc _
  have hlen : (s.data.toList.drop k).length = s.size - k := by simp
  have HLEN := Lib.hid hlen
  clear h h0 hall hlen
  refine one_split (subD d) (s.data.toList.drop k) p (P := fun q => Calls Tryd.prog 33 #[.pointer (some ⟨r, 0, none⟩)] w (NextQ w r c s k D q)) ?_ ?_ ?_ ?_
  · intro he
    obtain ⟨n, m, E, hg⟩ : ∃ n m E, getR (s.data.toList.drop k) = (n, m, E) := ⟨_, _, _, rfl⟩
    rw [hg] at he HN ⊢
    simp only at he HN ⊢
    have hqb : ((E : Int) != 0) = true := by rw [bne_iff_ne]; omega
    have HE := Lib.hid he
    clear he hg
    go_enter Tryd.func33, Tryd.ntmps33
    go_wp2_with fail
    refine HN.out.mono ?_
    rintro e w1 ⟨rfl, hc1, g1⟩
    have HZ1 : Hid (w1.heap[w.heap.size]? = some (.cells #[.int .u64 0, .int .i64 0, .int .u64 0, .string ⟨#[]⟩, .slice none 0 0] 41 (0, 0))) := by
      show _ = _
      rw [g1.block w.heap.size (by rw [hs0]; omega) (fun e => by have := Option.some.inj e; omega)]; exact HZ0.out
    have HG1 : Hid (Chg (fun j => j = r ∨ j = c) w w1) := HG0.out.trans (T := fun j => j = c) (Chg.of_grown g1 (fun q e => .inl (Option.some.inj e).symm)) (fun j e => .inl (.inr e))
    obtain ⟨⟨z0, z1, z2, z3, z4⟩, x0, x1, x2, x3, x4⟩ := five_at HZ1.out
    clear hc1 g1 r0
    go_wp2_with fail
    exact bodyPost_ret (results_cell2 rfl _ _ w.heap.size 41 #[.int .u64 0, .int .i64 0, .int .u64 0, .string ⟨#[]⟩, .slice none 0 0] (0, 0) _ rfl (heap_five HZ1.out _ _ _ _ _) Tryd.underlying41 rfl (by kernel_rfl)) rfl ⟨.slice none 0 0, fun _ => False, rfl, .nil _ _, fun k e => e.elim, five_sets HG1.out (Nat.le_refl _) _ _ _ _ _, fun e => absurd e HE.out⟩
  · intro n m hg hm hml hn he
    rw [hg] at HN
    simp only at HN
    have h19 : headE n p < 19 := by unfold headE; split; omega; split; omega; split <;> omega
    have HCH := Lib.hid (fun (la : Option Addr) (ll lc mm : Nat) (x : ByteArray) (w : World) (v0 v1 : Value) h => chead_any n p hn la ll lc mm x w r v0 v1 h)
    have hq1 : (n : Int) / 4 = ((n / 4 : Nat) : Int) := by omega
    have hq2 : (n : Int) % 4 = ((n % 4 : Nat) : Int) := by omega
    have HE := Lib.hid he
    clear hg he
    generalize headE n p = E at *
    generalize n / 4 = a at *
    generalize n % 4 = y at *
    have hqb : ((E : Int) != 0) = true := by rw [bne_iff_ne]; have := HE.out; omega
    go_enter Tryd.func33, Tryd.ntmps33
    go_wp2_with fail
    refine HN.out.mono ?_
    rintro e w1 ⟨rfl, hc1, g1⟩
    have hz1 : w1.heap[w.heap.size]? = some (.cells #[.int .u64 0, .int .i64 0, .int .u64 0, .string ⟨#[]⟩, .slice none 0 0] 41 (0, 0)) := by
      rw [g1.block w.heap.size (by rw [hs0]; omega) (fun e => by have := Option.some.inj e; omega)]; exact HZ0.out
    have HG1 : Hid (Chg (fun j => j = r ∨ j = c) w w1) := HG0.out.trans (T := fun j => j = c) (Chg.of_grown g1 (fun q e => .inl (Option.some.inj e).symm)) (fun j e => .inl (.inr e))
    have HR1 := Lib.hid (HR0.out.moved hc1 g1)
    have HZ1 := Lib.hid hz1
    clear hc1 g1 r0 hz1
    have HW2 := Lib.hid (fun o => (⟨HG1.out.alloc o, HR1.out.kept (T := fun _ => False) ((Chg.refl _ w1).alloc o) (fun e => e) (fun e => e), (heap_alloc_old w1 o (Array.getElem?_eq_some_iff.1 HZ1.out).1).trans HZ1.out⟩ : Chg (fun j => j = r ∨ j = c) w (w1.alloc o) ∧ Rdr (w1.alloc o) r c s (k + m) D p ∧ (w1.alloc o).heap[w.heap.size]? = some (.cells #[.int .u64 0, .int .i64 0, .int .u64 0, .string ⟨#[]⟩, .slice none 0 0] 41 (0, 0))))
    go_wp2_with fail
    obtain ⟨hg2, hr2, hz2⟩ := HW2.out (.cells #[.int .u64 (a : Nat), .int .i64 (y : Nat), .int .u64 0, .string ⟨#[]⟩, .slice none 0 0] 41)
    have HG2 := Lib.hid hg2
    have HZ2 := Lib.hid hz2
    refine (HCH.out _ _ _ 0 _ _ _ _ hr2.row).mono ?_
    rintro e w3 ⟨rfl, g3⟩
    have HG3 : Hid (Chg (fun j => j = r ∨ j = c) w w3) := HG2.out.of_none' g3
    have HZ3 : Hid (w3.heap[w.heap.size]? = some (.cells #[.int .u64 0, .int .i64 0, .int .u64 0, .string ⟨#[]⟩, .slice none 0 0] 41 (0, 0))) := by
      show _ = _
      rw [g3.block w.heap.size (Array.getElem?_eq_some_iff.1 HZ2.out).1 (by simp)]; exact HZ2.out
    obtain ⟨⟨z0, z1, z2, z3, z4⟩, x0, x1, x2, x3, x4⟩ := five_at HZ3.out
    clear hg2 hr2 hz2 g3
    go_wp2_with fail
    exact bodyPost_ret (results_cell2 rfl _ _ w.heap.size 41 #[.int .u64 0, .int .i64 0, .int .u64 0, .string ⟨#[]⟩, .slice none 0 0] (0, 0) _ rfl (heap_five HZ3.out _ _ _ _ _) Tryd.underlying41 rfl (by kernel_rfl)) rfl ⟨.slice none 0 0, fun _ => False, rfl, .nil _ _, fun k e => e.elim, five_sets HG3.out (Nat.le_refl _) _ _ _ _ _, fun e => absurd e HE.out⟩
  -- GEN
  · intro n m hg hm hml hn he hbe
    rw [hg] at HN
    simp only at HN
    rw [List.drop_drop] at hbe ⊢
    have HCH := Lib.hid (fun (la : Option Addr) (ll lc mm : Nat) (x : ByteArray) (w : World) (v0 v1 : Value) h => chead_any n p hn la ll lc mm x w r v0 v1 h)
    rw [he] at HCH
    have hy3 : n % 4 ≤ 2 := by
      unfold headE at he
      by_cases h1 : n % 4 = 3
      · rw [if_pos h1] at he; split at he <;> omega
      · omega
    have hq1 : (n : Int) / 4 = ((n / 4 : Nat) : Int) := by omega
    have hq2 : (n : Int) % 4 = ((n % 4 : Nat) : Int) := by omega
    clear hg he
    obtain ⟨B, hB⟩ : ∃ B, bodyW (subD d) (n % 4) (s.data.toList.drop (k + m)) = B := ⟨_, rfl⟩
    rw [hB] at hbe ⊢
    generalize n / 4 = a at *
    generalize n % 4 = y at *
    have HB := Lib.hid hB
    have HBE := Lib.hid hbe
    clear hB hbe
    go_enter Tryd.func33, Tryd.ntmps33
    go_wp2_with fail
    refine HN.out.mono ?_
    rintro e w1 ⟨rfl, hc1, g1⟩
    have hz1 : w1.heap[w.heap.size]? = some (.cells #[.int .u64 0, .int .i64 0, .int .u64 0, .string ⟨#[]⟩, .slice none 0 0] 41 (0, 0)) := by
      rw [g1.block w.heap.size (by rw [hs0]; omega) (fun e => by have := Option.some.inj e; omega)]; exact HZ0.out
    have HG1 : Hid (Chg (fun j => j = r ∨ j = c) w w1) := HG0.out.trans (T := fun j => j = c) (Chg.of_grown g1 (fun q e => .inl (Option.some.inj e).symm)) (fun j e => .inl (.inr e))
    have HR1 := Lib.hid (HR0.out.moved hc1 g1)
    have hsz1 : w.heap.size < w1.heap.size := by have := g1.size; omega
    have HZ1 := Lib.hid hz1
    clear hc1 g1 r0 hz1
    have HW2 := Lib.hid (fun o => (⟨HG1.out.alloc o, HR1.out.kept (T := fun _ => False) ((Chg.refl _ w1).alloc o) (fun e => e) (fun e => e), (heap_alloc_old w1 o (Array.getElem?_eq_some_iff.1 HZ1.out).1).trans HZ1.out⟩ : Chg (fun j => j = r ∨ j = c) w (w1.alloc o) ∧ Rdr (w1.alloc o) r c s (k + m) D p ∧ (w1.alloc o).heap[w.heap.size]? = some (.cells #[.int .u64 0, .int .i64 0, .int .u64 0, .string ⟨#[]⟩, .slice none 0 0] 41 (0, 0))))
    go_wp2_with fail
    obtain ⟨hg2, hr2, hz2⟩ := HW2.out (.cells #[.int .u64 (a : Nat), .int .i64 (y : Nat), .int .u64 0, .string ⟨#[]⟩, .slice none 0 0] 41)
    have hs2 : Slot (w1.alloc (.cells #[.int .u64 (a : Nat), .int .i64 (y : Nat), .int .u64 0, .string ⟨#[]⟩, .slice none 0 0] 41)) w1.heap.size a y 0 ⟨#[]⟩ (.slice none 0 0) := heap_alloc_new w1 _
    have HS2 := Lib.hid hs2
    have HG2 := Lib.hid hg2
    have HR2 := Lib.hid hr2
    have HZ2 := Lib.hid hz2
    refine (HCH.out _ _ _ 0 _ _ _ _ hr2.row).mono ?_
    rintro e w3 ⟨rfl, g3⟩
    have HG3 : Hid (Chg (fun j => j = r ∨ j = c) w w3) := HG2.out.of_none' g3
    have HZ3 : Hid (w3.heap[w.heap.size]? = some (.cells #[.int .u64 0, .int .i64 0, .int .u64 0, .string ⟨#[]⟩, .slice none 0 0] 41 (0, 0))) := by
      show _ = _
      rw [g3.block w.heap.size (Array.getElem?_eq_some_iff.1 HZ2.out).1 (by simp)]; exact HZ2.out
    have HR3 := Lib.hid (HR2.out.kept (T := fun _ => False) (Chg.of_none g3) (fun e => e) (fun e => e))
    have HS3 := Lib.hid (HS2.out.kept (T := fun _ => False) (Chg.of_none g3) (fun e => e))
    have hrf : r < w1.heap.size := by have := HR1.out.lt; omega
    have hcf : c < w1.heap.size := HR1.out.cur.lt
    clear hg2 hr2 hz2 hs2 g3 HW2 HCH HG2 HR2 HZ2 HS2 HG1 HR1 HZ1 HG0 HR0 HZ0 hs0
    generalize w1.heap.size = f at *
    rcases (show y = 0 ∨ y = 1 ∨ y = 2 by omega) with hy0 | hy0 | hy0
    · subst hy0
      have HWY := Lib.hid (fun w5 h5 h6 => num_any (subD d) w5 r c f a s (k + m) D p h5 h6 (by omega) (by omega))
      have ix := idx_0
      have t1 : w3.cell? ⟨f, 1, none⟩ = some (.int .i64 0) := slot_y HS3.out rfl
      go_wp2_with fail
      go_region_held3 (fun w' => w'.cell? ⟨f, 1, none⟩ = some (.int .i64 0))
        (first | go_keep | exact slot_y (HS3.out.kept (T := fun _ => False) (Chg.of_none HG5.out) (fun e => e)) rfl | exact slot_y HS6.out rfl)
        (first
          | (go_at_call 48; refine (ways_any _).mono ?_; rintro e w5 ⟨rfl, g5⟩; have HG5 : Hid (w3.grownBy w5 none) := only_trans (only_drew (only_refl w3 none)) g5; clear g5)
          | (go_at_call 57; refine (HWY.out w5 (HR3.out.kept (T := fun _ => False) (Chg.of_none HG5.out) (fun e => e) (fun e => e)) (HS3.out.kept (T := fun _ => False) (Chg.of_none HG5.out) (fun e => e))).mono ?_; rintro e w6 ⟨rfl, c6, k6, n6, x6, lv6, S6, hc6, hs6, hS6, ok6⟩; rw [HB.out] at ok6 ⊢; have HC6 := Lib.hid c6; have HU6 := Lib.hid hc6; have HS6 := Lib.hid hs6; have HT6 := Lib.hid hS6; have OK6 := Lib.hid ok6; clear c6 hc6 hs6 hS6 ok6))
      have hz5 := HG5.out.size
      have hf3 := HS3.out.lt
      have HG6 : Hid (Chg (fun j => j = r ∨ j = c) w w6) := (HG3.out.of_none' HG5.out).trans HC6.out (fun j hj => by rcases hj with hj | hj; exact .inl (.inr hj); exact .inr (by omega))
      have HZ6 : Hid (w6.heap[w.heap.size]? = some (.cells #[.int .u64 0, .int .i64 0, .int .u64 0, .string ⟨#[]⟩, .slice none 0 0] 41 (0, 0))) := by
        show _ = _
        have h5 : w5.heap[w.heap.size]? = some (.cells #[.int .u64 0, .int .i64 0, .int .u64 0, .string ⟨#[]⟩, .slice none 0 0] 41 (0, 0)) := by rw [HG5.out.block w.heap.size (Array.getElem?_eq_some_iff.1 HZ3.out).1 (by simp)]; exact HZ3.out
        rw [HC6.out.block w.heap.size (Array.getElem?_eq_some_iff.1 h5).1 (fun hj => by rcases hj with hj | hj <;> omega)]; exact h5
      obtain ⟨⟨z0, z1, z2, z3, z4⟩, y0, y1, y2, y3, y4⟩ := five_at HZ6.out
      have hqb : ((B.err : Int) != 0) = true := by rw [bne_iff_ne]; have := HBE.out; omega
      go_wp2_with fail
      exact bodyPost_ret (results_cell2 rfl _ _ w.heap.size 41 #[.int .u64 0, .int .i64 0, .int .u64 0, .string ⟨#[]⟩, .slice none 0 0] (0, 0) _ rfl (heap_five HZ6.out _ _ _ _ _) Tryd.underlying41 rfl (by kernel_rfl)) rfl ⟨.slice none 0 0, fun _ => False, rfl, .nil _ _, fun k e => e.elim, five_sets HG6.out (Nat.le_refl _) _ _ _ _ _, fun e => absurd e HBE.out⟩
    · subst hy0
      have HWY := Lib.hid (fun w5 h5 h6 => text_any (subD d) w5 r c f a s (k + m) D p h5 h6 (by omega) (by omega))
      have ix := idx_1
      have t1 : w3.cell? ⟨f, 1, none⟩ = some (.int .i64 1) := slot_y HS3.out rfl
      go_wp2_with fail
      go_region_held3 (fun w' => w'.cell? ⟨f, 1, none⟩ = some (.int .i64 1))
        (first | go_keep | exact slot_y (HS3.out.kept (T := fun _ => False) (Chg.of_none HG5.out) (fun e => e)) rfl | exact slot_y HS6.out rfl)
        (first
          | (go_at_call 48; refine (ways_any _).mono ?_; rintro e w5 ⟨rfl, g5⟩; have HG5 : Hid (w3.grownBy w5 none) := only_trans (only_drew (only_refl w3 none)) g5; clear g5)
          | (go_at_call 58; refine (HWY.out w5 (HR3.out.kept (T := fun _ => False) (Chg.of_none HG5.out) (fun e => e) (fun e => e)) (HS3.out.kept (T := fun _ => False) (Chg.of_none HG5.out) (fun e => e))).mono ?_; rintro e w6 ⟨rfl, c6, k6, n6, x6, lv6, S6, hc6, hs6, hS6, ok6⟩; rw [HB.out] at ok6 ⊢; have HC6 := Lib.hid c6; have HU6 := Lib.hid hc6; have HS6 := Lib.hid hs6; have HT6 := Lib.hid hS6; have OK6 := Lib.hid ok6; clear c6 hc6 hs6 hS6 ok6))
      have hz5 := HG5.out.size
      have hf3 := HS3.out.lt
      have HG6 : Hid (Chg (fun j => j = r ∨ j = c) w w6) := (HG3.out.of_none' HG5.out).trans HC6.out (fun j hj => by rcases hj with hj | hj; exact .inl (.inr hj); exact .inr (by omega))
      have HZ6 : Hid (w6.heap[w.heap.size]? = some (.cells #[.int .u64 0, .int .i64 0, .int .u64 0, .string ⟨#[]⟩, .slice none 0 0] 41 (0, 0))) := by
        show _ = _
        have h5 : w5.heap[w.heap.size]? = some (.cells #[.int .u64 0, .int .i64 0, .int .u64 0, .string ⟨#[]⟩, .slice none 0 0] 41 (0, 0)) := by rw [HG5.out.block w.heap.size (Array.getElem?_eq_some_iff.1 HZ3.out).1 (by simp)]; exact HZ3.out
        rw [HC6.out.block w.heap.size (Array.getElem?_eq_some_iff.1 h5).1 (fun hj => by rcases hj with hj | hj <;> omega)]; exact h5
      obtain ⟨⟨z0, z1, z2, z3, z4⟩, y0, y1, y2, y3, y4⟩ := five_at HZ6.out
      have hqb : ((B.err : Int) != 0) = true := by rw [bne_iff_ne]; have := HBE.out; omega
      go_wp2_with fail
      exact bodyPost_ret (results_cell2 rfl _ _ w.heap.size 41 #[.int .u64 0, .int .i64 0, .int .u64 0, .string ⟨#[]⟩, .slice none 0 0] (0, 0) _ rfl (heap_five HZ6.out _ _ _ _ _) Tryd.underlying41 rfl (by kernel_rfl)) rfl ⟨.slice none 0 0, fun _ => False, rfl, .nil _ _, fun k e => e.elim, five_sets HG6.out (Nat.le_refl _) _ _ _ _ _, fun e => absurd e HBE.out⟩
    · subst hy0
      have HWY := Lib.hid (fun w5 h5 h6 => list_any d D hd HALL.out w5 r c f a s (k + m) p hsz h5 h6 (by omega) (by omega))
      have ix := idx_2
      have t1 : w3.cell? ⟨f, 1, none⟩ = some (.int .i64 2) := slot_y HS3.out rfl
      go_wp2_with fail
      go_region_held3 (fun w' => w'.cell? ⟨f, 1, none⟩ = some (.int .i64 2))
        (first | go_keep | exact slot_y (HS3.out.kept (T := fun _ => False) (Chg.of_none HG5.out) (fun e => e)) rfl | exact slot_y HS6.out rfl)
        (first
          | (go_at_call 48; refine (ways_any _).mono ?_; rintro e w5 ⟨rfl, g5⟩; have HG5 : Hid (w3.grownBy w5 none) := only_trans (only_drew (only_refl w3 none)) g5; clear g5)
          | (go_at_call 59; refine (HWY.out w5 (HR3.out.kept (T := fun _ => False) (Chg.of_none HG5.out) (fun e => e) (fun e => e)) (HS3.out.kept (T := fun _ => False) (Chg.of_none HG5.out) (fun e => e))).mono ?_; rintro e w6 ⟨rfl, c6, k6, n6, x6, lv6, S6, hc6, hs6, hS6, ok6⟩; rw [HB.out] at ok6 ⊢; have HC6 := Lib.hid c6; have HU6 := Lib.hid hc6; have HS6 := Lib.hid hs6; have HT6 := Lib.hid hS6; have OK6 := Lib.hid ok6; clear c6 hc6 hs6 hS6 ok6))
      have hz5 := HG5.out.size
      have hf3 := HS3.out.lt
      have HG6 : Hid (Chg (fun j => j = r ∨ j = c) w w6) := (HG3.out.of_none' HG5.out).trans HC6.out (fun j hj => by rcases hj with hj | hj; exact .inl (.inr hj); exact .inr (by omega))
      have HZ6 : Hid (w6.heap[w.heap.size]? = some (.cells #[.int .u64 0, .int .i64 0, .int .u64 0, .string ⟨#[]⟩, .slice none 0 0] 41 (0, 0))) := by
        show _ = _
        have h5 : w5.heap[w.heap.size]? = some (.cells #[.int .u64 0, .int .i64 0, .int .u64 0, .string ⟨#[]⟩, .slice none 0 0] 41 (0, 0)) := by rw [HG5.out.block w.heap.size (Array.getElem?_eq_some_iff.1 HZ3.out).1 (by simp)]; exact HZ3.out
        rw [HC6.out.block w.heap.size (Array.getElem?_eq_some_iff.1 h5).1 (fun hj => by rcases hj with hj | hj <;> omega)]; exact h5
      obtain ⟨⟨z0, z1, z2, z3, z4⟩, y0, y1, y2, y3, y4⟩ := five_at HZ6.out
      have hqb : ((B.err : Int) != 0) = true := by rw [bne_iff_ne]; have := HBE.out; omega
      go_wp2_with fail
      exact bodyPost_ret (results_cell2 rfl _ _ w.heap.size 41 #[.int .u64 0, .int .i64 0, .int .u64 0, .string ⟨#[]⟩, .slice none 0 0] (0, 0) _ rfl (heap_five HZ6.out _ _ _ _ _) Tryd.underlying41 rfl (by kernel_rfl)) rfl ⟨.slice none 0 0, fun _ => False, rfl, .nil _ _, fun k e => e.elim, five_sets HG6.out (Nat.le_refl _) _ _ _ _ _, fun e => absurd e HBE.out⟩
  · intro n m hg hm hml hn he hbe
    rw [hg] at HN
    simp only at HN
    rw [List.drop_drop] at hbe ⊢
    have HCH := Lib.hid (fun (la : Option Addr) (ll lc mm : Nat) (x : ByteArray) (w : World) (v0 v1 : Value) h => chead_any n p hn la ll lc mm x w r v0 v1 h)
    rw [he] at HCH
    have hy3 : n % 4 ≤ 2 := by
      unfold headE at he
      by_cases h1 : n % 4 = 3
      · rw [if_pos h1] at he; split at he <;> omega
      · omega
    have hq1 : (n : Int) / 4 = ((n / 4 : Nat) : Int) := by omega
    have hq2 : (n : Int) % 4 = ((n % 4 : Nat) : Int) := by omega
    clear hg he
    obtain ⟨B, hB⟩ : ∃ B, bodyW (subD d) (n % 4) (s.data.toList.drop (k + m)) = B := ⟨_, rfl⟩
    rw [hB] at hbe ⊢
    generalize n / 4 = a at *
    generalize n % 4 = y at *
    have HB := Lib.hid hB
    have HBE := Lib.hid hbe
    clear hB hbe
    go_enter Tryd.func33, Tryd.ntmps33
    go_wp2_with fail
    refine HN.out.mono ?_
    rintro e w1 ⟨rfl, hc1, g1⟩
    have hz1 : w1.heap[w.heap.size]? = some (.cells #[.int .u64 0, .int .i64 0, .int .u64 0, .string ⟨#[]⟩, .slice none 0 0] 41 (0, 0)) := by
      rw [g1.block w.heap.size (by rw [hs0]; omega) (fun e => by have := Option.some.inj e; omega)]; exact HZ0.out
    have HG1 : Hid (Chg (fun j => j = r ∨ j = c) w w1) := HG0.out.trans (T := fun j => j = c) (Chg.of_grown g1 (fun q e => .inl (Option.some.inj e).symm)) (fun j e => .inl (.inr e))
    have HR1 := Lib.hid (HR0.out.moved hc1 g1)
    have hsz1 : w.heap.size < w1.heap.size := by have := g1.size; omega
    have HZ1 := Lib.hid hz1
    clear hc1 g1 r0 hz1
    have HW2 := Lib.hid (fun o => (⟨HG1.out.alloc o, HR1.out.kept (T := fun _ => False) ((Chg.refl _ w1).alloc o) (fun e => e) (fun e => e), (heap_alloc_old w1 o (Array.getElem?_eq_some_iff.1 HZ1.out).1).trans HZ1.out⟩ : Chg (fun j => j = r ∨ j = c) w (w1.alloc o) ∧ Rdr (w1.alloc o) r c s (k + m) D p ∧ (w1.alloc o).heap[w.heap.size]? = some (.cells #[.int .u64 0, .int .i64 0, .int .u64 0, .string ⟨#[]⟩, .slice none 0 0] 41 (0, 0))))
    go_wp2_with fail
    obtain ⟨hg2, hr2, hz2⟩ := HW2.out (.cells #[.int .u64 (a : Nat), .int .i64 (y : Nat), .int .u64 0, .string ⟨#[]⟩, .slice none 0 0] 41)
    have hs2 : Slot (w1.alloc (.cells #[.int .u64 (a : Nat), .int .i64 (y : Nat), .int .u64 0, .string ⟨#[]⟩, .slice none 0 0] 41)) w1.heap.size a y 0 ⟨#[]⟩ (.slice none 0 0) := heap_alloc_new w1 _
    have HS2 := Lib.hid hs2
    have HG2 := Lib.hid hg2
    have HR2 := Lib.hid hr2
    have HZ2 := Lib.hid hz2
    refine (HCH.out _ _ _ 0 _ _ _ _ hr2.row).mono ?_
    rintro e w3 ⟨rfl, g3⟩
    have HG3 : Hid (Chg (fun j => j = r ∨ j = c) w w3) := HG2.out.of_none' g3
    have HZ3 : Hid (w3.heap[w.heap.size]? = some (.cells #[.int .u64 0, .int .i64 0, .int .u64 0, .string ⟨#[]⟩, .slice none 0 0] 41 (0, 0))) := by
      show _ = _
      rw [g3.block w.heap.size (Array.getElem?_eq_some_iff.1 HZ2.out).1 (by simp)]; exact HZ2.out
    have HR3 := Lib.hid (HR2.out.kept (T := fun _ => False) (Chg.of_none g3) (fun e => e) (fun e => e))
    have HS3 := Lib.hid (HS2.out.kept (T := fun _ => False) (Chg.of_none g3) (fun e => e))
    have hrf : r < w1.heap.size := by have := HR1.out.lt; omega
    have hcf : c < w1.heap.size := HR1.out.cur.lt
    clear hg2 hr2 hz2 hs2 g3 HW2 HCH HG2 HR2 HZ2 HS2 HG1 HR1 HZ1 HG0 HR0 HZ0 hs0
    generalize w1.heap.size = f at *
    rcases (show y = 0 ∨ y = 1 ∨ y = 2 by omega) with hy0 | hy0 | hy0
    · subst hy0
      have HWY := Lib.hid (fun w5 h5 h6 => num_any (subD d) w5 r c f a s (k + m) D p h5 h6 (by omega) (by omega))
      have ix := idx_0
      have t1 : w3.cell? ⟨f, 1, none⟩ = some (.int .i64 0) := slot_y HS3.out rfl
      go_wp2_with fail
      go_region_held3 (fun w' => w'.cell? ⟨f, 1, none⟩ = some (.int .i64 0))
        (first | go_keep | exact slot_y (HS3.out.kept (T := fun _ => False) (Chg.of_none HG5.out) (fun e => e)) rfl | exact slot_y HS6.out rfl)
        (first
          | (go_at_call 48; refine (ways_any _).mono ?_; rintro e w5 ⟨rfl, g5⟩; have HG5 : Hid (w3.grownBy w5 none) := only_trans (only_drew (only_refl w3 none)) g5; clear g5)
          | (go_at_call 57; refine (HWY.out w5 (HR3.out.kept (T := fun _ => False) (Chg.of_none HG5.out) (fun e => e) (fun e => e)) (HS3.out.kept (T := fun _ => False) (Chg.of_none HG5.out) (fun e => e))).mono ?_; rintro e w6 ⟨rfl, c6, k6, n6, x6, lv6, S6, hc6, hs6, hS6, ok6⟩; rw [HB.out] at ok6 ⊢; have HC6 := Lib.hid c6; have HU6 := Lib.hid hc6; have HS6 := Lib.hid hs6; have HT6 := Lib.hid hS6; have OK6 := Lib.hid ok6; clear c6 hc6 hs6 hS6 ok6))
      have hz5 := HG5.out.size
      have hf3 := HS3.out.lt
      have HG6 : Hid (Chg (fun j => j = r ∨ j = c) w w6) := (HG3.out.of_none' HG5.out).trans HC6.out (fun j hj => by rcases hj with hj | hj; exact .inl (.inr hj); exact .inr (by omega))
      have HZ6 : Hid (w6.heap[w.heap.size]? = some (.cells #[.int .u64 0, .int .i64 0, .int .u64 0, .string ⟨#[]⟩, .slice none 0 0] 41 (0, 0))) := by
        show _ = _
        have h5 : w5.heap[w.heap.size]? = some (.cells #[.int .u64 0, .int .i64 0, .int .u64 0, .string ⟨#[]⟩, .slice none 0 0] 41 (0, 0)) := by rw [HG5.out.block w.heap.size (Array.getElem?_eq_some_iff.1 HZ3.out).1 (by simp)]; exact HZ3.out
        rw [HC6.out.block w.heap.size (Array.getElem?_eq_some_iff.1 h5).1 (fun hj => by rcases hj with hj | hj <;> omega)]; exact h5
      obtain ⟨⟨z0, z1, z2, z3, z4⟩, y0, y1, y2, y3, y4⟩ := five_at HZ6.out
      have hqb : B.err = 0 := HBE.out
      obtain ⟨hk6, rfl, rfl, hrd⟩ := OK6.out HBE.out
      have HRD := Lib.hid hrd
      obtain ⟨la, lc, rfl⟩ := hrd.shape
      have HK6 := Lib.hid hk6
      obtain ⟨⟨d0, d1, d2, d3, d4⟩, -⟩ := five_at HS6.out
      have hrow : w6.heap[r]? = some (.cells #[.pointer (some ⟨c, 0, none⟩), .int .i64 (D : Nat), .int .u64 (p : Nat)] 74 (0, 0)) := by
        have h5 := (HR3.out.kept (T := fun _ => False) (Chg.of_none HG5.out) (fun e => e) (fun e => e)).row
        rw [HC6.out.block r (Array.getElem?_eq_some_iff.1 h5).1 (fun hj => by rcases hj with hj | hj; exact HNE.out hj; omega)]; exact h5
      have HROW := Lib.hid hrow
      have p2 : w6.cell? ⟨r, 2, none⟩ = some (.int .u64 (p : Nat)) := by simp [World.cell?, hrow]
      have q2 : w6.frozen? ⟨r, 2, none⟩ = false := by simp [World.frozen?, hrow]
      clear hk6 hrd hrow OK6
      go_wp2_with fail
      have hz7 : (w6.setCell ⟨r, 2, none⟩ (.int .u64 (a : Nat))).heap[w.heap.size]? = some (.cells #[.int .u64 0, .int .i64 0, .int .u64 0, .string ⟨#[]⟩, .slice none 0 0] 41 (0, 0)) := (Below.heap_setCell _ _ _ _ (by simp only; omega)).trans HZ6.out
      have g7 := five_sets' (w6.setCell ⟨r, 2, none⟩ (.int .u64 (a : Nat))) w.heap.size (.int .u64 (a : Nat)) (.int .i64 0) (.int .u64 (B.num : Nat)) (.string (txt B.text)) (.slice la B.list.length lc)
      have g67 : Chg (fun j => j = r ∨ j = w.heap.size) w6 _ := (Chg.set_one w6 r 2 (.int .u64 (a : Nat))).mono (T := fun j => j = r ∨ j = w.heap.size) (fun j e => .inl (.inl e)) |>.trans g7 (fun j e => .inl (.inr e))
      refine bodyPost_ret (results_cell2 rfl _ _ w.heap.size 41 #[.int .u64 (a : Nat), .int .i64 0, .int .u64 (B.num : Nat), .string (txt B.text), .slice la B.list.length lc] (0, 0) _ rfl (heap_five hz7 _ _ _ _ _) Tryd.underlying41 rfl (by kernel_rfl)) rfl ⟨.slice la B.list.length lc, S6, ?_, HRD.out.kept g67 (fun j hj hj2 => by have := (HT6.out j hj).1; rcases hj2 with h | h <;> omega), fun j hj => ⟨by have := (HT6.out j hj).1; omega, by have := (HT6.out j hj).2; have := g67.size; omega⟩, (HG6.out.trans g67 (fun j hj => by rcases hj with hj | hj; exact .inl (.inl hj); exact .inr (by omega))), fun _ => ⟨?_, ?_, HNE.out⟩⟩
      · rfl
      · have hcu := cur_chg HU6.out g67 (fun hj => by rcases hj with hj | hj; exact HNE.out hj.symm; omega)
        rw [HK6.out] at hcu
        simp only
        rw [← Nat.add_assoc]; exact hcu
      · rw [g7.block r (by have := Array.getElem?_eq_some_iff.1 HROW.out; simp [World.setCell]; exact this.1) (fun e => by omega)]
        exact heap_setc HROW.out
    · subst hy0
      have HWY := Lib.hid (fun w5 h5 h6 => text_any (subD d) w5 r c f a s (k + m) D p h5 h6 (by omega) (by omega))
      have ix := idx_1
      have t1 : w3.cell? ⟨f, 1, none⟩ = some (.int .i64 1) := slot_y HS3.out rfl
      go_wp2_with fail
      go_region_held3 (fun w' => w'.cell? ⟨f, 1, none⟩ = some (.int .i64 1))
        (first | go_keep | exact slot_y (HS3.out.kept (T := fun _ => False) (Chg.of_none HG5.out) (fun e => e)) rfl | exact slot_y HS6.out rfl)
        (first
          | (go_at_call 48; refine (ways_any _).mono ?_; rintro e w5 ⟨rfl, g5⟩; have HG5 : Hid (w3.grownBy w5 none) := only_trans (only_drew (only_refl w3 none)) g5; clear g5)
          | (go_at_call 58; refine (HWY.out w5 (HR3.out.kept (T := fun _ => False) (Chg.of_none HG5.out) (fun e => e) (fun e => e)) (HS3.out.kept (T := fun _ => False) (Chg.of_none HG5.out) (fun e => e))).mono ?_; rintro e w6 ⟨rfl, c6, k6, n6, x6, lv6, S6, hc6, hs6, hS6, ok6⟩; rw [HB.out] at ok6 ⊢; have HC6 := Lib.hid c6; have HU6 := Lib.hid hc6; have HS6 := Lib.hid hs6; have HT6 := Lib.hid hS6; have OK6 := Lib.hid ok6; clear c6 hc6 hs6 hS6 ok6))
      have hz5 := HG5.out.size
      have hf3 := HS3.out.lt
      have HG6 : Hid (Chg (fun j => j = r ∨ j = c) w w6) := (HG3.out.of_none' HG5.out).trans HC6.out (fun j hj => by rcases hj with hj | hj; exact .inl (.inr hj); exact .inr (by omega))
      have HZ6 : Hid (w6.heap[w.heap.size]? = some (.cells #[.int .u64 0, .int .i64 0, .int .u64 0, .string ⟨#[]⟩, .slice none 0 0] 41 (0, 0))) := by
        show _ = _
        have h5 : w5.heap[w.heap.size]? = some (.cells #[.int .u64 0, .int .i64 0, .int .u64 0, .string ⟨#[]⟩, .slice none 0 0] 41 (0, 0)) := by rw [HG5.out.block w.heap.size (Array.getElem?_eq_some_iff.1 HZ3.out).1 (by simp)]; exact HZ3.out
        rw [HC6.out.block w.heap.size (Array.getElem?_eq_some_iff.1 h5).1 (fun hj => by rcases hj with hj | hj <;> omega)]; exact h5
      obtain ⟨⟨z0, z1, z2, z3, z4⟩, y0, y1, y2, y3, y4⟩ := five_at HZ6.out
      have hqb : B.err = 0 := HBE.out
      obtain ⟨hk6, rfl, rfl, hrd⟩ := OK6.out HBE.out
      have HRD := Lib.hid hrd
      obtain ⟨la, lc, rfl⟩ := hrd.shape
      have HK6 := Lib.hid hk6
      obtain ⟨⟨d0, d1, d2, d3, d4⟩, -⟩ := five_at HS6.out
      have hrow : w6.heap[r]? = some (.cells #[.pointer (some ⟨c, 0, none⟩), .int .i64 (D : Nat), .int .u64 (p : Nat)] 74 (0, 0)) := by
        have h5 := (HR3.out.kept (T := fun _ => False) (Chg.of_none HG5.out) (fun e => e) (fun e => e)).row
        rw [HC6.out.block r (Array.getElem?_eq_some_iff.1 h5).1 (fun hj => by rcases hj with hj | hj; exact HNE.out hj; omega)]; exact h5
      have HROW := Lib.hid hrow
      have p2 : w6.cell? ⟨r, 2, none⟩ = some (.int .u64 (p : Nat)) := by simp [World.cell?, hrow]
      have q2 : w6.frozen? ⟨r, 2, none⟩ = false := by simp [World.frozen?, hrow]
      clear hk6 hrd hrow OK6
      go_wp2_with fail
      have hz7 : (w6.setCell ⟨r, 2, none⟩ (.int .u64 (a : Nat))).heap[w.heap.size]? = some (.cells #[.int .u64 0, .int .i64 0, .int .u64 0, .string ⟨#[]⟩, .slice none 0 0] 41 (0, 0)) := (Below.heap_setCell _ _ _ _ (by simp only; omega)).trans HZ6.out
      have g7 := five_sets' (w6.setCell ⟨r, 2, none⟩ (.int .u64 (a : Nat))) w.heap.size (.int .u64 (a : Nat)) (.int .i64 1) (.int .u64 (B.num : Nat)) (.string (txt B.text)) (.slice la B.list.length lc)
      have g67 : Chg (fun j => j = r ∨ j = w.heap.size) w6 _ := (Chg.set_one w6 r 2 (.int .u64 (a : Nat))).mono (T := fun j => j = r ∨ j = w.heap.size) (fun j e => .inl (.inl e)) |>.trans g7 (fun j e => .inl (.inr e))
      refine bodyPost_ret (results_cell2 rfl _ _ w.heap.size 41 #[.int .u64 (a : Nat), .int .i64 1, .int .u64 (B.num : Nat), .string (txt B.text), .slice la B.list.length lc] (0, 0) _ rfl (heap_five hz7 _ _ _ _ _) Tryd.underlying41 rfl (by kernel_rfl)) rfl ⟨.slice la B.list.length lc, S6, ?_, HRD.out.kept g67 (fun j hj hj2 => by have := (HT6.out j hj).1; rcases hj2 with h | h <;> omega), fun j hj => ⟨by have := (HT6.out j hj).1; omega, by have := (HT6.out j hj).2; have := g67.size; omega⟩, (HG6.out.trans g67 (fun j hj => by rcases hj with hj | hj; exact .inl (.inl hj); exact .inr (by omega))), fun _ => ⟨?_, ?_, HNE.out⟩⟩
      · rfl
      · have hcu := cur_chg HU6.out g67 (fun hj => by rcases hj with hj | hj; exact HNE.out hj.symm; omega)
        rw [HK6.out] at hcu
        simp only
        rw [← Nat.add_assoc]; exact hcu
      · rw [g7.block r (by have := Array.getElem?_eq_some_iff.1 HROW.out; simp [World.setCell]; exact this.1) (fun e => by omega)]
        exact heap_setc HROW.out
    · subst hy0
      have HWY := Lib.hid (fun w5 h5 h6 => list_any d D hd HALL.out w5 r c f a s (k + m) p hsz h5 h6 (by omega) (by omega))
      have ix := idx_2
      have t1 : w3.cell? ⟨f, 1, none⟩ = some (.int .i64 2) := slot_y HS3.out rfl
      go_wp2_with fail
      go_region_held3 (fun w' => w'.cell? ⟨f, 1, none⟩ = some (.int .i64 2))
        (first | go_keep | exact slot_y (HS3.out.kept (T := fun _ => False) (Chg.of_none HG5.out) (fun e => e)) rfl | exact slot_y HS6.out rfl)
        (first
          | (go_at_call 48; refine (ways_any _).mono ?_; rintro e w5 ⟨rfl, g5⟩; have HG5 : Hid (w3.grownBy w5 none) := only_trans (only_drew (only_refl w3 none)) g5; clear g5)
          | (go_at_call 59; refine (HWY.out w5 (HR3.out.kept (T := fun _ => False) (Chg.of_none HG5.out) (fun e => e) (fun e => e)) (HS3.out.kept (T := fun _ => False) (Chg.of_none HG5.out) (fun e => e))).mono ?_; rintro e w6 ⟨rfl, c6, k6, n6, x6, lv6, S6, hc6, hs6, hS6, ok6⟩; rw [HB.out] at ok6 ⊢; have HC6 := Lib.hid c6; have HU6 := Lib.hid hc6; have HS6 := Lib.hid hs6; have HT6 := Lib.hid hS6; have OK6 := Lib.hid ok6; clear c6 hc6 hs6 hS6 ok6))
      have hz5 := HG5.out.size
      have hf3 := HS3.out.lt
      have HG6 : Hid (Chg (fun j => j = r ∨ j = c) w w6) := (HG3.out.of_none' HG5.out).trans HC6.out (fun j hj => by rcases hj with hj | hj; exact .inl (.inr hj); exact .inr (by omega))
      have HZ6 : Hid (w6.heap[w.heap.size]? = some (.cells #[.int .u64 0, .int .i64 0, .int .u64 0, .string ⟨#[]⟩, .slice none 0 0] 41 (0, 0))) := by
        show _ = _
        have h5 : w5.heap[w.heap.size]? = some (.cells #[.int .u64 0, .int .i64 0, .int .u64 0, .string ⟨#[]⟩, .slice none 0 0] 41 (0, 0)) := by rw [HG5.out.block w.heap.size (Array.getElem?_eq_some_iff.1 HZ3.out).1 (by simp)]; exact HZ3.out
        rw [HC6.out.block w.heap.size (Array.getElem?_eq_some_iff.1 h5).1 (fun hj => by rcases hj with hj | hj <;> omega)]; exact h5
      obtain ⟨⟨z0, z1, z2, z3, z4⟩, y0, y1, y2, y3, y4⟩ := five_at HZ6.out
      have hqb : B.err = 0 := HBE.out
      obtain ⟨hk6, rfl, rfl, hrd⟩ := OK6.out HBE.out
      have HRD := Lib.hid hrd
      obtain ⟨la, lc, rfl⟩ := hrd.shape
      have HK6 := Lib.hid hk6
      obtain ⟨⟨d0, d1, d2, d3, d4⟩, -⟩ := five_at HS6.out
      have hrow : w6.heap[r]? = some (.cells #[.pointer (some ⟨c, 0, none⟩), .int .i64 (D : Nat), .int .u64 (p : Nat)] 74 (0, 0)) := by
        have h5 := (HR3.out.kept (T := fun _ => False) (Chg.of_none HG5.out) (fun e => e) (fun e => e)).row
        rw [HC6.out.block r (Array.getElem?_eq_some_iff.1 h5).1 (fun hj => by rcases hj with hj | hj; exact HNE.out hj; omega)]; exact h5
      have HROW := Lib.hid hrow
      have p2 : w6.cell? ⟨r, 2, none⟩ = some (.int .u64 (p : Nat)) := by simp [World.cell?, hrow]
      have q2 : w6.frozen? ⟨r, 2, none⟩ = false := by simp [World.frozen?, hrow]
      clear hk6 hrd hrow OK6
      go_wp2_with fail
      have hz7 : (w6.setCell ⟨r, 2, none⟩ (.int .u64 (a : Nat))).heap[w.heap.size]? = some (.cells #[.int .u64 0, .int .i64 0, .int .u64 0, .string ⟨#[]⟩, .slice none 0 0] 41 (0, 0)) := (Below.heap_setCell _ _ _ _ (by simp only; omega)).trans HZ6.out
      have g7 := five_sets' (w6.setCell ⟨r, 2, none⟩ (.int .u64 (a : Nat))) w.heap.size (.int .u64 (a : Nat)) (.int .i64 2) (.int .u64 (B.num : Nat)) (.string (txt B.text)) (.slice la B.list.length lc)
      have g67 : Chg (fun j => j = r ∨ j = w.heap.size) w6 _ := (Chg.set_one w6 r 2 (.int .u64 (a : Nat))).mono (T := fun j => j = r ∨ j = w.heap.size) (fun j e => .inl (.inl e)) |>.trans g7 (fun j e => .inl (.inr e))
      refine bodyPost_ret (results_cell2 rfl _ _ w.heap.size 41 #[.int .u64 (a : Nat), .int .i64 2, .int .u64 (B.num : Nat), .string (txt B.text), .slice la B.list.length lc] (0, 0) _ rfl (heap_five hz7 _ _ _ _ _) Tryd.underlying41 rfl (by kernel_rfl)) rfl ⟨.slice la B.list.length lc, S6, ?_, HRD.out.kept g67 (fun j hj hj2 => by have := (HT6.out j hj).1; rcases hj2 with h | h <;> omega), fun j hj => ⟨by have := (HT6.out j hj).1; omega, by have := (HT6.out j hj).2; have := g67.size; omega⟩, (HG6.out.trans g67 (fun j hj => by rcases hj with hj | hj; exact .inl (.inl hj); exact .inr (by omega))), fun _ => ⟨?_, ?_, HNE.out⟩⟩
      · rfl
      · have hcu := cur_chg HU6.out g67 (fun hj => by rcases hj with hj | hj; exact HNE.out hj.symm; omega)
        rw [HK6.out] at hcu
        simp only
        rw [← Nat.add_assoc]; exact hcu
      · rw [g7.block r (by have := Array.getElem?_eq_some_iff.1 HROW.out; simp [World.setCell]; exact this.1) (fun e => by omega)]
        exact heap_setc HROW.out

end Go.Proofs.YtigmfbmjfjkfjaaDoor.ww
