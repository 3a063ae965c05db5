/-
  The developers' Find.
-/
import Derived.Test.YtieheclnkopfpaaGreatDoorPmisc
namespace Go.Proofs.YtieheclnkopfpaaGreatDoor.pp
open Go.RowKit Go.Proofs.YtieheclnkopfpaaGreatDoor.tr Go.Proofs.YtieheclnkopfpaaGreatDoor.pm Go.Proofs.YtieheclnkopfpaaGreatDoor.vi Go.Proofs.YtieheclnkopfpaaGreatDoor.wm
set_option linter.unusedVariables false
set_option linter.unusedSimpArgs false

/-- The field of a tag. -/
def findR (tag : Nat) : List Tree → Tree × Bool
  | [] => (zeroT, false)
  | t :: r => if t.tag = tag then (t, true) else findR tag r
theorem findR_at {tag : Nat} : ∀ {ts : List Tree} {i : Nat} {t : Tree}, (∀ (j : Nat) (x : Tree), j < i → ts[j]? = some x → x.tag ≠ tag) → ts[i]? = some t → t.tag = tag → findR tag ts = (t, true)
  | [], i, t, _, h, _ => by simp at h
  | x :: r, 0, t, _, h, he => by simp at h; subst h; rw [findR, if_pos he]
  | x :: r, i + 1, t, ha, h, he => by
    rw [findR, if_neg (ha 0 x (by omega) rfl)]
    exact findR_at (i := i) (fun j y hj hy => ha (j + 1) y (Nat.succ_lt_succ hj) (by simpa using hy)) (by simpa using h) he
theorem findR_none {tag : Nat} : ∀ {ts : List Tree}, (∀ (j : Nat) (x : Tree), ts[j]? = some x → x.tag ≠ tag) → findR tag ts = (zeroT, false)
  | [], _ => rfl
  | x :: r, ha => by
    rw [findR, if_neg (ha 0 x rfl)]
    exact findR_none fun j y hy => ha (j + 1) y (by simpa using hy)

theorem results_cell2 {P : Program} {fn : Func} {p u : Tmp} {ty : TypeId} (h : fn.results = #[.cell p ty, .tmp u]) (tmps : Array Value) (w : World) (g : Nat) (t : TypeId) (cs : Array Value) (fr : Nat × Nat) (d : TypeDesc)
    (hp : tmps.getD p undef = .pointer (some ⟨g, 0, none⟩)) (hg : w.heap[g]? = some (.cells cs t fr))
    (hu : P.underlying ty = some d) (hd : (match d with | .struct _ | .array _ _ => true | _ => false) = true) (hi : (P.info? ty).map (·.size) = some cs.size) :
    (results fn tmps).run P w = .ok (.tuple #[.agg cs, tmps.getD u undef]) w := by
  have hp' : tmps[p]?.getD undef = .pointer (some ⟨g, 0, none⟩) := by simpa using hp
  simp [results, h, hp', asAddr, run_loadVar_row w g t ty cs fr d hg hu hd hi]

theorem five_at {w : World} {g : Nat} {z0 z1 z2 z3 z4 : Value} {ty : TypeId} (h : w.heap[g]? = some (.cells #[z0, z1, z2, z3, z4] ty (0, 0))) :
    (w.cell? ⟨g, 0, none⟩ = some z0 ∧ w.cell? ⟨g, 1, none⟩ = some z1 ∧ w.cell? ⟨g, 2, none⟩ = some z2 ∧ w.cell? ⟨g, 3, none⟩ = some z3 ∧ w.cell? ⟨g, 4, none⟩ = some z4) ∧
    w.frozen? ⟨g, 0, none⟩ = false ∧ w.frozen? ⟨g, 1, none⟩ = false ∧ w.frozen? ⟨g, 2, none⟩ = false ∧ w.frozen? ⟨g, 3, none⟩ = false ∧ w.frozen? ⟨g, 4, none⟩ = false := by
  simp [World.cell?, World.frozen?, h]
theorem five_sets' (w1 : World) (g : Nat) (a b c d e : Value) : Chg (fun k => k = g) w1 (((((w1.setCell ⟨g, 0, none⟩ a).setCell ⟨g, 1, none⟩ b).setCell ⟨g, 2, none⟩ c).setCell ⟨g, 3, none⟩ d).setCell ⟨g, 4, none⟩ e) :=
  (((((Chg.refl (fun k => k = g) w1).setCell (p := ⟨g, 0, none⟩) (.inl rfl) a).setCell (p := ⟨g, 1, none⟩) (.inl rfl) b).setCell (p := ⟨g, 2, none⟩) (.inl rfl) c).setCell (p := ⟨g, 3, none⟩) (.inl rfl) d).setCell (p := ⟨g, 4, none⟩) (.inl rfl) e

/-- A row of one field. -/
theorem own_one {ty : TypeId} {base : Nat} {S : Nat → Prop} {w : World} {v : Value} {t : Tree} (h : OwnF ty base S w v [t]) :
    ∃ g cap lv, v = .slice (some ⟨g, 0, none⟩) 1 cap ∧ 1 ≤ cap ∧ cap ≤ maxLen ∧ base ≤ g ∧ g < w.heap.size ∧ Cells w g 0 t lv ∧ Rd w (fun k => S k ∨ k = g) lv t.list := by
  have hlt := h.lt
  obtain ⟨b, off, cap, lv, hv, h1, h2, h3, h4, hc, hr⟩ := h.rd.at (i := 0) (t := t) rfl
  obtain ⟨l0, o1, -⟩ := h
  rcases o1.2 with ⟨rfl, h0⟩ | ⟨g, cap', cur, rfl, hb, hg, -⟩
  · cases h0
  · simp only [Value.slice.injEq, Option.some.injEq, Addr.mk.injEq, and_true] at hv
    obtain ⟨⟨rfl, rfl⟩, -, rfl⟩ := hv
    refine ⟨g, cap', lv, rfl, h1, h2, hb, h4, by simpa using hc, hr.mono fun k _ hk => ?_⟩
    rcases hk with hk | hk
    · exact .inl hk
    · exact .inr (by simpa [Value.ownBlock] using hk.symm)

set_option maxHeartbeats 4000000 in
set_option maxRecDepth 100000 in
theorem find_any (ts : List Tree) (tag : Nat) (w : World) (S : Nat → Prop) (v : Value) (hs : sizeL ts ≤ 50000) (h : Rd w S v ts) :
    Calls Tryz.prog 13 #[v, .int .u64 (tag : Nat)] w fun e w' => ∃ lv, e = .returned (.tuple #[.agg #[.int .u64 ((findR tag ts).1.tag : Nat), .int .i64 (findR tag ts).1.typ, .int .u64 ((findR tag ts).1.num : Nat), .string (findR tag ts).1.text, lv], .bool (findR tag ts).2]) ∧ Rd w' (fun _ => True) lv (findR tag ts).1.list ∧ w.grownBy w' none := by
  have hl := len_size ts
  have HR := Lib.hid h
  have HZ0 := Lib.hid (heap_alloc_new w (.cells #[.int .u64 0, .int .i64 0, .int .u64 0, .string ⟨#[]⟩, .slice none 0 0] 38))
  have HG0 := Lib.hid (only_alloc (only_refl w none) (.cells #[.int .u64 0, .int .i64 0, .int .u64 0, .string ⟨#[]⟩, .slice none 0 0] 38))
  obtain ⟨a, cap, rfl⟩ := h.shape
  clear h
  go_enter Tryz.func13, Tryz.ntmps13
  go_wp2_with fail
  go_loopw [10] (fun q wr => ∃ i : Nat, i ≤ ts.length ∧ q = .int .i64 i ∧ (∀ (j : Nat) (x : Tree), j < i → ts[j]? = some x → x.tag ≠ tag) ∧ (w.alloc (.cells #[.int .u64 0, .int .i64 0, .int .u64 0, .string ⟨#[]⟩, .slice none 0 0] 38)).grownBy wr none) (fun q _ => ts.length - (intOf q).toNat)
  case atStart => exact ⟨0, Nat.zero_le _, rfl, fun j t hj => by omega, only_refl _ _⟩
  case round =>
    obtain ⟨i, hi, rfl, hall, hg⟩ := hrel
    have HA := Lib.hid hall
    have HG := Lib.hid hg
    have HG' := Lib.hid (only_trans HG0.out hg)
    have HZ : Hid (wr.heap[w.heap.size]? = some (.cells #[.int .u64 0, .int .i64 0, .int .u64 0, .string ⟨#[]⟩, .slice none 0 0] 38 (0, 0))) := by
      show _ = _
      rw [hg.block w.heap.size (Array.getElem?_eq_some_iff.1 HZ0.out).1 (by simp)]; exact HZ0.out
    clear hall hg
    by_cases hlt : i < ts.length
    · obtain ⟨t, ht⟩ : ∃ t, ts[i]? = some t := ⟨ts[i], List.getElem?_eq_getElem hlt⟩
      have hts := size_mem ht
      obtain ⟨b, off, cap', lv, hv, h1, h2, h3, h4, hc, hr⟩ := (HR.out.grown HG'.out).at ht
      simp only [Value.slice.injEq, true_and] at hv
      obtain ⟨rfl, rfl⟩ := hv
      have HCC := Lib.hid hc
      obtain ⟨c0, c1, c2, c3, c4⟩ := hc
      have HRR := Lib.hid hr
      have hga := only_alloc (only_refl wr none) (.cells #[.int .u64 (t.tag : Nat), .int .i64 t.typ, .int .u64 (t.num : Nat), .string t.text, lv] 38)
      have HGA := Lib.hid hga
      have hcc := HCC.out.kept (T := fun _ => False) (Chg.of_none hga) (fun e => e)
      have hR1 : Rd (wr.alloc (.cells #[.int .u64 (t.tag : Nat), .int .i64 t.typ, .int .u64 (t.num : Nat), .string t.text, lv] 38)) (fun _ => True) (.slice (some ⟨b, off + i * 5, none⟩) 1 (cap - i)) [t] :=
        .row b (off + i * 5) 1 (cap - i) [t] (fun _ => lv) rfl (by omega) (by omega) (by omega) trivial (fun j x hx => by
          have hj : j = 0 := by have := (List.getElem?_eq_some_iff.1 hx).1; simp at this; omega
          subst hj
          simp at hx; subst hx
          simpa using hcc) (fun j x hx => by
          have hj : j = 0 := by have := (List.getElem?_eq_some_iff.1 hx).1; simp at this; omega
          subst hj
          simp at hx; subst hx
          exact (hr.grown hga).mono fun _ _ _ => trivial)
      have HCL := Lib.hid (ff.clone_any [t] _ _ _ (by rw [sizeL_cons]; simp [sizeL]; omega) hR1)
      have HD := Lib.hid (var_new wr 38 t lv)
      have HX := Lib.hid ht
      obtain ⟨la, lc, rfl⟩ := hr.shape
      obtain ⟨d0, d1, d2, d3, d4⟩ := HD.out
      unfold maxLen at h2
      clear ht hr hga hcc hR1
      by_cases he : t.tag = tag
      · have hb : ((t.tag : Int) == (tag : Int)) = true := by rw [beq_iff_eq]; omega
        have HF : Hid (findR tag ts = (t, true)) := findR_at HA.out HX.out he
        have i1 : ((i : Int) + 1).toNat = i + 1 := by omega
        clear he
        go_wp2_with fail
        refine HCL.out.mono ?_
        rintro e w5 ⟨v5, S5, rfl, o5, hS5, -, g5⟩
        obtain ⟨g6, cap6, lv6, rfl, hc61, hc62, hg61, hg62, hcl6, hr6⟩ := own_one o5
        obtain ⟨p0, p1, p2, p3, p4⟩ := hcl6
        have hza : (wr.alloc (.cells #[.int .u64 (t.tag : Nat), .int .i64 t.typ, .int .u64 (t.num : Nat), .string t.text, .slice la t.list.length lc] 38)).heap.size = wr.heap.size + 1 := by simp
        have hwz := (Array.getElem?_eq_some_iff.1 HZ.out).1
        have HR6 := Lib.hid hr6
        have HS6 : Hid (∀ k, (S5 k ∨ k = g6) → w.heap.size < k) := fun k hk => by
          rcases hk with hk | hk
          · have := hS5 k hk; omega
          · omega
        have HG6 := Lib.hid (only_trans HG'.out (only_trans HGA.out g5))
        have HZ6 : Hid (w5.heap[w.heap.size]? = some (.cells #[.int .u64 0, .int .i64 0, .int .u64 0, .string ⟨#[]⟩, .slice none 0 0] 38 (0, 0))) := by
          show _ = _
          rw [g5.block w.heap.size (by omega) (by simp), (heap_alloc_old _ _ hwz)]; exact HZ.out
        obtain ⟨⟨z0, z1, z2, z3, z4⟩, y0, y1, y2, y3, y4⟩ := five_at HZ6.out
        obtain ⟨la6, lc6, rfl⟩ := hr6.shape
        unfold maxLen at hc62
        clear o5 hS5 g5 hr6
        go_wp2_with fail
        have g7 := five_sets' w5 w.heap.size (.int .u64 (t.tag : Nat)) (.int .i64 t.typ) (.int .u64 (t.num : Nat)) (.string t.text) (.slice la6 t.list.length lc6)
        rw [HF.out]
        exact bodyPost_ret (results_cell2 rfl _ _ w.heap.size 38 #[.int .u64 (t.tag : Nat), .int .i64 t.typ, .int .u64 (t.num : Nat), .string t.text, .slice la6 t.list.length lc6] (0, 0) _ rfl (heap_five HZ6.out _ _ _ _ _) Tryz.underlying38 rfl (by kernel_rfl)) rfl ⟨.slice la6 t.list.length lc6, rfl, (HR6.out.kept (T := fun j => j = w.heap.size) g7 (fun j hj e => by have := HS6.out j hj; omega)).mono (fun _ _ _ => trivial), Chg.none_new HG6.out g7 (fun j hj => by omega)⟩
      · have hb : ((t.tag : Int) == (tag : Int)) = false := by rw [beq_eq_false_iff_ne]; omega
        have HE := Lib.hid he
        clear he HCL
        go_wp2_with fail
        go_roundw
        case rel =>
          refine ⟨i + 1, by omega, by go_num, fun j x hj hx => ?_, only_trans HG.out HGA.out⟩
          by_cases hji : j < i
          · exact HA.out j x hji hx
          · obtain rfl : j = i := by omega
            rw [HX.out] at hx
            simp only [Option.some.injEq] at hx
            subst hx
            exact HE.out
        case measure => simp [intOf]; omega
    · have hie : i = ts.length := by omega
      subst hie
      have HF : Hid (findR tag ts = (zeroT, false)) := findR_none fun j x hx => HA.out j x (List.getElem?_eq_some_iff.1 hx).1 hx
      obtain ⟨⟨z0, z1, z2, z3, z4⟩, y0, y1, y2, y3, y4⟩ := five_at HZ.out
      have g5 := five_sets' wr w.heap.size (.int .u64 0) (.int .i64 0) (.int .u64 0) (.string ⟨#[]⟩) (.slice none 0 0)
      go_wp2_with fail
      rw [HF.out]
      exact bodyPost_ret (results_cell2 rfl _ _ w.heap.size 38 #[.int .u64 0, .int .i64 0, .int .u64 0, .string ⟨#[]⟩, .slice none 0 0] (0, 0) _ rfl (heap_five HZ.out _ _ _ _ _) Tryz.underlying38 rfl (by kernel_rfl)) rfl ⟨.slice none 0 0, rfl, .nil _ _, Chg.none_new HG'.out g5 (fun j hj => by omega)⟩

end Go.Proofs.YtieheclnkopfpaaGreatDoor.pp
