/-
  The developers' part, Split, Without.
-/
import Derived.Test.YtieheclnkopfpaaGreatDoorPref
import Derived.Test.YtieheclnkopfpaaGreatDoorBundF
import Derived.Maps.OwnOps
import Derived.Maps.Views
namespace Go.Proofs.YtieheclnkopfpaaGreatDoor.pp
open Go.RowKit Go.Maps Go.Proofs.YtieheclnkopfpaaGreatDoor.tr Go.Proofs.YtieheclnkopfpaaGreatDoor.pm
set_option linter.unusedVariables false
set_option linter.unusedSimpArgs false

theorem sizeL_filter (q : Tree → Bool) : ∀ ts : List Tree, sizeL (ts.filter q) ≤ sizeL ts
  | [] => by simp [sizeL]
  | t :: r => by
    have := sizeL_filter q r
    rw [List.filter_cons]
    split
    · rw [sizeL_cons, sizeL_cons]; omega
    · rw [sizeL_cons]; omega

/-- What the map of some tags reads as. -/
def dOf (D : DataW Unit) : List Nat → DataW Unit
  | [] => D
  | x :: r => dOf (D.put (.int .u64 (x : Nat)) (.lit (.bool true))) r
theorem dOf_snoc (x : Nat) : ∀ (us : List Nat) (D : DataW Unit), dOf D (us ++ [x]) = (dOf D us).put (.int .u64 (x : Nat)) (.lit (.bool true))
  | [], D => rfl
  | y :: r, D => dOf_snoc x r _
theorem dOf_at (t : Nat) : ∀ (us : List Nat) (D : DataW Unit), IsMap D → (dOf D us).atKey (.int .u64 (t : Nat)) (.lit (.bool false)) = if t ∈ us then .lit (.bool true) else D.atKey (.int .u64 (t : Nat)) (.lit (.bool false))
  | [], D, h => by simp [dOf]
  | x :: r, D, h => by
    rw [dOf, dOf_at t r _ (h.put _ _)]
    by_cases hr : t ∈ r
    · rw [if_pos hr, if_pos (List.mem_cons_of_mem _ hr)]
    · rw [if_neg hr]
      by_cases hx : t = x
      · subst hx
        rw [if_pos List.mem_cons_self]
        exact atKey_put_same h (show WideAt.IsKeyLit (.int .u64 (t : Nat)) from trivial) _ _
      · rw [if_neg (by simp [hr, hx])]
        exact atKey_put_other (fun e => hx (by injection e with _ e; omega)) _ _

section
variable {H : Type} {P : Program} {k : TypeId} {w : World} {b n : Nat} {D : DataW H}
/-- 'm[k]' at bools. -/
theorem lookup_bool {t e : TypeId} (h : w.ownsMap P k (plainElem P e) b n D) (K : Keyed P k) (ht : P.underlying t = some (.map k e)) (he : P.underlying e = some .bool) (hz : (zeroValue e).run P w = .ok (.bool false) w)
    {key : Value} {kl : Lit} (hkey : keyOf P k key = some kl) : ∃ c : Bool, (Instr.lookup t (.map (some b)) key false).run P w = .ok (.bool c) w ∧ D.atKey kl (.lit (.bool false)) = .lit (.bool c) := by
  obtain ⟨v, ps, hrun, hv⟩ := h.lookup K ht hz (plainElem_bool he false) hkey
  unfold plainElem at hv
  rw [he] at hv
  cases v <;> simp at hv
  exact ⟨_, hrun, hv.1.symm⟩

theorem wpList_lookup_own_bool (w : World) {ops : Array Oper} {rest : List Oper} {o : Oper} {a : Act} {Q : Exit → Act → World → Prop}
    (hg : o.guard = none) (m x : Operand) (t : TypeId) (hop : o.op = Op.lookup t m x false)
    (k e : TypeId) (K : Keyed P k) (ht : P.underlying t = some (.map k e)) (he : P.underlying e = some .bool) (hz : (zeroValue e).run P w = .ok (.bool false) w) (b n : Nat) (D : DataW H)
    (hm : a.eval m = .map (some b)) (hown : w.ownsMap P k (plainElem P e) b n D) (key : Value) (kl : Lit) (hx : a.eval x = key) (hkey : keyOf P k key = some kl) (c0 : Bool) (hat : D.atKey kl (.lit (.bool false)) = .lit (.bool c0))
    (hK : wpList P ops Q rest (a.put o.dst (.bool c0)) w) :
    wpList P ops Q (o :: rest) a w := by
  refine wpList_plain hg fun K' hK' => ?_
  obtain ⟨c, hrun, hat'⟩ := lookup_bool hown K ht he hz hkey
  obtain rfl : c0 = c := by rw [hat] at hat'; injection hat' with e; injection e
  unfold Oper.wp
  simp [execOp, hop, hm, hx, hrun, Result.andThen]
  exact hK' _ _ hK
end

theorem make_map (n : Int) (w : World) : (Instr.makeMap 76 (some (.int .i64 n))).run Tryz.prog w = .ok (.map (some w.heap.size)) (w.alloc (.map #[] 0)) := by kernel_rfl
theorem zero_bool (w : World) : (zeroValue 4).run Tryz.prog w = .ok (.bool false) w := by kernel_rfl

set_option maxHeartbeats 4000000 in
set_option maxRecDepth 100000 in
theorem part_any (ts : List Tree) (us : List Nat) (among : Bool) (hs : sizeL ts ≤ 50000) (ht64 : ∀ t ∈ ts, t.tag < 18446744073709551616) (hu64 : ∀ x ∈ us, x < 18446744073709551616) (w : World) (S : Nat → Prop) (v u : Value) (h : Rd w S v ts) (hu : Tgs w u us) :
    Calls Tryz.prog 25 #[v, .bool among, u] w fun e w' => ∃ v', e = .returned v' ∧ Rd w' (fun _ => True) v' (ts.filter fun t => inB us t == among) ∧ w.grownBy w' none := by
  have hl := len_size ts
  have HR := Lib.hid (h.tight.mono (T := fun k => k < w.heap.size) (fun k _ hk => hk.2))
  have HU := Lib.hid hu
  have HT64 := Lib.hid ht64
  have HU64 := Lib.hid hu64
  have hmm := make_map
  obtain ⟨a, cap, rfl⟩ := h.shape
  obtain ⟨hul, ua, uc, rfl, -⟩ := hu
  unfold maxLen at hul
  clear h ht64 hu64
  go_enter Tryz.func25, Tryz.ntmps25
  go_wp2_with fail
  go_loopw [18] (fun q wr => ∃ i : Nat, i ≤ us.length ∧ q = .int .i64 i ∧ wr.ownsMap Tryz.prog 23 (plainElem Tryz.prog 4) w.heap.size i (dOf (.map []) (us.take i)) ∧ w.grownBy wr none) (fun q _ => us.length - (intOf q).toNat)
  case atStart => exact ⟨0, Nat.zero_le _, rfl, by rw [List.take_zero]; exact World.ownsMap_made _ _ _ _, only_alloc (only_refl _ _) _⟩
  case round =>
    obtain ⟨i, hi, rfl, hown, hg⟩ := hrel
    have HOW := Lib.hid hown
    have HG := Lib.hid hg
    clear hown hg
    by_cases hlt : i < us.length
    · obtain ⟨x, hx⟩ : ∃ x, us[i]? = some x := ⟨us[i], List.getElem?_eq_getElem hlt⟩
      obtain ⟨-, ua', uc', hv', hrow⟩ := HU.out.grown HG.out
      simp only [Value.slice.injEq, true_and] at hv'
      obtain ⟨rfl, rfl⟩ := hv'
      rcases hrow with hrow | ⟨b, off, rfl, h1, h2, h3, h4⟩
      · rw [hrow] at hlt; simp at hlt
      have c0 := h4 i x hx
      have hx64 := HU64.out x (List.mem_of_getElem? hx)
      have HKEY : Hid (keyOf Tryz.prog 23 (.int .u64 (x : Nat)) = some (.int .u64 (x : Nat))) := keyOf_int_mk Tryz.underlying23 (by simp [Lit.wf, IntKind.min, IntKind.max, IntKind.signed, IntKind.bits]; omega)
      have HT : Hid (us.take (i + 1) = us.take i ++ [x]) := by show _ = _; rw [List.take_add_one, hx]; rfl
      unfold maxLen at h3
      clear h4 hx
      go_wp2_with (at_mapUpdate; refine wpList_mapUpdate_own _ rfl _ _ _ 76 rfl 23 4 (int_keyed Tryz.underlying23) Tryz.underlying76 _ w.heap.size i _ rfl HOW.out (by unfold maxLen; omega) _ _ (.int .u64 (x : Nat)) rfl rfl HKEY.out (.lit (.bool true)) [] (plainElem_bool Tryz.underlying4 true) ?_)
      intro w1 hown1 hgrow1
      have HO1 := Lib.hid hown1
      have HG1 := Lib.hid (only_new HG.out hgrow1 (Nat.le_refl _))
      clear hown1 hgrow1
      go_wp2_with fail
      go_roundw
      case rel => exact ⟨i + 1, by omega, by go_num, by rw [HT.out, dOf_snoc]; exact HO1.out, HG1.out⟩
      case measure => simp [intOf]; omega
    · have hie : i = us.length := by omega
      subst hie
      rw [List.take_length] at HOW
      go_wp2_with fail
      go_loopw [10, 27] (fun va q wr => ∃ j : Nat, j ≤ ts.length ∧ q = .int .i64 j ∧ OwnF 38 (w.heap.size + 1) (fun k => k < w.heap.size) wr va ((ts.take j).filter fun t => inB us t == among) ∧ wr.ownsMap Tryz.prog 23 (plainElem Tryz.prog 4) w.heap.size us.length (dOf (.map []) us) ∧ w.grownBy wr none) (fun _ q _ => ts.length - (intOf q).toNat)
      case atStart => exact ⟨0, Nat.zero_le _, rfl, by
          have ho : OwnF 38 (w.heap.size + 1) (fun k => k < w.heap.size) wr (.slice none 0 0) [] := (OwnF.nil _ _ _).more (fun k e => e.elim) (fun k e => Nat.lt_of_lt_of_le e HG.out.size) (fun k e => by simp [Value.ownBlock] at e)
          simpa using ho, HOW.out, HG.out⟩
      case round =>
        obtain ⟨j, hj, rfl, oa, hown, hg⟩ := hrel
        have HOA := Lib.hid oa
        have HOM := Lib.hid hown
        have HG' := Lib.hid hg
        have hsz := hg.size
        have hmlt := hown.lt
        clear oa hown hg HOW HG
        by_cases hlt : j < ts.length
        · obtain ⟨t, ht⟩ : ∃ t, ts[j]? = some t := ⟨ts[j], List.getElem?_eq_getElem hlt⟩
          have hts := size_mem ht
          obtain ⟨b, off, cap', lv, hv, h1, h2, h3, h4, hc, hr⟩ := (HR.out.grown HG'.out).at ht
          simp only [Value.slice.injEq, true_and] at hv
          obtain ⟨rfl, rfl⟩ := hv
          obtain ⟨c0, c1, c2, c3, c4⟩ := hc
          have hga := only_alloc (only_refl wr none) (.cells #[.int .u64 (t.tag : Nat), .int .i64 t.typ, .int .u64 (t.num : Nat), .string t.text, lv] 38)
          have hga2 := only_alloc hga (.cells #[.int .u64 (t.tag : Nat), .int .i64 t.typ, .int .u64 (t.num : Nat), .string t.text, lv] 38)
          have HRa := Lib.hid (hr.grown hga)
          have HOAa := Lib.hid (HOA.out.grown hga)
          have HGa := Lib.hid (only_trans HG'.out hga)
          have HOMa := Lib.hid (HOM.out.kept hga (by simp))
          have hba := Lib.hid (fun k e => (HOA.out.lt k e))
          have hza : (wr.alloc (.cells #[.int .u64 (t.tag : Nat), .int .i64 t.typ, .int .u64 (t.num : Nat), .string t.text, lv] 38)).heap.size = wr.heap.size + 1 := by simp
          have hla : ((ts.take j).filter fun t => inB us t == among).length ≤ 100000 := by
            have h1 := List.length_filter_le (fun t => inB us t == among) (ts.take j)
            rw [List.length_take] at h1; omega
          have ht64 := HT64.out t (List.mem_of_getElem? ht)
          have HKEY : Hid (keyOf Tryz.prog 23 (.int .u64 (t.tag : Nat)) = some (.int .u64 (t.tag : Nat))) := keyOf_int_mk Tryz.underlying23 (by simp [Lit.wf, IntKind.min, IntKind.max, IntKind.signed, IntKind.bits]; omega)
          have HAT : Hid ((dOf (.map []) us).atKey (.int .u64 (t.tag : Nat)) (.lit (.bool false)) = .lit (.bool (inB us t))) := by
            show _ = _
            rw [dOf_at _ _ _ isMap_empty]
            unfold inB
            by_cases hm : t.tag ∈ us
            · rw [if_pos hm]; simp [hm]
            · rw [if_neg hm]; simp [hm]; rfl
          have HD := Lib.hid (var_new wr 38 t lv)
          have htk := take_snoc ht
          have HTK := Lib.hid htk
          obtain ⟨la, lc, rfl⟩ := hr.shape
          obtain ⟨d0, d1, d2, d3, d4⟩ := HD.out
          unfold maxLen at h2
          clear ht hr hga hga2 htk
          cases hin : (inB us t == among) with
          | true =>
            have HA2 : Hid ((ts.take (j + 1)).filter (fun t => inB us t == among) = ((ts.take j).filter fun t => inB us t == among) ++ [t]) := by show _ = _; rw [HTK.out, List.filter_append]; simp [hin]
            generalize inB us t = bb at *
            go_wp2_with (first
              | (at_lookup; refine wpList_lookup_own_bool _ rfl _ _ 76 rfl 23 4 (int_keyed Tryz.underlying23) Tryz.underlying76 Tryz.underlying4 (zero_bool _) w.heap.size us.length _ rfl HOMa.out _ _ rfl HKEY.out _ HAT.out ?_)
              | (at_builtin; refine wpList_append_fh rfl _ _ _ 38 (by rfl) (wr.alloc (.cells #[.int .u64 (t.tag : Nat), .int .i64 t.typ, .int .u64 (t.num : Nat), .string t.text, .slice la t.list.length lc] 38)) _ Tryz.underlying27 Tryz.infoF rfl (w.heap.size + 1) (fun k => k < w.heap.size) (fun k => k < w.heap.size) _ _ (by rfl) HOAa.out t (.slice la t.list.length lc) HRa.out ?c1 ?c2 (wr.heap.size + 1) hza (by rfl) ?c3 ?c4 ?_))
            case c1 => intro k hk; omega
            case c2 => intro k e hk; have := (hba.out k e).1; omega
            case c3 => omega
            case c4 => omega
            intro v2 w2 o2 g2 hat2
            have HO2 := Lib.hid (o2.more (T := fun k => k < w.heap.size) (fun k hk => by first | exact hk | exact Or.elim hk id id) (fun k hk => by have h1 := HGa.out.size; have h2 := g2.size; omega) (fun k e => by have := (o2.lt k e).1; omega))
            have HOM2 := Lib.hid (HOMa.out.kept g2 (fun e => by have := (hba.out _ e.symm).1; omega))
            have HG2 := Lib.hid (below_to_none (below_of_only (below_of_none HGa.out) g2 HGa.out.size (fun k e => by have := (hba.out k e).1; omega)))
            clear o2 g2 hat2
            go_wp2_with fail
            go_roundw
            case rel => exact ⟨j + 1, by omega, by go_num, by rw [HA2.out]; exact HO2.out, HOM2.out, HG2.out⟩
            case measure => simp [intOf]; omega
          | false =>
            have HA2 : Hid ((ts.take (j + 1)).filter (fun t => inB us t == among) = (ts.take j).filter fun t => inB us t == among) := by show _ = _; rw [HTK.out, List.filter_append]; simp [hin]
            generalize inB us t = bb at *
            go_wp2_with (at_lookup; refine wpList_lookup_own_bool _ rfl _ _ 76 rfl 23 4 (int_keyed Tryz.underlying23) Tryz.underlying76 Tryz.underlying4 (zero_bool _) w.heap.size us.length _ rfl HOMa.out _ _ rfl HKEY.out _ HAT.out ?_)
            go_wp2_with fail
            go_roundw
            case rel => exact ⟨j + 1, by omega, by go_num, by rw [HA2.out]; exact HOAa.out, HOMa.out, HGa.out⟩
            case measure => simp [intOf]; omega
        · have hie : j = ts.length := by omega
          subst hie
          rw [List.take_length] at HOA
          have HCL := Lib.hid (ff.clone_any _ _ _ _ (by have := sizeL_filter (fun t => inB us t == among) ts; omega) HOA.out.rd)
          go_wp2_with fail
          refine HCL.out.mono ?_
          rintro e w1 ⟨v1, S1, rfl, o1, hS1, -, g1⟩
          have HO1 := Lib.hid (o1.rd.mono (T := fun _ => True) (fun _ _ _ => trivial))
          have HG1 := Lib.hid (only_trans HG'.out g1)
          clear o1 hS1 g1
          go_wp2_with fail
          go_ret
          exact ⟨_, rfl, HO1.out, HG1.out⟩

end Go.Proofs.YtieheclnkopfpaaGreatDoor.pp
