/-
  The document's Has and Split.
-/
import Derived.Test.YtieheclnkopfpaaGreatDoorPmath
import Derived.Test.YtieheclnkopfpaaGreatDoorBundT
import Derived.Handy
import Derived.Deep.LoopGhost
namespace Go.Proofs.YtieheclnkopfpaaGreatDoor.pm
open Go.RowKit Go.Proofs.YtieheclnkopfpaaGreatDoor.tr
set_option linter.unusedVariables false
set_option linter.unusedSimpArgs false

/-- A slice of numbers that is read. -/
def Tgs (w : World) (v : Value) (us : List Nat) : Prop :=
  us.length ≤ maxLen ∧ ∃ a cap, v = .slice a us.length cap ∧ (us = [] ∨ ∃ b off, a = some ⟨b, off, none⟩ ∧ b < w.heap.size ∧ us.length ≤ cap ∧ cap ≤ maxLen ∧ ∀ i x, us[i]? = some x → w.cell? ⟨b, off + i, none⟩ = some (.int .u64 (x : Nat)))
theorem Tgs.grown {w w' : World} {v : Value} {us : List Nat} (h : Tgs w v us) (g : w.grownBy w' none) : Tgs w' v us := by
  obtain ⟨h0, a, cap, h1, h2⟩ := h
  refine ⟨h0, a, cap, h1, ?_⟩
  rcases h2 with h2 | ⟨b, off, k1, k2, k3, k4, k5⟩
  · exact .inl h2
  · exact .inr ⟨b, off, k1, Nat.lt_of_lt_of_le k2 g.size, k3, k4, fun i x hi => by rw [World.cell?_of_block (g.block b k2 (by simp))]; exact k5 i x hi⟩

set_option maxHeartbeats 2000000 in
set_option maxRecDepth 100000 in
theorem rhas_any (us : List Nat) (tag : Nat) (w : World) (v : Value) (h : Tgs w v us) :
    Calls Tryz.prog 26 #[v, .int .u64 (tag : Nat)] w fun e w' => e = .returned (.bool (decide (tag ∈ us))) ∧ w = w' := by
  obtain ⟨h0, a, cap, rfl, hrow⟩ := h
  unfold maxLen at h0
  have HROW := Lib.hid hrow
  clear hrow
  go_enter Tryz.func26, Tryz.ntmps26
  go_wp2_with fail
  go_loopw [9] (fun q wr => ∃ i : Nat, i ≤ us.length ∧ q = .int .i64 i ∧ (∀ (j x : Nat), j < i → us[j]? = some x → x ≠ tag) ∧ wr = w) (fun q _ => us.length - (intOf q).toNat)
  case atStart => exact ⟨0, Nat.zero_le _, rfl, fun j x hj => by omega, rfl⟩
  case round =>
    obtain ⟨i, hi, rfl, hall, rfl⟩ := hrel
    have HA := Lib.hid hall
    clear hall
    by_cases hlt : i < us.length
    · obtain ⟨x, hx⟩ : ∃ x, us[i]? = some x := ⟨us[i], List.getElem?_eq_getElem hlt⟩
      obtain ⟨b, off, rfl, h1, h2, h3, h4⟩ : ∃ b off, a = some ⟨b, off, none⟩ ∧ b < wr.heap.size ∧ us.length ≤ cap ∧ cap ≤ maxLen ∧ ∀ i x, us[i]? = some x → wr.cell? ⟨b, off + i, none⟩ = some (.int .u64 (x : Nat)) := by
        rcases HROW.out with h | h
        · rw [h] at hlt; simp at hlt
        · exact h
      have c0 := h4 i x hx
      have HX := Lib.hid hx
      unfold maxLen at h3
      clear h4 hx
      by_cases he : x = tag
      · have hb : ((x : Int) == (tag : Int)) = true := by rw [beq_iff_eq]; omega
        have HE := Lib.hid he
        clear he
        go_wp2_with fail
        go_ret
        exact ⟨ret1 (congrArg Value.bool (by symm; apply decide_eq_true; rw [← HE.out]; exact List.mem_of_getElem? HX.out)), rfl⟩
      · have hb : ((x : Int) == (tag : Int)) = false := by rw [beq_eq_false_iff_ne]; omega
        have HE := Lib.hid he
        clear he
        go_wp2_with fail
        go_roundw
        case rel =>
          refine ⟨i + 1, by omega, by go_num, fun j y hj hy => ?_, by trivial⟩
          by_cases hji : j < i
          · exact HA.out j y hji hy
          · obtain rfl : j = i := by omega
            rw [HX.out] at hy
            simp only [Option.some.injEq] at hy
            subst hy
            exact HE.out
        case measure => simp [intOf]; omega
    · have hie : i = us.length := by omega
      subst hie
      go_wp2_with fail
      go_ret
      exact ⟨ret1 (congrArg Value.bool (by
        symm; apply decide_eq_false
        intro hm
        obtain ⟨j, hj⟩ := List.getElem?_of_mem hm
        exact HA.out j tag (List.getElem?_eq_some_iff.1 hj).1 hj rfl)), rfl⟩

def inB (us : List Nat) (t : Tree) : Bool := decide (t.tag ∈ us)

set_option maxHeartbeats 4000000 in
set_option maxRecDepth 100000 in
theorem rsplit_any (ts : List Tree) (us : List Nat) (hs : sizeL ts ≤ 100000) (w : World) (S : Nat → Prop) (v u : Value) (h : Rd w S v ts) (hu : Tgs w u us) :
    Calls Tryz.prog 11 #[v, u] w fun e w' => ∃ va vb, e = .returned (.tuple #[va, vb]) ∧ Rd w' (fun _ => True) va (ts.filter (inB us)) ∧ Rd w' (fun _ => True) vb (ts.filter fun t => !inB us t) ∧ w.grownBy w' none := by
  have hl := len_size ts
  have HR := Lib.hid (h.tight.mono (T := fun k => k < w.heap.size) (fun k _ hk => hk.2))
  have HU := Lib.hid hu
  have HH := Lib.hid (fun tag w h => rhas_any us tag w u h)
  obtain ⟨a, cap, rfl⟩ := h.shape
  obtain ⟨-, ua, uc, rfl, -⟩ := hu
  clear h
  go_enter Tryz.func11, Tryz.ntmps11
  go_wp2_with fail
  go_loopw [6, 7, 12] (fun va vb q wr => ∃ i : Nat, i ≤ ts.length ∧ q = .int .i64 i ∧ OwnF 43 w.heap.size (fun k => k < w.heap.size) wr va ((ts.take i).filter (inB us)) ∧ OwnF 43 w.heap.size (fun k => k < w.heap.size) wr vb ((ts.take i).filter fun t => !inB us t) ∧
    (∀ k, va.ownBlock = some k → vb.ownBlock ≠ some k) ∧ w.grownBy wr none) (fun _ _ q _ => ts.length - (intOf q).toNat)
  case atStart =>
    have ho : OwnF 43 w.heap.size (fun k => k < w.heap.size) w (.slice none 0 0) [] := (OwnF.nil _ _ _).more (fun k e => e.elim) (fun k e => e) (fun k e => by simp [Value.ownBlock] at e)
    exact ⟨0, Nat.zero_le _, rfl, by simpa using ho, by simpa using ho, fun k e => by simp [Value.ownBlock] at e, only_refl _ _⟩
  case round =>
    obtain ⟨i, hi, rfl, oa, ob, hab, hg⟩ := hrel
    have HOA := Lib.hid oa
    have HOB := Lib.hid ob
    have HAB := Lib.hid hab
    have HG := Lib.hid hg
    have hsz := hg.size
    clear oa ob hab hg
    by_cases hlt : i < ts.length
    · obtain ⟨t, ht⟩ : ∃ t, ts[i]? = some t := ⟨ts[i], List.getElem?_eq_getElem hlt⟩
      have hts := size_mem ht
      obtain ⟨b, off, cap', lv, hv, h1, h2, h3, h4, hc, hr⟩ := (HR.out.grown HG.out).at ht
      simp only [Value.slice.injEq, true_and] at hv
      obtain ⟨rfl, rfl⟩ := hv
      obtain ⟨c0, c1, c2, c3, c4⟩ := hc
      have hga := only_alloc (only_refl wr none) (.cells #[.int .u64 (t.tag : Nat), .int .i64 t.typ, .int .u64 (t.num : Nat), .string t.text, lv] 43)
      have HRa := Lib.hid (hr.grown hga)
      have HOAa := Lib.hid (HOA.out.grown hga)
      have HOBa := Lib.hid (HOB.out.grown hga)
      have HGa := Lib.hid (only_trans HG.out hga)
      have hba := Lib.hid (fun k e => (HOA.out.lt k e))
      have hbb := Lib.hid (fun k e => (HOB.out.lt k e))
      have hza : (wr.alloc (.cells #[.int .u64 (t.tag : Nat), .int .i64 t.typ, .int .u64 (t.num : Nat), .string t.text, lv] 43)).heap.size = wr.heap.size + 1 := by simp
      have htk := take_snoc ht
      have hla : ((ts.take i).filter (inB us)).length ≤ 100000 := by
        have h1 := List.length_filter_le (inB us) (ts.take i)
        rw [List.length_take] at h1; omega
      have hlb : ((ts.take i).filter fun t => !inB us t).length ≤ 100000 := by
        have h1 := List.length_filter_le (fun t => !inB us t) (ts.take i)
        rw [List.length_take] at h1; omega
      have HHt := Lib.hid (HH.out t.tag _ (HU.out.grown HGa.out))
      have HD := Lib.hid (var_new wr 43 t lv)
      obtain ⟨la, lc, rfl⟩ := hr.shape
      clear ht hr hga
      unfold maxLen at h2
      have HT := Lib.hid htk
      clear htk
      cases hin : decide (t.tag ∈ us) with
      | true =>
        rw [hin] at HHt
        have HA2 : Hid ((ts.take (i + 1)).filter (inB us) = (ts.take i).filter (inB us) ++ [t]) := by show _ = _; rw [HT.out, List.filter_append]; simp [inB, hin]
        have HB2 : Hid ((ts.take (i + 1)).filter (fun t => !inB us t) = (ts.take i).filter fun t => !inB us t) := by show _ = _; rw [HT.out, List.filter_append]; simp [inB, hin]
        clear hin
        go_wp2_with fail
        refine HHt.out.mono ?_
        rintro e w1 ⟨rfl, rfl⟩
        go_wp2_with (at_builtin; refine wpList_append_fh rfl _ _ _ 43 (by rfl) (wr.alloc (.cells #[.int .u64 (t.tag : Nat), .int .i64 t.typ, .int .u64 (t.num : Nat), .string t.text, .slice la t.list.length lc] 43)) _ Tryz.underlying33 Tryz.infoRefF rfl w.heap.size (fun k => k < w.heap.size) (fun k => k < w.heap.size) _ _ (by rfl) HOAa.out t (.slice la t.list.length lc) HRa.out ?c1 ?c2 (wr.heap.size + 1) hza (by rfl) ?c3 ?c4 ?_)
        case c1 => intro k hk; omega
        case c2 => intro k e hk; have := (hba.out k e).1; omega
        case c3 => omega
        case c4 => omega
        intro v2 w2 o2 g2 hat2
        have hc2 : Chg (fun k => u6.ownBlock = some k) wr w2 := (Chg.of_grown (S := fun k => u6.ownBlock = some k) (only_trans (row := u6.ownBlock) (only_alloc (only_refl wr u6.ownBlock) _) g2) (fun k e => .inl e))
        have HO2 := Lib.hid (o2.more (T := fun k => k < w.heap.size) (fun k hk => by first | exact hk | exact Or.elim hk id id) (fun k hk => by have h1 := HGa.out.size; have h2 := g2.size; omega) (fun k e => by have := (o2.lt k e).1; omega))
        have HN2 := Lib.hid (HOB.out.kept hc2 (fun k hk e => by have := (hba.out k e).1; omega) (fun k e => fun e2 => HAB.out k e2 e))
        have HAB2 : Hid (∀ k, v2.ownBlock = some k → u7.ownBlock ≠ some k) := fun k e1 e2 => by
          rcases hat2 with h | h
          · rw [h] at e1; exact HAB.out k e1 e2
          · rw [h] at e1; simp at e1; have := (hbb.out k e2).2; omega
        have HG2 := Lib.hid (below_to_none (below_of_only (below_of_none HGa.out) g2 HGa.out.size (fun k e => (hba.out k e).1)))
        clear o2 g2 hc2 hat2
        go_wp2_with fail
        go_roundw
        case rel => exact ⟨i + 1, by omega, by go_num, by rw [HA2.out]; exact HO2.out, by rw [HB2.out]; exact HN2.out, HAB2.out, HG2.out⟩
        case measure => simp [intOf]; omega
      | false =>
        rw [hin] at HHt
        have HA2 : Hid ((ts.take (i + 1)).filter (inB us) = (ts.take i).filter (inB us)) := by show _ = _; rw [HT.out, List.filter_append]; simp [inB, hin]
        have HB2 : Hid ((ts.take (i + 1)).filter (fun t => !inB us t) = ((ts.take i).filter fun t => !inB us t) ++ [t]) := by show _ = _; rw [HT.out, List.filter_append]; simp [inB, hin]
        clear hin
        go_wp2_with fail
        refine HHt.out.mono ?_
        rintro e w1 ⟨rfl, rfl⟩
        go_wp2_with (at_builtin; refine wpList_append_fh rfl _ _ _ 43 (by rfl) (wr.alloc (.cells #[.int .u64 (t.tag : Nat), .int .i64 t.typ, .int .u64 (t.num : Nat), .string t.text, .slice la t.list.length lc] 43)) _ Tryz.underlying33 Tryz.infoRefF rfl w.heap.size (fun k => k < w.heap.size) (fun k => k < w.heap.size) _ _ (by rfl) HOBa.out t (.slice la t.list.length lc) HRa.out ?c1 ?c2 (wr.heap.size + 1) hza (by rfl) ?c3 ?c4 ?_)
        case c1 => intro k hk; omega
        case c2 => intro k e hk; have := (hbb.out k e).1; omega
        case c3 => omega
        case c4 => omega
        intro v2 w2 o2 g2 hat2
        have hc2 : Chg (fun k => u7.ownBlock = some k) wr w2 := (Chg.of_grown (S := fun k => u7.ownBlock = some k) (only_trans (row := u7.ownBlock) (only_alloc (only_refl wr u7.ownBlock) _) g2) (fun k e => .inl e))
        have HO2 := Lib.hid (o2.more (T := fun k => k < w.heap.size) (fun k hk => by first | exact hk | exact Or.elim hk id id) (fun k hk => by have h1 := HGa.out.size; have h2 := g2.size; omega) (fun k e => by have := (o2.lt k e).1; omega))
        have HN2 := Lib.hid (HOA.out.kept hc2 (fun k hk e => by have := (hbb.out k e).1; omega) (fun k e => fun e2 => HAB.out k e e2))
        have HAB2 : Hid (∀ k, u6.ownBlock = some k → v2.ownBlock ≠ some k) := fun k e1 e2 => by
          rcases hat2 with h | h
          · rw [h] at e2; exact HAB.out k e1 e2
          · rw [h] at e2; simp at e2; have := (hba.out k e1).2; omega
        have HG2 := Lib.hid (below_to_none (below_of_only (below_of_none HGa.out) g2 HGa.out.size (fun k e => (hbb.out k e).1)))
        clear o2 g2 hc2 hat2
        go_wp2_with fail
        go_roundw
        case rel => exact ⟨i + 1, by omega, by go_num, by rw [HA2.out]; exact HN2.out, by rw [HB2.out]; exact HO2.out, HAB2.out, HG2.out⟩
        case measure => simp [intOf]; omega
    · have hie : i = ts.length := by omega
      subst hie
      rw [List.take_length] at HOA HOB
      go_wp2_with fail
      go_ret2
      exact ⟨_, _, rfl, HOA.out.rd.mono (fun _ _ _ => trivial), HOB.out.rd.mono (fun _ _ _ => trivial), HG.out⟩

end Go.Proofs.YtieheclnkopfpaaGreatDoor.pm
