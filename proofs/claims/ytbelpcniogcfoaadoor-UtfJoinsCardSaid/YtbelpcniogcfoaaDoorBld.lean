/-
  WriteString, String.
-/
import Derived.Test.YtbelpcniogcfoaaDoorChg
import Derived.Test.YtbelpcniogcfoaaDoorVall
import Derived.Test.YtbelpcniogcfoaaDoorShelf
import Derived.Lib.FrozenHead
import Derived.Lib.UnsafeStr
import Derived.Shelf.Strings.Builder1
namespace Go.Proofs.YtbelpcniogcfoaaDoor.bd
open Go.RowKit
set_option linter.unusedVariables false
set_option linter.unusedSimpArgs false
theorem Tryd.infoByteB : (Tryd.prog.info? 5).map (fun i => (i.zero, i.size, i.bytes)) = some (some (.int .u8 0), 1, 1) := by kernel_rfl

theorem Tryd.cellsByteB : Tryd.prog.cellsOf 5 = 1 := by kernel_rfl

theorem Tryd.sizeBuilderB : (Tryd.prog.info? 86).map (·.size) = some 2 := by kernel_rfl

theorem Tryd.liesBuilderB : liesAt Tryd.prog Tryd.prog.depth 86 (2 / Tryd.prog.cellsOf 86) 0 86 1 = true := by kernel_rfl

/-- A builder at the block b that holds the bytes l; of S are the blocks that are its own. -/
def Bld (w : World) (b : Nat) (S : Nat → Prop) (l : List UInt8) : Prop :=
  ∃ p v, (p = .pointer none ∨ p = .pointer (some ⟨b, 0, none⟩)) ∧ w.heap[b]? = some (.cells #[p, v] 86 (0, 0)) ∧ w.ownsRowF 0 5 1 v l.length (Lib.byteCells l) ∧ v.ownBlock ≠ some b ∧
    S b ∧ (∀ k, v.ownBlock = some k → S k) ∧ (l = [] → v = .slice none 0 0)

theorem Bld.lt {w : World} {b : Nat} {S : Nat → Prop} {l : List UInt8} (h : Bld w b S l) : b < w.heap.size := by
  obtain ⟨p, v, -, hb, -⟩ := h
  exact (Array.getElem?_eq_some_iff.1 hb).1
theorem Bld.own {w : World} {b : Nat} {S : Nat → Prop} {l : List UInt8} (h : Bld w b S l) : S b := by
  obtain ⟨p, v, -, -, -, -, hs, -⟩ := h
  exact hs
theorem Bld.mono {w : World} {b : Nat} {S T : Nat → Prop} {l : List UInt8} (h : Bld w b S l) (hT : ∀ k, k < w.heap.size → S k → T k) : Bld w b T l := by
  have hlt := h.lt
  obtain ⟨p, v, h1, h2, h3, h4, h5, h6, h7⟩ := h
  exact ⟨p, v, h1, h2, h3, h4, hT b hlt h5, fun k e => hT k (h3.lt k e).2 (h6 k e), h7⟩
theorem Bld.kept {w w' : World} {b : Nat} {S T : Nat → Prop} {l : List UInt8} (h : Bld w b S l) (g : Chg T w w') (hT : ∀ k, S k → ¬ T k) : Bld w' b S l := by
  have hlt := h.lt
  obtain ⟨p, v, h1, h2, h3, h4, h5, h6, h7⟩ := h
  exact ⟨p, v, h1, by rw [g.block b hlt (hT b h5)]; exact h2, g.ownsRowF h3 (fun k e => hT k (h6 k e)), h4, h5, h6, h7⟩
theorem Bld.new (w : World) (S : Nat → Prop) (hS : S w.heap.size) : Bld (w.alloc (.cells #[.pointer none, .slice none 0 0] 86)) w.heap.size S [] :=
  ⟨.pointer none, .slice none 0 0, .inl rfl, heap_alloc_new w _, World.ownsRowF_nil _ _ _ _, by simp [Value.ownBlock], hS, (fun k e => by simp [Value.ownBlock] at e), (fun _ => rfl)⟩

set_option maxHeartbeats 1000000 in
set_option maxRecDepth 100000 in
theorem bcheck_used (b : Nat) (w : World) (h0 : w.cell? ⟨b, 0, none⟩ = some (.pointer (some ⟨b, 0, none⟩))) :
    Calls Tryd.prog 61 #[.pointer (some ⟨b, 0, none⟩)] w fun e w' => e = .returned (.tuple #[]) ∧ w' = w := by
  obtain ⟨j, hj, -⟩ := Option.map_eq_some_iff.1 Tryd.sizeBuilderB
  go_enter Tryd.func61, Tryd.ntmps61
  go_wp2
  rw [Lib.run_neq_ptr_same w _ Tryd.underlying81 hj]
  go_wp2
  go_end0
  exact ⟨rfl, rfl⟩

set_option maxHeartbeats 1000000 in
set_option maxRecDepth 100000 in
theorem bcheck_fresh (b : Nat) (w : World) (h0 : w.cell? ⟨b, 0, none⟩ = some (.pointer none)) (hsh : w.shape? b = some (86, 2)) (hfz : w.frozen? ⟨b, 0, none⟩ = false) :
    Calls Tryd.prog 61 #[.pointer (some ⟨b, 0, none⟩)] w fun e w' => e = .returned (.tuple #[]) ∧ w' = w.setCell ⟨b, 0, none⟩ (.pointer (some ⟨b, 0, none⟩)) := by
  obtain ⟨j, hj, hjs⟩ := Option.map_eq_some_iff.1 Tryd.sizeBuilderB
  go_enter Tryd.func61, Tryd.ntmps61
  go_wp2
  rw [Lib.run_to_unsafe w ⟨b, 0, none⟩ Tryd.underlying81 Tryd.underlying99 hj (by rw [hjs]; decide) hsh (Nat.zero_lt_succ 1)]
  simp only [Result.andThen]
  rw [Oper.upon_value]
  go_wp2
  rw [run_callFunc_extern Tryd.func68 (by kernel_rfl) (by kernel_rfl) (by kernel_rfl) (e := Extern.AbiNoEscape.same) (by kernel_rfl)]
  rw [Lib.run_noEscape]
  simp only [Result.andThen]
  rw [Oper.upon_value]
  go_wp2
  rw [Lib.run_from_unsafe w ⟨b, 0, none⟩ Tryd.underlying99 Tryd.underlying81 hj hsh Tryd.liesBuilderB]
  simp only [Result.andThen]
  rw [Oper.upon_value]
  go_wp2
  go_end0
  exact ⟨rfl, rfl⟩

theorem bcheck_any (b : Nat) (S : Nat → Prop) (l : List UInt8) (w : World) (h : Bld w b S l) :
    Calls Tryd.prog 61 #[.pointer (some ⟨b, 0, none⟩)] w fun e w' => e = .returned (.tuple #[]) ∧ ∃ v, w'.heap[b]? = some (.cells #[.pointer (some ⟨b, 0, none⟩), v] 86 (0, 0)) ∧ w'.ownsRowF 0 5 1 v l.length (Lib.byteCells l) ∧ v.ownBlock ≠ some b ∧
    (∀ k, v.ownBlock = some k → S k) ∧ (l = [] → v = .slice none 0 0) ∧ Chg S w w' := by
  obtain ⟨p, v, hp, hb, ho, hne, hs, hv, hn⟩ := h
  rcases hp with rfl | rfl
  · refine (bcheck_fresh b w (by simp [World.cell?, hb]) (by simp [World.shape?, hb]) (by simp [World.frozen?, hb])).mono ?_
    rintro e w' ⟨rfl, rfl⟩
    refine ⟨rfl, v, by simp [World.setCell, Array.getElem?_modify, hb], ?_, hne, hv, hn, (Chg.refl S w).setCell (p := ⟨b, 0, none⟩) (.inl hs) _⟩
    have g : Chg (fun k => k = b) w (w.setCell ⟨b, 0, none⟩ (.pointer (some ⟨b, 0, none⟩))) := Chg.set_one w b 0 _
    exact g.ownsRowF ho (fun k e h => hne (by rw [e, h]))
  · refine (bcheck_used b w (by simp [World.cell?, hb])).mono ?_
    rintro e w' ⟨rfl, rfl⟩
    exact ⟨rfl, v, hb, ho, hne, hv, hn, Chg.refl S _⟩

/-- A block that a builder may have for its own. -/
def Tyd (w : World) (k : Nat) : Prop := ∃ cur t fz, w.heap[k]? = some (.cells cur t fz) ∧ (t = 86 ∨ t = 5)

theorem Bld.tight {w : World} {b : Nat} {S : Nat → Prop} {l : List UInt8} (h : Bld w b S l) : Bld w b (fun k => S k ∧ Tyd w k) l := by
  obtain ⟨p, v, h1, h2, h3, h4, h5, h6, h7⟩ := h
  refine ⟨p, v, h1, h2, h3, h4, ⟨h5, _, _, _, h2, .inl rfl⟩, fun k e => ⟨h6 k e, ?_⟩, h7⟩
  rcases h3.2 with ⟨rfl, _⟩ | ⟨g, cap, cur, fz, rfl, _, hg, _⟩
  · cases e
  · simp [Value.ownBlock] at e
    subst e
    exact ⟨cur, _, fz, hg, .inr rfl⟩
theorem Bld.kept' {w w' : World} {b : Nat} {S U : Nat → Prop} {l : List UInt8} (h : Bld w b S l) (g : Chg U w w') (hU : ∀ k, S k → Tyd w k → ¬ U k) : Bld w' b S l :=
  (h.tight.kept g (fun k hk => hU k hk.1 hk.2)).mono fun k _ hk => hk.1

theorem run_append_place (w : World) (ty : TypeId) (v : Value) (n : Nat) (xs : List Value) (hown : w.ownsRowF 0 5 1 v n xs) (s : ByteArray) (hn : n + s.size ≤ 1000000) :
    ∃ v' w', (Builtin.append_ #[84, 9] ty #[v, .string s]).run Tryd.prog w = .ok v' w' ∧ w'.ownsRowF 0 5 1 v' (n + s.size) (xs ++ Lib.strCells s) ∧ w.grownBy w' v.ownBlock ∧
      (v' = .slice none 0 0 ↔ v = .slice none 0 0 ∧ s.size = 0) ∧ ∀ k, v'.ownBlock = some k → v.ownBlock = some k ∨ w.heap.size ≤ k := by
  obtain ⟨iB, hi, hz0, hz1, hz2⟩ := info_parts Tryd.infoByteB
  obtain ⟨v', w', hr, h2, h3, h4⟩ := Lib.run_append_own_stringF (P := Tryd.prog) w 0 84 9 ty 5 iB Tryd.underlying84 Tryd.underlying9 hi hz0 hz1 hz2 v n xs hown s (by unfold maxLen; omega) (by omega) (by omega)
  refine ⟨v', w', hr, h2, h3, h4, ?_⟩
  rcases hown.2 with ⟨rfl, rfl⟩ | ⟨g, cap, cur, fz, rfl, hbg, hg, hfz, hnc, hcm, hcs, htake⟩
  · obtain ⟨v2, w2, hr2, k2, -, -⟩ := Lib.run_append_own_stringF (P := Tryd.prog) w w.heap.size 84 9 ty 5 iB Tryd.underlying84 Tryd.underlying9 hi hz0 hz1 hz2 _ _ xs ⟨hown.1, .inl ⟨rfl, rfl⟩⟩ s (by unfold maxLen; omega) (by omega) (Nat.le_refl _)
    rw [hr] at hr2
    injection hr2 with e1 e2
    subst e1 e2
    exact fun k e => .inr (k2.lt k e).1
  · have hxl : xs.length = n := by simpa using hown.1
    by_cases hroom : n + s.size ≤ cap
    · have hr2 := Lib.run_append_room_stringF (P := Tryd.prog) w 84 9 ty 5 iB Tryd.underlying84 Tryd.underlying9 hi hz1 g n cap cur fz hg (by simpa using hfz) s hroom (by omega)
      rw [hr] at hr2
      injection hr2 with e1 e2
      subst e1
      exact fun k e => .inl e
    · have hr2 := Lib.run_append_grow_string (P := Tryd.prog) w 84 9 ty 5 iB (.int .u8 0) Tryd.underlying84 Tryd.underlying9 hi hz0 ⟨g, 0, none⟩ n cap xs (by rw [hz1]; simpa using hxl) (hown.cells (g := g) rfl) s (by omega) (by omega) (by rw [hz2]; exact growslice_fits (by omega) (by omega))
      rw [hr] at hr2
      injection hr2 with e1 e2
      subst e1
      exact fun k e => .inr (by simp [Value.ownBlock] at e; omega)

theorem wpList_append_place {ops : Array Oper} {rest : List Oper} {o : Oper} {a : Act} {w : World} {Q : Exit → Act → World → Prop} (hgd : o.guard = none) (sl x : Operand)
    (ho : o.op = .call { callee := .builtin .append, args := #[sl, x], argTypes := #[84, 9] })
    (v : Value) (n : Nat) (xs : List Value) (hs : a.eval sl = v) (hown : w.ownsRowF 0 5 1 v n xs) (s : ByteArray) (hx : a.eval x = .string s) (hn : n + s.size ≤ 1000000)
    (h : ∀ v' w', w'.ownsRowF 0 5 1 v' (n + s.size) (xs ++ Lib.strCells s) → w.grownBy w' v.ownBlock → (v' = .slice none 0 0 ↔ v = .slice none 0 0 ∧ s.size = 0) → (∀ k, v'.ownBlock = some k → v.ownBlock = some k ∨ w.heap.size ≤ k) →
      wpList Tryd.prog ops Q rest (a.put o.dst v') w') : wpList Tryd.prog ops Q (o :: rest) a w :=
  wpList_plain hgd fun K hK => by
    obtain ⟨v', w', hr, h2, h3, h4, h5⟩ := run_append_place w o.type v n xs hown s hn
    unfold Oper.wp execOp
    simp only [ho, resolve, invoke, builtin, Sem.run_bind, Sem.run_pure, Result.andThen_ok, List.map_toArray, List.map_cons, List.map_nil, hs, hx, hr]
    exact hK _ _ (h v' w' h2 h3 h4 h5)

set_option maxHeartbeats 2000000 in
set_option maxRecDepth 100000 in
theorem write_any (b : Nat) (S : Nat → Prop) (l : List UInt8) (s : ByteArray) (w : World) (h : Bld w b S l) (hlen : l.length + s.size ≤ 1000000) :
    Calls Tryd.prog 58 #[.pointer (some ⟨b, 0, none⟩), .string s] w fun e w' => e = .returned (.tuple #[.int .i64 s.size, .nilIface]) ∧ Chg S w w' ∧ Bld w' b (fun k => S k ∨ w.heap.size ≤ k) (l ++ s.data.toList) := by
  have hS := h.own
  go_enter Tryd.func58, Tryd.ntmps58
  go_wp2_with fail
  refine (bcheck_any b S l _ h).mono ?_
  rintro e w1 ⟨rfl, v, hbk, hown, hne, hv, hn, hg1⟩
  have c0 : w1.cell? ⟨b, 0, none⟩ = some (.pointer (some ⟨b, 0, none⟩)) := by simp [World.cell?, hbk]
  have c1 : w1.cell? ⟨b, 1, none⟩ = some v := by simp [World.cell?, hbk]
  have Hnil := Lib.hid hn
  have Hv := Lib.hid hv
  clear hn hv
  go_wp2_with (at_builtin; refine wpList_append_place rfl _ _ rfl _ _ _ rfl hown s rfl ?c3 ?_)
  case c3 => exact hlen
  intro v' w2 hown' hgrow hnil hpl
  have hlt1 : b < w1.heap.size := (Array.getElem?_eq_some_iff.1 hbk).1
  have hb2 : w2.heap[b]? = some (.cells #[.pointer (some ⟨b, 0, none⟩), v] 86 (0, 0)) := by
    rw [hgrow.block b hlt1 (fun e => hne e.symm)]
    exact hbk
  have d0 : w2.cell? ⟨b, 0, none⟩ = some (.pointer (some ⟨b, 0, none⟩)) := by simp [World.cell?, hb2]
  have d1 : w2.cell? ⟨b, 1, none⟩ = some v := by simp [World.cell?, hb2]
  have f1 : w2.frozen? ⟨b, 1, none⟩ = false := by simp [World.frozen?, hb2]
  obtain ⟨ao, n', cap, hsh⟩ : ∃ ao n' cap, v' = .slice ao n' cap := by
    rcases hown'.2 with ⟨hv, _⟩ | ⟨g, cap, cur, fz, hv, _⟩
    · exact ⟨_, _, _, hv⟩
    · exact ⟨_, _, _, hv⟩
  have hsz2 := hgrow.size
  have hsz1 := hg1.size
  have HG2 : Hid (Chg S w w2) := hg1.trans (T := S) (Chg.of_grown hgrow (fun k e => .inl (Hv.out k e))) (fun _ h => .inl h)
  have HV2 : Hid (∀ k, v'.ownBlock = some k → S k ∨ w.heap.size ≤ k) := fun k e => by
    rcases hpl k e with h | h
    · exact .inl (Hv.out k h)
    · exact .inr (by omega)
  have hne2 : v'.ownBlock ≠ some b := fun e => by
    rcases hpl b e with h | h
    · exact hne h
    · omega
  have HN2 : Hid (l ++ s.data.toList = [] → v' = .slice none 0 0) := fun e => by
    have e1 := List.append_eq_nil_iff.1 e
    exact hnil.2 ⟨Hnil.out e1.1, by have := congrArg List.length e1.2; simpa using this⟩
  have HO2 := Lib.hid hown'
  have HB2 := Lib.hid hb2
  have HNE := Lib.hid hne2
  subst hsh
  clear hnil hpl hown' hb2 hne2 hown hbk hne c0 c1 h
  go_wp2
  go_ret2
  refine ⟨rfl, HG2.out.setCell (p := ⟨b, 1, none⟩) (.inl hS) _, .pointer (some ⟨b, 0, none⟩), _, .inr rfl, by simp [World.setCell, Array.getElem?_modify, HB2.out], ?_, HNE.out, .inl hS, HV2.out, HN2.out⟩
  have g : Chg (fun k => k = b) w2 (w2.setCell ⟨b, 1, none⟩ (.slice ao n' cap)) := Chg.set_one w2 b 1 _
  have := g.ownsRowF HO2.out (fun k e h => HNE.out (by rw [e, h]))
  rw [List.length_append, Lib.byteCells_append]
  simpa [Lib.strCells_eq] using this

set_option maxHeartbeats 2000000 in
set_option maxRecDepth 100000 in
theorem string_some (b : Nat) (S : Nat → Prop) (l : List UInt8) (w : World) (h : Bld w b S l) (h0 : l ≠ []) :
    Calls Tryd.prog 69 #[.pointer (some ⟨b, 0, none⟩)] w fun e w' => e = .returned (.string ⟨l.toArray⟩) ∧ Chg S w w' ∧ Bld w' b S l := by
  obtain ⟨p, v, hp, hbk, hown, hne, hS, hv, hnil⟩ := h
  have hl0 : l.length ≠ 0 := by simpa using h0
  have hown0 := hown
  obtain ⟨g, cap, cur, fz, rfl, hbg, hg, hfz, hnc, hcm, hcs, htake⟩ : ∃ g cap cur fz, v = .slice (some ⟨g, 0, none⟩) l.length cap ∧ 0 ≤ g ∧ w.heap[g]? = some (.cells cur 5 fz) ∧ fz.2 ≤ l.length * 1 ∧ l.length ≤ cap ∧ cap ≤ maxLen ∧ cur.size = cap * 1 ∧ cur.toList.take (l.length * 1) = Lib.byteCells l := by
    rcases hown.2 with ⟨_, hz⟩ | r
    · exact absurd hz hl0
    · exact r
  have c1 : w.drew.cell? ⟨b, 1, none⟩ = some (.slice (some ⟨g, 0, none⟩) l.length cap) := by
    have : w.drew.heap[b]? = some (.cells #[p, .slice (some ⟨g, 0, none⟩) l.length cap] 86 (0, 0)) := hbk
    simp [World.cell?, this]
  have hSD : (Builtin.unsafeSliceData_ #[84] 109 #[.slice (some ⟨g, 0, none⟩) l.length cap]).run Tryd.prog w.drew = .ok (.pointer (some ⟨g, 0, none⟩)) w.drew :=
    Lib.run_unsafeSliceData_row _ _ _ _ _ _ (by omega)
  have hUS : (Builtin.unsafeString_ #[109, 3] 9 #[.pointer (some ⟨g, 0, none⟩), .int .i64 l.length]).run Tryd.prog w.drew = .ok (.string ⟨l.toArray⟩) (w.drew.freeze ⟨g, 0, none⟩ l.length) := by
    refine Lib.run_unsafeString_row w.drew 109 3 9 5 Tryd.underlying109 Tryd.cellsByteB g cur.size (by have hg' : w.drew.heap[g]? = some (.cells cur 5 fz) := hg; simp [World.shape?, hg']) l h0 (by omega) (by unfold maxLen at hcm; omega) ?_
    intro j x hx
    have := hown.cells (g := g) rfl j (.int .u8 x.toNat) (by simp [Lib.byteCells, hx])
    exact this
  have hkeep : Hid (Bld (w.drew.freeze ⟨g, 0, none⟩ l.length) b S l) := by
    have hA : Lib.BuilderAtF 86 5 0 b p (Lib.byteCells l) w.drew := ⟨Nat.zero_le _, _, hbk, by rw [Lib.byteCells_length]; exact hown0, hne⟩
    have hF := hA.froze (g := g) (cap := cap) (by rw [Lib.byteCells_length]; exact c1)
    rw [Lib.byteCells_length] at hF
    obtain ⟨-, v2, k1, k2, k3⟩ := hF
    have hgb : g ≠ b := fun e => hne (by simp [Value.ownBlock, e])
    have e2 : (w.drew.freeze ⟨g, 0, none⟩ l.length).heap[b]? = w.heap[b]? := (Chg.freeze (S := fun k => k = g) (Chg.drew (Chg.refl _ w)) (p := ⟨g, 0, none⟩) (.inl rfl) l.length).block b (Array.getElem?_eq_some_iff.1 hbk).1 (fun e => hgb e.symm)
    rw [e2, hbk] at k1
    simp at k1
    subst k1
    rw [Lib.byteCells_length] at k2
    exact ⟨p, _, hp, by rw [e2, hbk], k2, k3, hS, hv, fun e => absurd e h0⟩
  have HG : Hid (Chg S w (w.drew.freeze ⟨g, 0, none⟩ l.length)) := Chg.freeze (Chg.drew (Chg.refl S w)) (p := ⟨g, 0, none⟩) (.inl (hv g rfl)) l.length
  clear hown hown0 hg htake hv hnil hne hp hbk
  go_enter Tryd.func69, Tryd.ntmps69
  go_wp2
  go_region
  all_goals (go_wp2; go_ret; exact ⟨rfl, HG.out, hkeep.out⟩)

set_option maxHeartbeats 2000000 in
set_option maxRecDepth 100000 in
theorem string_none (b : Nat) (S : Nat → Prop) (w : World) (h : Bld w b S []) :
    Calls Tryd.prog 69 #[.pointer (some ⟨b, 0, none⟩)] w fun e w' => e = .returned (.string ⟨#[]⟩) ∧ Chg S w w' ∧ Bld w' b S [] := by
  have hkeep := Lib.hid h
  obtain ⟨p, v, hp, hbk, hown, hne, hS, hv, hnil⟩ := h
  obtain rfl := hnil rfl
  have hUS : ∀ (W : World) (q : Option Addr), (Builtin.unsafeString_ #[109, 3] 9 #[.pointer q, .int .i64 0]).run Tryd.prog W = .ok (.string .empty) W := fun W q => Lib.run_unsafeString_none W _ _ _ q
  have c1 : w.drew.cell? ⟨b, 1, none⟩ = some (.slice none 0 0) := by
    have : w.drew.heap[b]? = some (.cells #[p, .slice none 0 0] 86 (0, 0)) := hbk
    simp [World.cell?, this]
  have hSD : (Builtin.unsafeSliceData_ #[84] 109 #[.slice none 0 0]).run Tryd.prog w.drew = .ok (.pointer none) w.drew := rfl
  clear hown hv hnil hne hp hbk
  go_enter Tryd.func69, Tryd.ntmps69
  go_wp2
  go_region
  all_goals (go_wp2; go_ret; exact ⟨rfl, Chg.drew (Chg.refl S w), hkeep.out.kept (Chg.drew (Chg.refl (fun _ => False) w)) (fun _ _ e => e)⟩)

theorem string_any (b : Nat) (S : Nat → Prop) (l : List UInt8) (w : World) (h : Bld w b S l) :
    Calls Tryd.prog 69 #[.pointer (some ⟨b, 0, none⟩)] w fun e w' => e = .returned (.string ⟨l.toArray⟩) ∧ Chg S w w' ∧ Bld w' b S l := by
  by_cases h0 : l = []
  · subst h0; exact string_none b S w h
  · exact string_some b S l w h h0

end Go.Proofs.YtbelpcniogcfoaaDoor.bd
