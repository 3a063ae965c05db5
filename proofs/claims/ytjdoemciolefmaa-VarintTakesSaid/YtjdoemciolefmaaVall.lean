/-
  Next, All, and the document's All.
-/
import Derived.Test.YtjdoemciolefmaaVput
import Derived.Test.YtjdoemciolefmaaVrget
import Derived.Deep.Onto
namespace Go.Proofs.Ytjdoemciolefmaa.vi
open Go.RowKit Go.Proofs.Ytjdoemciolefmaa.cur
set_option linter.unusedVariables false

theorem next_nil (w : World) :
    Calls Try.prog 26 #[.pointer none] w fun e w' => e = .returned (.tuple #[.int .u64 0, .int .i64 25]) ∧ w = w' := by
  go_enter Try.func26, Try.ntmps26
  go_wp2
  go_ret2
  exact ⟨rfl, rfl⟩

theorem bytes_drop (s : ByteArray) (k : Nat) : (s.extract k s.size).data.toList = s.data.toList.drop k := by
  simp
  exact List.take_of_length_le (by simp)

set_option maxRecDepth 100000 in
theorem next_some {w : World} {b : Nat} {s : ByteArray} {k : Nat} (h : Cur w b s k) :
    Calls Try.prog 26 #[.pointer (some ⟨b, 0, none⟩)] w fun e w' =>
      e = .returned (.tuple #[.int .u64 ((getR (s.data.toList.drop k)).1 : Int), .int .i64 ((getR (s.data.toList.drop k)).2.2 : Int)]) ∧ Cur w' b s (k + (getR (s.data.toList.drop k)).2.1) ∧ w.grownBy w' (some b) := by
  have hr := rest_some h
  have hs : s.size ≤ maxLen := h.hs
  have hg := fun w => get_any (s.extract k s.size) (by simp; omega) w
  rw [bytes_drop] at hg
  have hb := getR_bounds (s.data.toList.drop k)
  have he := @getR_err (s.data.toList.drop k)
  have hl : (s.data.toList.drop k).length = s.size - k := by simp
  rw [hl] at hb
  have H := Lib.hid h
  clear h
  generalize getR (s.data.toList.drop k) = r at *
  obtain ⟨x, m, E⟩ := r
  simp only at hb he ⊢
  unfold getV at hg
  simp only at hg
  obtain ⟨hx, hm, hm10, hE, hpos⟩ := hb
  by_cases h0 : E = 0
  · subst h0
    have hmp := hpos rfl
    clear he hpos
    go_enter Try.func26, Try.ntmps26
    go_wp2_with (first
      | (go_at_call 14; refine hr.mono ?_; rintro e w' ⟨rfl, d, rfl⟩)
      | (go_at_call 18; refine (hg _).mono ?_; rintro e w' ⟨rfl, rfl⟩)
      | (go_at_call 12; refine (take_ok (H.out.kept (only_drewN (only_refl _ none) _) (by simp)) m hm).mono ?_; rintro e w' ⟨rfl, hc', hg'⟩))
    go_ret2
    exact ⟨rfl, hc', only_trans (only_drewN (only_refl _ _) _) hg'⟩
  · obtain ⟨rfl, rfl⟩ := he h0
    clear hpos he
    go_enter Try.func26, Try.ntmps26
    go_wp2_with (first
      | (go_at_call 14; refine hr.mono ?_; rintro e w' ⟨rfl, d, rfl⟩)
      | (go_at_call 18; refine (hg _).mono ?_; rintro e w' ⟨rfl, rfl⟩))
    go_ret2
    exact ⟨rfl, H.out.kept (only_drewN (only_refl _ none) _) (by simp), only_drewN (only_refl _ _) _⟩

theorem Try.info28 : (Try.prog.info? 28).map (fun i => (i.zero, i.size, i.bytes)) = some (some (.int .u64 0), 1, 8) := by kernel_rfl

def u64s (l : List Nat) : List Value := l.map fun (n : Nat) => .int .u64 (n : Int)

/-- What All answers: its slice is the call's own. -/
def AllPost (w : World) (q : List Nat × Nat) (e : Ending) (w' : World) : Prop :=
  ∃ v, e = .returned (.tuple #[v, .int .i64 (q.2 : Int)]) ∧ w.grownBy w' none ∧ w'.ownsRow w.heap.size 28 1 v q.1.length (u64s q.1)

set_option maxHeartbeats 2000000 in
set_option maxRecDepth 100000 in
theorem all_any (s : ByteArray) (hs : s.size ≤ 1000000) (w : World) :
    Calls Try.prog 20 #[.string s] w (AllPost w (allR s.data.toList)) := by
  obtain ⟨i28, hi, hz0, hz1, hz2⟩ := info_parts Try.info28
  have Hlen := Lib.hid (show s.data.toList.length = s.size by simp)
  go_enter Try.func20, Try.ntmps20
  go_wp2_with fail
  refine (over_any s w).mono ?_
  rintro e w1 ⟨rfl, hw1⟩
  have hN := Lib.hid (hw1 ▸ Cur.new s (by unfold maxLen; omega) w)
  have G1 := Lib.hid (hw1 ▸ World.grownBy_alloc w (.cells #[.string s, .int .i64 0] 62) none : w.grownBy w1 none)
  clear hw1
  go_wp2_with fail
  go_loopw [4] (fun v wr => ∃ (k : Nat) (acc : List Nat), acc.length ≤ k ∧ wr.ownsRow (w.heap.size + 1) 28 1 v acc.length (u64s acc) ∧ Cur wr w.heap.size s k ∧ w.grownBy wr none ∧ allR s.data.toList = glue acc (allR (s.data.toList.drop k))) (fun _ wr => s.size - (intOf ((wr.cell? ⟨w.heap.size, 1, none⟩).getD undef)).toNat)
  case atStart => exact ⟨0, [], Nat.le_refl _, World.ownsRow_nil _ _ _ _, hN.out, G1.out, by rw [List.drop_zero, glue_nil _ (allR_good _)]⟩
  case round =>
    obtain ⟨k, acc, hacc, hown, hcur, hg, hall⟩ := hrel
    have hk := hcur.le
    have hl := left_some hcur
    have Hc := Lib.hid hcur
    have hB := hcur.lt
    have Hg := Lib.hid hg
    have Ho := Lib.hid hown
    have Hall := Lib.hid hall
    clear hcur hown hg hall
    have hc1 := Hc.out.c1
    by_cases hks : k < s.size
    · have hdl : (s.data.toList.drop k).length = s.size - k := by simp
      have hdn : s.data.toList.drop k ≠ [] := by intro h; rw [h] at hdl; simp at hdl; omega
      have hx := fun d => next_some (Hc.out.kept (only_drewN (only_refl wr none) d) (by simp))
      have hb := getR_bounds (s.data.toList.drop k)
      have Hok := Lib.hid (@allR_ok _ hdn)
      have Herr := Lib.hid (@allR_err _ hdn)
      rw [List.drop_drop] at Hok
      rw [hdl] at hb
      clear hdn
      generalize getR (s.data.toList.drop k) = r at *
      obtain ⟨x, m, E⟩ := r
      simp only at hb hx
      obtain ⟨hx64, hm, hm10, hE, hpos⟩ := hb
      by_cases h0 : E = 0
      · subst h0
        have hmp := hpos rfl
        have Hok := Lib.hid (Hok.out rfl)
        clear hpos Herr
        go_wp2_with (first
          | (go_at_call 16; refine hl.mono ?_; rintro e w' ⟨rfl, d, rfl⟩)
          | (go_at_call 26; refine (hx _).mono ?_; rintro e w3 ⟨rfl, hc3, hg3⟩; have ho3 := Ho.out.kept (only_trans (only_drewN (only_refl wr (some w.heap.size)) _) hg3) (.inr (fun e => by have := (Ho.out.lt _ e).1; omega)); have Hc3 := Lib.hid hc3; have Hg3 := Lib.hid (only_new (only_drewN Hg.out _) hg3 (Nat.le_refl _)); have hB3 := hc3.lt; clear hc3 hg3)
          | (at_builtin; refine wpList_append_own _ rfl (.tmp 21) (.tmp 23) 48 rfl (w.heap.size + 1) 28 i28 (.int .u64 0) 1 8 Try.underlying48 hi hz0 hz1 hz2 rfl (by decide) _ acc.length (u64s acc) rfl (ho3.alloc _) ⟨w3.heap.size, 0, none⟩ 1 1 [.int .u64 (x : Int)] rfl rfl ?c1 ?c2 ?c3 ?c4 ?c5 ?_))
        case c1 =>
          intro j u hj
          match j, hj with
          | 0, hj => simp at hj; subst hj; simp [Addr.add]
        case c2 => intro u hu; simp at hu; subst hu; rfl
        case c3 => unfold maxLen; omega
        case c4 => omega
        case c5 => simp; omega
        intro v' w4 hown4 hg4 _
        have HO := Lib.hid hown4
        have hblk : ∀ g, Value.ownBlock _ = some g → w.heap.size + 1 ≤ g := fun g e => (ho3.lt g e).1
        have hc4 := Lib.hid ((Hc3.out.kept (World.grownBy_alloc _ (.cells #[.int .u64 (x : Int)] 28) none) (by simp)).kept hg4 (fun e => by have := hblk _ e.symm; omega))
        have hG4 : w.grownBy w4 none := by
          have h1 := only_alloc Hg3.out (.cells #[.int .u64 (x : Int)] 28)
          refine below_to_none (below_of_only (below_of_none h1) hg4 (by have := h1.size; simpa using this) (fun g e => by have := hblk _ e; omega))
        have HG4 := Lib.hid hG4
        clear hown4 hg4 ho3 hblk hG4
        go_wp2_with fail
        go_roundw
        case rel => exact ⟨k + m, acc ++ [x], by simp; omega, by simpa [u64s] using HO.out, hc4.out, HG4.out, by rw [Hall.out, Hok.out, glue_glue]; trivial⟩
        case measure => 
          have := hc4.out.c1
          simp [intOf, this, hc1]
          omega
      · have Hh := Lib.hid (Hall.out.trans (show glue acc _ = (([], E) : List Nat × Nat) by rw [Herr.out h0]; simp [glue, h0]))
        clear hpos Hok Herr Hall
        have hEE : ((E : Int) == 0) = false := by simpa using h0
        go_wp2_with (first
          | (go_at_call 16; refine hl.mono ?_; rintro e w' ⟨rfl, d, rfl⟩)
          | (go_at_call 26; refine (hx _).mono ?_; rintro e w3 ⟨rfl, hc3, hg3⟩; have Hg3 := Lib.hid (only_new (only_drewN Hg.out _) hg3 (Nat.le_refl _)); clear hc3 hg3))
        go_ret2
        rw [Hh.out]
        exact ⟨_, rfl, Hg3.out, World.ownsRow_nil _ _ _ _⟩
    · have hke : k = s.size := by omega
      have hd : s.data.toList.drop k = [] := List.drop_of_length_le (by rw [Hlen.out]; omega)
      rw [hd, allR_nil] at Hall
      have Hh := Lib.hid (Hall.out.trans (show glue acc ([], 0) = (acc, 0) by simp [glue]))
      clear hd
      go_wp2_with (go_at_call 16; refine hl.mono ?_; rintro e w' ⟨rfl, d, rfl⟩)
      go_ret2
      rw [Hh.out]
      exact ⟨_, rfl, only_drewN Hg.out _, Ho.out.mono (by omega)⟩

end Go.Proofs.Ytjdoemciolefmaa.vi
