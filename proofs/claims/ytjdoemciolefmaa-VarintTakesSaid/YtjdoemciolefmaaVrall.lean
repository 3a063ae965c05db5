/-
  The document's All; slices.Equal of two rows that hold the same.
-/
import Derived.Test.YtjdoemciolefmaaVall
import Derived.Deep.AppendLies
namespace Go.Proofs.Ytjdoemciolefmaa.vi
open Go.RowKit Go.Proofs.Ytjdoemciolefmaa.cur
set_option linter.unusedVariables false

def strLen : Value → Nat | .string s => s.size | _ => 0

theorem extract_drop (s : ByteArray) (k m : Nat) (hk : k ≤ s.size) (h : m ≤ s.size - k) : (s.extract k s.size).extract m (s.extract k s.size).size = s.extract (k + m) s.size := by
  have e : (s.extract k s.size).size = s.size - k := by simp
  rw [e, extract_extract _ _ _ _ _ (by omega)]
  congr 1
  omega

set_option maxHeartbeats 2000000 in
set_option maxRecDepth 100000 in
theorem rall_any (s : ByteArray) (hs : s.size ≤ 1000000) (w : World) :
    Calls Try.prog 21 #[.string s] w (AllPost w (allR s.data.toList)) := by
  obtain ⟨i28, hi, hz0, hz1, hz2⟩ := info_parts Try.info28
  have Hlen := Lib.hid (show s.data.toList.length = s.size by simp)
  go_enter Try.func21, Try.ntmps21
  go_wp2_with fail
  go_loopw [0, 4] (fun t v wr => ∃ (k : Nat) (acc : List Nat), acc.length ≤ k ∧ k ≤ s.size ∧ t = .string (s.extract k s.size) ∧ wr.ownsRow w.heap.size 28 1 v acc.length (u64s acc) ∧ w.grownBy wr none ∧ allR s.data.toList = glue acc (allR (s.data.toList.drop k))) (fun t _ _ => strLen t)
  case atStart => exact ⟨0, [], Nat.le_refl _, Nat.zero_le _, congrArg Value.string (extract_all s).symm, World.ownsRow_nil _ _ _ _, only_refl _ _, by rw [List.drop_zero, glue_nil _ (allR_good _)]⟩
  case round =>
    obtain ⟨k, acc, hacc, hk, rfl, hown, hg, hall⟩ := hrel
    have Hg := Lib.hid hg
    have Ho := Lib.hid hown
    have Hall := Lib.hid hall
    have hsz := hg.size
    clear hown hg hall
    have hes : (s.extract k s.size).size = s.size - k := by simp
    have hx := fun w => rget_any (s.extract k s.size) (by unfold maxLen; omega) w
    rw [bytes_drop] at hx
    have hm0 := fun m h => extract_drop s k m hk h
    have hbd := bytes_drop s k
    have Hes := Lib.hid hes
    have hes2 : (s.extract k s.size).size ≤ 1000000 := by omega
    have hes3 : s.size - k = (s.extract k s.size).size := by omega
    by_cases hks : k < s.size
    · have hdl : (s.data.toList.drop k).length = s.size - k := by simp
      have hdn : s.data.toList.drop k ≠ [] := by intro h; rw [h] at hdl; simp at hdl; omega
      have hb := getR_bounds (s.data.toList.drop k)
      have Hok := Lib.hid (@allR_ok _ hdn)
      have Herr := Lib.hid (@allR_err _ hdn)
      rw [List.drop_drop] at Hok
      rw [hdl, hes3] at hb
      have hpos1 : 0 < (s.extract k s.size).size := by omega
      clear hdn hdl hes hes3 hbd
      generalize getR (s.data.toList.drop k) = r at *
      obtain ⟨x, m, E⟩ := r
      unfold getV at hx
      simp only at hb hx
      obtain ⟨hx64, hm, hm10, hE, hpos⟩ := hb
      have Hm := Lib.hid (hm0 m (by rw [Hes.out] at hm; exact hm))
      clear hm0
      generalize hT : s.extract k s.size = T at *
      have HT := Lib.hid hT
      clear hT
      by_cases h0 : E = 0
      · subst h0
        have hmp := hpos rfl
        have Hok := Lib.hid (Hok.out rfl)
        clear hpos Herr
        go_wp2_with (first
          | (go_at_call 19; refine (hx _).mono ?_; rintro e w' ⟨rfl, rfl⟩)
          | (at_builtin; refine wpList_append_own _ rfl (.tmp 20) (.tmp 22) 48 rfl w.heap.size 28 i28 (.int .u64 0) 1 8 Try.underlying48 hi hz0 hz1 hz2 rfl (by decide) _ acc.length (u64s acc) rfl (Ho.out.alloc _) ⟨wr.heap.size, 0, none⟩ 1 1 [.int .u64 (x : Int)] rfl rfl ?c1 ?c2 ?c3 ?c4 ?c5 ?_))
        case c1 =>
          intro j u hj
          match j, hj with
          | 0, hj => simp at hj; subst hj; simp [Addr.add]
        case c2 => intro u hu; simp at hu; subst hu; rfl
        case c3 => unfold maxLen; omega
        case c4 => omega
        case c5 => simp; omega
        intro v' w4 hown4 hg4 _
        have HO := Lib.hid hown4
        have HG4 := Lib.hid (below_to_none (below_of_only (below_of_none (only_alloc Hg.out (.cells #[.int .u64 (x : Int)] 28))) hg4 (by simp; omega) (fun g e => (Ho.out.lt g e).1)))
        clear hown4 hg4
        go_wp2_with fail
        go_roundw
        case rel => exact ⟨k + m, acc ++ [x], by simp; omega, by have := Hes.out; omega, congrArg Value.string Hm.out, by simpa [u64s] using HO.out, HG4.out, by rw [Hall.out, Hok.out, glue_glue]; trivial⟩
        case measure =>
          simp [strLen]
          omega
      · have Hh := Lib.hid (Hall.out.trans (show glue acc _ = (([], E) : List Nat × Nat) by rw [Herr.out h0]; simp [glue, h0]))
        clear hpos Hok Herr Hall
        have hEE : ((E : Int) == 0) = false := by simpa using h0
        go_wp2_with (go_at_call 19; refine (hx _).mono ?_; rintro e w' ⟨rfl, rfl⟩)
        go_ret2
        rw [Hh.out]
        exact ⟨_, rfl, Hg.out, World.ownsRow_nil _ _ _ _⟩
    · have hd : s.data.toList.drop k = [] := List.drop_of_length_le (by rw [Hlen.out]; omega)
      rw [hd, allR_nil] at Hall
      have Hh := Lib.hid (Hall.out.trans (show glue acc ([], 0) = (acc, 0) by simp [glue]))
      have hz : ¬ 0 < (s.extract k s.size).size := by omega
      clear hd hx hm0 hbd hes hes3
      generalize s.extract k s.size = T at *
      go_wp2_with fail
      go_ret2
      rw [Hh.out]
      exact ⟨_, rfl, Hg.out, Ho.out⟩

theorem row_shape {w : World} {base : Nat} {e : TypeId} {size : Nat} {v : Value} {n : Nat} {xs : List Value} (h : w.ownsRow base e size v n xs) : ∃ a cap, v = .slice a n cap := by
  rcases h.2 with ⟨rfl, rfl⟩ | ⟨g, cap, cur, rfl, _⟩
  · exact ⟨none, 0, rfl⟩
  · exact ⟨_, _, rfl⟩

set_option maxHeartbeats 1000000 in
/-- slices.Equal of two rows that hold the same numbers. -/
theorem equal_same {w : World} {b1 b2 : Nat} {v1 v2 : Value} (l : List Nat) (hl : l.length ≤ maxLen) (h1 : w.ownsRow b1 28 1 v1 l.length (u64s l)) (h2 : w.ownsRow b2 28 1 v2 l.length (u64s l)) :
    Calls Try.prog 25 #[v1, v2] w fun e w' => e = .returned (.bool true) ∧ w.grownBy w' none := by
  unfold maxLen at hl
  by_cases h0 : l.length = 0
  · obtain ⟨a1, c1, rfl⟩ := row_shape h1
    obtain ⟨a2, c2, rfl⟩ := row_shape h2
    rw [h0]
    clear h1 h2 hl h0
    go_enter Try.func25, Try.ntmps25
    go_wp2_with fail
    refine wp_loop_rounds 1 ?_
    rw [rounds_succ]
    go_wp2_with fail
    go_ret
    exact ⟨rfl, only_refl _ _⟩
  · obtain ⟨g1, c1, rfl, -, hg1⟩ := h1.form (by omega)
    obtain ⟨g2, c2, rfl, -, hg2⟩ := h2.form (by omega)
    have hc1 : ∀ j (h : j < l.length), w.cell? ⟨g1, j, none⟩ = some (.int .u64 (l[j] : Nat)) := fun j h => by
      rw [h1.cellAt j (by omega)]; simp [u64s, h]
    have hc2 : ∀ j (h : j < l.length), w.cell? ⟨g2, j, none⟩ = some (.int .u64 (l[j] : Nat)) := fun j h => by
      rw [h2.cellAt j (by omega)]; simp [u64s, h]
    have H1 := Lib.hid hc1
    have H2 := Lib.hid hc2
    clear h1 h2 hc1 hc2
    go_enter Try.func25, Try.ntmps25
    go_wp2_with fail
    go_loopw [13] (fun c wr => ∃ i d : Nat, i ≤ l.length ∧ c = .int .i64 i ∧ wr = w.drewN d) (fun c _ => l.length - (intOf c).toNat)
    case atStart => exact ⟨0, 0, by omega, rfl, rfl⟩
    case round =>
      obtain ⟨i, d, hi, rfl, rfl⟩ := hrel
      by_cases hlt : i < l.length
      · have k1 := H1.out i hlt
        have k2 := H2.out i hlt
        generalize l[i] = x at *
        go_wp2_with fail
        go_quiet (fail)
        go_wp2_with fail
        go_roundw
        case rel => exact ⟨i + 1, _, by omega, by go_num, rfl⟩
        case measure => simp [intOf]; omega
      · go_wp2_with fail
        go_ret
        exact ⟨rfl, only_drewN (only_refl _ _) _⟩

end Go.Proofs.Ytjdoemciolefmaa.vi
