/-
  The document's All.
-/
import Derived.Test.YtkggjokpbopjdaaFref
namespace Go.Proofs.Ytkggjokpbopjdaa.fm
open Go.RowKit Go.Proofs.Ytkggjokpbopjdaa.vi Go.Proofs.Ytkggjokpbopjdaa.cur
set_option linter.unusedVariables false
set_option linter.unusedSimpArgs false

/-- What All answers: its slice is the call's own. -/
def AllPost (w : World) (q : List (List UInt8) × Nat) (e : Ending) (w' : World) : Prop :=
  ∃ v, e = .returned (.tuple #[v, .int .i64 (q.2 : Int)]) ∧ w.grownBy w' none ∧ Own w.heap.size w' v q.1

theorem framesR_good : ∀ (m : Nat) (L : List UInt8), L.length ≤ m → ((framesR L).2 ≠ 0 → (framesR L).1 = []) ∧ (framesR L).1.length ≤ L.length ∧ (framesR L).2 < 7 := by
  intro m
  induction m with
  | zero =>
    intro L hm
    have : L = [] := List.length_eq_zero_iff.1 (by omega)
    subst this
    rw [framesR_nil]; simp
  | succ m ih =>
    intro L hm
    by_cases hL : L = []
    · subst hL; rw [framesR_nil]; simp
    · by_cases h2 : (parseR L).2.2 = 0
      · have hp := parse_pos h2
        have hl := (parse_ok h2).2.2.2
        have := ih (L.drop (parseR L).2.1) (by simp; omega)
        rw [framesR_ok hL h2]
        unfold glueF
        split
        · rename_i hz
          simp at this ⊢
          omega
        · rename_i hz
          exact ⟨fun _ => rfl, by simp, this.2.2⟩
      · rw [framesR_err hL h2]
        have := parse_lt L
        exact ⟨fun _ => rfl, by simp, this⟩

theorem glueF_nil (q : List (List UInt8) × Nat) (h : q.2 ≠ 0 → q.1 = []) : glueF [] q = q := by
  unfold glueF
  obtain ⟨a, b⟩ := q
  by_cases hb : b = 0
  · simp [hb]
  · simp at h; simp [hb, h hb]

set_option maxHeartbeats 2000000 in
set_option maxRecDepth 100000 in
theorem rall_any (s : ByteArray) (hs : s.size ≤ 1000000) (w : World) :
    Calls Try.prog 15 #[.string s] w (AllPost w (framesR s.data.toList)) := by
  obtain ⟨iS, hi, hz0, hz1, hz2⟩ := info_parts Try.infoStr
  have Hlen := Lib.hid (show s.data.toList.length = s.size by simp)
  go_enter Try.func15, Try.ntmps15
  go_wp2_with fail
  go_loopw [0, 4] (fun t v wr => ∃ (k : Nat) (acc : List (List UInt8)), acc.length ≤ k ∧ k ≤ s.size ∧ t = .string (s.extract k s.size) ∧ Own w.heap.size wr v acc ∧ w.grownBy wr none ∧ framesR s.data.toList = glueF acc (framesR (s.data.toList.drop k))) (fun t _ _ => strLen t)
  case atStart => exact ⟨0, [], Nat.le_refl _, Nat.zero_le _, congrArg Value.string (extract_all s).symm, Own.nil _ _, only_refl _ _, by rw [List.drop_zero, glueF_nil _ (framesR_good _ _ (Nat.le_refl _)).1]⟩
  case round =>
    obtain ⟨k, acc, hacc, hk, rfl, hown, hg, hall⟩ := hrel
    have Hg := Lib.hid hg
    have Ho := Lib.hid hown
    have Hall := Lib.hid hall
    have hsz := hg.size
    clear hown hg hall
    have hes : (s.extract k s.size).size = s.size - k := by simp
    have hx := fun w => rparse_any (s.extract k s.size) (by omega) w
    rw [bytes_drop] at hx
    have hm0 := fun m h => extract_drop s k m hk h
    have Hes := Lib.hid hes
    have hes3 : s.size - k = (s.extract k s.size).size := by omega
    by_cases hks : k < s.size
    · have hdl : (s.data.toList.drop k).length = s.size - k := by simp
      have hdn : s.data.toList.drop k ≠ [] := by intro h; rw [h] at hdl; simp at hdl; omega
      have hlt := parse_lt (s.data.toList.drop k)
      have hpo := @parse_pos (s.data.toList.drop k)
      have hok := fun h => (@parse_ok (s.data.toList.drop k) h).2.2.2
      have Hok := Lib.hid (@framesR_ok _ hdn)
      have Herr := Lib.hid (@framesR_err _ hdn)
      rw [List.drop_drop] at Hok
      rw [hdl, hes3] at hok
      have hpos1 : 0 < (s.extract k s.size).size := by omega
      clear hdn hdl hes hes3
      generalize parseR (s.data.toList.drop k) = r at *
      obtain ⟨x, m, E⟩ := r
      unfold parseV at hx
      simp only at hx hlt hpo hok
      generalize hT : s.extract k s.size = T at *
      have HT := Lib.hid hT
      clear hT
      by_cases h0 : E = 0
      · subst h0
        have hmp := hpo rfl
        have hm := hok rfl
        have Hm := Lib.hid (hm0 m (by rw [Hes.out] at hm; exact hm))
        have Hok := Lib.hid (Hok.out rfl)
        clear hpo Herr hok hm0
        go_wp2_with fail
        refine (hx _).mono ?_
        rintro e w1 ⟨rfl, g1⟩
        have Ho1 := Lib.hid (Ho.out.kept g1)
        have Hg1 := Lib.hid (only_trans Hg.out g1)
        clear g1
        have hsz1 := Hg1.out.size
        go_wp2_with (at_builtin; refine wpList_append_own _ rfl (.tmp 20) (.tmp 22) 32 rfl w.heap.size 9 iS (.string ⟨#[]⟩) 1 16 Try.underlying32 hi hz0 hz1 hz2 rfl (by decide) _ acc.length (texts acc) rfl (World.ownsRow.alloc Ho1.out _) ⟨w1.heap.size, 0, none⟩ 1 1 [.string (str x)] rfl rfl ?c1 ?c2 ?c3 ?c4 ?c5 ?_)
        case c1 =>
          intro j u hj
          match j, hj with
          | 0, hj => simp at hj; subst hj; simp [Addr.add]
        case c2 => intro u hu; simp at hu; subst hu; rfl
        case c3 => unfold maxLen; omega
        case c4 => omega
        case c5 => simp; omega
        intro v' w4 hown4 hg4 _
        have HO := Lib.hid hown4
        have HG4 := Lib.hid (below_to_none (below_of_only (below_of_none (only_alloc Hg1.out (.cells #[.string (str x)] 9))) hg4 (by simp; omega) (fun g e => (World.ownsRow.lt Ho1.out g e).1)))
        clear hown4 hg4
        go_wp2_with fail
        go_roundw
        case rel => exact ⟨k + m, acc ++ [x], by simp; omega, by have := Hes.out; omega, congrArg Value.string Hm.out, by unfold Own; simpa [texts] using HO.out, HG4.out, by rw [Hall.out, Hok.out, glueF_glueF]; trivial⟩
        case measure =>
          simp [strLen]
          omega
      · have Hh := Lib.hid (Hall.out.trans (show glueF acc _ = (([], E) : List (List UInt8) × Nat) by rw [Herr.out h0]; simp [glueF, h0]))
        clear hpo hok Hok Herr Hall hm0
        have hEE : ((E : Int) == 0) = false := by simpa using h0
        have hEN : ((E : Int) != 0) = true := by simpa using h0
        go_wp2_with fail
        refine (hx _).mono ?_
        rintro e w1 ⟨rfl, g1⟩
        go_wp2_with fail
        go_ret2
        rw [Hh.out]
        exact ⟨_, rfl, only_trans Hg.out g1, Own.nil _ _⟩
    · have hd : s.data.toList.drop k = [] := List.drop_of_length_le (by rw [Hlen.out]; omega)
      rw [hd, framesR_nil] at Hall
      have Hh := Lib.hid (Hall.out.trans (show glueF acc ([], 0) = (acc, 0) by simp [glueF]))
      have hz : ¬ 0 < (s.extract k s.size).size := by omega
      clear hd hx hm0 hes hes3
      generalize s.extract k s.size = T at *
      go_wp2_with fail
      go_ret2
      rw [Hh.out]
      exact ⟨_, rfl, Hg.out, Ho.out⟩

end Go.Proofs.Ytkggjokpbopjdaa.fm
