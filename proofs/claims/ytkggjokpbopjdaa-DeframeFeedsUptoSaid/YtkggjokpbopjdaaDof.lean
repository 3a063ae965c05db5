/-
  The document's stream: Of.
-/
import Derived.Test.YtkggjokpbopjdaaFref
import Derived.Test.YtkggjokpbopjdaaAppT
namespace Go.Proofs.Ytkggjokpbopjdaa.fm
open Go.RowKit Go.Proofs.Ytkggjokpbopjdaa.vi Go.Proofs.Ytkggjokpbopjdaa.cur
set_option linter.unusedVariables false
set_option linter.unusedSimpArgs false

set_option maxHeartbeats 2000000 in
set_option maxRecDepth 100000 in
theorem rof_any (s : ByteArray) (hs : s.size ≤ 500000) (w : World) :
    Calls Try.prog 24 #[.string s] w fun e w' =>
      ∃ v, e = .returned (.tuple #[v, .int .i64 ((ofR s.data.toList).2.1 : Nat), .int .i64 ((ofR s.data.toList).2.2 : Nat)]) ∧ w.grownBy w' none ∧ Own w.heap.size w' v (ofR s.data.toList).1 := by
  have Hlen := Lib.hid (show s.data.toList.length = s.size by simp)
  go_enter Try.func24, Try.ntmps24
  go_wp2_with fail
  go_loopw [0, 5] (fun t v wr => ∃ (k : Nat) (acc : List (List UInt8)), acc.length ≤ k ∧ k ≤ s.size ∧ t = .string (s.extract k s.size) ∧ Own w.heap.size wr v acc ∧ w.grownBy wr none ∧ ofR s.data.toList = (acc ++ (ofR (s.data.toList.drop k)).1, (ofR (s.data.toList.drop k)).2)) (fun t _ _ => strLen t)
  case atStart => exact ⟨0, [], Nat.le_refl _, Nat.zero_le _, congrArg Value.string (extract_all s).symm, Own.nil _ _, only_refl _ _, by rw [List.drop_zero, List.nil_append]⟩
  case round =>
    obtain ⟨k, acc, hacc, hk, rfl, hown, hg, hall⟩ := hrel
    have Hg := Lib.hid hg
    have Ho := Lib.hid hown
    have Hall := Lib.hid hall
    have hsz := hg.size
    clear hown hg hall
    have hes : (s.extract k s.size).size = s.size - k := by simp
    have hx := fun w => rparse_any (s.extract k s.size) (by omega) w
    rw [bytes_drop] at hx
    have hm0 := fun m h => extract_drop s k m hk h
    have Hes := Lib.hid hes
    have hes3 : s.size - k = (s.extract k s.size).size := by omega
    have hdl : (s.data.toList.drop k).length = s.size - k := by simp
    have hlt := parse_lt (s.data.toList.drop k)
    have hpo := @parse_pos (s.data.toList.drop k)
    have hok := fun h => (@parse_ok (s.data.toList.drop k) h).2.2.2
    have Hok := Lib.hid (@ofR_ok (s.data.toList.drop k))
    have Hbad := Lib.hid (@ofR_bad (s.data.toList.drop k))
    have Hsh := Lib.hid (@ofR_short (s.data.toList.drop k))
    rw [List.drop_drop] at Hok
    rw [hdl, hes3] at hok Hsh
    clear hdl hes hes3
    generalize parseR (s.data.toList.drop k) = r at *
    obtain ⟨x, m, E⟩ := r
    unfold parseV at hx
    simp only at hx hlt hpo hok
    generalize hT : s.extract k s.size = T at *
    have HT := Lib.hid hT
    clear hT
    by_cases h1 : E = 1
    · subst h1
      have Hh := Lib.hid (Hall.out.trans (by rw [Hsh.out rfl]))
      clear hpo hok Hok Hbad Hsh hm0
      go_wp2_with fail
      refine (hx _).mono ?_
      rintro e w1 ⟨rfl, g1⟩
      go_wp2_with fail
      go_ret3
      rw [Hh.out]
      exact ⟨_, rfl, only_trans Hg.out g1, by rw [List.append_nil]; exact Ho.out.kept g1⟩
    · by_cases h0 : E = 0
      · subst h0
        have hmp := hpo rfl
        have hm := hok rfl
        have Hm := Lib.hid (hm0 m (by rw [Hes.out] at hm; exact hm))
        have Hok := Lib.hid (Hok.out rfl)
        clear hpo Hbad Hsh hok hm0
        go_wp2_with fail
        refine (hx _).mono ?_
        rintro e w1 ⟨rfl, g1⟩
        have Ho1 := Lib.hid (Ho.out.kept g1)
        have Hg1 := Lib.hid (only_trans Hg.out g1)
        clear g1
        have hsz1 := Hg1.out.size
        go_wp2_with (at_builtin; refine wpList_append_texts rfl (.tmp 24) (.tmp 26) rfl w.heap.size _ acc rfl (World.ownsRow.alloc Ho1.out _) w1.heap.size _ [x] rfl (Own.one w1 x) ?c1 ?c2 ?_)
        case c1 => simp; omega
        case c2 => simp; omega
        intro v' w4 hown4 hg4
        have HO := Lib.hid hown4
        have HG4 := Lib.hid (below_to_none (below_of_only (below_of_none (only_alloc Hg1.out (.cells #[.string (str x)] 9))) hg4 (by simp; omega) (fun g e => (World.ownsRow.lt Ho1.out g e).1)))
        clear hown4 hg4
        go_wp2_with fail
        go_roundw
        case rel => exact ⟨k + m, acc ++ [x], by simp; omega, by have := Hes.out; omega, congrArg Value.string Hm.out, HO.out, HG4.out, by rw [Hall.out, Hok.out]; first | (simp; done) | trivial | (simp; trivial) | skip⟩
        case measure =>
          simp [strLen]
          omega
      · have Hh := Lib.hid (Hall.out.trans (by rw [Hbad.out h1 h0]))
        have hE1 : ((E : Int) == 1) = false := by simp; omega
        have hE0 : ((E : Int) != 0) = true := by simp; omega
        clear hpo hok Hok Hbad Hsh hm0
        go_wp2_with fail
        refine (hx _).mono ?_
        rintro e w1 ⟨rfl, g1⟩
        go_wp2_with fail
        go_ret3
        rw [Hh.out]
        exact ⟨_, rfl, only_trans Hg.out g1, by rw [List.append_nil]; exact Ho.out.kept g1⟩

end Go.Proofs.Ytkggjokpbopjdaa.fm
