/-
  The document's UTF-8: Good, Check, Count, Trim.
-/
import Derived.Test.YtbelpcniogcfoaaDoorUref
import Derived.Test.YtbelpcniogcfoaaDoorVrall
namespace Go.Proofs.YtbelpcniogcfoaaDoor.um
open Go.RowKit Go.Proofs.YtbelpcniogcfoaaDoor.cur Go.Proofs.YtbelpcniogcfoaaDoor.vi
set_option linter.unusedVariables false
set_option linter.unusedSimpArgs false

set_option maxHeartbeats 2000000 in
set_option maxRecDepth 100000 in
theorem rgood_any (s : ByteArray) (hs : s.size ≤ 1000000) (w : World) :
    Calls Tryd.prog 9 #[.string s] w fun e w' => e = .returned (.bool (goodR s.data.toList)) ∧ w = w' := by
  have Hlen := Lib.hid (show s.data.toList.length = s.size by simp)
  go_enter Tryd.func9, Tryd.ntmps9
  go_wp2_with fail
  go_loopw [0] (fun t wr => ∃ k : Nat, k ≤ s.size ∧ t = .string (s.extract k s.size) ∧ goodR s.data.toList = goodR (s.data.toList.drop k) ∧ w = wr) (fun t _ => strLen t)
  case atStart => exact ⟨0, Nat.zero_le _, congrArg Value.string (extract_all s).symm, rfl, rfl⟩
  case round =>
    obtain ⟨k, hk, rfl, hall, rfl⟩ := hrel
    have Hall := Lib.hid hall
    clear hall
    have hes : (s.extract k s.size).size = s.size - k := by simp
    have hx := rfirst_any (s.extract k s.size) (by omega) w
    rw [bytes_drop] at hx
    have hm0 := fun m h => extract_drop s k m hk h
    by_cases hnil : s.data.toList.drop k = []
    · have hz : (s.extract k s.size).size = 0 := by rw [hes, ← Hlen.out]; have := congrArg List.length hnil; simpa using this
      have Hh := Lib.hid (Hall.out.trans (by rw [hnil, goodR_nil]))
      clear hx hm0
      go_wp2_with fail
      go_ret
      exact ⟨ret1 (congrArg Value.bool Hh.out.symm), rfl⟩
    · have hz : 0 < (s.extract k s.size).size := by
        rw [hes]
        have h1 : 0 < (s.data.toList.drop k).length := List.length_pos_iff.2 hnil
        rw [List.length_drop, Hlen.out] at h1
        exact h1
      have Hstep := Lib.hid (@goodR_step (s.data.toList.drop k) hnil)
      have Hbad := Lib.hid (@goodR_bad (s.data.toList.drop k) hnil)
      have Hf := Lib.hid (firstR_facts (s.data.toList.drop k))
      rw [List.drop_drop] at Hstep
      have hdl : (s.data.toList.drop k).length = s.size - k := by simp
      rw [hdl] at Hf
      clear hdl
      generalize firstR (s.data.toList.drop k) = m at *
      have Hes := Lib.hid hes
      clear hes
      generalize hT : s.extract k s.size = T at *
      have HT := Lib.hid hT
      clear hT
      by_cases h0 : m = 0
      · subst h0
        have Hh := Lib.hid (Hall.out.trans (Hbad.out rfl))
        clear hm0
        go_wp2_with fail
        refine hx.mono ?_
        rintro e w1 ⟨rfl, rfl⟩
        go_wp2_with fail
        go_ret
        exact ⟨ret1 (congrArg Value.bool Hh.out.symm), rfl⟩
      · obtain ⟨hle, hle4, -, -⟩ := Hf.out h0
        have Hh := Lib.hid (Hall.out.trans (Hstep.out h0))
        have Hm := Lib.hid (hm0 m hle)
        clear hm0
        have hTm : m ≤ T.size := by rw [Hes.out]; exact hle
        have hne : ((m : Int) == 0) = false := by simp; omega
        go_wp2_with fail
        refine hx.mono ?_
        rintro e w1 ⟨rfl, rfl⟩
        go_wp2_with fail
        go_roundw
        case rel => exact ⟨k + m, by omega, congrArg Value.string Hm.out, Hh.out, by first | rfl | trivial⟩
        case measure =>
          simp [strLen]
          omega

def checkN (s : ByteArray) (least most : Int) : Nat :=
  if (s.size : Int) < least ∨ most < (s.size : Int) then 13 else if goodR s.data.toList = true then 0 else 11

theorem rcheck_any (s : ByteArray) (hs : s.size ≤ 1000000) (least most : Int) (w : World) :
    Calls Tryd.prog 15 #[.string s, .int .i64 least, .int .i64 most] w fun e w' => e = .returned (.int .i64 (checkN s least most : Nat)) ∧ w = w' := by
  have hx := rgood_any s hs w
  by_cases h1 : (s.size : Int) < least
  · have HC := Lib.hid (show checkN s least most = 13 from if_pos (.inl h1))
    go_enter Tryd.func15, Tryd.ntmps15
    go_wp2_with fail
    go_ret
    exact ⟨ret1 (congrArg (fun n : Nat => Value.int .i64 (n : Int)) HC.out.symm), rfl⟩
  · by_cases h2 : most < (s.size : Int)
    · have HC := Lib.hid (show checkN s least most = 13 from if_pos (.inr h2))
      go_enter Tryd.func15, Tryd.ntmps15
      go_wp2_with fail
      go_ret
      exact ⟨ret1 (congrArg (fun n : Nat => Value.int .i64 (n : Int)) HC.out.symm), rfl⟩
    · have HC := Lib.hid (show checkN s least most = if goodR s.data.toList = true then 0 else 11 from if_neg (by omega))
      rcases Bool.eq_false_or_eq_true (goodR s.data.toList) with hg | hg
      · rw [hg] at hx HC
        clear hg
        go_enter Tryd.func15, Tryd.ntmps15
        go_wp2_with fail
        refine hx.mono ?_
        rintro e w1 ⟨rfl, rfl⟩
        go_wp2_with fail
        go_ret
        exact ⟨ret1 (congrArg (fun n : Nat => Value.int .i64 (n : Int)) HC.out.symm), rfl⟩
      · rw [hg] at hx HC
        clear hg
        go_enter Tryd.func15, Tryd.ntmps15
        go_wp2_with fail
        refine hx.mono ?_
        rintro e w1 ⟨rfl, rfl⟩
        go_wp2_with fail
        go_ret
        exact ⟨ret1 (congrArg (fun n : Nat => Value.int .i64 (n : Int)) HC.out.symm), rfl⟩

set_option maxHeartbeats 2000000 in
set_option maxRecDepth 100000 in
theorem rcount_any (s : ByteArray) (hs : s.size ≤ 1000000) (w : World) :
    Calls Tryd.prog 17 #[.string s] w fun e w' => e = .returned (.int .i64 (countR s.data.toList : Nat)) ∧ w = w' := by
  have Hlen := Lib.hid (show s.data.toList.length = s.size by simp)
  go_enter Tryd.func17, Tryd.ntmps17
  go_wp2_with fail
  go_loopw [0, 3] (fun t c wr => ∃ k n : Nat, k ≤ s.size ∧ n ≤ k ∧ t = .string (s.extract k s.size) ∧ c = .int .i64 n ∧ countR s.data.toList = n + countR (s.data.toList.drop k) ∧ w = wr) (fun t _ _ => strLen t)
  case atStart => exact ⟨0, 0, Nat.zero_le _, Nat.zero_le _, congrArg Value.string (extract_all s).symm, rfl, by simp, rfl⟩
  case round =>
    obtain ⟨k, n, hk, hnk, rfl, rfl, hall, rfl⟩ := hrel
    have Hall := Lib.hid hall
    clear hall
    have hes : (s.extract k s.size).size = s.size - k := by simp
    have hx := rfirst_any (s.extract k s.size) (by omega) w
    rw [bytes_drop] at hx
    have hm0 := fun m h => extract_drop s k m hk h
    by_cases hnil : s.data.toList.drop k = []
    · have hz : (s.extract k s.size).size = 0 := by rw [hes, ← Hlen.out]; have := congrArg List.length hnil; simpa using this
      have Hh := Lib.hid (Hall.out.trans (by rw [hnil, countR_nil, Nat.add_zero]))
      clear hx hm0
      go_wp2_with fail
      go_ret
      exact ⟨ret1 (congrArg (fun n : Nat => Value.int .i64 (n : Int)) Hh.out.symm), rfl⟩
    · have hz : 0 < (s.extract k s.size).size := by
        rw [hes]
        have h1 : 0 < (s.data.toList.drop k).length := List.length_pos_iff.2 hnil
        rw [List.length_drop, Hlen.out] at h1
        exact h1
      have Hstep := Lib.hid (@countR_step (s.data.toList.drop k) hnil)
      have Hf := Lib.hid (firstR_facts (s.data.toList.drop k))
      rw [List.drop_drop] at Hstep
      have hdl : (s.data.toList.drop k).length = s.size - k := by simp
      rw [hdl] at Hf
      clear hdl
      generalize firstR (s.data.toList.drop k) = m at *
      obtain ⟨m', hm'⟩ : ∃ m' : Nat, max 1 m = m' := ⟨_, rfl⟩
      have hmi : max (1 : Int) (m : Int) = (m' : Int) := by omega
      rw [hm'] at Hstep
      have hmle : m ≤ s.size - k := by
        by_cases h0 : m = 0
        · omega
        · exact (Hf.out h0).1
      have hm1 : 1 ≤ m' ∧ m' ≤ s.size - k := by omega
      obtain ⟨hm1, hm2⟩ := hm1
      have Hh := Lib.hid (Hall.out.trans (by rw [Hstep.out, ← Nat.add_assoc]))
      have Hm := Lib.hid (hm0 m' hm2)
      clear hm0 Hf
      have hTm : m' ≤ (s.extract k s.size).size := by rw [hes]; exact hm2
      have Hes := Lib.hid hes
      clear hes
      generalize hT : s.extract k s.size = T at *
      have HT := Lib.hid hT
      clear hT
      clear hm'
      go_wp2_with fail
      refine hx.mono ?_
      rintro e w1 ⟨rfl, rfl⟩
      go_wp2_with fail
      go_roundw
      case rel => exact ⟨k + m', n + 1, by omega, by omega, congrArg Value.string Hm.out, by go_num, Hh.out, by first | rfl | trivial⟩
      case measure =>
        simp [strLen]
        omega

set_option maxHeartbeats 2000000 in
set_option maxRecDepth 100000 in
theorem rtrim_any (s : ByteArray) (hs : s.size ≤ 1000000) (most : Int) (hm1 : -9223372036854775808 ≤ most) (hm2 : most ≤ 9223372036854775807) (hgood : goodR s.data.toList = true) (w : World) :
    Calls Tryd.prog 12 #[.string s, .int .i64 most] w fun e w' => e = .returned (.string (s.extract 0 (trimN s.data.toList most))) ∧ w = w' := by
  have Hlen := Lib.hid (show s.data.toList.length = s.size by simp)
  go_enter Tryd.func12, Tryd.ntmps12
  go_wp2_with fail
  go_loopw [5] (fun c wr => ∃ k : Nat, k ≤ s.size ∧ c = .int .i64 k ∧ goodR (s.data.toList.drop k) = true ∧ trimN s.data.toList most = k + trimN (s.data.toList.drop k) (most - k) ∧ w = wr) (fun c _ => s.size - (intOf c).toNat)
  case atStart => exact ⟨0, Nat.zero_le _, rfl, hgood, by simp, rfl⟩
  case round =>
    obtain ⟨k, hk, rfl, hg, hall, rfl⟩ := hrel
    have Hall := Lib.hid hall
    have Hgood := Lib.hid hgood
    clear hall hgood
    have hes : (s.extract k s.size).size = s.size - k := by simp
    have hx := rfirst_any (s.extract k s.size) (by omega) w
    rw [bytes_drop] at hx
    have hdl : (s.data.toList.drop k).length = s.size - k := by simp
    by_cases hz : k = s.size
    · subst hz
      have hnil : s.data.toList.drop s.size = [] := List.length_eq_zero_iff.1 (by rw [hdl]; omega)
      have Hh := Lib.hid (Hall.out.trans (by rw [hnil, trimN, dif_pos rfl, Nat.add_zero]))
      clear hx hnil hdl hes
      go_wp2_with fail
      go_ret
      exact ⟨ret1 (congrArg Value.string (by rw [Hh.out, extract_all])), rfl⟩
    · have hnil : s.data.toList.drop k ≠ [] := fun h => by rw [h] at hdl; simp at hdl; omega
      have hlt : k < s.size := by omega
      have h0 := first_pos hnil hg
      have Hstep := Lib.hid (goodR_step hnil h0)
      have Hf := Lib.hid (firstR_facts (s.data.toList.drop k) h0)
      rw [List.drop_drop, hg] at Hstep
      rw [hdl] at Hf
      clear hdl hg
      have hTr : (trimN (s.data.toList.drop k) (most - k) = if ((firstR (s.data.toList.drop k) : Nat) : Int) ≤ most - k then firstR (s.data.toList.drop k) + trimN (s.data.toList.drop (k + firstR (s.data.toList.drop k))) (most - (k + firstR (s.data.toList.drop k) : Nat)) else 0) := by
        rw [trimN, dif_neg hnil]
        by_cases hc : ((firstR (s.data.toList.drop k) : Nat) : Int) ≤ most - k
        · rw [dif_pos ⟨hc, h0⟩, if_pos hc, List.drop_drop]
          congr 2
          omega
        · rw [dif_neg (fun h => hc h.1), if_neg hc]
      have HT := Lib.hid hTr
      clear hTr
      generalize firstR (s.data.toList.drop k) = m at *
      obtain ⟨hle, hle4, -, -⟩ := Hf.out
      have Hes := Lib.hid hes
      clear hes
      by_cases hc : (k : Int) + m ≤ most
      · have Hh := Lib.hid (Hall.out.trans (by rw [HT.out, if_pos (by omega), ← Nat.add_assoc]))
        go_wp2_with fail
        refine hx.mono ?_
        rintro e w1 ⟨rfl, rfl⟩
        go_wp2_with fail
        refine hx.mono ?_
        rintro e w1 ⟨rfl, rfl⟩
        go_wp2_with fail
        go_roundw
        case rel => exact ⟨k + m, by omega, by go_num, Hstep.out.symm, Hh.out, by first | rfl | trivial⟩
        case measure =>
          simp [intOf]
          omega
      · have Hh := Lib.hid (Hall.out.trans (by rw [HT.out, if_neg (by omega), Nat.add_zero]))
        go_wp2_with fail
        refine hx.mono ?_
        rintro e w1 ⟨rfl, rfl⟩
        go_wp2_with fail
        go_ret
        exact ⟨ret1 (congrArg Value.string (by rw [Hh.out])), rfl⟩

end Go.Proofs.YtbelpcniogcfoaaDoor.um
