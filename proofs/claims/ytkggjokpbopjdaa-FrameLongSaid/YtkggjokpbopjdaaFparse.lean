/-
  The contract of frame.Parse, and of frame.All.
-/
import Derived.Test.YtkggjokpbopjdaaFrame
namespace Go.Proofs.Ytkggjokpbopjdaa.fm
open Go.RowKit Go.Proofs.Ytkggjokpbopjdaa.vi Go.Proofs.Ytkggjokpbopjdaa.crcm Go.Proofs.Ytkggjokpbopjdaa.cur
set_option linter.unusedVariables false
set_option linter.unusedSimpArgs false

/-- The mark's bytes, as the walk spells them. -/
theorem mk_ne (s : ByteArray) (j : Nat) (h : j < s.size) (hj : j < (⟨#[81, 70]⟩ : ByteArray).size) (hb : s.data.toList.getD j 0 ≠ (⟨#[81, 70]⟩ : ByteArray)[j]) : ((s[j].toNat : Int) != ((⟨#[81, 70]⟩ : ByteArray)[j].toNat : Int)) = true := at_ne s j h _ _ rfl hb
theorem mk_eq (s : ByteArray) (j : Nat) (h : j < s.size) (hj : j < (⟨#[81, 70]⟩ : ByteArray).size) (hb : s.data.toList.getD j 0 = (⟨#[81, 70]⟩ : ByteArray)[j]) : ((s[j].toNat : Int) != ((⟨#[81, 70]⟩ : ByteArray)[j].toNat : Int)) = false := at_eq s j h _ _ rfl hb

/-- What checkMark answers. -/
def markN (L : List UInt8) : Nat := if (0 < L.length ∧ L.getD 0 0 ≠ 81) ∨ (1 < L.length ∧ L.getD 1 0 ≠ 70) then 5 else if L.length < 2 then 1 else 0

set_option maxHeartbeats 4000000 in
set_option maxRecDepth 100000 in
theorem mark_any (s : ByteArray) (hs : s.size ≤ 1000000) (w : World) :
    Calls Try.prog 34 #[.string s] w fun e w' => e = .returned (.int .i64 (markN s.data.toList : Nat)) ∧ w.grownBy w' none := by
  have hlen : s.data.toList.length = s.size := by simp
  have hM : markN s.data.toList = if (0 < s.size ∧ s.data.toList.getD 0 0 ≠ 81) ∨ (1 < s.size ∧ s.data.toList.getD 1 0 ≠ 70) then 5 else if s.size < 2 then 1 else 0 := by unfold markN; rw [hlen]
  have HM := Lib.hid hM
  clear hM
  by_cases h0 : 0 < s.size
  · by_cases h2 : s.data.toList.getD 0 0 = 81
    · by_cases h1 : 1 < s.size
      · by_cases h3 : s.data.toList.getD 1 0 = 70
        · have e0 := mk_eq s 0 h0 (by decide) h2
          have e1 := mk_eq s 1 h1 (by decide) h3
          have h1i : (1 : Int) < (s.size : Int) := by omega
          have hm : min (s.size : Int) 2 = 2 := by omega
          rw [HM.out, if_neg (by rintro (h | h); exact h.2 h2; exact h.2 h3), if_neg (by omega)]
          clear h2 h3
          go_enter Try.func34, Try.ntmps34
          go_wp2_with fail
          refine wp_loop_rounds 3 ?_
          rw [rounds_succ]
          go_wp2_with fail
          go_quiet (fail)
          go_wp2_with fail
          rw [rounds_succ]
          go_wp2_with fail
          go_quiet (fail)
          go_wp2_with fail
          rw [rounds_succ]
          go_wp2_with fail
          go_ret
          exact ⟨rfl, by first | exact only_drewN (only_refl _ _) _ | exact only_drewN (only_drewN (only_refl _ _) _) _⟩
        · have e0 := mk_eq s 0 h0 (by decide) h2
          have e1 := mk_ne s 1 h1 (by decide) h3
          have h1i : (1 : Int) < (s.size : Int) := by omega
          have hm : min (s.size : Int) 2 = 2 := by omega
          rw [HM.out, if_pos (.inr ⟨h1, h3⟩)]
          clear h2 h3
          go_enter Try.func34, Try.ntmps34
          go_wp2_with fail
          refine wp_loop_rounds 2 ?_
          rw [rounds_succ]
          go_wp2_with fail
          go_quiet (fail)
          go_wp2_with fail
          rw [rounds_succ]
          go_wp2_with fail
          go_quiet (fail)
          go_wp2_with fail
          go_ret
          exact ⟨rfl, by first | exact only_drewN (only_refl _ _) _ | exact only_drewN (only_drewN (only_refl _ _) _) _⟩
      · have e0 := mk_eq s 0 h0 (by decide) h2
        have hm : min (s.size : Int) 2 = 1 := by omega
        rw [HM.out, if_neg (by rintro (h | h); exact h.2 h2; exact h1 h.1), if_pos (by omega)]
        clear h2
        go_enter Try.func34, Try.ntmps34
        go_wp2_with fail
        refine wp_loop_rounds 2 ?_
        rw [rounds_succ]
        go_wp2_with fail
        go_quiet (fail)
        go_wp2_with fail
        rw [rounds_succ]
        go_wp2_with fail
        go_ret
        exact ⟨rfl, by first | exact only_drewN (only_refl _ _) _ | exact only_drewN (only_drewN (only_refl _ _) _) _⟩
    · have e0 := mk_ne s 0 h0 (by decide) h2
      obtain ⟨m, hm, hm1⟩ : ∃ m : Nat, min (s.size : Int) 2 = (m : Int) ∧ 0 < m := ⟨min s.size 2, by omega, by omega⟩
      rw [HM.out, if_pos (.inl ⟨h0, h2⟩)]
      clear h2
      go_enter Try.func34, Try.ntmps34
      go_wp2_with fail
      refine wp_loop_rounds 1 ?_
      rw [rounds_succ]
      go_wp2_with fail
      go_quiet (fail)
      go_wp2_with fail
      go_ret
      exact ⟨rfl, by first | exact only_drewN (only_refl _ _) _ | exact only_drewN (only_drewN (only_refl _ _) _) _⟩
  · have hm : min (s.size : Int) 2 = 0 := by omega
    rw [HM.out, if_neg (by omega), if_pos (by omega)]
    go_enter Try.func34, Try.ntmps34
    go_wp2_with fail
    refine wp_loop_rounds 1 ?_
    rw [rounds_succ]
    go_wp2_with fail
    go_ret
    exact ⟨rfl, only_refl _ _⟩

theorem clone_any (s : ByteArray) (hs : s.size ≤ 1000000) (w : World) :
    Calls Try.prog 37 #[.string s] w fun e w' => e = .returned (.string s) ∧ w.grownBy w' none := by
  go_enter Try.func37, Try.ntmps37
  go_wp2_with fail
  refine (Try.stringslite_Clone s _ (by omega)).mono ?_
  rintro e w1 ⟨rfl, g⟩
  go_wp2_with fail
  go_ret
  exact ⟨rfl, below_to_none g⟩

end Go.Proofs.Ytkggjokpbopjdaa.fm
