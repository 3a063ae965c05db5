/-
  VarintBack: what is written is read, and the other way round.
-/
import Derived.Test.YtjdoemciolefmaaLaw02
import Derived.Deep.RegionHeld3
namespace Go.Proofs.Ytjdoemciolefmaa.law02
open Go.RowKit Go.Proofs.Ytjdoemciolefmaa.cur Go.Proofs.Ytjdoemciolefmaa.vi
set_option linter.unusedVariables false

set_option maxHeartbeats 1000000 in
set_option maxRecDepth 100000 in
theorem back_long (n : Int) (s : ByteArray) (hs : s.size ≤ maxLen) (hl : 2000 < s.size) (c : Int) (W : World) :
    Calls Try.prog 6 #[.int .u64 n, .string s, .int .u8 c] W fun e w' => e = .returned (.bool true) ∧ W.grownBy w' none := by
  unfold maxLen at hs
  go_enter Try.func6, Try.ntmps6
  go_wp2_with (go_at_call 17; refine (awake_any _).mono ?_; rintro e w0 ⟨rfl, g0⟩)
  go_ret
  exact ⟨rfl, g0⟩

theorem encB_list (n : Nat) : (encB n).data.toList = enc n := by simp [encB]

theorem encB_of {s : ByteArray} (h : (getR s.data.toList).2.2 = 0) : encB (getR s.data.toList).1 = s.extract 0 (getR s.data.toList).2.1 := by
  have hb := getR_bounds s.data.toList
  have e := enc_getR h
  unfold encB
  rw [e]
  apply ByteArray.ext
  simp
  apply Array.ext'
  simp

set_option maxHeartbeats 2000000 in
set_option maxRecDepth 100000 in
theorem back_main (n : Nat) (hn : n < 18446744073709551616) (s : ByteArray) (hs : s.size ≤ 2000) (c : Nat) (hc : c < 256) (W : World) :
    Calls Try.prog 6 #[.int .u64 n, .string s, .int .u8 c] W fun e w' => e = .returned (.bool true) ∧ W.grownBy w' none := by
  have hel : (encB n).size = (enc n).length := by simp [encB, ByteArray.size]
  have h10 : (encB n).size ≤ 10 := by rw [hel]; exact enc_len_ten hn
  have hpos : 0 < (encB n).size := by rw [hel]; exact enc_len_pos n
  have hmod : c % (encB n).size < (encB n).size := Nat.mod_lt _ hpos
  have hp := fun w => put_any n hn w
  have hg1 := fun w => get_any (encB n ++ s) (by unfold maxLen; simp; omega) w
  have hg2 := fun w => get_any ((encB n).extract 0 (c % (encB n).size)) (by unfold maxLen; simp; omega) w
  have hg3 := fun w => get_any s (by unfold maxLen; omega) w
  have e1 : getR (encB n ++ s).data.toList = (n, (encB n).size, 0) := by
    rw [hel, ← getR_enc hn s.data.toList]
    simp [encB]
  have e2 : getR ((encB n).extract 0 (c % (encB n).size)).data.toList = (0, 0, 1) := by
    rw [← getR_cut hn (c % (encB n).size) (by rw [← hel]; exact hmod)]
    congr 1
    rw [← encB_list n]
    simp
  rw [e1] at hg1
  rw [e2] at hg2
  have hb := getR_bounds s.data.toList
  have he := @getR_err s.data.toList
  have hm := @encB_of s
  rw [show s.data.toList.length = s.size by simp] at hb
  clear e1 e2 hel
  unfold getV at hg1 hg2 hg3
  generalize encB n = en at *
  generalize getR s.data.toList = r at *
  obtain ⟨x, m, E⟩ := r
  simp only at hg1 hg2 hg3 hb he hm
  obtain ⟨hx, hml, hm10, hE, -⟩ := hb
  have hp2 := fun w => put_any x hx w
  have Hm := Lib.hid hm
  have He := Lib.hid he
  clear hm he
  by_cases h0 : E = 0
  · subst h0
    have Hm1 := Lib.hid (Hm.out rfl)
    clear Hm
    go_enter Try.func6, Try.ntmps6
    go_wp2_with (go_at_call 17; refine (awake_any _).mono ?_; rintro e w0 ⟨rfl, g0⟩)
    refine (hp _).mono ?_
    rintro e w1 ⟨rfl, g1⟩
    go_wp2_with fail
    refine (hg1 _).mono ?_
    rintro e w' ⟨rfl, rfl⟩
    go_wp2_with fail
    refine (hg2 _).mono ?_
    rintro e w' ⟨rfl, rfl⟩
    go_wp2_with (go_at_call 18; refine (hg3 _).mono ?_; rintro e w' ⟨rfl, rfl⟩)
    have Gw := only_trans g0 g1
    have hen := Hm1.out
    have hex : (encB x).toList = (s.extract 0 m).toList := congrArg ByteArray.toList hen
    clear g0 g1 Hm1 He hen
    refine wp_region_gw W none (by kernel_rfl) (by kernel_rfl) Gw ?_
    clear Gw
    repeat (go_big_quiet_step ((go_at_call 22; exact calls_gw (hp2 _))))
    refine wpQuiet_nil ?_
    rintro _ ⟨⟨w', hw'⟩, rfl⟩
    go_wp2_with fail
    go_ret
    exact ⟨rfl, hw'⟩
  · obtain ⟨rfl, rfl⟩ := He.out h0
    have hEE : ((E : Int) == 0) = false := by simpa using h0
    have hEN : ((E : Int) != 0) = true := by simpa using h0
    go_enter Try.func6, Try.ntmps6
    go_wp2_with (go_at_call 17; refine (awake_any _).mono ?_; rintro e w0 ⟨rfl, g0⟩)
    refine (hp _).mono ?_
    rintro e w1 ⟨rfl, g1⟩
    go_wp2_with fail
    refine (hg1 _).mono ?_
    rintro e w' ⟨rfl, rfl⟩
    go_wp2_with fail
    refine (hg2 _).mono ?_
    rintro e w' ⟨rfl, rfl⟩
    go_wp2_with (go_at_call 18; refine (hg3 _).mono ?_; rintro e w' ⟨rfl, rfl⟩)
    have Gw := only_trans g0 g1
    clear g0 g1 Hm He
    go_quiet (fail)
    go_wp2_with fail
    go_ret
    exact ⟨rfl, only_drewN Gw _⟩

theorem back_any (W : World) (a : Int) (wa : (Lit.int .u64 a).wf = true) (s : ByteArray) (hs : s.size ≤ maxLen) (c : Int) (wc : (Lit.int .u8 c).wf = true) :
    Calls Try.prog 6 #[.int .u64 a, .string s, .int .u8 c] W fun e w' => e = .returned (.bool true) ∧ W.grownBy w' none := by
  have hx : 0 ≤ a ∧ a ≤ 18446744073709551615 := by simpa [Lit.wf, IntKind.min, IntKind.max, IntKind.signed, IntKind.bits] using wa
  have hc : 0 ≤ c ∧ c ≤ 255 := by simpa [Lit.wf, IntKind.min, IntKind.max, IntKind.signed, IntKind.bits] using wc
  by_cases hl : 2000 < s.size
  · exact back_long a s hs hl c W
  · have := back_main a.toNat (by omega) s (by omega) c.toNat (by omega) W
    rwa [show ((a.toNat : Nat) : Int) = a by omega, show ((c.toNat : Nat) : Int) = c by omega] at this

end Go.Proofs.Ytjdoemciolefmaa.law02
