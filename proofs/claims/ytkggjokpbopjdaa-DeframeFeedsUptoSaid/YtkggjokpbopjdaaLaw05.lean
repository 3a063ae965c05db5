/-
  FrameReads: for any bytes, any text and any number.
-/
import Derived.Test.YtkggjokpbopjdaaFparse
import Derived.Test.YtkggjokpbopjdaaLaw04
namespace Go.Proofs.Ytkggjokpbopjdaa.law05
open Go.RowKit Go.Proofs.Ytkggjokpbopjdaa.fm Go.Proofs.Ytkggjokpbopjdaa.crcm Go.Proofs.Ytkggjokpbopjdaa.vi
set_option linter.unusedVariables false
set_option linter.unusedSimpArgs false

theorem Awake04_any (w : World) :
    Calls Try.prog 29 #[] w fun e w' => e = .returned (.bool true) ∧ w.grownBy w' none := by
  go_enter Try.func29, Try.ntmps29
  go_wp2_with (go_at_call 52; refine (law04.awake_any _).mono ?_; rintro e w' ⟨rfl, g⟩)
  go_ret
  exact ⟨rfl, g⟩

theorem fr_nil : str (fr []) = ⟨#[81, 70, 0, 0, 0, 0, 0]⟩ := by
  have h1 : enc 0 = [0] := by rw [enc_small (by decide)]; rfl
  have h2 : sumN [] = 0 := by simp [sumN, fold]
  unfold fr hd
  rw [List.length_nil, h1, h2]
  rfl

theorem awake_any (w : World) :
    Calls Try.prog 9 #[] w fun e w' => e = .returned (.bool true) ∧ w.grownBy w' none := by
  have h1 := fun w => wrap_ok ⟨#[]⟩ (by decide) w
  rw [show str (fr (⟨#[]⟩ : ByteArray).data.toList) = ⟨#[81, 70, 0, 0, 0, 0, 0]⟩ from fr_nil] at h1
  go_enter Try.func9, Try.ntmps9
  go_wp2_with fail
  refine (h1 _).mono ?_
  rintro e w1 ⟨rfl, g1⟩
  go_wp2_with fail
  refine (Awake04_any _).mono ?_
  rintro e w2 ⟨rfl, g2⟩
  go_wp2_with fail
  go_ret
  exact ⟨rfl, only_trans g1 g2⟩

set_option maxHeartbeats 1000000 in
set_option maxRecDepth 100000 in
theorem reads_long (p s : ByteArray) (hp : p.size ≤ maxLen) (hs : s.size ≤ maxLen) (hl : 4000 < p.size ∨ 4000 < s.size) (n : Int) (W : World) :
    Calls Try.prog 3 #[.string p, .string s, .int .i64 n] W fun e w' => e = .returned (.bool true) ∧ W.grownBy w' none := by
  unfold maxLen at hs hp
  rcases (show 4000 < p.size ∨ (¬ 4000 < p.size ∧ 4000 < s.size) by omega) with h | ⟨h, h'⟩ <;> clear hl
  all_goals
    go_enter Try.func3, Try.ntmps3
    go_wp2_with fail
    refine (awake_any _).mono ?_
    rintro e w0 ⟨rfl, g0⟩
    go_wp2_with fail
    go_ret
    exact ⟨rfl, g0⟩

set_option maxHeartbeats 4000000 in
set_option maxRecDepth 100000 in
theorem reads_main (p s : ByteArray) (hp : p.size ≤ 4000) (hs : s.size ≤ 4000) (n : Int) (hn1 : -9223372036854775808 ≤ n) (hn2 : n ≤ 9223372036854775807) (W : World) :
    Calls Try.prog 3 #[.string p, .string s, .int .i64 n] W fun e w' => e = .returned (.bool true) ∧ W.grownBy w' none := by
  have h1 := fun w => wrap_ok p (by omega) w
  have h2 := fun w => rwrap_ok p (by omega) w
  have h3 := fun w => parse_any s (by omega) w
  have h4 := fun w => rparse_any s (by omega) w
  have h5 := fun w => all_any s (by omega) w
  have h6 := fun w => rall_any s (by omega) w
  have h7 := fun w => fsize_any n w
  have h8 := fun w => fsize_any (p.size : Int) w
  have hF : ((str (fr p.data.toList)).size : Int) = ((sizeN (p.size : Int) : Nat) : Int) := by
    rw [str_size, fr_len, sizeN, if_pos (by omega)]
    have e : p.data.toList.length = p.size := by simp
    rw [e, Int.toNat_natCast]
  have hlt := parse_lt s.data.toList
  have hgd := framesR_good _ s.data.toList (Nat.le_refl _)
  have hll : s.data.toList.length = s.size := by simp
  rw [hll] at hgd
  have hml : (parseR s.data.toList).2.1 ≤ s.size := by
    by_cases h : (parseR s.data.toList).2.2 = 0
    · have := (parse_ok h).2.2.2; omega
    · have := (parse_err h).2; omega
  have hFs : (str (fr p.data.toList)).size ≤ 5000 := by
    rw [str_size, fr_len]
    have e : p.data.toList.length = p.size := by simp
    have := enc_len_ten (n := p.data.toList.length) (by omega)
    omega
  unfold parseV at h3 h4
  generalize str (fr p.data.toList) = F at *
  generalize parseR s.data.toList = r at *
  obtain ⟨x, m, E⟩ := r
  generalize framesR s.data.toList = q at *
  obtain ⟨l, G⟩ := q
  simp only at h3 h4 hlt hgd hml
  generalize str x = X at *
  clear hll
  have HF := Lib.hid hF
  clear hF
  by_cases hn : 0 ≤ n ∧ n ≤ 65536
  · obtain ⟨n, rfl⟩ := Int.eq_ofNat_of_zero_le hn.1
    have hn3 : n ≤ 65536 := by omega
    have h10 := enc_len_ten (n := n) (by omega)
    have HZ : Hid (sizeN (n : Int) = 2 + (enc n).length + n + 4) := if_pos hn
    clear hn hn1 hn2
    go_enter Try.func3, Try.ntmps3
    go_wp2_with fail
    refine (awake_any _).mono ?_
    rintro e w0 ⟨rfl, g0⟩
    go_wp2_with fail
    refine (h1 _).mono ?_
    rintro e w1 ⟨rfl, g1⟩
    go_wp2_with fail
    refine (h2 _).mono ?_
    rintro e w2 ⟨rfl, g2⟩
    go_wp2_with fail
    refine (h3 _).mono ?_
    rintro e w3 ⟨rfl, g3⟩
    go_wp2_with fail
    refine (h4 _).mono ?_
    rintro e w4 ⟨rfl, g4⟩
    go_wp2_with fail
    refine (h5 _).mono ?_
    rintro e w5 ⟨v1, rfl, g5, o5⟩
    go_wp2_with fail
    refine (h6 _).mono ?_
    rintro e w6 ⟨v2, rfl, g6, o6⟩
    have GG := Lib.hid (only_trans (only_trans (only_trans (only_trans (only_trans (only_trans g0 g1) g2) g3) g4) g5) g6)
    have hq := equal_texts (by unfold maxLen; omega) (o5.kept g6) o6
    clear g0 g1 g2 g3 g4 g5 g6 o5 o6 h1 h2 h3 h4 h5 h6 hgd
    go_wp2_with fail
    go_loop [21, 22] (fun z c => ∃ (j m : Nat), c = .int .i64 m ∧ m ≤ 65536 ∧ z = .int .i64 ((3 + n + 4 + j : Nat) : Int) ∧ (enc n).length = (enc m).length + j) (fun _ c => (intOf c).toNat)
    case atStart => exact ⟨0, n, rfl, by omega, by go_num, rfl⟩
    case round =>
      obtain ⟨j, m', rfl, hm', rfl, hj⟩ := hrel
      have hjl : j ≤ 10 := by omega
      have HJ := Lib.hid hj
      clear hj
      by_cases h : m' < 128
      · have he : (enc m').length = 1 := by rw [enc_small h]; rfl
        rw [he] at HJ
        have hz : Hid (((sizeN (n : Int) : Nat) : Int) = 3 + (n : Int) + 4 + (j : Int)) := by
          rw [HZ.out, HJ.out]
          show ((2 + (1 + j) + n + 4 : Nat) : Int) = 3 + (n : Int) + 4 + (j : Int)
          omega
        clear he
        go_wp2_with fail
        refine hq.mono ?_
        rintro e w7 ⟨rfl, g7⟩
        go_wp2_with fail
        refine (h7 _).mono ?_
        rintro e w' ⟨rfl, rfl⟩
        have hz := hz.out
        go_wp2_with fail
        refine (h8 _).mono ?_
        rintro e w' ⟨rfl, rfl⟩
        have hF := HF.out
        go_wp2_with fail
        go_ret
        exact ⟨rfl, only_trans GG.out g7⟩
      · have he : (enc m').length = (enc (m' / 128)).length + 1 := by rw [enc_big h]; rfl
        rw [he] at HJ
        clear he
        go_wp2_with fail
        go_round
        case rel => exact ⟨j + 1, m' / 128, rfl, by omega, by go_num, by rw [HJ.out]; omega⟩
        case measure => simp [intOf]; omega
  · have HZ : sizeN n = 0 := if_neg hn
    rw [HZ] at h7
    rcases (show n < 0 ∨ (0 ≤ n ∧ 65536 < n) by omega) with hn3 | ⟨hn3, hn4⟩
    all_goals
      go_enter Try.func3, Try.ntmps3
      go_wp2_with fail
      refine (awake_any _).mono ?_
      rintro e w0 ⟨rfl, g0⟩
      go_wp2_with fail
      refine (h1 _).mono ?_
      rintro e w1 ⟨rfl, g1⟩
      go_wp2_with fail
      refine (h2 _).mono ?_
      rintro e w2 ⟨rfl, g2⟩
      go_wp2_with fail
      refine (h3 _).mono ?_
      rintro e w3 ⟨rfl, g3⟩
      go_wp2_with fail
      refine (h4 _).mono ?_
      rintro e w4 ⟨rfl, g4⟩
      go_wp2_with fail
      refine (h5 _).mono ?_
      rintro e w5 ⟨v1, rfl, g5, o5⟩
      go_wp2_with fail
      refine (h6 _).mono ?_
      rintro e w6 ⟨v2, rfl, g6, o6⟩
      have GG := Lib.hid (only_trans (only_trans (only_trans (only_trans (only_trans (only_trans g0 g1) g2) g3) g4) g5) g6)
      have hq := equal_texts (by unfold maxLen; omega) (o5.kept g6) o6
      clear g0 g1 g2 g3 g4 g5 g6 o5 o6 h1 h2 h3 h4 h5 h6 hgd
      go_wp2_with fail
      refine hq.mono ?_
      rintro e w7 ⟨rfl, g7⟩
      go_wp2_with fail
      refine (h7 _).mono ?_
      rintro e w' ⟨rfl, rfl⟩
      go_wp2_with fail
      refine (h8 _).mono ?_
      rintro e w' ⟨rfl, rfl⟩
      have hF := HF.out
      go_wp2_with fail
      go_ret
      exact ⟨rfl, only_trans GG.out g7⟩

theorem reads_any (W : World) (p : ByteArray) (hp : p.size ≤ maxLen) (s : ByteArray) (hs : s.size ≤ maxLen) (n : Int) (wn : (Lit.int .i64 n).wf = true) :
    Calls Try.prog 3 #[.string p, .string s, .int .i64 n] W fun e w' => e = .returned (.bool true) ∧ W.grownBy w' none := by
  have hn : -9223372036854775808 ≤ n ∧ n ≤ 9223372036854775807 := by simpa [Lit.wf, IntKind.min, IntKind.max, IntKind.signed, IntKind.bits] using wn
  by_cases hl : 4000 < p.size ∨ 4000 < s.size
  · exact reads_long p s hp hs hl n W
  · exact reads_main p s (by omega) (by omega) n hn.1 hn.2 W

end Go.Proofs.Ytkggjokpbopjdaa.law05
