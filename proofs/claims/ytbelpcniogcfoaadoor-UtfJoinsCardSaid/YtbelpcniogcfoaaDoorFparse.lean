/-
  The contract of frame.Parse, and of frame.All.
-/
import Derived.Test.YtbelpcniogcfoaaDoorFrame
namespace Go.Proofs.YtbelpcniogcfoaaDoor.fm
open Go.RowKit Go.Proofs.YtbelpcniogcfoaaDoor.vi Go.Proofs.YtbelpcniogcfoaaDoor.crcm Go.Proofs.YtbelpcniogcfoaaDoor.cur
set_option linter.unusedVariables false
set_option linter.unusedSimpArgs false

/-- The mark's bytes, as the walk spells them. -/
theorem mk_ne (s : ByteArray) (j : Nat) (h : j < s.size) (hj : j < (⟨#[81, 70]⟩ : ByteArray).size) (hb : s.data.toList.getD j 0 ≠ (⟨#[81, 70]⟩ : ByteArray)[j]) : ((s[j].toNat : Int) != ((⟨#[81, 70]⟩ : ByteArray)[j].toNat : Int)) = true := at_ne s j h _ _ rfl hb
theorem mk_eq (s : ByteArray) (j : Nat) (h : j < s.size) (hj : j < (⟨#[81, 70]⟩ : ByteArray).size) (hb : s.data.toList.getD j 0 = (⟨#[81, 70]⟩ : ByteArray)[j]) : ((s[j].toNat : Int) != ((⟨#[81, 70]⟩ : ByteArray)[j].toNat : Int)) = false := at_eq s j h _ _ rfl hb

/-- What checkMark answers. -/
def markN (L : List UInt8) : Nat := if (0 < L.length ∧ L.getD 0 0 ≠ 81) ∨ (1 < L.length ∧ L.getD 1 0 ≠ 70) then 5 else if L.length < 2 then 1 else 0

set_option maxHeartbeats 4000000 in
set_option maxRecDepth 100000 in
theorem mark_any (s : ByteArray) (hs : s.size ≤ 1000000) (w : World) :
    Calls Tryd.prog 70 #[.string s] w fun e w' => e = .returned (.int .i64 (markN s.data.toList : Nat)) ∧ w.grownBy w' none := by
  have hlen : s.data.toList.length = s.size := by simp
  have hM : markN s.data.toList = if (0 < s.size ∧ s.data.toList.getD 0 0 ≠ 81) ∨ (1 < s.size ∧ s.data.toList.getD 1 0 ≠ 70) then 5 else if s.size < 2 then 1 else 0 := by unfold markN; rw [hlen]
  have HM := Lib.hid hM
  clear hM
  by_cases h0 : 0 < s.size
  · by_cases h2 : s.data.toList.getD 0 0 = 81
    · by_cases h1 : 1 < s.size
      · by_cases h3 : s.data.toList.getD 1 0 = 70
        · have e0 := mk_eq s 0 h0 (by decide) h2
          have e1 := mk_eq s 1 h1 (by decide) h3
          have h1i : (1 : Int) < (s.size : Int) := by omega
          have hm : min (s.size : Int) 2 = 2 := by omega
          rw [HM.out, if_neg (by rintro (h | h); exact h.2 h2; exact h.2 h3), if_neg (by omega)]
          clear h2 h3
          go_enter Tryd.func70, Tryd.ntmps70
          go_wp2_with fail
          refine wp_loop_rounds 3 ?_
          rw [rounds_succ]
          go_wp2_with fail
          go_quiet (fail)
          go_wp2_with fail
          rw [rounds_succ]
          go_wp2_with fail
          go_quiet (fail)
          go_wp2_with fail
          rw [rounds_succ]
          go_wp2_with fail
          go_ret
          exact ⟨rfl, by first | exact only_drewN (only_refl _ _) _ | exact only_drewN (only_drewN (only_refl _ _) _) _⟩
        · have e0 := mk_eq s 0 h0 (by decide) h2
          have e1 := mk_ne s 1 h1 (by decide) h3
          have h1i : (1 : Int) < (s.size : Int) := by omega
          have hm : min (s.size : Int) 2 = 2 := by omega
          rw [HM.out, if_pos (.inr ⟨h1, h3⟩)]
          clear h2 h3
          go_enter Tryd.func70, Tryd.ntmps70
          go_wp2_with fail
          refine wp_loop_rounds 2 ?_
          rw [rounds_succ]
          go_wp2_with fail
          go_quiet (fail)
          go_wp2_with fail
          rw [rounds_succ]
          go_wp2_with fail
          go_quiet (fail)
          go_wp2_with fail
          go_ret
          exact ⟨rfl, by first | exact only_drewN (only_refl _ _) _ | exact only_drewN (only_drewN (only_refl _ _) _) _⟩
      · have e0 := mk_eq s 0 h0 (by decide) h2
        have hm : min (s.size : Int) 2 = 1 := by omega
        rw [HM.out, if_neg (by rintro (h | h); exact h.2 h2; exact h1 h.1), if_pos (by omega)]
        clear h2
        go_enter Tryd.func70, Tryd.ntmps70
        go_wp2_with fail
        refine wp_loop_rounds 2 ?_
        rw [rounds_succ]
        go_wp2_with fail
        go_quiet (fail)
        go_wp2_with fail
        rw [rounds_succ]
        go_wp2_with fail
        go_ret
        exact ⟨rfl, by first | exact only_drewN (only_refl _ _) _ | exact only_drewN (only_drewN (only_refl _ _) _) _⟩
    · have e0 := mk_ne s 0 h0 (by decide) h2
      obtain ⟨m, hm, hm1⟩ : ∃ m : Nat, min (s.size : Int) 2 = (m : Int) ∧ 0 < m := ⟨min s.size 2, by omega, by omega⟩
      rw [HM.out, if_pos (.inl ⟨h0, h2⟩)]
      clear h2
      go_enter Tryd.func70, Tryd.ntmps70
      go_wp2_with fail
      refine wp_loop_rounds 1 ?_
      rw [rounds_succ]
      go_wp2_with fail
      go_quiet (fail)
      go_wp2_with fail
      go_ret
      exact ⟨rfl, by first | exact only_drewN (only_refl _ _) _ | exact only_drewN (only_drewN (only_refl _ _) _) _⟩
  · have hm : min (s.size : Int) 2 = 0 := by omega
    rw [HM.out, if_neg (by omega), if_pos (by omega)]
    go_enter Tryd.func70, Tryd.ntmps70
    go_wp2_with fail
    refine wp_loop_rounds 1 ?_
    rw [rounds_succ]
    go_wp2_with fail
    go_ret
    exact ⟨rfl, only_refl _ _⟩

theorem clone_any (s : ByteArray) (hs : s.size ≤ 1000000) (w : World) :
    Calls Tryd.prog 73 #[.string s] w fun e w' => e = .returned (.string s) ∧ w.grownBy w' none := by
  go_enter Tryd.func73, Tryd.ntmps73
  go_wp2_with fail
  refine (Tryd.stringslite_Clone s _ (by omega)).mono ?_
  rintro e w1 ⟨rfl, g⟩
  go_wp2_with fail
  go_ret
  exact ⟨rfl, below_to_none g⟩

set_option maxHeartbeats 4000000 in
set_option maxRecDepth 100000 in
theorem parse_any (s : ByteArray) (hs : s.size ≤ 1000000) (w : World) :
    Calls Tryd.prog 63 #[.string s] w fun e w' => e = .returned (parseV (parseR s.data.toList)) ∧ w.grownBy w' none := by
  have hlen : s.data.toList.length = s.size := by simp
  have hg := fun w => get_any (s.extract 2 s.size) (by simp; unfold maxLen; omega) w
  rw [bytes_drop] at hg
  unfold getV at hg
  have hb := getR_bounds (s.data.toList.drop 2)
  have hc := parse_cases s.data.toList
  have hx := ext_list s
  have hk := fun w => mark_any s hs w
  unfold markN at hk
  rw [hlen] at hc hk
  rcases hc with ⟨h1, h2, hp⟩ | ⟨h1, h2, h3, hp⟩ | ⟨h1, hp⟩ | ⟨h1, h2, hp⟩ | ⟨h1, h2, h3, hc⟩
  · rw [hp]
    rw [if_pos (.inl ⟨h1, h2⟩)] at hk
    clear hp h2 hb hg hx
    go_enter Tryd.func63, Tryd.ntmps63
    go_wp2_with fail
    refine (hk _).mono ?_
    rintro e w1 ⟨rfl, g1⟩
    go_wp2_with fail
    go_ret3
    exact ⟨rfl, g1⟩
  · rw [hp]
    rw [if_pos (.inr ⟨h1, h3⟩)] at hk
    clear hp h2 h3 hb hg hx
    go_enter Tryd.func63, Tryd.ntmps63
    go_wp2_with fail
    refine (hk _).mono ?_
    rintro e w1 ⟨rfl, g1⟩
    go_wp2_with fail
    go_ret3
    exact ⟨rfl, g1⟩
  · rw [hp]
    rw [if_neg (by omega), if_pos (by omega)] at hk
    clear hp hb hg hx
    go_enter Tryd.func63, Tryd.ntmps63
    go_wp2_with fail
    refine (hk _).mono ?_
    rintro e w1 ⟨rfl, g1⟩
    go_wp2_with fail
    go_ret3
    exact ⟨rfl, g1⟩
  · rw [hp]
    rw [if_neg (by rintro (h | h); exact h.2 h2; omega), if_pos (by omega)] at hk
    clear hp h2 hb hg hx
    go_enter Tryd.func63, Tryd.ntmps63
    go_wp2_with fail
    refine (hk _).mono ?_
    rintro e w1 ⟨rfl, g1⟩
    go_wp2_with fail
    go_ret3
    exact ⟨rfl, g1⟩
  · have h01 : 1 < s.size := by omega
    rw [if_neg (by rintro (h | h); exact h.2 h2; exact h.2 h3), if_neg (by omega)] at hk
    clear h2 h3
    generalize getR (s.data.toList.drop 2) = r at *
    obtain ⟨n, k, E⟩ := r
    simp only at hc hg hb
    obtain ⟨hb1, -, hb3, hb4, hb5⟩ := hb
    rcases hc with ⟨h4, hp⟩ | ⟨rfl, h5, hp⟩ | ⟨rfl, h5, h6, hp⟩ | ⟨rfl, h5, h6, hc⟩
    · have e2 : ((E : Int) != 0) = true := by simp; omega
      have e3 : ((E : Int) == 0) = false := by simp; omega
      rw [hp]
      clear hp hx
      go_enter Tryd.func63, Tryd.ntmps63
      go_wp2_with fail
      refine (hk _).mono ?_
      rintro e w1 ⟨rfl, g1⟩
      go_wp2_with fail
      refine (hg _).mono ?_
      rintro e w' ⟨rfl, rfl⟩
      go_wp2_with fail
      go_ret3
      exact ⟨rfl, g1⟩
    · rw [hp]
      clear hp hx
      go_enter Tryd.func63, Tryd.ntmps63
      go_wp2_with fail
      refine (hk _).mono ?_
      rintro e w1 ⟨rfl, g1⟩
      go_wp2_with fail
      refine (hg _).mono ?_
      rintro e w' ⟨rfl, rfl⟩
      go_wp2_with fail
      go_ret3
      exact ⟨rfl, g1⟩
    · rw [hp]
      clear hp hx
      go_enter Tryd.func63, Tryd.ntmps63
      go_wp2_with fail
      refine (hk _).mono ?_
      rintro e w1 ⟨rfl, g1⟩
      go_wp2_with fail
      refine (hg _).mono ?_
      rintro e w' ⟨rfl, rfl⟩
      go_wp2_with fail
      go_ret3
      exact ⟨rfl, g1⟩
    · obtain ⟨f, hf⟩ : ∃ f, f = 2 + k := ⟨_, rfl⟩
      obtain ⟨t, ht⟩ : ∃ t, t = f + n := ⟨_, rfl⟩
      obtain ⟨u, hu⟩ : ∃ u, u = t + 4 := ⟨_, rfl⟩
      have he1 : (2 : Int) + (k : Int) = (f : Int) := by omega
      have he2 : (f : Int) + (n : Int) = (t : Int) := by omega
      have he3 : (t : Int) + 4 = (u : Int) := by omega
      have hx1 := hx f t
      have hx2 := hx t u
      rw [show t - f = n by omega] at hx1
      rw [show u - t = 4 by omega] at hx2
      rw [show 2 + k + n + 4 = u by omega, show 2 + k + n = t by omega, show 2 + k = f by omega, ← hx1, ← hx2] at hc
      have hfu : u ≤ s.size := by omega
      have hck := fun w => crc.check_any (s.extract f t) (s.extract t u) (by simp; unfold maxLen; omega) (by simp; unfold maxLen; omega) w
      have hcl := fun w => clone_any (s.extract f t) (by simp; omega) w
      have hps : str (s.extract f t).data.toList = s.extract f t := str_of _
      have HP := Lib.hid hps
      have hsl := fun w => run_slice_string (P := Tryd.prog) (w := w) 9 s .i64 .i64 (f : Int) (t : Int) Tryd.underlying9 (by omega) (by omega) (by omega)
      have hsl2 := fun w => run_slice_string (P := Tryd.prog) (w := w) 9 s .i64 .i64 (t : Int) (u : Int) Tryd.underlying9 (by omega) (by omega) (by omega)
      rw [Int.toNat_natCast, Int.toNat_natCast] at hsl hsl2
      have hft : f ≤ t := by omega
      have htu : t ≤ u := by omega
      have hu4 : 4 ≤ u := by omega
      clear hf ht hu
      rcases hc with ⟨h7, -, hp⟩ | ⟨h7, -, hp⟩
      · rw [hp]
        have hcmp : decide (s.extract t u = crc.putB (sumN (s.extract f t).data.toList)) = true := decide_eq_true (by
          rw [crc.putB, ← h7])
        rw [hcmp] at hck
        clear hp hx hx1 hx2 h7 hps hcmp
        go_enter Tryd.func63, Tryd.ntmps63
        go_wp2_with fail
        refine (hk _).mono ?_
        rintro e w1 ⟨rfl, g1⟩
        go_wp2_with fail
        refine (hg _).mono ?_
        rintro e w' ⟨rfl, rfl⟩
        go_wp2_with fail
        refine (hck _).mono ?_
        rintro e w2 ⟨rfl, g2⟩
        go_wp2_with fail
        refine (hcl _).mono ?_
        rintro e w3 ⟨rfl, g3⟩
        go_wp2_with fail
        go_ret3
        exact ⟨ret3 (congrArg Value.string HP.out.symm) rfl rfl, only_trans (only_trans g1 g2) g3⟩
      · rw [hp]
        have hcmp : decide (s.extract t u = crc.putB (sumN (s.extract f t).data.toList)) = false := decide_eq_false (fun h => h7 (by rw [h]; rfl))
        rw [hcmp] at hck
        clear hp hx hx1 hx2 h7 hps hcmp hcl
        go_enter Tryd.func63, Tryd.ntmps63
        go_wp2_with fail
        refine (hk _).mono ?_
        rintro e w1 ⟨rfl, g1⟩
        go_wp2_with fail
        refine (hg _).mono ?_
        rintro e w' ⟨rfl, rfl⟩
        go_wp2_with fail
        refine (hck _).mono ?_
        rintro e w2 ⟨rfl, g2⟩
        go_wp2_with fail
        go_ret3
        exact ⟨rfl, only_trans g1 g2⟩

end Go.Proofs.YtbelpcniogcfoaaDoor.fm
