/-
  The contract of frame.Parse, and of frame.All.
-/
import Derived.Test.YtkggjokpbopjdaaFrame
namespace Go.Proofs.Ytkggjokpbopjdaa.fm
open Go.RowKit Go.Proofs.Ytkggjokpbopjdaa.vi Go.Proofs.Ytkggjokpbopjdaa.crcm Go.Proofs.Ytkggjokpbopjdaa.cur
set_option linter.unusedVariables false
set_option linter.unusedSimpArgs false

/-- The mark's bytes, as the walk spells them. -/
theorem mk_ne (s : ByteArray) (j : Nat) (h : j < s.size) (hj : j < (⟨#[81, 70]⟩ : ByteArray).size) (hb : s.data.toList.getD j 0 ≠ (⟨#[81, 70]⟩ : ByteArray)[j]) : ((s[j].toNat : Int) != ((⟨#[81, 70]⟩ : ByteArray)[j].toNat : Int)) = true := at_ne s j h _ _ rfl hb
theorem mk_eq (s : ByteArray) (j : Nat) (h : j < s.size) (hj : j < (⟨#[81, 70]⟩ : ByteArray).size) (hb : s.data.toList.getD j 0 = (⟨#[81, 70]⟩ : ByteArray)[j]) : ((s[j].toNat : Int) != ((⟨#[81, 70]⟩ : ByteArray)[j].toNat : Int)) = false := at_eq s j h _ _ rfl hb

/-- What checkMark answers. -/
def markN (L : List UInt8) : Nat := if (0 < L.length ∧ L.getD 0 0 ≠ 81) ∨ (1 < L.length ∧ L.getD 1 0 ≠ 70) then 5 else if L.length < 2 then 1 else 0

set_option maxHeartbeats 4000000 in
set_option maxRecDepth 100000 in
theorem mark_any (s : ByteArray) (hs : s.size ≤ 1000000) (w : World) :
    Calls Try.prog 34 #[.string s] w fun e w' => e = .returned (.int .i64 (markN s.data.toList : Nat)) ∧ w.grownBy w' none := by
  have hlen : s.data.toList.length = s.size := by simp
  have hM : markN s.data.toList = if (0 < s.size ∧ s.data.toList.getD 0 0 ≠ 81) ∨ (1 < s.size ∧ s.data.toList.getD 1 0 ≠ 70) then 5 else if s.size < 2 then 1 else 0 := by unfold markN; rw [hlen]
  have HM := Lib.hid hM
  clear hM
  by_cases h0 : 0 < s.size
  · by_cases h2 : s.data.toList.getD 0 0 = 81
    · by_cases h1 : 1 < s.size
      · by_cases h3 : s.data.toList.getD 1 0 = 70
        · have e0 := mk_eq s 0 h0 (by decide) h2
          have e1 := mk_eq s 1 h1 (by decide) h3
          have h1i : (1 : Int) < (s.size : Int) := by omega
          have hm : min (s.size : Int) 2 = 2 := by omega
          rw [HM.out, if_neg (by rintro (h | h); exact h.2 h2; exact h.2 h3), if_neg (by omega)]
          clear h2 h3
          go_enter Try.func34, Try.ntmps34
          go_wp2_with fail
          refine wp_loop_rounds 3 ?_
          rw [rounds_succ]
          go_wp2_with fail
          go_quiet (fail)
          go_wp2_with fail
          rw [rounds_succ]
          go_wp2_with fail
          go_quiet (fail)
          go_wp2_with fail
          rw [rounds_succ]
          go_wp2_with fail
          go_ret
          exact ⟨rfl, by first | exact only_drewN (only_refl _ _) _ | exact only_drewN (only_drewN (only_refl _ _) _) _⟩
        · have e0 := mk_eq s 0 h0 (by decide) h2
          have e1 := mk_ne s 1 h1 (by decide) h3
          have h1i : (1 : Int) < (s.size : Int) := by omega
          have hm : min (s.size : Int) 2 = 2 := by omega
          rw [HM.out, if_pos (.inr ⟨h1, h3⟩)]
          clear h2 h3
          go_enter Try.func34, Try.ntmps34
          go_wp2_with fail
          refine wp_loop_rounds 2 ?_
          rw [rounds_succ]
          go_wp2_with fail
          go_quiet (fail)
          go_wp2_with fail
          rw [rounds_succ]
          go_wp2_with fail
          go_quiet (fail)
          go_wp2_with fail
          go_ret
          exact ⟨rfl, by first | exact only_drewN (only_refl _ _) _ | exact only_drewN (only_drewN (only_refl _ _) _) _⟩
      · have e0 := mk_eq s 0 h0 (by decide) h2
        have hm : min (s.size : Int) 2 = 1 := by omega
        rw [HM.out, if_neg (by rintro (h | h); exact h.2 h2; exact h1 h.1), if_pos (by omega)]
        clear h2
        go_enter Try.func34, Try.ntmps34
        go_wp2_with fail
        refine wp_loop_rounds 2 ?_
        rw [rounds_succ]
        go_wp2_with fail
        go_quiet (fail)
        go_wp2_with fail
        rw [rounds_succ]
        go_wp2_with fail
        go_ret
        exact ⟨rfl, by first | exact only_drewN (only_refl _ _) _ | exact only_drewN (only_drewN (only_refl _ _) _) _⟩
    · have e0 := mk_ne s 0 h0 (by decide) h2
      obtain ⟨m, hm, hm1⟩ : ∃ m : Nat, min (s.size : Int) 2 = (m : Int) ∧ 0 < m := ⟨min s.size 2, by omega, by omega⟩
      rw [HM.out, if_pos (.inl ⟨h0, h2⟩)]
      clear h2
      go_enter Try.func34, Try.ntmps34
      go_wp2_with fail
      refine wp_loop_rounds 1 ?_
      rw [rounds_succ]
      go_wp2_with fail
      go_quiet (fail)
      go_wp2_with fail
      go_ret
      exact ⟨rfl, by first | exact only_drewN (only_refl _ _) _ | exact only_drewN (only_drewN (only_refl _ _) _) _⟩
  · have hm : min (s.size : Int) 2 = 0 := by omega
    rw [HM.out, if_neg (by omega), if_pos (by omega)]
    go_enter Try.func34, Try.ntmps34
    go_wp2_with fail
    refine wp_loop_rounds 1 ?_
    rw [rounds_succ]
    go_wp2_with fail
    go_ret
    exact ⟨rfl, only_refl _ _⟩

theorem clone_any (s : ByteArray) (hs : s.size ≤ 1000000) (w : World) :
    Calls Try.prog 37 #[.string s] w fun e w' => e = .returned (.string s) ∧ w.grownBy w' none := by
  go_enter Try.func37, Try.ntmps37
  go_wp2_with fail
  refine (Try.stringslite_Clone s _ (by omega)).mono ?_
  rintro e w1 ⟨rfl, g⟩
  go_wp2_with fail
  go_ret
  exact ⟨rfl, below_to_none g⟩

set_option maxHeartbeats 4000000 in
set_option maxRecDepth 100000 in
theorem parse_any (s : ByteArray) (hs : s.size ≤ 1000000) (w : World) :
    Calls Try.prog 12 #[.string s] w fun e w' => e = .returned (parseV (parseR s.data.toList)) ∧ w.grownBy w' none := by
  have hlen : s.data.toList.length = s.size := by simp
  have hg := fun w => get_any (s.extract 2 s.size) (by simp; unfold maxLen; omega) w
  rw [bytes_drop] at hg
  unfold getV at hg
  have hb := getR_bounds (s.data.toList.drop 2)
  have hc := parse_cases s.data.toList
  have hx := ext_list s
  have hk := fun w => mark_any s hs w
  unfold markN at hk
  rw [hlen] at hc hk
  rcases hc with ⟨h1, h2, hp⟩ | ⟨h1, h2, h3, hp⟩ | ⟨h1, hp⟩ | ⟨h1, h2, hp⟩ | ⟨h1, h2, h3, hc⟩
  · rw [hp]
    rw [if_pos (.inl ⟨h1, h2⟩)] at hk
    clear hp h2 hb hg hx
    go_enter Try.func12, Try.ntmps12
    go_wp2_with fail
    refine (hk _).mono ?_
    rintro e w1 ⟨rfl, g1⟩
    go_wp2_with fail
    go_ret3
    exact ⟨rfl, g1⟩
  · rw [hp]
    rw [if_pos (.inr ⟨h1, h3⟩)] at hk
    clear hp h2 h3 hb hg hx
    go_enter Try.func12, Try.ntmps12
    go_wp2_with fail
    refine (hk _).mono ?_
    rintro e w1 ⟨rfl, g1⟩
    go_wp2_with fail
    go_ret3
    exact ⟨rfl, g1⟩
  · rw [hp]
    rw [if_neg (by omega), if_pos (by omega)] at hk
    clear hp hb hg hx
    go_enter Try.func12, Try.ntmps12
    go_wp2_with fail
    refine (hk _).mono ?_
    rintro e w1 ⟨rfl, g1⟩
    go_wp2_with fail
    go_ret3
    exact ⟨rfl, g1⟩
  · rw [hp]
    rw [if_neg (by rintro (h | h); exact h.2 h2; omega), if_pos (by omega)] at hk
    clear hp h2 hb hg hx
    go_enter Try.func12, Try.ntmps12
    go_wp2_with fail
    refine (hk _).mono ?_
    rintro e w1 ⟨rfl, g1⟩
    go_wp2_with fail
    go_ret3
    exact ⟨rfl, g1⟩
  · have h01 : 1 < s.size := by omega
    rw [if_neg (by rintro (h | h); exact h.2 h2; exact h.2 h3), if_neg (by omega)] at hk
    clear h2 h3
    generalize getR (s.data.toList.drop 2) = r at *
    obtain ⟨n, k, E⟩ := r
    simp only at hc hg hb
    obtain ⟨hb1, -, hb3, hb4, hb5⟩ := hb
    rcases hc with ⟨h4, hp⟩ | ⟨rfl, h5, hp⟩ | ⟨rfl, h5, h6, hp⟩ | ⟨rfl, h5, h6, hc⟩
    · have e2 : ((E : Int) != 0) = true := by simp; omega
      have e3 : ((E : Int) == 0) = false := by simp; omega
      rw [hp]
      clear hp hx
      go_enter Try.func12, Try.ntmps12
      go_wp2_with fail
      refine (hk _).mono ?_
      rintro e w1 ⟨rfl, g1⟩
      go_wp2_with fail
      refine (hg _).mono ?_
      rintro e w' ⟨rfl, rfl⟩
      go_wp2_with fail
      go_ret3
      exact ⟨rfl, g1⟩
    · rw [hp]
      clear hp hx
      go_enter Try.func12, Try.ntmps12
      go_wp2_with fail
      refine (hk _).mono ?_
      rintro e w1 ⟨rfl, g1⟩
      go_wp2_with fail
      refine (hg _).mono ?_
      rintro e w' ⟨rfl, rfl⟩
      go_wp2_with fail
      go_ret3
      exact ⟨rfl, g1⟩
    · rw [hp]
      clear hp hx
      go_enter Try.func12, Try.ntmps12
      go_wp2_with fail
      refine (hk _).mono ?_
      rintro e w1 ⟨rfl, g1⟩
      go_wp2_with fail
      refine (hg _).mono ?_
      rintro e w' ⟨rfl, rfl⟩
      go_wp2_with fail
      go_ret3
      exact ⟨rfl, g1⟩
    · obtain ⟨f, hf⟩ : ∃ f, f = 2 + k := ⟨_, rfl⟩
      obtain ⟨t, ht⟩ : ∃ t, t = f + n := ⟨_, rfl⟩
      obtain ⟨u, hu⟩ : ∃ u, u = t + 4 := ⟨_, rfl⟩
      have he1 : (2 : Int) + (k : Int) = (f : Int) := by omega
      have he2 : (f : Int) + (n : Int) = (t : Int) := by omega
      have he3 : (t : Int) + 4 = (u : Int) := by omega
      have hx1 := hx f t
      have hx2 := hx t u
      rw [show t - f = n by omega] at hx1
      rw [show u - t = 4 by omega] at hx2
      rw [show 2 + k + n + 4 = u by omega, show 2 + k + n = t by omega, show 2 + k = f by omega, ← hx1, ← hx2] at hc
      have hfu : u ≤ s.size := by omega
      have hck := fun w => crc.check_any (s.extract f t) (s.extract t u) (by simp; unfold maxLen; omega) (by simp; unfold maxLen; omega) w
      have hcl := fun w => clone_any (s.extract f t) (by simp; omega) w
      have hps : str (s.extract f t).data.toList = s.extract f t := str_of _
      have HP := Lib.hid hps
      have hsl := fun w => run_slice_string (P := Try.prog) (w := w) 9 s .i64 .i64 (f : Int) (t : Int) Try.underlying9 (by omega) (by omega) (by omega)
      have hsl2 := fun w => run_slice_string (P := Try.prog) (w := w) 9 s .i64 .i64 (t : Int) (u : Int) Try.underlying9 (by omega) (by omega) (by omega)
      rw [Int.toNat_natCast, Int.toNat_natCast] at hsl hsl2
      have hft : f ≤ t := by omega
      have htu : t ≤ u := by omega
      have hu4 : 4 ≤ u := by omega
      clear hf ht hu
      rcases hc with ⟨h7, -, hp⟩ | ⟨h7, -, hp⟩
      · rw [hp]
        have hcmp : decide (s.extract t u = crc.putB (sumN (s.extract f t).data.toList)) = true := decide_eq_true (by
          rw [crc.putB, ← h7])
        rw [hcmp] at hck
        clear hp hx hx1 hx2 h7 hps hcmp
        go_enter Try.func12, Try.ntmps12
        go_wp2_with fail
        refine (hk _).mono ?_
        rintro e w1 ⟨rfl, g1⟩
        go_wp2_with fail
        refine (hg _).mono ?_
        rintro e w' ⟨rfl, rfl⟩
        go_wp2_with fail
        refine (hck _).mono ?_
        rintro e w2 ⟨rfl, g2⟩
        go_wp2_with fail
        refine (hcl _).mono ?_
        rintro e w3 ⟨rfl, g3⟩
        go_wp2_with fail
        go_ret3
        exact ⟨ret3 (congrArg Value.string HP.out.symm) rfl rfl, only_trans (only_trans g1 g2) g3⟩
      · rw [hp]
        have hcmp : decide (s.extract t u = crc.putB (sumN (s.extract f t).data.toList)) = false := decide_eq_false (fun h => h7 (by rw [h]; rfl))
        rw [hcmp] at hck
        clear hp hx hx1 hx2 h7 hps hcmp hcl
        go_enter Try.func12, Try.ntmps12
        go_wp2_with fail
        refine (hk _).mono ?_
        rintro e w1 ⟨rfl, g1⟩
        go_wp2_with fail
        refine (hg _).mono ?_
        rintro e w' ⟨rfl, rfl⟩
        go_wp2_with fail
        refine (hck _).mono ?_
        rintro e w2 ⟨rfl, g2⟩
        go_wp2_with fail
        go_ret3
        exact ⟨rfl, only_trans g1 g2⟩

set_option maxHeartbeats 2000000 in
set_option maxRecDepth 100000 in
theorem all_any (s : ByteArray) (hs : s.size ≤ 1000000) (w : World) :
    Calls Try.prog 14 #[.string s] w (AllPost w (framesR s.data.toList)) := by
  obtain ⟨iS, hi, hz0, hz1, hz2⟩ := info_parts Try.infoStr
  have Hlen := Lib.hid (show s.data.toList.length = s.size by simp)
  go_enter Try.func14, Try.ntmps14
  go_wp2_with fail
  go_loopw [0, 4] (fun t v wr => ∃ (k : Nat) (acc : List (List UInt8)), acc.length ≤ k ∧ k ≤ s.size ∧ t = .string (s.extract k s.size) ∧ Own w.heap.size wr v acc ∧ w.grownBy wr none ∧ framesR s.data.toList = glueF acc (framesR (s.data.toList.drop k))) (fun t _ _ => strLen t)
  case atStart => exact ⟨0, [], Nat.le_refl _, Nat.zero_le _, congrArg Value.string (extract_all s).symm, Own.nil _ _, only_refl _ _, by rw [List.drop_zero, glueF_nil _ (framesR_good _ _ (Nat.le_refl _)).1]⟩
  case round =>
    obtain ⟨k, acc, hacc, hk, rfl, hown, hg, hall⟩ := hrel
    have Hg := Lib.hid hg
    have Ho := Lib.hid hown
    have Hall := Lib.hid hall
    have hsz := hg.size
    clear hown hg hall
    have hes : (s.extract k s.size).size = s.size - k := by simp
    have hx := fun w => parse_any (s.extract k s.size) (by omega) w
    rw [bytes_drop] at hx
    have hm0 := fun m h => extract_drop s k m hk h
    have Hes := Lib.hid hes
    have hes3 : s.size - k = (s.extract k s.size).size := by omega
    by_cases hks : k < s.size
    · have hdl : (s.data.toList.drop k).length = s.size - k := by simp
      have hdn : s.data.toList.drop k ≠ [] := by intro h; rw [h] at hdl; simp at hdl; omega
      have hlt := parse_lt (s.data.toList.drop k)
      have hpo := @parse_pos (s.data.toList.drop k)
      have hok := fun h => (@parse_ok (s.data.toList.drop k) h).2.2.2
      have Hok := Lib.hid (@framesR_ok _ hdn)
      have Herr := Lib.hid (@framesR_err _ hdn)
      rw [List.drop_drop] at Hok
      rw [hdl, hes3] at hok
      have hpos1 : 0 < (s.extract k s.size).size := by omega
      clear hdn hdl hes hes3
      generalize parseR (s.data.toList.drop k) = r at *
      obtain ⟨x, m, E⟩ := r
      unfold parseV at hx
      simp only at hx hlt hpo hok
      generalize hT : s.extract k s.size = T at *
      have HT := Lib.hid hT
      clear hT
      by_cases h0 : E = 0
      · subst h0
        have hmp := hpo rfl
        have hm := hok rfl
        have Hm := Lib.hid (hm0 m (by rw [Hes.out] at hm; exact hm))
        have Hok := Lib.hid (Hok.out rfl)
        clear hpo Herr hok hm0
        go_wp2_with fail
        refine (hx _).mono ?_
        rintro e w1 ⟨rfl, g1⟩
        have Ho1 := Lib.hid (Ho.out.kept g1)
        have Hg1 := Lib.hid (only_trans Hg.out g1)
        clear g1
        have hsz1 := Hg1.out.size
        go_wp2_with (at_builtin; refine wpList_append_own _ rfl (.tmp 20) (.tmp 22) 32 rfl w.heap.size 9 iS (.string ⟨#[]⟩) 1 16 Try.underlying32 hi hz0 hz1 hz2 rfl (by decide) _ acc.length (texts acc) rfl (World.ownsRow.alloc Ho1.out _) ⟨w1.heap.size, 0, none⟩ 1 1 [.string (str x)] rfl rfl ?c1 ?c2 ?c3 ?c4 ?c5 ?_)
        case c1 =>
          intro j u hj
          match j, hj with
          | 0, hj => simp at hj; subst hj; simp [Addr.add]
        case c2 => intro u hu; simp at hu; subst hu; rfl
        case c3 => unfold maxLen; omega
        case c4 => omega
        case c5 => simp; omega
        intro v' w4 hown4 hg4 _
        have HO := Lib.hid hown4
        have HG4 := Lib.hid (below_to_none (below_of_only (below_of_none (only_alloc Hg1.out (.cells #[.string (str x)] 9))) hg4 (by simp; omega) (fun g e => (World.ownsRow.lt Ho1.out g e).1)))
        clear hown4 hg4
        go_wp2_with fail
        go_roundw
        case rel => exact ⟨k + m, acc ++ [x], by simp; omega, by have := Hes.out; omega, congrArg Value.string Hm.out, by unfold Own; simpa [texts] using HO.out, HG4.out, by rw [Hall.out, Hok.out, glueF_glueF]; trivial⟩
        case measure =>
          simp [strLen]
          omega
      · have Hh := Lib.hid (Hall.out.trans (show glueF acc _ = (([], E) : List (List UInt8) × Nat) by rw [Herr.out h0]; simp [glueF, h0]))
        clear hpo hok Hok Herr Hall hm0
        have hEE : ((E : Int) == 0) = false := by simpa using h0
        have hEN : ((E : Int) != 0) = true := by simpa using h0
        go_wp2_with fail
        refine (hx _).mono ?_
        rintro e w1 ⟨rfl, g1⟩
        go_wp2_with fail
        go_ret2
        rw [Hh.out]
        exact ⟨_, rfl, only_trans Hg.out g1, Own.nil _ _⟩
    · have hd : s.data.toList.drop k = [] := List.drop_of_length_le (by rw [Hlen.out]; omega)
      rw [hd, framesR_nil] at Hall
      have Hh := Lib.hid (Hall.out.trans (show glueF acc ([], 0) = (acc, 0) by simp [glueF]))
      have hz : ¬ 0 < (s.extract k s.size).size := by omega
      clear hd hx hm0 hes hes3
      generalize s.extract k s.size = T at *
      go_wp2_with fail
      go_ret2
      rw [Hh.out]
      exact ⟨_, rfl, Hg.out, Ho.out⟩

end Go.Proofs.Ytkggjokpbopjdaa.fm
