/-
  The calls of package utf: Good, Check, Count, Trim. (Written for a program whose Good is utf8.ValidString, Count utf8.RuneCountInString, and whose Trim goes back byte by byte.)
-/
import Derived.Test.YtbelpcniogcfoaaDoorTabs
import Derived.Test.YtbelpcniogcfoaaDoorUtrim
import Derived.Test.YtbelpcniogcfoaaDoorLaw07
namespace Go.Proofs.YtbelpcniogcfoaaDoor.uu
open Go.RowKit Go.Proofs.YtbelpcniogcfoaaDoor.um
set_option linter.unusedVariables false
set_option linter.unusedSimpArgs false

theorem good_any (s : ByteArray) (w : World) (hs : s.size ≤ maxLen) (hT : tb.Tab w) :
    Calls Tryd.prog 13 #[.string s] w fun e w' => e = .returned (.bool (goodR s.data.toList)) ∧ w.grownBy w' none := by
  have HV := tb.valid s w (by unfold maxLen at hs; omega) hT
  generalize goodR s.data.toList = G at *
  go_enter Tryd.func13, Tryd.ntmps13
  go_wp2_with (go_at_call 37; refine HV.mono ?_; rintro e w' ⟨rfl, g⟩)
  go_ret
  exact ⟨rfl, g⟩

theorem check_any (s : ByteArray) (least most : Int) (w : World) (hs : s.size ≤ maxLen) (hT : tb.Tab w) :
    Calls Tryd.prog 14 #[.string s, .int .i64 least, .int .i64 most] w fun e w' => e = .returned (.int .i64 (checkN s least most : Nat)) ∧ w.grownBy w' none := by
  unfold checkN
  have HG := Lib.hid (good_any s w hs hT)
  unfold maxLen at hs
  by_cases hb : (s.size : Int) < least ∨ most < (s.size : Int)
  · rw [if_pos hb]
    clear HG
    go_enter Tryd.func14, Tryd.ntmps14
    rcases (show (s.size : Int) < least ∨ (¬ (s.size : Int) < least ∧ most < (s.size : Int)) by omega) with h | ⟨h, h'⟩ <;> clear hb
    all_goals
      go_wp2
      go_ret
      exact ⟨rfl, only_refl _ _⟩
  · rw [if_neg hb]
    have h1 : ¬ (s.size : Int) < least := by omega
    have h2 : ¬ most < (s.size : Int) := by omega
    clear hb
    cases hG : goodR s.data.toList <;> rw [hG] at HG <;> clear hG
    all_goals
      go_enter Tryd.func14, Tryd.ntmps14
      go_wp2_with (go_at_call 13; refine HG.out.mono ?_; rintro e w' ⟨rfl, g⟩)
      go_ret
      exact ⟨rfl, g⟩

theorem count_any (s : ByteArray) (w : World) (hs : s.size < 9223372036854775807) :
    Calls Tryd.prog 16 #[.string s] w fun e w' => e = .returned (.int .i64 (countR s.data.toList : Nat)) ∧ w.grownBy w' none := by
  have HC := Tryd.utf8_RuneCountInString s w hs
  rw [count_runes] at HC
  generalize countR s.data.toList = n at *
  go_enter Tryd.func16, Tryd.ntmps16
  go_wp2_with (go_at_call 38; refine HC.mono ?_; rintro e w' ⟨rfl, pos, rfl⟩)
  go_ret
  exact ⟨rfl, only_alloc (only_refl w none) _⟩

theorem backN_stop (L : List UInt8) (k : Nat) (h : k = 0 ∨ ¬ (128 ≤ byt L k ∧ byt L k < 192)) : backN L k = k := by
  cases k with
  | zero => rfl
  | succ k =>
    rcases h with h | h
    · omega
    · unfold backN; rw [if_neg h]

theorem backN_go (L : List UInt8) (k : Nat) (h : 128 ≤ byt L (k + 1) ∧ byt L (k + 1) < 192) : backN L (k + 1) = backN L k := by
  rw [backN, if_pos h]

theorem start_of (s : ByteArray) (k : Nat) (hk : k < s.size) : Lib.runeStart ((((s[k]'hk)).toNat : Nat) : Int) = !decide (128 ≤ byt s.data.toList k ∧ byt s.data.toList k < 192) := by
  have e : byt s.data.toList k = ((s[k]'hk)).toNat := by
    unfold byt
    rw [List.getD_eq_getElem?_getD, Array.getElem?_toList]
    have hk' : k < s.data.size := hk
    rw [Array.getElem?_eq_getElem hk']
    rfl
  rw [e]
  unfold Lib.runeStart
  generalize ((s[k]'hk)).toNat = x
  by_cases h : 128 ≤ x ∧ x < 192
  · rw [decide_eq_true h]; have : (x : Int) / 64 = 2 := by omega
    simp [this]
  · rw [decide_eq_false h]; have : ¬ (x : Int) / 64 = 2 := by omega
    simp [this]

set_option maxHeartbeats 2000000 in
set_option maxRecDepth 100000 in
theorem trim_any (s : ByteArray) (most : Int) (w : World) (hs : s.size ≤ 10000) (h1 : -9223372036854775808 ≤ most) (h2 : most ≤ 9223372036854775807) :
    Calls Tryd.prog 10 #[.string s, .int .i64 most] w fun e w' => ∃ k : Nat, e = .returned (.string (s.extract 0 k)) ∧ k ≤ s.size ∧ ((k : Int) ≤ max most 0) ∧ (goodR s.data.toList = true → k = trimN s.data.toList most) ∧ w.grownBy w' none := by
  have hlen : s.data.toList.length = s.size := by simp
  by_cases hm : (s.size : Int) ≤ most
  · have hge : most ≥ (s.size : Int) := hm
    have HE := Lib.hid (show s.extract 0 s.size = s by simp)
    go_enter Tryd.func10, Tryd.ntmps10
    go_wp2_with fail
    go_ret
    exact ⟨s.size, ret1 (congrArg Value.string HE.out.symm), Nat.le_refl _, by omega, fun hg => by rw [trimN_over _ _ _ (Nat.le_refl _) hg (by omega), hlen], only_refl _ _⟩
  · obtain ⟨n0, hn0⟩ : ∃ n0 : Nat, max most 0 = (n0 : Int) := ⟨(max most 0).toNat, by omega⟩
    have hnl : n0 = 0 ∨ n0 < s.size := by omega
    have HFIN := Lib.hid (fun (k : Nat) (h : backN s.data.toList n0 = k) (hg : goodR s.data.toList = true) => show k = trimN s.data.toList most by
      by_cases h0 : most ≤ 0
      · rw [trimN_neg _ _ h0]
        obtain rfl : n0 = 0 := by omega
        exact h.symm
      · rw [show most = ((n0 : Nat) : Int) by omega, trimN_back _ _ _ (Nat.le_refl _) hg (by omega), h])
    go_enter Tryd.func10, Tryd.ntmps10
    go_wp2_with fail
    go_loopw [5] (fun c wr => ∃ k : Nat, k ≤ n0 ∧ c = .int .i64 k ∧ backN s.data.toList n0 = backN s.data.toList k ∧ w.grownBy wr none) (fun c _ => (intOf c).toNat)
    case atStart => exact ⟨n0, Nat.le_refl _, rfl, rfl, only_refl _ _⟩
    case round =>
      obtain ⟨k, hk, rfl, hb, hg⟩ := hrel
      have HB := Lib.hid hb
      have HG := Lib.hid hg
      clear hlen
      cases k with
      | zero =>
        have HE := Lib.hid (show s.extract 0 0 = ByteArray.empty by simp)
        go_wp2_with fail
        go_ret
        exact ⟨0, ret1 (congrArg Value.string HE.out.symm), by omega, by omega, HFIN.out 0 HB.out, HG.out⟩
      | succ k =>
        have hks : k + 1 < s.size := by omega
        have hst := start_of s (k + 1) hks
        have hC := fun wv => Tryd.utf8_RuneStart ((((s[k + 1]'hks)).toNat : Nat) : Int) wv (by omega) (by have := ((s[k + 1]'hks)).toNat_lt; omega)
        rw [hst] at hC
        by_cases hc : 128 ≤ byt s.data.toList (k + 1) ∧ byt s.data.toList (k + 1) < 192
        · rw [decide_eq_true hc] at hC
          have HGO := Lib.hid (backN_go _ k hc)
          have HC := Lib.hid hC
          clear hst hC hc
          go_wp2_with (go_at_call 35; refine (HC.out _).mono ?_; rintro e w' ⟨rfl, rfl⟩)
          go_roundw
          case rel => exact ⟨k, by omega, by go_num, by rw [HB.out, HGO.out], HG.out⟩
          case measure => simp [intOf] <;> omega
        · rw [decide_eq_false hc] at hC
          have HST := Lib.hid (backN_stop s.data.toList (k + 1) (.inr hc))
          have HC := Lib.hid hC
          clear hst hC hc
          go_wp2_with (go_at_call 35; refine (HC.out _).mono ?_; rintro e w' ⟨rfl, rfl⟩)
          go_ret
          exact ⟨k + 1, rfl, by omega, by omega, HFIN.out _ (HB.out.trans HST.out), HG.out⟩

end Go.Proofs.YtbelpcniogcfoaaDoor.uu
