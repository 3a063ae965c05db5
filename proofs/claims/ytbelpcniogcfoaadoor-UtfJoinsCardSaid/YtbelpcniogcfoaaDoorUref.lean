/-
  The document's UTF-8: First.
-/
import Derived.Test.YtbelpcniogcfoaaDoorUmath
import Derived.Test.YtbelpcniogcfoaaDoorCursor
import Derived.Handy
namespace Go.Proofs.YtbelpcniogcfoaaDoor.um
open Go.RowKit Go.Proofs.YtbelpcniogcfoaaDoor.cur
set_option linter.unusedVariables false
set_option linter.unusedSimpArgs false

theorem byt_at (s : ByteArray) (k : Nat) (h : k < s.size) : byt s.data.toList k = s[k].toNat := by
  unfold byt
  rw [List.getD_eq_getElem?_getD, List.getElem?_eq_getElem (by simpa using h)]
  rfl

theorem conts_step (L : List UInt8) (k : Nat) (h : conts L k) (hd : 128 ≤ byt L (k + 1) ∧ byt L (k + 1) < 192) : conts L (k + 1) := fun i hi => by
  by_cases h2 : i = k
  · subst h2; exact hd
  · exact h i (by omega)

set_option maxHeartbeats 4000000 in
set_option maxRecDepth 100000 in
theorem rfirst_any (s : ByteArray) (hs : s.size ≤ 1000000) (w : World) :
    Calls Tryd.prog 34 #[.string s] w fun e w' => e = .returned (.int .i64 (firstR s.data.toList : Nat)) ∧ w = w' := by
  have hlen : s.data.toList.length = s.size := by simp
  by_cases h0 : s.size = 0
  · have hf : firstR s.data.toList = 0 := by unfold firstR; rw [if_pos (by omega)]
    rw [hf]
    clear hf hlen
    go_enter Tryd.func34, Tryd.ntmps34
    go_wp2_with fail
    go_ret
    exact ⟨rfl, rfl⟩
  · have hp : 0 < s.size := by omega
    have hb := byt_at s 0 hp
    have hc := s[0].toNat_lt
    have hf : firstR s.data.toList = if s[0].toNat < 128 then 1
        else if 192 ≤ s[0].toNat ∧ s[0].toNat < 224 then mulR s.data.toList 2 (s[0].toNat - 192) 128
        else if 224 ≤ s[0].toNat ∧ s[0].toNat < 240 then mulR s.data.toList 3 (s[0].toNat - 224) 2048
        else if 240 ≤ s[0].toNat ∧ s[0].toNat < 248 then mulR s.data.toList 4 (s[0].toNat - 240) 65536
        else 0 := by
      unfold firstR
      rw [if_neg (by omega), hb]
    rw [hf]
    clear hf
    rcases (show s[0].toNat < 128 ∨ (128 ≤ s[0].toNat ∧ s[0].toNat < 192) ∨ 248 ≤ s[0].toNat ∨ (192 ≤ s[0].toNat ∧ s[0].toNat < 224) ∨ (224 ≤ s[0].toNat ∧ s[0].toNat < 240) ∨ (240 ≤ s[0].toNat ∧ s[0].toNat < 248) by omega) with h1 | h1 | h1 | h1 | h1 | h1
    · rw [if_pos h1]
      go_enter Tryd.func34, Tryd.ntmps34
      go_wp2_with fail
      go_ret
      exact ⟨rfl, rfl⟩
    · rw [if_neg (by omega), if_neg (by omega), if_neg (by omega), if_neg (by omega)]
      go_enter Tryd.func34, Tryd.ntmps34
      go_wp2_with fail
      go_ret
      exact ⟨rfl, rfl⟩
    · rw [if_neg (by omega), if_neg (by omega), if_neg (by omega), if_neg (by omega)]
      go_enter Tryd.func34, Tryd.ntmps34
      go_wp2_with fail
      go_ret
      exact ⟨rfl, rfl⟩
    · rw [if_neg (by omega), if_pos h1]
      obtain ⟨n0, hn0, hnl⟩ : ∃ n0 : Nat, (s[0].toNat : Int) - 192 = (n0 : Int) ∧ n0 < 32 := ⟨s[0].toNat - 192, by omega, by omega⟩
      rw [show s[0].toNat - 192 = n0 by omega]
      by_cases hl : s.size < 2
      · have hm : mulR s.data.toList 2 n0 128 = 0 := by unfold mulR; rw [if_pos (by omega)]
        rw [hm]
        clear hm
        go_enter Tryd.func34, Tryd.ntmps34
        go_wp2_with fail
        go_ret
        exact ⟨rfl, rfl⟩
      · have HM : Hid (mulR s.data.toList 2 n0 128 = if conts s.data.toList (2 - 1) then (if outN 128 (accN s.data.toList n0 (2 - 1)) then 0 else 2) else 0) := by unfold mulR; rw [if_neg (by omega)]; rfl
        generalize mulR s.data.toList 2 n0 128 = R at *
        go_enter Tryd.func34, Tryd.ntmps34
        go_wp2_with fail
        rw [show decide ((s[0].toNat : Int) < 224) = true from decide_eq_true (by omega)]
        go_loopw [5, 7] (fun n c wr => ∃ k v : Nat, k + 1 ≤ 2 ∧ c = .int .i64 ((k + 1 : Nat) : Int) ∧ n = .int .i64 v ∧ v = accN s.data.toList n0 k ∧ v + 1 ≤ 32 * 64 ^ k ∧ conts s.data.toList k ∧ wr = w) (fun _ c _ => 2 - (intOf c).toNat)
        case atStart => exact ⟨0, n0, by omega, rfl, rfl, rfl, by omega, fun i hi => by omega, rfl⟩
        case round =>
          obtain ⟨k, v, hk, rfl, rfl, hv, hvl, hct, rfl⟩ := hrel
          have HV := Lib.hid hv
          have HC := Lib.hid hct
          have hpw : 64 ^ k ≤ 64 ^ 3 := Nat.pow_le_pow_right (by omega) (by omega)
          have hvs : v < 8388608 := by omega
          have HVL := Lib.hid hvl
          clear hv hct hpw hvl
          by_cases hlt : k + 1 < 2
          · have h2 : k + 1 < s.size := by omega
            have hbd := byt_at s (k + 1) h2
            have hd := s[k + 1].toNat_lt
            have HB := Lib.hid hbd
            clear hbd
            by_cases hcont : 128 ≤ s[k + 1].toNat ∧ s[k + 1].toNat < 192
            · obtain ⟨v', hv'⟩ : ∃ v' : Nat, 64 * (v : Int) + (s[k + 1].toNat : Int) - 128 = (v' : Int) := ⟨64 * v + (s[k + 1].toNat - 128), by omega⟩
              have HA : Hid (v' = accN s.data.toList n0 (k + 1)) := by
                show v' = 64 * accN s.data.toList n0 k + (byt s.data.toList (k + 1) - 128)
                rw [HB.out, ← HV.out]; omega
              have HL : Hid (v' + 1 ≤ 32 * 64 ^ (k + 1)) := by have := HVL.out; rw [Nat.pow_succ]; show v' + 1 ≤ 32 * (64 ^ k * 64); omega
              have HC2 := Lib.hid (conts_step _ k HC.out (by rw [HB.out]; exact hcont))
              go_wp2_with fail
              go_roundw
              case rel => exact ⟨k + 1, v', by omega, by go_num, rfl, HA.out, HL.out, HC2.out, by first | rfl | trivial⟩
              case measure => simp [intOf]; omega
            · have hR : Hid (R = 0) := by
                rw [HM.out, if_neg (fun h => hcont (by have := h k (by omega); rw [HB.out] at this; exact this))]; rfl
              rcases (show s[k + 1].toNat < 128 ∨ (128 ≤ s[k + 1].toNat ∧ 192 ≤ s[k + 1].toNat) by omega) with h3 | h3
              all_goals
                go_wp2_with fail
                go_ret
                exact ⟨ret1 (congrArg (fun n : Nat => Value.int .i64 (n : Int)) hR.out.symm), rfl⟩
          · have hk1 : k = 2 - 1 := by omega
            subst hk1
            have hR := HM.out
            rw [if_pos HC.out, ← HV.out] at hR
            have HR := Lib.hid hR
            clear hR
            rcases (show v < 128 ∨ (128 ≤ v ∧ 1114111 < v) ∨ (128 ≤ v ∧ v ≤ 1114111 ∧ 55296 ≤ v ∧ v < 57344) ∨ (128 ≤ v ∧ v ≤ 1114111 ∧ v < 55296) ∨ (128 ≤ v ∧ v ≤ 1114111 ∧ 57344 ≤ v) by omega) with h3 | h3 | h3 | h3 | h3
            all_goals
              have hR := HR.out
              first
                | rw [if_pos (by unfold outN; omega)] at hR
                | rw [if_neg (by unfold outN; omega)] at hR
              have HR2 := Lib.hid hR
              clear hR
              go_wp2_with fail
              go_ret
              exact ⟨ret1 (congrArg (fun n : Nat => Value.int .i64 (n : Int)) HR2.out.symm), rfl⟩
    · rw [if_neg (by omega), if_neg (by omega), if_pos h1]
      obtain ⟨n0, hn0, hnl⟩ : ∃ n0 : Nat, (s[0].toNat : Int) - 224 = (n0 : Int) ∧ n0 < 32 := ⟨s[0].toNat - 224, by omega, by omega⟩
      rw [show s[0].toNat - 224 = n0 by omega]
      by_cases hl : s.size < 3
      · have hm : mulR s.data.toList 3 n0 2048 = 0 := by unfold mulR; rw [if_pos (by omega)]
        rw [hm]
        clear hm
        go_enter Tryd.func34, Tryd.ntmps34
        go_wp2_with fail
        go_ret
        exact ⟨rfl, rfl⟩
      · have HM : Hid (mulR s.data.toList 3 n0 2048 = if conts s.data.toList (3 - 1) then (if outN 2048 (accN s.data.toList n0 (3 - 1)) then 0 else 3) else 0) := by unfold mulR; rw [if_neg (by omega)]; rfl
        generalize mulR s.data.toList 3 n0 2048 = R at *
        go_enter Tryd.func34, Tryd.ntmps34
        go_wp2_with fail
        rw [show decide ((s[0].toNat : Int) < 240) = true from decide_eq_true (by omega)]
        go_loopw [5, 7] (fun n c wr => ∃ k v : Nat, k + 1 ≤ 3 ∧ c = .int .i64 ((k + 1 : Nat) : Int) ∧ n = .int .i64 v ∧ v = accN s.data.toList n0 k ∧ v + 1 ≤ 32 * 64 ^ k ∧ conts s.data.toList k ∧ wr = w) (fun _ c _ => 3 - (intOf c).toNat)
        case atStart => exact ⟨0, n0, by omega, rfl, rfl, rfl, by omega, fun i hi => by omega, rfl⟩
        case round =>
          obtain ⟨k, v, hk, rfl, rfl, hv, hvl, hct, rfl⟩ := hrel
          have HV := Lib.hid hv
          have HC := Lib.hid hct
          have hpw : 64 ^ k ≤ 64 ^ 3 := Nat.pow_le_pow_right (by omega) (by omega)
          have hvs : v < 8388608 := by omega
          have HVL := Lib.hid hvl
          clear hv hct hpw hvl
          by_cases hlt : k + 1 < 3
          · have h2 : k + 1 < s.size := by omega
            have hbd := byt_at s (k + 1) h2
            have hd := s[k + 1].toNat_lt
            have HB := Lib.hid hbd
            clear hbd
            by_cases hcont : 128 ≤ s[k + 1].toNat ∧ s[k + 1].toNat < 192
            · obtain ⟨v', hv'⟩ : ∃ v' : Nat, 64 * (v : Int) + (s[k + 1].toNat : Int) - 128 = (v' : Int) := ⟨64 * v + (s[k + 1].toNat - 128), by omega⟩
              have HA : Hid (v' = accN s.data.toList n0 (k + 1)) := by
                show v' = 64 * accN s.data.toList n0 k + (byt s.data.toList (k + 1) - 128)
                rw [HB.out, ← HV.out]; omega
              have HL : Hid (v' + 1 ≤ 32 * 64 ^ (k + 1)) := by have := HVL.out; rw [Nat.pow_succ]; show v' + 1 ≤ 32 * (64 ^ k * 64); omega
              have HC2 := Lib.hid (conts_step _ k HC.out (by rw [HB.out]; exact hcont))
              go_wp2_with fail
              go_roundw
              case rel => exact ⟨k + 1, v', by omega, by go_num, rfl, HA.out, HL.out, HC2.out, by first | rfl | trivial⟩
              case measure => simp [intOf]; omega
            · have hR : Hid (R = 0) := by
                rw [HM.out, if_neg (fun h => hcont (by have := h k (by omega); rw [HB.out] at this; exact this))]; rfl
              rcases (show s[k + 1].toNat < 128 ∨ (128 ≤ s[k + 1].toNat ∧ 192 ≤ s[k + 1].toNat) by omega) with h3 | h3
              all_goals
                go_wp2_with fail
                go_ret
                exact ⟨ret1 (congrArg (fun n : Nat => Value.int .i64 (n : Int)) hR.out.symm), rfl⟩
          · have hk1 : k = 3 - 1 := by omega
            subst hk1
            have hR := HM.out
            rw [if_pos HC.out, ← HV.out] at hR
            have HR := Lib.hid hR
            clear hR
            rcases (show v < 2048 ∨ (2048 ≤ v ∧ 1114111 < v) ∨ (2048 ≤ v ∧ v ≤ 1114111 ∧ 55296 ≤ v ∧ v < 57344) ∨ (2048 ≤ v ∧ v ≤ 1114111 ∧ v < 55296) ∨ (2048 ≤ v ∧ v ≤ 1114111 ∧ 57344 ≤ v) by omega) with h3 | h3 | h3 | h3 | h3
            all_goals
              have hR := HR.out
              first
                | rw [if_pos (by unfold outN; omega)] at hR
                | rw [if_neg (by unfold outN; omega)] at hR
              have HR2 := Lib.hid hR
              clear hR
              go_wp2_with fail
              go_ret
              exact ⟨ret1 (congrArg (fun n : Nat => Value.int .i64 (n : Int)) HR2.out.symm), rfl⟩
    · rw [if_neg (by omega), if_neg (by omega), if_neg (by omega), if_pos h1]
      obtain ⟨n0, hn0, hnl⟩ : ∃ n0 : Nat, (s[0].toNat : Int) - 240 = (n0 : Int) ∧ n0 < 32 := ⟨s[0].toNat - 240, by omega, by omega⟩
      rw [show s[0].toNat - 240 = n0 by omega]
      by_cases hl : s.size < 4
      · have hm : mulR s.data.toList 4 n0 65536 = 0 := by unfold mulR; rw [if_pos (by omega)]
        rw [hm]
        clear hm
        go_enter Tryd.func34, Tryd.ntmps34
        go_wp2_with fail
        go_ret
        exact ⟨rfl, rfl⟩
      · have HM : Hid (mulR s.data.toList 4 n0 65536 = if conts s.data.toList (4 - 1) then (if outN 65536 (accN s.data.toList n0 (4 - 1)) then 0 else 4) else 0) := by unfold mulR; rw [if_neg (by omega)]; rfl
        generalize mulR s.data.toList 4 n0 65536 = R at *
        go_enter Tryd.func34, Tryd.ntmps34
        go_wp2_with fail
        rw [show decide ((s[0].toNat : Int) < 248) = true from decide_eq_true (by omega)]
        go_loopw [5, 7] (fun n c wr => ∃ k v : Nat, k + 1 ≤ 4 ∧ c = .int .i64 ((k + 1 : Nat) : Int) ∧ n = .int .i64 v ∧ v = accN s.data.toList n0 k ∧ v + 1 ≤ 32 * 64 ^ k ∧ conts s.data.toList k ∧ wr = w) (fun _ c _ => 4 - (intOf c).toNat)
        case atStart => exact ⟨0, n0, by omega, rfl, rfl, rfl, by omega, fun i hi => by omega, rfl⟩
        case round =>
          obtain ⟨k, v, hk, rfl, rfl, hv, hvl, hct, rfl⟩ := hrel
          have HV := Lib.hid hv
          have HC := Lib.hid hct
          have hpw : 64 ^ k ≤ 64 ^ 3 := Nat.pow_le_pow_right (by omega) (by omega)
          have hvs : v < 8388608 := by omega
          have HVL := Lib.hid hvl
          clear hv hct hpw hvl
          by_cases hlt : k + 1 < 4
          · have h2 : k + 1 < s.size := by omega
            have hbd := byt_at s (k + 1) h2
            have hd := s[k + 1].toNat_lt
            have HB := Lib.hid hbd
            clear hbd
            by_cases hcont : 128 ≤ s[k + 1].toNat ∧ s[k + 1].toNat < 192
            · obtain ⟨v', hv'⟩ : ∃ v' : Nat, 64 * (v : Int) + (s[k + 1].toNat : Int) - 128 = (v' : Int) := ⟨64 * v + (s[k + 1].toNat - 128), by omega⟩
              have HA : Hid (v' = accN s.data.toList n0 (k + 1)) := by
                show v' = 64 * accN s.data.toList n0 k + (byt s.data.toList (k + 1) - 128)
                rw [HB.out, ← HV.out]; omega
              have HL : Hid (v' + 1 ≤ 32 * 64 ^ (k + 1)) := by have := HVL.out; rw [Nat.pow_succ]; show v' + 1 ≤ 32 * (64 ^ k * 64); omega
              have HC2 := Lib.hid (conts_step _ k HC.out (by rw [HB.out]; exact hcont))
              go_wp2_with fail
              go_roundw
              case rel => exact ⟨k + 1, v', by omega, by go_num, rfl, HA.out, HL.out, HC2.out, by first | rfl | trivial⟩
              case measure => simp [intOf]; omega
            · have hR : Hid (R = 0) := by
                rw [HM.out, if_neg (fun h => hcont (by have := h k (by omega); rw [HB.out] at this; exact this))]; rfl
              rcases (show s[k + 1].toNat < 128 ∨ (128 ≤ s[k + 1].toNat ∧ 192 ≤ s[k + 1].toNat) by omega) with h3 | h3
              all_goals
                go_wp2_with fail
                go_ret
                exact ⟨ret1 (congrArg (fun n : Nat => Value.int .i64 (n : Int)) hR.out.symm), rfl⟩
          · have hk1 : k = 4 - 1 := by omega
            subst hk1
            have hR := HM.out
            rw [if_pos HC.out, ← HV.out] at hR
            have HR := Lib.hid hR
            clear hR
            rcases (show v < 65536 ∨ (65536 ≤ v ∧ 1114111 < v) ∨ (65536 ≤ v ∧ v ≤ 1114111 ∧ 55296 ≤ v ∧ v < 57344) ∨ (65536 ≤ v ∧ v ≤ 1114111 ∧ v < 55296) ∨ (65536 ≤ v ∧ v ≤ 1114111 ∧ 57344 ≤ v) by omega) with h3 | h3 | h3 | h3 | h3
            all_goals try (exfalso; omega)
            all_goals
              have hR := HR.out
              first
                | rw [if_pos (by unfold outN; omega)] at hR
                | rw [if_neg (by unfold outN; omega)] at hR
              have HR2 := Lib.hid hR
              clear hR
              go_wp2_with fail
              go_ret
              exact ⟨ret1 (congrArg (fun n : Nat => Value.int .i64 (n : Int)) HR2.out.symm), rfl⟩

end Go.Proofs.YtbelpcniogcfoaaDoor.um
