/-
  FrameBack: a frame is read as it was; cut it is too short; turned it has another sum.
-/
import Derived.Test.YtkggjokpbopjdaaLaw05
import Derived.Test.YtkggjokpbopjdaaRow
namespace Go.Proofs.Ytkggjokpbopjdaa.law05
open Go.RowKit Go.Proofs.Ytkggjokpbopjdaa.fm Go.Proofs.Ytkggjokpbopjdaa.crcm Go.Proofs.Ytkggjokpbopjdaa.vi
set_option linter.unusedVariables false
set_option linter.unusedSimpArgs false

set_option maxHeartbeats 1000000 in
set_option maxRecDepth 100000 in
theorem back_long (p s : ByteArray) (hp : p.size ≤ maxLen) (hs : s.size ≤ maxLen) (hl : 4000 < p.size ∨ 4000 < s.size) (c a n : Int) (W : World) :
    Calls Try.prog 4 #[.string p, .string s, .int .u16 c, .int .u16 a, .int .u32 n] W fun e w' => e = .returned (.bool true) ∧ W.grownBy w' none := by
  unfold maxLen at hs hp
  rcases (show 4000 < p.size ∨ (¬ 4000 < p.size ∧ 4000 < s.size) by omega) with h | ⟨h, h'⟩ <;> clear hl
  all_goals
    go_enter Try.func4, Try.ntmps4
    go_wp2_with fail
    refine (awake_any _).mono ?_
    rintro e w0 ⟨rfl, g0⟩
    go_wp2_with fail
    go_ret
    exact ⟨rfl, g0⟩

/-- What a head, and turned bytes behind it, are read as. -/
theorem turned {p N t : List UInt8} {g e : Nat} (hp : p.length ≤ 65536) (hN : N.length = p.length + 4) (hg : g < 8 * (p.length + 4)) (he : e < 2 ^ 32) (hn : num N = num (p ++ put4 (sumN p)) ^^^ 2 ^ g * e) :
    (parseR (hd p.length ++ (N ++ t))).2.2 = if e = 0 then 0 else 6 := by
  rw [parse_at p.length hp N t hN]
  have hl : sumN p < 4294967296 := by unfold sumN; omega
  have hb := burst (p ++ put4 (sumN p)) N (by rw [hN]; simp [put4]) e g he (by simp [put4]; omega) hn
  have h1 := (check_iff p (put4 (sumN p)) rfl).1 (num_put4 hl)
  have h2 := check_iff (N.take p.length) (N.drop p.length) (by rw [List.length_drop]; omega)
  rw [List.take_append_drop] at h2
  rw [h1] at hb
  by_cases h0 : e = 0
  · rw [if_pos h0, if_pos (h2.2 (hb.2 h0))]
  · rw [if_neg h0, if_neg (fun h => h0 (hb.1 (h2.1 h)))]

theorem set_behind (h N : List UInt8) (j : Nat) (b : UInt8) : (h ++ N).set (h.length + j) b = h ++ N.set j b := by
  rw [List.set_append_right _ _ (by omega)]
  congr 2
  omega
theorem get_behind (h N : List UInt8) (j : Nat) : (h ++ N).getD (h.length + j) 0 = N.getD j 0 := by
  rw [List.getD_eq_getElem?_getD, List.getD_eq_getElem?_getD, List.getElem?_append_right (by omega)]
  congr 2
  omega

end Go.Proofs.Ytkggjokpbopjdaa.law05
