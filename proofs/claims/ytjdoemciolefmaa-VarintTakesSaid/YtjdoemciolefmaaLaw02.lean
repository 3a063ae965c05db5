/-
  The statements of layer 2.
-/
import Derived.Test.YtjdoemciolefmaaVrall
import Derived.Test.YtjdoemciolefmaaLaw01
namespace Go.Proofs.Ytjdoemciolefmaa.law02
open Go.RowKit Go.Proofs.Ytjdoemciolefmaa.cur Go.Proofs.Ytjdoemciolefmaa.vi
set_option linter.unusedVariables false

theorem Awake01_any (w : World) :
    Calls Try.prog 27 #[] w fun e w' => e = .returned (.bool true) ∧ w.grownBy w' none := by
  go_enter Try.func27, Try.ntmps27
  go_wp2_with (go_at_call 8; refine (law01.awake_any _).mono ?_; rintro e w' ⟨rfl, g⟩)
  go_ret
  exact ⟨rfl, g⟩

def ex1 : ByteArray := ⟨#[172, 130, 0]⟩

theorem ex1_get : getR ex1.data.toList = (0, 0, 2) := by
  have := getR_at (L := [172, 130, 0]) (k := 2) (by decide) (by decide) (by decide) (by decide)
  exact this

theorem enc_300 : enc 300 = [172, 2] := by
  rw [enc_big (by decide), enc_small (by decide)]
  rfl

theorem awake_any (w : World) :
    Calls Try.prog 17 #[] w fun e w' => e = .returned (.bool true) ∧ w.grownBy w' none := by
  have h1 := get_any ex1 (by decide) w
  rw [ex1_get] at h1
  have h2 := fun w => put_any 300 (by decide) w
  rw [show encB 300 = ⟨#[172, 2]⟩ from congrArg (fun l : List UInt8 => (⟨l.toArray⟩ : ByteArray)) enc_300] at h2
  unfold getV at h1
  go_enter Try.func17, Try.ntmps17
  go_wp2_with fail
  refine h1.mono ?_
  rintro e w' ⟨rfl, rfl⟩
  go_wp2_with (first
    | (go_at_call 27; refine (Awake01_any _).mono ?_; rintro e w2 ⟨rfl, g2⟩)
    | (go_at_call 22; refine (h2 _).mono ?_; rintro e w3 ⟨rfl, g3⟩))
  go_ret
  exact ⟨rfl, only_trans g2 g3⟩

theorem row_kept {w w' : World} {base : Nat} {e : TypeId} {size : Nat} {v : Value} {n : Nat} {xs : List Value} (h : w.ownsRow base e size v n xs) (g : w.grownBy w' none) : w'.ownsRow base e size v n xs := by
  refine h.kept g ?_
  cases hb : v.ownBlock with
  | none => exact .inl rfl
  | some k => exact .inr (by simp)

theorem allR_len : ∀ (m : Nat) (L : List UInt8), L.length ≤ m → (allR L).1.length ≤ L.length
  | m, L, hm => by
    by_cases hL : L = []
    · subst hL; rw [allR_nil]; simp
    · have hpos : 0 < L.length := List.length_pos_iff.2 hL
      by_cases h2 : (getR L).2.2 = 0
      · have hb := getR_bounds L
        have hp := hb.2.2.2.2 h2
        rw [allR_ok hL h2]
        unfold glue
        split
        · match m with
          | 0 => omega
          | m + 1 =>
            have := allR_len m (L.drop (getR L).2.1) (by simp; omega)
            simp at this ⊢
            omega
        · simp
      · rw [allR_err hL h2]; simp

set_option maxHeartbeats 1000000 in
set_option maxRecDepth 100000 in
theorem reads_long (n : Int) (s : ByteArray) (hs : s.size ≤ maxLen) (hl : 2000 < s.size) (W : World) :
    Calls Try.prog 5 #[.int .u64 n, .string s] W fun e w' => e = .returned (.bool true) ∧ W.grownBy w' none := by
  unfold maxLen at hs
  go_enter Try.func5, Try.ntmps5
  go_wp2_with (go_at_call 17; refine (awake_any _).mono ?_; rintro e w0 ⟨rfl, g0⟩)
  go_ret
  exact ⟨rfl, g0⟩

set_option maxHeartbeats 2000000 in
set_option maxRecDepth 100000 in
theorem reads_main (n : Nat) (hn : n < 18446744073709551616) (s : ByteArray) (hs : s.size ≤ 2000) (W : World) :
    Calls Try.prog 5 #[.int .u64 n, .string s] W fun e w' => e = .returned (.bool true) ∧ W.grownBy w' none := by
  have hg := fun w => get_any s (by unfold maxLen; omega) w
  have hrg := fun w => rget_any s (by unfold maxLen; omega) w
  have ha := fun w => all_any s (by omega) w
  have hra := fun w => rall_any s (by omega) w
  have hp := fun w => put_any n hn w
  have hrp := fun w => rput_any n hn w
  have hz := fun w => size_any n hn w
  have hlen := allR_len _ s.data.toList (Nat.le_refl _)
  rw [show s.data.toList.length = s.size by simp] at hlen
  have hel : (encB n).size = (enc n).length := by simp [encB, ByteArray.size]
  rw [← hel] at hz
  have h10 : (encB n).size ≤ 10 := by rw [hel]; exact enc_len_ten hn
  clear hel
  unfold getV at hg hrg
  generalize getR s.data.toList = r at *
  generalize allR s.data.toList = q at *
  generalize encB n = en at *
  obtain ⟨x, m, E⟩ := r
  obtain ⟨l, F⟩ := q
  simp only at hg hrg hlen
  go_enter Try.func5, Try.ntmps5
  go_wp2_with (go_at_call 17; refine (awake_any _).mono ?_; rintro e w0 ⟨rfl, g0⟩)
  refine (hg _).mono ?_
  rintro e w' ⟨rfl, rfl⟩
  go_wp2_with (go_at_call 19; refine (hrg _).mono ?_; rintro e w' ⟨rfl, rfl⟩)
  refine (ha _).mono ?_
  rintro e w1 ⟨v1, rfl, g1, o1⟩
  have O1 := Lib.hid o1
  have G1 := Lib.hid (only_trans g0 g1)
  clear o1 g0 g1
  go_wp2_with fail
  refine (hra _).mono ?_
  rintro e w2 ⟨v2, rfl, g2, o2⟩
  have O1 := Lib.hid (row_kept O1.out g2)
  have O2 := Lib.hid o2
  have G2 := Lib.hid (only_trans G1.out g2)
  clear o2 g2
  go_wp2_with fail
  refine (hp _).mono ?_
  rintro e w3 ⟨rfl, g3⟩
  go_wp2_with fail
  refine (hrp _).mono ?_
  rintro e w4 ⟨rfl, g4⟩
  go_wp2_with (go_at_call 24; refine (hz _).mono ?_; rintro e w' ⟨rfl, rfl⟩)
  refine (hrp _).mono ?_
  rintro e w5 ⟨rfl, g5⟩
  have G5 := only_trans (only_trans g3 g4) g5
  have hq := equal_same l (by unfold maxLen; omega) (row_kept O1.out G5) (row_kept O2.out G5)
  have G5 := Lib.hid (only_trans G2.out G5)
  clear g3 g4 g5
  go_wp2_with (go_at_call 25; refine hq.mono ?_; rintro e w6 ⟨rfl, g6⟩)
  go_ret
  exact ⟨rfl, only_trans G5.out g6⟩

theorem reads_any (W : World) (a : Int) (wa : (Lit.int .u64 a).wf = true) (s : ByteArray) (hs : s.size ≤ maxLen) :
    Calls Try.prog 5 #[.int .u64 a, .string s] W fun e w' => e = .returned (.bool true) ∧ W.grownBy w' none := by
  have hx : 0 ≤ a ∧ a ≤ 18446744073709551615 := by simpa [Lit.wf, IntKind.min, IntKind.max, IntKind.signed, IntKind.bits] using wa
  by_cases hl : 2000 < s.size
  · exact reads_long a s hs hl W
  · have := reads_main a.toNat (by omega) s (by omega) W
    rwa [show ((a.toNat : Nat) : Int) = a by omega] at this

end Go.Proofs.Ytjdoemciolefmaa.law02
