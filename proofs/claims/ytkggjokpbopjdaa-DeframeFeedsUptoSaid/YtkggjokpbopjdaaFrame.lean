/-
  The contracts of package frame.
-/
import Derived.Test.YtkggjokpbopjdaaFrall
import Derived.Test.YtkggjokpbopjdaaCrcPut
namespace Go.Proofs.Ytkggjokpbopjdaa.fm
open Go.RowKit Go.Proofs.Ytkggjokpbopjdaa.vi Go.Proofs.Ytkggjokpbopjdaa.crcm Go.Proofs.Ytkggjokpbopjdaa.cur
set_option linter.unusedVariables false
set_option linter.unusedSimpArgs false

/-- How many bytes a frame of n has. -/
def sizeN (n : Int) : Nat := if 0 ≤ n ∧ n ≤ 65536 then 2 + (enc n.toNat).length + n.toNat + 4 else 0

theorem fsize_any (n : Int) (w : World) :
    Calls Try.prog 17 #[.int .i64 n] w fun e w' => e = .returned (.int .i64 (sizeN n : Nat)) ∧ w = w' := by
  by_cases h : 0 ≤ n ∧ n ≤ 65536
  · obtain ⟨m, rfl⟩ := Int.eq_ofNat_of_zero_le h.1
    have hm : m ≤ 65536 := by omega
    have hz := fun w => size_any m (by omega) w
    have h10 := enc_len_ten (n := m) (by omega)
    have HZ : Hid (sizeN (m : Int) = 2 + (enc m).length + m + 4) := if_pos h
    generalize (enc m).length = l at *
    clear h
    go_enter Try.func17, Try.ntmps17
    go_wp2_with fail
    refine (hz _).mono ?_
    rintro e w' ⟨rfl, rfl⟩
    go_wp2_with fail
    go_ret
    refine ⟨ret1 (congrArg (Value.int .i64) ?_), rfl⟩
    rw [HZ.out]
    show _ = ((2 + l + m + 4 : Nat) : Int)
    omega
  · have HZ : Hid (sizeN n = 0) := if_neg h
    rcases (show n < 0 ∨ (0 ≤ n ∧ 65536 < n) by omega) with h1 | ⟨h1, h2⟩
    all_goals
      go_enter Try.func17, Try.ntmps17
      go_wp2_with fail
      go_ret
      exact ⟨ret1 (congrArg (Value.int .i64) (by rw [HZ.out]; rfl)), rfl⟩

theorem wrap_ok (p : ByteArray) (hp : p.size ≤ 65536) (w : World) :
    Calls Try.prog 10 #[.string p] w fun e w' => e = .returned (.tuple #[.string (str (fr p.data.toList)), .int .i64 0]) ∧ w.grownBy w' none := by
  have h1 := fun w => put_any p.size (by omega) w
  have h2 := fun w => crc.sum_one p (by unfold maxLen; omega) w
  have hS : sumN p.data.toList < 4294967296 := by unfold sumN; omega
  have h3 := fun w => crc.put_any (sumN p.data.toList) hS w
  have HF := Lib.hid (fr_text p)
  have h10 : (encB p.size).size ≤ 10 := by rw [show (encB p.size).size = (enc p.size).length from size_of_list _]; exact enc_len_ten (by omega)
  have h4 : (crc.putB (sumN p.data.toList)).size = 4 := rfl
  generalize encB p.size = E at *
  generalize crc.putB (sumN p.data.toList) = P at *
  generalize sumN p.data.toList = S at *
  go_enter Try.func10, Try.ntmps10
  go_wp2_with fail
  refine (h1 _).mono ?_
  rintro e w1 ⟨rfl, g1⟩
  go_wp2_with fail
  refine (h2 _).mono ?_
  rintro e w2 ⟨rfl, g2⟩
  go_wp2_with fail
  refine (h3 _).mono ?_
  rintro e w3 ⟨rfl, g3⟩
  go_wp2_with fail
  go_ret2
  exact ⟨ret2 (congrArg Value.string HF.out) rfl, only_trans (only_trans g1 g2) g3⟩

theorem wrap_long (p : ByteArray) (hp : 65536 < p.size) (hp2 : p.size ≤ maxLen) (w : World) :
    Calls Try.prog 10 #[.string p] w fun e w' => e = .returned (.tuple #[.string ⟨#[]⟩, .int .i64 4]) ∧ w.grownBy w' none := by
  unfold maxLen at hp2
  go_enter Try.func10, Try.ntmps10
  go_wp2_with fail
  go_ret2
  exact ⟨rfl, only_refl _ _⟩

end Go.Proofs.Ytkggjokpbopjdaa.fm
