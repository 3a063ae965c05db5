/-
  FrameLong: at the bound.
-/
import Derived.Test.YtkggjokpbopjdaaLaw05
namespace Go.Proofs.Ytkggjokpbopjdaa.law05
open Go.RowKit Go.Proofs.Ytkggjokpbopjdaa.fm Go.Proofs.Ytkggjokpbopjdaa.crcm Go.Proofs.Ytkggjokpbopjdaa.vi
set_option linter.unusedVariables false
set_option linter.unusedSimpArgs false

theorem enc_65537 : enc 65537 = [129, 128, 4] := by
  rw [enc_big (by decide), enc_big (by decide), enc_small (by decide)]
  rfl

theorem long_read (X : List UInt8) : parseR ([81, 70, 129, 128, 4] ++ (X ++ [120, 120, 120, 120, 120])) = ([], 0, 4) := by
  have h := getR_enc (n := 65537) (by decide) (X ++ [120, 120, 120, 120, 120])
  rw [enc_65537] at h
  show parseR (81 :: 70 :: ([129, 128, 4] ++ (X ++ [120, 120, 120, 120, 120]))) = _
  rw [parseR_mark]
  unfold bodyR
  rw [h]
  rfl

set_option maxHeartbeats 4000000 in
set_option maxRecDepth 100000 in
theorem long_any (W : World) :
    Calls Try.prog 5 #[] W fun e w' => e = .returned (.bool true) ∧ W.grownBy w' none := by
  have hr := fun w => Try.strings_Repeat ⟨#[120]⟩ 65536 w (by decide) (by decide)
  have hXl := Lib.repeatL_length (⟨#[120]⟩ : ByteArray).data.toList 65536
  rw [show (⟨#[120]⟩ : ByteArray).data.toList.length = 1 from rfl] at hXl
  generalize Lib.repeatL (⟨#[120]⟩ : ByteArray).data.toList 65536 = X at *
  have hS : (⟨X.toArray⟩ : ByteArray) = str X := rfl
  rw [hS] at hr
  have hXs : (str X).size = 65536 := by rw [str_size, hXl]
  have h1 := fun w => wrap_ok (str X) (by omega) w
  rw [str_list] at h1
  have hfs : (str (fr X)).size ≤ 70000 := by
    rw [str_size, fr_len]
    have := enc_len_ten (n := X.length) (by omega)
    omega
  have h2 := fun w => parse_any (str (fr X)) (by omega) w
  have hp := parse_fr X [] (by omega)
  rw [List.append_nil] at hp
  rw [str_list, hp] at h2
  have h3 := fun w => wrap_long (str X ++ ⟨#[120]⟩) (by rw [ByteArray.size_append, hXs]; decide) (by rw [ByteArray.size_append, hXs]; decide) w
  have h4 := fun w => parse_any (⟨#[81, 70, 129, 128, 4]⟩ ++ str X ++ ⟨#[120, 120, 120, 120, 120]⟩) (by rw [ByteArray.size_append, ByteArray.size_append, hXs]; decide) w
  have hL : (⟨#[81, 70, 129, 128, 4]⟩ ++ str X ++ ⟨#[120, 120, 120, 120, 120]⟩ : ByteArray).data.toList = [81, 70, 129, 128, 4] ++ (X ++ [120, 120, 120, 120, 120]) := by simp [str]
  rw [hL, long_read] at h4
  have h5 := fun w => fsize_any 65537 w
  rw [show sizeN 65537 = 0 from if_neg (by decide)] at h5
  have hl : (fr X).length = (str (fr X)).size := (str_size _).symm
  rw [hl] at h2
  unfold parseV at h2 h4
  simp only at h2 h4
  generalize str (fr X) = F at *
  generalize str X = Y at *
  clear hL hp hl hS hXl
  go_enter Try.func5, Try.ntmps5
  go_wp2_with fail
  refine (hr _).mono ?_
  rintro e w1 ⟨rfl, b1⟩
  have g1 := only_of_below b1 none
  clear b1
  go_wp2_with fail
  refine (h1 _).mono ?_
  rintro e w2 ⟨rfl, g2⟩
  go_wp2_with fail
  refine (h2 _).mono ?_
  rintro e w3 ⟨rfl, g3⟩
  go_wp2_with fail
  refine (h3 _).mono ?_
  rintro e w4 ⟨rfl, g4⟩
  go_wp2_with fail
  refine (h4 _).mono ?_
  rintro e w5 ⟨rfl, g5⟩
  go_wp2_with fail
  refine (awake_any _).mono ?_
  rintro e w6 ⟨rfl, g6⟩
  go_wp2_with fail
  refine (h5 _).mono ?_
  rintro e w' ⟨rfl, rfl⟩
  go_wp2_with fail
  go_ret
  exact ⟨rfl, only_trans (only_trans (only_trans (only_trans (only_trans g1 g2) g3) g4) g5) g6⟩

end Go.Proofs.Ytkggjokpbopjdaa.law05
