/-
  FrameLong: at the bound.
-/
import Derived.Test.YtkggjokpbopjdaaLaw05
namespace Go.Proofs.Ytkggjokpbopjdaa.law05
open Go.RowKit Go.Proofs.Ytkggjokpbopjdaa.fm Go.Proofs.Ytkggjokpbopjdaa.crcm Go.Proofs.Ytkggjokpbopjdaa.vi
set_option linter.unusedVariables false
set_option linter.unusedSimpArgs false

theorem enc_65537 : enc 65537 = [129, 128, 4] := by
  rw [enc_big (by decide), enc_big (by decide), enc_small (by decide)]
  rfl

theorem long_read (X : List UInt8) : parseR ([81, 70, 129, 128, 4] ++ (X ++ [120, 120, 120, 120, 120])) = ([], 0, 4) := by
  have h := getR_enc (n := 65537) (by decide) (X ++ [120, 120, 120, 120, 120])
  rw [enc_65537] at h
  show parseR (81 :: 70 :: ([129, 128, 4] ++ (X ++ [120, 120, 120, 120, 120]))) = _
  rw [parseR_mark]
  unfold bodyR
  rw [h]
  rfl

end Go.Proofs.Ytkggjokpbopjdaa.law05
