/-
  The contracts of package frame.
-/
import Derived.Test.YtbelpcniogcfoaaDoorFrall
import Derived.Test.YtbelpcniogcfoaaDoorCrcPut
namespace Go.Proofs.YtbelpcniogcfoaaDoor.fm
open Go.RowKit Go.Proofs.YtbelpcniogcfoaaDoor.vi Go.Proofs.YtbelpcniogcfoaaDoor.crcm Go.Proofs.YtbelpcniogcfoaaDoor.cur
set_option linter.unusedVariables false
set_option linter.unusedSimpArgs false

/-- How many bytes a frame of n has. -/
def sizeN (n : Int) : Nat := if 0 ≤ n ∧ n ≤ 65536 then 2 + (enc n.toNat).length + n.toNat + 4 else 0

theorem wrap_ok (p : ByteArray) (hp : p.size ≤ 65536) (w : World) :
    Calls Tryd.prog 66 #[.string p] w fun e w' => e = .returned (.tuple #[.string (str (fr p.data.toList)), .int .i64 0]) ∧ w.grownBy w' none := by
  have h1 := fun w => put_any p.size (by omega) w
  have h2 := fun w => crc.sum_one p (by unfold maxLen; omega) w
  have hS : sumN p.data.toList < 4294967296 := by unfold sumN; omega
  have h3 := fun w => crc.put_any (sumN p.data.toList) hS w
  have HF := Lib.hid (fr_text p)
  have h10 : (encB p.size).size ≤ 10 := by rw [show (encB p.size).size = (enc p.size).length from size_of_list _]; exact enc_len_ten (by omega)
  have h4 : (crc.putB (sumN p.data.toList)).size = 4 := rfl
  generalize encB p.size = E at *
  generalize crc.putB (sumN p.data.toList) = P at *
  generalize sumN p.data.toList = S at *
  go_enter Tryd.func66, Tryd.ntmps66
  go_wp2_with fail
  refine (h1 _).mono ?_
  rintro e w1 ⟨rfl, g1⟩
  go_wp2_with fail
  refine (h2 _).mono ?_
  rintro e w2 ⟨rfl, g2⟩
  go_wp2_with fail
  refine (h3 _).mono ?_
  rintro e w3 ⟨rfl, g3⟩
  go_wp2_with fail
  go_ret2
  exact ⟨ret2 (congrArg Value.string HF.out) rfl, only_trans (only_trans g1 g2) g3⟩

theorem wrap_long (p : ByteArray) (hp : 65536 < p.size) (hp2 : p.size ≤ maxLen) (w : World) :
    Calls Tryd.prog 66 #[.string p] w fun e w' => e = .returned (.tuple #[.string ⟨#[]⟩, .int .i64 4]) ∧ w.grownBy w' none := by
  unfold maxLen at hp2
  go_enter Tryd.func66, Tryd.ntmps66
  go_wp2_with fail
  go_ret2
  exact ⟨rfl, only_refl _ _⟩

end Go.Proofs.YtbelpcniogcfoaaDoor.fm
