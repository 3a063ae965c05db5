/-
  The document's frames: Text, Wrap, Parse.
-/
import Derived.Test.YtbelpcniogcfoaaDoorTexts
import Derived.Test.YtbelpcniogcfoaaDoorCrcRef
import Derived.Test.YtbelpcniogcfoaaDoorVrall
namespace Go.Proofs.YtbelpcniogcfoaaDoor.fm
open Go.RowKit Go.Proofs.YtbelpcniogcfoaaDoor.vi Go.Proofs.YtbelpcniogcfoaaDoor.crcm
set_option linter.unusedVariables false
set_option linter.unusedSimpArgs false

theorem fr_text (p : ByteArray) : (⟨#[81, 70]⟩ ++ encB p.size ++ p ++ crc.putB (sumN p.data.toList) : ByteArray) = str (fr p.data.toList) := by
  apply ByteArray.ext
  apply Array.ext'
  simp [str, fr, hd, encB, crc.putB]

def parseV (r : List UInt8 × Nat × Nat) : Value := .tuple #[.string (str r.1), .int .i64 r.2.1, .int .i64 r.2.2]

theorem beq_list (a b : ByteArray) : (a.toList == b.toList) = decide (a.data.toList = b.data.toList) := by
  rw [ByteArray.toList_eq, ByteArray.toList_eq]
  by_cases h : a.data.toList = b.data.toList
  · rw [decide_eq_true h, h]; simp
  · rw [decide_eq_false h]; simpa using h

theorem ext_list (s : ByteArray) (a b : Nat) : (s.extract a b).data.toList = (s.data.toList.drop a).take (b - a) := by
  simp [List.take_drop]

theorem at_ne (s : ByteArray) (j : Nat) (h : j < s.size) (b : UInt8) (B : Int) (hB : B = (b.toNat : Int)) (hb : s.data.toList.getD j 0 ≠ b) : ((s[j].toNat : Int) != B) = true := by
  subst hB
  rw [getD_bytes s j h] at hb
  have : s[j].toNat ≠ b.toNat := fun e => hb (UInt8.toNat_inj.1 e)
  simp; omega
theorem at_eq (s : ByteArray) (j : Nat) (h : j < s.size) (b : UInt8) (B : Int) (hB : B = (b.toNat : Int)) (hb : s.data.toList.getD j 0 = b) : ((s[j].toNat : Int) != B) = false := by
  subst hB
  rw [getD_bytes s j h] at hb
  rw [hb]
  simp

end Go.Proofs.YtbelpcniogcfoaaDoor.fm
