/-
  The statements of layer 9, for whatever keeps the contracts of fields and of their bytes.
-/
import Derived.Test.YtieheclnkopfpaaGreatDoorLaw08
import Derived.Test.YtieheclnkopfpaaGreatDoorWread
namespace Go.Proofs.YtieheclnkopfpaaGreatDoor.law09
open Go.RowKit Go.Proofs.YtieheclnkopfpaaGreatDoor.tr Go.Proofs.YtieheclnkopfpaaGreatDoor.wm Go.Proofs.YtieheclnkopfpaaGreatDoor.vi
set_option linter.unusedVariables false
set_option linter.unusedSimpArgs false

def sizeR (ts : List Tree) : Nat := if checkL 0 0 ts ≠ 0 then 0 else (wrL ts).length

/-- What layer 9's awake asks. -/
structure WCore where
  fc : law08.FCore
  ofText : ∀ (a : Nat) (s : ByteArray) (w : World), Calls Tryz.prog 44 #[.int .u64 (a : Nat), .string s] w fun e w' => e = .returned (.agg #[.int .u64 (a : Nat), .int .i64 1, .int .u64 0, .string s, .slice none 0 0]) ∧ w.grownBy w' none
  put : ∀ (ts : List Tree) (w : World) (S : Nat → Prop) (v : Value), sizeL ts ≤ 50000 → fitsL ts → (checkL 0 0 ts = 0 → (wrL ts).length ≤ 100000) → Rd w S v ts → Calls Tryz.prog 43 #[v] w fun e w' => e = .returned (.tuple #[.string (txt (putR ts).1), .int .i64 ((putR ts).2 : Nat)]) ∧ w.grownBy w' none

theorem awake8_any (I : law08.FCore) (w : World) (hT : I.Tab w) :
    Calls Tryz.prog 45 #[] w fun e w' => e = .returned (.bool true) ∧ w.grownBy w' none := by
  go_enter Tryz.func45, Tryz.ntmps45
  go_wp2_with (go_at_call 61; refine (law08.awake_any I _ hT).mono ?_; rintro e w' ⟨rfl, g⟩)
  go_ret
  exact ⟨rfl, g⟩

/-- The example's fields. -/
def exL : List Tree := [.mk 1 0 300 ⟨#[]⟩ [], .mk 2 1 0 ⟨#[97, 98]⟩ []]
theorem ex_check : checkL 0 0 exL = 0 := by
  unfold exL
  refine check_mk (by simp [Tree.tag]) (by simp [Tree.tag]) (by simp [Tree.tag]) (by simp [bad, Tree.typ, Tree.num, Tree.text, Tree.list, ByteArray.size]) (by simp [Tree.typ]) (by simp only [Tree.list]; exact checkL_nil _ _) ?_
  exact check_mk (by simp [Tree.tag]) (by simp [Tree.tag]) (by simp [Tree.tag]) (by simp [bad, Tree.typ, Tree.num, Tree.text, Tree.list, ByteArray.size]) (by simp [Tree.typ]) (by simp only [Tree.list]; exact checkL_nil _ _) (checkL_nil _ _)
theorem wr_num (a n : Nat) (x : ByteArray) (l : List Tree) : wrT (.mk a 0 n x l) = enc (4 * a) ++ enc n := by
  rw [wr_eq, if_pos (by simp [Tree.typ])]
  rfl
theorem wr_text (a n : Nat) (x : ByteArray) (l : List Tree) : wrT (.mk a 1 n x l) = enc (4 * a + 1) ++ (enc x.size ++ x.data.toList) := by
  rw [wr_eq, if_neg (by simp [Tree.typ]), if_neg (by simp [Tree.typ])]
  rfl
theorem ex_wr : wrL exL = [4, 172, 2, 9, 2, 97, 98] := by
  have e1 : enc 4 = [4] := enc_small (by omega)
  have e2 : enc 300 = [172, 2] := by rw [enc_big (by omega), enc_small (by omega)]; rfl
  have e3 : enc 9 = [9] := enc_small (by omega)
  have e4 : enc 2 = [2] := enc_small (by omega)
  unfold exL
  rw [wrL_cons, wrL_cons, wrL_nil, wr_num, wr_text]
  show enc 4 ++ enc 300 ++ ((enc 9 ++ (enc 2 ++ [97, 98])) ++ []) = _
  rw [e1, e2, e3, e4]
  rfl
theorem ex_put : putR exL = ([4, 172, 2, 9, 2, 97, 98], 0) := by
  unfold putR
  rw [if_neg (by simp [ex_check]), ex_wr, if_neg (by simp)]
theorem ex_fits : fitsL exL := by
  unfold exL
  exact (fitsL_cons _ _).2 ⟨by simp [Tree.num], by simp only [Tree.list]; rw [fitsL]; trivial, (fitsL_cons _ _).2 ⟨by simp [Tree.num], by simp only [Tree.list]; rw [fitsL]; trivial, by rw [fitsL]; trivial⟩⟩
theorem ex_size : sizeL exL = 2 := by unfold exL; rw [sizeL_cons, sizeL_cons]; simp [Tree.list, sizeL]

/-- The example's row. -/
theorem rd_ex (w : World) (ty : TypeId) : Rd (w.alloc (.cells #[.int .u64 1, .int .i64 0, .int .u64 300, .string ⟨#[]⟩, .slice none 0 0, .int .u64 2, .int .i64 1, .int .u64 0, .string ⟨#[97, 98]⟩, .slice none 0 0] ty)) (fun _ => True) (.slice (some ⟨w.heap.size, 0, none⟩) 2 2) exL := by
  refine .row _ _ _ _ _ (fun _ => .slice none 0 0) rfl (by omega) (by omega) (by unfold maxLen; omega) trivial (fun i t ht => ?_) (fun i t ht => ?_)
  · have hi : i = 0 ∨ i = 1 := by have := (List.getElem?_eq_some_iff.1 ht).1; simp [exL] at this; omega
    rcases hi with rfl | rfl <;> (simp [exL] at ht; subst ht; exact ⟨by rw [cell_new]; rfl, by rw [cell_new]; rfl, by rw [cell_new]; rfl, by rw [cell_new]; rfl, by rw [cell_new]; rfl⟩)
  · have hi : i = 0 ∨ i = 1 := by have := (List.getElem?_eq_some_iff.1 ht).1; simp [exL] at this; omega
    rcases hi with rfl | rfl <;> (simp [exL] at ht; subst ht; exact .nil _ _)

set_option maxHeartbeats 2000000 in
set_option maxRecDepth 100000 in
theorem awake_any (I : WCore) (w : World) (hT : I.fc.Tab w) :
    Calls Tryz.prog 36 #[] w fun e w' => e = .returned (.bool true) ∧ w.grownBy w' none := by
  have HT := Lib.hid (fun w' (g : w.grownBy w' none) => awake8_any I.fc w' (I.fc.kept hT g))
  have HN := Lib.hid I.fc.ofNum
  have HX := Lib.hid I.ofText
  have HP := Lib.hid (fun w => I.put exL _ _ _ (by rw [ex_size]; omega) ex_fits (fun _ => by rw [ex_wr]; simp) (rd_ex w 38))
  rw [ex_put] at HP
  have hb : ((txt [4, 172, 2, 9, 2, 97, 98]).toList == [4, 172, 2, 9, 2, 97, 98]) = true := by rw [ByteArray.toList_eq, txt_list]; exact beq_self_eq_true _
  go_enter Tryz.func36, Tryz.ntmps36
  go_wp2_with fail
  refine (HN.out 1 300 _).mono ?_
  rintro e w1 ⟨rfl, g1⟩
  have G1 := Lib.hid g1
  clear g1
  go_wp2_with fail
  refine (HX.out 2 _ _).mono ?_
  rintro e w2 ⟨rfl, g2⟩
  have G2 := Lib.hid (only_trans G1.out g2)
  clear g2
  go_wp2_with fail
  refine (HP.out _).mono ?_
  rintro e w3 ⟨rfl, g3⟩
  have G3 := Lib.hid (only_trans (only_alloc G2.out _) g3)
  clear g3
  go_wp2_with fail
  refine (HT.out _ G3.out).mono ?_
  rintro e w4 ⟨rfl, g4⟩
  have G4 := Lib.hid (only_trans G3.out g4)
  clear g4
  go_wp2_with fail
  go_ret
  exact ⟨rfl, G4.out⟩

theorem Awake_any (I : WCore) (w : World) (hT : I.fc.Tab w) :
    Calls Tryz.prog 22 #[] w fun e w' => e = .returned (.bool true) ∧ w.grownBy w' none := by
  go_enter Tryz.func22, Tryz.ntmps22
  go_wp2_with (go_at_call 36; refine (awake_any I _ hT).mono ?_; rintro e w' ⟨rfl, g⟩)
  go_ret
  exact ⟨rfl, g⟩

end Go.Proofs.YtieheclnkopfpaaGreatDoor.law09
