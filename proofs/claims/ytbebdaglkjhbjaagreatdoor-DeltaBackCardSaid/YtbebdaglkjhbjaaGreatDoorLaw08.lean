/-
  The statements of layer 8, for whatever keeps the contracts of fields.
-/
import Derived.Test.YtbebdaglkjhbjaaGreatDoorBundT
namespace Go.Proofs.YtbebdaglkjhbjaaGreatDoor.law08
open Go.RowKit Go.Proofs.YtbebdaglkjhbjaaGreatDoor.tr
set_option linter.unusedVariables false
set_option linter.unusedSimpArgs false

/-- What layer 8's awake asks (Tab: what must lie in memory from the start on). -/
structure FCore where
  Tab : World → Prop
  kept : ∀ {w w' : World}, Tab w → w.grownBy w' none → Tab w'
  awake7 : ∀ w : World, Tab w → Calls Tryz.prog 214 #[] w fun e w' => e = .returned (.bool true) ∧ w.grownBy w' none
  ofNum : ∀ (a b : Nat) (w : World), Calls Tryz.prog 175 #[.int .u64 (a : Nat), .int .u64 (b : Nat)] w fun e w' => e = .returned (.agg #[.int .u64 (a : Nat), .int .i64 0, .int .u64 (b : Nat), .string ⟨#[]⟩, .slice none 0 0]) ∧ w.grownBy w' none
  check : ∀ (ts : List Tree) (w : World) (S : Nat → Prop) (v : Value), sizeL ts ≤ 100000 → Rd w S v ts → Calls Tryz.prog 180 #[v] w fun e w' => e = .returned (.int .i64 (checkL 0 0 ts : Nat)) ∧ w.grownBy w' none

/-- Two fields in a row. -/
theorem rd_two (w : World) (a b : Nat) : Rd (w.alloc (.cells #[.int .u64 (a : Nat), .int .i64 0, .int .u64 0, .string ⟨#[]⟩, .slice none 0 0, .int .u64 (b : Nat), .int .i64 0, .int .u64 0, .string ⟨#[]⟩, .slice none 0 0] 222)) (fun _ => True) (.slice (some ⟨w.heap.size, 0, none⟩) 2 2) [.mk a 0 0 ⟨#[]⟩ [], .mk b 0 0 ⟨#[]⟩ []] := by
  refine .row _ _ _ _ _ (fun _ => .slice none 0 0) rfl (by omega) (by omega) (by unfold maxLen; omega) trivial (fun i t ht => ?_) (fun i t ht => ?_)
  · have hi : i = 0 ∨ i = 1 := by have := (List.getElem?_eq_some_iff.1 ht).1; simp at this; omega
    rcases hi with rfl | rfl <;> (simp at ht; subst ht; exact ⟨by rw [cell_new]; rfl, by rw [cell_new]; rfl, by rw [cell_new]; rfl, by rw [cell_new]; rfl, by rw [cell_new]; rfl⟩)
  · have hi : i = 0 ∨ i = 1 := by have := (List.getElem?_eq_some_iff.1 ht).1; simp at this; omega
    rcases hi with rfl | rfl <;> (simp at ht; subst ht; exact .nil _ _)

theorem check_21 : checkL 0 0 [.mk 2 0 0 ⟨#[]⟩ [], .mk 1 0 0 ⟨#[]⟩ []] = 7 := by
  rw [checkL_cons, if_neg (by simp [Tree.tag]), if_neg (by simp [Tree.tag]), if_neg (by simp [bad, Tree.typ, Tree.num, Tree.text, Tree.list, ByteArray.size]), if_neg (by simp [Tree.typ])]
  simp only [Tree.list, checkL_nil]
  rw [if_neg (by simp), checkL_cons, if_neg (by simp [Tree.tag]), if_pos (by simp [Tree.tag])]
theorem check_12 : checkL 0 0 [.mk 1 0 0 ⟨#[]⟩ [], .mk 2 0 0 ⟨#[]⟩ []] = 0 := by
  rw [checkL_cons, if_neg (by simp [Tree.tag]), if_neg (by simp [Tree.tag]), if_neg (by simp [bad, Tree.typ, Tree.num, Tree.text, Tree.list, ByteArray.size]), if_neg (by simp [Tree.typ])]
  simp only [Tree.list, checkL_nil]
  rw [if_neg (by simp), checkL_cons, if_neg (by simp [Tree.tag]), if_neg (by simp [Tree.tag]), if_neg (by simp [bad, Tree.typ, Tree.num, Tree.text, Tree.list, ByteArray.size]), if_neg (by simp [Tree.typ])]
  simp only [Tree.list, checkL_nil]
  rw [if_neg (by simp)]

set_option maxHeartbeats 2000000 in
set_option maxRecDepth 100000 in
theorem awake_any (I : FCore) (w : World) (hT : I.Tab w) :
    Calls Tryz.prog 207 #[] w fun e w' => e = .returned (.bool true) ∧ w.grownBy w' none := by
  have HA := Lib.hid (I.awake7 w hT)
  have HN := Lib.hid I.ofNum
  have HC1 := Lib.hid (fun w => I.check [.mk 2 0 0 ⟨#[]⟩ [], .mk 1 0 0 ⟨#[]⟩ []] _ _ _ (by decide) (rd_two w 2 1))
  have HC2 := Lib.hid (fun w => I.check [.mk 1 0 0 ⟨#[]⟩ [], .mk 2 0 0 ⟨#[]⟩ []] _ _ _ (by decide) (rd_two w 1 2))
  rw [check_21] at HC1
  rw [check_12] at HC2
  go_enter Tryz.func207, Tryz.ntmps207
  go_wp2_with fail
  refine HA.out.mono ?_
  rintro e w1 ⟨rfl, g1⟩
  have G1 := Lib.hid g1
  clear g1
  go_wp2_with fail
  refine (HN.out 2 0 _).mono ?_
  rintro e w2 ⟨rfl, g2⟩
  have G2 := Lib.hid (only_trans G1.out g2)
  clear g2
  go_wp2_with fail
  refine (HN.out 1 0 _).mono ?_
  rintro e w3 ⟨rfl, g3⟩
  have G3 := Lib.hid (only_trans G2.out g3)
  clear g3
  go_wp2_with fail
  refine (HC1.out _).mono ?_
  rintro e w4 ⟨rfl, g4⟩
  have G4 := Lib.hid (only_trans (only_alloc G3.out _) g4)
  clear g4
  go_wp2_with fail
  refine (HN.out 1 0 _).mono ?_
  rintro e w5 ⟨rfl, g5⟩
  have G5 := Lib.hid (only_trans G4.out g5)
  clear g5
  go_wp2_with fail
  refine (HN.out 2 0 _).mono ?_
  rintro e w6 ⟨rfl, g6⟩
  have G6 := Lib.hid (only_trans G5.out g6)
  clear g6
  go_wp2_with fail
  refine (HC2.out _).mono ?_
  rintro e w7 ⟨rfl, g7⟩
  have G7 := Lib.hid (only_trans (only_alloc G6.out _) g7)
  clear g7
  go_wp2_with fail
  go_ret
  exact ⟨rfl, G7.out⟩

end Go.Proofs.YtbebdaglkjhbjaaGreatDoor.law08
