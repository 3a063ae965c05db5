/-
  The statements of layer 10: awake.
-/
import Derived.Test.YtbebdaglkjhbjaaGreatDoorBundP
import Derived.Test.YtbebdaglkjhbjaaGreatDoorBundW
namespace Go.Proofs.YtbebdaglkjhbjaaGreatDoor.law10
open Go.RowKit Go.Proofs.YtbebdaglkjhbjaaGreatDoor.tr Go.Proofs.YtbebdaglkjhbjaaGreatDoor.pm Go.Proofs.YtbebdaglkjhbjaaGreatDoor.pp Go.Proofs.YtbebdaglkjhbjaaGreatDoor.vi
set_option linter.unusedVariables false
set_option linter.unusedSimpArgs false

/-- Two lists in a slice. -/
theorem lls_two {w : World} {S : Nat → Prop} {u1 u2 : Value} {l1 l2 : List Tree} (h1 : Rd w S u1 l1) (h2 : Rd w S u2 l2) (ty : TypeId) : Lls (w.alloc (.cells #[u1, u2] ty)) S (.slice (some ⟨w.heap.size, 0, none⟩) 2 2) [l1, l2] := by
  have g := only_alloc (only_refl w none) (.cells #[u1, u2] ty)
  refine ⟨by simp, _, 2, rfl, .inr ⟨w.heap.size, 0, rfl, by simp, by simp, by unfold maxLen; omega, fun i l hi => ?_⟩⟩
  have hi2 : i = 0 ∨ i = 1 := by have := (List.getElem?_eq_some_iff.1 hi).1; simp at this; omega
  rcases hi2 with rfl | rfl
  · simp at hi; subst hi
    exact ⟨u1, by rw [cell_new]; rfl, h1.grown g⟩
  · simp at hi; subst hi
    exact ⟨u2, by rw [cell_new]; rfl, h2.grown g⟩

theorem row_new (w : World) (l : List Nat) (hl : l.length ≤ maxLen) (base : Nat) (hb : base ≤ w.heap.size) : (w.alloc (.cells (u64s l).toArray 47)).ownsRow base 47 1 (.slice (some ⟨w.heap.size, 0, none⟩) l.length l.length) l.length (u64s l) :=
  ⟨by simp [u64s], .inr ⟨w.heap.size, l.length, _, rfl, hb, heap_alloc_new w _, Nat.le_refl _, hl, by simp [u64s], by simp only [u64s, Nat.mul_one]; exact List.take_of_length_le (by simp)⟩⟩

def nt (a : Nat) : Tree := .mk a 0 0 ⟨#[]⟩ []
theorem nt_check {d p a : Nat} {r : List Tree} (h1 : 1 ≤ a) (h2 : a ≤ 4294967296) (h3 : p < a) (h4 : checkL d a r = 0) : checkL d p (nt a :: r) = 0 := by
  refine check_mk (by simp [nt, Tree.tag]; omega) (by simpa [nt, Tree.tag] using h2) (by simpa [nt, Tree.tag] using h3) (by simp [nt, bad, Tree.typ, Tree.num, Tree.text, Tree.list, ByteArray.size]) (by simp [nt, Tree.typ]) (by simp only [nt, Tree.list]; exact checkL_nil _ _) (by simpa [nt, Tree.tag] using h4)
theorem ex_merge : mergeR [[nt 1, nt 3], [nt 2]] = ([nt 1, nt 2, nt 3], 0) := by
  have h1 : checkL 0 0 [nt 1, nt 3] = 0 := nt_check (by omega) (by omega) (by omega) (nt_check (by omega) (by omega) (by omega) (checkL_nil _ _))
  have h2 : checkL 0 0 [nt 2] = 0 := nt_check (by omega) (by omega) (by omega) (checkL_nil _ _)
  have h3 : firstErr [[nt 1, nt 3], [nt 2]] = 0 := firstErr_all fun l hl => by
    simp at hl
    rcases hl with rfl | rfl
    · exact h1
    · exact h2
  have h4 : insAll [] [[nt 1, nt 3], [nt 2]].flatten = some [nt 1, nt 2, nt 3] := by simp [insAll, ins, nt, Tree.tag]
  unfold mergeR
  rw [if_neg (by rw [h3]; simp), h4]

/-- Rows of numbers alone. -/
theorem rd_nts (w : World) (ty : TypeId) (a b : Nat) : Rd (w.alloc (.cells #[.int .u64 (a : Nat), .int .i64 0, .int .u64 0, .string ⟨#[]⟩, .slice none 0 0, .int .u64 (b : Nat), .int .i64 0, .int .u64 0, .string ⟨#[]⟩, .slice none 0 0] ty)) (fun _ => True) (.slice (some ⟨w.heap.size, 0, none⟩) 2 2) [nt a, nt b] := by
  refine .row _ _ _ _ _ (fun _ => .slice none 0 0) rfl (by omega) (by omega) (by unfold maxLen; omega) trivial (fun i t ht => ?_) (fun i t ht => ?_)
  · have hi : i = 0 ∨ i = 1 := by have := (List.getElem?_eq_some_iff.1 ht).1; simp at this; omega
    rcases hi with rfl | rfl <;> (simp at ht; subst ht; exact ⟨by rw [cell_new]; rfl, by rw [cell_new]; rfl, by rw [cell_new]; rfl, by rw [cell_new]; rfl, by rw [cell_new]; rfl⟩)
  · have hi : i = 0 ∨ i = 1 := by have := (List.getElem?_eq_some_iff.1 ht).1; simp at this; omega
    rcases hi with rfl | rfl <;> (simp at ht; subst ht; exact .nil _ _)
theorem rd_nt (w : World) (ty : TypeId) (a : Nat) : Rd (w.alloc (.cells #[.int .u64 (a : Nat), .int .i64 0, .int .u64 0, .string ⟨#[]⟩, .slice none 0 0] ty)) (fun _ => True) (.slice (some ⟨w.heap.size, 0, none⟩) 1 1) [nt a] := by
  refine .row _ _ _ _ _ (fun _ => .slice none 0 0) rfl (by omega) (by omega) (by unfold maxLen; omega) trivial (fun i t ht => ?_) (fun i t ht => ?_)
  · have hi : i = 0 := by have := (List.getElem?_eq_some_iff.1 ht).1; simp at this; omega
    subst hi; simp at ht; subst ht; exact ⟨by rw [cell_new]; rfl, by rw [cell_new]; rfl, by rw [cell_new]; rfl, by rw [cell_new]; rfl, by rw [cell_new]; rfl⟩
  · have hi : i = 0 := by have := (List.getElem?_eq_some_iff.1 ht).1; simp at this; omega
    subst hi; simp at ht; subst ht; exact .nil _ _

theorem rd_13 (w : World) (ty : TypeId) : Rd (w.alloc (.cells #[.int .u64 1, .int .i64 0, .int .u64 0, .string ⟨#[]⟩, .slice none 0 0, .int .u64 3, .int .i64 0, .int .u64 0, .string ⟨#[]⟩, .slice none 0 0] ty)) (fun _ => True) (.slice (some ⟨w.heap.size, 0, none⟩) 2 2) [nt 1, nt 3] := rd_nts w ty 1 3
theorem rd_2 (w : World) (ty : TypeId) : Rd (w.alloc (.cells #[.int .u64 2, .int .i64 0, .int .u64 0, .string ⟨#[]⟩, .slice none 0 0] ty)) (fun _ => True) (.slice (some ⟨w.heap.size, 0, none⟩) 1 1) [nt 2] := rd_nt w ty 2
theorem row_123 (w : World) (base : Nat) (hb : base ≤ w.heap.size) : (w.alloc (.cells #[.int .u64 1, .int .u64 2, .int .u64 3] 47)).ownsRow base 47 1 (.slice (some ⟨w.heap.size, 0, none⟩) 3 3) 3 (u64s [1, 2, 3]) := row_new w [1, 2, 3] (by unfold maxLen; simp) base hb

set_option maxHeartbeats 800000 in
set_option maxRecDepth 100000 in
theorem awake_any (w : World) (hT : ff.core.Tab w) :
    Calls Tryz.prog 170 #[] w fun e w' => e = .returned (.bool true) ∧ w.grownBy w' none := by
  have HT := Lib.hid (fun w' (g : w.grownBy w' none) => law09.Awake_any ww.wcore w' (ff.core.kept hT g))
  have HN := Lib.hid ff.num_any
  have HM := Lib.hid (fun w S v h => merge_any [[nt 1, nt 3], [nt 2]] (by simp [nt, sizeL, Tree.size]) w S v h)
  rw [ex_merge] at HM
  have HTG := Lib.hid (fun w v h => tags_any [nt 1, nt 2, nt 3] w (fun _ => True) v (by simp [nt, sizeL, Tree.size]) h)
  go_enter Tryz.func170, Tryz.ntmps170
  go_wp2_with fail
  refine (HN.out 1 0 _).mono ?_
  rintro e w1 ⟨rfl, g1⟩
  have G1 := Lib.hid g1
  clear g1
  go_wp2_with fail
  refine (HN.out 3 0 _).mono ?_
  rintro e w2 ⟨rfl, g2⟩
  have G2 := Lib.hid (only_trans G1.out g2)
  have R2 := Lib.hid (rd_13 w2 222)
  have G3 := Lib.hid (only_alloc G2.out (.cells #[.int .u64 1, .int .i64 0, .int .u64 0, .string ⟨#[]⟩, .slice none 0 0, .int .u64 3, .int .i64 0, .int .u64 0, .string ⟨#[]⟩, .slice none 0 0] 222))
  clear g2
  go_wp2_with fail
  refine (HN.out 2 0 _).mono ?_
  rintro e w4 ⟨rfl, g4⟩
  have G4 := Lib.hid (only_trans G3.out g4)
  have R4 := Lib.hid (R2.out.grown (only_trans g4 (only_alloc (only_refl w4 none) (.cells #[.int .u64 2, .int .i64 0, .int .u64 0, .string ⟨#[]⟩, .slice none 0 0] 222))))
  have Q4 := Lib.hid (rd_2 w4 222)
  have G5 := Lib.hid (only_alloc G4.out (.cells #[.int .u64 2, .int .i64 0, .int .u64 0, .string ⟨#[]⟩, .slice none 0 0] 222))
  have ll := lls_two R4.out Q4.out 218
  rw [show (w4.alloc (.cells #[.int .u64 2, .int .i64 0, .int .u64 0, .string ⟨#[]⟩, .slice none 0 0] 222)).heap.size = w4.heap.size + 1 by simp] at ll
  have LL := Lib.hid ll
  clear ll
  have G6 := Lib.hid (only_alloc G5.out (.cells #[.slice (some ⟨w2.heap.size, 0, none⟩) 2 2, .slice (some ⟨w4.heap.size, 0, none⟩) 1 1] 218))
  clear g4
  go_wp2_with fail
  refine (HM.out _ _ _ LL.out).mono ?_
  rintro e w7 ⟨v7, rfl, r7, g7⟩
  have G7 := Lib.hid (only_trans G6.out g7)
  have R7 := Lib.hid r7
  clear g7 r7
  go_wp2_with fail
  refine (HT.out _ G7.out).mono ?_
  rintro e w8 ⟨rfl, g8⟩
  have G8 := Lib.hid (only_trans G7.out g8)
  have R8 := Lib.hid (R7.out.grown g8)
  clear g8
  go_wp2_with fail
  refine (HTG.out _ _ R8.out).mono ?_
  rintro e w9 ⟨v9, rfl, o9, g9⟩
  have G9 := Lib.hid (only_trans G8.out g9)
  have hga := only_alloc (only_refl w9 none) (.cells #[.int .u64 1, .int .u64 2, .int .u64 3] 47)
  have HEQ := Lib.hid (equal_same [1, 2, 3] (by unfold maxLen; simp) ((Chg.of_none (S := fun _ => False) hga).ownsRow o9 (fun _ _ e => e)) (row_123 w9 w9.heap.size (Nat.le_refl _)))
  have GA := Lib.hid (only_trans G9.out hga)
  clear o9 g9 hga
  go_wp2_with fail
  refine HEQ.out.mono ?_
  rintro e w10 ⟨rfl, g10⟩
  have G10 := Lib.hid (only_trans GA.out g10)
  clear g10
  go_wp2_with fail
  go_ret
  exact ⟨rfl, G10.out⟩

end Go.Proofs.YtbebdaglkjhbjaaGreatDoor.law10
