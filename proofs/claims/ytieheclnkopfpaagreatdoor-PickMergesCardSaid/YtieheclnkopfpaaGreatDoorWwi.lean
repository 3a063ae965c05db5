/-
  Package wire keeps its contracts (XWput, XWwrite, XWall).
-/
import Derived.Test.YtieheclnkopfpaaGreatDoorWwrite
import Derived.Test.YtieheclnkopfpaaGreatDoorWall
import Derived.Test.YtieheclnkopfpaaGreatDoorFfi
namespace Go.Proofs.YtieheclnkopfpaaGreatDoor.ww
open Go.RowKit Go.Proofs.YtieheclnkopfpaaGreatDoor.tr Go.Proofs.YtieheclnkopfpaaGreatDoor.wm Go.Proofs.YtieheclnkopfpaaGreatDoor.vi Go.Proofs.YtieheclnkopfpaaGreatDoor.bd
set_option linter.unusedVariables false
set_option linter.unusedSimpArgs false

theorem ofText_any (a : Nat) (s : ByteArray) (w : World) : Calls Tryz.prog 44 #[.int .u64 (a : Nat), .string s] w fun e w' => e = .returned (.agg #[.int .u64 (a : Nat), .int .i64 1, .int .u64 0, .string s, .slice none 0 0]) ∧ w.grownBy w' none := by
  go_enter Tryz.func44, Tryz.ntmps44
  go_wp2_with fail
  exact bodyPost_ret (results_cell_row rfl _ _ w.heap.size 38 _ (0, 0) _ rfl (heap_alloc_new w _) Tryz.underlying38 rfl (by kernel_rfl)) rfl ⟨rfl, only_alloc (only_refl _ _) _⟩

set_option maxHeartbeats 2000000 in
set_option maxRecDepth 100000 in
theorem Put_any (ts : List Tree) (w : World) (S : Nat → Prop) (v : Value) (hs : sizeL ts ≤ 50000) (hf : fitsL ts) (hw : checkL 0 0 ts = 0 → (wrL ts).length ≤ 100000) (h : Rd w S v ts) :
    Calls Tryz.prog 43 #[v] w fun e w' => e = .returned (.tuple #[.string (txt (putR ts).1), .int .i64 ((putR ts).2 : Nat)]) ∧ w.grownBy w' none := by
  have HC := Lib.hid (ff.check_any ts w S v (by omega) h)
  have hlt := checkL_lt _ ts 0 0 (Nat.le_refl _)
  have HZ := Lib.hid (fun hc hl w1 (g : w.grownBy w1 none) => wsize_any _ ts (Nat.le_refl _) (by omega) 0 0 hc hf hl w1 S v (h.grown g))
  have HRD := Lib.hid h.tight
  obtain ⟨a, cap, rfl⟩ := h.shape
  unfold putR
  by_cases hc : checkL 0 0 ts = 0
  · rw [if_neg (by simp [hc])]
    have hwl := hw hc
    have HZ2 := Lib.hid (HZ.out hc (by omega))
    have HW := Lib.hid (fun l0 hl w b S T v hB hR hTS => wwrite_any _ ts (Nat.le_refl _) (by omega) 0 0 hc hf l0 hl w b S T v hB hR hTS)
    rw [hc] at HC
    clear h hw HZ hc hlt
    by_cases hb : 65536 < (wrL ts).length
    · rw [if_pos hb]
      generalize (wrL ts).length = n at *
      have hbi : (65536 : Int) < (n : Int) := by omega
      go_enter Tryz.func43, Tryz.ntmps43
      go_wp2_with fail
      refine HC.out.mono ?_
      rintro e w1 ⟨rfl, g1⟩
      have HG1 := Lib.hid g1
      clear g1
      go_wp2_with fail
      refine (HZ2.out w1 HG1.out).mono ?_
      rintro e w2 ⟨rfl, g2⟩
      have HG2 := Lib.hid (only_trans HG1.out g2)
      clear g2
      go_wp2_with fail
      go_ret2
      exact ⟨rfl, HG2.out⟩
    · rw [if_neg hb]
      have HW0 := Lib.hid (HW.out [] (by simp; omega))
      have hnl : [] ++ wrL ts = wrL ts := List.nil_append _
      rw [hnl] at HW0
      generalize hL : wrL ts = L at *
      generalize hn : L.length = n at *
      have hbi : ¬ (65536 : Int) < (n : Int) := by omega
      clear HW hnl
      go_enter Tryz.func43, Tryz.ntmps43
      go_wp2_with fail
      refine HC.out.mono ?_
      rintro e w1 ⟨rfl, g1⟩
      have HG1 := Lib.hid g1
      clear g1
      go_wp2_with fail
      refine (HZ2.out w1 HG1.out).mono ?_
      rintro e w2 ⟨rfl, g2⟩
      have HG2 := Lib.hid (only_trans HG1.out g2)
      have hz2 := HG2.out.size
      have HB := Lib.hid (Bld.new w2 (fun k => k = w2.heap.size) rfl)
      have HGA := Lib.hid (only_alloc (only_refl w2 none) (.cells #[.pointer none, .slice none 0 0] 102))
      clear g2
      go_wp2_with fail
      refine (HW0.out _ w2.heap.size (fun k => k = w2.heap.size) _ _ HB.out (HRD.out.grown (only_trans HG2.out HGA.out)) (fun k hk e => by have := hk.2; omega)).mono ?_
      rintro e w3 ⟨rfl, g3, hb3⟩
      have HB3 := Lib.hid hb3
      have HG3 := Lib.hid (Chg.none_new (only_trans HG2.out HGA.out) g3 (fun k e => by omega))
      clear g3 hb3
      go_wp2_with fail
      refine (string_any _ _ _ _ HB3.out).mono ?_
      rintro e w4 ⟨rfl, g4, -⟩
      have HG4 := Lib.hid (Chg.none_new HG3.out g4 (fun k hk => by have := HGA.out.size; rcases hk with hk | hk <;> omega))
      clear g4
      go_wp2_with fail
      go_ret2
      exact ⟨rfl, HG4.out⟩
  · rw [if_pos hc]
    clear h hw HZ
    generalize checkL 0 0 ts = q at *
    have hqb : ((q : Int) != 0) = true := by rw [bne_iff_ne]; omega
    clear hc
    go_enter Tryz.func43, Tryz.ntmps43
    go_wp2_with fail
    refine HC.out.mono ?_
    rintro e w1 ⟨rfl, g1⟩
    have HG1 := Lib.hid g1
    clear g1
    go_wp2_with fail
    go_ret2
    exact ⟨rfl, HG1.out⟩

def wcore : law09.WCore where
  fc := ff.core
  ofText := ofText_any
  put := fun ts w S v hs hf hw h => Put_any ts w S v hs hf hw h

end Go.Proofs.YtieheclnkopfpaaGreatDoor.ww
