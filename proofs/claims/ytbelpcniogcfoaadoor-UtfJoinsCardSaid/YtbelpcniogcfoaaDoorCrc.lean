/-
  The contracts of package crc.
-/
import Derived.Test.YtbelpcniogcfoaaDoorCmath
import Derived.Test.YtbelpcniogcfoaaDoorVput
namespace Go.Proofs.YtbelpcniogcfoaaDoor.crc
open Go.RowKit Go.Proofs.YtbelpcniogcfoaaDoor.crcm
set_option linter.unusedVariables false
set_option linter.unusedSimpArgs false

theorem and_1 (r : Nat) : r &&& 1 = r % 2 := Nat.and_one_is_mod r
theorem bit_step (r : Nat) (h : r < 4294967296) :
    bits .xor .u32 ((r : Int) / 2) (IntKind.u32.wrap (3988292384 * bits .and .u32 (r : Int) 1)) = ((st r : Nat) : Int) := by
  have e1 : bits .and .u32 (r : Int) 1 = ((r % 2 : Nat) : Int) := by
    have := u32_and_nat r 1 h (by decide)
    rwa [and_1] at this
  have e2 : IntKind.u32.wrap (3988292384 * ((r % 2 : Nat) : Int)) = ((3988292384 * (r % 2) : Nat) : Int) := by
    rw [IntKind.wrap_u32]; omega
  have e3 : (r : Int) / 2 = ((r / 2 : Nat) : Int) := rfl
  rw [e1, e2, e3, u32_xor_nat _ _ (by omega) (by omega)]
  congr 1
  unfold st
  rcases Nat.mod_two_eq_zero_or_one r with h2 | h2 <;> rw [h2] <;> simp

def tn (k j : Nat) : Nat := if j < k then stN 4 j else 0
def tv (k j : Nat) : Value := .int .u32 (tn k j : Nat)
def trow (k : Nat) : Array Value := #[tv k 0, tv k 1, tv k 2, tv k 3, tv k 4, tv k 5, tv k 6, tv k 7, tv k 8, tv k 9, tv k 10, tv k 11, tv k 12, tv k 13, tv k 14, tv k 15]
theorem trow_set : ∀ k, k < 16 → (trow k).setIfInBounds k (.int .u32 (stN 4 k : Nat)) = trow (k + 1) := by
  intro k hk
  have : k = 0 ∨ k = 1 ∨ k = 2 ∨ k = 3 ∨ k = 4 ∨ k = 5 ∨ k = 6 ∨ k = 7 ∨ k = 8 ∨ k = 9 ∨ k = 10 ∨ k = 11 ∨ k = 12 ∨ k = 13 ∨ k = 14 ∨ k = 15 := by omega
  rcases this with rfl | rfl | rfl | rfl | rfl | rfl | rfl | rfl | rfl | rfl | rfl | rfl | rfl | rfl | rfl | rfl <;> rfl

/-- The table of 16. -/
def sixteen : Array Value := trow 16

set_option maxRecDepth 100000 in
theorem reckon_any (i : Nat) (hi : i < 16) (w0 : World) (o : Obj) (c : Array Value) (hc : c.size = 16) :
    Calls Tryd.prog 86 #[.int .u32 i, .pointer (some ⟨w0.heap.size + 1, 0, none⟩)] ((w0.alloc o).alloc (.cells c 114)) fun e w' => e = .returned (.tuple #[]) ∧ w' = (w0.alloc o).alloc (.cells (c.setIfInBounds i (.int .u32 (stN 4 i : Nat))) 114) := by
  go_enter Tryd.func86, Tryd.ntmps86
  go_wp2_with fail
  go_loop [3, 6] (fun r c => ∃ k : Nat, k ≤ 4 ∧ c = .int .i64 k ∧ r = .int .u32 (stN k i : Nat)) (fun _ c => 4 - (intOf c).toNat)
  case atStart => exact ⟨0, by omega, rfl, rfl⟩
  case round =>
    obtain ⟨k, hk, rfl, rfl⟩ := hrel
    by_cases hlt : k < 4
    · have hr : stN k i < 4294967296 := stN_lt k (by omega)
      have hb := bit_step (stN k i) hr
      have hn := Lib.hid (stN_succ k i)
      generalize stN k i = r at *
      go_wp2_with fail
      go_round
      case rel => exact ⟨k + 1, by omega, by go_num, by rw [hn.out, ← hb, IntKind.wrap_u32]⟩
      case measure => simp [intOf]; omega
    · have : k = 4 := by omega
      subst this
      generalize hr : stN 4 i = r at *
      have HR := Lib.hid hr
      clear hr
      go_wp2_with fail
      go_end0
      exact ⟨rfl, by rw [HR.out]⟩

set_option maxRecDepth 100000 in
theorem sums_any (w : World) :
    Calls Tryd.prog 84 #[] w fun e w' => e = .returned (.agg sixteen) ∧ w.grownBy w' none := by
  go_enter Tryd.func84, Tryd.ntmps84
  go_wp2_with fail
  go_loopw [5] (fun c wr => ∃ k : Nat, k ≤ 16 ∧ c = .int .u32 k ∧ wr = (w.alloc (.cells (trow 0) 114)).alloc (.cells (trow k) 114)) (fun c _ => 16 - (intOf c).toNat)
  case atStart => exact ⟨0, by omega, rfl, rfl⟩
  case round =>
    obtain ⟨k, hk, rfl, rfl⟩ := hrel
    by_cases hlt : k < 16
    · have hc := reckon_any k hlt w (.cells (trow 0) 114) (trow k) rfl
      rw [trow_set k hlt] at hc
      have HC := Lib.hid hc
      clear hc
      generalize trow k = T at *
      go_wp2_with (go_at_call 86; refine HC.out.mono ?_; rintro e w' ⟨rfl, rfl⟩)
      go_roundw
      case rel => exact ⟨k + 1, by omega, by go_num, rfl⟩
      case measure => simp [intOf]; omega
    · have : k = 16 := by omega
      subst this
      rw [show trow 16 = #[.int .u32 (tn 16 0 : Nat), .int .u32 (tn 16 1 : Nat), .int .u32 (tn 16 2 : Nat), .int .u32 (tn 16 3 : Nat), .int .u32 (tn 16 4 : Nat), .int .u32 (tn 16 5 : Nat), .int .u32 (tn 16 6 : Nat), .int .u32 (tn 16 7 : Nat), .int .u32 (tn 16 8 : Nat), .int .u32 (tn 16 9 : Nat), .int .u32 (tn 16 10 : Nat), .int .u32 (tn 16 11 : Nat), .int .u32 (tn 16 12 : Nat), .int .u32 (tn 16 13 : Nat), .int .u32 (tn 16 14 : Nat), .int .u32 (tn 16 15 : Nat)] from rfl,
        show trow 0 = #[.int .u32 0, .int .u32 0, .int .u32 0, .int .u32 0, .int .u32 0, .int .u32 0, .int .u32 0, .int .u32 0, .int .u32 0, .int .u32 0, .int .u32 0, .int .u32 0, .int .u32 0, .int .u32 0, .int .u32 0, .int .u32 0] from rfl]
      have hG := Lib.hid (only_alloc (only_alloc (only_refl w none) (.cells sixteen 114)) (.cells sixteen 114))
      go_wp2_with fail
      refine bodyPost_ret (results_cell_row rfl _ _ w.heap.size 114 sixteen (0, 0) _ rfl ?_ Tryd.underlying114 rfl (by kernel_rfl)) rfl ⟨rfl, hG.out⟩
      rw [Below.heap_alloc _ _ _ (by simp)]
      exact heap_alloc_new _ _

theorem sums_all (w : World) :
    Calls Tryd.prog 84 #[] w fun e w' => e = .returned (.agg #[.int .u32 (tn 16 0 : Nat), .int .u32 (tn 16 1 : Nat), .int .u32 (tn 16 2 : Nat), .int .u32 (tn 16 3 : Nat), .int .u32 (tn 16 4 : Nat), .int .u32 (tn 16 5 : Nat), .int .u32 (tn 16 6 : Nat), .int .u32 (tn 16 7 : Nat), .int .u32 (tn 16 8 : Nat), .int .u32 (tn 16 9 : Nat), .int .u32 (tn 16 10 : Nat), .int .u32 (tn 16 11 : Nat), .int .u32 (tn 16 12 : Nat), .int .u32 (tn 16 13 : Nat), .int .u32 (tn 16 14 : Nat), .int .u32 (tn 16 15 : Nat)]) ∧ w.grownBy w' none := sums_any w

/-- The table of 16 lies in a block. -/
def Tab (w : World) (B : Nat) : Prop := ∀ j, j < 16 → w.cell? ⟨B, j, none⟩ = some (.int .u32 (stN 4 j : Nat))
theorem tab_new (w : World) (t : TypeId) : Tab (w.alloc (.cells #[.int .u32 (tn 16 0 : Nat), .int .u32 (tn 16 1 : Nat), .int .u32 (tn 16 2 : Nat), .int .u32 (tn 16 3 : Nat), .int .u32 (tn 16 4 : Nat), .int .u32 (tn 16 5 : Nat), .int .u32 (tn 16 6 : Nat), .int .u32 (tn 16 7 : Nat), .int .u32 (tn 16 8 : Nat), .int .u32 (tn 16 9 : Nat), .int .u32 (tn 16 10 : Nat), .int .u32 (tn 16 11 : Nat), .int .u32 (tn 16 12 : Nat), .int .u32 (tn 16 13 : Nat), .int .u32 (tn 16 14 : Nat), .int .u32 (tn 16 15 : Nat)] t)) w.heap.size := by
  intro j hj
  have : j = 0 ∨ j = 1 ∨ j = 2 ∨ j = 3 ∨ j = 4 ∨ j = 5 ∨ j = 6 ∨ j = 7 ∨ j = 8 ∨ j = 9 ∨ j = 10 ∨ j = 11 ∨ j = 12 ∨ j = 13 ∨ j = 14 ∨ j = 15 := by omega
  rw [World.cell?_alloc_at _ _ _ _ rfl]
  rcases this with rfl | rfl | rfl | rfl | rfl | rfl | rfl | rfl | rfl | rfl | rfl | rfl | rfl | rfl | rfl | rfl <;> rfl

end Go.Proofs.YtbelpcniogcfoaaDoor.crc
