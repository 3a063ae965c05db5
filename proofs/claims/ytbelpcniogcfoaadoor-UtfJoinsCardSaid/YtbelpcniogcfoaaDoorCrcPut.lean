/-
  The contracts of package crc: Put, Get, Check.
-/
import Derived.Test.YtbelpcniogcfoaaDoorCrcSum
namespace Go.Proofs.YtbelpcniogcfoaaDoor.crc
open Go.RowKit Go.Proofs.YtbelpcniogcfoaaDoor.crcm
set_option linter.unusedVariables false
set_option linter.unusedSimpArgs false

def putB (n : Nat) : ByteArray := ⟨(put4 n).toArray⟩

def pn (n k j : Nat) : Nat := if j < k then n / 256 ^ j % 256 else 0
def prow (n k : Nat) : Array Value := #[.int .u8 (pn n k 0 : Nat), .int .u8 (pn n k 1 : Nat), .int .u8 (pn n k 2 : Nat), .int .u8 (pn n k 3 : Nat)]
theorem prow0 (n : Nat) : (prow n 0).setIfInBounds 0 (.int .u8 ((n : Int) % 256)) = prow n 1 := by
  unfold prow
  simp [pn]
theorem prow1 (n : Nat) : (prow n 1).setIfInBounds 1 (.int .u8 ((n : Int) / 256 % 256)) = prow n 2 := by
  unfold prow
  simp [pn]
theorem prow2 (n : Nat) : (prow n 2).setIfInBounds 2 (.int .u8 ((n : Int) / 65536 % 256)) = prow n 3 := by
  unfold prow
  simp [pn]
theorem prow3 (n : Nat) (hn : n < 4294967296) : (prow n 3).setIfInBounds 3 (.int .u8 ((n : Int) / 16777216)) = prow n 4 := by
  unfold prow
  simp [pn]
  omega

theorem put_conv (n : Nat) (w : World) (t : TypeId) :
    (convert 84 9 (.slice (some ⟨w.heap.size, 0, none⟩) 4 4)).run Tryd.prog (w.alloc (.cells (prow n 4) t)) =
      .ok (.string (putB n)) (w.alloc (.cells (prow n 4) t)) :=
  run_convert_bytes_back (P := Tryd.prog) (w.alloc (.cells (prow n 4) t)) 84 9 5 ⟨w.heap.size, 0, none⟩ 4 (put4 n) Tryd.underlying84 Tryd.underlying5 Tryd.underlying9 (fun j hj => by
    have : j = 0 ∨ j = 1 ∨ j = 2 ∨ j = 3 := by simp [put4] at hj; omega
    rcases this with rfl | rfl | rfl | rfl <;> rw [Addr.add_lit, World.cell?_alloc_at _ _ _ _ rfl] <;> simp [prow, pn, put4])

set_option maxHeartbeats 1000000 in
set_option maxRecDepth 100000 in
theorem put_any (n : Nat) (hn : n < 4294967296) (w : World) :
    Calls Tryd.prog 75 #[.int .u32 n] w fun e w' => e = .returned (.string (putB n)) ∧ w.grownBy w' none := by
  have hcv := put_conv n w 112
  have h0 := prow0 n
  have h1 := prow1 n
  have h2 := prow2 n
  have h3 := prow3 n hn
  have c0 : (prow n 0)[0]? = some (.int .u8 (pn n 0 0 : Nat)) := rfl
  have c1 : (prow n 1)[1]? = some (.int .u8 (pn n 1 1 : Nat)) := rfl
  have c2 : (prow n 2)[2]? = some (.int .u8 (pn n 2 2 : Nat)) := rfl
  have c3 : (prow n 3)[3]? = some (.int .u8 (pn n 3 3 : Nat)) := rfl
  have hG := Lib.hid (only_alloc (only_refl w none) (.cells (prow n 4) 112))
  go_enter Tryd.func75, Tryd.ntmps75
  go_wp2_with fail
  go_loopw [5] (fun c wr => ∃ k : Nat, k ≤ 4 ∧ c = .int .i64 k ∧ wr = w.alloc (.cells (prow n k) 112)) (fun c _ => 4 - (intOf c).toNat)
  case atStart => exact ⟨0, by omega, rfl, rfl⟩
  case round =>
    obtain ⟨k, hk, rfl, rfl⟩ := hrel
    rcases (show k = 0 ∨ k = 1 ∨ k = 2 ∨ k = 3 ∨ k = 4 by omega) with rfl | rfl | rfl | rfl | rfl
    · go_wp2_with fail
      go_roundw
      case rel => exact ⟨1, by omega, rfl, by first | rfl | trivial⟩
      case measure => simp [intOf]
    · go_wp2_with fail
      go_roundw
      case rel => exact ⟨2, by omega, rfl, by first | rfl | trivial⟩
      case measure => simp [intOf]
    · go_wp2_with fail
      go_roundw
      case rel => exact ⟨3, by omega, rfl, by first | rfl | trivial⟩
      case measure => simp [intOf]
    · go_wp2_with fail
      go_roundw
      case rel => exact ⟨4, by omega, rfl, by first | rfl | trivial⟩
      case measure => simp [intOf]
    · go_wp2_with fail
      go_ret
      exact ⟨rfl, hG.out⟩

theorem or_step (x b k : Nat) (hk : k ≤ 3) (hx : x < 256 ^ k) (hb : b < 256) :
    bits .or .u32 (x : Int) (IntKind.u32.wrap ((b : Int) * 2 ^ (8 * k))) = ((x + b * 256 ^ k : Nat) : Int) := by
  have e0 : (256 : Nat) ^ k = 2 ^ (8 * k) := by rw [Nat.pow_mul]
  have hp : (256 : Nat) ^ k ≤ 256 ^ 3 := Nat.pow_le_pow_right (by omega) hk
  have hm : b * 256 ^ k ≤ 255 * 256 ^ 3 := Nat.mul_le_mul (by omega) hp
  have e1 : IntKind.u32.wrap ((b : Int) * 2 ^ (8 * k)) = ((b * 256 ^ k : Nat) : Int) := by
    rw [IntKind.wrap_u32, e0, Int.natCast_mul, Int.natCast_pow]
    have : ((b : Int) * 2 ^ (8 * k)) = ((b * 256 ^ k : Nat) : Int) := by rw [e0, Int.natCast_mul, Int.natCast_pow]; rfl
    rw [show ((2 : Nat) : Int) = 2 from rfl, this]
    omega
  rw [e1, u32_or_nat _ _ (by omega) (by omega)]
  congr 1
  rw [Nat.or_comm, nat_join (8 * k) _ _ (by rw [← e0]; exact Nat.mul_mod_left _ _) (by rw [← e0]; exact hx)]
  omega

theorem num_snoc : ∀ (L : List UInt8) (b : UInt8), num (L ++ [b]) = num L + b.toNat * 256 ^ L.length
  | [], b => by simp [num]
  | x :: l, b => by
    have := num_snoc l b
    simp only [List.cons_append, num, this, List.length_cons, Nat.pow_succ]
    have h2 : b.toNat * (256 ^ l.length * 256) = 256 * (b.toNat * 256 ^ l.length) := by rw [← Nat.mul_assoc, Nat.mul_comm]
    rw [h2]
    omega

theorem num_take (s : ByteArray) (k : Nat) (h : k < s.size) : num (s.data.toList.take (k + 1)) = num (s.data.toList.take k) + s[k].toNat * 256 ^ k := by
  rw [vi.take_step s k h, num_snoc, List.length_take, Nat.min_eq_left (by simp; omega)]

set_option maxRecDepth 100000 in
theorem check_any (s t : ByteArray) (hs : s.size ≤ maxLen) (ht : t.size ≤ maxLen) (w : World) :
    Calls Tryd.prog 72 #[.string s, .string t] w fun e w' => e = .returned (.bool (decide (t = putB (sumN s.data.toList)))) ∧ w.grownBy w' none := by
  have hsm := fun (w : World) => sum_any (some ⟨w.heap.size, 0, none⟩) 1 1 [s] (w.alloc (.cells #[.string s] 9)) ⟨rfl, by simpa using hs, .inr ⟨_, 0, rfl, by omega, by unfold maxLen; omega, fun i x hx => by
    have : i = 0 := by have := (List.getElem?_eq_some_iff.1 hx).1; simp at this; omega
    subst this
    simp at hx
    subst hx
    exact World.cell?_alloc_at _ _ _ _ rfl⟩⟩ (by unfold maxLen; omega)
  have hcat : cat [s] = s.data.toList := by simp [cat]
  rw [hcat] at hsm
  have hl : sumN s.data.toList < 4294967296 := by unfold sumN; omega
  generalize sumN s.data.toList = n at *
  have hp := fun w => put_any n hl w
  generalize putB n = T at *
  go_enter Tryd.func72, Tryd.ntmps72
  go_wp2_with (first
    | (go_at_call 76; refine (hsm _).mono ?_; rintro e w1 ⟨rfl, g1⟩)
    | (go_at_call 75; refine (hp _).mono ?_; rintro e w2 ⟨rfl, g2⟩))
  go_ret
  refine ⟨ret1 (congrArg Value.bool ?_), only_trans (only_trans (only_alloc (only_refl _ _) _) g1) g2⟩
  by_cases h : t = T
  · subst h; simp
  · have : ¬ t.toList = T.toList := fun e => h (by
      rw [ByteArray.toList_eq, ByteArray.toList_eq] at e
      exact ByteArray.ext (Array.toList_inj.1 e))
    simp [h, this]

end Go.Proofs.YtbelpcniogcfoaaDoor.crc
