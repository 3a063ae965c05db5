/-
  The statement of layer 3.
-/
import Derived.Test.YtfcoiojfcepeiaaZigzag
namespace Go.Proofs.Ytfcoiojfcepeiaa.law03
open Go.RowKit Go.Proofs.Ytfcoiojfcepeiaa.cur Go.Proofs.Ytfcoiojfcepeiaa.vi
set_option linter.unusedVariables false

theorem Awake02_any (w : World) :
    Calls Try.prog 27 #[] w fun e w' => e = .returned (.bool true) ∧ w.grownBy w' none := by
  go_enter Try.func27, Try.ntmps27
  go_wp2_with (go_at_call 37; refine (law02.awake_any _).mono ?_; rintro e w' ⟨rfl, g⟩)
  go_ret
  exact ⟨rfl, g⟩

theorem awake_any (w : World) :
    Calls Try.prog 6 #[] w fun e w' => e = .returned (.bool true) ∧ w.grownBy w' none := by
  have h1 := fun w => zz.map_any (-3) (by decide) (by decide) w
  have h2 := fun w => zz.back_any 5 (by decide) w
  rw [show zz.zig (-3) = 5 from rfl] at h1
  rw [show zz.zag 5 = -3 from rfl] at h2
  go_enter Try.func6, Try.ntmps6
  go_wp2_with (first
    | (go_at_call 27; refine (Awake02_any _).mono ?_; rintro e w2 ⟨rfl, g2⟩)
    | (go_at_call 11; refine (h1 _).mono ?_; rintro e w3 ⟨rfl, rfl⟩)
    | (go_at_call 13; refine (h2 _).mono ?_; rintro e w3 ⟨rfl, rfl⟩))
  go_ret
  exact ⟨rfl, g2⟩

set_option maxHeartbeats 1000000 in
set_option maxRecDepth 100000 in
theorem reads_long (n z : Int) (s : ByteArray) (hs : s.size ≤ maxLen) (hl : 2000 < s.size) (W : World) :
    Calls Try.prog 3 #[.int .i64 n, .int .u64 z, .string s] W fun e w' => e = .returned (.bool true) ∧ W.grownBy w' none := by
  unfold maxLen at hs
  go_enter Try.func3, Try.ntmps3
  go_wp2_with (go_at_call 6; refine (awake_any _).mono ?_; rintro e w0 ⟨rfl, g0⟩)
  go_ret
  exact ⟨rfl, g0⟩

set_option maxHeartbeats 2000000 in
set_option maxRecDepth 100000 in
theorem reads_main (n : Int) (h1 : -9223372036854775808 ≤ n) (h2 : n ≤ 9223372036854775807) (z : Nat) (hz : z < 18446744073709551616) (s : ByteArray) (hs : s.size ≤ 2000) (W : World) :
    Calls Try.prog 3 #[.int .i64 n, .int .u64 z, .string s] W fun e w' => e = .returned (.bool true) ∧ W.grownBy w' none := by
  have hsm : s.size ≤ maxLen := by unfold maxLen; omega
  have hg := fun w => zz.get_any s hsm w
  have hrg := fun w => zz.rget_any s hsm w
  have hm := fun w => zz.map_any n h1 h2 w
  have hrm := fun w => zz.rmap_any n h1 h2 w
  have hb := fun w => zz.back_any z hz w
  have hrb := fun w => zz.rback_any z hz w
  have hp := fun w => zz.put_any n h1 h2 w
  have hrp := fun w => rput_any (zz.zig n) (zz.zig_lt h1 h2) w
  have hnx := fun (w : World) (b : Nat) (h : Cur w b s 0) => zz.next_any h
  rw [show s.data.toList.drop 0 = s.data.toList from rfl] at hnx
  have hzb := zz.zgetR_bounds s.data.toList
  unfold zz.zgetV at hg hrg
  generalize zz.zgetR s.data.toList = r at *
  generalize zz.zag z = zb at *
  generalize encB (zz.zig n) = en at *
  generalize zz.zig n = zn at *
  obtain ⟨x, m, E⟩ := r
  simp only at hg hrg hnx hzb
  simp only [Nat.zero_add] at hnx
  have Hnx := Lib.hid hnx
  clear hnx
  go_enter Try.func3, Try.ntmps3
  go_wp2_with (go_at_call 6; refine (awake_any _).mono ?_; rintro e w0 ⟨rfl, g0⟩)
  refine (hg _).mono ?_
  rintro e w' ⟨rfl, rfl⟩
  go_wp2_with (go_at_call 8; refine (hrg _).mono ?_; rintro e w' ⟨rfl, rfl⟩)
  refine (over_any s _).mono ?_
  rintro e w1 ⟨rfl, hw1⟩
  have hcu := Lib.hid (hw1 ▸ Cur.new s hsm w0)
  have G1 := Lib.hid (hw1 ▸ only_alloc g0 _)
  have hWB := g0.size
  clear hw1 g0
  generalize w0.heap.size = B at *
  go_wp2_with (go_at_call 10; refine (Hnx.out _ _ hcu.out).mono ?_; rintro e w2 ⟨rfl, hc2, g2⟩)
  have G2 := Lib.hid (only_new G1.out g2 hWB)
  have C2 := Lib.hid hc2
  clear g2 hc2
  go_wp2_with (first
    | (go_at_call 11; refine (hm _).mono ?_; rintro e w' ⟨rfl, rfl⟩)
    | (go_at_call 12; refine (hrm _).mono ?_; rintro e w' ⟨rfl, rfl⟩)
    | (go_at_call 13; refine (hb _).mono ?_; rintro e w' ⟨rfl, rfl⟩)
    | (go_at_call 14; refine (hrb _).mono ?_; rintro e w' ⟨rfl, rfl⟩)
    | (go_at_call 15; refine (hp _).mono ?_; rintro e w3 ⟨rfl, g3⟩)
    | (go_at_call 16; refine (hrp _).mono ?_; rintro e w4 ⟨rfl, g4⟩))
  refine (at_some (C2.out.kept (only_trans g3 g4) (by simp))).mono ?_
  rintro e w' ⟨rfl, rfl⟩
  go_wp2_with fail
  go_ret
  exact ⟨rfl, only_trans G2.out (only_trans g3 g4)⟩

theorem reads_any (W : World) (a : Int) (wa : (Lit.int .i64 a).wf = true) (z : Int) (wz : (Lit.int .u64 z).wf = true) (s : ByteArray) (hs : s.size ≤ maxLen) :
    Calls Try.prog 3 #[.int .i64 a, .int .u64 z, .string s] W fun e w' => e = .returned (.bool true) ∧ W.grownBy w' none := by
  have ha : -9223372036854775808 ≤ a ∧ a ≤ 9223372036854775807 := by simpa [Lit.wf, IntKind.min, IntKind.max, IntKind.signed, IntKind.bits] using wa
  have hz : 0 ≤ z ∧ z ≤ 18446744073709551615 := by simpa [Lit.wf, IntKind.min, IntKind.max, IntKind.signed, IntKind.bits] using wz
  by_cases hl : 2000 < s.size
  · exact reads_long a z s hs hl W
  · have := reads_main a ha.1 ha.2 z.toNat (by omega) s (by omega) W
    rwa [show ((z.toNat : Nat) : Int) = z by omega] at this

end Go.Proofs.Ytfcoiojfcepeiaa.law03
