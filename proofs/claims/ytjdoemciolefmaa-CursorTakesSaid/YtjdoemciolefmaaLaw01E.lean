/-
  CursorTakes, at every input.
-/
import Derived.Test.YtjdoemciolefmaaLaw01M
import Derived.Test.YtjdoemciolefmaaSlices
namespace Go.Proofs.Ytjdoemciolefmaa.law01
open Go.RowKit Go.Proofs.Ytjdoemciolefmaa.cur
set_option linter.unusedVariables false

set_option maxHeartbeats 1000000 in
set_option maxRecDepth 100000 in
theorem takes_long (s : ByteArray) (hs : s.size ≤ maxLen) (a : Option Addr) (len cap : Nat) (hl : len ≤ maxLen) (hlong : 2000 < s.size ∨ 60 < len) (W : World) :
    Calls Try.prog 3 #[.string s, .slice a len cap] W fun e w' => e = .returned (.bool true) ∧ W.grownBy w' none := by
  unfold maxLen at hs hl
  rcases (show 2000 < s.size ∨ (¬ 2000 < s.size ∧ 60 < len) by omega) with h | ⟨h, h'⟩ <;> clear hlong
  all_goals
    go_enter Try.func3, Try.ntmps3
    go_wp2_with fail
    refine (awake_any W).mono ?_
    rintro e w0 ⟨rfl, g0⟩
    go_wp2_with fail
    go_ret
    exact ⟨rfl, g0⟩

theorem empty_append_eq (s : ByteArray) : ((⟨#[]⟩ ++ s : ByteArray).toList == s.toList) = true := by
  have : (⟨#[]⟩ ++ s : ByteArray) = s := ByteArray.empty_append
  rw [this]
  simp

set_option maxHeartbeats 1000000 in
set_option maxRecDepth 100000 in
theorem takes_none (s : ByteArray) (hs : s.size ≤ 2000) (a : Option Addr) (cap : Nat) (W : World) :
    Calls Try.prog 3 #[.string s, .slice a 0 cap] W fun e w' => e = .returned (.bool true) ∧ W.grownBy w' none := by
  go_enter Try.func3, Try.ntmps3
  go_wp2_with fail
  refine (awake_any W).mono ?_
  rintro e w0 ⟨rfl, g0⟩
  go_wp2_with fail
  refine (over_any s w0).mono ?_
  rintro e w1 ⟨rfl, hw1⟩
  have hN := hw1 ▸ Cur.new s (by unfold maxLen; omega) w0
  have g1 : w0.grownBy w1 none := hw1 ▸ World.grownBy_alloc _ _ _
  clear hw1
  have G1 := Lib.hid (only_trans g0 g1)
  clear g0 g1
  generalize w0.heap.size = B at *
  go_wp2_with fail
  have hr := Lib.hid (rest_zero (hN.kept (World.grownBy_alloc w1 (.cells #[.string s, .int .i64 0] 27) none) (by simp)))
  refine wp_loop_rounds 1 ?_
  rw [rounds_succ]
  go_wp2_with (go_at_call 14; refine hr.out.mono ?_; rintro e w' ⟨rfl, d', rfl⟩)
  all_goals
    go_ret
    exact ⟨ret1 (congrArg Value.bool (empty_append_eq s)), only_drewN (only_alloc G1.out _) _⟩

theorem acts_of_open {H : Type} {enc : TypeId × Value → H} {W : World} {a : Option Addr} {len cap : Nat} {d : DataW H} {p : List MemPlace}
    (h : DataW.Trod enc Try.prog W 0 (fun _ => true) true 22 (.slice a len cap) d p) :
    ∃ D N : Nat → Nat, len = 0 ∨ ∃ b off, a = some ⟨b, off, none⟩ ∧ 0 < len ∧ len ≤ cap ∧ cap ≤ maxLen ∧
      ∀ i, i < len → W.cell? ⟨b, off + i * 2, none⟩ = some (.int .u8 (D i)) ∧ W.cell? ⟨b, off + i * 2 + 1, none⟩ = some (.int .u64 (N i)) ∧ D i < 256 ∧ N i < 18446744073709551616 := by
  rcases fields_of_open Try.underlying22 Try.underlying30 (by kernel_rfl) (by kernel_rfl) (by decide) h with h0 | ⟨b, off, rfl, hpos, hl, hm, hi⟩
  · exact ⟨fun _ => 0, fun _ => 0, .inl h0⟩
  · have h1 : ∀ i, i < len → ∃ x : Nat × Nat, W.cell? ⟨b, off + i * 2, none⟩ = some (.int .u8 x.1) ∧ W.cell? ⟨b, off + i * 2 + 1, none⟩ = some (.int .u64 x.2) ∧ x.1 < 256 ∧ x.2 < 18446744073709551616 := by
      intro i hil
      obtain ⟨v, y, n, hc, hy⟩ := hi i hil 0 _ rfl
      obtain ⟨v', y', n', hc', hy'⟩ := hi i hil 1 _ rfl
      obtain ⟨x, e, -, wx⟩ := DataW.trod_int Try.underlying5 hy
      obtain ⟨x', e', -, wx'⟩ := DataW.trod_int Try.underlying28 hy'
      simp at e e'
      subst e e'
      have b1 : 0 ≤ x ∧ x ≤ 255 := by simpa [Lit.wf, IntKind.min, IntKind.max, IntKind.signed, IntKind.bits] using wx
      have b2 : 0 ≤ x' ∧ x' ≤ 18446744073709551615 := by simpa [Lit.wf, IntKind.min, IntKind.max, IntKind.signed, IntKind.bits] using wx'
      refine ⟨(x.toNat, x'.toNat), ?_, ?_, by simp; omega, by simp; omega⟩
      · show W.cell? _ = some (.int .u8 ((x.toNat : Nat) : Int))
        rw [show ((x.toNat : Nat) : Int) = x by omega]
        exact hc
      · show W.cell? _ = some (.int .u64 ((x'.toNat : Nat) : Int))
        rw [show ((x'.toNat : Nat) : Int) = x' by omega]
        exact hc'
    obtain ⟨f, hf⟩ := Go.Deep.choose_lt h1
    exact ⟨fun i => (f i).1, fun i => (f i).2, .inr ⟨b, off, rfl, hpos, hl, hm, hf⟩⟩

theorem takes_any (W : World) (s : ByteArray) (hs : s.size ≤ maxLen) (a : Option Addr) (len cap : Nat) (D N : Nat → Nat) (hl : len ≤ maxLen)
    (h : len = 0 ∨ ∃ b off, a = some ⟨b, off, none⟩ ∧ 0 < len ∧ len ≤ cap ∧ cap ≤ maxLen ∧
      ∀ i, i < len → W.cell? ⟨b, off + i * 2, none⟩ = some (.int .u8 (D i)) ∧ W.cell? ⟨b, off + i * 2 + 1, none⟩ = some (.int .u64 (N i)) ∧ D i < 256 ∧ N i < 18446744073709551616) :
    Calls Try.prog 3 #[.string s, .slice a len cap] W fun e w' => e = .returned (.bool true) ∧ W.grownBy w' none := by
  by_cases hlong : 2000 < s.size ∨ 60 < len
  · exact takes_long s hs a len cap hl hlong W
  · rcases h with rfl | ⟨b, off, rfl, hpos, hlc, hcm, hc⟩
    · exact takes_none s (by omega) a cap W
    · exact takes_main s (by omega) b off cap len (by omega) hlc hcm D N W hc

end Go.Proofs.Ytjdoemciolefmaa.law01
