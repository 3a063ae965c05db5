/-
  The contracts of package cursor, function by function.
-/
import Derived.Test.YtbelpcniogcfoaaDoorBase
namespace Go.Proofs.YtbelpcniogcfoaaDoor.cur
open Go.RowKit
set_option linter.unusedVariables false

/-- In block b of the world lies a cursor over s, at place k. -/
structure Cur (w : World) (b : Nat) (s : ByteArray) (k : Nat) : Prop where
  c0 : w.cell? ⟨b, 0, none⟩ = some (.string s)
  c1 : w.cell? ⟨b, 1, none⟩ = some (.int .i64 k)
  f0 : w.frozen? ⟨b, 0, none⟩ = false
  f1 : w.frozen? ⟨b, 1, none⟩ = false
  le : k ≤ s.size
  hs : s.size ≤ maxLen

theorem Cur.lt {w : World} {b : Nat} {s : ByteArray} {k : Nat} (h : Cur w b s k) : b < w.heap.size := World.block_lt_of_cell? w ⟨b, 0, none⟩ h.c0

theorem Cur.kept {w w' : World} {b : Nat} {s : ByteArray} {k : Nat} (h : Cur w b s k) {row : Option Nat} (g : w.grownBy w' row) (hne : some b ≠ row) : Cur w' b s k := by
  have e := g.block b h.lt hne
  exact ⟨(World.cell?_of_block (a := ⟨b, 0, none⟩) e).trans h.c0, (World.cell?_of_block (a := ⟨b, 1, none⟩) e).trans h.c1,
    (World.frozen?_of_block (a := ⟨b, 0, none⟩) e).trans h.f0, (World.frozen?_of_block (a := ⟨b, 1, none⟩) e).trans h.f1, h.le, h.hs⟩

/-! Rest -/
theorem rest_nil (w : World) :
    Calls Tryd.prog 97 #[.pointer none] w fun e w' => e = .returned (.string ByteArray.empty) ∧ w = w' := by
  go_enter Tryd.func97, Tryd.ntmps97
  go_wp2
  go_ret
  exact ⟨rfl, rfl⟩

theorem rest_some {w : World} {b : Nat} {s : ByteArray} {k : Nat} (h : Cur w b s k) :
    Calls Tryd.prog 97 #[.pointer (some ⟨b, 0, none⟩)] w fun e w' => e = .returned (.string (s.extract k s.size)) ∧ ∃ n, w' = w.drewN n := by
  obtain ⟨h0, h1, f0, f1, hk, hs⟩ := h
  unfold maxLen at hs
  go_enter Tryd.func97, Tryd.ntmps97
  go_wp2
  go_quiet (fail)
  go_wp2
  go_ret
  exact ⟨rfl, _, rfl⟩

theorem extract_all (s : ByteArray) : s.extract 0 s.size = s := by
  apply ByteArray.ext
  simp

theorem rest_zero {w : World} {b : Nat} {s : ByteArray} (h : Cur w b s 0) :
    Calls Tryd.prog 97 #[.pointer (some ⟨b, 0, none⟩)] w fun e w' => e = .returned (.string s) ∧ ∃ n, w' = w.drewN n := by
  have := rest_some h
  rwa [extract_all] at this

/-! Left -/
theorem left_nil (w : World) :
    Calls Tryd.prog 96 #[.pointer none] w fun e w' => e = .returned (.int .i64 0) ∧ w = w' := by
  go_enter Tryd.func96, Tryd.ntmps96
  go_wp2
  go_ret
  exact ⟨rfl, rfl⟩

theorem left_some {w : World} {b : Nat} {s : ByteArray} {k : Nat} (h : Cur w b s k) :
    Calls Tryd.prog 96 #[.pointer (some ⟨b, 0, none⟩)] w fun e w' => e = .returned (.int .i64 ((s.size - k : Nat) : Int)) ∧ ∃ n, w' = w.drewN n := by
  have hr := rest_some h
  obtain ⟨h0, h1, f0, f1, hk, hs⟩ := h
  unfold maxLen at hs
  go_enter Tryd.func96, Tryd.ntmps96
  go_wp2_with (go_at_call 97; refine hr.mono ?_; rintro e w' ⟨rfl, d, rfl⟩)
  go_ret
  exact ⟨by simp, _, rfl⟩

/-! Over -/
theorem over_any (s : ByteArray) (w : World) :
    Calls Tryd.prog 93 #[.string s] w fun e w' => e = .returned (.pointer (some ⟨w.heap.size, 0, none⟩)) ∧ w' = w.alloc (.cells #[.string s, .int .i64 0] 124) := by
  go_enter Tryd.func93, Tryd.ntmps93
  go_wp2
  go_ret
  exact ⟨rfl, rfl⟩

theorem Cur.new (s : ByteArray) (hs : s.size ≤ maxLen) (w : World) : Cur (w.alloc (.cells #[.string s, .int .i64 0] 124)) w.heap.size s 0 :=
  ⟨by go_simp, by go_simp, by go_simp, by go_simp, Nat.zero_le _, hs⟩

/-! Take -/
theorem take_nil (n : Int) (w : World) :
    Calls Tryd.prog 95 #[.pointer none, .int .u64 n] w fun e w' => e = .returned (.tuple #[.string ByteArray.empty, .bool false]) ∧ w = w' := by
  go_enter Tryd.func95, Tryd.ntmps95
  go_wp2
  go_ret2
  exact ⟨rfl, rfl⟩

theorem take_no {w : World} {b : Nat} {s : ByteArray} {k : Nat} (h : Cur w b s k) (n : Nat) (hn : s.size - k < n) (hn' : n < 18446744073709551616) :
    Calls Tryd.prog 95 #[.pointer (some ⟨b, 0, none⟩), .int .u64 n] w fun e w' => e = .returned (.tuple #[.string ByteArray.empty, .bool false]) ∧ ∃ n, w' = w.drewN n := by
  have hl := left_some h
  obtain ⟨h0, h1, f0, f1, hk, hs⟩ := h
  unfold maxLen at hs
  go_enter Tryd.func95, Tryd.ntmps95
  go_wp2_with (go_at_call 96; refine hl.mono ?_; rintro e w' ⟨rfl, d, rfl⟩)
  go_ret2
  exact ⟨rfl, _, rfl⟩

theorem take_yes {w : World} {b : Nat} {s : ByteArray} {k : Nat} (h : Cur w b s k) (n : Nat) (hn : n ≤ s.size - k) :
    Calls Tryd.prog 95 #[.pointer (some ⟨b, 0, none⟩), .int .u64 n] w fun e w' => e = .returned (.tuple #[.string (s.extract k (k + n)), .bool true]) ∧
      ∃ m, w' = (w.drewN m).setCell ⟨b, 1, none⟩ (.int .i64 ((k + n : Nat) : Int)) := by
  have hl := left_some h
  have hr := fun m => rest_some (w := w.drewN m) ⟨h.c0, h.c1, h.f0, h.f1, h.le, h.hs⟩
  obtain ⟨h0, h1, f0, f1, hk, hs⟩ := h
  unfold maxLen at hs
  go_enter Tryd.func95, Tryd.ntmps95
  go_wp2_with (first | (go_at_call 96; refine hl.mono ?_; rintro e w' ⟨rfl, d, rfl⟩) | (go_at_call 97; refine (hr _).mono ?_; rintro e w' ⟨rfl, d, rfl⟩))
  go_ret2
  exact ⟨ret2 (congrArg Value.string (by simpa using extract_extract s k s.size 0 n (by omega))) rfl, _, rfl⟩

theorem Cur.move {w : World} {b : Nat} {s : ByteArray} {k : Nat} (h : Cur w b s k) (n m : Nat) (hn : n ≤ s.size - k) : Cur ((w.drewN m).setCell ⟨b, 1, none⟩ (.int .i64 ((k + n : Nat) : Int))) b s (k + n) := by
  obtain ⟨h0, h1, f0, f1, hk, hs⟩ := h
  refine ⟨by go_simp, by go_simp, by go_simp, by go_simp, by omega, hs⟩

/-- Take: n bytes, that are left, are taken. -/
theorem take_ok {w : World} {b : Nat} {s : ByteArray} {k : Nat} (h : Cur w b s k) (n : Nat) (hn : n ≤ s.size - k) :
    Calls Tryd.prog 95 #[.pointer (some ⟨b, 0, none⟩), .int .u64 n] w fun e w' => e = .returned (.tuple #[.string (s.extract k (k + n)), .bool true]) ∧
      Cur w' b s (k + n) ∧ w.grownBy w' (some b) := by
  refine (take_yes h n hn).mono ?_
  rintro e w' ⟨rfl, m, rfl⟩
  exact ⟨rfl, h.move n m hn, only_setCell (only_drewN (only_refl _ _) _) (.inl rfl) _⟩

/-! Byte -/
theorem byte_nil (w : World) :
    Calls Tryd.prog 94 #[.pointer none] w fun e w' => e = .returned (.tuple #[.int .u8 0, .bool false]) ∧ w = w' := by
  go_enter Tryd.func94, Tryd.ntmps94
  go_wp2_with (go_at_call 95; refine (take_nil _ _).mono ?_; rintro e w' ⟨rfl, rfl⟩)
  go_ret2
  exact ⟨rfl, rfl⟩

theorem byte_no {w : World} {b : Nat} {s : ByteArray} {k : Nat} (h : Cur w b s k) (hn : k = s.size) :
    Calls Tryd.prog 94 #[.pointer (some ⟨b, 0, none⟩)] w fun e w' => e = .returned (.tuple #[.int .u8 0, .bool false]) ∧ ∃ n, w' = w.drewN n := by
  have ht := Lib.hid (take_no h 1 (by omega) (by omega))
  clear h hn
  go_enter Tryd.func94, Tryd.ntmps94
  go_wp2_with (go_at_call 95; refine ht.out.mono ?_; rintro e w' ⟨rfl, d, rfl⟩)
  go_ret2
  exact ⟨rfl, _, rfl⟩

theorem byte_ok {w : World} {b : Nat} {s : ByteArray} {k : Nat} (h : Cur w b s k) (hn : k < s.size) :
    Calls Tryd.prog 94 #[.pointer (some ⟨b, 0, none⟩)] w fun e w' => e = .returned (.tuple #[.int .u8 (s[k].toNat : Int), .bool true]) ∧
      Cur w' b s (k + 1) ∧ w.grownBy w' (some b) := by
  have ht := Lib.hid (take_ok h 1 (by omega))
  have e1 : (s.extract k (k + 1)).size = 1 := by simp only [ByteArray.size_extract]; omega
  have e2 : 0 < (s.extract k (k + 1)).size := by omega
  have e3 : (s.extract k (k + 1))[0] = s[k] := by
    rw [ByteArray.getElem_extract]
    rfl
  have E3 := Lib.hid e3
  clear h e1 e3
  go_enter Tryd.func94, Tryd.ntmps94
  go_wp2_with (go_at_call 95; refine ht.out.mono ?_; rintro e w' ⟨rfl, hc, hg⟩)
  go_ret2
  exact ⟨ret2 (by show Value.int .u8 _ = _; rw [E3.out]) rfl, hc, hg⟩

end Go.Proofs.YtbelpcniogcfoaaDoor.cur
