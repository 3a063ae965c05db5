/-
  The statements of layer 1: what is taken of any text.
-/
import Derived.Test.YtjdoemciolefmaaLaw01
import Derived.BigRegion
import Derived.StillTailTactics
namespace Go.Proofs.Ytjdoemciolefmaa.law01
open Go.RowKit Go.Proofs.Ytjdoemciolefmaa.cur
set_option linter.unusedVariables false

theorem ref_no (r : ByteArray) (a : Int) (n : Nat) (hr : r.size ≤ maxLen) (hn : r.size < n) (hn' : n < 18446744073709551616) (w : World) :
    Calls Try.prog 10 #[.agg #[.string r, .int .i64 a], .int .u64 n] w fun e w' =>
      e = .returned (.tuple #[.agg #[.string r, .int .i64 a], .string ByteArray.empty, .bool false]) ∧ w.grownBy w' none := by
  unfold maxLen at hr
  go_enter Try.func10, Try.ntmps10
  go_wp2
  exact bodyPost_ret (v := .tuple #[.agg #[.string r, .int .i64 a], .string ByteArray.empty, .bool false]) (by simp [results, Try.results10, go_sem]; rfl) rfl ⟨rfl, by repeat' (first | exact only_refl _ _ | refine only_drew ?_ | refine only_drewN ?_ _ | refine only_alloc ?_ _ | refine only_setCell ?_ (.inr (by simp)) _)⟩

theorem ref_yes (r : ByteArray) (a : Nat) (n : Nat) (hr : a + r.size ≤ maxLen) (hn : n ≤ r.size) (w : World) :
    Calls Try.prog 10 #[.agg #[.string r, .int .i64 a], .int .u64 n] w fun e w' =>
      e = .returned (.tuple #[.agg #[.string (r.extract n r.size), .int .i64 ((a + n : Nat) : Int)], .string (r.extract 0 n), .bool true]) ∧ w.grownBy w' none := by
  unfold maxLen at hr
  go_enter Try.func10, Try.ntmps10
  go_wp2
  go_region
  all_goals go_wp2
  all_goals exact bodyPost_ret (v := .tuple #[.agg #[.string (r.extract n r.size), .int .i64 ((a + n : Nat) : Int)], .string (r.extract 0 n), .bool true]) (by simp [results, Try.results10, go_sem]) rfl ⟨rfl, by repeat' (first | exact only_refl _ _ | refine only_drew ?_ | refine only_drewN ?_ _ | refine only_alloc ?_ _ | refine only_setCell ?_ (.inr (by simp)) _)⟩

theorem ref_ok (s : ByteArray) (k n : Nat) (hs : s.size ≤ maxLen) (hk : k ≤ s.size) (hn : n ≤ s.size - k) (w : World) :
    Calls Try.prog 10 #[.agg #[.string (s.extract k s.size), .int .i64 k], .int .u64 n] w fun e w' =>
      e = .returned (.tuple #[.agg #[.string (s.extract (k + n) s.size), .int .i64 ((k + n : Nat) : Int)], .string (s.extract k (k + n)), .bool true]) ∧ w.grownBy w' none := by
  have e1 : (s.extract k s.size).size = s.size - k := by simp
  have e2 : (s.extract k s.size).extract n (s.size - k) = s.extract (k + n) s.size := by rw [extract_extract _ _ _ _ _ (by omega)]; congr 1; omega
  have e3 : (s.extract k s.size).extract 0 n = s.extract k (k + n) := by rw [extract_extract _ _ _ _ _ (by omega)]; rfl
  have h := ref_yes (s.extract k s.size) k n (by omega) (by omega) w
  rw [e1, e2, e3] at h
  exact h

/-- A slice of acts, as the walk reads it: by, for each, what it does and how many. -/
def IsActs (w : World) (v : Value) (len : Nat) (D N : Nat → Nat) : Prop :=
  (v = .slice none 0 0 ∧ len = 0) ∨ ∃ b off cap, v = .slice (some ⟨b, off, none⟩) len cap ∧ len ≤ cap ∧ cap ≤ maxLen ∧
    ∀ i, i < len → w.cell? ⟨b, off + i * 2, none⟩ = some (.int .u8 (D i)) ∧ w.cell? ⟨b, off + i * 2 + 1, none⟩ = some (.int .u64 (N i)) ∧ D i < 256 ∧ N i < 18446744073709551616

theorem ref_bad (s : ByteArray) (k n : Nat) (hs : s.size ≤ maxLen) (hk : k ≤ s.size) (hn : s.size - k < n) (hn' : n < 18446744073709551616) (w : World) :
    Calls Try.prog 10 #[.agg #[.string (s.extract k s.size), .int .i64 k], .int .u64 n] w fun e w' =>
      e = .returned (.tuple #[.agg #[.string (s.extract k s.size), .int .i64 k], .string ByteArray.empty, .bool false]) ∧ w.grownBy w' none :=
  ref_no (s.extract k s.size) k n (by simp; omega) (by simp; omega) hn' w

theorem extract_one (s : ByteArray) (k : Nat) (h : k < s.size) : s.extract k (k + 1) = ⟨#[s[k]]⟩ := by
  apply ByteArray.ext
  apply Array.ext
  · simp; omega
  · intro i h1 h2
    have : i = 0 := by simp at h2; omega
    subst this
    simp
    rfl

/-- A text of the one byte that stands in a new row. -/
theorem conv_one (s : ByteArray) (k : Nat) (h : k < s.size) (w : World) :
    (convert 35 9 (.slice (some ⟨w.heap.size, 0, none⟩) 1 1)).run Try.prog (w.alloc (.cells #[.int .u8 (s[k].toNat : Int)] 5)) =
      .ok (.string (s.extract k (k + 1))) (w.alloc (.cells #[.int .u8 (s[k].toNat : Int)] 5)) := by
  have := run_convert_bytes_back (P := Try.prog) (w.alloc (.cells #[.int .u8 (s[k].toNat : Int)] 5)) 35 9 5 ⟨w.heap.size, 0, none⟩ 1 [s[k]] Try.underlying35 Try.underlying5 Try.underlying9 (fun j hj => by
    have : j = 0 := by simp at hj; omega
    subst this
    go_simp)
  rw [extract_one s k h]
  exact this

/-- Two cells of a block: what they hold, and that neither is frozen. -/
structure Pair (w : World) (b : Nat) (u v : Value) : Prop where
  c0 : w.cell? ⟨b, 0, none⟩ = some u
  c1 : w.cell? ⟨b, 1, none⟩ = some v
  f0 : w.frozen? ⟨b, 0, none⟩ = false
  f1 : w.frozen? ⟨b, 1, none⟩ = false

theorem Pair.lt {w : World} {b : Nat} {u v : Value} (h : Pair w b u v) : b < w.heap.size := World.block_lt_of_cell? w ⟨b, 0, none⟩ h.c0
theorem Pair.kept {w w' : World} {b : Nat} {u v : Value} (h : Pair w b u v) {row : Option Nat} (g : w.grownBy w' row) (hne : some b ≠ row) : Pair w' b u v := by
  have e := g.block b h.lt hne
  exact ⟨(World.cell?_of_block (a := ⟨b, 0, none⟩) e).trans h.c0, (World.cell?_of_block (a := ⟨b, 1, none⟩) e).trans h.c1,
    (World.frozen?_of_block (a := ⟨b, 0, none⟩) e).trans h.f0, (World.frozen?_of_block (a := ⟨b, 1, none⟩) e).trans h.f1⟩
theorem Pair.new (u v : Value) (t : TypeId) (w : World) : Pair (w.alloc (.cells #[u, v] t)) w.heap.size u v := ⟨by go_simp, by go_simp, by go_simp, by go_simp⟩

/-- What holds at each round's head. -/
structure St (W : World) (B R : Nat) (s : ByteArray) (w : World) (k : Nat) : Prop where
  cur : Cur w B s k
  d : Pair w R (.string (s.extract k s.size)) (.int .i64 k)
  g : W.grownBy w none
  ne : B ≠ R
  hB : W.heap.size ≤ B
  hR : W.heap.size ≤ R

end Go.Proofs.Ytjdoemciolefmaa.law01
