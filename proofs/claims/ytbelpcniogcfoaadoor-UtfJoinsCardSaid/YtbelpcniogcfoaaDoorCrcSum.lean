/-
  The contracts of package crc: Sum.
-/
import Derived.Test.YtbelpcniogcfoaaDoorCrcMore
namespace Go.Proofs.YtbelpcniogcfoaaDoor.crc
open Go.RowKit Go.Proofs.YtbelpcniogcfoaaDoor.crcm
set_option linter.unusedVariables false
set_option linter.unusedSimpArgs false

/-- So many texts, one behind the other. -/
def cat : List ByteArray → List UInt8
  | [] => []
  | x :: r => x.data.toList ++ cat r
theorem cat_append (a b : List ByteArray) : cat (a ++ b) = cat a ++ cat b := by
  induction a with
  | nil => rfl
  | cons x r ih => simp [cat, ih]

/-- Strings lie in a row. -/
def Strs (w : World) (a : Option Addr) (len cap : Nat) (xs : List ByteArray) : Prop :=
  xs.length = len ∧ (∀ x ∈ xs, x.size ≤ maxLen) ∧ (len = 0 ∨ ∃ b off, a = some ⟨b, off, none⟩ ∧ len ≤ cap ∧ cap ≤ maxLen ∧ ∀ (i : Nat) x, xs[i]? = some x → w.cell? ⟨b, off + i, none⟩ = some (.string x))
theorem Strs.kept {w w' : World} {a : Option Addr} {len cap : Nat} {xs : List ByteArray} (h : Strs w a len cap xs) (g : w.grownBy w' none) : Strs w' a len cap xs := by
  obtain ⟨h1, h2, h3⟩ := h
  refine ⟨h1, h2, ?_⟩
  rcases h3 with h | ⟨b, off, h4, h5, h6, h7⟩
  · exact .inl h
  · exact .inr ⟨b, off, h4, h5, h6, fun i x hx => g.cell (h7 i x hx) (by simp)⟩

set_option maxHeartbeats 1000000 in
set_option maxRecDepth 100000 in
theorem sum_any (a : Option Addr) (len cap : Nat) (xs : List ByteArray) (w : World) (h : Strs w a len cap xs) (hlen : len ≤ maxLen) :
    Calls Tryd.prog 76 #[.slice a len cap] w fun e w' => e = .returned (.int .u32 (sumN (cat xs) : Nat)) ∧ w.grownBy w' none := by
  have HS := Lib.hid h
  have hl := h.1
  clear h
  unfold maxLen at hlen
  go_enter Tryd.func76, Tryd.ntmps76
  go_wp2_with fail
  go_loopw [3, 8] (fun x c wr => ∃ i r : Nat, i ≤ len ∧ c = .int .i64 i ∧ x = .int .u32 r ∧ r = moreN 0 (cat (xs.take i)) ∧ w.grownBy wr none) (fun _ c _ => len - (intOf c).toNat)
  case atStart => exact ⟨0, 0, by omega, rfl, rfl, by rw [List.take_zero, cat, moreN_nil], only_refl _ _⟩
  case round =>
    obtain ⟨i, r, hi, rfl, rfl, hr, hg⟩ := hrel
    have hrl : r < 4294967296 := hr ▸ moreN_lt _ _
    have HG := Lib.hid hg
    have HR := Lib.hid hr
    clear hg hr
    by_cases hlt : i < len
    · obtain ⟨x, hx⟩ : ∃ x, xs[i]? = some x := ⟨xs[i], List.getElem?_eq_getElem (by omega)⟩
      obtain ⟨-, hsz, hc⟩ := HS.out.kept HG.out
      obtain ⟨b, off, rfl, h5, h6, h7⟩ := hc.resolve_left (by omega)
      have c1 := h7 i x hx
      have hxs := hsz x (List.mem_of_getElem? hx)
      have hm := fun w => more_any r hrl x hxs w
      have HN : Hid (moreN r x.data.toList = moreN 0 (cat (xs.take (i + 1)))) := by
        rw [HR.out, moreN_append _ (by decide), List.take_add_one, hx, cat_append]
        simp [Hid, cat]
      have hml := moreN_lt r x.data.toList
      generalize moreN r x.data.toList = r' at *
      unfold maxLen at h6 hxs
      clear hsz hc h7
      go_wp2_with (go_at_call 81; refine (hm _).mono ?_; rintro e w1 ⟨rfl, g1⟩)
      go_roundw
      case rel => exact ⟨i + 1, r', by omega, by go_num, rfl, HN.out, only_trans HG.out g1⟩
      case measure => simp [intOf]; omega
    · have hie : i = len := by omega
      subst hie
      have ht : xs.take i = xs := List.take_of_length_le (by omega)
      have hE := HR.out
      rw [ht, sumN_eq] at hE
      have HE := Lib.hid hE
      clear hE
      go_wp2_with fail
      go_ret
      have hE := HE.out
      subst hE
      exact ⟨rfl, HG.out⟩

/-- One text in a row of its own. -/
theorem Strs.one (s : ByteArray) (hs : s.size ≤ maxLen) (w : World) : Strs (w.alloc (.cells #[.string s] 9)) (some ⟨w.heap.size, 0, none⟩) 1 1 [s] :=
  ⟨rfl, by simpa using hs, .inr ⟨_, 0, rfl, by omega, by unfold maxLen; omega, fun i x hx => by
    have : i = 0 := by have := (List.getElem?_eq_some_iff.1 hx).1; simp at this; omega
    subst this
    simp at hx
    subst hx
    exact World.cell?_alloc_at _ _ _ _ rfl⟩⟩
theorem cat_one (s : ByteArray) : cat [s] = s.data.toList := by simp [cat]

/-- The sum of one text. -/
theorem sum_one (s : ByteArray) (hs : s.size ≤ maxLen) (w : World) :
    Calls Tryd.prog 76 #[.slice (some ⟨w.heap.size, 0, none⟩) 1 1] (w.alloc (.cells #[.string s] 9)) fun e w' => e = .returned (.int .u32 (sumN s.data.toList : Nat)) ∧ w.grownBy w' none := by
  have h := sum_any (some ⟨w.heap.size, 0, none⟩) 1 1 [s] (w.alloc (.cells #[.string s] 9)) (Strs.one s hs w) (by unfold maxLen; omega)
  rw [cat_one] at h
  exact h.mono fun e w' ⟨he, hg⟩ => ⟨he, only_trans (only_alloc (only_refl _ _) _) hg⟩

end Go.Proofs.YtbelpcniogcfoaaDoor.crc
