/-
  A slice of texts that came in as an argument: its texts, and how many bytes they are together.
-/
import Derived.Test.YtbelpcniogcfoaaDoorCrcSum
import Derived.Test.YtbelpcniogcfoaaDoorSlices
import Derived.SliceStrings
namespace Go.Proofs.YtbelpcniogcfoaaDoor.crc
open Go.RowKit Go.ChangeShapes Go.WideShapes Go.Deep
set_option linter.unusedVariables false

theorem bulk_strs {H : Type} : ∀ l : List ByteArray, (cat l).length + l.length ≤ Rows.uptoBulkAll (strs (H := H) l)
  | [] => by simp [cat]
  | x :: r => by
    have := bulk_strs (H := H) r
    have e : strs (H := H) (x :: r) = .lit (.string x.data.toList) :: strs r := rfl
    rw [e]
    simp only [Rows.uptoBulkAll, Rows.uptoBulk, cat, List.length_append, List.length_cons]
    omega

section
variable {H : Type} {enc : TypeId × Value → H} {P : Program} {w : World}

theorem strs_of_open {t e : TypeId} {a : Option Addr} {len cap : Nat} {d : DataW H} {p : List MemPlace} (ht : P.underlying t = some (.slice e)) (he : P.underlying e = some .string) (hC : P.cellsOf e = 1)
    (h : DataW.Trod enc P w 0 (fun _ => true) true t (.slice a len cap) d p) : ∃ xs, Strs w a len cap xs ∧ (cat xs).length + len ≤ Rows.uptoBulk d := by
  obtain ⟨fuel, hf⟩ := h
  rcases open_strings ht he hC hf with ⟨hcs, _⟩ | ⟨x, l, c, ss, hcs, _, hl, hm, hz, hx, hcell, hsz⟩
  · simp [Value.cells] at hcs
    exact ⟨[], ⟨by simp [hcs.2.1], by simp, .inl hcs.2.1⟩, by simp [cat, hcs.2.1]⟩
  · simp [Value.cells] at hcs
    obtain ⟨rfl, rfl, rfl⟩ := hcs
    have hz' : ss.length = cap := by simpa using hz
    have hd : d = .slice (strs (ss.take len)) (strs (ss.drop len)) := congrArg Prod.fst hx
    have hlen : (ss.take len).length = len := by simp; omega
    refine ⟨ss.take len, ⟨hlen, fun y hy => hsz y (List.mem_of_mem_take hy), ?_⟩, ?_⟩
    · by_cases h0 : len = 0
      · exact .inl h0
      · have hc := hcell 0 (by omega)
        obtain ⟨b, off, spot⟩ := x
        have hspot : spot = none := by simpa [Addr.add] using World.cell?_spot hc
        subst hspot
        refine .inr ⟨b, off, rfl, hl, hm, fun i y hy => ?_⟩
        have hi : i < len := by have := (List.getElem?_eq_some_iff.1 hy).1; omega
        have := hcell i (by omega)
        rw [add_plain] at this
        rw [this]
        rw [List.getElem?_take, if_pos hi] at hy
        rw [List.getD_eq_getElem?_getD, hy]
        rfl
    · subst hd
      have := bulk_strs (H := H) (ss.take len)
      simp only [Rows.uptoBulk]
      omega
end

end Go.Proofs.YtbelpcniogcfoaaDoor.crc
