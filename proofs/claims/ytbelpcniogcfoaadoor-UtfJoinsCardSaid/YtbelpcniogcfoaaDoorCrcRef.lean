/-
  The document's sum of 32 bits.
-/
import Derived.Test.YtbelpcniogcfoaaDoorCrcPut
namespace Go.Proofs.YtbelpcniogcfoaaDoor.crc
open Go.RowKit Go.Proofs.YtbelpcniogcfoaaDoor.crcm
set_option linter.unusedVariables false
set_option linter.unusedSimpArgs false

theorem rput_conv (n : Nat) (hn : n < 4294967296) (w : World) (t : TypeId) :
    (convert 84 9 (.slice (some ⟨w.heap.size, 0, none⟩) 4 4)).run Tryd.prog (w.alloc (.cells #[.int .u8 ((n : Int) % 256), .int .u8 ((n : Int) / 256 % 256), .int .u8 ((n : Int) / 65536 % 256), .int .u8 ((n : Int) / 16777216)] t)) =
      .ok (.string (putB n)) (w.alloc (.cells #[.int .u8 ((n : Int) % 256), .int .u8 ((n : Int) / 256 % 256), .int .u8 ((n : Int) / 65536 % 256), .int .u8 ((n : Int) / 16777216)] t)) :=
  run_convert_bytes_back (P := Tryd.prog) (w.alloc (.cells #[.int .u8 ((n : Int) % 256), .int .u8 ((n : Int) / 256 % 256), .int .u8 ((n : Int) / 65536 % 256), .int .u8 ((n : Int) / 16777216)] t)) 84 9 5 ⟨w.heap.size, 0, none⟩ 4 (put4 n) Tryd.underlying84 Tryd.underlying5 Tryd.underlying9 (fun j hj => by
    have : j = 0 ∨ j = 1 ∨ j = 2 ∨ j = 3 := by simp [put4] at hj; omega
    rcases this with rfl | rfl | rfl | rfl <;> rw [Addr.add_lit, World.cell?_alloc_at _ _ _ _ rfl] <;> simp [put4] <;> omega)

end Go.Proofs.YtbelpcniogcfoaaDoor.crc
