/-
  Put, and the document's Put.
-/
import Derived.Test.YtbelpcniogcfoaaDoorVarint
import Derived.ShutString
namespace Go.Proofs.YtbelpcniogcfoaaDoor.vi
open Go.RowKit Go.Proofs.YtbelpcniogcfoaaDoor.cur
set_option linter.unusedVariables false

theorem or_128 : ∀ x : Fin 256, x.val ||| 128 = x.val % 128 + 128 := by decide +kernel

theorem byte_or (n : Nat) : bits .or .u8 ((n : Int) % 256) 128 = ((n % 128 + 128 : Nat) : Int) := by
  have e : (n : Int) % 256 = ((n % 256 : Nat) : Int) := rfl
  rw [e]
  have := u8_or_nat (n % 256) 128 (by omega) (by omega)
  rw [or_128 ⟨n % 256, by omega⟩] at this
  rw [show ((128 : Nat) : Int) = 128 from rfl] at this
  rw [this]
  congr 1
  show n % 256 % 128 + 128 = _
  omega

theorem byte_mask (b : Nat) (h : b < 128) : bits .andNot .u8 ((b : Int) + 128) 128 = (b : Int) := by
  have := u8_andNot_nat (b + 128) 128 (by omega) (by omega)
  rw [show (255 - 128 : Nat) = 127 from rfl, nat_mask7] at this
  rw [show ((128 : Nat) : Int) = 128 from rfl, show ((b + 128 : Nat) : Int) = (b : Int) + 128 from rfl] at this
  rw [this]
  congr 1
  omega

theorem enc_get : ∀ (j n : Nat), j < (enc n).length → ((enc n).getD j 0).toNat = n / 128 ^ j % 128 + if j + 1 < (enc n).length then 128 else 0
  | 0, n, h => by
    by_cases hn : n < 128
    · rw [enc_small hn]
      simp
      omega
    · have hp := enc_len_pos (n / 128)
      rw [enc_big hn]
      simp only [List.length_cons]
      rw [if_pos (by omega)]
      show (UInt8.ofNat _).toNat = _
      rw [toNat_ofNat (by omega)]
      simp
  | j + 1, n, h => by
    by_cases hn : n < 128
    · rw [enc_small hn] at h
      simp at h
    · rw [enc_big hn] at h ⊢
      simp only [List.length_cons] at h ⊢
      have := enc_get j (n / 128) (by omega)
      show ((enc (n / 128)).getD j 0).toNat = _
      rw [this, Nat.div_div_eq_div_mul, Nat.pow_succ, Nat.mul_comm 128]
      congr 1
      split <;> split <;> omega

/-- The cells of Put's row when i bytes are written. -/
def rowAt (n len i : Nat) : List Value := (List.range len).map fun j => if j < i then .int .u8 ((n / 128 ^ j % 128 + 128 : Nat) : Int) else .int .u8 0

theorem rowAt_zero (n len : Nat) : rowAt n len 0 = List.replicate len (.int .u8 0) := by
  unfold rowAt
  apply List.ext_getElem
  · simp
  · intro j h1 h2
    simp

theorem rowAt_set (n len i : Nat) (h : i < len) : (rowAt n len i).set i (.int .u8 ((n / 128 ^ i % 128 + 128 : Nat) : Int)) = rowAt n len (i + 1) := by
  unfold rowAt
  apply List.ext_getElem
  · simp
  · intro j h1 h2
    simp only [List.length_map, List.length_range] at h2
    rw [List.getElem_set]
    simp only [List.getElem_map, List.getElem_range]
    by_cases hj : i = j
    · subst hj; simp
    · rw [if_neg hj]
      by_cases h3 : j < i
      · rw [if_pos h3, if_pos (by omega)]
      · rw [if_neg h3, if_neg (by omega)]

/-- The cells when the last byte is masked: the writing. -/
theorem rowAt_last (n : Nat) : (rowAt n (enc n).length (enc n).length).set ((enc n).length - 1) (.int .u8 ((n / 128 ^ ((enc n).length - 1) % 128 : Nat) : Int)) = (enc n).map fun b => .int .u8 (b.toNat : Int) := by
  have hp := enc_len_pos n
  unfold rowAt
  apply List.ext_getElem
  · simp
  · intro j h1 h2
    simp only [List.length_map] at h2
    have := enc_get j n h2
    rw [List.getD_eq_getElem?_getD, List.getElem?_eq_getElem h2] at this
    simp only [Option.getD_some] at this
    rw [List.getElem_set]
    simp only [List.getElem_map, List.getElem_range]
    rw [this]
    by_cases hj : (enc n).length - 1 = j
    · subst hj
      rw [if_pos rfl, if_neg (by omega)]
      rfl
    · rw [if_neg hj, if_pos h2, if_pos (by omega)]

theorem Tryd.info5 : (Tryd.prog.info? 5).map (fun i => (i.zero, i.size, i.bytes)) = some (some (.int .u8 0), 1, 1) := by kernel_rfl

def encB (n : Nat) : ByteArray := ⟨(enc n).toArray⟩

set_option maxHeartbeats 2000000 in
set_option maxRecDepth 100000 in
theorem put_any (n : Nat) (hn : n < 18446744073709551616) (w : World) :
    Calls Tryd.prog 74 #[.int .u64 n] w fun e w' => e = .returned (.string (encB n)) ∧ w.grownBy w' none := by
  obtain ⟨i5, hi, hz0, hz1, hz2⟩ := info_parts Tryd.info5
  have hsz := size_any n hn w
  have hp := enc_len_pos n
  have h10 := enc_len_ten hn
  have hlast := Lib.hid (rowAt_last n)
  go_enter Tryd.func74, Tryd.ntmps74
  generalize hEnc : (enc n).length = len at *
  have HEnc := Lib.hid hEnc
  clear hEnc
  go_wp2_with (first
    | (go_at_call 80; refine hsz.mono ?_; rintro e w' ⟨rfl, rfl⟩)
    | (at_make; refine wpList_make_full _ rfl (.tmp 8) (.tmp 8) 84 rfl w.heap.size 5 i5 (.int .u8 0) 1 Tryd.underlying84 hi hz0 hz1 .i64 .i64 len len len (by rfl) (by rfl) rfl rfl (by rw [hz2]; omega) (by unfold maxLen; omega) (Nat.le_refl _) ?_))
  intro w1 hown hg
  have hown0 : w1.ownsRow w.heap.size 5 1 (.slice (some ⟨w.heap.size, 0, none⟩) len len) len (rowAt n len 0) := by
    rw [rowAt_zero]
    rw [toList_madeCells_one] at hown
    exact hown
  have Hown := Lib.hid hown0
  have Hg := Lib.hid hg
  have hB : w.heap.size < w1.heap.size := (hown0.lt _ rfl).2
  clear hown hown0 hg
  go_wp2_with fail
  go_loopw [0, 11] (fun x c wr => ∃ i : Nat, i ≤ len ∧ c = .int .i64 i ∧ x = .int .u64 ((n / 128 ^ i : Nat) : Int) ∧ wr.ownsRow w.heap.size 5 1 (.slice (some ⟨w.heap.size, 0, none⟩) len len) len (rowAt n len i) ∧ w.grownBy wr none) (fun _ c _ => len - (intOf c).toNat)
  case atStart => exact ⟨0, by omega, rfl, by simp, Hown.out, Hg.out⟩
  case round =>
    obtain ⟨i, hil, rfl, rfl, hown, hg⟩ := hrel
    have hrow : (rowAt n len i).length = len := by simp [rowAt]
    have Hg := Lib.hid hg
    have Ho := Lib.hid hown
    have hxl : n / 128 ^ i < 18446744073709551616 := Nat.lt_of_le_of_lt (Nat.div_le_self _ _) hn
    have Hbo := Lib.hid (byte_or (n / 128 ^ i))
    have hnext : n / 128 ^ (i + 1) = n / 128 ^ i / 128 := by rw [Nat.pow_succ, Nat.div_div_eq_div_mul]
    have Hs := Lib.hid (rowAt_set n len i)
    have Hn := Lib.hid hnext
    clear hnext
    generalize hX : n / 128 ^ i = X at *
    have HX := Lib.hid hX
    clear hX
    by_cases hlt : i < len
    · have hc : wr.cell? ⟨w.heap.size, i, none⟩ = some (.int .u8 0) := by
        rw [hown.cellAt i (by omega)]
        simp [rowAt, hlt]
      have hf := hown.frozenAt i
      clear hown hg
      go_wp2_with fail
      go_roundw
      case rel =>
        refine ⟨i + 1, by omega, by go_num, ?_, ?_, only_setCell Hg.out (.inr (Nat.le_refl _)) _⟩
        · rw [Hn.out]; rfl
        · rw [Hbo.out, ← Hs.out hlt]
          exact (Ho.out.stored i _).1
      case measure => simp [intOf]; omega
    · have hie : i = len := by omega
      obtain ⟨l, rfl⟩ : ∃ l, i = l + 1 := ⟨i - 1, by omega⟩
      subst hie
      have hY : n / 128 ^ l % 128 < 128 := Nat.mod_lt _ (by omega)
      rw [Nat.add_sub_cancel] at hlast
      have hX1 : (rowAt n (l + 1) (l + 1))[l]? = some (.int .u8 ((n / 128 ^ l % 128 + 128 : Nat) : Int)) := by
        simp [rowAt]
      generalize n / 128 ^ l % 128 = Y at *
      have hc : wr.cell? ⟨w.heap.size, l, none⟩ = some (.int .u8 ((Y : Int) + 128)) := by
        rw [hown.cellAt l (by omega)]
        exact hX1
      have hf := hown.frozenAt l
      have hbm := byte_mask Y hY
      have hst := (hown.stored l (.int .u8 (Y : Int))).1
      rw [hlast.out] at hst
      have hcv := run_convert_bytes_back (P := Tryd.prog) (wr.setCell ⟨w.heap.size, l, none⟩ (.int .u8 (Y : Int))) 84 9 5 ⟨w.heap.size, 0, none⟩ (l + 1) (enc n) Tryd.underlying84 Tryd.underlying5 Tryd.underlying9 (fun j hj => by
        rw [Addr.add_lit, Nat.zero_add, hst.cellAt j (by rw [HEnc.out] at hj; omega), List.getElem?_map, List.getElem?_eq_getElem hj]
        rfl)
      rw [HEnc.out] at hcv
      clear hown hg hst hrow hX1
      go_wp2_with fail
      go_ret
      exact ⟨rfl, only_setCell Hg.out (.inr (Nat.le_refl _)) _⟩

/-- A text of the one byte that stands in a new row. -/
theorem conv_byte (v : Int) (b : UInt8) (hv : v = (b.toNat : Int)) (w : World) :
    (convert 84 9 (.slice (some ⟨w.heap.size, 0, none⟩) 1 1)).run Tryd.prog (w.alloc (.cells #[.int .u8 v] 5)) =
      .ok (.string ⟨#[b]⟩) (w.alloc (.cells #[.int .u8 v] 5)) := by
  subst hv
  exact run_convert_bytes_back (P := Tryd.prog) (w.alloc (.cells #[.int .u8 (b.toNat : Int)] 5)) 84 9 5 ⟨w.heap.size, 0, none⟩ 1 [b] Tryd.underlying84 Tryd.underlying5 Tryd.underlying9 (fun j hj => by
    have : j = 0 := by simp at hj; omega
    subst this
    go_simp)

end Go.Proofs.YtbelpcniogcfoaaDoor.vi
