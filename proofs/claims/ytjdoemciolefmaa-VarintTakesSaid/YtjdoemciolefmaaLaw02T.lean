/-
  VarintTakes: a cursor goes on behind the number.
-/
import Derived.Test.YtjdoemciolefmaaLaw02
import Derived.Test.YtjdoemciolefmaaSlices
namespace Go.Proofs.Ytjdoemciolefmaa.law02
open Go.RowKit Go.Proofs.Ytjdoemciolefmaa.cur Go.Proofs.Ytjdoemciolefmaa.vi
set_option linter.unusedVariables false

/-- The writings of the first i numbers, one behind the other. -/
def encs (N : Nat → Nat) : Nat → List UInt8
  | 0 => []
  | i + 1 => encs N i ++ enc (N i)

theorem encs_len (N : Nat → Nat) (h : ∀ i, N i < 18446744073709551616) : ∀ i, (encs N i).length ≤ 10 * i
  | 0 => by simp [encs]
  | i + 1 => by
    have := encs_len N h i
    have := enc_len_ten (h i)
    simp only [encs, List.length_append]
    omega

theorem encs_split (N : Nat → Nat) : ∀ (m i : Nat), i ≤ m → ∃ t, encs N m = encs N i ++ t
  | 0, i, h => by
    have : i = 0 := by omega
    subst this
    exact ⟨[], by simp⟩
  | m + 1, i, h => by
    by_cases hi : i = m + 1
    · subst hi; exact ⟨[], by simp⟩
    · obtain ⟨t, ht⟩ := encs_split N m i (by omega)
      exact ⟨t ++ enc (N m), by rw [encs, ht]; simp⟩

theorem encs_at (N : Nat → Nat) (m i : Nat) (h : i < m) (L : List UInt8) (hN : N i < 18446744073709551616) :
    getR ((encs N m ++ L).drop (encs N i).length) = (N i, (enc (N i)).length, 0) := by
  obtain ⟨t, ht⟩ := encs_split N m (i + 1) h
  rw [ht, encs]
  simp only [List.append_assoc, List.drop_left]
  exact getR_enc hN _

theorem encs_size (N : Nat → Nat) (i : Nat) : (⟨(encs N i).toArray⟩ : ByteArray).size = (encs N i).length := size_of_list _

set_option maxHeartbeats 1000000 in
set_option maxRecDepth 100000 in
theorem takes_long (a : Option Addr) (len cap : Nat) (hlen : len ≤ maxLen) (s : ByteArray) (hs : s.size ≤ maxLen) (hlong : 2000 < s.size ∨ 60 < len) (W : World) :
    Calls Try.prog 7 #[.slice a len cap, .string s] W fun e w' => e = .returned (.bool true) ∧ W.grownBy w' none := by
  unfold maxLen at hs hlen
  rcases (show 2000 < s.size ∨ (¬ 2000 < s.size ∧ 60 < len) by omega) with h | ⟨h, h'⟩ <;> clear hlong
  all_goals
    go_enter Try.func7, Try.ntmps7
    go_wp2_with (go_at_call 17; refine (awake_any _).mono ?_; rintro e w0 ⟨rfl, g0⟩)
    go_ret
    exact ⟨rfl, g0⟩

set_option maxHeartbeats 4000000 in
set_option maxRecDepth 100000 in
theorem takes_main (a : Option Addr) (len cap : Nat) (hl : len ≤ 60) (N : Nat → Nat) (hN : ∀ i, N i < 18446744073709551616) (s : ByteArray) (hs : s.size ≤ 2000) (W : World)
    (hc : len = 0 ∨ ∃ b off, a = some ⟨b, off, none⟩ ∧ len ≤ cap ∧ cap ≤ maxLen ∧ ∀ i, i < len → W.cell? ⟨b, off + i, none⟩ = some (.int .u64 (N i))) :
    Calls Try.prog 7 #[.slice a len cap, .string s] W fun e w' => e = .returned (.bool true) ∧ W.grownBy w' none := by
  have HC := Lib.hid hc
  have HN := Lib.hid hN
  have HL := Lib.hid (encs_len N hN)
  have HZ := Lib.hid (encs_size N)
  clear hc hN
  have hg := fun w => get_any s (by unfold maxLen; omega) w
  unfold getV at hg
  go_enter Try.func7, Try.ntmps7
  go_wp2_with (go_at_call 17; refine (awake_any _).mono ?_; rintro e w0 ⟨rfl, g0⟩)
  have G0 := Lib.hid g0
  clear g0
  go_loopw [5, 32] (fun t c wr => ∃ i : Nat, i ≤ len ∧ c = .int .i64 i ∧ t = .string ⟨(encs N i).toArray⟩ ∧ W.grownBy wr none) (fun _ c _ => len - (intOf c).toNat)
  case atStart => exact ⟨0, Nat.zero_le _, rfl, rfl, G0.out⟩
  case round =>
    obtain ⟨i, hi, rfl, rfl, hgr⟩ := hrel
    have hsz := HZ.out i
    have hsl := HL.out i
    have HG := Lib.hid hgr
    clear hgr
    by_cases hlt : i < len
    · obtain ⟨b, off, rfl, hlc, hcm, hcell⟩ := HC.out.resolve_left (by omega)
      unfold maxLen at hcm
      have c1 := HG.out.cell (hcell i hlt) (by simp)
      have hp := fun w => put_any (N i) (HN.out i) w
      have hp10 : (encB (N i)).size ≤ 10 := by
        rw [show (encB (N i)).size = (enc (N i)).length from size_of_list _]; exact enc_len_ten (HN.out i)
      have HJ := Lib.hid (show (⟨(encs N i).toArray⟩ ++ encB (N i) : ByteArray) = ⟨(encs N (i + 1)).toArray⟩ from ByteArray.mk_append_mk _ _)
      clear hcell
      generalize hT : (⟨(encs N i).toArray⟩ : ByteArray) = T at *
      have HT := Lib.hid hT
      clear hT
      generalize encB (N i) = E at *
      generalize N i = n at *
      go_wp2_with (go_at_call 22; refine (hp _).mono ?_; rintro e w1 ⟨rfl, g1⟩)
      go_roundw
      case rel => exact ⟨i + 1, by omega, by go_num, congrArg Value.string HJ.out, only_trans HG.out g1⟩
      case measure => simp [intOf]; omega
    · have hie : i = len := by omega
      subst hie
      have hkey := fun (j : Nat) (hj : j < i) => encs_at N i j hj s.data.toList (HN.out j)
      have hbytes : (⟨(encs N i).toArray⟩ ++ s : ByteArray).data.toList = encs N i ++ s.data.toList := by simp
      have hcat : (⟨(encs N i).toArray⟩ ++ s : ByteArray).size = (encs N i).length + s.size := by rw [ByteArray.size_append, hsz]
      have hrest : ∀ m, m ≤ s.size → (⟨(encs N i).toArray⟩ ++ s : ByteArray).extract ((encs N i).length + m) (⟨(encs N i).toArray⟩ ++ s : ByteArray).size = s.extract m s.size := by
        intro m hm
        rw [hcat]
        apply ByteArray.ext
        apply Array.ext'
        simp
      have hTs : (⟨(encs N i).toArray⟩ ++ s : ByteArray).size ≤ maxLen := by rw [hcat]; unfold maxLen; omega
      rw [← hbytes] at hkey
      have hlast : (⟨(encs N i).toArray⟩ ++ s : ByteArray).data.toList.drop (encs N i).length = s.data.toList := by rw [hbytes]; simp
      have hb := getR_bounds s.data.toList
      rw [show s.data.toList.length = s.size by simp] at hb
      have Hrest := Lib.hid hrest
      have Hkey := Lib.hid hkey
      have Hlast := Lib.hid hlast
      have Hcat := Lib.hid hcat
      clear hrest hkey hlast hbytes hcat
      have hsum : (⟨(encs N i).toArray⟩ : ByteArray).size + s.size ≤ 2600 := by omega
      go_wp2_with fail
      generalize hT : (⟨(encs N i).toArray⟩ ++ s : ByteArray) = T at *
      have HT := Lib.hid hT
      clear hT
      refine (over_any T wr).mono ?_
      rintro e w1 ⟨rfl, hw1⟩
      have hcu := Lib.hid (hw1 ▸ Cur.new T hTs wr)
      have HG1 := Lib.hid (hw1 ▸ only_alloc HG.out _)
      have hWB := HG.out.size
      clear hw1
      generalize wr.heap.size = B at *
      have Hcu0 := Lib.hid (show (encs N 0).length = 0 from rfl)
      go_wp2_with fail
      go_loopw [47] (fun c wr => ∃ j : Nat, j ≤ i ∧ c = .int .i64 j ∧ Cur wr B T (encs N j).length ∧ W.grownBy wr none) (fun c _ => i - (intOf c).toNat)
      case atStart => exact ⟨0, Nat.zero_le _, rfl, hcu.out, HG1.out⟩
      case round =>
        obtain ⟨j, hj, rfl, hcur, hgr⟩ := hrel
        have HG2 := Lib.hid hgr
        have hnx := next_some hcur
        clear hgr
        by_cases hlt : j < i
        · rw [Hkey.out j hlt] at hnx
          rw [← List.length_append, show encs N j ++ enc (N j) = encs N (j + 1) from rfl] at hnx
          obtain ⟨b, off, rfl, hlc, hcm, hcell⟩ := HC.out.resolve_left (by omega)
          unfold maxLen at hcm
          have c1 := HG2.out.cell (hcell j hlt) (by simp)
          have HX := Lib.hid hnx
          clear hcell hnx hcur
          generalize N j = n at *
          go_wp2_with (go_at_call 26; refine HX.out.mono ?_; rintro e w3 ⟨rfl, hc3, hg3⟩)
          go_roundw
          case rel => exact ⟨j + 1, by omega, by go_num, hc3, only_new HG2.out hg3 hWB⟩
          case measure => simp [intOf]; omega
        · have hje : j = i := by omega
          subst hje
          rw [Hlast.out] at hnx
          have hr := Hrest.out (getR s.data.toList).2.1 hb.2.1
          have HX := Lib.hid hnx
          clear hnx hcur Hlast
          generalize getR s.data.toList = r at *
          obtain ⟨x, m, E⟩ := r
          simp only at hg hb hr HX
          obtain ⟨hx, hml, hm10, hE, -⟩ := hb
          generalize (encs N j).length = k at *
          go_wp2_with (go_at_call 26; refine HX.out.mono ?_; rintro e w3 ⟨rfl, hc3, hg3⟩)
          refine (hg _).mono ?_
          rintro e w' ⟨rfl, rfl⟩
          go_wp2_with fail
          refine (next_nil _).mono ?_
          rintro e w' ⟨rfl, rfl⟩
          go_wp2_with fail
          have HG3 := Lib.hid (only_new HG2.out hg3 hWB)
          have HR := Lib.hid (fun d => rest_some (hc3.kept (only_drewN (only_refl w3 none) d) (by simp)))
          have hrl := congrArg ByteArray.toList hr
          have HRE := Lib.hid hr
          clear hc3 hg3 hr
          go_quiet ((go_at_call 14; exact Calls.quiet_of (HR.out _)))
          go_wp2_with fail
          go_ret
          exact ⟨rfl, only_drewN HG3.out _⟩

theorem takes_any (W : World) (a : Option Addr) (len cap : Nat) (zs : List Int) (h : IsInts .u64 W a len cap zs) (hlen : len ≤ maxLen) (s : ByteArray) (hs : s.size ≤ maxLen) :
    Calls Try.prog 7 #[.slice a len cap, .string s] W fun e w' => e = .returned (.bool true) ∧ W.grownBy w' none := by
  by_cases hlong : 2000 < s.size ∨ 60 < len
  · exact takes_long a len cap hlen s hs hlong W
  · have hwf : ∀ i, i < len → 0 ≤ zs.getD i 0 ∧ zs.getD i 0 ≤ 18446744073709551615 := fun i hi => by
      rcases h with ⟨h0, -⟩ | ⟨b, off, rfl, -, -, -, -, hc⟩
      · omega
      · simpa [Lit.wf, IntKind.min, IntKind.max, IntKind.signed, IntKind.bits] using (hc i hi).2
    refine takes_main a len cap (by omega) (fun i => if i < len then (zs.getD i 0).toNat else 0) (fun i => ?_) s (by omega) W ?_
    · split
      · have := hwf i (by assumption); omega
      · omega
    · rcases h with ⟨h0, -⟩ | ⟨b, off, rfl, -, h1, h2, -, hc⟩
      · exact .inl h0
      · refine .inr ⟨b, off, rfl, h1, h2, fun i hi => ?_⟩
        simp only [if_pos hi]
        rw [(hc i hi).1, show (((zs.getD i 0).toNat : Nat) : Int) = zs.getD i 0 by have := hwf i hi; omega]

end Go.Proofs.Ytjdoemciolefmaa.law02
