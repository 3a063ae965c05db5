/-
  CrcBursts.
-/
import Derived.Test.YtfcoiojfcepeiaaLaw04
import Derived.Test.YtfcoiojfcepeiaaRow
namespace Go.Proofs.Ytfcoiojfcepeiaa.law04
open Go.RowKit Go.Proofs.Ytfcoiojfcepeiaa.crc Go.Proofs.Ytfcoiojfcepeiaa.crcm
set_option linter.unusedVariables false
set_option linter.unusedSimpArgs false

set_option maxHeartbeats 1000000 in
set_option maxRecDepth 100000 in
theorem bursts_early (s : ByteArray) (hs : s.size ≤ maxLen) (at' : Int) (pattern : Nat) (hp : pattern < 4294967296) (hl : 3000 < s.size ∨ pattern = 0) (W : World) :
    Calls Try.prog 5 #[.string s, .int .u16 at', .int .u32 pattern] W fun e w' => e = .returned (.bool true) ∧ W.grownBy w' none := by
  unfold maxLen at hs
  rcases (show 3000 < s.size ∨ (¬ 3000 < s.size ∧ pattern = 0) by omega) with h | ⟨h, rfl⟩ <;> clear hl
  all_goals
    go_enter Try.func5, Try.ntmps5
    go_wp2_with (go_at_call 18; refine (awake_any _).mono ?_; rintro e w0 ⟨rfl, g0⟩)
    go_ret
    exact ⟨rfl, g0⟩

theorem final {s : ByteArray} {M L : List UInt8} {f e : Nat} (hL : L = (s ++ putB (sumN s.data.toList)).data.toList) (hM : M.length = s.size + 4) (hf : f < 8 * (s.size + 4)) (he : e < 2 ^ 32) (hN : num M = num L ^^^ 2 ^ f * e) :
    decide ((⟨(M.drop s.size).toArray⟩ : ByteArray) = putB (sumN (M.take s.size))) = decide (e = 0) := by
  have hsl : s.data.toList.length = s.size := by simp
  have hl : sumN s.data.toList < 4294967296 := by unfold sumN; omega
  have hLa : L = s.data.toList ++ put4 (sumN s.data.toList) := by rw [hL]; simp [putB]
  have hL4 : L.length = s.size + 4 := by rw [hLa, List.length_append, hsl]; rfl
  have hb := burst L M (by omega) e f he (by omega) hN
  have h1 := (check_iff s.data.toList (put4 (sumN s.data.toList)) rfl).1 (num_put4 hl)
  rw [← hLa] at h1
  have hMd : (M.drop s.size).length = 4 := by rw [List.length_drop]; omega
  have h2 := check_iff (M.take s.size) (M.drop s.size) hMd
  rw [List.take_append_drop] at h2
  rw [h1] at hb
  have h3 : (⟨(M.drop s.size).toArray⟩ : ByteArray) = putB (sumN (M.take s.size)) ↔ num (M.drop s.size) = sumN (M.take s.size) := by
    have hl2 : sumN (M.take s.size) < 4294967296 := by unfold sumN; omega
    constructor
    · intro h
      have := congrArg (fun b : ByteArray => num b.data.toList) h
      simp only [putB] at this
      rw [this, num_put4 hl2]
    · intro h
      have : M.drop s.size = put4 (sumN (M.take s.size)) := num_inj _ _ (by rw [hMd]; rfl) (by rw [h, num_put4 hl2])
      rw [this, putB]
  exact decide_eq_decide.2 (h3.trans (h2.trans hb))

set_option maxHeartbeats 4000000 in
set_option maxRecDepth 100000 in
theorem bursts_main (s : ByteArray) (hs : s.size ≤ 3000) (at' : Nat) (hat : at' < 65536) (pattern : Nat) (hp : pattern < 4294967296) (hp0 : pattern ≠ 0) (W : World) :
    Calls Try.prog 5 #[.string s, .int .u16 at', .int .u32 pattern] W fun e w' => e = .returned (.bool true) ∧ W.grownBy w' none := by
  have hsum := fun w => sum_one s (by unfold maxLen; omega) w
  have hl : sumN s.data.toList < 4294967296 := by unfold sumN; omega
  have hput := fun w => put_any (sumN s.data.toList) hl w
  have hpl : (putB (sumN s.data.toList)).size = 4 := rfl
  obtain ⟨T, hT⟩ : ∃ T, putB (sumN s.data.toList) = T := ⟨_, rfl⟩
  rw [hT] at hput hpl
  obtain ⟨n, hn⟩ : ∃ n, sumN s.data.toList = n := ⟨_, rfl⟩
  rw [hn] at hsum hl hput
  have HT := Lib.hid hT
  clear hT hn
  have hq0 : ((pattern : Int) == 0) = false := by simp; omega
  have hTs : (s ++ T).size = s.size + 4 := by rw [ByteArray.size_append, hpl]
  go_enter Try.func5, Try.ntmps5
  go_wp2_with (go_at_call 18; refine (awake_any _).mono ?_; rintro e w0 ⟨rfl, g0⟩)
  refine (hsum _).mono ?_
  rintro e w1 ⟨rfl, g1⟩
  go_wp2_with fail
  refine (hput _).mono ?_
  rintro e w2 ⟨rfl, g2⟩
  obtain ⟨c, w3, hcv, hcap, hrow, hg3, hB⟩ := bytes_conv (s ++ T) w2
  have HR := Lib.hid hrow
  have HB0 := Lib.hid (only_trans (only_trans g0 g1) g2).size
  have HG := Lib.hid (only_trans (only_trans (only_trans g0 g1) g2) hg3)
  clear hrow hg3 g0 g1 g2
  generalize w2.heap.size = B at *
  have hm0 : 8 * ((s.size : Int) + 4) ≠ 0 := by omega
  obtain ⟨f, hf, hfl⟩ : ∃ f : Nat, (at' : Int) % (8 * ((s.size : Int) + 4)) = (f : Int) ∧ f < 8 * (s.size + 4) := ⟨at' % (8 * (s.size + 4)), by simp, Nat.mod_lt _ (by omega)⟩
  have HTS := Lib.hid hTs
  rw [hTs] at hcap hcv
  clear hTs
  go_wp2_with fail
  have hL : (s ++ T).data.toList.length = s.size + 4 := by rw [← HTS.out]; simp
  generalize hLd : (s ++ T).data.toList = L at *
  have HLd := Lib.hid hLd
  clear hLd
  go_loopw [9, 34] (fun t c wr => ∃ (i e : Nat) (M : List UInt8), i ≤ 32 ∧ c = .int .i64 i ∧ e < 2 ^ i ∧ t = .bool (decide (e ≠ 0)) ∧ M.length = s.size + 4 ∧ num M = num L ^^^ 2 ^ f * e ∧ Row wr B M ∧ W.grownBy wr none ∧ B < wr.heap.size) (fun _ c _ => 32 - (intOf c).toNat)
  case atStart => exact ⟨0, 0, L, by omega, rfl, by decide, rfl, hL, by simp, HR.out, HG.out, hB⟩
  case round =>
    obtain ⟨i, e, M, hi, rfl, he, rfl, hM, hnum, hrow, hgr, hBr⟩ := hrel
    have HR2 := Lib.hid hrow
    have HG2 := Lib.hid hgr
    have HN := Lib.hid hnum
    have HE := Lib.hid he
    have HM := Lib.hid hM
    clear hrow hgr hnum he hM
    by_cases hlt : i < 32
    · have hbit : bits .and .u32 ((pattern : Int) / 2 ^ i) 1 = ((pattern / 2 ^ i % 2 : Nat) : Int) := by
        have h1 : pattern / 2 ^ i < 4294967296 := Nat.lt_of_le_of_lt (Nat.div_le_self _ _) hp
        have := u32_and_nat (pattern / 2 ^ i) 1 h1 (by decide)
        rw [Nat.and_one_is_mod] at this
        rw [show (pattern : Int) / 2 ^ i = ((pattern / 2 ^ i : Nat) : Int) by simp]
        exact this
      by_cases hb : pattern / 2 ^ i % 2 = 1
      · rw [hb] at hbit
        by_cases hk : f + i < 8 * (s.size + 4)
        · obtain ⟨j, hj, hjl⟩ : ∃ j : Nat, ((f : Int) + (i : Int)) / 8 = (j : Int) ∧ j < s.size + 4 := ⟨(f + i) / 8, by omega, by omega⟩
          obtain ⟨r, hr, hrl⟩ : ∃ r : Nat, ((f : Int) + (i : Int)) % 8 = (r : Int) ∧ r < 8 := ⟨(f + i) % 8, by omega, by omega⟩
          have hkjr : Hid (f + i = 8 * j + r) := show f + i = 8 * j + r by omega
          have hc := HR2.out.cell j (by rw [HM.out]; exact hjl)
          have hz := HR2.out.free j (by rw [HM.out]; exact hjl)
          have hxl := (M.getD j 0).toNat_lt
          generalize hx : M.getD j 0 = x at *
          have HX := Lib.hid hx
          clear hx
          go_wp2_with fail
          go_region
          have hp2 : 2 ^ r < 256 := by
            have := Nat.pow_lt_pow_right (a := 2) (by omega) hrl
            simpa using this
          have hv : bits .xor .u8 (x.toNat : Int) (2 ^ r % 256) = ((UInt8.ofNat (x.toNat ^^^ 2 ^ r)).toNat : Int) := by
            have e1 : (2 : Int) ^ r % 256 = ((2 ^ r : Nat) : Int) := by
              rw [Int.natCast_pow]
              have : ((2 ^ r : Nat) : Int) < 256 := by omega
              rw [Int.natCast_pow] at this
              exact Int.emod_eq_of_lt (Int.le_of_lt (Int.pow_pos (by omega))) this
            have hx8 : x.toNat ^^^ 2 ^ r < 256 := Nat.xor_lt_two_pow (n := 8) (by omega) (by simpa using hp2)
            rw [e1, u8_xor_nat _ _ (by omega) hp2]
            rw [ofNat8 hx8]
          have hs3 := num_set M j r (by rw [HM.out]; exact hjl) hrl
          rw [HX.out] at hs3
          have HS3 := Lib.hid hs3
          have HV := Lib.hid hv
          clear hs3 hv
          go_wp2_with fail
          go_roundw
          case rel =>
            refine ⟨i + 1, e ^^^ 2 ^ i, M.set j (UInt8.ofNat (x.toNat ^^^ 2 ^ r)), by omega, by go_num, ?_, ?_, by rw [List.length_set]; exact HM.out, ?_, (HR2.out.set j (by rw [HM.out]; exact hjl) _ _ HV.out).drew, only_drew (only_new HG2.out ((only_setCell (only_refl wr (some B)) (.inl rfl) _)) ?_), ?_⟩
            · exact Nat.xor_lt_two_pow (Nat.lt_of_lt_of_le HE.out (Nat.pow_le_pow_right (by omega) (by omega))) (Nat.pow_lt_pow_right (by omega) (by omega))
            · have : e ^^^ 2 ^ i ≠ 0 := fun h0 => by
                have h1 := congrArg (· ^^^ 2 ^ i) h0
                simp only [Nat.xor_assoc, Nat.xor_self, Nat.xor_zero, Nat.zero_xor] at h1
                have := HE.out
                omega
              simp [this]
            · rw [HS3.out, HN.out, mul_xor, ← Nat.pow_add, ← hkjr.out, Nat.xor_assoc]
            · exact HB0.out
            · simpa [World.setCell] using hBr
          case measure => simp [intOf]; omega
        · go_wp2_with fail
          go_roundw
          case rel => exact ⟨i + 1, e, M, by omega, by go_num, by rw [Nat.pow_succ]; have := HE.out; omega, rfl, HM.out, HN.out, HR2.out, HG2.out, hBr⟩
          case measure => simp [intOf]; omega
      · have hb0 : pattern / 2 ^ i % 2 = 0 := by omega
        rw [hb0] at hbit
        go_wp2_with fail
        go_roundw
        case rel => exact ⟨i + 1, e, M, by omega, by go_num, by rw [Nat.pow_succ]; have := HE.out; omega, rfl, HM.out, HN.out, HR2.out, HG2.out, hBr⟩
        case measure => simp [intOf]; omega
    · have hi32 : i = 32 := by omega
      subst hi32
      have hfin := final (s := s) (M := M) (L := L) (f := f) (e := e) (by rw [HT.out, HLd.out]) HM.out hfl HE.out HN.out
      have HF := Lib.hid hfin
      clear hfin
      have hcv1 : ∀ g : GW wr none, (convert 51 9 (.slice (some ⟨B, 0, none⟩) s.size c)).run Try.prog g.world = .ok (.string ⟨(M.take s.size).toArray⟩) g.world := fun g =>
        row_conv (HR2.out.kept hBr g.ok) 0 s.size c (by rw [HM.out]; omega)
      have hcv2 : ∀ g : GW wr none, (convert 51 9 (.slice (some ⟨B, s.size, none⟩) 4 (c - s.size))).run Try.prog g.world = .ok (.string ⟨(M.drop s.size).toArray⟩) g.world := fun g => by
        have := row_conv (HR2.out.kept hBr g.ok) s.size 4 (c - s.size) (by rw [HM.out]; omega)
        rwa [List.take_of_length_le (by rw [List.length_drop, HM.out]; omega)] at this
      go_wp2_with fail
      refine wp_region_gw wr none (by kernel_rfl) (by kernel_rfl) (only_refl _ _) ?_
      have hchk : ∀ g : GW wr none, Calls Try.prog 25 #[.string ⟨(M.take s.size).toArray⟩, .string ⟨(M.drop s.size).toArray⟩] g.world fun e' w' => e' = .returned (.bool (decide (e = 0))) ∧ g.world.grownBy w' none := fun g => by
        have := check_any ⟨(M.take s.size).toArray⟩ ⟨(M.drop s.size).toArray⟩ (by rw [size_of_list]; unfold maxLen; simp; omega) (by rw [size_of_list, List.length_drop, HM.out]; unfold maxLen; omega) g.world
        rw [HF.out] at this
        exact this
      have Hchk := Lib.hid hchk
      clear hchk
      by_cases he0 : e = 0
      · have hd1 : decide (e = 0) = true := decide_eq_true he0
        have hd2 : decide (e ≠ 0) = false := decide_eq_false (fun h => h he0)
        rw [hd1] at Hchk
        rw [hd2]
        clear hd1 hd2 HF
        repeat (go_big_quiet_step ((go_at_call 25; exact calls_gw (Hchk.out _))))
        refine wpQuiet_nil ?_
        rintro _ ⟨⟨w', hw'⟩, rfl⟩
        go_wp2_with fail
        go_ret
        exact ⟨rfl, only_trans HG2.out hw'⟩
      · have hd1 : decide (e = 0) = false := decide_eq_false he0
        have hd2 : decide (e ≠ 0) = true := decide_eq_true he0
        rw [hd1] at Hchk
        rw [hd2]
        clear hd1 hd2 HF
        repeat (go_big_quiet_step ((go_at_call 25; exact calls_gw (Hchk.out _))))
        refine wpQuiet_nil ?_
        rintro _ ⟨⟨w', hw'⟩, rfl⟩
        go_wp2_with fail
        go_ret
        exact ⟨rfl, only_trans HG2.out hw'⟩

theorem bursts_any (W : World) (s : ByteArray) (hs : s.size ≤ maxLen) (a : Int) (wa : (Lit.int .u16 a).wf = true) (p : Int) (wp : (Lit.int .u32 p).wf = true) :
    Calls Try.prog 5 #[.string s, .int .u16 a, .int .u32 p] W fun e w' => e = .returned (.bool true) ∧ W.grownBy w' none := by
  have ha : 0 ≤ a ∧ a ≤ 65535 := by simpa [Lit.wf, IntKind.min, IntKind.max, IntKind.signed, IntKind.bits] using wa
  have hp : 0 ≤ p ∧ p ≤ 4294967295 := by simpa [Lit.wf, IntKind.min, IntKind.max, IntKind.signed, IntKind.bits] using wp
  have e1 : ((a.toNat : Nat) : Int) = a := by omega
  have e2 : ((p.toNat : Nat) : Int) = p := by omega
  by_cases hl : 3000 < s.size ∨ p.toNat = 0
  · have := bursts_early s hs a p.toNat (by omega) hl W
    rwa [e2] at this
  · have := bursts_main s (by omega) a.toNat (by omega) p.toNat (by omega) (by omega) W
    rwa [e1, e2] at this

end Go.Proofs.Ytfcoiojfcepeiaa.law04
