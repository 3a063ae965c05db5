/-
  FrameBack: a frame is read as it was; cut it is too short; turned it has another sum.
-/
import Derived.Test.YtkggjokpbopjdaaLaw05
import Derived.Test.YtkggjokpbopjdaaRow
namespace Go.Proofs.Ytkggjokpbopjdaa.law05
open Go.RowKit Go.Proofs.Ytkggjokpbopjdaa.fm Go.Proofs.Ytkggjokpbopjdaa.crcm Go.Proofs.Ytkggjokpbopjdaa.vi
set_option linter.unusedVariables false
set_option linter.unusedSimpArgs false

set_option maxHeartbeats 1000000 in
set_option maxRecDepth 100000 in
theorem back_long (p s : ByteArray) (hp : p.size ≤ maxLen) (hs : s.size ≤ maxLen) (hl : 4000 < p.size ∨ 4000 < s.size) (c a n : Int) (W : World) :
    Calls Try.prog 4 #[.string p, .string s, .int .u16 c, .int .u16 a, .int .u32 n] W fun e w' => e = .returned (.bool true) ∧ W.grownBy w' none := by
  unfold maxLen at hs hp
  rcases (show 4000 < p.size ∨ (¬ 4000 < p.size ∧ 4000 < s.size) by omega) with h | ⟨h, h'⟩ <;> clear hl
  all_goals
    go_enter Try.func4, Try.ntmps4
    go_wp2_with fail
    refine (awake_any _).mono ?_
    rintro e w0 ⟨rfl, g0⟩
    go_wp2_with fail
    go_ret
    exact ⟨rfl, g0⟩

/-- What a head, and turned bytes behind it, are read as. -/
theorem turned {p N t : List UInt8} {g e : Nat} (hp : p.length ≤ 65536) (hN : N.length = p.length + 4) (hg : g < 8 * (p.length + 4)) (he : e < 2 ^ 32) (hn : num N = num (p ++ put4 (sumN p)) ^^^ 2 ^ g * e) :
    (parseR (hd p.length ++ (N ++ t))).2.2 = if e = 0 then 0 else 6 := by
  rw [parse_at p.length hp N t hN]
  have hl : sumN p < 4294967296 := by unfold sumN; omega
  have hb := burst (p ++ put4 (sumN p)) N (by rw [hN]; simp [put4]) e g he (by simp [put4]; omega) hn
  have h1 := (check_iff p (put4 (sumN p)) rfl).1 (num_put4 hl)
  have h2 := check_iff (N.take p.length) (N.drop p.length) (by rw [List.length_drop]; omega)
  rw [List.take_append_drop] at h2
  rw [h1] at hb
  by_cases h0 : e = 0
  · rw [if_pos h0, if_pos (h2.2 (hb.2 h0))]
  · rw [if_neg h0, if_neg (fun h => h0 (hb.1 (h2.1 h)))]

theorem set_behind (h N : List UInt8) (j : Nat) (b : UInt8) : (h ++ N).set (h.length + j) b = h ++ N.set j b := by
  rw [List.set_append_right _ _ (by omega)]
  congr 2
  omega
theorem get_behind (h N : List UInt8) (j : Nat) : (h ++ N).getD (h.length + j) 0 = N.getD j 0 := by
  rw [List.getD_eq_getElem?_getD, List.getD_eq_getElem?_getD, List.getElem?_append_right (by omega)]
  congr 2
  omega

set_option maxHeartbeats 8000000 in
set_option maxRecDepth 100000 in
theorem back_main (p s : ByteArray) (hp : p.size ≤ 4000) (hs : s.size ≤ 4000) (ct at' : Nat) (hct : ct < 65536) (hat : at' < 65536) (pattern : Nat) (hpa : pattern < 4294967296) (W : World) :
    Calls Try.prog 4 #[.string p, .string s, .int .u16 ct, .int .u16 at', .int .u32 pattern] W fun e w' => e = .returned (.bool true) ∧ W.grownBy w' none := by
  have hpl : p.data.toList.length = p.size := by simp
  have hwr := fun w => wrap_ok p (by omega) w
  have h10 := enc_len_ten (n := p.size) (by omega)
  obtain ⟨H, hH⟩ : ∃ H, (hd p.size).length = H := ⟨_, rfl⟩
  have hHl := hd_len p.size
  rw [hH] at hHl
  have hFs : (str (fr p.data.toList)).size = H + p.size + 4 := by rw [str_size, fr_len, hpl]; omega
  have hpa1 := fun w => parse_any (str (fr p.data.toList) ++ s) (by rw [ByteArray.size_append, hFs]; omega) w
  have e1 : (str (fr p.data.toList) ++ s : ByteArray).data.toList = fr p.data.toList ++ s.data.toList := by simp [str]
  rw [e1, parse_fr _ _ (by omega)] at hpa1
  obtain ⟨c, hc, hcl⟩ : ∃ c : Nat, (ct : Int) % ((H + p.size + 4 : Nat) : Int) = (c : Int) ∧ c < H + p.size + 4 := ⟨ct % (H + p.size + 4), by simp, Nat.mod_lt _ (by omega)⟩
  have hpa2 := fun w => parse_any ((str (fr p.data.toList)).extract 0 c) (by simp; omega) w
  rw [ext_list, str_list, List.drop_zero, Nat.sub_zero, parse_cut _ (by omega) c (by rw [fr_len, hpl]; omega)] at hpa2
  obtain ⟨g, hg, hgl⟩ : ∃ g : Nat, (at' : Int) % (8 * ((p.size : Int) + 4)) = (g : Int) ∧ g < 8 * (p.size + 4) := ⟨at' % (8 * (p.size + 4)), by simp, Nat.mod_lt _ (by omega)⟩
  have hfl : (fr p.data.toList).length = H + p.size + 4 := by rw [fr_len, hpl]; omega
  rw [hfl] at hpa1
  have hqs : str p.data.toList = p := str_of p
  unfold parseV at hpa1 hpa2
  simp only [hqs] at hpa1
  have hfr : fr p.data.toList = hd p.size ++ (p.data.toList ++ put4 (sumN p.data.toList)) := by unfold fr; rw [hpl]
  have hFL : (str (fr p.data.toList)).data.toList = hd p.size ++ (p.data.toList ++ put4 (sumN p.data.toList)) := by rw [str_list, hfr]
  have hfin := fun N g e h1 h2 h3 h4 => turned (p := p.data.toList) (N := N) (t := s.data.toList) (g := g) (e := e) (by omega) h1 h2 h3 h4
  have hNl : (p.data.toList ++ put4 (sumN p.data.toList)).length = p.size + 4 := by simp [put4]
  rw [hpl] at hfin
  have Hfin := Lib.hid hfin
  have hnz : ((H + p.size + 4 : Nat) : Int) ≠ 0 := by omega
  clear hfin e1 hfr hfl hqs
  generalize hN0 : p.data.toList ++ put4 (sumN p.data.toList) = N0 at *
  clear hN0
  generalize str (fr p.data.toList) = F at *
  have hcs : (ct : Int) % (F.size : Int) = (c : Int) := by rw [hFs]; exact hc
  have hFi : (F.size : Int) - (p.size : Int) - 4 = (H : Int) := by omega
  have hFnz : (F.size : Int) ≠ 0 := by omega
  have hcF : c ≤ F.size := by omega
  have hn8 : 8 * ((p.size : Int) + 4) ≠ 0 := by omega
  rw [← hFs] at hpa1
  have hF5 : F.size ≤ 4020 := by omega
  have hF4 : (4 : Int) ≤ (F.size : Int) := by omega
  have HFs := Lib.hid hFs
  have HHl := Lib.hid hHl
  clear hFs hHl hc hcl hnz h10
  go_enter Try.func4, Try.ntmps4
  go_wp2_with fail
  refine (awake_any _).mono ?_
  rintro e w0 ⟨rfl, g0⟩
  go_wp2_with fail
  refine (hwr _).mono ?_
  rintro e w1 ⟨rfl, g1⟩
  go_wp2_with fail
  refine (hpa1 _).mono ?_
  rintro e w2 ⟨rfl, g2⟩
  go_wp2_with fail
  refine (hpa2 _).mono ?_
  rintro e w3 ⟨rfl, g3⟩
  obtain ⟨cp, w4, hcv, hcap, hrow, hg4, hB⟩ := bytes_conv F w3
  rw [hFL] at hrow
  have HR := Lib.hid hrow
  have HB0 := Lib.hid (only_trans (only_trans (only_trans g0 g1) g2) g3).size
  have HG := Lib.hid (only_trans (only_trans (only_trans (only_trans g0 g1) g2) g3) hg4)
  clear hrow hg4 g0 g1 g2 g3 hpa1 hpa2 hwr
  have HFL := Lib.hid hFL
  clear hFL
  generalize w3.heap.size = B at *
  go_wp2_with fail
  go_loopw [22, 102] (fun t c wr => ∃ (i e : Nat) (N : List UInt8), i ≤ 32 ∧ c = .int .i64 i ∧ e < 2 ^ i ∧ t = .bool (decide (e ≠ 0)) ∧ N.length = p.size + 4 ∧ num N = num N0 ^^^ 2 ^ g * e ∧ Row wr B (hd p.size ++ N) ∧ W.grownBy wr none ∧ B < wr.heap.size) (fun _ c _ => 32 - (intOf c).toNat)
  case atStart => exact ⟨0, 0, N0, by omega, rfl, by decide, rfl, hNl, by simp, HR.out, HG.out, hB⟩
  case round =>
    obtain ⟨i, e, N, hi, rfl, he, rfl, hN, hnum, hrow, hgr, hBr⟩ := hrel
    have HR2 := Lib.hid hrow
    have HG2 := Lib.hid hgr
    have HN := Lib.hid hnum
    have HE := Lib.hid he
    have HM := Lib.hid hN
    clear hrow hgr hnum he hN
    by_cases hlt : i < 32
    · have hbit : bits .and .u32 ((pattern : Int) / 2 ^ i) 1 = ((pattern / 2 ^ i % 2 : Nat) : Int) := by
        have h1 : pattern / 2 ^ i < 4294967296 := Nat.lt_of_le_of_lt (Nat.div_le_self _ _) hpa
        have := u32_and_nat (pattern / 2 ^ i) 1 h1 (by decide)
        rw [Nat.and_one_is_mod] at this
        rw [show (pattern : Int) / 2 ^ i = ((pattern / 2 ^ i : Nat) : Int) by simp]
        exact this
      by_cases hb : pattern / 2 ^ i % 2 = 1
      · rw [hb] at hbit
        by_cases hk : g + i < 8 * (p.size + 4)
        · obtain ⟨j, r, hrl, hjl, hkj⟩ : ∃ j r : Nat, r < 8 ∧ j < p.size + 4 ∧ g + i = 8 * j + r := ⟨(g + i) / 8, (g + i) % 8, by omega, by omega, by omega⟩
          obtain ⟨k, hk1, hk2, hk3, hk4⟩ : ∃ k : Nat, (8 * (H : Int) + (g : Int)) + (i : Int) = (k : Int) ∧ (k : Int) / 8 = ((H + j : Nat) : Int) ∧ (k : Int) % 8 = (r : Int) ∧ (k : Int) < 8 * (F.size : Int) := ⟨8 * H + g + i, by omega, by omega, by omega, by have := HFs.out; omega⟩
          have hHj : H + j < F.size := by have := HFs.out; omega
          have hlen : (hd p.size ++ N).length = F.size := by rw [List.length_append, hH, HM.out, HFs.out]; omega
          have hc := HR2.out.cell (H + j) (by rw [hlen]; exact hHj)
          have hz := HR2.out.free (H + j) (by rw [hlen]; exact hHj)
          rw [← hH, get_behind] at hc
          rw [hH] at hc
          have hxl := (N.getD j 0).toNat_lt
          generalize hx : N.getD j 0 = x at *
          have HX := Lib.hid hx
          have Hkj := Lib.hid hkj
          generalize hJ : H + j = J at *
          have HJ := Lib.hid hJ
          clear hx hlen hkj hJ hk
          go_wp2_with fail
          go_region
          have hp2 : 2 ^ r < 256 := by
            have := Nat.pow_lt_pow_right (a := 2) (by omega) hrl
            simpa using this
          have hv : bits .xor .u8 (x.toNat : Int) (2 ^ r % 256) = ((UInt8.ofNat (x.toNat ^^^ 2 ^ r)).toNat : Int) := by
            have e1 : (2 : Int) ^ r % 256 = ((2 ^ r : Nat) : Int) := by
              rw [Int.natCast_pow]
              have : ((2 ^ r : Nat) : Int) < 256 := by omega
              rw [Int.natCast_pow] at this
              exact Int.emod_eq_of_lt (Int.le_of_lt (Int.pow_pos (by omega))) this
            have hx8 : x.toNat ^^^ 2 ^ r < 256 := Nat.xor_lt_two_pow (n := 8) (by omega) (by simpa using hp2)
            rw [e1, u8_xor_nat _ _ (by omega) hp2]
            rw [ofNat8 hx8]
          have hs3 := num_set N j r (by rw [HM.out]; exact hjl) hrl
          rw [HX.out] at hs3
          have hrs := HR2.out.set J (by rw [← HJ.out, List.length_append, hH, HM.out]; omega) _ _ hv
          rw [show (hd p.size ++ N).set J (UInt8.ofNat (x.toNat ^^^ 2 ^ r)) = hd p.size ++ N.set j (UInt8.ofNat (x.toNat ^^^ 2 ^ r)) by rw [← HJ.out, ← hH, set_behind]] at hrs
          have HRS := Lib.hid hrs
          have HS3 := Lib.hid hs3
          clear hs3 hv hrs
          go_wp2_with fail
          go_roundw
          case rel =>
            refine ⟨i + 1, e ^^^ 2 ^ i, N.set j (UInt8.ofNat (x.toNat ^^^ 2 ^ r)), by omega, by go_num, ?_, ?_, by rw [List.length_set]; exact HM.out, ?_, HRS.out.drew, only_drew (only_new HG2.out ((only_setCell (only_refl wr (some B)) (.inl rfl) _)) ?_), ?_⟩
            · exact Nat.xor_lt_two_pow (Nat.lt_of_lt_of_le HE.out (Nat.pow_le_pow_right (by omega) (by omega))) (Nat.pow_lt_pow_right (by omega) (by omega))
            · have : e ^^^ 2 ^ i ≠ 0 := fun h0 => by
                have h1 := congrArg (· ^^^ 2 ^ i) h0
                simp only [Nat.xor_assoc, Nat.xor_self, Nat.xor_zero, Nat.zero_xor] at h1
                have := HE.out
                omega
              simp [this]
            · rw [HS3.out, HN.out, mul_xor, ← Nat.pow_add, ← Hkj.out, Nat.xor_assoc]
            · exact HB0.out
            · simpa [World.setCell] using hBr
          case measure => simp [intOf]; omega
        · obtain ⟨k, hk1, hk4⟩ : ∃ k : Nat, (8 * (H : Int) + (g : Int)) + (i : Int) = (k : Int) ∧ ¬ (k : Int) < 8 * (F.size : Int) := ⟨8 * H + g + i, by omega, by have := HFs.out; omega⟩
          go_wp2_with fail
          go_roundw
          case rel => exact ⟨i + 1, e, N, by omega, by go_num, by rw [Nat.pow_succ]; have := HE.out; omega, rfl, HM.out, HN.out, HR2.out, HG2.out, hBr⟩
          case measure => simp [intOf]; omega
      · have hb0 : pattern / 2 ^ i % 2 = 0 := by omega
        rw [hb0] at hbit
        go_wp2_with fail
        go_roundw
        case rel => exact ⟨i + 1, e, N, by omega, by go_num, by rw [Nat.pow_succ]; have := HE.out; omega, rfl, HM.out, HN.out, HR2.out, HG2.out, hBr⟩
        case measure => simp [intOf]; omega
    · have hi32 : i = 32 := by omega
      subst hi32
      have hlen : (hd p.size ++ N).length = F.size := by rw [List.length_append, hH, HM.out, HFs.out]; omega
      have hcv2 := row_conv HR2.out 0 F.size cp (by omega)
      rw [List.drop_zero, List.take_of_length_le (by omega)] at hcv2
      have hpa3 := fun w => parse_any (str (hd p.size ++ N) ++ s) (by rw [ByteArray.size_append, str_size, hlen]; omega) w
      have hL : (str (hd p.size ++ N) ++ s : ByteArray).data.toList = hd p.size ++ (N ++ s.data.toList) := by simp [str]
      rw [hL] at hpa3
      have hfin := Hfin.out N g e HM.out hgl HE.out HN.out
      have hps := parse_lt (hd p.size ++ (N ++ s.data.toList))
      unfold parseV at hpa3
      have hS : (⟨(hd p.size ++ N).toArray⟩ : ByteArray) = str (hd p.size ++ N) := rfl
      rw [hS] at hcv2
      have hSs : (str (hd p.size ++ N)).size = F.size := by rw [str_size, hlen]
      generalize parseR (hd p.size ++ (N ++ s.data.toList)) = q at *
      obtain ⟨y, m, E⟩ := q
      simp only at hpa3 hfin hps
      generalize str (hd p.size ++ N) = T at *
      generalize str y = Y at *
      have hTs : T.size ≤ 4020 := by omega
      clear hL hS hlen hps hSs
      by_cases he0 : e = 0
      · have hd2 : decide (e ≠ 0) = false := decide_eq_false (fun h => h he0)
        rw [if_pos he0] at hfin
        subst hfin
        rw [hd2]
        clear hd2
        go_wp2_with fail
        refine (hpa3 _).mono ?_
        rintro e' w5 ⟨rfl, g5⟩
        go_wp2_with fail
        go_ret
        exact ⟨rfl, only_trans HG2.out g5⟩
      · have hd2 : decide (e ≠ 0) = true := decide_eq_true he0
        rw [if_neg he0] at hfin
        subst hfin
        rw [hd2]
        clear hd2
        go_wp2_with fail
        refine (hpa3 _).mono ?_
        rintro e' w5 ⟨rfl, g5⟩
        go_wp2_with fail
        go_ret
        exact ⟨rfl, only_trans HG2.out g5⟩

theorem back_any (W : World) (p : ByteArray) (hp : p.size ≤ maxLen) (s : ByteArray) (hs : s.size ≤ maxLen) (c : Int) (wc : (Lit.int .u16 c).wf = true) (a : Int) (wa : (Lit.int .u16 a).wf = true) (n : Int) (wn : (Lit.int .u32 n).wf = true) :
    Calls Try.prog 4 #[.string p, .string s, .int .u16 c, .int .u16 a, .int .u32 n] W fun e w' => e = .returned (.bool true) ∧ W.grownBy w' none := by
  have hc : 0 ≤ c ∧ c ≤ 65535 := by simpa [Lit.wf, IntKind.min, IntKind.max, IntKind.signed, IntKind.bits] using wc
  have ha : 0 ≤ a ∧ a ≤ 65535 := by simpa [Lit.wf, IntKind.min, IntKind.max, IntKind.signed, IntKind.bits] using wa
  have hn : 0 ≤ n ∧ n ≤ 4294967295 := by simpa [Lit.wf, IntKind.min, IntKind.max, IntKind.signed, IntKind.bits] using wn
  by_cases hl : 4000 < p.size ∨ 4000 < s.size
  · exact back_long p s hp hs hl c a n W
  · have := back_main p s (by omega) (by omega) c.toNat a.toNat (by omega) (by omega) n.toNat (by omega) W
    rwa [show ((c.toNat : Nat) : Int) = c by omega, show ((a.toNat : Nat) : Int) = a by omega, show ((n.toNat : Nat) : Int) = n by omega] at this

end Go.Proofs.Ytkggjokpbopjdaa.law05
