/-
  CursorTakes: the walk.
-/
import Derived.Test.YtjdoemciolefmaaLaw01T
namespace Go.Proofs.Ytjdoemciolefmaa.law01
open Go.RowKit Go.Proofs.Ytjdoemciolefmaa.cur
set_option linter.unusedVariables false

set_option maxHeartbeats 8000000 in
set_option maxRecDepth 100000 in
theorem takes_main (s : ByteArray) (hs : s.size ≤ 2000) (b off cap len : Nat) (hl : len ≤ 60) (hlc : len ≤ cap) (hcm : cap ≤ maxLen) (D N : Nat → Nat) (W : World)
    (hc : ∀ i, i < len → W.cell? ⟨b, off + i * 2, none⟩ = some (.int .u8 (D i)) ∧ W.cell? ⟨b, off + i * 2 + 1, none⟩ = some (.int .u64 (N i)) ∧ D i < 256 ∧ N i < 18446744073709551616) :
    Calls Try.prog 3 #[.string s, .slice (some ⟨b, off, none⟩) len cap] W fun e w' => e = .returned (.bool true) ∧ W.grownBy w' none := by
  have HC := Lib.hid hc
  clear hc
  unfold maxLen at hcm
  go_enter Try.func3, Try.ntmps3
  go_wp2_with fail
  refine (awake_any W).mono ?_
  rintro e w0 ⟨rfl, g0⟩
  go_wp2_with fail
  refine (over_any s w0).mono ?_
  rintro e w1 ⟨rfl, hw1⟩
  have hN := hw1 ▸ Cur.new s (by unfold maxLen; omega) w0
  have g1 : w0.grownBy w1 none := hw1 ▸ World.grownBy_alloc _ _ _
  clear hw1
  have hB := hN.lt
  have hB' := g0.size
  have hB1 := g1.size
  have G1 := Lib.hid (only_trans g0 g1)
  clear g0 g1
  generalize w0.heap.size = B at *
  go_wp2_with fail
  go_loopw [7, 36] (fun a c wr => ∃ k i : Nat, i ≤ len ∧ c = .int .i64 i ∧ a = .string (s.extract 0 k) ∧ St W B w1.heap.size s wr k) (fun _ c _ => len - (intOf c).toNat)
  case atStart =>
    exact ⟨0, 0, by omega, rfl, congrArg Value.string (by simp; rfl), hN.kept (World.grownBy_alloc _ _ none) (by simp), ⟨by go_simp, by go_simp, by go_simp, by go_simp⟩, only_alloc G1.out _, by omega, by omega, by omega⟩
  case round =>
    obtain ⟨k, i, hi, rfl, rfl, hst⟩ := hrel
    by_cases hlt : i < len
    · obtain ⟨c1, c2, hD, hNi⟩ := HC.out i hlt
      have hbl : b < W.heap.size := World.block_lt_of_cell? W _ c1
      have C1 := hst.g.cell c1 (by simp)
      have C2 := hst.g.cell c2 (by simp)
      obtain ⟨cur, d, g, ne, hWB, hWR⟩ := hst
      have hsz := g.size
      have hBl : B < wr.heap.size := cur.lt
      have hRl : w1.heap.size < wr.heap.size := d.lt
      have hbl' : b < wr.heap.size := by omega
      have G := Lib.hid g
      clear g c1 c2
      have hk := cur.le
      have hcu := Lib.hid cur
      have hd := Lib.hid d
      obtain ⟨d0, d1, e0, e1⟩ := d
      clear cur
      generalize D i = Di at *
      generalize N i = Ni at *
      generalize w1.heap.size = R at *
      rcases (show Di % 3 = 0 ∨ Di % 3 = 1 ∨ Di % 3 = 2 by omega) with hd3 | hd3 | hd3
      · go_wp2_with fail
        by_cases hn : 1 ≤ s.size - k
        · refine (ref_ok s k 1 (by unfold maxLen; omega) hk hn _).mono ?_
          rintro e w2 ⟨rfl, g2⟩
          have g2' := only_trans (World.grownBy_alloc wr (.cells #[.int .u8 Di, .int .u64 Ni] 30) none) g2
          have hA := Lib.hid ((Pair.new (.int .u8 Di) (.int .u64 Ni) 30 wr).kept g2 (by simp))
          have hcu := Lib.hid (hcu.out.kept g2' (by simp))
          have hd := Lib.hid (hd.out.kept g2' (by simp))
          have G2 := Lib.hid (only_trans G.out g2')
          have hAl := hA.out.lt
          have hBl2 := hcu.out.lt
          have hRl2 := hd.out.lt
          clear g2 g2' d0 d1 e0 e1 C1 C2
          generalize wr.heap.size = A at *
          obtain ⟨a0, a1, -, -⟩ := hA.out
          obtain ⟨d0, d1, e0, e1⟩ := hd.out
          go_wp2_with fail
          refine (byte_ok (s := s) (k := k) (hcu.out.kept (World.grownBy_alloc _ _ none) (by simp)) (by omega)).mono ?_
          rintro e w3 ⟨rfl, hc3, g3⟩
          have hR2 := Lib.hid ((Pair.new (.string (s.extract (k + 1) s.size)) (.int .i64 ((k : Int) + 1)) 27 w2).kept g3 (by simp; omega))
          have hA := Lib.hid ((hA.out.kept (World.grownBy_alloc _ _ none) (by simp)).kept g3 (by simp; omega))
          have hd := Lib.hid ((hd.out.kept (World.grownBy_alloc _ _ none) (by simp)).kept g3 (by simp; omega))
          have hcu := Lib.hid hc3
          have G3 := Lib.hid (only_new (only_trans G2.out (World.grownBy_alloc _ _ none)) g3 hWB)
          have hAl3 := hA.out.lt
          have hBl3 := hcu.out.lt
          have hRl3 := hd.out.lt
          have hR2l3 := hR2.out.lt
          clear g3 hc3 a0 a1 d0 d1 e0 e1 G2
          generalize w2.heap.size = R2 at *
          obtain ⟨a0, a1, -, -⟩ := hA.out
          obtain ⟨d0, d1, e0, e1⟩ := hd.out
          obtain ⟨b0, b1, -, -⟩ := hR2.out
          have hcv := conv_one s k (by omega) w3
          go_wp2_with fail
          clear hcv
          obtain ⟨r0, r1, f0, f1, hk1, hsm⟩ := hcu.out
          go_quiet (first
            | (go_at_call 14; refine Calls.quiet_of (rest_some (s := s) (k := k + 1) ⟨by go_simp, by go_simp, by go_simp, by go_simp, by omega, hsm⟩))
            | (go_at_call 16; refine Calls.quiet_of (left_some (s := s) (k := k + 1) ⟨by go_simp, by go_simp, by go_simp, by go_simp, by omega, hsm⟩))
            | (go_at_call 15; refine quiet_left (at_some (s := s) (k := k + 1) ⟨by go_simp, by go_simp, by go_simp, by go_simp, by omega, hsm⟩)))
          go_wp2
          go_roundw
          case rel =>
            exact ⟨(k + 1), i + 1, by omega, by go_num, by simp, ⟨by go_simp, by go_simp, by go_simp, by go_simp, by omega, hsm⟩, ⟨by go_simp, by go_simp, by go_simp, by go_simp⟩,
              by repeat' (first | exact G3.out | refine only_drew ?_ | refine only_drewN ?_ _ | refine only_alloc ?_ _ | refine only_setCell ?_ (.inr (by omega)) _), ne, hWB, hWR⟩
          case measure => simp [intOf]; omega
        · refine (ref_bad s k 1 (by unfold maxLen; omega) hk (by omega) (by omega) _).mono ?_
          rintro e w2 ⟨rfl, g2⟩
          have g2' := only_trans (World.grownBy_alloc wr (.cells #[.int .u8 Di, .int .u64 Ni] 30) none) g2
          have hA := Lib.hid ((Pair.new (.int .u8 Di) (.int .u64 Ni) 30 wr).kept g2 (by simp))
          have hcu := Lib.hid (hcu.out.kept g2' (by simp))
          have hd := Lib.hid (hd.out.kept g2' (by simp))
          have G2 := Lib.hid (only_trans G.out g2')
          have hAl := hA.out.lt
          have hBl2 := hcu.out.lt
          have hRl2 := hd.out.lt
          clear g2 g2' d0 d1 e0 e1 C1 C2
          generalize wr.heap.size = A at *
          obtain ⟨a0, a1, -, -⟩ := hA.out
          obtain ⟨d0, d1, e0, e1⟩ := hd.out
          go_wp2_with fail
          refine (byte_no (s := s) (k := k) (hcu.out.kept (World.grownBy_alloc _ _ none) (by simp)) (by omega)).mono ?_
          rintro e w3 ⟨rfl, d, hw3⟩
          have g3 : (w2.alloc (.cells #[.string (s.extract k s.size), .int .i64 k] 27)).grownBy w3 (some B) := hw3 ▸ only_drewN (only_refl _ _) _
          have hc3 : Cur w3 B s k := hw3 ▸ (hcu.out.kept (World.grownBy_alloc _ _ none) (by simp)).kept (only_drewN (only_refl _ none) _) (by simp)
          clear hw3
          have hR2 := Lib.hid ((Pair.new (.string (s.extract k s.size)) (.int .i64 (k : Int)) 27 w2).kept g3 (by simp; omega))
          have hA := Lib.hid ((hA.out.kept (World.grownBy_alloc _ _ none) (by simp)).kept g3 (by simp; omega))
          have hd := Lib.hid ((hd.out.kept (World.grownBy_alloc _ _ none) (by simp)).kept g3 (by simp; omega))
          have hcu := Lib.hid hc3
          have G3 := Lib.hid (only_new (only_trans G2.out (World.grownBy_alloc _ _ none)) g3 hWB)
          have hAl3 := hA.out.lt
          have hBl3 := hcu.out.lt
          have hRl3 := hd.out.lt
          have hR2l3 := hR2.out.lt
          clear g3 hc3 a0 a1 d0 d1 e0 e1 G2
          generalize w2.heap.size = R2 at *
          obtain ⟨a0, a1, -, -⟩ := hA.out
          obtain ⟨d0, d1, e0, e1⟩ := hd.out
          obtain ⟨b0, b1, -, -⟩ := hR2.out
          go_wp2_with fail
          obtain ⟨r0, r1, f0, f1, hk1, hsm⟩ := hcu.out
          go_quiet (first
            | (go_at_call 14; refine Calls.quiet_of (rest_some (s := s) (k := k) ⟨by go_simp, by go_simp, by go_simp, by go_simp, by omega, hsm⟩))
            | (go_at_call 16; refine Calls.quiet_of (left_some (s := s) (k := k) ⟨by go_simp, by go_simp, by go_simp, by go_simp, by omega, hsm⟩))
            | (go_at_call 15; refine quiet_left (at_some (s := s) (k := k) ⟨by go_simp, by go_simp, by go_simp, by go_simp, by omega, hsm⟩)))
          go_wp2
          go_roundw
          case rel =>
            exact ⟨k, i + 1, by omega, by go_num, by simp, ⟨by go_simp, by go_simp, by go_simp, by go_simp, by omega, hsm⟩, ⟨by go_simp, by go_simp, by go_simp, by go_simp⟩,
              by repeat' (first | exact G3.out | refine only_drew ?_ | refine only_drewN ?_ _ | refine only_alloc ?_ _ | refine only_setCell ?_ (.inr (by omega)) _), ne, hWB, hWR⟩
          case measure => simp [intOf]; omega
      · go_wp2_with fail
        by_cases hn : Ni ≤ s.size - k
        · refine (ref_ok s k Ni (by unfold maxLen; omega) hk hn _).mono ?_
          rintro e w2 ⟨rfl, g2⟩
          have g2' := only_trans (World.grownBy_alloc wr (.cells #[.int .u8 Di, .int .u64 Ni] 30) none) g2
          have hA := Lib.hid ((Pair.new (.int .u8 Di) (.int .u64 Ni) 30 wr).kept g2 (by simp))
          have hcu := Lib.hid (hcu.out.kept g2' (by simp))
          have hd := Lib.hid (hd.out.kept g2' (by simp))
          have G2 := Lib.hid (only_trans G.out g2')
          have hAl := hA.out.lt
          have hBl2 := hcu.out.lt
          have hRl2 := hd.out.lt
          clear g2 g2' d0 d1 e0 e1 C1 C2
          generalize wr.heap.size = A at *
          obtain ⟨a0, a1, -, -⟩ := hA.out
          obtain ⟨d0, d1, e0, e1⟩ := hd.out
          go_wp2_with fail
          refine (take_ok (s := s) (k := k) (hcu.out.kept (World.grownBy_alloc _ _ none) (by simp)) Ni hn).mono ?_
          rintro e w3 ⟨rfl, hc3, g3⟩
          have hR2 := Lib.hid ((Pair.new (.string (s.extract (k + Ni) s.size)) (.int .i64 ((k : Int) + Ni)) 27 w2).kept g3 (by simp; omega))
          have hA := Lib.hid ((hA.out.kept (World.grownBy_alloc _ _ none) (by simp)).kept g3 (by simp; omega))
          have hd := Lib.hid ((hd.out.kept (World.grownBy_alloc _ _ none) (by simp)).kept g3 (by simp; omega))
          have hcu := Lib.hid hc3
          have G3 := Lib.hid (only_new (only_trans G2.out (World.grownBy_alloc _ _ none)) g3 hWB)
          have hAl3 := hA.out.lt
          have hBl3 := hcu.out.lt
          have hRl3 := hd.out.lt
          have hR2l3 := hR2.out.lt
          clear g3 hc3 a0 a1 d0 d1 e0 e1 G2
          generalize w2.heap.size = R2 at *
          obtain ⟨a0, a1, -, -⟩ := hA.out
          obtain ⟨d0, d1, e0, e1⟩ := hd.out
          obtain ⟨b0, b1, -, -⟩ := hR2.out
          go_wp2_with fail
          obtain ⟨r0, r1, f0, f1, hk1, hsm⟩ := hcu.out
          go_quiet (first
            | (go_at_call 14; refine Calls.quiet_of (rest_some (s := s) (k := k + Ni) ⟨by go_simp, by go_simp, by go_simp, by go_simp, by omega, hsm⟩))
            | (go_at_call 16; refine Calls.quiet_of (left_some (s := s) (k := k + Ni) ⟨by go_simp, by go_simp, by go_simp, by go_simp, by omega, hsm⟩))
            | (go_at_call 15; refine quiet_left (at_some (s := s) (k := k + Ni) ⟨by go_simp, by go_simp, by go_simp, by go_simp, by omega, hsm⟩)))
          go_wp2
          go_roundw
          case rel =>
            exact ⟨(k + Ni), i + 1, by omega, by go_num, by simp, ⟨by go_simp, by go_simp, by go_simp, by go_simp, by omega, hsm⟩, ⟨by go_simp, by go_simp, by go_simp, by go_simp⟩,
              by repeat' (first | exact G3.out | refine only_drew ?_ | refine only_drewN ?_ _ | refine only_alloc ?_ _ | refine only_setCell ?_ (.inr (by omega)) _), ne, hWB, hWR⟩
          case measure => simp [intOf]; omega
        · refine (ref_bad s k Ni (by unfold maxLen; omega) hk (by omega) (by omega) _).mono ?_
          rintro e w2 ⟨rfl, g2⟩
          have g2' := only_trans (World.grownBy_alloc wr (.cells #[.int .u8 Di, .int .u64 Ni] 30) none) g2
          have hA := Lib.hid ((Pair.new (.int .u8 Di) (.int .u64 Ni) 30 wr).kept g2 (by simp))
          have hcu := Lib.hid (hcu.out.kept g2' (by simp))
          have hd := Lib.hid (hd.out.kept g2' (by simp))
          have G2 := Lib.hid (only_trans G.out g2')
          have hAl := hA.out.lt
          have hBl2 := hcu.out.lt
          have hRl2 := hd.out.lt
          clear g2 g2' d0 d1 e0 e1 C1 C2
          generalize wr.heap.size = A at *
          obtain ⟨a0, a1, -, -⟩ := hA.out
          obtain ⟨d0, d1, e0, e1⟩ := hd.out
          go_wp2_with fail
          refine (take_no (s := s) (k := k) (hcu.out.kept (World.grownBy_alloc _ _ none) (by simp)) Ni (by omega) (by omega)).mono ?_
          rintro e w3 ⟨rfl, d, hw3⟩
          have g3 : (w2.alloc (.cells #[.string (s.extract k s.size), .int .i64 k] 27)).grownBy w3 (some B) := hw3 ▸ only_drewN (only_refl _ _) _
          have hc3 : Cur w3 B s k := hw3 ▸ (hcu.out.kept (World.grownBy_alloc _ _ none) (by simp)).kept (only_drewN (only_refl _ none) _) (by simp)
          clear hw3
          have hR2 := Lib.hid ((Pair.new (.string (s.extract k s.size)) (.int .i64 (k : Int)) 27 w2).kept g3 (by simp; omega))
          have hA := Lib.hid ((hA.out.kept (World.grownBy_alloc _ _ none) (by simp)).kept g3 (by simp; omega))
          have hd := Lib.hid ((hd.out.kept (World.grownBy_alloc _ _ none) (by simp)).kept g3 (by simp; omega))
          have hcu := Lib.hid hc3
          have G3 := Lib.hid (only_new (only_trans G2.out (World.grownBy_alloc _ _ none)) g3 hWB)
          have hAl3 := hA.out.lt
          have hBl3 := hcu.out.lt
          have hRl3 := hd.out.lt
          have hR2l3 := hR2.out.lt
          clear g3 hc3 a0 a1 d0 d1 e0 e1 G2
          generalize w2.heap.size = R2 at *
          obtain ⟨a0, a1, -, -⟩ := hA.out
          obtain ⟨d0, d1, e0, e1⟩ := hd.out
          obtain ⟨b0, b1, -, -⟩ := hR2.out
          go_wp2_with fail
          obtain ⟨r0, r1, f0, f1, hk1, hsm⟩ := hcu.out
          go_quiet (first
            | (go_at_call 14; refine Calls.quiet_of (rest_some (s := s) (k := k) ⟨by go_simp, by go_simp, by go_simp, by go_simp, by omega, hsm⟩))
            | (go_at_call 16; refine Calls.quiet_of (left_some (s := s) (k := k) ⟨by go_simp, by go_simp, by go_simp, by go_simp, by omega, hsm⟩))
            | (go_at_call 15; refine quiet_left (at_some (s := s) (k := k) ⟨by go_simp, by go_simp, by go_simp, by go_simp, by omega, hsm⟩)))
          go_wp2
          go_roundw
          case rel =>
            exact ⟨k, i + 1, by omega, by go_num, by simp, ⟨by go_simp, by go_simp, by go_simp, by go_simp, by omega, hsm⟩, ⟨by go_simp, by go_simp, by go_simp, by go_simp⟩,
              by repeat' (first | exact G3.out | refine only_drew ?_ | refine only_drewN ?_ _ | refine only_alloc ?_ _ | refine only_setCell ?_ (.inr (by omega)) _), ne, hWB, hWR⟩
          case measure => simp [intOf]; omega
      · go_wp2_with fail
        by_cases hn : Ni ≤ s.size - k
        · refine (ref_ok s k Ni (by unfold maxLen; omega) hk hn _).mono ?_
          rintro e w2 ⟨rfl, g2⟩
          have g2' := only_trans (World.grownBy_alloc wr (.cells #[.int .u8 Di, .int .u64 Ni] 30) none) g2
          have hA := Lib.hid ((Pair.new (.int .u8 Di) (.int .u64 Ni) 30 wr).kept g2 (by simp))
          have hcu := Lib.hid (hcu.out.kept g2' (by simp))
          have hd := Lib.hid (hd.out.kept g2' (by simp))
          have G2 := Lib.hid (only_trans G.out g2')
          have hAl := hA.out.lt
          have hBl2 := hcu.out.lt
          have hRl2 := hd.out.lt
          clear g2 g2' d0 d1 e0 e1 C1 C2
          generalize wr.heap.size = A at *
          obtain ⟨a0, a1, -, -⟩ := hA.out
          obtain ⟨d0, d1, e0, e1⟩ := hd.out
          go_wp2_with fail
          refine (sub_ok (s := s) (k := k) (hcu.out.kept (World.grownBy_alloc _ _ none) (by simp)) Ni hn).mono ?_
          rintro e w3 ⟨b', rfl, hb', hs3, hc3, g3⟩
          have hR2 := Lib.hid ((Pair.new (.string (s.extract (k + Ni) s.size)) (.int .i64 ((k : Int) + Ni)) 27 w2).kept g3 (by simp; omega))
          have hA := Lib.hid ((hA.out.kept (World.grownBy_alloc _ _ none) (by simp)).kept g3 (by simp; omega))
          have hd := Lib.hid ((hd.out.kept (World.grownBy_alloc _ _ none) (by simp)).kept g3 (by simp; omega))
          have hcu := Lib.hid hc3
          have G3 := Lib.hid (only_new (only_trans G2.out (World.grownBy_alloc _ _ none)) g3 hWB)
          have hAl3 := hA.out.lt
          have hBl3 := hcu.out.lt
          have hRl3 := hd.out.lt
          have hR2l3 := hR2.out.lt
          have hs3 := Lib.hid hs3
          clear g3 hc3 a0 a1 d0 d1 e0 e1 G2
          generalize w2.heap.size = R2 at *
          obtain ⟨a0, a1, -, -⟩ := hA.out
          obtain ⟨d0, d1, e0, e1⟩ := hd.out
          obtain ⟨b0, b1, -, -⟩ := hR2.out
          have hsub := fun (n : Nat) => Lib.hid (show Cur (w3.drewN n) b' (s.extract k (k + Ni)) 0 from hs3.out.kept (only_drewN (only_refl _ none) _) (by simp))
          go_wp2_with (first
            | (go_at_call 14; refine (rest_zero hs3.out).mono ?_; rintro e w' ⟨rfl, d', rfl⟩)
            | (go_at_call 15; refine (at_some (hsub _).out).mono ?_; rintro e w' ⟨rfl, rfl⟩)
            | (go_at_call 16; refine (left_some (hsub _).out).mono ?_; rintro e w' ⟨rfl, d'', rfl⟩))
          clear hsub hs3
          obtain ⟨r0, r1, f0, f1, hk1, hsm⟩ := hcu.out
          go_quiet (first
            | (go_at_call 14; refine Calls.quiet_of (rest_some (s := s) (k := k + Ni) ⟨by go_simp, by go_simp, by go_simp, by go_simp, by omega, hsm⟩))
            | (go_at_call 16; refine Calls.quiet_of (left_some (s := s) (k := k + Ni) ⟨by go_simp, by go_simp, by go_simp, by go_simp, by omega, hsm⟩))
            | (go_at_call 15; refine quiet_left (at_some (s := s) (k := k + Ni) ⟨by go_simp, by go_simp, by go_simp, by go_simp, by omega, hsm⟩)))
          go_wp2
          go_roundw
          case rel =>
            exact ⟨(k + Ni), i + 1, by omega, by go_num, by simp, ⟨by go_simp, by go_simp, by go_simp, by go_simp, by omega, hsm⟩, ⟨by go_simp, by go_simp, by go_simp, by go_simp⟩,
              by repeat' (first | exact G3.out | refine only_drew ?_ | refine only_drewN ?_ _ | refine only_alloc ?_ _ | refine only_setCell ?_ (.inr (by omega)) _), ne, hWB, hWR⟩
          case measure => simp [intOf]; omega
        · refine (ref_bad s k Ni (by unfold maxLen; omega) hk (by omega) (by omega) _).mono ?_
          rintro e w2 ⟨rfl, g2⟩
          have g2' := only_trans (World.grownBy_alloc wr (.cells #[.int .u8 Di, .int .u64 Ni] 30) none) g2
          have hA := Lib.hid ((Pair.new (.int .u8 Di) (.int .u64 Ni) 30 wr).kept g2 (by simp))
          have hcu := Lib.hid (hcu.out.kept g2' (by simp))
          have hd := Lib.hid (hd.out.kept g2' (by simp))
          have G2 := Lib.hid (only_trans G.out g2')
          have hAl := hA.out.lt
          have hBl2 := hcu.out.lt
          have hRl2 := hd.out.lt
          clear g2 g2' d0 d1 e0 e1 C1 C2
          generalize wr.heap.size = A at *
          obtain ⟨a0, a1, -, -⟩ := hA.out
          obtain ⟨d0, d1, e0, e1⟩ := hd.out
          go_wp2_with fail
          refine (sub_no (s := s) (k := k) (hcu.out.kept (World.grownBy_alloc _ _ none) (by simp)) Ni (by omega) (by omega)).mono ?_
          rintro e w3 ⟨rfl, d, hw3⟩
          have g3 : (w2.alloc (.cells #[.string (s.extract k s.size), .int .i64 k] 27)).grownBy w3 (some B) := hw3 ▸ only_drewN (only_refl _ _) _
          have hc3 : Cur w3 B s k := hw3 ▸ (hcu.out.kept (World.grownBy_alloc _ _ none) (by simp)).kept (only_drewN (only_refl _ none) _) (by simp)
          clear hw3
          have hR2 := Lib.hid ((Pair.new (.string (s.extract k s.size)) (.int .i64 (k : Int)) 27 w2).kept g3 (by simp; omega))
          have hA := Lib.hid ((hA.out.kept (World.grownBy_alloc _ _ none) (by simp)).kept g3 (by simp; omega))
          have hd := Lib.hid ((hd.out.kept (World.grownBy_alloc _ _ none) (by simp)).kept g3 (by simp; omega))
          have hcu := Lib.hid hc3
          have G3 := Lib.hid (only_new (only_trans G2.out (World.grownBy_alloc _ _ none)) g3 hWB)
          have hAl3 := hA.out.lt
          have hBl3 := hcu.out.lt
          have hRl3 := hd.out.lt
          have hR2l3 := hR2.out.lt
          clear g3 hc3 a0 a1 d0 d1 e0 e1 G2
          generalize w2.heap.size = R2 at *
          obtain ⟨a0, a1, -, -⟩ := hA.out
          obtain ⟨d0, d1, e0, e1⟩ := hd.out
          obtain ⟨b0, b1, -, -⟩ := hR2.out
          go_wp2_with (first
            | (go_at_call 14; refine (rest_nil _).mono ?_; rintro e w' ⟨rfl, rfl⟩)
            | (go_at_call 15; refine (at_nil _).mono ?_; rintro e w' ⟨rfl, rfl⟩)
            | (go_at_call 16; refine (left_nil _).mono ?_; rintro e w' ⟨rfl, rfl⟩))
          obtain ⟨r0, r1, f0, f1, hk1, hsm⟩ := hcu.out
          go_quiet (first
            | (go_at_call 14; refine Calls.quiet_of (rest_some (s := s) (k := k) ⟨by go_simp, by go_simp, by go_simp, by go_simp, by omega, hsm⟩))
            | (go_at_call 16; refine Calls.quiet_of (left_some (s := s) (k := k) ⟨by go_simp, by go_simp, by go_simp, by go_simp, by omega, hsm⟩))
            | (go_at_call 15; refine quiet_left (at_some (s := s) (k := k) ⟨by go_simp, by go_simp, by go_simp, by go_simp, by omega, hsm⟩)))
          go_wp2
          go_roundw
          case rel =>
            exact ⟨k, i + 1, by omega, by go_num, by simp, ⟨by go_simp, by go_simp, by go_simp, by go_simp, by omega, hsm⟩, ⟨by go_simp, by go_simp, by go_simp, by go_simp⟩,
              by repeat' (first | exact G3.out | refine only_drew ?_ | refine only_drewN ?_ _ | refine only_alloc ?_ _ | refine only_setCell ?_ (.inr (by omega)) _), ne, hWB, hWR⟩
          case measure => simp [intOf]; omega
    · obtain ⟨cur, d, g, ne, hWB, hWR⟩ := hst
      have hk := cur.le
      have hr := rest_some cur
      have G := Lib.hid g
      clear cur d g
      go_wp2_with (go_at_call 14; refine hr.mono ?_; rintro e w' ⟨rfl, d', rfl⟩)
      go_ways
      go_ret
      exact ⟨rfl, only_drewN G.out _⟩

end Go.Proofs.Ytjdoemciolefmaa.law01
