/-
  The statement DeltaJoins.
-/
import Derived.Test.YtbebdaglkjhbjaaGreatDoorLaw16
namespace Go.Proofs.YtbebdaglkjhbjaaGreatDoor.law16
open Go.RowKit Go.Proofs.YtbebdaglkjhbjaaGreatDoor.vi Go.Proofs.YtbebdaglkjhbjaaGreatDoor.um Go.Proofs.YtbebdaglkjhbjaaGreatDoor.wm Go.Proofs.YtbebdaglkjhbjaaGreatDoor.tr Go.Proofs.YtbebdaglkjhbjaaGreatDoor.em Go.Proofs.YtbebdaglkjhbjaaGreatDoor.rm Go.Proofs.YtbebdaglkjhbjaaGreatDoor.law11 Go.Proofs.YtbebdaglkjhbjaaGreatDoor.dd Go.Proofs.YtbebdaglkjhbjaaGreatDoor.dr Go.Proofs.YtbebdaglkjhbjaaGreatDoor.tm Go.Proofs.YtbebdaglkjhbjaaGreatDoor.tf Go.Proofs.YtbebdaglkjhbjaaGreatDoor.ti Go.Proofs.YtbebdaglkjhbjaaGreatDoor.dl Go.Proofs.YtbebdaglkjhbjaaGreatDoor.dz Go.Proofs.YtbebdaglkjhbjaaGreatDoor.da Go.Proofs.YtbebdaglkjhbjaaGreatDoor.law13
set_option linter.unusedVariables false
set_option linter.unusedSimpArgs false

theorem few_tok {t : List Rw} (h : fewT t = true) (hb : ∀ r ∈ t, Bul r) : Tok t := ⟨by have := (few_facts h).1; omega, few_fit h hb⟩
theorem join_gk {a b : Dt} (ha : Tok a.t) (hb : Tok b.t) : Gk (joinX a b).1.t := by
  by_cases h : (joinX a b).2 = 0
  · obtain ⟨h1, h2, -, -, -, h6, h7⟩ := joinX_ok h
    rw [h7]
    exact ⟨(sum_get h1 h2 h6).1, sum_64 fun r hr => (hb.2 r hr).2.2.2⟩
  · have : (joinX a b).1.t = [] := by
      unfold joinX at h ⊢
      split
      · rfl
      · rename_i h1
        rw [if_neg h1] at h
        split
        · rfl
        · rename_i h2
          rw [if_neg h2] at h
          split
          · rfl
          · rename_i h3
            rw [if_neg h3] at h
            exact absurd rfl h
    rw [this]
    exact ⟨⟨by simp, by simp, by simp⟩, fun r hr => by simp at hr⟩
theorem cells9 {w : World} {n : Nat} {v0 v1 v2 v3 v4 v5 v6 v7 v8 : Value} {ty : TypeId} (h : w.heap[n]? = some (.cells #[v0, v1, v2, v3, v4, v5, v6, v7, v8] ty (0, 0))) : w.cell? ⟨n, 0, none⟩ = some v0 ∧ w.cell? ⟨n, 1, none⟩ = some v1 ∧ w.cell? ⟨n, 2, none⟩ = some v2 ∧ w.cell? ⟨n, 3, none⟩ = some v3 ∧ w.cell? ⟨n, 4, none⟩ = some v4 ∧ w.cell? ⟨n, 5, none⟩ = some v5 ∧ w.cell? ⟨n, 6, none⟩ = some v6 ∧ w.cell? ⟨n, 7, none⟩ = some v7 ∧ w.cell? ⟨n, 8, none⟩ = some v8 := by
  simp [World.cell?, h]

set_option maxHeartbeats 16000000 in
set_option maxRecDepth 100000 in
theorem joins_any (W : World) (hT : tb.Tab W) (x y z : Dt) (SA SB SC : Nat → Prop) (u v s : Value) (hx : ∀ r ∈ x.t, Bul r) (hy : ∀ r ∈ y.t, Bul r) (hz : ∀ r ∈ z.t, Bul r) (lx : x.t.length ≤ 140737488351232) (ly : y.t.length ≤ 140737488351232) (lz : z.t.length ≤ 140737488351232) (h : Rs SA W u x.t) (h2 : Rs SB W v y.t) (h3 : Rs SC W s z.t) :
    Calls Tryz.prog 7 #[dtV x u, dtV y v, dtV z s] W fun e w' => e = .returned (.bool true) ∧ W.grownBy w' none := by
  have HA := Lib.hid (fun w (g : W.grownBy w none) => awake_any w (tb.kept hT g))
  have HFx := Lib.hid (fun w (g : W.grownBy w none) => law13.few_any x.t SA w _ lx (fun r hr => ⟨(hx r hr).1, (hx r hr).2.1⟩) (h.grown g))
  have TKx := Lib.hid (fun (hf : fewT x.t = true) => few_tok hf hx)
  have Rx := Lib.hid (fun w (g : W.grownBy w none) => h.grown g)
  have HFy := Lib.hid (fun w (g : W.grownBy w none) => law13.few_any y.t SB w _ ly (fun r hr => ⟨(hy r hr).1, (hy r hr).2.1⟩) (h2.grown g))
  have TKy := Lib.hid (fun (hf : fewT y.t = true) => few_tok hf hy)
  have Ry := Lib.hid (fun w (g : W.grownBy w none) => h2.grown g)
  have HFz := Lib.hid (fun w (g : W.grownBy w none) => law13.few_any z.t SC w _ lz (fun r hr => ⟨(hz r hr).1, (hz r hr).2.1⟩) (h3.grown g))
  have TKz := Lib.hid (fun (hf : fewT z.t = true) => few_tok hf hz)
  have Rz := Lib.hid (fun w (g : W.grownBy w none) => h3.grown g)
  have HTB := Lib.hid (fun w (g : W.grownBy w none) => tb.kept hT g)
  obtain ⟨ux, cx, rfl⟩ := h.shape
  obtain ⟨uy, cy, rfl⟩ := h2.shape
  obtain ⟨uz, cz, rfl⟩ := h3.shape
  obtain ⟨m1, m2, m3, m4, -⟩ := made3 W (.cells #[.int .u64 (x.b : Nat), .int .u64 (x.e : Nat), .slice ux x.t.length cx] 51) (.cells #[.int .u64 (y.b : Nat), .int .u64 (y.e : Nat), .slice uy y.t.length cy] 51) (.cells #[.int .u64 (z.b : Nat), .int .u64 (z.e : Nat), .slice uz z.t.length cz] 51)
  have M1 := Lib.hid m1
  have M2 := Lib.hid m2
  have M3 := Lib.hid m3
  have M4 := Lib.hid m4
  clear hT hx hy hz h h2 h3 m1 m2 m3 m4
  unfold dtV
  go_enter Tryz.func7, Tryz.ntmps7
  go_wp2_with fail
  refine (HA.out _ M4.out).mono ?_
  rintro e w1 ⟨rfl, g1⟩
  have G1 := Lib.hid (only_trans M4.out g1)
  have X1 := Lib.hid (heap_kept M1.out g1 (by simp))
  have Y1 := Lib.hid (heap_kept M2.out g1 (by simp))
  have Z1 := Lib.hid (heap_kept M3.out g1 (by simp))
  clear g1
  have GL := only_alloc (only_refl w1 none) (.cells #[.int .u64 (x.b : Nat), .int .u64 (x.e : Nat), .slice ux x.t.length cx, .int .u64 (y.b : Nat), .int .u64 (y.e : Nat), .slice uy y.t.length cy, .int .u64 (z.b : Nat), .int .u64 (z.e : Nat), .slice uz z.t.length cz] 51)
  have L1 := Lib.hid (heap_alloc_new w1 (.cells #[.int .u64 (x.b : Nat), .int .u64 (x.e : Nat), .slice ux x.t.length cx, .int .u64 (y.b : Nat), .int .u64 (y.e : Nat), .slice uy y.t.length cy, .int .u64 (z.b : Nat), .int .u64 (z.e : Nat), .slice uz z.t.length cz] 51))
  have XL := Lib.hid (heap_kept X1.out GL (by simp))
  have YL := Lib.hid (heap_kept Y1.out GL (by simp))
  have ZL := Lib.hid (heap_kept Z1.out GL (by simp))
  have GL1 := Lib.hid (only_trans G1.out GL)
  obtain ⟨a0, a1, a2, -⟩ := cells3 X1.out
  obtain ⟨b0, b1, b2, -⟩ := cells3 Y1.out
  obtain ⟨c0, c1, c2, -⟩ := cells3 Z1.out
  clear GL
  go_wp2_with fail
  clear a0 a1 a2 b0 b1 b2 c0 c1 c2
  generalize w1.alloc (.cells #[.int .u64 (x.b : Nat), .int .u64 (x.e : Nat), .slice ux x.t.length cx, .int .u64 (y.b : Nat), .int .u64 (y.e : Nat), .slice uy y.t.length cy, .int .u64 (z.b : Nat), .int .u64 (z.e : Nat), .slice uz z.t.length cz] 51) = WL at *
  go_loopw [24] (fun q wr => ∃ (i : Nat), i ≤ 3 ∧ q = .int .i64 i ∧ (0 < i → fewT x.t = true) ∧ (1 < i → fewT y.t = true) ∧ (2 < i → fewT z.t = true) ∧ WL.grownBy wr none) (fun q _ => 3 - (intOf q).toNat)
  case atStart => exact ⟨0, by omega, rfl, fun h => by omega, fun h => by omega, fun h => by omega, only_refl _ _⟩
  case round =>
    obtain ⟨i, hi, rfl, hfx, hfy, hfz, hg⟩ := hrel
    have K := Lib.hid hg
    have G2 := Lib.hid (only_trans GL1.out hg)
    obtain ⟨l0, l1, l2, l3, l4, l5, l6, l7, l8⟩ := cells9 (heap_kept L1.out hg (by simp))
    have hlw : w1.heap.size < wr.heap.size := Nat.lt_of_lt_of_le (Array.getElem?_eq_some_iff.1 L1.out).1 hg.size
    have HFX := Lib.hid hfx
    have HFY := Lib.hid hfy
    have HFZ := Lib.hid hfz
    clear hg hfx hfy hfz
    rcases (show i = 0 ∨ i = 1 ∨ i = 2 ∨ i = 3 by omega) with rfl | rfl | rfl | rfl
    · by_cases hl : (100 : Int) < x.t.length
      · clear HFX HFY HFZ
        go_wp2_with fail
        go_ret
        exact ⟨rfl, only_alloc G2.out (.cells #[.int .u64 (x.b : Nat), .int .u64 (x.e : Nat), .slice ux x.t.length cx] 51)⟩
      · have GB := Lib.hid (only_alloc G2.out (.cells #[.int .u64 (x.b : Nat), .int .u64 (x.e : Nat), .slice ux x.t.length cx] 51))
        have KB := Lib.hid (only_alloc K.out (.cells #[.int .u64 (x.b : Nat), .int .u64 (x.e : Nat), .slice ux x.t.length cx] 51))
        have HFF := Lib.hid (HFx.out _ GB.out)
        cases hf : fewT x.t with
        | false =>
          rw [hf] at HFF
          clear HFX HFY HFZ hf
          go_wp2_with fail
          refine HFF.out.mono ?_
          rintro e w2 ⟨rfl, g2⟩
          go_wp2_with fail
          go_ret
          exact ⟨rfl, only_trans GB.out g2⟩
        | true =>
          rw [hf] at HFF
          have HFQ := Lib.hid hf
          clear HFX HFY HFZ hf
          go_wp2_with fail
          refine HFF.out.mono ?_
          rintro e w2 ⟨rfl, g2⟩
          have K2 := Lib.hid (only_trans KB.out g2)
          clear g2
          go_wp2_with fail
          go_roundw
          case rel => exact ⟨1, by omega, by go_num, fun _ => by first | exact HFQ.out | trivial, fun h => by omega, fun h => by omega, K2.out⟩
          case measure => simp [intOf]
    · have hfx := HFX.out (by omega)
      by_cases hl : (100 : Int) < y.t.length
      · clear HFX HFY HFZ
        go_wp2_with fail
        go_ret
        exact ⟨rfl, only_alloc G2.out (.cells #[.int .u64 (y.b : Nat), .int .u64 (y.e : Nat), .slice uy y.t.length cy] 51)⟩
      · have GB := Lib.hid (only_alloc G2.out (.cells #[.int .u64 (y.b : Nat), .int .u64 (y.e : Nat), .slice uy y.t.length cy] 51))
        have KB := Lib.hid (only_alloc K.out (.cells #[.int .u64 (y.b : Nat), .int .u64 (y.e : Nat), .slice uy y.t.length cy] 51))
        have HFF := Lib.hid (HFy.out _ GB.out)
        cases hf : fewT y.t with
        | false =>
          rw [hf] at HFF
          clear HFX HFY HFZ hf
          go_wp2_with fail
          refine HFF.out.mono ?_
          rintro e w2 ⟨rfl, g2⟩
          go_wp2_with fail
          go_ret
          exact ⟨rfl, only_trans GB.out g2⟩
        | true =>
          rw [hf] at HFF
          have HFQ := Lib.hid hf
          clear HFX HFY HFZ hf
          go_wp2_with fail
          refine HFF.out.mono ?_
          rintro e w2 ⟨rfl, g2⟩
          have K2 := Lib.hid (only_trans KB.out g2)
          clear g2
          go_wp2_with fail
          go_roundw
          case rel => exact ⟨2, by omega, by go_num, fun _ => by first | exact hfx | trivial, fun _ => by first | exact HFQ.out | trivial, fun h => by omega, K2.out⟩
          case measure => simp [intOf]
    · have hfx := HFX.out (by omega)
      have hfy := HFY.out (by omega)
      by_cases hl : (100 : Int) < z.t.length
      · clear HFX HFY HFZ
        go_wp2_with fail
        go_ret
        exact ⟨rfl, only_alloc G2.out (.cells #[.int .u64 (z.b : Nat), .int .u64 (z.e : Nat), .slice uz z.t.length cz] 51)⟩
      · have GB := Lib.hid (only_alloc G2.out (.cells #[.int .u64 (z.b : Nat), .int .u64 (z.e : Nat), .slice uz z.t.length cz] 51))
        have KB := Lib.hid (only_alloc K.out (.cells #[.int .u64 (z.b : Nat), .int .u64 (z.e : Nat), .slice uz z.t.length cz] 51))
        have HFF := Lib.hid (HFz.out _ GB.out)
        cases hf : fewT z.t with
        | false =>
          rw [hf] at HFF
          clear HFX HFY HFZ hf
          go_wp2_with fail
          refine HFF.out.mono ?_
          rintro e w2 ⟨rfl, g2⟩
          go_wp2_with fail
          go_ret
          exact ⟨rfl, only_trans GB.out g2⟩
        | true =>
          rw [hf] at HFF
          have HFQ := Lib.hid hf
          clear HFX HFY HFZ hf
          go_wp2_with fail
          refine HFF.out.mono ?_
          rintro e w2 ⟨rfl, g2⟩
          have K2 := Lib.hid (only_trans KB.out g2)
          clear g2
          go_wp2_with fail
          go_roundw
          case rel => exact ⟨3, by omega, by go_num, fun _ => by first | exact hfx | trivial, fun _ => by first | exact hfy | trivial, fun _ => by first | exact HFQ.out | trivial, K2.out⟩
          case measure => simp [intOf]
    · have hfx := HFX.out (by omega)
      have hfy := HFY.out (by omega)
      have hfz := HFZ.out (by omega)
      clear HFX HFY HFZ l0 l1 l2 l3 l4 l5 l6 l7 l8
      have tx := TKx.out hfx
      have ty := TKy.out hfy
      have tz := TKz.out hfz
      have TX := Lib.hid tx
      have TY := Lib.hid ty
      have TZ := Lib.hid tz
      have JK1 := Lib.hid (join_gk tx ty)
      have JK2 := Lib.hid (join_gk ty tz)
      have HJJ := Lib.hid (@join_join x y z)
      have HC1 := Lib.hid (fun w (g : W.grownBy w none) => join_any x y SA SB w _ _ tx ty (HTB.out w g) (Rx.out w g) (Ry.out w g))
      have HC2 := Lib.hid (fun w (g : W.grownBy w none) => join_any y z SB SC w _ _ ty tz (HTB.out w g) (Ry.out w g) (Rz.out w g))
      have HC3 := Lib.hid (fun S w v (g : W.grownBy w none) (hr : Rs S w v (joinX x y).1.t) => join_any (joinX x y).1 z S SC w v _ (JK1.out.tok) tz (HTB.out w g) hr (Rz.out w g))
      have HC4 := Lib.hid (fun S w v (g : W.grownBy w none) (hr : Rs S w v (joinX y z).1.t) => join_any x (joinX y z).1 SA S w _ v tx (JK2.out.tok) (HTB.out w g) (Rx.out w g) hr)
      have JL1 := joinX_lt x y
      have JL2 := joinX_lt y z
      have JL3 := joinX_lt (joinX x y).1 z
      clear hfx hfy hfz tx ty tz
      have X2 := Lib.hid (heap_kept XL.out K.out (by simp))
      have Y2 := Lib.hid (heap_kept YL.out K.out (by simp))
      have Z2 := Lib.hid (heap_kept ZL.out K.out (by simp))
      obtain ⟨a0, a1, a2, -⟩ := cells3 X2.out
      obtain ⟨b0, b1, b2, -⟩ := cells3 Y2.out
      obtain ⟨c0, c1, c2, -⟩ := cells3 Z2.out
      generalize hJ1 : joinX x y = J1 at *
      generalize hJ2 : joinX y z = J2 at *
      have EJ1 := Lib.hid hJ1
      have EJ2 := Lib.hid hJ2
      clear hJ1 hJ2
      obtain ⟨p, e1⟩ := J1
      obtain ⟨q, e2⟩ := J2
      simp only at HC1 HC2 HC3 HC4 JK1 JK2 JL1 JL2 JL3 HJJ
      unfold dtV at HC1 HC2 HC3 HC4
      go_wp2_with fail
      refine (HC1.out _ G2.out).mono ?_
      rintro e w3 ⟨u3, rfl, r3, g3⟩
      have G3 := Lib.hid (only_trans G2.out g3)
      have X3 := Lib.hid (heap_kept X2.out g3 (by simp))
      have Y3 := Lib.hid (heap_kept Y2.out g3 (by simp))
      have Z3 := Lib.hid (heap_kept Z2.out g3 (by simp))
      have R3 := Lib.hid r3
      obtain ⟨pa, pc, rfl⟩ := r3.shape
      clear g3 r3 a0 a1 a2 b0 b1 b2 c0 c1 c2
      obtain ⟨a0, a1, a2, -⟩ := cells3 X3.out
      obtain ⟨b0, b1, b2, -⟩ := cells3 Y3.out
      obtain ⟨c0, c1, c2, -⟩ := cells3 Z3.out
      have hx3 : W.heap.size < w3.heap.size := (Array.getElem?_eq_some_iff.1 X3.out).1
      have hy3 : W.heap.size + 1 < w3.heap.size := (Array.getElem?_eq_some_iff.1 Y3.out).1
      have hz3 : W.heap.size + 1 + 1 < w3.heap.size := (Array.getElem?_eq_some_iff.1 Z3.out).1
      have GP := Lib.hid (only_alloc G3.out (.cells #[.int .u64 (p.b : Nat), .int .u64 (p.e : Nat), .slice pa p.t.length pc] 51))
      have P4 := Lib.hid (heap_alloc_new w3 (.cells #[.int .u64 (p.b : Nat), .int .u64 (p.e : Nat), .slice pa p.t.length pc] 51))
      have gp := only_alloc (only_refl w3 none) (.cells #[.int .u64 (p.b : Nat), .int .u64 (p.e : Nat), .slice pa p.t.length pc] 51)
      have X3p := Lib.hid (heap_kept X3.out gp (by simp))
      have Y3p := Lib.hid (heap_kept Y3.out gp (by simp))
      have Z3p := Lib.hid (heap_kept Z3.out gp (by simp))
      have RP3 := Lib.hid (R3.out.grown gp)
      clear gp
      go_wp2_with fail
      refine (HC2.out _ GP.out).mono ?_
      rintro e w4 ⟨u4, rfl, r4, g4⟩
      have G4 := Lib.hid (only_trans GP.out g4)
      have X4 := Lib.hid (heap_kept X3p.out g4 (by simp))
      have Y4 := Lib.hid (heap_kept Y3p.out g4 (by simp))
      have Z4 := Lib.hid (heap_kept Z3p.out g4 (by simp))
      have PP4 := Lib.hid (heap_kept P4.out g4 (by simp))
      have RP4 := Lib.hid (RP3.out.grown g4)
      have RQ4 := Lib.hid r4
      obtain ⟨qa, qc, rfl⟩ := r4.shape
      clear g4 r4 a0 a1 a2 b0 b1 b2 c0 c1 c2
      obtain ⟨a0, a1, a2, -⟩ := cells3 X4.out
      obtain ⟨b0, b1, b2, -⟩ := cells3 Y4.out
      obtain ⟨c0, c1, c2, -⟩ := cells3 Z4.out
      obtain ⟨d0, d1, d2, -⟩ := cells3 PP4.out
      have hx4 : W.heap.size < w4.heap.size := (Array.getElem?_eq_some_iff.1 X4.out).1
      have hy4 : W.heap.size + 1 < w4.heap.size := (Array.getElem?_eq_some_iff.1 Y4.out).1
      have hz4 : W.heap.size + 1 + 1 < w4.heap.size := (Array.getElem?_eq_some_iff.1 Z4.out).1
      have hp4 : w3.heap.size < w4.heap.size := (Array.getElem?_eq_some_iff.1 PP4.out).1
      have GQ := Lib.hid (only_alloc G4.out (.cells #[.int .u64 (q.b : Nat), .int .u64 (q.e : Nat), .slice qa q.t.length qc] 51))
      have Q5 := Lib.hid (heap_alloc_new w4 (.cells #[.int .u64 (q.b : Nat), .int .u64 (q.e : Nat), .slice qa q.t.length qc] 51))
      have gq := only_alloc (only_refl w4 none) (.cells #[.int .u64 (q.b : Nat), .int .u64 (q.e : Nat), .slice qa q.t.length qc] 51)
      have X4q := Lib.hid (heap_kept X4.out gq (by simp))
      have Z4q := Lib.hid (heap_kept Z4.out gq (by simp))
      have P4q := Lib.hid (heap_kept PP4.out gq (by simp))
      have RP5 := Lib.hid (RP4.out.grown gq)
      have RQ5 := Lib.hid (RQ4.out.grown gq)
      clear gq
      by_cases z1 : e1 = 0
      · subst z1
        by_cases z2 : e2 = 0
        · subst z2
          have HJE : Hid (joinX p z = joinX x q) := by
            show _ = _
            have h9 := HJJ.out (by first | rfl | trivial) (by first | rfl | trivial)
            exact h9
          clear HJJ
          rw [← HJE.out] at HC4
          have JK3 := Lib.hid (join_gk JK1.out.tok TZ.out)
          generalize joinX p z = J3 at *
          obtain ⟨o, e3⟩ := J3
          simp only at HC3 HC4 JL3 JK3
          have HSM := Lib.hid (fun S T w u v (h : Rs S w u o.t) (h2 : Rs T w v o.t) => same_any o.t o.t S T w u v (by have := JK3.out.tok.1; omega) (fun r hr => by have := (JK3.out.tok.2 r hr).1; omega) h h2)
          rw [decide_eq_true rfl] at HSM
          go_wp2_with fail
          refine (HC3.out _ _ _ GQ.out RP5.out).mono ?_
          rintro e w6 ⟨u6, rfl, r6, g6⟩
          have G6 := Lib.hid (only_trans GQ.out g6)
          have X6 := Lib.hid (heap_kept X4q.out g6 (by simp))
          have Q6 := Lib.hid (heap_kept Q5.out g6 (by simp))
          have RQ6 := Lib.hid (RQ5.out.grown g6)
          have RO6 := Lib.hid r6
          obtain ⟨oa, oc, rfl⟩ := r6.shape
          clear g6 r6 a0 a1 a2 b0 b1 b2 c0 c1 c2 d0 d1 d2
          obtain ⟨a0, a1, a2, -⟩ := cells3 X6.out
          obtain ⟨d0, d1, d2, -⟩ := cells3 Q6.out
          have hx6 : W.heap.size < w6.heap.size := (Array.getElem?_eq_some_iff.1 X6.out).1
          have hq6 : w4.heap.size < w6.heap.size := (Array.getElem?_eq_some_iff.1 Q6.out).1
          have GO := Lib.hid (only_alloc G6.out (.cells #[.int .u64 (o.b : Nat), .int .u64 (o.e : Nat), .slice oa o.t.length oc] 51))
          have O7 := Lib.hid (heap_alloc_new w6 (.cells #[.int .u64 (o.b : Nat), .int .u64 (o.e : Nat), .slice oa o.t.length oc] 51))
          have go := only_alloc (only_refl w6 none) (.cells #[.int .u64 (o.b : Nat), .int .u64 (o.e : Nat), .slice oa o.t.length oc] 51)
          have RQ7 := Lib.hid (RQ6.out.grown go)
          have RO7 := Lib.hid (RO6.out.grown go)
          clear go
          go_wp2_with fail
          refine (HC4.out _ _ _ GO.out RQ7.out).mono ?_
          rintro e w8 ⟨u8, rfl, r8, g8⟩
          have G8 := Lib.hid (only_trans GO.out g8)
          have O8 := Lib.hid (heap_kept O7.out g8 (by simp))
          have RO8 := Lib.hid (RO7.out.grown g8)
          have RV8 := Lib.hid r8
          obtain ⟨va, vc, rfl⟩ := r8.shape
          clear g8 r8 a0 a1 a2 d0 d1 d2
          obtain ⟨d0, d1, d2, -⟩ := cells3 O8.out
          have ho8 : w6.heap.size < w8.heap.size := (Array.getElem?_eq_some_iff.1 O8.out).1
          have gv := only_alloc (only_refl w8 none) (.cells #[.int .u64 (o.b : Nat), .int .u64 (o.e : Nat), .slice va o.t.length vc] 51)
          have GV := Lib.hid (only_trans G8.out gv)
          have HSF := Lib.hid (HSM.out _ _ _ _ _ (RO8.out.grown gv) (RV8.out.grown gv))
          clear gv
          have hee : ((e3 : Int) == (e3 : Int)) = true := by simp
          have hbb : ((o.b : Int) == (o.b : Int)) = true := by simp
          have hoo : ((o.e : Int) == (o.e : Int)) = true := by simp
          go_wp2_with fail
          refine HSF.out.mono ?_
          rintro e w9 ⟨rfl, g9⟩
          go_wp2_with fail
          go_ret
          exact ⟨rfl, only_trans GV.out g9⟩
        · have hqb : ((e2 : Int) != 0) = true := by rw [bne_iff_ne]; omega
          clear HJJ
          go_wp2_with fail
          go_ret
          exact ⟨rfl, GQ.out⟩
      · have hqb : ((e1 : Int) != 0) = true := by rw [bne_iff_ne]; omega
        clear HJJ
        go_wp2_with fail
        go_ret
        exact ⟨rfl, GQ.out⟩

end Go.Proofs.YtbebdaglkjhbjaaGreatDoor.law16
