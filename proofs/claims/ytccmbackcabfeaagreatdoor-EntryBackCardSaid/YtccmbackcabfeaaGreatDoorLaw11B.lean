/-
  EntryBack.
-/
import Derived.Test.YtccmbackcabfeaaGreatDoorBundE
namespace Go.Proofs.YtccmbackcabfeaaGreatDoor.law11
open Go.RowKit Go.Proofs.YtccmbackcabfeaaGreatDoor.vi Go.Proofs.YtccmbackcabfeaaGreatDoor.um Go.Proofs.YtccmbackcabfeaaGreatDoor.wm Go.Proofs.YtccmbackcabfeaaGreatDoor.tr Go.Proofs.YtccmbackcabfeaaGreatDoor.em Go.Proofs.YtccmbackcabfeaaGreatDoor.cur
set_option linter.unusedVariables false
set_option linter.unusedSimpArgs false

theorem putE_len (x : Ent) (h1 : x.key.size ≤ 2000000) (h2 : x.value.size ≤ 2000000) : (putE x).length ≤ 20 + x.key.size + x.value.size := by
  have a := enc_len_ten (n := x.key.size) (by omega)
  have b := enc_len_ten (n := x.value.size) (by omega)
  unfold putE
  rw [List.length_append, tw_len, tw_len]
  omega

theorem eqb_ne {x y : Ent} (h : cmpE x y ≠ 0) : (x.key.toList == y.key.toList) = false ∨ ((x.key.toList == y.key.toList) = true ∧ (x.value.toList == y.value.toList) = false) := by
  rw [beq_bytes, beq_bytes]
  by_cases hk : x.key = y.key
  · refine .inr ⟨decide_eq_true hk, decide_eq_false fun hv => absurd ((cmpE_zero x y).2 ?_) h⟩
    obtain ⟨a, b⟩ := x
    obtain ⟨c, d⟩ := y
    simp only at hk hv
    rw [hk, hv]
  · exact .inl (decide_eq_false hk)
theorem three (x y z : Ent) : (cmpE x y = 0 ∧ cmpE y x = 0 ∧ x = y) ∨ (cmpE x y = 1 ∧ cmpE y x = -1) ∨ (cmpE x y = -1 ∧ cmpE y x = 1 ∧ (cmpE y z = 0 ∨ cmpE y z = 1)) ∨ (cmpE x y = -1 ∧ cmpE y x = 1 ∧ cmpE y z = -1 ∧ cmpE x z = -1) := by
  have hn := cmpE_neg x y
  rcases cmpE_cases x y with h | h | h
  · rcases cmpE_cases y z with k | k | k
    · have := cmpE_trans (a := x) (b := y) (c := z) (by omega) (by omega)
      rcases cmpE_cases x z with j | j | j
      · exact .inr (.inr (.inr ⟨h, by omega, k, j⟩))
      · omega
      · omega
    · exact .inr (.inr (.inl ⟨h, by omega, .inl k⟩))
    · exact .inr (.inr (.inl ⟨h, by omega, .inr k⟩))
  · exact .inl ⟨h, by omega, (cmpE_zero x y).1 h⟩
  · exact .inr (.inl ⟨h, by omega⟩)

set_option maxHeartbeats 8000000 in
set_option maxRecDepth 100000 in
theorem back_any (I : EI) (W : World) (hT : I.Tab W) (x y z : Ent) (s : ByteArray) (h1 : x.key.size ≤ 140737488351232) (h2 : x.value.size ≤ 140737488351232) (h3 : y.key.size ≤ 140737488351232) (h4 : y.value.size ≤ 140737488351232) (h5 : z.key.size ≤ 140737488351232) (h6 : z.value.size ≤ 140737488351232) (hs : s.size ≤ maxLen) :
    Calls Tryz.prog 4 #[.agg #[.string x.key, .string x.value], .agg #[.string y.key, .string y.value], .agg #[.string z.key, .string z.value], .string s] W fun e w' => e = .returned (.bool true) ∧ W.grownBy w' none := by
  have HA := Lib.hid (fun w (g : W.grownBy w none) => awake_any I.toECore w (I.kept hT g))
  unfold maxLen at hs
  have VX := EntV.new W 23 x
  have GX := only_alloc (only_refl W none) (.cells #[.string x.key, .string x.value] 23)
  have hx : (W.alloc (.cells #[.string x.key, .string x.value] 23)).heap.size = W.heap.size + 1 := by simp
  have VY := EntV.new (W.alloc (.cells #[.string x.key, .string x.value] 23)) 23 y
  have GY := only_alloc (only_refl (W.alloc (.cells #[.string x.key, .string x.value] 23)) none) (.cells #[.string y.key, .string y.value] 23)
  have hy : ((W.alloc (.cells #[.string x.key, .string x.value] 23)).alloc (.cells #[.string y.key, .string y.value] 23)).heap.size = W.heap.size + 1 + 1 := by simp
  have VZ := EntV.new ((W.alloc (.cells #[.string x.key, .string x.value] 23)).alloc (.cells #[.string y.key, .string y.value] 23)) 23 z
  have GZ := only_alloc (only_refl ((W.alloc (.cells #[.string x.key, .string x.value] 23)).alloc (.cells #[.string y.key, .string y.value] 23)) none) (.cells #[.string z.key, .string z.value] 23)
  rw [hx] at VY
  rw [hy] at VZ
  have G0 := Lib.hid (only_trans (only_trans GX GY) GZ)
  have X0 := Lib.hid (VX.grown (only_trans GY GZ))
  have Y0 := Lib.hid (VY.grown GZ)
  have Z0 := Lib.hid VZ
  clear VX VY VZ GX GY GZ hx hy
  by_cases hb : (1000 : Int) < (x.key.size : Int) + x.value.size + y.key.size + y.value.size + z.key.size + z.value.size
  · clear hT
    go_enter Tryz.func4, Tryz.ntmps4
    go_wp2_with fail
    refine (HA.out _ G0.out).mono ?_
    rintro e w1 ⟨rfl, g1⟩
    have G1 := Lib.hid (only_trans G0.out g1)
    have X1 := Lib.hid (X0.out.grown g1)
    have Y1 := Lib.hid (Y0.out.grown g1)
    have Z1 := Lib.hid (Z0.out.grown g1)
    obtain ⟨x0, x1⟩ := X1.out
    obtain ⟨y0, y1⟩ := Y1.out
    obtain ⟨z0, z1⟩ := Z1.out
    clear g1
    go_wp2_with fail
    go_ret
    exact ⟨rfl, G1.out⟩
  · by_cases hc : (1000 : Int) < (s.size : Int)
    · clear hT
      go_enter Tryz.func4, Tryz.ntmps4
      go_wp2_with fail
      refine (HA.out _ G0.out).mono ?_
      rintro e w1 ⟨rfl, g1⟩
      have G1 := Lib.hid (only_trans G0.out g1)
      have X1 := Lib.hid (X0.out.grown g1)
      have Y1 := Lib.hid (Y0.out.grown g1)
      have Z1 := Lib.hid (Z0.out.grown g1)
      obtain ⟨x0, x1⟩ := X1.out
      obtain ⟨y0, y1⟩ := Y1.out
      obtain ⟨z0, z1⟩ := Z1.out
      clear g1
      go_wp2_with fail
      go_ret
      exact ⟨rfl, G1.out⟩
    · have HN := Lib.hid (fun w1 (g1 : W.grownBy w1 none) w b k t hw hb hc ht => I.next w1 w b t k (I.kept hT g1) hw hb hc ht)
      have HPT := Lib.hid (fun w => I.put x w (by omega) (by omega))
      have hpl := putE_len x (by omega) (by omega)
      go_enter Tryz.func4, Tryz.ntmps4
      go_wp2_with fail
      refine (HA.out _ G0.out).mono ?_
      rintro e w1 ⟨rfl, g1⟩
      have G1 := Lib.hid (only_trans G0.out g1)
      have X1 := Lib.hid (X0.out.grown g1)
      have Y1 := Lib.hid (Y0.out.grown g1)
      have Z1 := Lib.hid (Z0.out.grown g1)
      obtain ⟨x0, x1⟩ := X1.out
      obtain ⟨y0, y1⟩ := Y1.out
      obtain ⟨z0, z1⟩ := Z1.out
      clear g1
      go_wp2_with fail
      refine (HPT.out _).mono ?_
      rintro e w2 ⟨rfl, g2⟩
      have X2 := Lib.hid (X1.out.grown g2)
      have Y2 := Lib.hid (Y1.out.grown g2)
      have Z2 := Lib.hid (Z1.out.grown g2)
      have G2 := Lib.hid (only_trans G1.out g2)
      have HTL : Hid ((txt (putE x) ++ s).data.toList = putE x ++ s.data.toList) := by show _ = _; simp [txt]
      have hts : (txt (putE x) ++ s).size ≤ 10000 := by simp [txt_size]; omega
      have htp : (txt (putE x)).size ≤ 1020 := by rw [txt_size]; omega
      clear g2 HPT
      obtain ⟨x0, x1⟩ := X2.out
      generalize txt (putE x) = E at *
      go_wp2_with fail
      generalize E ++ s = T at *
      refine (over_any T w2).mono ?_
      rintro e w3 ⟨rfl, rfl⟩
      have C3 := Cur.new T (by unfold maxLen; omega) w2
      have GA := only_alloc (only_refl w2 none) (.cells #[.string T, .int .i64 0] 59)
      have HN2 := Lib.hid (HN.out w2 G2.out _ w2.heap.size 0 T GA (Nat.le_refl _) C3 hts)
      have hne := nextE_put x (by omega) (by omega) s.data.toList
      rw [List.drop_zero, HTL.out, hne] at HN2
      have hlt := checkE_lt x
      have HCKE := Lib.hid hne
      clear C3 GA HN hne
      have HCK := Lib.hid (fun w (g : W.grownBy w none) => I.check x w (by omega) (by omega) (I.kept hT g))
      by_cases hq : checkE x = 0
      · rw [if_neg (by simp [hq])] at HN2
        rw [hq] at HCK
        clear hq hlt
        go_wp2_with fail
        refine HN2.out.mono ?_
        rintro e w4 ⟨k, rfl, c4, hc4, g4⟩
        have hB : w2.heap.size < w4.heap.size := c4.lt
        have hrest : T.extract k T.size = s := by
          apply bytes_inj
          rw [bytes_drop, HTL.out]
          exact hc4 trivial
        have X4 := Lib.hid (X2.out.grown g4)
        have Y4 := Lib.hid (Y2.out.grown g4)
        have Z4 := Lib.hid (Z2.out.grown g4)
        have G4 := Lib.hid (only_trans G2.out g4)
        have C4 := Lib.hid c4
        have HR := Lib.hid hrest
        have XN4 := Lib.hid (EntV.new w4 23 x)
        have GN4 := Lib.hid (only_alloc (only_refl w4 none) (.cells #[.string x.key, .string x.value] 23))
        obtain ⟨x0, x1⟩ := X4.out
        have hlx := X4.out.lt
        have hly := Y4.out.lt
        have hlz := Z4.out.lt
        clear c4 hc4 g4 hrest
        go_wp2_with fail
        refine (HCK.out _ (only_trans G4.out GN4.out)).mono ?_
        rintro e w5 ⟨rfl, g5⟩
        have g45 := only_trans GN4.out g5
        have X5 := Lib.hid (X4.out.grown g45)
        have Y5 := Lib.hid (Y4.out.grown g45)
        have Z5 := Lib.hid (Z4.out.grown g45)
        have N5 := Lib.hid (XN4.out.grown g5)
        have C5 := C4.out.kept g45 (by simp)
        have G5 := Lib.hid (only_trans G4.out g45)
        have HRS := Lib.hid (rest_some C5)
        rw [HR.out] at HRS
        obtain ⟨x0, x1⟩ := X5.out
        obtain ⟨n0, n1⟩ := N5.out
        clear g5 g45 C5 X4 Y4 Z4 XN4 GN4 C4
        go_wp2_with fail
        refine HRS.out.mono ?_
        rintro e w6 ⟨rfl, n6, hw6⟩
        have g6 : w5.grownBy w6 none := by rw [hw6]; exact only_drewN (only_refl _ _) _
        clear hw6
        have X6 := Lib.hid (X5.out.grown g6)
        have Y6 := Lib.hid (Y5.out.grown g6)
        have Z6 := Lib.hid (Z5.out.grown g6)
        have G6 := Lib.hid (only_trans G5.out g6)
        obtain ⟨x0, x1⟩ := X6.out
        obtain ⟨y0, y1⟩ := Y6.out
        obtain ⟨z0, z1⟩ := Z6.out
        clear g6 X5 Y5 Z5 N5
        go_wp2_with fail
        have HW := Lib.hid (only_refl w6 none)
        have HXY := Lib.hid (fun g : GW w6 none => I.cmp x y g.world (by omega) (by omega) (by omega) (by omega))
        have HYX := Lib.hid (fun g : GW w6 none => I.cmp y x g.world (by omega) (by omega) (by omega) (by omega))
        have HYZ := Lib.hid (fun g : GW w6 none => I.cmp y z g.world (by omega) (by omega) (by omega) (by omega))
        have HXZ := Lib.hid (fun g : GW w6 none => I.cmp x z g.world (by omega) (by omega) (by omega) (by omega))
        have hx0 : ∀ g : GW w6 none, g.world.cell? ⟨W.heap.size, 0, none⟩ = some (.string x.key) := fun g => (X6.out.grown g.ok).1
        have hx1 : ∀ g : GW w6 none, g.world.cell? ⟨W.heap.size, 1, none⟩ = some (.string x.value) := fun g => (X6.out.grown g.ok).2
        have hy0 : ∀ g : GW w6 none, g.world.cell? ⟨W.heap.size + 1, 0, none⟩ = some (.string y.key) := fun g => (Y6.out.grown g.ok).1
        have hy1 : ∀ g : GW w6 none, g.world.cell? ⟨W.heap.size + 1, 1, none⟩ = some (.string y.value) := fun g => (Y6.out.grown g.ok).2
        have hz0 : ∀ g : GW w6 none, g.world.cell? ⟨W.heap.size + 1 + 1, 0, none⟩ = some (.string z.key) := fun g => (Z6.out.grown g.ok).1
        have hz1 : ∀ g : GW w6 none, g.world.cell? ⟨W.heap.size + 1 + 1, 1, none⟩ = some (.string z.value) := fun g => (Z6.out.grown g.ok).2
        have hne := @eqb_ne x y
        have HTH := three x y z
        generalize cmpE x y = m at *
        generalize cmpE y x = m' at *
        generalize cmpE y z = n at *
        generalize cmpE x z = o at *
        clear hT
        rcases HTH with ⟨rfl, rfl, he⟩ | ⟨rfl, rfl⟩ | ⟨rfl, rfl, rfl | rfl⟩ | ⟨rfl, rfl, rfl, rfl⟩
        · have he1 : (x.key.toList == y.key.toList) = true := by rw [he]; simp
          have he2 : (x.value.toList == y.value.toList) = true := by rw [he]; simp
          clear he hne
          refine wp_region_gw w6 none (by kernel_rfl) (by kernel_rfl) HW.out ?_
          repeat (go_big_quiet_step ((go_at_call 14; first | with_reducible exact calls_gw (HXY.out _) | with_reducible exact calls_gw (HYX.out _) | with_reducible exact calls_gw (HYZ.out _) | with_reducible exact calls_gw (HXZ.out _))))
          refine wpQuiet_nil ?_
          rintro _ ⟨⟨w7, h7⟩, rfl⟩
          obtain ⟨x0, x1⟩ := X6.out.grown h7
          obtain ⟨y0, y1⟩ := Y6.out.grown h7
          obtain ⟨z0, z1⟩ := Z6.out.grown h7
          have K7 := Lib.hid h7
          clear h7
          go_wp2_with fail
          refine (HXY.out ⟨_, K7.out⟩).mono ?_
          rintro e w8 ⟨rfl, g8⟩
          have h8 := only_trans K7.out g8
          obtain ⟨x0, x1⟩ := X6.out.grown h8
          obtain ⟨y0, y1⟩ := Y6.out.grown h8
          obtain ⟨z0, z1⟩ := Z6.out.grown h8
          have K8 := Lib.hid h8
          clear h8 g8
          go_wp2_with fail
          go_ret
          exact ⟨rfl, only_trans G6.out K8.out⟩
        · rcases hne (by omega) with he1 | ⟨he1, he2⟩
          · clear hne
            refine wp_region_gw w6 none (by kernel_rfl) (by kernel_rfl) HW.out ?_
            repeat (go_big_quiet_step ((go_at_call 14; first | with_reducible exact calls_gw (HXY.out _) | with_reducible exact calls_gw (HYX.out _) | with_reducible exact calls_gw (HYZ.out _) | with_reducible exact calls_gw (HXZ.out _))))
            refine wpQuiet_nil ?_
            rintro _ ⟨⟨w7, h7⟩, rfl⟩
            obtain ⟨x0, x1⟩ := X6.out.grown h7
            obtain ⟨y0, y1⟩ := Y6.out.grown h7
            obtain ⟨z0, z1⟩ := Z6.out.grown h7
            have K7 := Lib.hid h7
            clear h7
            go_wp2_with fail
            refine (HXY.out ⟨_, K7.out⟩).mono ?_
            rintro e w8 ⟨rfl, g8⟩
            have h8 := only_trans K7.out g8
            obtain ⟨x0, x1⟩ := X6.out.grown h8
            obtain ⟨y0, y1⟩ := Y6.out.grown h8
            obtain ⟨z0, z1⟩ := Z6.out.grown h8
            have K8 := Lib.hid h8
            clear h8 g8
            go_wp2_with fail
            go_ret
            exact ⟨rfl, only_trans G6.out K8.out⟩
          · clear hne
            refine wp_region_gw w6 none (by kernel_rfl) (by kernel_rfl) HW.out ?_
            repeat (go_big_quiet_step ((go_at_call 14; first | with_reducible exact calls_gw (HXY.out _) | with_reducible exact calls_gw (HYX.out _) | with_reducible exact calls_gw (HYZ.out _) | with_reducible exact calls_gw (HXZ.out _))))
            refine wpQuiet_nil ?_
            rintro _ ⟨⟨w7, h7⟩, rfl⟩
            obtain ⟨x0, x1⟩ := X6.out.grown h7
            obtain ⟨y0, y1⟩ := Y6.out.grown h7
            obtain ⟨z0, z1⟩ := Z6.out.grown h7
            have K7 := Lib.hid h7
            clear h7
            go_wp2_with fail
            refine (HXY.out ⟨_, K7.out⟩).mono ?_
            rintro e w8 ⟨rfl, g8⟩
            have h8 := only_trans K7.out g8
            obtain ⟨x0, x1⟩ := X6.out.grown h8
            obtain ⟨y0, y1⟩ := Y6.out.grown h8
            obtain ⟨z0, z1⟩ := Z6.out.grown h8
            have K8 := Lib.hid h8
            clear h8 g8
            go_wp2_with fail
            go_ret
            exact ⟨rfl, only_trans G6.out K8.out⟩
        · rcases hne (by omega) with he1 | ⟨he1, he2⟩
          · clear hne
            refine wp_region_gw w6 none (by kernel_rfl) (by kernel_rfl) HW.out ?_
            repeat (go_big_quiet_step ((go_at_call 14; first | with_reducible exact calls_gw (HXY.out _) | with_reducible exact calls_gw (HYX.out _) | with_reducible exact calls_gw (HYZ.out _) | with_reducible exact calls_gw (HXZ.out _))))
            refine wpQuiet_nil ?_
            rintro _ ⟨⟨w7, h7⟩, rfl⟩
            obtain ⟨x0, x1⟩ := X6.out.grown h7
            obtain ⟨y0, y1⟩ := Y6.out.grown h7
            obtain ⟨z0, z1⟩ := Z6.out.grown h7
            have K7 := Lib.hid h7
            clear h7
            go_wp2_with fail
            refine (HXY.out ⟨_, K7.out⟩).mono ?_
            rintro e w8 ⟨rfl, g8⟩
            have h8 := only_trans K7.out g8
            obtain ⟨x0, x1⟩ := X6.out.grown h8
            obtain ⟨y0, y1⟩ := Y6.out.grown h8
            obtain ⟨z0, z1⟩ := Z6.out.grown h8
            have K8 := Lib.hid h8
            clear h8 g8
            go_wp2_with fail
            refine (HYZ.out ⟨_, K8.out⟩).mono ?_
            rintro e w9 ⟨rfl, g9⟩
            have h9 := only_trans K8.out g9
            obtain ⟨x0, x1⟩ := X6.out.grown h9
            obtain ⟨y0, y1⟩ := Y6.out.grown h9
            obtain ⟨z0, z1⟩ := Z6.out.grown h9
            have K9 := Lib.hid h9
            clear h9 g9
            go_wp2_with fail
            go_ret
            exact ⟨rfl, only_trans G6.out K9.out⟩
          · clear hne
            refine wp_region_gw w6 none (by kernel_rfl) (by kernel_rfl) HW.out ?_
            repeat (go_big_quiet_step ((go_at_call 14; first | with_reducible exact calls_gw (HXY.out _) | with_reducible exact calls_gw (HYX.out _) | with_reducible exact calls_gw (HYZ.out _) | with_reducible exact calls_gw (HXZ.out _))))
            refine wpQuiet_nil ?_
            rintro _ ⟨⟨w7, h7⟩, rfl⟩
            obtain ⟨x0, x1⟩ := X6.out.grown h7
            obtain ⟨y0, y1⟩ := Y6.out.grown h7
            obtain ⟨z0, z1⟩ := Z6.out.grown h7
            have K7 := Lib.hid h7
            clear h7
            go_wp2_with fail
            refine (HXY.out ⟨_, K7.out⟩).mono ?_
            rintro e w8 ⟨rfl, g8⟩
            have h8 := only_trans K7.out g8
            obtain ⟨x0, x1⟩ := X6.out.grown h8
            obtain ⟨y0, y1⟩ := Y6.out.grown h8
            obtain ⟨z0, z1⟩ := Z6.out.grown h8
            have K8 := Lib.hid h8
            clear h8 g8
            go_wp2_with fail
            refine (HYZ.out ⟨_, K8.out⟩).mono ?_
            rintro e w9 ⟨rfl, g9⟩
            have h9 := only_trans K8.out g9
            obtain ⟨x0, x1⟩ := X6.out.grown h9
            obtain ⟨y0, y1⟩ := Y6.out.grown h9
            obtain ⟨z0, z1⟩ := Z6.out.grown h9
            have K9 := Lib.hid h9
            clear h9 g9
            go_wp2_with fail
            go_ret
            exact ⟨rfl, only_trans G6.out K9.out⟩
        · rcases hne (by omega) with he1 | ⟨he1, he2⟩
          · clear hne
            refine wp_region_gw w6 none (by kernel_rfl) (by kernel_rfl) HW.out ?_
            repeat (go_big_quiet_step ((go_at_call 14; first | with_reducible exact calls_gw (HXY.out _) | with_reducible exact calls_gw (HYX.out _) | with_reducible exact calls_gw (HYZ.out _) | with_reducible exact calls_gw (HXZ.out _))))
            refine wpQuiet_nil ?_
            rintro _ ⟨⟨w7, h7⟩, rfl⟩
            obtain ⟨x0, x1⟩ := X6.out.grown h7
            obtain ⟨y0, y1⟩ := Y6.out.grown h7
            obtain ⟨z0, z1⟩ := Z6.out.grown h7
            have K7 := Lib.hid h7
            clear h7
            go_wp2_with fail
            refine (HXY.out ⟨_, K7.out⟩).mono ?_
            rintro e w8 ⟨rfl, g8⟩
            have h8 := only_trans K7.out g8
            obtain ⟨x0, x1⟩ := X6.out.grown h8
            obtain ⟨y0, y1⟩ := Y6.out.grown h8
            obtain ⟨z0, z1⟩ := Z6.out.grown h8
            have K8 := Lib.hid h8
            clear h8 g8
            go_wp2_with fail
            refine (HYZ.out ⟨_, K8.out⟩).mono ?_
            rintro e w9 ⟨rfl, g9⟩
            have h9 := only_trans K8.out g9
            obtain ⟨x0, x1⟩ := X6.out.grown h9
            obtain ⟨y0, y1⟩ := Y6.out.grown h9
            obtain ⟨z0, z1⟩ := Z6.out.grown h9
            have K9 := Lib.hid h9
            clear h9 g9
            go_wp2_with fail
            go_ret
            exact ⟨rfl, only_trans G6.out K9.out⟩
          · clear hne
            refine wp_region_gw w6 none (by kernel_rfl) (by kernel_rfl) HW.out ?_
            repeat (go_big_quiet_step ((go_at_call 14; first | with_reducible exact calls_gw (HXY.out _) | with_reducible exact calls_gw (HYX.out _) | with_reducible exact calls_gw (HYZ.out _) | with_reducible exact calls_gw (HXZ.out _))))
            refine wpQuiet_nil ?_
            rintro _ ⟨⟨w7, h7⟩, rfl⟩
            obtain ⟨x0, x1⟩ := X6.out.grown h7
            obtain ⟨y0, y1⟩ := Y6.out.grown h7
            obtain ⟨z0, z1⟩ := Z6.out.grown h7
            have K7 := Lib.hid h7
            clear h7
            go_wp2_with fail
            refine (HXY.out ⟨_, K7.out⟩).mono ?_
            rintro e w8 ⟨rfl, g8⟩
            have h8 := only_trans K7.out g8
            obtain ⟨x0, x1⟩ := X6.out.grown h8
            obtain ⟨y0, y1⟩ := Y6.out.grown h8
            obtain ⟨z0, z1⟩ := Z6.out.grown h8
            have K8 := Lib.hid h8
            clear h8 g8
            go_wp2_with fail
            refine (HYZ.out ⟨_, K8.out⟩).mono ?_
            rintro e w9 ⟨rfl, g9⟩
            have h9 := only_trans K8.out g9
            obtain ⟨x0, x1⟩ := X6.out.grown h9
            obtain ⟨y0, y1⟩ := Y6.out.grown h9
            obtain ⟨z0, z1⟩ := Z6.out.grown h9
            have K9 := Lib.hid h9
            clear h9 g9
            go_wp2_with fail
            go_ret
            exact ⟨rfl, only_trans G6.out K9.out⟩
        · rcases hne (by omega) with he1 | ⟨he1, he2⟩
          · clear hne
            refine wp_region_gw w6 none (by kernel_rfl) (by kernel_rfl) HW.out ?_
            repeat (go_big_quiet_step ((go_at_call 14; first | with_reducible exact calls_gw (HXY.out _) | with_reducible exact calls_gw (HYX.out _) | with_reducible exact calls_gw (HYZ.out _) | with_reducible exact calls_gw (HXZ.out _))))
            refine wpQuiet_nil ?_
            rintro _ ⟨⟨w7, h7⟩, rfl⟩
            obtain ⟨x0, x1⟩ := X6.out.grown h7
            obtain ⟨y0, y1⟩ := Y6.out.grown h7
            obtain ⟨z0, z1⟩ := Z6.out.grown h7
            have K7 := Lib.hid h7
            clear h7
            go_wp2_with fail
            refine (HXY.out ⟨_, K7.out⟩).mono ?_
            rintro e w8 ⟨rfl, g8⟩
            have h8 := only_trans K7.out g8
            obtain ⟨x0, x1⟩ := X6.out.grown h8
            obtain ⟨y0, y1⟩ := Y6.out.grown h8
            obtain ⟨z0, z1⟩ := Z6.out.grown h8
            have K8 := Lib.hid h8
            clear h8 g8
            go_wp2_with fail
            refine (HYZ.out ⟨_, K8.out⟩).mono ?_
            rintro e w9 ⟨rfl, g9⟩
            have h9 := only_trans K8.out g9
            obtain ⟨x0, x1⟩ := X6.out.grown h9
            obtain ⟨y0, y1⟩ := Y6.out.grown h9
            obtain ⟨z0, z1⟩ := Z6.out.grown h9
            have K9 := Lib.hid h9
            clear h9 g9
            go_wp2_with fail
            refine (HXZ.out ⟨_, K9.out⟩).mono ?_
            rintro e w10 ⟨rfl, g10⟩
            have h10 := only_trans K9.out g10
            obtain ⟨x0, x1⟩ := X6.out.grown h10
            obtain ⟨y0, y1⟩ := Y6.out.grown h10
            obtain ⟨z0, z1⟩ := Z6.out.grown h10
            have K10 := Lib.hid h10
            clear h10 g10
            go_wp2_with fail
            go_ret
            exact ⟨rfl, only_trans G6.out K10.out⟩
          · clear hne
            refine wp_region_gw w6 none (by kernel_rfl) (by kernel_rfl) HW.out ?_
            repeat (go_big_quiet_step ((go_at_call 14; first | with_reducible exact calls_gw (HXY.out _) | with_reducible exact calls_gw (HYX.out _) | with_reducible exact calls_gw (HYZ.out _) | with_reducible exact calls_gw (HXZ.out _))))
            refine wpQuiet_nil ?_
            rintro _ ⟨⟨w7, h7⟩, rfl⟩
            obtain ⟨x0, x1⟩ := X6.out.grown h7
            obtain ⟨y0, y1⟩ := Y6.out.grown h7
            obtain ⟨z0, z1⟩ := Z6.out.grown h7
            have K7 := Lib.hid h7
            clear h7
            go_wp2_with fail
            refine (HXY.out ⟨_, K7.out⟩).mono ?_
            rintro e w8 ⟨rfl, g8⟩
            have h8 := only_trans K7.out g8
            obtain ⟨x0, x1⟩ := X6.out.grown h8
            obtain ⟨y0, y1⟩ := Y6.out.grown h8
            obtain ⟨z0, z1⟩ := Z6.out.grown h8
            have K8 := Lib.hid h8
            clear h8 g8
            go_wp2_with fail
            refine (HYZ.out ⟨_, K8.out⟩).mono ?_
            rintro e w9 ⟨rfl, g9⟩
            have h9 := only_trans K8.out g9
            obtain ⟨x0, x1⟩ := X6.out.grown h9
            obtain ⟨y0, y1⟩ := Y6.out.grown h9
            obtain ⟨z0, z1⟩ := Z6.out.grown h9
            have K9 := Lib.hid h9
            clear h9 g9
            go_wp2_with fail
            refine (HXZ.out ⟨_, K9.out⟩).mono ?_
            rintro e w10 ⟨rfl, g10⟩
            have h10 := only_trans K9.out g10
            obtain ⟨x0, x1⟩ := X6.out.grown h10
            obtain ⟨y0, y1⟩ := Y6.out.grown h10
            obtain ⟨z0, z1⟩ := Z6.out.grown h10
            have K10 := Lib.hid h10
            clear h10 g10
            go_wp2_with fail
            go_ret
            exact ⟨rfl, only_trans G6.out K10.out⟩
      · rw [if_pos hq] at HN2
        generalize checkE x = ce at *
        have hqb : ((ce : Int) != 0) = true := by rw [bne_iff_ne]; omega
        have hqe : ((ce : Int) == 0) = false := by rw [beq_eq_false_iff_ne]; omega
        clear hq
        go_wp2_with fail
        refine HN2.out.mono ?_
        rintro e w4 ⟨k, rfl, c4, -, g4⟩
        have hB : w2.heap.size < w4.heap.size := c4.lt
        have X4 := Lib.hid (X2.out.grown g4)
        have Y4 := Lib.hid (Y2.out.grown g4)
        have Z4 := Lib.hid (Z2.out.grown g4)
        have G4 := Lib.hid (only_trans G2.out g4)
        have XN4 := Lib.hid (EntV.new w4 23 zeroE)
        have GN4 := Lib.hid (only_alloc (only_refl w4 none) (.cells #[.string zeroE.key, .string zeroE.value] 23))
        obtain ⟨x0, x1⟩ := X4.out
        have hlx := X4.out.lt
        have hly := Y4.out.lt
        have hlz := Z4.out.lt
        have hzk : zeroE.key = ⟨#[]⟩ := rfl
        have hzv : zeroE.value = ⟨#[]⟩ := rfl
        rw [hzk, hzv] at GN4
        obtain ⟨n0, n1⟩ := XN4.out
        rw [hzk, hzv] at n0 n1
        have XN := Lib.hid (And.intro n0 n1)
        clear c4 g4 n0 n1 XN4
        rw [hzk, hzv]
        clear hzk hzv
        go_wp2_with fail
        refine (HCK.out _ (only_trans G4.out GN4.out)).mono ?_
        rintro e w6 ⟨rfl, g5⟩
        have g45 := only_trans GN4.out g5
        have X6 := Lib.hid (X4.out.grown g45)
        have Y6 := Lib.hid (Y4.out.grown g45)
        have Z6 := Lib.hid (Z4.out.grown g45)
        have G6 := Lib.hid (only_trans G4.out g45)
        have n0 := (Chg.of_none (S := fun _ => False) g5).cell XN.out.1 (fun e => e)
        have n1 := (Chg.of_none (S := fun _ => False) g5).cell XN.out.2 (fun e => e)
        obtain ⟨x0, x1⟩ := X6.out
        obtain ⟨y0, y1⟩ := Y6.out
        obtain ⟨z0, z1⟩ := Z6.out
        clear g5 g45 X4 Y4 Z4 XN GN4
        go_wp2_with fail
        have HW := Lib.hid (only_refl w6 none)
        have HXY := Lib.hid (fun g : GW w6 none => I.cmp x y g.world (by omega) (by omega) (by omega) (by omega))
        have HYX := Lib.hid (fun g : GW w6 none => I.cmp y x g.world (by omega) (by omega) (by omega) (by omega))
        have HYZ := Lib.hid (fun g : GW w6 none => I.cmp y z g.world (by omega) (by omega) (by omega) (by omega))
        have HXZ := Lib.hid (fun g : GW w6 none => I.cmp x z g.world (by omega) (by omega) (by omega) (by omega))
        have hx0 : ∀ g : GW w6 none, g.world.cell? ⟨W.heap.size, 0, none⟩ = some (.string x.key) := fun g => (X6.out.grown g.ok).1
        have hx1 : ∀ g : GW w6 none, g.world.cell? ⟨W.heap.size, 1, none⟩ = some (.string x.value) := fun g => (X6.out.grown g.ok).2
        have hy0 : ∀ g : GW w6 none, g.world.cell? ⟨W.heap.size + 1, 0, none⟩ = some (.string y.key) := fun g => (Y6.out.grown g.ok).1
        have hy1 : ∀ g : GW w6 none, g.world.cell? ⟨W.heap.size + 1, 1, none⟩ = some (.string y.value) := fun g => (Y6.out.grown g.ok).2
        have hz0 : ∀ g : GW w6 none, g.world.cell? ⟨W.heap.size + 1 + 1, 0, none⟩ = some (.string z.key) := fun g => (Z6.out.grown g.ok).1
        have hz1 : ∀ g : GW w6 none, g.world.cell? ⟨W.heap.size + 1 + 1, 1, none⟩ = some (.string z.value) := fun g => (Z6.out.grown g.ok).2
        have hne := @eqb_ne x y
        have HTH := three x y z
        generalize cmpE x y = m at *
        generalize cmpE y x = m' at *
        generalize cmpE y z = n at *
        generalize cmpE x z = o at *
        clear hT
        rcases HTH with ⟨rfl, rfl, he⟩ | ⟨rfl, rfl⟩ | ⟨rfl, rfl, rfl | rfl⟩ | ⟨rfl, rfl, rfl, rfl⟩
        · have he1 : (x.key.toList == y.key.toList) = true := by rw [he]; simp
          have he2 : (x.value.toList == y.value.toList) = true := by rw [he]; simp
          clear he hne
          refine wp_region_gw w6 none (by kernel_rfl) (by kernel_rfl) HW.out ?_
          repeat (go_big_quiet_step ((go_at_call 14; first | with_reducible exact calls_gw (HXY.out _) | with_reducible exact calls_gw (HYX.out _) | with_reducible exact calls_gw (HYZ.out _) | with_reducible exact calls_gw (HXZ.out _))))
          refine wpQuiet_nil ?_
          rintro _ ⟨⟨w7, h7⟩, rfl⟩
          obtain ⟨x0, x1⟩ := X6.out.grown h7
          obtain ⟨y0, y1⟩ := Y6.out.grown h7
          obtain ⟨z0, z1⟩ := Z6.out.grown h7
          have K7 := Lib.hid h7
          clear h7
          go_wp2_with fail
          refine (HXY.out ⟨_, K7.out⟩).mono ?_
          rintro e w8 ⟨rfl, g8⟩
          have h8 := only_trans K7.out g8
          obtain ⟨x0, x1⟩ := X6.out.grown h8
          obtain ⟨y0, y1⟩ := Y6.out.grown h8
          obtain ⟨z0, z1⟩ := Z6.out.grown h8
          have K8 := Lib.hid h8
          clear h8 g8
          go_wp2_with fail
          go_ret
          exact ⟨rfl, only_trans G6.out K8.out⟩
        · rcases hne (by omega) with he1 | ⟨he1, he2⟩
          · clear hne
            refine wp_region_gw w6 none (by kernel_rfl) (by kernel_rfl) HW.out ?_
            repeat (go_big_quiet_step ((go_at_call 14; first | with_reducible exact calls_gw (HXY.out _) | with_reducible exact calls_gw (HYX.out _) | with_reducible exact calls_gw (HYZ.out _) | with_reducible exact calls_gw (HXZ.out _))))
            refine wpQuiet_nil ?_
            rintro _ ⟨⟨w7, h7⟩, rfl⟩
            obtain ⟨x0, x1⟩ := X6.out.grown h7
            obtain ⟨y0, y1⟩ := Y6.out.grown h7
            obtain ⟨z0, z1⟩ := Z6.out.grown h7
            have K7 := Lib.hid h7
            clear h7
            go_wp2_with fail
            refine (HXY.out ⟨_, K7.out⟩).mono ?_
            rintro e w8 ⟨rfl, g8⟩
            have h8 := only_trans K7.out g8
            obtain ⟨x0, x1⟩ := X6.out.grown h8
            obtain ⟨y0, y1⟩ := Y6.out.grown h8
            obtain ⟨z0, z1⟩ := Z6.out.grown h8
            have K8 := Lib.hid h8
            clear h8 g8
            go_wp2_with fail
            go_ret
            exact ⟨rfl, only_trans G6.out K8.out⟩
          · clear hne
            refine wp_region_gw w6 none (by kernel_rfl) (by kernel_rfl) HW.out ?_
            repeat (go_big_quiet_step ((go_at_call 14; first | with_reducible exact calls_gw (HXY.out _) | with_reducible exact calls_gw (HYX.out _) | with_reducible exact calls_gw (HYZ.out _) | with_reducible exact calls_gw (HXZ.out _))))
            refine wpQuiet_nil ?_
            rintro _ ⟨⟨w7, h7⟩, rfl⟩
            obtain ⟨x0, x1⟩ := X6.out.grown h7
            obtain ⟨y0, y1⟩ := Y6.out.grown h7
            obtain ⟨z0, z1⟩ := Z6.out.grown h7
            have K7 := Lib.hid h7
            clear h7
            go_wp2_with fail
            refine (HXY.out ⟨_, K7.out⟩).mono ?_
            rintro e w8 ⟨rfl, g8⟩
            have h8 := only_trans K7.out g8
            obtain ⟨x0, x1⟩ := X6.out.grown h8
            obtain ⟨y0, y1⟩ := Y6.out.grown h8
            obtain ⟨z0, z1⟩ := Z6.out.grown h8
            have K8 := Lib.hid h8
            clear h8 g8
            go_wp2_with fail
            go_ret
            exact ⟨rfl, only_trans G6.out K8.out⟩
        · rcases hne (by omega) with he1 | ⟨he1, he2⟩
          · clear hne
            refine wp_region_gw w6 none (by kernel_rfl) (by kernel_rfl) HW.out ?_
            repeat (go_big_quiet_step ((go_at_call 14; first | with_reducible exact calls_gw (HXY.out _) | with_reducible exact calls_gw (HYX.out _) | with_reducible exact calls_gw (HYZ.out _) | with_reducible exact calls_gw (HXZ.out _))))
            refine wpQuiet_nil ?_
            rintro _ ⟨⟨w7, h7⟩, rfl⟩
            obtain ⟨x0, x1⟩ := X6.out.grown h7
            obtain ⟨y0, y1⟩ := Y6.out.grown h7
            obtain ⟨z0, z1⟩ := Z6.out.grown h7
            have K7 := Lib.hid h7
            clear h7
            go_wp2_with fail
            refine (HXY.out ⟨_, K7.out⟩).mono ?_
            rintro e w8 ⟨rfl, g8⟩
            have h8 := only_trans K7.out g8
            obtain ⟨x0, x1⟩ := X6.out.grown h8
            obtain ⟨y0, y1⟩ := Y6.out.grown h8
            obtain ⟨z0, z1⟩ := Z6.out.grown h8
            have K8 := Lib.hid h8
            clear h8 g8
            go_wp2_with fail
            refine (HYZ.out ⟨_, K8.out⟩).mono ?_
            rintro e w9 ⟨rfl, g9⟩
            have h9 := only_trans K8.out g9
            obtain ⟨x0, x1⟩ := X6.out.grown h9
            obtain ⟨y0, y1⟩ := Y6.out.grown h9
            obtain ⟨z0, z1⟩ := Z6.out.grown h9
            have K9 := Lib.hid h9
            clear h9 g9
            go_wp2_with fail
            go_ret
            exact ⟨rfl, only_trans G6.out K9.out⟩
          · clear hne
            refine wp_region_gw w6 none (by kernel_rfl) (by kernel_rfl) HW.out ?_
            repeat (go_big_quiet_step ((go_at_call 14; first | with_reducible exact calls_gw (HXY.out _) | with_reducible exact calls_gw (HYX.out _) | with_reducible exact calls_gw (HYZ.out _) | with_reducible exact calls_gw (HXZ.out _))))
            refine wpQuiet_nil ?_
            rintro _ ⟨⟨w7, h7⟩, rfl⟩
            obtain ⟨x0, x1⟩ := X6.out.grown h7
            obtain ⟨y0, y1⟩ := Y6.out.grown h7
            obtain ⟨z0, z1⟩ := Z6.out.grown h7
            have K7 := Lib.hid h7
            clear h7
            go_wp2_with fail
            refine (HXY.out ⟨_, K7.out⟩).mono ?_
            rintro e w8 ⟨rfl, g8⟩
            have h8 := only_trans K7.out g8
            obtain ⟨x0, x1⟩ := X6.out.grown h8
            obtain ⟨y0, y1⟩ := Y6.out.grown h8
            obtain ⟨z0, z1⟩ := Z6.out.grown h8
            have K8 := Lib.hid h8
            clear h8 g8
            go_wp2_with fail
            refine (HYZ.out ⟨_, K8.out⟩).mono ?_
            rintro e w9 ⟨rfl, g9⟩
            have h9 := only_trans K8.out g9
            obtain ⟨x0, x1⟩ := X6.out.grown h9
            obtain ⟨y0, y1⟩ := Y6.out.grown h9
            obtain ⟨z0, z1⟩ := Z6.out.grown h9
            have K9 := Lib.hid h9
            clear h9 g9
            go_wp2_with fail
            go_ret
            exact ⟨rfl, only_trans G6.out K9.out⟩
        · rcases hne (by omega) with he1 | ⟨he1, he2⟩
          · clear hne
            refine wp_region_gw w6 none (by kernel_rfl) (by kernel_rfl) HW.out ?_
            repeat (go_big_quiet_step ((go_at_call 14; first | with_reducible exact calls_gw (HXY.out _) | with_reducible exact calls_gw (HYX.out _) | with_reducible exact calls_gw (HYZ.out _) | with_reducible exact calls_gw (HXZ.out _))))
            refine wpQuiet_nil ?_
            rintro _ ⟨⟨w7, h7⟩, rfl⟩
            obtain ⟨x0, x1⟩ := X6.out.grown h7
            obtain ⟨y0, y1⟩ := Y6.out.grown h7
            obtain ⟨z0, z1⟩ := Z6.out.grown h7
            have K7 := Lib.hid h7
            clear h7
            go_wp2_with fail
            refine (HXY.out ⟨_, K7.out⟩).mono ?_
            rintro e w8 ⟨rfl, g8⟩
            have h8 := only_trans K7.out g8
            obtain ⟨x0, x1⟩ := X6.out.grown h8
            obtain ⟨y0, y1⟩ := Y6.out.grown h8
            obtain ⟨z0, z1⟩ := Z6.out.grown h8
            have K8 := Lib.hid h8
            clear h8 g8
            go_wp2_with fail
            refine (HYZ.out ⟨_, K8.out⟩).mono ?_
            rintro e w9 ⟨rfl, g9⟩
            have h9 := only_trans K8.out g9
            obtain ⟨x0, x1⟩ := X6.out.grown h9
            obtain ⟨y0, y1⟩ := Y6.out.grown h9
            obtain ⟨z0, z1⟩ := Z6.out.grown h9
            have K9 := Lib.hid h9
            clear h9 g9
            go_wp2_with fail
            go_ret
            exact ⟨rfl, only_trans G6.out K9.out⟩
          · clear hne
            refine wp_region_gw w6 none (by kernel_rfl) (by kernel_rfl) HW.out ?_
            repeat (go_big_quiet_step ((go_at_call 14; first | with_reducible exact calls_gw (HXY.out _) | with_reducible exact calls_gw (HYX.out _) | with_reducible exact calls_gw (HYZ.out _) | with_reducible exact calls_gw (HXZ.out _))))
            refine wpQuiet_nil ?_
            rintro _ ⟨⟨w7, h7⟩, rfl⟩
            obtain ⟨x0, x1⟩ := X6.out.grown h7
            obtain ⟨y0, y1⟩ := Y6.out.grown h7
            obtain ⟨z0, z1⟩ := Z6.out.grown h7
            have K7 := Lib.hid h7
            clear h7
            go_wp2_with fail
            refine (HXY.out ⟨_, K7.out⟩).mono ?_
            rintro e w8 ⟨rfl, g8⟩
            have h8 := only_trans K7.out g8
            obtain ⟨x0, x1⟩ := X6.out.grown h8
            obtain ⟨y0, y1⟩ := Y6.out.grown h8
            obtain ⟨z0, z1⟩ := Z6.out.grown h8
            have K8 := Lib.hid h8
            clear h8 g8
            go_wp2_with fail
            refine (HYZ.out ⟨_, K8.out⟩).mono ?_
            rintro e w9 ⟨rfl, g9⟩
            have h9 := only_trans K8.out g9
            obtain ⟨x0, x1⟩ := X6.out.grown h9
            obtain ⟨y0, y1⟩ := Y6.out.grown h9
            obtain ⟨z0, z1⟩ := Z6.out.grown h9
            have K9 := Lib.hid h9
            clear h9 g9
            go_wp2_with fail
            go_ret
            exact ⟨rfl, only_trans G6.out K9.out⟩
        · rcases hne (by omega) with he1 | ⟨he1, he2⟩
          · clear hne
            refine wp_region_gw w6 none (by kernel_rfl) (by kernel_rfl) HW.out ?_
            repeat (go_big_quiet_step ((go_at_call 14; first | with_reducible exact calls_gw (HXY.out _) | with_reducible exact calls_gw (HYX.out _) | with_reducible exact calls_gw (HYZ.out _) | with_reducible exact calls_gw (HXZ.out _))))
            refine wpQuiet_nil ?_
            rintro _ ⟨⟨w7, h7⟩, rfl⟩
            obtain ⟨x0, x1⟩ := X6.out.grown h7
            obtain ⟨y0, y1⟩ := Y6.out.grown h7
            obtain ⟨z0, z1⟩ := Z6.out.grown h7
            have K7 := Lib.hid h7
            clear h7
            go_wp2_with fail
            refine (HXY.out ⟨_, K7.out⟩).mono ?_
            rintro e w8 ⟨rfl, g8⟩
            have h8 := only_trans K7.out g8
            obtain ⟨x0, x1⟩ := X6.out.grown h8
            obtain ⟨y0, y1⟩ := Y6.out.grown h8
            obtain ⟨z0, z1⟩ := Z6.out.grown h8
            have K8 := Lib.hid h8
            clear h8 g8
            go_wp2_with fail
            refine (HYZ.out ⟨_, K8.out⟩).mono ?_
            rintro e w9 ⟨rfl, g9⟩
            have h9 := only_trans K8.out g9
            obtain ⟨x0, x1⟩ := X6.out.grown h9
            obtain ⟨y0, y1⟩ := Y6.out.grown h9
            obtain ⟨z0, z1⟩ := Z6.out.grown h9
            have K9 := Lib.hid h9
            clear h9 g9
            go_wp2_with fail
            refine (HXZ.out ⟨_, K9.out⟩).mono ?_
            rintro e w10 ⟨rfl, g10⟩
            have h10 := only_trans K9.out g10
            obtain ⟨x0, x1⟩ := X6.out.grown h10
            obtain ⟨y0, y1⟩ := Y6.out.grown h10
            obtain ⟨z0, z1⟩ := Z6.out.grown h10
            have K10 := Lib.hid h10
            clear h10 g10
            go_wp2_with fail
            go_ret
            exact ⟨rfl, only_trans G6.out K10.out⟩
          · clear hne
            refine wp_region_gw w6 none (by kernel_rfl) (by kernel_rfl) HW.out ?_
            repeat (go_big_quiet_step ((go_at_call 14; first | with_reducible exact calls_gw (HXY.out _) | with_reducible exact calls_gw (HYX.out _) | with_reducible exact calls_gw (HYZ.out _) | with_reducible exact calls_gw (HXZ.out _))))
            refine wpQuiet_nil ?_
            rintro _ ⟨⟨w7, h7⟩, rfl⟩
            obtain ⟨x0, x1⟩ := X6.out.grown h7
            obtain ⟨y0, y1⟩ := Y6.out.grown h7
            obtain ⟨z0, z1⟩ := Z6.out.grown h7
            have K7 := Lib.hid h7
            clear h7
            go_wp2_with fail
            refine (HXY.out ⟨_, K7.out⟩).mono ?_
            rintro e w8 ⟨rfl, g8⟩
            have h8 := only_trans K7.out g8
            obtain ⟨x0, x1⟩ := X6.out.grown h8
            obtain ⟨y0, y1⟩ := Y6.out.grown h8
            obtain ⟨z0, z1⟩ := Z6.out.grown h8
            have K8 := Lib.hid h8
            clear h8 g8
            go_wp2_with fail
            refine (HYZ.out ⟨_, K8.out⟩).mono ?_
            rintro e w9 ⟨rfl, g9⟩
            have h9 := only_trans K8.out g9
            obtain ⟨x0, x1⟩ := X6.out.grown h9
            obtain ⟨y0, y1⟩ := Y6.out.grown h9
            obtain ⟨z0, z1⟩ := Z6.out.grown h9
            have K9 := Lib.hid h9
            clear h9 g9
            go_wp2_with fail
            refine (HXZ.out ⟨_, K9.out⟩).mono ?_
            rintro e w10 ⟨rfl, g10⟩
            have h10 := only_trans K9.out g10
            obtain ⟨x0, x1⟩ := X6.out.grown h10
            obtain ⟨y0, y1⟩ := Y6.out.grown h10
            obtain ⟨z0, z1⟩ := Z6.out.grown h10
            have K10 := Lib.hid h10
            clear h10 g10
            go_wp2_with fail
            go_ret
            exact ⟨rfl, only_trans G6.out K10.out⟩

end Go.Proofs.YtccmbackcabfeaaGreatDoor.law11
