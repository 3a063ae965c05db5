/-
  The statement DescrOne.
-/
import Derived.Test.YtiolkedmpjjojaaGreatDoorLaw12A
import Derived.Test.YtiolkedmpjjojaaGreatDoorLaw12R
namespace Go.Proofs.YtiolkedmpjjojaaGreatDoor.law12
open Go.RowKit Go.Proofs.YtiolkedmpjjojaaGreatDoor.vi Go.Proofs.YtiolkedmpjjojaaGreatDoor.um Go.Proofs.YtiolkedmpjjojaaGreatDoor.wm Go.Proofs.YtiolkedmpjjojaaGreatDoor.tr Go.Proofs.YtiolkedmpjjojaaGreatDoor.em Go.Proofs.YtiolkedmpjjojaaGreatDoor.cur Go.Proofs.YtiolkedmpjjojaaGreatDoor.law11 Go.Proofs.YtiolkedmpjjojaaGreatDoor.dd Go.Proofs.YtiolkedmpjjojaaGreatDoor.dr
set_option linter.unusedVariables false
set_option linter.unusedSimpArgs false

theorem sameE_any (xs : List Ent) (B1 B2 : Nat) (w : World) (v u : Value) (hl : xs.length ≤ 1000000) (h : Es B1 w v xs) (h2 : Es B2 w u xs) :
    Calls Tryz.prog 38 #[v, u] w fun e w' => e = .returned (.bool true) ∧ w.grownBy w' none := by
  have := equalE_any xs xs B1 B2 w v u hl h h2
  simpa using this

theorem parse_small {L : List UInt8} : (parseD L).1.length ≤ 40 ∧ ∀ x ∈ (parseD L).1, x.key.size + x.value.size ≤ 600 := by
  have hl := parseD_len L
  refine ⟨by omega, fun x hx => ?_⟩
  by_cases h : (parseD L).2 = 0
  · have hc := ((checkD_ok _).1 (parseD_ok h).2).2.2.1 x hx
    have := checkE_small hc
    omega
  · rw [parseD_err h] at hx
    simp at hx

set_option maxHeartbeats 8000000 in
set_option maxRecDepth 100000 in
theorem one_any (W : World) (hT : tb.Tab W) (xs : List Ent) (v : Value) (s : ByteArray) (t : Nat) (hl : xs.length ≤ maxLen) (hz : ∀ x ∈ xs, x.key.size ≤ maxLen ∧ x.value.size ≤ maxLen)
    (hx : Es W.heap.size W v xs) (hs : s.size ≤ maxLen) (ht : t ≤ 255) :
    Calls Tryz.prog 7 #[v, .string s, .int .u8 (t : Nat)] W fun e w' => e = .returned (.bool true) ∧ W.grownBy w' none := by
  have HA := Lib.hid (awake_any W hT)
  have HF1 := Lib.hid (fun w (g : W.grownBy w none) => few2_any xs _ w v hl hz (hx.grown g))
  have HTB := Lib.hid (fun w (g : W.grownBy w none) => tb.kept hT g)
  have HX := Lib.hid hx
  obtain ⟨a, ca, rfl⟩ := hx.shape
  unfold maxLen at hs
  clear hx hT
  have HZX := Lib.hid hz
  clear hz hl
  go_enter Tryz.func7, Tryz.ntmps7
  go_wp2_with fail
  refine HA.out.mono ?_
  rintro e w1 ⟨rfl, g1⟩
  have G1 := Lib.hid g1
  clear g1
  go_wp2_with fail
  refine (HF1.out _ G1.out).mono ?_
  rintro e w2 ⟨bx, rfl, hbx, g2⟩
  have G2 := Lib.hid (only_trans G1.out g2)
  clear g2
  cases bx with
  | false =>
    clear hbx
    go_wp2_with fail
    go_ret
    exact ⟨rfl, G2.out⟩
  | true =>
    have fx1 := hbx rfl
    clear hbx
    by_cases hb : (3000 : Int) < (s.size : Int)
    · go_wp2_with fail
      go_ret
      exact ⟨rfl, G2.out⟩
    · obtain ⟨ox1, ox2⟩ := ofD_small2 fx1
      -- what is read of s
      have HPS := Lib.hid (fun w (g : W.grownBy w none) => parse_any s w (by omega) (HTB.out w g))
      obtain ⟨px1, px2⟩ := @parse_small s.data.toList
      have PK : Hid ((parseD s.data.toList).2 = 0 → txt (keyD (parseD s.data.toList).1) = s ∧ checkD (parseD s.data.toList).1 = 0) := fun h => by
        obtain ⟨h1, h2⟩ := parseD_ok h
        exact ⟨by rw [h1]; apply bytes_inj; rw [txt_list], h2⟩
      have PE : Hid ((parseD s.data.toList).2 ≠ 0 → (parseD s.data.toList).1 = []) := fun h => parseD_err h
      have plt : (parseD s.data.toList).2 < 64 := by
        have := nextD_lt s.data.toList
        unfold parseD
        split
        · exact this
        · split <;> simp
      have hkp := key_small px1 px2
      have HPK := Lib.hid (fun B w v h => key_any (parseD s.data.toList).1 B w v (by omega) (fun x hx => by have := px2 x hx; omega) (by omega) h)
      have HPC := Lib.hid (fun B w v hT h => dcheck_any (parseD s.data.toList).1 B w v (by omega) (fun x hx => by have := px2 x hx; unfold maxLen; omega) hT h)
      -- what comes of the entries
      have HOX := Lib.hid (fun w (g : W.grownBy w none) => of_any xs _ w _ (by omega) HZX.out (HTB.out w g) (HX.out.grown g))
      have KX : Hid ((ofD xs).2 = 0 → checkD (ofD xs).1 = 0 ∧ (ofD xs).1.length = xs.length ∧ 0 < xs.length) := fun h => by
        have h1 := ofD_ok h
        rw [h1.1]
        refine ⟨h1.2, (sort_perm xs).length_eq, ?_⟩
        have := (checkD_ok _).1 h1.2
        rw [(sort_perm xs).length_eq] at this
        omega
      have OT : Hid ((ofD xs).2 = 0 → ∀ k, ofD (xs.drop k ++ xs.take k) = ((ofD xs).1, 0)) := fun h k => ofD_perm (by
        have : (xs.take k ++ xs.drop k).Perm (xs.drop k ++ xs.take k) := List.perm_append_comm
        rwa [List.take_append_drop] at this) h
      have hqx := ofD_lt xs
      clear px2
      generalize ofD xs = RX at *
      obtain ⟨la, qa⟩ := RX
      simp only at ox1 ox2 HOX KX OT hqx
      have hkx := key_small ox1 ox2
      have HKX := Lib.hid (fun B w v h => key_any la B w v (by omega) (fun x hx => by have := ox2 x hx; omega) (by omega) h)
      have HCX := Lib.hid (fun B w v hT h => dcheck_any la B w v (by omega) (fun x hx => by have := ox2 x hx; unfold maxLen; omega) hT h)
      have HCM := Lib.hid (fun B w v u h h2 => dcmp_any la la B w v u (by omega) (by omega) (fun x hx => by have := ox2 x hx; omega) (fun x hx => by have := ox2 x hx; omega) (by omega) (by omega) h h2)
      have HEQ := Lib.hid (fun B1 B2 w v u h h2 => sameE_any la B1 B2 w v u (by omega) h h2)
      rw [(cmpB_zero _ _).2 rfl] at HCM
      have HPD := Lib.hid (fun w (g : W.grownBy w none) => parse_any (txt (keyD la)) w (by rw [txt_size]; omega) (HTB.out w g))
      have HPR : Hid (checkD la = 0 → parseD (txt (keyD la)).data.toList = (la, 0)) := fun h => by rw [txt_list]; exact parseD_key h
      generalize hPP : parseD s.data.toList = PP at *
      obtain ⟨lp, qp⟩ := PP
      simp only at HPS px1 PK PE plt hkp HPK HPC
      clear hPP
      by_cases h1 : qa = 0
      · subst h1
        obtain ⟨hcl, hll, hpos⟩ := KX.out rfl
        have OT2 := Lib.hid (OT.out rfl)
        have HPR2 := Lib.hid (HPR.out hcl)
        rw [HPR2.out] at HPD
        rw [hcl] at HCX
        have HLL := Lib.hid hll
        clear hcl hll ox2 hkx KX OT HPR HPR2
        obtain ⟨k, hk, hkl⟩ : ∃ k : Nat, (t : Int) % (xs.length : Int) = (k : Int) ∧ k < xs.length := ⟨t % xs.length, by simp, Nat.mod_lt _ hpos⟩
        obtain ⟨x0, hx0⟩ : ∃ x, xs[0]? = some x := ⟨xs[0], List.getElem?_eq_getElem hpos⟩
        obtain ⟨b0, off0, cap0, hv0, hb0, hle0, hcm0, -, -⟩ := HX.out.at hx0
        simp only [Value.slice.injEq, true_and] at hv0
        obtain ⟨rfl, rfl⟩ := hv0
        have hpl0 : Plain (some (⟨b0, off0, none⟩ : Addr)) := .inr ⟨_, _, rfl⟩
        have HQ1 := Lib.hid (run_head (P := Tryz.prog) 41 23 Tryz.underlying41 sizeOfE (n := xs.length) (cap := ca) hpl0 k (by omega))
        obtain ⟨q2, hq2, hq3⟩ := run_tail (P := Tryz.prog) 41 23 Tryz.underlying41 sizeOfE (n := xs.length) (cap := ca) hpl0 k (by omega) (by omega)
        have HQ3 := Lib.hid hq3
        have HPO := Lib.hid (OT2.out k)
        have HYL : Hid ((xs.drop k ++ xs.take k).length ≤ 40) := by show _ ≤ _; rw [List.length_append, List.length_drop, List.length_take]; omega
        have HYS : Hid (∀ x ∈ xs.drop k ++ xs.take k, x.key.size ≤ maxLen ∧ x.value.size ≤ maxLen) := fun x hx => by
          exact HZX.out x (by rcases List.mem_append.1 hx with hx | hx; exact List.mem_of_mem_drop hx; exact List.mem_of_mem_take hx)
        have HOY := Lib.hid (fun B w v hT h => of_any (xs.drop k ++ xs.take k) B w v (by have := HYL.out; omega) HYS.out hT h)
        rw [HPO.out] at HOY
        unfold maxLen at hcm0
        have hki : (k : Int) < (xs.length : Int) := by omega
        have hkc : (k : Int) ≤ (ca : Int) := by omega
        clear hx0 hq3 OT2
        have hpi : (0 : Int) < (xs.length : Int) := by omega
        go_wp2_with fail
        refine (HOX.out _ G2.out).mono ?_
        rintro e w3 ⟨v3, rfl, e3, g3⟩
        have E3 := Lib.hid e3
        have G3 := Lib.hid (only_trans G2.out g3)
        obtain ⟨a3, c3, rfl⟩ := e3.shape
        clear e3 g3
        go_wp2_with fail
        have hq1 := HQ1.out
        have HXK := Lib.hid (fun w' (g : W.grownBy w' none) => (HX.out.grown g).drop k (by omega) q2 HQ3.out)
        have HXT := Lib.hid (fun w' (g : W.grownBy w' none) => (HX.out.grown g).take k (by omega))
        have G3D := Lib.hid (only_drew G3.out)
        have HCL := Lib.hid (sclone_any (xs.drop k) _ w3.drew _ (by rw [List.length_drop]; omega) (HXK.out _ G3D.out))
        go_region_held3 (fun w' => True) (trivial)
          (first
            | (go_at_call 37; refine HCL.out.mono ?_; rintro e w6 ⟨v6, rfl, o6, g6⟩; have HO6 := Lib.hid o6; have HG6 := Lib.hid (only_trans G3D.out g6); have HB6 := Lib.hid (fun j e => (o6.lt j e).1); have hw6 : w3.heap.size ≤ w6.heap.size := g6.size; have D6 := Lib.hid (only_trans (only_drew (only_refl w3 none)) g6); clear o6 g6)
            | (refine step_append_es (by rfl) _ _ 41 23 (by rfl) _ Tryz.underlying41 Tryz.infoE rfl w3.heap.size _ _ (xs.drop k) (xs.take k) (by rfl) HO6.out _ (by rfl) (HXT.out _ HG6.out) (by rw [List.length_drop, List.length_take]; omega) hw6 ?_; intro v7 w7 ho7 hg7 _; have HO7 := Lib.hid ho7.es; have HG7 := Lib.hid (only_row HG6.out hg7 (fun j e => Nat.le_trans G3.out.size (HB6.out j e))); have D7 := Lib.hid (only_row D6.out hg7 (fun j e => HB6.out j e)); clear ho7 hg7)
            | (go_at_call 22; refine (HOY.out _ _ _ (HTB.out _ HG7.out) HO7.out).mono ?_; rintro e w8 ⟨v8, rfl, e8, g8⟩; have E8 := Lib.hid e8; have G8 := Lib.hid (only_trans HG7.out g8); have D8 := Lib.hid (only_trans D7.out g8); obtain ⟨a8, c8, rfl⟩ := e8.shape; clear e8 g8))
        go_wp2_with fail
        have E38 := Lib.hid ((E3.out.grown D8.out).low)
        refine (HKX.out _ _ _ E38.out).mono ?_
        rintro e w9 ⟨rfl, g9⟩
        have G9 := Lib.hid (only_trans G8.out g9)
        have E39 := Lib.hid ((E38.out.grown g9).low)
        have E89 := Lib.hid ((E8.out.grown g9).low)
        clear g9
        go_wp2_with fail
        refine (HPD.out _ G9.out).mono ?_
        rintro e w10 ⟨v10, rfl, o10, g10⟩
        have G10 := Lib.hid (only_trans G9.out g10)
        have E310 := Lib.hid ((E39.out.grown g10).low)
        have E810 := Lib.hid ((E89.out.grown g10).low)
        have E10 := Lib.hid o10.es
        obtain ⟨a10, c10, rfl⟩ := o10.es.shape
        clear o10 g10
        have hlli : ((la.length : Int) != (xs.length : Int)) = false := by rw [HLL.out]; simp
        go_wp2_with fail
        refine (HEQ.out _ _ _ _ _ E310.out E810.out).mono ?_
        rintro e w11 ⟨rfl, g11⟩
        have G11 := Lib.hid (only_trans G10.out g11)
        have E311 := Lib.hid ((E310.out.grown g11).low)
        have E111 := Lib.hid ((E10.out.grown g11).low)
        clear g11
        go_wp2_with fail
        refine (HEQ.out _ _ _ _ _ E311.out E111.out).mono ?_
        rintro e w12 ⟨rfl, g12⟩
        have G12 := Lib.hid (only_trans G11.out g12)
        have E312 := Lib.hid ((E311.out.grown g12).low)
        have E112 := Lib.hid ((E111.out.grown g12).low)
        clear g12
        go_wp2_with fail
        refine (HCX.out _ _ _ (HTB.out _ G12.out) E312.out).mono ?_
        rintro e w13 ⟨rfl, g13⟩
        have G13 := Lib.hid (only_trans G12.out g13)
        have E313 := Lib.hid ((E312.out.grown g13).low)
        have E113 := Lib.hid ((E112.out.grown g13).low)
        clear g13
        go_wp2_with fail
        refine (HCM.out _ _ _ _ E313.out E113.out).mono ?_
        rintro e w16 ⟨rfl, g16⟩
        have G16 := Lib.hid (only_trans G13.out g16)
        clear g16
        go_wp2_with fail
        refine (HPS.out _ G16.out).mono ?_
        rintro e w20 ⟨v20, rfl, o20, g20⟩
        have E20 := Lib.hid o20.es
        have G20 := Lib.hid (only_trans G16.out g20)
        obtain ⟨a20, c20, rfl⟩ := o20.es.shape
        clear o20 g20
        by_cases hp : qp = 0
        · subst hp
          obtain ⟨hk20, hc20⟩ := PK.out rfl
          rw [hk20] at HPK
          rw [hc20] at HPC
          clear hk20 hc20
          go_wp2_with fail
          refine (HPK.out _ _ _ E20.out).mono ?_
          rintro e w21 ⟨rfl, g21⟩
          have E21 := Lib.hid (E20.out.grown g21)
          have G21 := Lib.hid (only_trans G20.out g21)
          clear g21
          go_wp2_with fail
          refine (HPC.out _ _ _ (HTB.out _ G21.out) E21.out).mono ?_
          rintro e w22 ⟨rfl, g22⟩
          have G22 := Lib.hid (only_trans G21.out g22)
          clear g22
          go_wp2_with fail
          go_ret
          exact ⟨rfl, G22.out⟩
        · have hpb : ((qp : Int) != 0) = true := by rw [bne_iff_ne]; omega
          have hpc : ((qp : Int) == 0) = false := by simpa using hp
          have hl20 := PE.out hp
          subst hl20
          clear hp
          go_wp2_with fail
          go_ret
          exact ⟨rfl, G20.out⟩
      · have hqb : ((qa : Int) != 0) = true := by rw [bne_iff_ne]; omega
        have hqc : ((qa : Int) == 0) = false := by simpa using h1
        clear h1 hkx ox2 KX OT HPD HPR
        go_wp2_with fail
        refine (HOX.out _ G2.out).mono ?_
        rintro e w3 ⟨v3, rfl, e3, g3⟩
        have G3 := Lib.hid (only_trans G2.out g3)
        obtain ⟨a3, c3, rfl⟩ := e3.shape
        clear e3 g3
        go_wp2_with fail
        refine (HPS.out _ G3.out).mono ?_
        rintro e w20 ⟨v20, rfl, o20, g20⟩
        have E20 := Lib.hid o20.es
        have G20 := Lib.hid (only_trans G3.out g20)
        obtain ⟨a20, c20, rfl⟩ := o20.es.shape
        clear o20 g20
        by_cases hp : qp = 0
        · subst hp
          obtain ⟨hk20, hc20⟩ := PK.out rfl
          rw [hk20] at HPK
          rw [hc20] at HPC
          clear hk20 hc20
          go_wp2_with fail
          refine (HPK.out _ _ _ E20.out).mono ?_
          rintro e w21 ⟨rfl, g21⟩
          have E21 := Lib.hid (E20.out.grown g21)
          have G21 := Lib.hid (only_trans G20.out g21)
          clear g21
          go_wp2_with fail
          refine (HPC.out _ _ _ (HTB.out _ G21.out) E21.out).mono ?_
          rintro e w22 ⟨rfl, g22⟩
          have G22 := Lib.hid (only_trans G21.out g22)
          clear g22
          go_wp2_with fail
          go_ret
          exact ⟨rfl, G22.out⟩
        · have hpb : ((qp : Int) != 0) = true := by rw [bne_iff_ne]; omega
          have hpc : ((qp : Int) == 0) = false := by simpa using hp
          have hl20 := PE.out hp
          subst hl20
          clear hp
          go_wp2_with fail
          go_ret
          exact ⟨rfl, G20.out⟩

end Go.Proofs.YtiolkedmpjjojaaGreatDoor.law12
