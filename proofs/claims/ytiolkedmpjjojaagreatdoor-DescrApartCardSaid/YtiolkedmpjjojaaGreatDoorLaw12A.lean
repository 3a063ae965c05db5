/-
  The statement DescrApart.
-/
import Derived.Test.YtiolkedmpjjojaaGreatDoorLaw12
namespace Go.Proofs.YtiolkedmpjjojaaGreatDoor.law12
open Go.RowKit Go.Proofs.YtiolkedmpjjojaaGreatDoor.vi Go.Proofs.YtiolkedmpjjojaaGreatDoor.um Go.Proofs.YtiolkedmpjjojaaGreatDoor.wm Go.Proofs.YtiolkedmpjjojaaGreatDoor.tr Go.Proofs.YtiolkedmpjjojaaGreatDoor.em Go.Proofs.YtiolkedmpjjojaaGreatDoor.cur Go.Proofs.YtiolkedmpjjojaaGreatDoor.law11 Go.Proofs.YtiolkedmpjjojaaGreatDoor.dd Go.Proofs.YtiolkedmpjjojaaGreatDoor.dr
set_option linter.unusedVariables false
set_option linter.unusedSimpArgs false

theorem puts_len : ∀ {l : List Ent}, (∀ x ∈ l, x.key.size + x.value.size ≤ 600) → ((l.map putE).flatten).length ≤ l.length * 620
  | [], _ => by simp
  | x :: r, h => by
    have hx := h x (by simp)
    have ih := puts_len (l := r) fun y hy => h y (by simp [hy])
    have e1 : (enc x.key.size).length ≤ 10 := enc_len_ten (by omega)
    have e2 : (enc x.value.size).length ≤ 10 := enc_len_ten (by omega)
    have hp : (putE x).length ≤ 620 := by
      unfold putE
      rw [List.length_append, tw_len, tw_len]
      omega
    simp only [List.map_cons, List.flatten_cons, List.length_append, List.length_cons]
    omega
theorem key_small {l : List Ent} (hl : l.length ≤ 40) (h : ∀ x ∈ l, x.key.size + x.value.size ≤ 600) : (keyD l).length ≤ 30000 := by
  have h1 := puts_len h
  have e1 : (enc l.length).length ≤ 10 := enc_len_ten (by omega)
  unfold keyD
  rw [List.length_append]
  omega
theorem ofD_err {xs : List Ent} (h0 : (ofD xs).2 ≠ 0) : (ofD xs).1 = [] := by
  unfold ofD at h0 ⊢
  split
  · rfl
  · rename_i k1
    rw [if_neg k1] at h0
    split
    · rfl
    · rename_i k2
      rw [if_neg k2] at h0
      split
      · rfl
      · rename_i k3
        rw [if_neg k3] at h0
        exact absurd rfl h0
theorem ofD_small {xs : List Ent} (h : fewE xs = true) : (ofD xs).1.length ≤ 40 ∧ ∀ x ∈ (ofD xs).1, x.key.size + x.value.size ≤ 600 := by
  obtain ⟨h1, h2⟩ := few_facts h
  by_cases h0 : (ofD xs).2 = 0
  · rw [(ofD_ok h0).1, (sort_perm xs).length_eq]
    exact ⟨h1, fun x hx => h2 x ((sort_perm xs).mem_iff.1 hx)⟩
  · rw [ofD_err h0]
    simp

theorem ofD_small2 {xs : List Ent} (h : xs.length ≤ 40) : (ofD xs).1.length ≤ 40 ∧ ∀ x ∈ (ofD xs).1, x.key.size + x.value.size ≤ 600 := by
  by_cases h0 : (ofD xs).2 = 0
  · obtain ⟨h1, h2⟩ := ofD_ok h0
    rw [h1, (sort_perm xs).length_eq]
    refine ⟨h, fun x hx => ?_⟩
    have := checkE_small (((checkD_ok _).1 h2).2.2.1 x hx)
    omega
  · rw [ofD_err h0]
    simp

/-- Keys of two descriptors that may be, and are not the same. -/
theorem keys_apart {x y : List Ent} (hx : checkD x = 0) (hy : checkD y = 0) (hne : x ≠ y) : txt (keyD x) ≠ (txt (keyD y)).extract 0 (txt (keyD x)).size := fun e => by
  have h1 : keyD x = (keyD y).take (keyD x).length := by
    have h2 := congrArg (fun b : ByteArray => b.data.toList) e
    simp only [txt_list, txt_size] at h2
    rw [h2]
    simp [txt]
  have h3 := key_apart hx hy (r := (keyD y).drop (keyD x).length) (by
    conv => rhs; lhs; rw [h1]
    rw [List.take_append_drop])
  exact hne h3.1
theorem keys_ne {x y : List Ent} (hx : checkD x = 0) (hy : checkD y = 0) (hne : x ≠ y) : txt (keyD x) ≠ txt (keyD y) := fun e => by
  have h := congrArg (fun b : ByteArray => b.data.toList) e
  simp only [txt_list] at h
  exact hne (key_apart hx hy (r := []) (by rw [List.append_nil]; exact h.symm)).1

set_option maxHeartbeats 8000000 in
set_option maxRecDepth 100000 in
theorem apart_any (W : World) (hT : tb.Tab W) (xs ys : List Ent) (v u : Value) (hlx : xs.length ≤ maxLen) (hly : ys.length ≤ maxLen) (hzx : ∀ x ∈ xs, x.key.size ≤ maxLen ∧ x.value.size ≤ maxLen) (hzy : ∀ x ∈ ys, x.key.size ≤ maxLen ∧ x.value.size ≤ maxLen)
    (hx : Es W.heap.size W v xs) (hy : Es W.heap.size W u ys) :
    Calls Tryz.prog 8 #[v, u] W fun e w' => e = .returned (.bool true) ∧ W.grownBy w' none := by
  have HA := Lib.hid (awake_any W hT)
  have HF1 := Lib.hid (fun w (g : W.grownBy w none) => few2_any xs _ w v hlx hzx (hx.grown g))
  have HF2 := Lib.hid (fun w (g : W.grownBy w none) => few2_any ys _ w u hly hzy (hy.grown g))
  have HTB := Lib.hid (fun w (g : W.grownBy w none) => tb.kept hT g)
  have HX := Lib.hid hx
  have HY := Lib.hid hy
  obtain ⟨a, ca, rfl⟩ := hx.shape
  obtain ⟨b, cb, rfl⟩ := hy.shape
  clear hx hy hT
  have HZX := Lib.hid hzx
  have HZY := Lib.hid hzy
  clear hzx hzy hlx hly
  go_enter Tryz.func8, Tryz.ntmps8
  go_wp2_with fail
  refine HA.out.mono ?_
  rintro e w1 ⟨rfl, g1⟩
  have G1 := Lib.hid g1
  clear g1
  go_wp2_with fail
  refine (HF1.out _ G1.out).mono ?_
  rintro e w2 ⟨bx, rfl, hbx, g2⟩
  have G2 := Lib.hid (only_trans G1.out g2)
  clear g2
  cases bx with
  | false =>
    clear hbx
    go_wp2_with fail
    go_ret
    exact ⟨rfl, G2.out⟩
  | true =>
    have fx1 := hbx rfl
    clear hbx
    go_wp2_with fail
    refine (HF2.out _ G2.out).mono ?_
    rintro e w3 ⟨bz, rfl, hbz, g3⟩
    have G3 := Lib.hid (only_trans G2.out g3)
    clear g3
    cases bz with
    | false =>
      clear hbz
      go_wp2_with fail
      go_ret
      exact ⟨rfl, G3.out⟩
    | true =>
      have fy1 := hbz rfl
      clear hbz
      obtain ⟨ox1, ox2⟩ := ofD_small2 fx1
      obtain ⟨oy1, oy2⟩ := ofD_small2 fy1
      have HOX := Lib.hid (fun w (g : W.grownBy w none) => of_any xs _ w _ (by omega) HZX.out (HTB.out w g) (HX.out.grown g))
      have HOY := Lib.hid (fun w (g : W.grownBy w none) => of_any ys _ w _ (by omega) HZY.out (HTB.out w g) (HY.out.grown g))
      have KX : Hid ((ofD xs).2 = 0 → checkD (ofD xs).1 = 0) := fun h => by rw [(ofD_ok h).1]; exact (ofD_ok h).2
      have KY : Hid ((ofD ys).2 = 0 → checkD (ofD ys).1 = 0) := fun h => by rw [(ofD_ok h).1]; exact (ofD_ok h).2
      have hqx := ofD_lt xs
      have hqy := ofD_lt ys
      clear fx1 fy1 HX HY HTB HZX HZY
      generalize ofD xs = RX at *
      generalize ofD ys = RY at *
      obtain ⟨la, qa⟩ := RX
      obtain ⟨lb, qb⟩ := RY
      simp only at ox1 ox2 oy1 oy2 HOX HOY KX KY hqx hqy
      have hkx := key_small ox1 ox2
      have hky := key_small oy1 oy2
      have HKX := Lib.hid (fun B w v h => key_any la B w v (by omega) (fun x hx => by have := ox2 x hx; omega) (by omega) h)
      have HKY := Lib.hid (fun B w v h => key_any lb B w v (by omega) (fun x hx => by have := oy2 x hx; omega) (by omega) h)
      have HCM := Lib.hid (fun B w v u h h2 => dcmp_any la lb B w v u (by omega) (by omega) (fun x hx => by have := ox2 x hx; omega) (fun x hx => by have := oy2 x hx; omega) (by omega) (by omega) h h2)
      have HEQ := Lib.hid (fun B1 B2 w v u h h2 => equalE_any la lb B1 B2 w v u (by omega) h h2)
      have hsx : (txt (keyD la)).size ≤ 30000 := by rw [txt_size]; exact hkx
      have hsy : (txt (keyD lb)).size ≤ 30000 := by rw [txt_size]; exact hky
      have HAP := Lib.hid (@keys_apart la lb)
      have HAQ := Lib.hid (@keys_apart lb la)
      have HNE := Lib.hid (@keys_ne la lb)
      have HCK := Lib.hid (fun h => KX.out h)
      clear ox2 oy2 hkx hky
      go_wp2_with fail
      refine (HOX.out _ G3.out).mono ?_
      rintro e w4 ⟨v4, rfl, e4, g4⟩
      have E4 := Lib.hid e4
      have G4 := Lib.hid (only_trans G3.out g4)
      obtain ⟨a4, c4, rfl⟩ := e4.shape
      clear e4 g4
      go_wp2_with fail
      refine (HOY.out _ G4.out).mono ?_
      rintro e w5 ⟨v5, rfl, e5, g5⟩
      have E5 := Lib.hid e5
      have E45 := Lib.hid ((E4.out.grown g5).low)
      have G5 := Lib.hid (only_trans G4.out g5)
      obtain ⟨a5, c5, rfl⟩ := e5.shape
      clear e5 g5
      by_cases h1 : qa = 0
      · subst h1
        by_cases h2 : qb = 0
        · subst h2
          have hcx := KX.out rfl
          have hcy := KY.out rfl
          have HR : Hid ((la = lb ∧ decide (la = lb) = true ∧ ((txt (keyD la)).toList == (txt (keyD lb)).toList) = true ∧ cmpB (txt (keyD la)) (txt (keyD lb)) = 0) ∨ (decide (la = lb) = false ∧ ((txt (keyD la)).toList == (txt (keyD lb)).toList) = false ∧ cmpB (txt (keyD la)) (txt (keyD lb)) ≠ 0 ∧
              txt (keyD la) ≠ (txt (keyD lb)).extract 0 (txt (keyD la)).size ∧ txt (keyD lb) ≠ (txt (keyD la)).extract 0 (txt (keyD lb)).size ∧ txt (keyD la) ≠ txt (keyD lb))) := by
            by_cases he : la = lb
            · left
              subst he
              exact ⟨rfl, by simp, by simp, (cmpB_zero _ _).2 rfl⟩
            · right
              have hne := HNE.out hcx hcy he
              exact ⟨decide_eq_false he, by rw [beq_bytes]; exact decide_eq_false hne, fun e => hne ((cmpB_zero _ _).1 e), HAP.out hcx hcy he, HAQ.out hcy hcx (fun e => he e.symm), hne⟩
          clear hcx hcy KX KY HCK HAP HAQ HNE
          generalize txt (keyD la) = K at *
          generalize txt (keyD lb) = M at *
          generalize decide (la = lb) = sm at *
          generalize cmpB K M = cm at *
          go_wp2_with fail
          refine (HKX.out _ _ _ E45.out).mono ?_
          rintro e w6 ⟨rfl, g6⟩
          have G6 := Lib.hid (only_trans G5.out g6)
          have E46 := Lib.hid ((E45.out.grown g6).low)
          have E56 := Lib.hid ((E5.out.grown g6).low)
          clear g6
          go_wp2_with fail
          refine (HKY.out _ _ _ E56.out).mono ?_
          rintro e w7 ⟨rfl, g7⟩
          have G7 := Lib.hid (only_trans G6.out g7)
          have E47 := Lib.hid ((E46.out.grown g7).low)
          have E57 := Lib.hid ((E56.out.grown g7).low)
          clear g7
          go_wp2_with fail
          refine (HEQ.out _ _ _ _ _ E47.out E57.out).mono ?_
          rintro e w8 ⟨rfl, g8⟩
          have G8 := Lib.hid (only_trans G7.out g8)
          have E48 := Lib.hid ((E47.out.grown g8).low)
          have E58 := Lib.hid ((E57.out.grown g8).low)
          clear g8
          rcases HR.out with ⟨he, rfl, h4, rfl⟩ | ⟨rfl, h4, h5, h6, h7, h8⟩
          · clear HR he
            go_wp2_with fail
            refine (HCM.out _ _ _ _ E48.out E58.out).mono ?_
            rintro e w9 ⟨rfl, g9⟩
            have G9 := Lib.hid (only_trans G8.out g9)
            clear g9
            go_wp2_with fail
            go_ret
            exact ⟨rfl, G9.out⟩
          · have h5b : (cm == 0) = false := by simpa using h5
            have i6 : (K.toList == (M.extract 0 K.size).toList) = false := by rw [beq_bytes]; exact decide_eq_false h6
            have i7 : (M.toList == (K.extract 0 M.size).toList) = false := by rw [beq_bytes]; exact decide_eq_false h7
            have i8 : (M.toList == K.toList) = false := by rw [beq_bytes]; exact decide_eq_false (fun e => h8 e.symm)
            clear HR h5 h6 h7 h8
            rcases Nat.le_total K.size M.size with hkm | hkm
            · have hmin : min (K.size : Int) (M.size : Int) = (K.size : Int) := by omega
              have hkk : K.extract 0 K.size = K := extract_all K
              go_wp2_with fail
              refine (HCM.out _ _ _ _ E48.out E58.out).mono ?_
              rintro e w9 ⟨rfl, g9⟩
              have G9 := Lib.hid (only_trans G8.out g9)
              clear g9
              go_wp2_with fail
              go_ret
              exact ⟨rfl, G9.out⟩
            · have hmin : min (K.size : Int) (M.size : Int) = (M.size : Int) := by omega
              have hkk : M.extract 0 M.size = M := extract_all M
              go_wp2_with fail
              refine (HCM.out _ _ _ _ E48.out E58.out).mono ?_
              rintro e w9 ⟨rfl, g9⟩
              have G9 := Lib.hid (only_trans G8.out g9)
              clear g9
              go_wp2_with fail
              go_ret
              exact ⟨rfl, G9.out⟩
        · have hqb : ((qb : Int) != 0) = true := by rw [bne_iff_ne]; omega
          clear h2
          go_wp2_with fail
          go_ret
          exact ⟨rfl, G5.out⟩
      · have hqb : ((qa : Int) != 0) = true := by rw [bne_iff_ne]; omega
        clear h1
        go_wp2_with fail
        go_ret
        exact ⟨rfl, G5.out⟩

end Go.Proofs.YtiolkedmpjjojaaGreatDoor.law12
