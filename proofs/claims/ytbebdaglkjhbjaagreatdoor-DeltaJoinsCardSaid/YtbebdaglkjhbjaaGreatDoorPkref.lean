/-
  The document's tables as bytes (layer 15): Text, Put.
-/
import Derived.Test.YtbebdaglkjhbjaaGreatDoorPkm
import Derived.Test.YtbebdaglkjhbjaaGreatDoorBundR
import Derived.Test.YtbebdaglkjhbjaaGreatDoorBundG
import Derived.Test.YtbebdaglkjhbjaaGreatDoorBundH
namespace Go.Proofs.YtbebdaglkjhbjaaGreatDoor.kr
open Go.RowKit Go.Proofs.YtbebdaglkjhbjaaGreatDoor.vi Go.Proofs.YtbebdaglkjhbjaaGreatDoor.um Go.Proofs.YtbebdaglkjhbjaaGreatDoor.wm Go.Proofs.YtbebdaglkjhbjaaGreatDoor.tr Go.Proofs.YtbebdaglkjhbjaaGreatDoor.em Go.Proofs.YtbebdaglkjhbjaaGreatDoor.rm Go.Proofs.YtbebdaglkjhbjaaGreatDoor.law11 Go.Proofs.YtbebdaglkjhbjaaGreatDoor.dd Go.Proofs.YtbebdaglkjhbjaaGreatDoor.dr Go.Proofs.YtbebdaglkjhbjaaGreatDoor.tm Go.Proofs.YtbebdaglkjhbjaaGreatDoor.tf Go.Proofs.YtbebdaglkjhbjaaGreatDoor.rr Go.Proofs.YtbebdaglkjhbjaaGreatDoor.pk
set_option linter.unusedVariables false
set_option linter.unusedSimpArgs false

/-- The key ahead of the i-th row. -/
def pk (rs : List Rw) : Nat → Bs
  | 0 => []
  | j + 1 => ((rs[j]?).map key).getD []

theorem rowsK_next {rs : List Rw} {i : Nat} {x : Rw} (h : rs[i]? = some x) (a : Bs) : rowsK a (rs.drop i) = rowK a x ++ rowsK (pk rs (i + 1)) (rs.drop (i + 1)) := by
  have hp : pk rs (i + 1) = key x := by simp [pk, h]
  obtain ⟨hi, rfl⟩ := List.getElem?_eq_some_iff.1 h
  rw [List.drop_eq_getElem_cons hi, hp]
  rfl

theorem rowK_len (a : Bs) (x : Rw) (K : Nat) (hk : (key x).length ≤ K) (hK : K ≤ 1000000) (hn : x.n < 18446744073709551616) : (rowK a x).length ≤ K + 30 := by
  have h1 := oneP_len a (key x) (by omega)
  have h2 := enc_len_ten hn
  unfold rowK
  rw [List.length_append]
  omega

theorem pk_len (rs : List Rw) (K : Nat) (h : ∀ r ∈ rs, (key r).length ≤ K) : ∀ i, (pk rs i).length ≤ K
  | 0 => by simp [pk]
  | j + 1 => by
    rcases hj : rs[j]? with _ | x
    · simp [pk, hj]
    · have := h x (List.mem_of_getElem? hj)
      simpa [pk, hj] using this

set_option maxHeartbeats 4000000 in
set_option maxRecDepth 100000 in
theorem rtext_any (rs : List Rw) (K : Nat) (S : Nat → Prop) (w : World) (v : Value) (hl : rs.length ≤ 100000) (hK : K ≤ 1000000) (hz : ∀ r ∈ rs, Fit r) (hk : ∀ r ∈ rs, (key r).length ≤ K) (hb : rs.length * (K + 30) ≤ 10000000) (h : Rs S w v rs) :
    Calls Tryz.prog 47 #[v] w fun e w' => e = .returned (.string (txt (textK rs))) ∧ w.grownBy w' none := by
  have HS := Lib.hid h
  have HZ := Lib.hid hz
  have HK := Lib.hid hk
  have HPL := Lib.hid (pk_len rs K hk)
  have HP := Lib.hid (fun w => rput_any rs.length (by omega) w)
  have hmod : (rs.length : Int) % 18446744073709551616 = rs.length := by omega
  have HTX : Hid (textK rs = enc rs.length ++ rowsK (pk rs 0) (rs.drop 0)) := rfl
  have hel := enc_len_ten (n := rs.length) (by omega)
  have HEN := Lib.hid (encB_txt rs.length)
  obtain ⟨a, cap, rfl⟩ := h.shape
  generalize textK rs = R at *
  clear h hz hk
  go_enter Tryz.func47, Tryz.ntmps47
  go_wp2_with fail
  refine (HP.out _).mono ?_
  rintro e w1 ⟨rfl, g1⟩
  have G1 := Lib.hid g1
  clear g1
  go_wp2_with fail
  go_loopw [3, 13] (fun vs q wr => ∃ (i : Nat) (acc : Bs), i ≤ rs.length ∧ q = .int .i64 i ∧ vs = .string (txt acc) ∧ acc.length ≤ 10 + i * (K + 30) ∧ R = acc ++ rowsK (pk rs i) (rs.drop i) ∧ w.grownBy wr none) (fun _ q _ => rs.length - (intOf q).toNat)
  case atStart => exact ⟨0, enc rs.length, Nat.zero_le _, rfl, congrArg Value.string HEN.out, by omega, HTX.out, G1.out⟩
  case round =>
    obtain ⟨i, acc, hi, rfl, rfl, hal, hE, hg⟩ := hrel
    have HG := Lib.hid hg
    clear hg HTX G1 HEN HP
    by_cases hlt : i < rs.length
    · obtain ⟨x, hx⟩ : ∃ x, rs[i]? = some x := ⟨rs[i], List.getElem?_eq_getElem hlt⟩
      rw [rowsK_next hx, ← List.append_assoc] at hE
      have HE := Lib.hid hE
      have HRi := Lib.hid (HS.out.grown HG.out)
      obtain ⟨b, off, cx, uu, hv, -, hle, hcm, c0, he, c1⟩ := HRi.out.at hx
      simp only [Value.slice.injEq, true_and] at hv
      obtain ⟨rfl, rfl⟩ := hv
      unfold maxLen at hcm
      obtain ⟨xa, xc, rfl⟩ := he.shape
      obtain ⟨z1, z2, z3, z4⟩ := HZ.out x (List.mem_of_getElem? hx)
      have hkx := HK.out x (List.mem_of_getElem? hx)
      have hpl := HPL.out i
      have hrl := rowK_len (pk rs i) x K hkx hK z4
      have hmul : (i + 1) * (K + 30) ≤ rs.length * (K + 30) := Nat.mul_le_mul_right _ (by omega)
      rw [Nat.succ_mul] at hmul
      have hal2 : (acc ++ rowK (pk rs i) x).length ≤ 10 + (i + 1) * (K + 30) := by rw [List.length_append, Nat.succ_mul]; omega
      have hol := oneP_len (pk rs i) (key x) (by omega)
      have hnl := enc_len_ten z4
      have hkd : (keyD x.d).length = (key x).length := rfl
      have GA := Lib.hid (only_alloc (only_refl wr none) (.cells #[.slice xa x.d.length xc, .int .u64 (x.n : Nat)] 97))
      have d0 : (wr.alloc (.cells #[.slice xa x.d.length xc, .int .u64 (x.n : Nat)] 97)).cell? ⟨wr.heap.size, 0, none⟩ = some (.slice xa x.d.length xc) := by rw [cell_new]; rfl
      have d1 : (wr.alloc (.cells #[.slice xa x.d.length xc, .int .u64 (x.n : Nat)] 97)).cell? ⟨wr.heap.size, 1, none⟩ = some (.int .u64 (x.n : Nat)) := by rw [cell_new]; rfl
      have HEA := Lib.hid (he.grown GA.out)
      have HRA := Lib.hid (HRi.out.grown GA.out)
      have HGA := Lib.hid (only_trans HG.out GA.out)
      have D0 := Lib.hid d0
      have D1 := Lib.hid d1
      have HKD : Hid (key x = keyD x.d) := rfl
      have HPN := Lib.hid (fun w => rput_any x.n z4 w)
      have HCC : Hid (txt acc ++ txt (oneP (pk rs i) (key x)) ++ encB x.n = txt (acc ++ rowK (pk rs i) x)) := by
        show _ = _
        rw [encB_txt]
        apply ByteArray.ext
        simp [txt, rowK]
      have hs1 : (txt acc).size ≤ 10000010 := by rw [txt_size]; omega
      have hs2 : (txt (oneP (pk rs i) (key x))).size ≤ 1000020 := by rw [txt_size]; omega
      have hs3 : (encB x.n).size ≤ 10 := by rw [encB_txt, txt_size]; exact hnl
      have hen : (enc x.n).length = (encB x.n).size := by rw [encB_txt, txt_size]
      clear d0 d1 he HK hE hol hrl HRi
      cases i with
      | zero =>
        have HO0 : Hid (∀ w, Calls Tryz.prog 80 #[.string ⟨#[]⟩, .string (txt (keyD x.d))] w fun e w' => e = .returned (.string (txt (oneP (pk rs 0) (key x)))) ∧ w.grownBy w' none) := by
          show ∀ w, _
          intro w
          have := rone_any (⟨#[]⟩ : ByteArray) (txt (key x)) (by simp [ByteArray.size]) (by rw [txt_size]; omega) w
          rw [txt_list] at this
          exact this
        simp only [Nat.add_zero, Nat.zero_mul] at c0 c1
        have c1' : wr.cell? ⟨b, off + 1, none⟩ = some (.int .u64 (x.n : Nat)) := c1
        clear hx
        generalize txt (oneP (pk rs 0) (key x)) = D at *
        generalize acc ++ rowK (pk rs 0) x = acc2 at *
        generalize encB x.n = En at *
        generalize txt acc = TA at *
        go_wp2_with fail
        generalize wr.alloc (.cells #[.slice xa x.d.length xc, .int .u64 (x.n : Nat)] 97) = wa at *
        have HK := Lib.hid (fun w1 (g : wa.grownBy w1 none) => rkeyD_any x.d _ w1 _ z1 z2 z3 ((HEA.out.grown g).es))
        have HO := HO0
        obtain ⟨w5, hw5⟩ : ∃ w5, w5 = wa := ⟨_, rfl⟩
        have A5 : Hid (wa.grownBy w5 none) := by show wa.grownBy w5 none; rw [hw5]; exact only_refl _ _
        rw [← hw5]
        have GA5 := Lib.hid (fun g : GW w5 none => only_trans A5.out g.ok)
        have hx0 : ∀ g : GW w5 none, g.world.cell? ⟨wr.heap.size, 0, none⟩ = some (.slice xa x.d.length xc) := fun g => (Chg.of_none (S := fun _ => False) (GA5.out g)).cell D0.out (fun e => e)
        have hx1 : ∀ g : GW w5 none, g.world.cell? ⟨wr.heap.size, 1, none⟩ = some (.int .u64 (x.n : Nat)) := fun g => (Chg.of_none (S := fun _ => False) (GA5.out g)).cell D1.out (fun e => e)
        have HKG := Lib.hid (fun g : GW w5 none => HK.out g.world (GA5.out g))
        have HOG := Lib.hid (fun g : GW w5 none => HO.out g.world)
        have HPG := Lib.hid (fun g : GW w5 none => HPN.out g.world)
        refine wp_region_gw w5 none (by kernel_rfl) (by kernel_rfl) (only_refl _ _) ?_
        repeat (go_big_quiet_step (first | (go_at_call 77; exact calls_gw (HKG.out _)) | (go_at_call 80; exact calls_gw (HOG.out _)) | (go_at_call 79; exact calls_gw (HPG.out _))))
        refine wpQuiet_nil ?_
        rintro _ ⟨⟨w6, hw6⟩, rfl⟩
        have HW6 := Lib.hid (only_trans HGA.out (only_trans A5.out hw6))
        clear hw6
        go_wp2_with fail
        go_roundw
        case rel => exact ⟨1, acc2, by omega, by go_num, congrArg Value.string HCC.out, hal2, HE.out, HW6.out⟩
        case measure => simp [intOf]; omega
      | succ j =>
        obtain ⟨y, hy⟩ : ∃ y, rs[j]? = some y := ⟨rs[j], List.getElem?_eq_getElem (by omega)⟩
        obtain ⟨y1, y2, y3, y4⟩ := HZ.out y (List.mem_of_getElem? hy)
        have HPK : Hid (pk rs (j + 1) = keyD y.d) := by show _ = _; simp [pk, hy, key]
        have HO1 := Lib.hid (fun w => rone_any (txt (keyD y.d)) (txt (keyD x.d)) (by rw [txt_size]; omega) (by rw [txt_size]; omega) w)
        rw [txt_list, txt_list, ← HPK.out] at HO1
        have hsub : ((j + 1 : Nat) : Int) - 1 = (j : Int) := by omega
        have hgt : (0 : Int) < ((j + 1 : Nat) : Int) := by omega
        obtain ⟨b2, off2, cy, uy, hvy, -, -, -, e0, hey, -⟩ := HRA.out.at hy
        simp only [Value.slice.injEq, Option.some.injEq, Addr.mk.injEq, and_true, true_and] at hvy
        obtain ⟨⟨rfl, rfl⟩, rfl⟩ := hvy
        obtain ⟨ya, yc, rfl⟩ := hey.shape
        have HEY := Lib.hid hey
        rw [HPK.out] at HO1 hs2 HCC
        have HO2 : Hid (∀ w, Calls Tryz.prog 80 #[.string (txt (keyD y.d)), .string (txt (keyD x.d))] w fun e w' => e = .returned (.string (txt (oneP (keyD y.d) (key x)))) ∧ w.grownBy w' none) := HO1.out
        clear hx hy hey
        generalize txt (oneP (keyD y.d) (key x)) = D at *
        generalize encB x.n = En at *
        generalize txt acc = TA at *
        go_wp2_with fail
        generalize wr.alloc (.cells #[.slice xa x.d.length xc, .int .u64 (x.n : Nat)] 97) = wa at *
        refine (rkeyD_any y.d _ wa _ y1 y2 y3 HEY.out.es).mono ?_
        rintro e w5 ⟨rfl, g5⟩
        have A5 := Lib.hid g5
        clear g5
        have HK := Lib.hid (fun w1 (g : wa.grownBy w1 none) => rkeyD_any x.d _ w1 _ z1 z2 z3 ((HEA.out.grown g).es))
        have HO := HO2
        rw [HPK.out] at hal2
        have HE9 : Hid (R = acc ++ rowK (keyD y.d) x ++ rowsK (pk rs (j + 1 + 1)) (rs.drop (j + 1 + 1))) := by show _ = _; rw [← HPK.out]; exact HE.out
        clear HE
        have HE := HE9
        generalize acc ++ rowK (keyD y.d) x = acc2 at *
        go_wp2_with fail
        have GA5 := Lib.hid (fun g : GW w5 none => only_trans A5.out g.ok)
        have hx0 : ∀ g : GW w5 none, g.world.cell? ⟨wr.heap.size, 0, none⟩ = some (.slice xa x.d.length xc) := fun g => (Chg.of_none (S := fun _ => False) (GA5.out g)).cell D0.out (fun e => e)
        have hx1 : ∀ g : GW w5 none, g.world.cell? ⟨wr.heap.size, 1, none⟩ = some (.int .u64 (x.n : Nat)) := fun g => (Chg.of_none (S := fun _ => False) (GA5.out g)).cell D1.out (fun e => e)
        have HKG := Lib.hid (fun g : GW w5 none => HK.out g.world (GA5.out g))
        have HOG := Lib.hid (fun g : GW w5 none => HO.out g.world)
        have HPG := Lib.hid (fun g : GW w5 none => HPN.out g.world)
        refine wp_region_gw w5 none (by kernel_rfl) (by kernel_rfl) (only_refl _ _) ?_
        repeat (go_big_quiet_step (first | (go_at_call 77; exact calls_gw (HKG.out _)) | (go_at_call 80; exact calls_gw (HOG.out _)) | (go_at_call 79; exact calls_gw (HPG.out _))))
        refine wpQuiet_nil ?_
        rintro _ ⟨⟨w6, hw6⟩, rfl⟩
        have HW6 := Lib.hid (only_trans HGA.out (only_trans A5.out hw6))
        clear hw6
        go_wp2_with fail
        go_roundw
        case rel => exact ⟨j + 2, acc2, by omega, by go_num, congrArg Value.string HCC.out, hal2, HE.out, HW6.out⟩
        case measure => simp [intOf]; omega
    · have hie : i = rs.length := by omega
      subst hie
      rw [List.drop_length] at hE
      have HE2 : Hid (R = acc) := by show _ = _; rw [hE]; simp [rowsK]
      clear hE
      go_wp2_with fail
      go_ret
      rw [HE2.out]
      exact ⟨rfl, HG.out⟩

/-! Put -/
theorem key_fit {r : Rw} (h : rowE r = 0) : (key r).length ≤ 30000 := by
  obtain ⟨h1, -⟩ := rowE_pos h
  have h2 := (checkD_ok _).1 h1
  have hs : ∀ x ∈ r.d, x.key.size ≤ 64 ∧ x.value.size ≤ 256 := fun x hx => (checkE_small (h2.2.2.1 x hx)).2
  exact law12.key_small (l := r.d) (by have := h2.2.1; omega) (fun x hx => by have := hs x hx; omega)

set_option maxRecDepth 100000 in
theorem rputK_any (rs : List Rw) (S : Nat → Prop) (w : World) (v : Value) (hl : rs.length ≤ 100000) (hz : ∀ r ∈ rs, Fit r) (h : Rs S w v rs) :
    Calls Tryz.prog 11 #[v] w fun e w' => e = .returned (.tuple #[.string (txt (putK rs).1), .int .i64 ((putK rs).2 : Nat)]) ∧ w.grownBy w' none := by
  have HC := Lib.hid (rcheckT_any rs S w v hl hz h)
  have HT := Lib.hid (fun (hc : checkT rs = 0) w1 (g : w.grownBy w1 none) => rtext_any rs 30000 S w1 v hl (by omega) hz (fun r hr => key_fit (((checkT_ok _).1 hc).2.1 r hr)) (by have := ((checkT_ok _).1 hc).1; omega) (h.grown g))
  have HX : Hid (putK rs = if checkT rs ≠ 0 then ([], checkT rs) else (textK rs, 0)) := rfl
  have hcl := checkT_lt rs
  obtain ⟨a, cap, rfl⟩ := h.shape
  generalize putK rs = R at *
  generalize textK rs = X at *
  generalize checkT rs = c at *
  clear h hz
  by_cases hc : c = 0
  · subst hc
    have HX2 := Lib.hid (HX.out.trans (if_neg (by simp)))
    go_enter Tryz.func11, Tryz.ntmps11
    go_wp2_with fail
    refine HC.out.mono ?_
    rintro e w1 ⟨rfl, g1⟩
    have G1 := Lib.hid g1
    clear g1
    go_wp2_with fail
    refine (HT.out (by first | rfl | trivial) _ G1.out).mono ?_
    rintro e w2 ⟨rfl, g2⟩
    have G2 := Lib.hid (only_trans G1.out g2)
    clear g2
    go_wp2_with fail
    go_ret2
    rw [HX2.out]
    exact ⟨rfl, G2.out⟩
  · have HX2 := Lib.hid (HX.out.trans (if_pos hc))
    have hqb : ((c : Int) != 0) = true := by rw [bne_iff_ne]; omega
    go_enter Tryz.func11, Tryz.ntmps11
    go_wp2_with fail
    refine HC.out.mono ?_
    rintro e w1 ⟨rfl, g1⟩
    have G1 := Lib.hid g1
    clear g1
    go_wp2_with fail
    go_ret2
    rw [HX2.out]
    exact ⟨rfl, G1.out⟩

end Go.Proofs.YtbebdaglkjhbjaaGreatDoor.kr
