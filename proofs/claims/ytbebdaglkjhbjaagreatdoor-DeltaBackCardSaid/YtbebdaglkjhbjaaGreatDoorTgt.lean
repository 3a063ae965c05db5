/-
  The developers' tables: the library's search; Get, AtLeast.
-/
import Derived.Test.YtbebdaglkjhbjaaGreatDoorBundH
namespace Go.Proofs.YtbebdaglkjhbjaaGreatDoor.ti
open Go.RowKit Go.Lib Go.Proofs.YtbebdaglkjhbjaaGreatDoor.vi Go.Proofs.YtbebdaglkjhbjaaGreatDoor.um Go.Proofs.YtbebdaglkjhbjaaGreatDoor.wm Go.Proofs.YtbebdaglkjhbjaaGreatDoor.tr Go.Proofs.YtbebdaglkjhbjaaGreatDoor.em Go.Proofs.YtbebdaglkjhbjaaGreatDoor.rm Go.Proofs.YtbebdaglkjhbjaaGreatDoor.law11 Go.Proofs.YtbebdaglkjhbjaaGreatDoor.dd Go.Proofs.YtbebdaglkjhbjaaGreatDoor.tm Go.Proofs.YtbebdaglkjhbjaaGreatDoor.tf
set_option linter.unusedVariables false
set_option linter.unusedSimpArgs false

set_option maxRecDepth 100000 in
theorem get1_any (x : Rw) (k : Bs) (S : Nat → Prop) (w : World) (u : Value) (hf : Fit x) (h : EsS S w u x.d) :
    Calls Tryz.prog 90 #[.agg #[u, .int .u64 (x.n : Nat)], .string (txt k)] w fun e w' => e = .returned (.int .i64 (cmpB (txt (key x)) (txt k))) ∧ w.grownBy w' none := by
  have HK := Lib.hid (fun w2 (g2 : w.grownBy w2 none) => key_any x.d _ w2 u hf.1 hf.2.1 hf.2.2.1 (h.es.grown g2))
  have HC := Lib.hid (fun w => ee.compare_any (txt (keyD x.d)) (txt k) w)
  have HG := Lib.hid (only_alloc (only_refl w none) (.cells #[u, .int .u64 (x.n : Nat)] 80))
  show Calls _ _ _ _ fun e w' => e = .returned (.int .i64 (cmpB (txt (keyD x.d)) (txt k))) ∧ w.grownBy w' none
  obtain ⟨xa, xc, rfl⟩ := h.shape
  clear h hf
  generalize txt (keyD x.d) = X at *
  generalize txt k = Y at *
  generalize cmpB X Y = c at *
  generalize x.n = n at *
  go_enter Tryz.func90, Tryz.ntmps90
  go_wp2_with fail
  refine (HK.out _ HG.out).mono ?_
  rintro e w1 ⟨rfl, g1⟩
  have G1 := Lib.hid (only_trans HG.out g1)
  clear g1
  go_wp2_with fail
  refine (HC.out _).mono ?_
  rintro e w2 ⟨rfl, rfl⟩
  go_wp2_with fail
  go_ret
  exact ⟨rfl, G1.out⟩

/-! The search -/
theorem up_to {rs : List Rw} (hs : rs.Pairwise ltR) {h : Nat} {x : Rw} {k : Bs} (hx : rs[h]? = some x) (hl : lt (key x) k = true) : ∀ a y, a < h + 1 → rs[a]? = some y → lt (key y) k = true := fun a y ha hy => by
  by_cases e : a = h
  · subst e; rw [hx] at hy; cases hy; exact hl
  · obtain ⟨i1, e1⟩ := List.getElem?_eq_some_iff.1 hy
    obtain ⟨i2, e2⟩ := List.getElem?_eq_some_iff.1 hx
    have := List.pairwise_iff_getElem.1 hs a h i1 i2 (by omega)
    rw [e1, e2] at this
    exact less_trans _ _ _ this hl
theorem down_to {rs : List Rw} (hs : rs.Pairwise ltR) {h : Nat} {x : Rw} {k : Bs} (hx : rs[h]? = some x) (hl : lt (key x) k = false) : ∀ a y, h ≤ a → rs[a]? = some y → lt (key y) k = false := fun a y ha hy => by
  by_cases e : a = h
  · subst e; rw [hx] at hy; cases hy; exact hl
  · obtain ⟨i1, e1⟩ := List.getElem?_eq_some_iff.1 hy
    obtain ⟨i2, e2⟩ := List.getElem?_eq_some_iff.1 hx
    have := List.pairwise_iff_getElem.1 hs h a i2 i1 (by omega)
    rw [e1, e2] at this
    cases hc : lt (key y) k with
    | false => rfl
    | true => have := less_trans _ _ _ this hc; unfold lt at hl; rw [this] at hl; cases hl
theorem getT_at {rs : List Rw} (hs : rs.Pairwise ltR) {d : List Ent} {i : Nat} (h1 : ∀ a y, a < i → rs[a]? = some y → lt (key y) (keyD d) = true) (h2 : ∀ a y, i ≤ a → rs[a]? = some y → lt (key y) (keyD d) = false) :
    (∀ x, rs[i]? = some x → key x = keyD d → getT d rs = x.n) ∧ ((∀ x, rs[i]? = some x → key x ≠ keyD d) → getT d rs = 0) := by
  refine ⟨fun x hx hk => getT_of hs (List.mem_of_getElem? hx) hk.symm, fun hn => ?_⟩
  by_cases h0 : getT d rs = 0
  · exact h0
  · exfalso
    obtain ⟨r, hr, hk, -⟩ := getT_mem h0
    obtain ⟨j, hj⟩ := List.getElem?_of_mem hr
    rcases Nat.lt_trichotomy j i with h | h | h
    · have := h1 j r h hj
      rw [hk] at this; unfold lt at this; rw [less_irrefl] at this; cases this
    · subst h; exact hn r hj hk
    · obtain ⟨j1, e1⟩ := List.getElem?_eq_some_iff.1 hj
      have hx : rs[i]? = some rs[i] := List.getElem?_eq_getElem (by omega)
      have := List.pairwise_iff_getElem.1 hs i j (by omega) j1 h
      rw [e1] at this
      have h3 := h2 i _ (Nat.le_refl _) hx
      unfold ltR at this
      rw [hk] at this
      rw [this] at h3; cases h3

set_option maxHeartbeats 4000000 in
set_option maxRecDepth 100000 in
theorem bsf_any (rs : List Rw) (k : Bs) (S : Nat → Prop) (w : World) (v : Value) (hl : rs.length ≤ 100000) (hz : ∀ r ∈ rs, Fit r) (hs : rs.Pairwise ltR) (h : Rs S w v rs) :
    Calls Tryz.prog 89 #[v, .string (txt k), .func (.func 90) #[] #[]] w fun e w' =>
      ∃ (i : Nat) (q : Bool), e = .returned (.tuple #[.int .i64 i, .bool q]) ∧ i ≤ rs.length ∧ (q = true → ∃ x, rs[i]? = some x ∧ key x = k) ∧ (q = false → ∀ x, rs[i]? = some x → key x ≠ k) ∧
        (∀ a y, a < i → rs[a]? = some y → lt (key y) k = true) ∧ (∀ a y, i ≤ a → rs[a]? = some y → lt (key y) k = false) ∧ w.grownBy w' none := by
  have HS := Lib.hid h
  have HZ := Lib.hid hz
  have HP := Lib.hid hs
  obtain ⟨a, cap, rfl⟩ := h.shape
  clear h hz hs
  go_enter Tryz.func89, Tryz.ntmps89
  go_wp2_with fail
  go_loopw [9, 10] (fun vi vj wr => ∃ i j : Nat, i ≤ j ∧ j ≤ rs.length ∧ vi = .int .i64 i ∧ vj = .int .i64 j ∧ (∀ a y, a < i → rs[a]? = some y → lt (key y) k = true) ∧ (∀ a y, j ≤ a → rs[a]? = some y → lt (key y) k = false) ∧ w.grownBy wr none) (fun vi vj _ => (intOf vj - intOf vi).toNat)
  case atStart => exact ⟨0, rs.length, Nat.zero_le _, Nat.le_refl _, rfl, rfl, fun a y h _ => by omega, fun a y h hy => by have := (List.getElem?_eq_some_iff.1 hy).1; omega, only_refl _ _⟩
  case round =>
    obtain ⟨i, j, hij, hj, rfl, rfl, h1, h2, hg⟩ := hrel
    have H1 := Lib.hid h1
    have H2 := Lib.hid h2
    have HG := Lib.hid hg
    clear h1 h2 hg
    by_cases hlt : i < j
    · obtain ⟨m, hm⟩ : ∃ m, m = (i + j) / 2 := ⟨_, rfl⟩
      have hmi : i ≤ m := by omega
      have hmj : m < j := by omega
      obtain ⟨x, hx⟩ : ∃ x, rs[m]? = some x := ⟨rs[m], List.getElem?_eq_getElem (by omega)⟩
      obtain ⟨b, off, cx, uu, hv, -, hle, hcm, c0, he, c1⟩ := (HS.out.grown HG.out).at hx
      simp only [Value.slice.injEq, true_and] at hv
      obtain ⟨rfl, rfl⟩ := hv
      unfold maxLen at hcm
      have HCC := Lib.hid (get1_any x k S wr uu (HZ.out x (List.mem_of_getElem? hx)) he)
      have HU := Lib.hid (fun h => up_to HP.out hx (k := k) h)
      have HDN := Lib.hid (fun h => down_to HP.out hx (k := k) h)
      have HLT := Lib.hid (cmp_neg (key x) k)
      obtain ⟨xa, xc, rfl⟩ := he.shape
      clear he hx
      generalize cmpB (txt (key x)) (txt k) = c at *
      have HMI := Lib.hid hmi
      have HMJ := Lib.hid hmj
      have HM := Lib.hid hm
      subst hm
      clear hmi hmj
      by_cases hc : c < 0
      · have HA := Lib.hid (HU.out (HLT.out.1 hc))
        go_wp2_with fail
        refine HCC.out.mono ?_
        rintro e w1 ⟨rfl, g1⟩
        have G1 := Lib.hid (only_trans HG.out g1)
        clear g1
        go_wp2_with fail
        go_roundw
        case rel => exact ⟨(i + j) / 2 + 1, j, by have := HMJ.out; omega, hj, by go_num, rfl, HA.out, H2.out, G1.out⟩
        case measure => simp [intOf]; omega
      · have hlf : lt (key x) k = false := by
          cases hq : lt (key x) k with
          | false => rfl
          | true => exact absurd (HLT.out.2 hq) hc
        have HA := Lib.hid (HDN.out hlf)
        clear hlf
        go_wp2_with fail
        refine HCC.out.mono ?_
        rintro e w1 ⟨rfl, g1⟩
        have G1 := Lib.hid (only_trans HG.out g1)
        clear g1
        go_wp2_with fail
        go_roundw
        case rel => exact ⟨i, (i + j) / 2, by have := HMI.out; omega, by have := HMJ.out; omega, rfl, by go_num, H1.out, HA.out, G1.out⟩
        case measure => simp [intOf]; omega
    · obtain rfl : i = j := by omega
      by_cases hin : i < rs.length
      · obtain ⟨x, hx⟩ : ∃ x, rs[i]? = some x := ⟨rs[i], List.getElem?_eq_getElem hin⟩
        obtain ⟨b, off, cx, uu, hv, -, hle, hcm, c0, he, c1⟩ := (HS.out.grown HG.out).at hx
        simp only [Value.slice.injEq, true_and] at hv
        obtain ⟨rfl, rfl⟩ := hv
        unfold maxLen at hcm
        have HCC := Lib.hid (get1_any x k S wr uu (HZ.out x (List.mem_of_getElem? hx)) he)
        have HZK := Lib.hid (cmp_zero (key x) k)
        have HX := Lib.hid hx
        obtain ⟨xa, xc, rfl⟩ := he.shape
        clear he hx
        generalize cmpB (txt (key x)) (txt k) = c at *
        by_cases hc : c = 0
        · have HKK := Lib.hid (HZK.out.1 hc)
          subst hc
          go_wp2_with fail
          refine HCC.out.mono ?_
          rintro e w1 ⟨rfl, g1⟩
          have G1 := Lib.hid (only_trans HG.out g1)
          clear g1
          go_wp2_with fail
          go_ret2
          exact ⟨i, true, rfl, hj, fun _ => ⟨x, HX.out, HKK.out⟩, fun e => by simp at e, H1.out, H2.out, G1.out⟩
        · have HKK : Hid (key x ≠ k) := fun e => hc (HZK.out.2 e)
          have hcb : (c == 0) = false := by simpa using hc
          go_wp2_with fail
          refine HCC.out.mono ?_
          rintro e w1 ⟨rfl, g1⟩
          have G1 := Lib.hid (only_trans HG.out g1)
          clear g1
          go_wp2_with fail
          go_ret2
          exact ⟨i, false, rfl, hj, fun e => by simp at e, fun _ y hy => by rw [HX.out] at hy; cases hy; exact HKK.out, H1.out, H2.out, G1.out⟩
      · have HNO : Hid (rs[i]? = none) := List.getElem?_eq_none (by omega)
        go_wp2_with fail
        go_ret2
        exact ⟨i, false, rfl, hj, fun e => by simp at e, fun _ y hy => (by rw [HNO.out] at hy; cases hy), H1.out, H2.out, HG.out⟩

set_option maxHeartbeats 2000000 in
set_option maxRecDepth 100000 in
theorem get_any (rs : List Rw) (d : List Ent) (S : Nat → Prop) (B : Nat) (w : World) (v u : Value) (hl : rs.length ≤ 100000) (hz : ∀ r ∈ rs, Fit r) (hs : rs.Pairwise ltR) (hd : d.length ≤ 1000 ∧ (∀ x ∈ d, x.key.size ≤ 1000 ∧ x.value.size ≤ 1000) ∧ (keyD d).length ≤ 1000000) (h : Rs S w v rs) (he : Es B w u d) :
    Calls Tryz.prog 64 #[v, u] w fun e w' => e = .returned (.int .u64 (getT d rs : Nat)) ∧ w.grownBy w' none := by
  have HK := Lib.hid (key_any d B w u hd.1 hd.2.1 hd.2.2 he)
  have HB := Lib.hid (fun w2 (g : w.grownBy w2 none) => bsf_any rs (keyD d) S w2 v hl hz hs (h.grown g))
  have HS := Lib.hid h
  have HGT := Lib.hid (fun i => getT_at hs (d := d) (i := i))
  obtain ⟨a, cap, rfl⟩ := h.shape
  obtain ⟨ua, uc, rfl⟩ := he.shape
  clear h he hz hs hd
  go_enter Tryz.func64, Tryz.ntmps64
  go_wp2_with fail
  refine HK.out.mono ?_
  rintro e w1 ⟨rfl, g1⟩
  have G1 := Lib.hid g1
  clear g1
  go_wp2_with fail
  refine (HB.out _ G1.out).mono ?_
  rintro e w2 ⟨i, q, rfl, hi, hq1, hq2, hb1, hb2, g2⟩
  have G2 := Lib.hid (only_trans G1.out g2)
  obtain ⟨k1, k2⟩ := HGT.out i hb1 hb2
  clear g2 hb1 hb2
  cases q with
  | true =>
    obtain ⟨x, hx, hkx⟩ := hq1 rfl
    have HR := Lib.hid (k1 x hx hkx)
    obtain ⟨b, off, cx, uu, hv, -, hle, hcm, c0, he, c1⟩ := (HS.out.grown G2.out).at hx
    simp only [Value.slice.injEq, true_and] at hv
    obtain ⟨rfl, rfl⟩ := hv
    unfold maxLen at hcm
    have hil : i < rs.length := (List.getElem?_eq_some_iff.1 hx).1
    clear hq1 hq2 k1 k2 hx hkx he
    go_wp2_with fail
    try (go_quiet (fail))
    try (go_wp2_with fail)
    go_ret
    rw [HR.out]
    exact ⟨rfl, by first | exact G2.out | exact only_drewN G2.out _⟩
  | false =>
    have HR := Lib.hid (k2 (hq2 rfl))
    clear hq1 hq2 k1 k2
    go_wp2_with fail
    go_ret
    rw [HR.out]
    exact ⟨rfl, G2.out⟩

end Go.Proofs.YtbebdaglkjhbjaaGreatDoor.ti
