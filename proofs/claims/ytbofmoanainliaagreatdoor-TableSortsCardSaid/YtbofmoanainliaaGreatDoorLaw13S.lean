/-
  The statement TableSorts.
-/
import Derived.Test.YtbofmoanainliaaGreatDoorLaw13O
namespace Go.Proofs.YtbofmoanainliaaGreatDoor.law13
open Go.RowKit Go.Proofs.YtbofmoanainliaaGreatDoor.vi Go.Proofs.YtbofmoanainliaaGreatDoor.um Go.Proofs.YtbofmoanainliaaGreatDoor.wm Go.Proofs.YtbofmoanainliaaGreatDoor.tr Go.Proofs.YtbofmoanainliaaGreatDoor.em Go.Proofs.YtbofmoanainliaaGreatDoor.rm Go.Proofs.YtbofmoanainliaaGreatDoor.law11 Go.Proofs.YtbofmoanainliaaGreatDoor.dd Go.Proofs.YtbofmoanainliaaGreatDoor.dr Go.Proofs.YtbofmoanainliaaGreatDoor.tm Go.Proofs.YtbofmoanainliaaGreatDoor.tf Go.Proofs.YtbofmoanainliaaGreatDoor.ti
set_option linter.unusedVariables false
set_option linter.unusedSimpArgs false

theorem rs_plain {S : Nat → Prop} {w : World} {a : Option Addr} {cap : Nat} {rs : List Rw} (h : Rs S w (.slice a rs.length cap) rs) (h0 : 0 < rs.length) : Plain a ∧ rs.length ≤ cap ∧ cap ≤ maxLen := by
  obtain ⟨a', cap', e, h5⟩ := h
  simp only [Value.slice.injEq, true_and] at e
  obtain ⟨rfl, rfl⟩ := e
  rcases h5 with h5 | ⟨b, off, h1, -, h3, h4, -⟩
  · rw [h5] at h0; simp at h0
  · exact ⟨.inr ⟨b, off, h1⟩, h3, h4⟩

set_option maxHeartbeats 2000000 in
set_option maxRecDepth 100000 in
theorem sorts_any (W : World) (hT : tb.Tab W) (xs : List Rw) (SA : Nat → Prop) (va : Value) (t : Nat) (ht : t ≤ 65535) (hl : xs.length ≤ 140737488351232) (hz : ∀ r ∈ xs, Bul r) (h : Rs SA W va xs) :
    Calls Tryz.prog 5 #[va, .int .u16 (t : Nat)] W fun e W' => e = .returned (.bool true) ∧ W.grownBy W' none := by
  have HA := Lib.hid (awake_any W hT)
  have HFA := Lib.hid (fun w (g : W.grownBy w none) => few_any xs SA w va hl (fun r hr => ⟨(hz r hr).1, (hz r hr).2.1⟩) (h.grown g))
  have HZ := Lib.hid hz
  have HTB := Lib.hid (fun w (g : W.grownBy w none) => tb.kept hT g)
  have HS := Lib.hid h.low
  obtain ⟨aa, ca, rfl⟩ := h.shape
  clear h hz hT
  cases hfa : fewT xs with
  | false =>
    rw [hfa] at HFA
    go_enter Tryz.func5, Tryz.ntmps5
    go_wp2_with fail
    refine HA.out.mono ?_
    rintro e w0 ⟨rfl, g0⟩
    have G0 := Lib.hid g0
    clear g0
    go_wp2_with fail
    refine (HFA.out _ G0.out).mono ?_
    rintro e w1 ⟨rfl, g1⟩
    have G1 := Lib.hid (only_trans G0.out g1)
    clear g1
    go_wp2_with fail
    go_ret
    exact ⟨rfl, G1.out⟩
  | true =>
    rw [hfa] at HFA
    have HROK := Lib.hid (few_rok hfa HZ.out)
    have HFIT := Lib.hid (few_fit hfa HZ.out)
    have hxl := (few_facts hfa).1
    clear hfa hl
    by_cases hx0 : xs.length = 0
    · rw [hx0] at HFA ⊢
      go_enter Tryz.func5, Tryz.ntmps5
      go_wp2_with fail
      refine HA.out.mono ?_
      rintro e w0 ⟨rfl, g0⟩
      have G0 := Lib.hid g0
      clear g0
      go_wp2_with fail
      refine (HFA.out _ G0.out).mono ?_
      rintro e w1 ⟨rfl, g1⟩
      have G1 := Lib.hid (only_trans G0.out g1)
      clear g1
      go_wp2_with fail
      go_ret
      exact ⟨rfl, G1.out⟩
    · obtain ⟨hpl, hlc, hcm⟩ := rs_plain HS.out (by omega)
      unfold maxLen at hcm
      obtain ⟨k, hk, hkl⟩ : ∃ k : Nat, (t : Int) % (xs.length : Int) = (k : Int) ∧ k < xs.length := ⟨t % xs.length, by simp, Nat.mod_lt _ (by omega)⟩
      have HQ1 := Lib.hid (run_head (P := Tryz.prog) 22 43 Tryz.underlying22 sizeOfR (n := xs.length) (cap := ca) hpl k (by omega))
      obtain ⟨q2, hq2, hq3⟩ := run_tail (P := Tryz.prog) 22 43 Tryz.underlying22 sizeOfR (n := xs.length) (cap := ca) hpl k (by omega) (by omega)
      have HQ3 := Lib.hid hq3
      have HPM : Hid ((xs.drop k ++ xs.take k).Perm xs) := by
        have : (xs.take k ++ xs.drop k).Perm (xs.drop k ++ xs.take k) := List.perm_append_comm
        rw [List.take_append_drop] at this
        exact this.symm
      have HOX := Lib.hid (fun w (g : W.grownBy w none) => of_any xs _ w _ (by unfold maxLen; omega) HROK.out (HTB.out w g) (HS.out.grown g))
      have HOY := Lib.hid (fun w S v (g : W.grownBy w none) h => of_any (xs.drop k ++ xs.take k) S w v (by rw [HPM.out.length_eq]; unfold maxLen; omega) (fun r hr => HROK.out r (HPM.out.mem_iff.1 hr)) (HTB.out w g) h)
      have HXD := Lib.hid (fun w' (g : W.grownBy w' none) => (HS.out.grown g).drop k (by omega) q2 HQ3.out)
      have HXT := Lib.hid (fun w' (g : W.grownBy w' none) => (HS.out.grown g).take k (by omega))
      have hki : (k : Int) < (xs.length : Int) := by omega
      have hpi : (0 : Int) < (xs.length : Int) := by omega
      clear hq3
      by_cases hp : (ofT xs).2 = 0
      · obtain ⟨gX, pX⟩ := ofT_ok hp
        have hY : ofT (xs.drop k ++ xs.take k) = ((ofT xs).1, 0) := ofT_perm HPM.out.symm hp
        have HOY : Hid (∀ w S v, W.grownBy w none → Rs S w v ([] ++ xs.drop k ++ xs.take k) → Calls Tryz.prog 11 #[v] w fun e w' => ∃ v', e = .returned (.tuple #[v', .int .i64 (0 : Nat)]) ∧ Rs (fun k => k < w'.heap.size) w' v' (ofT xs).1 ∧ w.grownBy w' none) := fun w S v g h => by
          have := HOY.out w S v g (by rw [List.nil_append] at h; exact h)
          rw [hY] at this
          exact this
        have hXf := of_fit HFIT.out
        have hXl := of_len xs
        generalize ofT xs = PX at *
        obtain ⟨X, q⟩ := PX
        simp only at hp
        subst hp
        simp only at HOX HOY gX pX hXf hXl
        have HSX := Lib.hid gX.2.2
        have HCX := Lib.hid ((checkT_ok X).2 gX)
        have HXF := Lib.hid hXf
        have HPX := Lib.hid pX
        have HXL := Lib.hid pX.length_eq
        clear gX pX hY hXf HQ3 HROK HZ
        go_enter Tryz.func5, Tryz.ntmps5
        go_wp2_with fail
        refine HA.out.mono ?_
        rintro e w0 ⟨rfl, g0⟩
        have G0 := Lib.hid g0
        clear g0
        go_wp2_with fail
        refine (HFA.out _ G0.out).mono ?_
        rintro e w1 ⟨rfl, g1⟩
        have G1 := Lib.hid (only_trans G0.out g1)
        clear g1
        go_wp2_with fail
        refine (HOX.out _ G1.out).mono ?_
        rintro e w2 ⟨v2, rfl, r2, g2⟩
        have G2 := Lib.hid (only_trans G1.out g2)
        have R2 := Lib.hid r2
        obtain ⟨a2, c2, rfl⟩ := r2.shape
        have hsz2 : W.heap.size ≤ w2.heap.size := G2.out.size
        have HOM : Hid (OwnR 43 w2.heap.size (fun k => k < W.heap.size) ((w2.alloc (.cells #[] 43)).drew) (.slice (some ⟨w2.heap.size, 0, none⟩) 0 0) []) := (OwnR.none_of (World.ownsRow_lit w2 #[] 0 (Nat.le_refl _) (Nat.zero_le _) rfl) (fun j hj => by have hj : j < W.heap.size := hj; simp; omega) (fun j e hj => by have e1 : w2.heap.size = j := Option.some.inj e; have hj : j < W.heap.size := hj; omega)).grown (only_drew (only_refl _ none))
        have HGL := Lib.hid (only_drew (only_alloc G2.out (.cells #[] 43)))
        have HDL := Lib.hid (only_drew (only_alloc (only_refl w2 none) (.cells #[] 43)))
        have hszl : ((w2.alloc (.cells #[] 43)).drew).heap.size = w2.heap.size + 1 := by simp
        have hq1 := HQ1.out
        clear r2 g2
        go_wp2_with fail
        rw [hk]
        go_region_held3 (fun w' => True) (trivial)
          (first
            | (refine step_append_rs (by rfl) _ _ 22 43 (by rfl) _ Tryz.underlying22 Tryz.infoTR rfl w2.heap.size _ _ _ [] (xs.drop k) (by rfl) HOM.out _ (by rfl) (HXD.out _ HGL.out) (fun j hj => by have hj : j < W.heap.size := hj; omega) (fun j e hj => by have e1 : w2.heap.size = j := Option.some.inj e; have hj : j < W.heap.size := hj; omega) (by simp; omega) (by omega) ?_; intro v6 w6 ho6 hg6; have HO6 := Lib.hid ho6; have HB6 := Lib.hid ho6.lt; have HG6 := Lib.hid (only_row HGL.out hg6 (fun j e => by have e1 : w2.heap.size = j := Option.some.inj e; omega)); have HD6 := Lib.hid (only_row HDL.out hg6 (fun j e => by have e1 : w2.heap.size = j := Option.some.inj e; omega)); have hsz6 : w2.heap.size ≤ w6.heap.size := HD6.out.size; clear ho6 hg6)
            | (refine step_append_rs (by rfl) _ _ 22 43 (by rfl) _ Tryz.underlying22 Tryz.infoTR rfl w2.heap.size _ _ _ ([] ++ xs.drop k) (xs.take k) (by rfl) HO6.out _ (by rfl) (HXT.out _ HG6.out) (fun j hj => by have hj : j < W.heap.size := hj; omega) (fun j e hj => by have := (HB6.out j e).1; have hj : j < W.heap.size := hj; omega) (by simp; omega) hsz6 ?_; intro v7 w7 ho7 hg7; have HO7 := Lib.hid ho7; have HG7 := Lib.hid (only_row HG6.out hg7 (fun j e => by have := (HB6.out j e).1; omega)); have HD7 := Lib.hid (only_row HD6.out hg7 (fun j e => (HB6.out j e).1)); clear ho7 hg7)
            | (go_at_call 11; refine (HOY.out _ _ _ HG7.out HO7.out.rd).mono ?_; rintro e w8 ⟨v8, rfl, r8, g8⟩; have R8 := Lib.hid r8; have G8 := Lib.hid (only_trans HG7.out g8); have D8 := Lib.hid (only_trans HD7.out g8); obtain ⟨a8, c8, rfl⟩ := r8.shape; clear r8 g8))
        go_wp2_with fail
        go_loopw [61] (fun q wr => ∃ i : Nat, i ≤ xs.length ∧ q = .int .i64 i ∧ w8.grownBy wr none) (fun q _ => xs.length - (intOf q).toNat)
        case atStart => exact ⟨0, Nat.zero_le _, rfl, only_refl _ _⟩
        case round =>
          obtain ⟨i, hi, rfl, hg⟩ := hrel
          have HG := Lib.hid hg
          clear hg
          by_cases hlt : i < xs.length
          · obtain ⟨x, hx⟩ : ∃ x, xs[i]? = some x := ⟨xs[i], List.getElem?_eq_getElem hlt⟩
            obtain ⟨b, off, cx, uu, hv, -, hle, hcm2, c0, he, c1⟩ := (HS.out.grown (only_trans G8.out HG.out)).at hx
            simp only [Value.slice.injEq, true_and] at hv
            obtain ⟨rfl, rfl⟩ := hv
            obtain ⟨xa, xc, rfl⟩ := he.shape
            have hgx : getT x.d X = x.n := getT_of HSX.out (HPX.out.mem_iff.2 (List.mem_of_getElem? hx)) rfl
            have hfx := HFIT.out x (List.mem_of_getElem? hx)
            have GA := Lib.hid (only_alloc (only_refl wr none) (.cells #[.slice xa x.d.length xc, .int .u64 (x.n : Nat)] 43))
            have d0 : (wr.alloc (.cells #[.slice xa x.d.length xc, .int .u64 (x.n : Nat)] 43)).cell? ⟨wr.heap.size, 0, none⟩ = some (.slice xa x.d.length xc) := by rw [cell_new]; rfl
            have d1 : (wr.alloc (.cells #[.slice xa x.d.length xc, .int .u64 (x.n : Nat)] 43)).cell? ⟨wr.heap.size, 1, none⟩ = some (.int .u64 (x.n : Nat)) := by rw [cell_new]; rfl
            have HEA := Lib.hid (he.grown GA.out)
            have HGA := Lib.hid (only_trans HG.out GA.out)
            have D0 := Lib.hid d0
            have D1 := Lib.hid d1
            clear d0 d1 he hx
            go_wp2_with fail
            generalize wr.alloc (.cells #[.slice xa x.d.length xc, .int .u64 (x.n : Nat)] 43) = wa at *
            have HK := Lib.hid (fun g : GW wa none => get_any X x.d _ _ g.world _ _ (by omega) HXF.out HSX.out ⟨hfx.1, hfx.2.1, hfx.2.2.1⟩ (R2.out.grown (only_trans D8.out (only_trans HGA.out g.ok))) ((HEA.out.grown g.ok).es))
            rw [hgx] at HK
            have e0 : ∀ g : GW wa none, g.world.cell? ⟨wr.heap.size, 0, none⟩ = some (.slice xa x.d.length xc) := fun g => (Chg.of_none (S := fun _ => False) g.ok).cell D0.out (fun e => e)
            have e1 : ∀ g : GW wa none, g.world.cell? ⟨wr.heap.size, 1, none⟩ = some (.int .u64 (x.n : Nat)) := fun g => (Chg.of_none (S := fun _ => False) g.ok).cell D1.out (fun e => e)
            generalize hnn : x.n = nn at *
            have hne : ((nn : Int) != (nn : Int)) = false := by simp
            clear hgx hfx hnn
            refine wp_region_gw wa none (by kernel_rfl) (by kernel_rfl) (only_refl _ _) ?_
            repeat (go_big_quiet_step ((go_at_call 19; exact calls_gw (HK.out _))))
            refine wpQuiet_nil ?_
            rintro wb ⟨⟨_, hwb⟩, rfl⟩
            have HW := Lib.hid (only_trans HGA.out hwb)
            clear hwb e0 e1
            go_wp2_with fail
            go_roundw
            case rel => exact ⟨i + 1, by omega, by go_num, HW.out⟩
            case measure => simp [intOf]; omega
          · have hie : i = xs.length := by omega
            subst hie
            have HSM := Lib.hid (same_any X X _ _ wr _ _ (by omega) (fun r hr => by have := (HXF.out r hr).1; omega) (R2.out.grown (only_trans D8.out HG.out)) (R8.out.grown HG.out))
            rw [decide_eq_true rfl] at HSM
            have HCK := Lib.hid (fun w (g : wr.grownBy w none) => tcheck_any X _ w _ (by unfold maxLen; omega) (fun r hr => by obtain ⟨f1, f2, -, f4⟩ := HXF.out r hr; exact ⟨by omega, fun x hx => by have := f2 x hx; unfold maxLen; omega, f4⟩) (HTB.out _ (only_trans G8.out (only_trans HG.out g))) (R2.out.grown (only_trans D8.out (only_trans HG.out g))))
            rw [HCX.out] at HCK
            have hll : ((X.length : Int) == (xs.length : Int)) = true := by rw [HXL.out]; simp
            go_wp2_with fail
            refine HSM.out.mono ?_
            rintro e u1 ⟨rfl, d1⟩
            have U1 := Lib.hid d1
            clear d1
            go_wp2_with fail
            refine (HCK.out _ U1.out).mono ?_
            rintro e u2 ⟨rfl, d2⟩
            have U2 := Lib.hid (only_trans U1.out d2)
            clear d2
            go_wp2_with fail
            go_ret
            exact ⟨rfl, only_trans G8.out (only_trans HG.out U2.out)⟩
      · have hq : (ofT (xs.drop k ++ xs.take k)).2 ≠ 0 := fun e => by
          have := ofT_perm HPM.out e
          rw [this] at hp
          exact hp rfl
        have hX0 := ofT_err hp
        have hY0 := ofT_err hq
        have tX := ofT_lt xs
        have tY := ofT_lt (xs.drop k ++ xs.take k)
        generalize hgY : ofT (xs.drop k ++ xs.take k) = PY at *
        have HOY : Hid (∀ w S v, W.grownBy w none → Rs S w v ([] ++ xs.drop k ++ xs.take k) → Calls Tryz.prog 11 #[v] w fun e w' => ∃ v', e = .returned (.tuple #[v', .int .i64 (PY.2 : Nat)]) ∧ Rs (fun k => k < w'.heap.size) w' v' PY.1 ∧ w.grownBy w' none) := fun w S v g h => HOY.out w S v g (by rw [List.nil_append] at h; exact h)
        generalize ofT xs = PX at *
        obtain ⟨X, p⟩ := PX
        obtain ⟨Y, q⟩ := PY
        simp only at hp hq hX0 hY0 tX tY HOX HOY
        subst hX0 hY0
        have hpb : ((p : Int) != 0) = true := by rw [bne_iff_ne]; omega
        have hqb : ((q : Int) != 0) = true := by rw [bne_iff_ne]; omega
        clear hgY HQ3 HROK HZ HFIT
        go_enter Tryz.func5, Tryz.ntmps5
        go_wp2_with fail
        refine HA.out.mono ?_
        rintro e w0 ⟨rfl, g0⟩
        have G0 := Lib.hid g0
        clear g0
        go_wp2_with fail
        refine (HFA.out _ G0.out).mono ?_
        rintro e w1 ⟨rfl, g1⟩
        have G1 := Lib.hid (only_trans G0.out g1)
        clear g1
        go_wp2_with fail
        refine (HOX.out _ G1.out).mono ?_
        rintro e w2 ⟨v2, rfl, r2, g2⟩
        have G2 := Lib.hid (only_trans G1.out g2)
        have R2 := Lib.hid r2
        obtain ⟨a2, c2, rfl⟩ := r2.shape
        have hsz2 : W.heap.size ≤ w2.heap.size := G2.out.size
        have HOM : Hid (OwnR 43 w2.heap.size (fun k => k < W.heap.size) ((w2.alloc (.cells #[] 43)).drew) (.slice (some ⟨w2.heap.size, 0, none⟩) 0 0) []) := (OwnR.none_of (World.ownsRow_lit w2 #[] 0 (Nat.le_refl _) (Nat.zero_le _) rfl) (fun j hj => by have hj : j < W.heap.size := hj; simp; omega) (fun j e hj => by have e1 : w2.heap.size = j := Option.some.inj e; have hj : j < W.heap.size := hj; omega)).grown (only_drew (only_refl _ none))
        have HGL := Lib.hid (only_drew (only_alloc G2.out (.cells #[] 43)))
        have HDL := Lib.hid (only_drew (only_alloc (only_refl w2 none) (.cells #[] 43)))
        have hszl : ((w2.alloc (.cells #[] 43)).drew).heap.size = w2.heap.size + 1 := by simp
        have hq1 := HQ1.out
        clear r2 g2
        go_wp2_with fail
        rw [hk]
        go_region_held3 (fun w' => True) (trivial)
          (first
            | (refine step_append_rs (by rfl) _ _ 22 43 (by rfl) _ Tryz.underlying22 Tryz.infoTR rfl w2.heap.size _ _ _ [] (xs.drop k) (by rfl) HOM.out _ (by rfl) (HXD.out _ HGL.out) (fun j hj => by have hj : j < W.heap.size := hj; omega) (fun j e hj => by have e1 : w2.heap.size = j := Option.some.inj e; have hj : j < W.heap.size := hj; omega) (by simp; omega) (by omega) ?_; intro v6 w6 ho6 hg6; have HO6 := Lib.hid ho6; have HB6 := Lib.hid ho6.lt; have HG6 := Lib.hid (only_row HGL.out hg6 (fun j e => by have e1 : w2.heap.size = j := Option.some.inj e; omega)); have HD6 := Lib.hid (only_row HDL.out hg6 (fun j e => by have e1 : w2.heap.size = j := Option.some.inj e; omega)); have hsz6 : w2.heap.size ≤ w6.heap.size := HD6.out.size; clear ho6 hg6)
            | (refine step_append_rs (by rfl) _ _ 22 43 (by rfl) _ Tryz.underlying22 Tryz.infoTR rfl w2.heap.size _ _ _ ([] ++ xs.drop k) (xs.take k) (by rfl) HO6.out _ (by rfl) (HXT.out _ HG6.out) (fun j hj => by have hj : j < W.heap.size := hj; omega) (fun j e hj => by have := (HB6.out j e).1; have hj : j < W.heap.size := hj; omega) (by simp; omega) hsz6 ?_; intro v7 w7 ho7 hg7; have HO7 := Lib.hid ho7; have HG7 := Lib.hid (only_row HG6.out hg7 (fun j e => by have := (HB6.out j e).1; omega)); have HD7 := Lib.hid (only_row HD6.out hg7 (fun j e => (HB6.out j e).1)); clear ho7 hg7)
            | (go_at_call 11; refine (HOY.out _ _ _ HG7.out HO7.out.rd).mono ?_; rintro e w8 ⟨v8, rfl, r8, g8⟩; have R8 := Lib.hid r8; have G8 := Lib.hid (only_trans HG7.out g8); have D8 := Lib.hid (only_trans HD7.out g8); obtain ⟨a8, c8, rfl⟩ := r8.shape; clear r8 g8))
        go_wp2_with fail
        go_ret
        exact ⟨rfl, G8.out⟩

end Go.Proofs.YtbofmoanainliaaGreatDoor.law13
