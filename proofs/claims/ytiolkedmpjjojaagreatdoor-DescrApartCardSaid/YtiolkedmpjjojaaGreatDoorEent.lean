/-
  The developers' entries: Check, Put, Cmp, Next; package entry keeps its contracts.
-/
import Derived.Test.YtiolkedmpjjojaaGreatDoorLaw11
import Derived.Test.YtiolkedmpjjojaaGreatDoorShelf
import Derived.Test.YtiolkedmpjjojaaGreatDoorBundU
import Derived.Sort.Grow
import Derived.Deep.RegionHeld3
namespace Go.Proofs.YtiolkedmpjjojaaGreatDoor.ee
open Go.RowKit Go.Proofs.YtiolkedmpjjojaaGreatDoor.vi Go.Proofs.YtiolkedmpjjojaaGreatDoor.um Go.Proofs.YtiolkedmpjjojaaGreatDoor.wm Go.Proofs.YtiolkedmpjjojaaGreatDoor.tr Go.Proofs.YtiolkedmpjjojaaGreatDoor.em Go.Proofs.YtiolkedmpjjojaaGreatDoor.cur Go.Proofs.YtiolkedmpjjojaaGreatDoor.law11
set_option linter.unusedVariables false
set_option linter.unusedSimpArgs false

set_option maxRecDepth 100000 in
theorem check_any (x : Ent) (w : World) (h1 : x.key.size ≤ maxLen) (h2 : x.value.size ≤ maxLen) (hT : tb.Tab w) :
    Calls Tryz.prog 13 #[.agg #[.string x.key, .string x.value]] w fun e w' => e = .returned (.int .i64 (checkE x : Nat)) ∧ w.grownBy w' none := by
  have HK := Lib.hid (fun w1 (g : w.grownBy w1 none) => uu.check_any x.key 1 64 w1 h1 (tb.kept hT g))
  have HV := Lib.hid (fun w1 (g : w.grownBy w1 none) => uu.check_any x.value 0 256 w1 h2 (tb.kept hT g))
  have V0 := Lib.hid (EntV.new w 23 x)
  have G0 := Lib.hid (only_alloc (only_refl w none) (.cells #[.string x.key, .string x.value] 23))
  unfold checkE
  by_cases hc : checkN x.key 1 64 = 0
  · rw [if_neg (by simp [hc])]
    rw [hc] at HK
    clear hc hT h1 h2
    go_enter Tryz.func13, Tryz.ntmps13
    go_wp2_with fail
    refine (HK.out _ G0.out).mono ?_
    rintro e w1 ⟨rfl, g1⟩
    have V1 := Lib.hid (V0.out.grown g1)
    have G1 := Lib.hid (only_trans G0.out g1)
    obtain ⟨c0, c1⟩ := V1.out
    clear g1
    go_wp2_with fail
    refine (HV.out _ G1.out).mono ?_
    rintro e w2 ⟨rfl, g2⟩
    have G2 := Lib.hid (only_trans G1.out g2)
    clear g2
    go_wp2_with fail
    go_ret
    exact ⟨rfl, G2.out⟩
  · rw [if_pos hc]
    generalize checkN x.key 1 64 = q at *
    have hqb : ((q : Int) != 0) = true := by rw [bne_iff_ne]; omega
    clear hc hT h1 h2
    go_enter Tryz.func13, Tryz.ntmps13
    go_wp2_with fail
    refine (HK.out _ G0.out).mono ?_
    rintro e w1 ⟨rfl, g1⟩
    have G1 := Lib.hid (only_trans G0.out g1)
    clear g1
    go_wp2_with fail
    go_ret
    exact ⟨rfl, G1.out⟩

theorem tw_txt (s : ByteArray) : encB s.size ++ s = txt (tw s) := by
  apply ByteArray.ext
  simp [tw, txt, encB_txt]
theorem put_txt2 (x : Ent) : txt (tw x.key) ++ txt (tw x.value) = txt (putE x) := by
  apply ByteArray.ext
  simp [putE, txt]

set_option maxRecDepth 100000 in
theorem written_any (s : ByteArray) (hs : s.size ≤ 2000000) (w : World) :
    Calls Tryz.prog 44 #[.string s] w fun e w' => e = .returned (.string (txt (tw s))) ∧ w.grownBy w' none := by
  have HP := Lib.hid (fun w => put_any s.size (by omega) w)
  have HT := Lib.hid (tw_txt s)
  have hz : (encB s.size).size ≤ 10 := by rw [encB_txt, txt_size]; exact enc_len_ten (by omega)
  generalize encB s.size = E at *
  go_enter Tryz.func44, Tryz.ntmps44
  go_wp2_with fail
  refine (HP.out _).mono ?_
  rintro e w1 ⟨rfl, g1⟩
  go_wp2_with fail
  go_ret
  exact ⟨ret1 (congrArg Value.string HT.out), g1⟩

set_option maxHeartbeats 1000000 in
set_option maxRecDepth 100000 in
theorem put_any (x : Ent) (w : World) (h1 : x.key.size ≤ 1000000) (h2 : x.value.size ≤ 1000000) :
    Calls Tryz.prog 15 #[.agg #[.string x.key, .string x.value]] w fun e w' => e = .returned (.string (txt (putE x))) ∧ w.grownBy w' none := by
  have HK := Lib.hid (fun w => written_any x.key (by omega) w)
  have HV := Lib.hid (fun w => written_any x.value (by omega) w)
  have HP := Lib.hid (put_txt2 x)
  have hz : ∀ n, n ≤ 1000000 → (enc n).length ≤ 10 := fun n hn => enc_len_ten (by omega)
  have hz1 : (txt (tw x.key)).size ≤ 1000010 := by rw [txt_size, tw_len]; have := hz _ h1; omega
  have hz2 : (txt (tw x.value)).size ≤ 1000010 := by rw [txt_size, tw_len]; have := hz _ h2; omega
  have V0 := Lib.hid (EntV.new w 23 x)
  have HG := Lib.hid (only_alloc (only_refl w none) (.cells #[.string x.key, .string x.value] 23))
  clear hz
  generalize txt (tw x.key) = E1 at *
  generalize txt (tw x.value) = E2 at *
  go_enter Tryz.func15, Tryz.ntmps15
  go_wp2_with fail
  generalize w.alloc (.cells #[.string x.key, .string x.value] 23) = wa at *
  generalize w.heap.size = b at *
  have hl0 : ∀ g : GW wa none, g.world.cell? ⟨b, 0, none⟩ = some (.string x.key) := fun g => (V0.out.grown g.ok).1
  have hl1 : ∀ g : GW wa none, g.world.cell? ⟨b, 1, none⟩ = some (.string x.value) := fun g => (V0.out.grown g.ok).2
  refine wp_region_gw wa none (by kernel_rfl) (by kernel_rfl) (only_refl _ _) ?_
  repeat (go_big_quiet_step ((go_at_call 44; first | with_reducible exact calls_gw (HK.out _) | with_reducible exact calls_gw (HV.out _))))
  refine wpQuiet_nil ?_
  rintro _ ⟨⟨w', hw'⟩, rfl⟩
  go_wp2_with fail
  go_ret
  exact ⟨ret1 (congrArg Value.string HP.out), only_trans HG.out hw'⟩

theorem next_nil (w : World) : Calls Tryz.prog 40 #[.pointer none] w fun e w' => e = .returned (.tuple #[.string ⟨#[]⟩, .int .i64 25]) ∧ w = w' := by
  have HN := Lib.hid (fun w => vi.next_nil w)
  go_enter Tryz.func40, Tryz.ntmps40
  go_wp2_with fail
  refine (HN.out _).mono ?_
  rintro e w1 ⟨rfl, rfl⟩
  go_wp2_with fail
  go_ret2
  exact ⟨rfl, rfl⟩

set_option maxRecDepth 100000 in
theorem text_any (w : World) (b : Nat) (s : ByteArray) (k : Nat) (hc : Cur w b s k) :
    Calls Tryz.prog 40 #[.pointer (some ⟨b, 0, none⟩)] w fun e w' => ∃ k', e = .returned (.tuple #[.string (txt (textW (s.data.toList.drop k)).1), .int .i64 ((textW (s.data.toList.drop k)).2.2 : Nat)]) ∧ Cur w' b s k' ∧
      ((textW (s.data.toList.drop k)).2.2 = 0 → s.data.toList.drop k' = (textW (s.data.toList.drop k)).2.1) ∧ w.grownBy w' (some b) := by
  have HN := Lib.hid (vi.next_some hc)
  have hbd := getR_bounds (s.data.toList.drop k)
  have hl : (s.data.toList.drop k).length = s.size - k := by simp
  have hks := hc.le
  have hml := hc.hs
  have HT : Hid (textW (s.data.toList.drop k) = if (getR (s.data.toList.drop k)).2.2 ≠ 0 then ([], [], (getR (s.data.toList.drop k)).2.2) else if s.size - k - (getR (s.data.toList.drop k)).2.1 < (getR (s.data.toList.drop k)).1 then ([], [], 1) else ((s.data.toList.drop (k + (getR (s.data.toList.drop k)).2.1)).take (getR (s.data.toList.drop k)).1, s.data.toList.drop (k + (getR (s.data.toList.drop k)).2.1 + (getR (s.data.toList.drop k)).1), 0)) := by
    show _ = _
    unfold textW
    rw [hl, List.drop_drop, List.drop_drop, Nat.add_assoc]
  generalize textW (s.data.toList.drop k) = R at *
  generalize getR (s.data.toList.drop k) = r at *
  obtain ⟨x, m, E⟩ := r
  simp only at hbd HN HT
  rw [hl] at hbd
  obtain ⟨hx, hm, hm10, hE, hpos⟩ := hbd
  unfold maxLen at hml
  clear hl hpos hc
  by_cases h0 : E = 0
  · subst h0
    by_cases h1 : s.size - k - m < x
    · have HR : Hid (R = ([], [], 1)) := by show _ = _; rw [HT.out, if_neg (by simp), if_pos h1]
      clear HT
      have HTK := Lib.hid (fun (w : World) (h : Cur w b s (k + m)) => take_no h x (by omega) (by omega))
      go_enter Tryz.func40, Tryz.ntmps40
      go_wp2_with fail
      refine HN.out.mono ?_
      rintro e w1 ⟨rfl, c1, g1⟩
      have C1 := Lib.hid c1
      have G1 := Lib.hid g1
      clear c1 g1
      go_wp2_with fail
      refine (HTK.out _ C1.out).mono ?_
      rintro e w2 ⟨rfl, n, rfl⟩
      have C2 := Lib.hid (C1.out.kept (only_drewN (only_refl w1 none) n) (by simp))
      have G2 := Lib.hid (only_drewN G1.out n)
      go_wp2_with fail
      go_ret2
      rw [HR.out]
      exact ⟨_, rfl, C2.out, fun e => by simp at e, G2.out⟩
    · have HR : Hid (R = ((s.data.toList.drop (k + m)).take x, s.data.toList.drop (k + m + x), 0)) := by show _ = _; rw [HT.out, if_neg (by simp), if_neg h1]
      clear HT
      have HTK := Lib.hid (fun (w : World) (h : Cur w b s (k + m)) => take_ok h x (by omega))
      go_enter Tryz.func40, Tryz.ntmps40
      go_wp2_with fail
      refine HN.out.mono ?_
      rintro e w1 ⟨rfl, c1, g1⟩
      have C1 := Lib.hid c1
      have G1 := Lib.hid g1
      clear c1 g1
      go_wp2_with fail
      refine (HTK.out _ C1.out).mono ?_
      rintro e w2 ⟨rfl, c2, g2⟩
      have C2 := Lib.hid c2
      have G2 := Lib.hid (only_trans G1.out g2)
      clear c2 g2
      go_wp2_with fail
      have HE1 := Lib.hid (txt_ext s (k + m) x)
      go_ret2
      rw [HR.out]
      exact ⟨_, ret2 (congrArg Value.string HE1.out.symm) rfl, C2.out, fun _ => rfl, G2.out⟩
  · have HR : Hid (R = ([], [], E)) := by show _ = _; rw [HT.out, if_pos h0]
    have hqb : ((E : Int) != 0) = true := by rw [bne_iff_ne]; omega
    have HE := Lib.hid h0
    clear HT h0
    go_enter Tryz.func40, Tryz.ntmps40
    go_wp2_with fail
    refine HN.out.mono ?_
    rintro e w1 ⟨rfl, c1, g1⟩
    have C1 := Lib.hid c1
    have G1 := Lib.hid g1
    clear c1 g1
    go_wp2_with fail
    go_ret2
    rw [HR.out]
    exact ⟨_, rfl, C1.out, fun e => absurd e HE.out, G1.out⟩

theorem results_cell2 {P : Program} {fn : Func} {p u : Tmp} {ty : TypeId} (h : fn.results = #[.cell p ty, .tmp u]) (tmps : Array Value) (w : World) (g : Nat) (t : TypeId) (cs : Array Value) (fr : Nat × Nat) (d : TypeDesc)
    (hp : tmps.getD p undef = .pointer (some ⟨g, 0, none⟩)) (hg : w.heap[g]? = some (.cells cs t fr))
    (hu : P.underlying ty = some d) (hd : (match d with | .struct _ | .array _ _ => true | _ => false) = true) (hi : (P.info? ty).map (·.size) = some cs.size) :
    (results fn tmps).run P w = .ok (.tuple #[.agg cs, tmps.getD u undef]) w := by
  have hp' : tmps[p]?.getD undef = .pointer (some ⟨g, 0, none⟩) := by simpa using hp
  simp [results, h, hp', asAddr, run_loadVar_row w g t ty cs fr d hg hu hd hi]

theorem heap_kept {w w' : World} {n : Nat} {o : Obj} {row : Option Nat} (h : w.heap[n]? = some o) (g : w.grownBy w' row) (hr : some n ≠ row) : w'.heap[n]? = some o :=
  (g.block _ (Array.getElem?_eq_some_iff.1 h).1 hr).trans h
theorem cells_of {w : World} {n : Nat} {v0 v1 : Value} {ty : TypeId} (h : w.heap[n]? = some (.cells #[v0, v1] ty (0, 0))) : w.cell? ⟨n, 0, none⟩ = some v0 ∧ w.cell? ⟨n, 1, none⟩ = some v1 ∧ w.frozen? ⟨n, 0, none⟩ = false ∧ w.frozen? ⟨n, 1, none⟩ = false := by
  simp [World.cell?, World.frozen?, h]

set_option maxHeartbeats 1000000 in
set_option maxRecDepth 100000 in
theorem next_any (W w : World) (b : Nat) (s : ByteArray) (k : Nat) (hT : tb.Tab W) (hw : W.grownBy w none) (hb : W.heap.size ≤ b) (hc : Cur w b s k) :
    Calls Tryz.prog 11 #[.pointer (some ⟨b, 0, none⟩)] w fun e w' => ∃ k', e = .returned (.tuple #[.agg #[.string (nextE (s.data.toList.drop k)).1.key, .string (nextE (s.data.toList.drop k)).1.value], .int .i64 ((nextE (s.data.toList.drop k)).2.2 : Nat)]) ∧ Cur w' b s k' ∧
      ((nextE (s.data.toList.drop k)).2.2 = 0 → s.data.toList.drop k' = (nextE (s.data.toList.drop k)).2.1) ∧ w.grownBy w' (some b) := by
  have HT1 := Lib.hid (fun w h => text_any w b s k h)
  have HT2 := Lib.hid (fun w k h => text_any w b s k h)
  have hlt : b < w.heap.size := hc.lt
  have hml := hc.hs
  have hr : (textW (s.data.toList.drop k)).1.length + (textW (s.data.toList.drop k)).2.1.length ≤ s.size := by
    have := tw_le (s.data.toList.drop k)
    simp only [List.length_drop, Array.length_toList] at this
    have e : s.data.size = s.size := rfl
    omega
  have hr2 := tw_le (textW (s.data.toList.drop k)).2.1
  have HC := Lib.hid (fun w1 (g : W.grownBy w1 none) => check_any ⟨txt (textW (s.data.toList.drop k)).1, txt (textW (textW (s.data.toList.drop k)).2.1).1⟩ w1 (by show (txt _).size ≤ _; rw [txt_size]; omega) (by show (txt _).size ≤ _; rw [txt_size]; omega) (tb.kept hT g))
  have HNW := Lib.hid (fun w1 (g : w.grownBy w1 (some b)) => only_new hw g hb)
  clear hr hr2 hw hT hml hb
  have hlt1 := textW_lt (s.data.toList.drop k)
  have hlt2 := textW_lt (textW (s.data.toList.drop k)).2.1
  have hlt3 := checkE_lt ⟨txt (textW (s.data.toList.drop k)).1, txt (textW (textW (s.data.toList.drop k)).2.1).1⟩
  unfold nextE
  have E1 := @textW_err (s.data.toList.drop k)
  have E2 := @textW_err (textW (s.data.toList.drop k)).2.1
  generalize textW (s.data.toList.drop k) = R at *
  obtain ⟨t1, r1, q1⟩ := R
  simp only at *
  generalize hR2 : textW r1 = R2 at hlt2 hlt3 E2 HC ⊢
  have HR2 := Lib.hid hR2
  clear hR2
  obtain ⟨t2, r2, q2⟩ := R2
  simp only at hlt2 hlt3 E2 HC ⊢
  have g0 := only_alloc (only_refl w (some b)) (.cells #[.string ⟨#[]⟩, .string ⟨#[]⟩] 23)
  have C0 := Lib.hid (hc.kept (only_alloc (only_refl w none) (.cells #[.string ⟨#[]⟩, .string ⟨#[]⟩] 23)) (by simp))
  have G0 := Lib.hid g0
  have B0 := Lib.hid (heap_alloc_new w (.cells #[.string ⟨#[]⟩, .string ⟨#[]⟩] 23))
  have hne : some w.heap.size ≠ some b := by simp; omega
  have HNE := Lib.hid hne
  clear g0 hc hne
  by_cases h1 : q1 = 0
  · subst h1
    rw [if_neg (by simp)]
    clear E1
    by_cases h2 : q2 = 0
    · subst h2
      rw [if_neg (by simp)]
      clear E2 hlt1 hlt2
      generalize hE : checkE ⟨txt t1, txt t2⟩ = q3 at *
      by_cases h3 : q3 = 0
      · subst h3
        rw [if_neg (by simp)]
        clear hE hlt3
        go_enter Tryz.func11, Tryz.ntmps11
        go_wp2_with fail
        refine (HT1.out _ C0.out).mono ?_
        rintro e w1 ⟨k1, rfl, c1, hk1, g1⟩
        have C1 := Lib.hid c1
        have HK1 := Lib.hid (by first | exact hk1 rfl | exact hk1 trivial : s.data.toList.drop k1 = r1)
        have G1 := Lib.hid (only_trans G0.out g1)
        have B1 := Lib.hid (heap_kept B0.out g1 HNE.out)
        clear c1 hk1 g1
        go_wp2_with fail
        have HT3 := HT2.out w1 k1 C1.out
        rw [HK1.out, HR2.out] at HT3
        refine HT3.mono ?_
        rintro e w2 ⟨k2, rfl, c2, hk2, g2⟩
        have C2 := Lib.hid c2
        have HK2 := Lib.hid (by first | exact hk2 rfl | exact hk2 trivial : s.data.toList.drop k2 = r2)
        have G2 := Lib.hid (only_trans G1.out g2)
        have B2 := Lib.hid (heap_kept B1.out g2 HNE.out)
        clear c2 hk2 g2
        go_wp2_with fail
        refine (HC.out _ (HNW.out _ (only_alloc G2.out (.cells #[.string (txt t1), .string (txt t2)] 23)))).mono ?_
        rintro e w3 ⟨rfl, g3⟩
        have B3 := Lib.hid (heap_kept (heap_kept B2.out (only_alloc (only_refl w2 none) (.cells #[.string (txt t1), .string (txt t2)] 23)) (by simp)) g3 (by simp))
        have V3 := Lib.hid ((EntV.new w2 23 ⟨txt t1, txt t2⟩).grown g3)
        have C3 := Lib.hid ((C2.out.kept (only_alloc (only_refl w2 none) (.cells #[.string (txt t1), .string (txt t2)] 23)) (by simp)).kept g3 (by simp))
        have G3 := Lib.hid (only_trans (only_alloc G2.out (.cells #[.string (txt t1), .string (txt t2)] 23)) (only_of_none g3 _))
        obtain ⟨z0, z1, x0, x1⟩ := cells_of B3.out
        obtain ⟨v0, v1⟩ := V3.out
        clear g3
        go_wp2_with fail
        exact bodyPost_ret (results_cell2 rfl _ _ w.heap.size 23 #[.string (txt t1), .string (txt t2)] (0, 0) _ rfl (heap_setc (heap_setc B3.out)) Tryz.underlying23 rfl (by kernel_rfl)) rfl ⟨k2, rfl, (C3.out).kept (only_setCell (only_setCell (only_refl _ (some w.heap.size)) (.inl rfl) _) (.inl rfl) _) (fun e => HNE.out e.symm), fun _ => HK2.out, only_setCell (only_setCell G3.out (.inr (Nat.le_refl _)) _) (.inr (Nat.le_refl _)) _⟩
      · rw [if_pos h3]
        have hqb : ((q3 : Int) != 0) = true := by rw [bne_iff_ne]; omega
        have HQ := Lib.hid h3
        clear hE h3
        go_enter Tryz.func11, Tryz.ntmps11
        go_wp2_with fail
        refine (HT1.out _ C0.out).mono ?_
        rintro e w1 ⟨k1, rfl, c1, hk1, g1⟩
        have C1 := Lib.hid c1
        have HK1 := Lib.hid (by first | exact hk1 rfl | exact hk1 trivial : s.data.toList.drop k1 = r1)
        have G1 := Lib.hid (only_trans G0.out g1)
        have B1 := Lib.hid (heap_kept B0.out g1 HNE.out)
        clear c1 hk1 g1
        go_wp2_with fail
        have HT3 := HT2.out w1 k1 C1.out
        rw [HK1.out, HR2.out] at HT3
        refine HT3.mono ?_
        rintro e w2 ⟨k2, rfl, c2, hk2, g2⟩
        have C2 := Lib.hid c2
        have HK2 := Lib.hid (by first | exact hk2 rfl | exact hk2 trivial : s.data.toList.drop k2 = r2)
        have G2 := Lib.hid (only_trans G1.out g2)
        have B2 := Lib.hid (heap_kept B1.out g2 HNE.out)
        clear c2 hk2 g2
        go_wp2_with fail
        refine (HC.out _ (HNW.out _ (only_alloc G2.out (.cells #[.string (txt t1), .string (txt t2)] 23)))).mono ?_
        rintro e w3 ⟨rfl, g3⟩
        have B3 := Lib.hid (heap_kept (heap_kept B2.out (only_alloc (only_refl w2 none) (.cells #[.string (txt t1), .string (txt t2)] 23)) (by simp)) g3 (by simp))
        have V3 := Lib.hid ((EntV.new w2 23 ⟨txt t1, txt t2⟩).grown g3)
        have C3 := Lib.hid ((C2.out.kept (only_alloc (only_refl w2 none) (.cells #[.string (txt t1), .string (txt t2)] 23)) (by simp)).kept g3 (by simp))
        have G3 := Lib.hid (only_trans (only_alloc G2.out (.cells #[.string (txt t1), .string (txt t2)] 23)) (only_of_none g3 _))
        obtain ⟨z0, z1, x0, x1⟩ := cells_of B3.out
        obtain ⟨v0, v1⟩ := V3.out
        clear g3
        go_wp2_with fail
        exact bodyPost_ret (results_cell2 rfl _ _ w.heap.size 23 #[.string ⟨#[]⟩, .string ⟨#[]⟩] (0, 0) _ rfl (heap_setc (heap_setc B3.out)) Tryz.underlying23 rfl (by kernel_rfl)) rfl ⟨k2, rfl, (C3.out).kept (only_setCell (only_setCell (only_refl _ (some w.heap.size)) (.inl rfl) _) (.inl rfl) _) (fun e => HNE.out e.symm), fun e => absurd e HQ.out, only_setCell (only_setCell G3.out (.inr (Nat.le_refl _)) _) (.inr (Nat.le_refl _)) _⟩
    · rw [if_pos h2]
      obtain ⟨rfl, rfl⟩ := E2 h2
      have hqb : ((q2 : Int) != 0) = true := by rw [bne_iff_ne]; omega
      have HQ := Lib.hid h2
      clear HC E2 h2 hlt1 hlt3
      go_enter Tryz.func11, Tryz.ntmps11
      go_wp2_with fail
      refine (HT1.out _ C0.out).mono ?_
      rintro e w1 ⟨k1, rfl, c1, hk1, g1⟩
      have C1 := Lib.hid c1
      have HK1 := Lib.hid (by first | exact hk1 rfl | exact hk1 trivial : s.data.toList.drop k1 = r1)
      have G1 := Lib.hid (only_trans G0.out g1)
      have B1 := Lib.hid (heap_kept B0.out g1 HNE.out)
      clear c1 hk1 g1
      go_wp2_with fail
      have HT3 := HT2.out w1 k1 C1.out
      rw [HK1.out, HR2.out] at HT3
      refine HT3.mono ?_
      rintro e w2 ⟨k2, rfl, c2, hk2, g2⟩
      have C2 := Lib.hid c2
      have G2 := Lib.hid (only_trans G1.out g2)
      have B2 := Lib.hid (heap_kept B1.out g2 HNE.out)
      obtain ⟨z0, z1, x0, x1⟩ := cells_of B2.out
      clear c2 hk2 g2
      go_wp2_with fail
      exact bodyPost_ret (results_cell2 rfl _ _ w.heap.size 23 #[.string ⟨#[]⟩, .string ⟨#[]⟩] (0, 0) _ rfl (heap_setc (heap_setc B2.out)) Tryz.underlying23 rfl (by kernel_rfl)) rfl ⟨k2, rfl, (C2.out).kept (only_setCell (only_setCell (only_refl _ (some w.heap.size)) (.inl rfl) _) (.inl rfl) _) (fun e => HNE.out e.symm), fun e => absurd e HQ.out, only_setCell (only_setCell G2.out (.inr (Nat.le_refl _)) _) (.inr (Nat.le_refl _)) _⟩
  · rw [if_pos h1]
    obtain ⟨rfl, rfl⟩ := E1 h1
    have hqb : ((q1 : Int) != 0) = true := by rw [bne_iff_ne]; omega
    have HQ := Lib.hid h1
    clear HT2 HC E1 E2 h1 hlt2 hlt3
    go_enter Tryz.func11, Tryz.ntmps11
    go_wp2_with fail
    refine (HT1.out _ C0.out).mono ?_
    rintro e w1 ⟨k1, rfl, c1, hk1, g1⟩
    have C1 := Lib.hid c1
    have G1 := Lib.hid (only_trans G0.out g1)
    have B1 := Lib.hid (heap_kept B0.out g1 HNE.out)
    obtain ⟨z0, z1, x0, x1⟩ := cells_of B1.out
    clear c1 hk1 g1
    go_wp2_with fail
    exact bodyPost_ret (results_cell2 rfl _ _ w.heap.size 23 #[.string ⟨#[]⟩, .string ⟨#[]⟩] (0, 0) _ rfl (heap_setc (heap_setc B1.out)) Tryz.underlying23 rfl (by kernel_rfl)) rfl ⟨k1, rfl, (C1.out).kept (only_setCell (only_setCell (only_refl _ (some w.heap.size)) (.inl rfl) _) (.inl rfl) _) (fun e => HNE.out e.symm), fun e => absurd e HQ.out, only_setCell (only_setCell G1.out (.inr (Nat.le_refl _)) _) (.inr (Nat.le_refl _)) _⟩

set_option maxRecDepth 100000 in
theorem Next_nil (w : World) : Calls Tryz.prog 11 #[.pointer none] w fun e w' => e = .returned (.tuple #[.agg #[.string ⟨#[]⟩, .string ⟨#[]⟩], .int .i64 25]) ∧ w.grownBy w' none := by
  have HN := Lib.hid (fun w => next_nil w)
  have B0 := Lib.hid (heap_alloc_new w (.cells #[.string ⟨#[]⟩, .string ⟨#[]⟩] 23))
  have G0 := Lib.hid (only_alloc (only_refl w none) (.cells #[.string ⟨#[]⟩, .string ⟨#[]⟩] 23))
  go_enter Tryz.func11, Tryz.ntmps11
  go_wp2_with fail
  refine (HN.out _).mono ?_
  rintro e w1 ⟨rfl, rfl⟩
  obtain ⟨z0, z1, x0, x1⟩ := cells_of B0.out
  go_wp2_with fail
  exact bodyPost_ret (results_cell2 rfl _ _ w.heap.size 23 #[.string ⟨#[]⟩, .string ⟨#[]⟩] (0, 0) _ rfl B0.out Tryz.underlying23 rfl (by kernel_rfl)) rfl ⟨rfl, G0.out⟩

theorem compare_less : ∀ a b : List UInt8, Lib.compareBytes a b = if Op.bytesLess a b = true then -1 else if a = b then 0 else 1
  | [], [] => rfl
  | [], _ :: _ => rfl
  | _ :: _, [] => rfl
  | a :: x, b :: y => by
    unfold Lib.compareBytes Op.bytesLess
    by_cases h : a < b
    · simp [h]
    · by_cases h2 : b < a
      · have hne : ¬ a = b := fun e => by rw [e] at h2; exact absurd h2 (UInt8.lt_irrefl b)
        simp [h, h2, hne]
      · have he : a = b := by rw [UInt8.lt_iff_toNat_lt] at h h2; exact UInt8.toNat_inj.1 (by omega)
        subst he
        rw [compare_less x y]
        simp [UInt8.lt_irrefl]
theorem cmpB_compare (a b : ByteArray) : Lib.compareBytes a.data.toList b.data.toList = cmpB a b := by
  rw [compare_less]
  unfold cmpB
  by_cases h : a = b
  · subst h; simp
  · have : ¬ a.data.toList = b.data.toList := fun e => h (bytes_inj e)
    rw [if_neg h, if_neg this]

theorem compare_any (a b : ByteArray) (w : World) : Calls Tryz.prog 47 #[.string a, .string b] w fun e w' => e = .returned (.int .i64 (cmpB a b)) ∧ w' = w := by
  have h := Tryz.strings_Compare a b w
  rw [cmpB_compare] at h
  exact h

set_option maxRecDepth 100000 in
theorem or_any (x y : Int) (b : Nat) (w : World) (h0 : w.cell? ⟨b, 0, none⟩ = some (.int .i64 x)) (h1 : w.cell? ⟨b, 1, none⟩ = some (.int .i64 y)) :
    Calls Tryz.prog 46 #[.slice (some ⟨b, 0, none⟩) 2 2] w fun e w' => e = .returned (.int .i64 (if x = 0 then y else x)) ∧ w = w' := by
  by_cases hx : x = 0
  · subst hx
    rw [if_pos rfl]
    by_cases hy : y = 0
    · subst hy
      go_enter Tryz.func46, Tryz.ntmps46
      go_wp2_with fail
      refine wp_loop_rounds 3 ?_
      rw [rounds_succ]
      go_wp2_with fail
      rw [rounds_succ]
      go_wp2_with fail
      rw [rounds_succ]
      go_wp2_with fail
      go_ret
      exact ⟨rfl, rfl⟩
    · have hyb : (y != 0) = true := by simpa using hy
      go_enter Tryz.func46, Tryz.ntmps46
      go_wp2_with fail
      refine wp_loop_rounds 2 ?_
      rw [rounds_succ]
      go_wp2_with fail
      rw [rounds_succ]
      go_wp2_with fail
      go_ret
      exact ⟨rfl, rfl⟩
  · rw [if_neg hx]
    have hxb : (x != 0) = true := by simpa using hx
    go_enter Tryz.func46, Tryz.ntmps46
    go_wp2_with fail
    refine wp_loop_rounds 1 ?_
    rw [rounds_succ]
    go_wp2_with fail
    go_ret
    exact ⟨rfl, rfl⟩

set_option maxHeartbeats 1000000 in
set_option maxRecDepth 100000 in
theorem Cmp_any (x y : Ent) (w : World) :
    Calls Tryz.prog 17 #[.agg #[.string x.key, .string x.value], .agg #[.string y.key, .string y.value]] w fun e w' => e = .returned (.int .i64 (cmpE x y)) ∧ ∃ q os', w' = Go.Sort.grow (w.drewN q) os' := by
  have HK := Lib.hid (fun w => compare_any x.key y.key w)
  have HV := Lib.hid (fun w => compare_any x.value y.value w)
  have HE : Hid ((if cmpB x.key y.key = 0 then cmpB x.value y.value else cmpB x.key y.key) = cmpE x y) := by
    show _ = _
    unfold cmpE
    by_cases h : x.key = y.key
    · rw [if_pos ((cmpB_zero _ _).2 h), if_pos h]
    · rw [if_neg (fun e => h ((cmpB_zero _ _).1 e)), if_neg h]
  generalize cmpB x.key y.key = k at *
  generalize cmpB x.value y.value = v at *
  have HO : Hid (∀ b w, w.cell? ⟨b, 0, none⟩ = some (.int .i64 k) → w.cell? ⟨b, 1, none⟩ = some (.int .i64 v) → Calls Tryz.prog 46 #[.slice (some ⟨b, 0, none⟩) 2 2] w fun e w' => e = .returned (.int .i64 (cmpE x y)) ∧ w = w') := fun b w h0 h1 => by
    have := or_any k v b w h0 h1
    rw [HE.out] at this
    exact this
  clear HE
  generalize cmpE x y = r at *
  go_enter Tryz.func17, Tryz.ntmps17
  have V := Lib.hid (two_vars w 23 x y _ (only_refl _ none))
  have HWA : Hid (((w.alloc (.cells #[.string x.key, .string x.value] 23)).alloc (.cells #[.string y.key, .string y.value] 23)) = Go.Sort.grow w #[.cells #[.string x.key, .string x.value] 23, .cells #[.string y.key, .string y.value] 23]) := by
    show _ = _
    rw [Go.Sort.alloc_eq_grow, Go.Sort.alloc_eq_grow, Go.Sort.grow_grow]; rfl
  go_wp2_with fail
  generalize (w.alloc (.cells #[.string x.key, .string x.value] 23)).alloc (.cells #[.string y.key, .string y.value] 23) = wa at *
  obtain ⟨a0, a1, b0, b1⟩ := V.out
  go_region_held3 (fun w' => w'.cell? ⟨w.heap.size, 0, none⟩ = some (.string x.key) ∧ w'.cell? ⟨w.heap.size, 1, none⟩ = some (.string x.value) ∧ w'.cell? ⟨w.heap.size + 1, 0, none⟩ = some (.string y.key) ∧ w'.cell? ⟨w.heap.size + 1, 1, none⟩ = some (.string y.value))
    (first | go_keep)
    (first
      | (go_at_call 47; with_reducible refine (HK.out _).mono ?_; rintro e w5 ⟨rfl, rfl⟩)
      | (go_at_call 47; with_reducible refine (HV.out _).mono ?_; rintro e w5 ⟨rfl, rfl⟩)
      | (go_at_call 46; refine (HO.out wa.heap.size ((wa.alloc (.cells #[.int .i64 k, .int .i64 v] 3)).drew) (show (wa.alloc (.cells #[.int .i64 k, .int .i64 v] 3)).cell? ⟨wa.heap.size, 0, none⟩ = some (.int .i64 k) from by rw [cell_new]; rfl) (show (wa.alloc (.cells #[.int .i64 k, .int .i64 v] 3)).cell? ⟨wa.heap.size, 1, none⟩ = some (.int .i64 v) from by rw [cell_new]; rfl)).mono ?_; rintro e w5 ⟨rfl, rfl⟩))
  go_wp2_with fail
  go_ret
  have h1 := HWA.out
  subst h1
  exact ⟨rfl, 1, #[.cells #[.string x.key, .string x.value] 23, .cells #[.string y.key, .string y.value] 23] ++ #[.cells #[.int .i64 k, .int .i64 v] 3], by rw [Go.Sort.alloc_eq_grow, Go.Sort.grow_grow]; rfl⟩

theorem cmp_any (x y : Ent) (w : World) :
    Calls Tryz.prog 17 #[.agg #[.string x.key, .string x.value], .agg #[.string y.key, .string y.value]] w fun e w' => e = .returned (.int .i64 (cmpE x y)) ∧ w.grownBy w' none := by
  refine (Cmp_any x y w).mono ?_
  rintro e w' ⟨rfl, q, os, rfl⟩
  refine ⟨rfl, rfl, rfl, rfl, by simp [Go.Sort.grow, World.drewN], fun k hk _ => ?_⟩
  simp only [Go.Sort.grow, World.drewN]
  rw [Array.getElem?_append_left (by simpa using hk)]

end Go.Proofs.YtiolkedmpjjojaaGreatDoor.ee
