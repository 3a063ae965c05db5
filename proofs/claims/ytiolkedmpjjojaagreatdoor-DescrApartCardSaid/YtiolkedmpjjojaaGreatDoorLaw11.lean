/-
  The statements of layer 11, for whatever keeps the contracts of entries.
-/
import Derived.Test.YtiolkedmpjjojaaGreatDoorEref
import Derived.Test.YtiolkedmpjjojaaGreatDoorBundA
import Derived.Test.YtiolkedmpjjojaaGreatDoorBundU
import Derived.Handy
namespace Go.Proofs.YtiolkedmpjjojaaGreatDoor.law11
open Go.RowKit Go.Proofs.YtiolkedmpjjojaaGreatDoor.vi Go.Proofs.YtiolkedmpjjojaaGreatDoor.um Go.Proofs.YtiolkedmpjjojaaGreatDoor.wm Go.Proofs.YtiolkedmpjjojaaGreatDoor.tr Go.Proofs.YtiolkedmpjjojaaGreatDoor.em Go.Proofs.YtiolkedmpjjojaaGreatDoor.cur
set_option linter.unusedVariables false
set_option linter.unusedSimpArgs false

/-- What layer 11's awake asks. -/
structure ECore where
  Tab : World → Prop
  kept : ∀ {w w' : World}, Tab w → w.grownBy w' none → Tab w'
  awake10 : ∀ w : World, Tab w → Calls Tryz.prog 39 #[] w fun e w' => e = .returned (.bool true) ∧ w.grownBy w' none
  check : ∀ (x : Ent) (w : World), x.key.size ≤ 10000 → x.value.size ≤ 10000 → Tab w → Calls Tryz.prog 13 #[.agg #[.string x.key, .string x.value]] w fun e w' => e = .returned (.int .i64 (checkE x : Nat)) ∧ w.grownBy w' none
  put : ∀ (x : Ent) (w : World), x.key.size ≤ 100000 → x.value.size ≤ 100000 → Calls Tryz.prog 15 #[.agg #[.string x.key, .string x.value]] w fun e w' => e = .returned (.string (txt (putE x))) ∧ w.grownBy w' none

/-- What the laws ask of package entry besides. -/
structure EI extends ECore where
  cmp : ∀ (x y : Ent) (w : World), x.key.size ≤ 100000 → x.value.size ≤ 100000 → y.key.size ≤ 100000 → y.value.size ≤ 100000 → Calls Tryz.prog 17 #[.agg #[.string x.key, .string x.value], .agg #[.string y.key, .string y.value]] w fun e w' => e = .returned (.int .i64 (cmpE x y)) ∧ w.grownBy w' none
  next_nil : ∀ w : World, Calls Tryz.prog 11 #[.pointer none] w fun e w' => e = .returned (.tuple #[.agg #[.string ⟨#[]⟩, .string ⟨#[]⟩], .int .i64 25]) ∧ w.grownBy w' none
  next : ∀ (W w : World) (b : Nat) (s : ByteArray) (k : Nat), Tab W → W.grownBy w none → W.heap.size ≤ b → Cur w b s k → s.size ≤ 10000 →
    Calls Tryz.prog 11 #[.pointer (some ⟨b, 0, none⟩)] w fun e w' => ∃ k', e = .returned (.tuple #[.agg #[.string (nextE (s.data.toList.drop k)).1.key, .string (nextE (s.data.toList.drop k)).1.value], .int .i64 ((nextE (s.data.toList.drop k)).2.2 : Nat)]) ∧ Cur w' b s k' ∧
      ((nextE (s.data.toList.drop k)).2.2 = 0 → s.data.toList.drop k' = (nextE (s.data.toList.drop k)).2.1) ∧ W.grownBy w' none

def exE : Ent := ⟨⟨#[97]⟩, ⟨#[98, 99]⟩⟩
theorem good_abc : ∀ l : List UInt8, (∀ x ∈ l, x.toNat < 128) → goodR l = true
  | [], _ => goodR_nil
  | x :: r, h => by
    have hx := h x (by simp)
    have hf : firstR (x :: r) = 1 := by
      unfold firstR
      rw [if_neg (by simp), if_pos (by simpa [byt] using hx)]
    rw [goodR_step (by simp) (by rw [hf]; omega), hf]
    exact good_abc r fun y hy => h y (by simp [hy])
theorem ex_checkE : checkE exE = 0 := by
  unfold checkE exE checkN
  simp only
  rw [good_abc _ (by intro x hx; simp at hx; subst hx; decide), good_abc _ (by intro x hx; simp at hx; rcases hx with rfl | rfl <;> decide)]
  simp [ByteArray.size]
theorem ex_putE : txt (putE exE) = ⟨#[1, 97, 2, 98, 99]⟩ := by
  have e1 : enc 1 = [1] := enc_small (by omega)
  have e2 : enc 2 = [2] := enc_small (by omega)
  unfold putE tw exE
  show txt ((enc 1 ++ [97]) ++ (enc 2 ++ [98, 99])) = _
  rw [e1, e2]
  rfl

/-- A variable that holds an entry. -/
def EntV (w : World) (b : Nat) (x : Ent) : Prop := w.cell? ⟨b, 0, none⟩ = some (.string x.key) ∧ w.cell? ⟨b, 1, none⟩ = some (.string x.value)
theorem EntV.kept {w w' : World} {b : Nat} {x : Ent} {T : Nat → Prop} (h : EntV w b x) (g : Chg T w w') (hb : ¬ T b) : EntV w' b x := ⟨g.cell h.1 hb, g.cell h.2 hb⟩
theorem EntV.grown {w w' : World} {b : Nat} {x : Ent} (h : EntV w b x) (g : w.grownBy w' none) : EntV w' b x := h.kept (T := fun _ => False) (Chg.of_none g) (fun e => e)
theorem EntV.new (w : World) (ty : TypeId) (x : Ent) : EntV (w.alloc (.cells #[.string x.key, .string x.value] ty)) w.heap.size x := ⟨by rw [cell_new]; rfl, by rw [cell_new]; rfl⟩
theorem EntV.lt {w : World} {b : Nat} {x : Ent} (h : EntV w b x) : b < w.heap.size := World.block_lt_of_cell? w ⟨b, 0, none⟩ h.1

set_option maxHeartbeats 1000000 in
set_option maxRecDepth 100000 in
theorem awake_any (I : ECore) (w : World) (hT : I.Tab w) :
    Calls Tryz.prog 9 #[] w fun e w' => e = .returned (.bool true) ∧ w.grownBy w' none := by
  have HT := Lib.hid (fun w' (g : w.grownBy w' none) => I.awake10 w' (I.kept hT g))
  have HP := Lib.hid (fun w => I.put exE w (by simp [exE, ByteArray.size]) (by simp [exE, ByteArray.size]))
  have HC := Lib.hid (fun w' (g : w.grownBy w' none) => I.check exE w' (by simp [exE, ByteArray.size]) (by simp [exE, ByteArray.size]) (I.kept hT g))
  rw [ex_putE] at HP
  rw [ex_checkE] at HC
  have hk : exE.key = ⟨#[97]⟩ := rfl
  have hv : exE.value = ⟨#[98, 99]⟩ := rfl
  rw [hk, hv] at HP HC
  have V0 := Lib.hid (EntV.new w 23 exE)
  have G0 := Lib.hid (only_alloc (only_refl w none) (.cells #[.string ⟨#[97]⟩, .string ⟨#[98, 99]⟩] 23))
  rw [hk, hv] at V0
  clear hk hv
  go_enter Tryz.func9, Tryz.ntmps9
  go_wp2_with fail
  refine (HT.out _ G0.out).mono ?_
  rintro e w1 ⟨rfl, g1⟩
  have V1 := Lib.hid (V0.out.grown g1)
  have G1 := Lib.hid (only_trans G0.out g1)
  obtain ⟨c0, c1⟩ := V1.out
  clear g1
  go_wp2_with fail
  refine (HP.out _).mono ?_
  rintro e w2 ⟨rfl, g2⟩
  have V2 := Lib.hid (V1.out.grown g2)
  have G2 := Lib.hid (only_trans G1.out g2)
  obtain ⟨d0, d1⟩ := V2.out
  clear g2
  go_wp2_with fail
  refine (HC.out _ G2.out).mono ?_
  rintro e w3 ⟨rfl, g3⟩
  have G3 := Lib.hid (only_trans G2.out g3)
  clear g3
  go_wp2_with fail
  go_ret
  exact ⟨rfl, G3.out⟩

theorem Awake_any (I : ECore) (w : World) (hT : I.Tab w) :
    Calls Tryz.prog 49 #[] w fun e w' => e = .returned (.bool true) ∧ w.grownBy w' none := by
  go_enter Tryz.func49, Tryz.ntmps49
  go_wp2_with (go_at_call 9; refine (awake_any I _ hT).mono ?_; rintro e w' ⟨rfl, g⟩)
  go_ret
  exact ⟨rfl, g⟩

set_option maxHeartbeats 2000000 in
set_option maxRecDepth 100000 in
theorem tells_any (I : EI) (W : World) (hT : I.Tab W) (x y : Ent) (s : ByteArray) (h1 : x.key.size ≤ 2000000) (h2 : x.value.size ≤ 2000000) (h3 : y.key.size ≤ 2000000) (h4 : y.value.size ≤ 2000000) (hs : s.size ≤ maxLen) :
    Calls Tryz.prog 3 #[.agg #[.string x.key, .string x.value], .agg #[.string y.key, .string y.value], .string s] W fun e w' => e = .returned (.bool true) ∧ W.grownBy w' none := by
  have HA := Lib.hid (fun w (g : W.grownBy w none) => awake_any I.toECore w (I.kept hT g))
  unfold maxLen at hs
  have VX := Lib.hid (EntV.new W 23 x)
  have VY := Lib.hid (EntV.new (W.alloc (.cells #[.string x.key, .string x.value] 23)) 23 y)
  have GX := Lib.hid (only_alloc (only_refl W none) (.cells #[.string x.key, .string x.value] 23))
  have GY := Lib.hid (only_alloc (only_refl (W.alloc (.cells #[.string x.key, .string x.value] 23)) none) (.cells #[.string y.key, .string y.value] 23))
  have hsz : (W.alloc (.cells #[.string x.key, .string x.value] 23)).heap.size = W.heap.size + 1 := by simp
  have G0 := Lib.hid (only_trans GX.out GY.out)
  have X0 := Lib.hid (VX.out.grown GY.out)
  rw [hsz] at VY
  have Y0 := Lib.hid VY.out
  clear VX VY GX GY hsz
  by_cases hb : (1000 : Int) < (x.key.size : Int) + x.value.size + y.key.size + y.value.size
  · clear hT
    go_enter Tryz.func3, Tryz.ntmps3
    go_wp2_with fail
    refine (HA.out _ G0.out).mono ?_
    rintro e w1 ⟨rfl, g1⟩
    have G1 := Lib.hid (only_trans G0.out g1)
    have X1 := Lib.hid (X0.out.grown g1)
    have Y1 := Lib.hid (Y0.out.grown g1)
    obtain ⟨x0, x1⟩ := X1.out
    obtain ⟨y0, y1⟩ := Y1.out
    clear g1
    go_wp2_with fail
    go_ret
    exact ⟨rfl, G1.out⟩
  · by_cases hc : (1000 : Int) < (s.size : Int)
    · clear hT
      go_enter Tryz.func3, Tryz.ntmps3
      go_wp2_with fail
      refine (HA.out _ G0.out).mono ?_
      rintro e w1 ⟨rfl, g1⟩
      have G1 := Lib.hid (only_trans G0.out g1)
      have X1 := Lib.hid (X0.out.grown g1)
      have Y1 := Lib.hid (Y0.out.grown g1)
      obtain ⟨x0, x1⟩ := X1.out
      obtain ⟨y0, y1⟩ := Y1.out
      clear g1
      go_wp2_with fail
      go_ret
      exact ⟨rfl, G1.out⟩
    · have HN := Lib.hid (fun w1 (g1 : W.grownBy w1 none) w b k hw hb hc => I.next w1 w b s k (I.kept hT g1) hw hb hc (by omega))
      have HRN := Lib.hid (fun w => rnextE_any s (by omega) w)
      have HNN := Lib.hid I.next_nil
      go_enter Tryz.func3, Tryz.ntmps3
      go_wp2_with fail
      refine (HA.out _ G0.out).mono ?_
      rintro e w1 ⟨rfl, g1⟩
      have G1 := Lib.hid (only_trans G0.out g1)
      have X1 := Lib.hid (X0.out.grown g1)
      have Y1 := Lib.hid (Y0.out.grown g1)
      obtain ⟨x0, x1⟩ := X1.out
      obtain ⟨y0, y1⟩ := Y1.out
      clear g1
      go_wp2_with fail
      refine (over_any s w1).mono ?_
      rintro e w2 ⟨rfl, rfl⟩
      have C2 := Cur.new s (by unfold maxLen; omega) w1
      have GA := only_alloc (only_refl w1 none) (.cells #[.string s, .int .i64 0] 69)
      have HN2 := Lib.hid (HN.out w1 G1.out _ w1.heap.size 0 GA (Nat.le_refl _) C2)
      rw [List.drop_zero] at HN2
      clear C2 GA HN
      have hlt := nextE_lt s.data.toList
      generalize nextE s.data.toList = R at *
      obtain ⟨⟨nk, nv⟩, rest, q⟩ := R
      simp only at HN2 HRN hlt
      go_wp2_with fail
      refine HN2.out.mono ?_
      rintro e w3 ⟨k, rfl, c3, hc3, g3⟩
      have C3 := Lib.hid c3
      have HC3 := Lib.hid hc3
      have hB : w1.heap.size < w3.heap.size := c3.lt
      have G3 := Lib.hid (only_trans G1.out g3)
      have X3 := Lib.hid (X1.out.grown g3)
      have Y3 := Lib.hid (Y1.out.grown g3)
      obtain ⟨x0, x1⟩ := X3.out
      obtain ⟨y0, y1⟩ := Y3.out
      clear c3 hc3 g3
      go_wp2_with fail
      have GN := only_alloc (only_refl w3 none) (.cells #[.string nk, .string nv] 23)
      have N4 := Lib.hid (EntV.new w3 23 ⟨nk, nv⟩)
      have X4 := Lib.hid (X3.out.grown GN)
      have Y4 := Lib.hid (Y3.out.grown GN)
      have C4 := Lib.hid (C3.out.kept GN (by simp))
      have G4 := Lib.hid (only_trans G3.out GN)
      clear GN
      refine (HRN.out _).mono ?_
      rintro e w5 ⟨rfl, g5⟩
      have N5 := Lib.hid (N4.out.grown g5)
      have X5 := Lib.hid (X4.out.grown g5)
      have Y5 := Lib.hid (Y4.out.grown g5)
      have C5 := Lib.hid (C4.out.kept g5 (by simp))
      have G5 := Lib.hid (only_trans G4.out g5)
      clear g5
      go_wp2_with fail
      have GM := only_alloc (only_refl w5 none) (.cells #[.string nk, .string nv] 30)
      have M6 := Lib.hid (EntV.new w5 30 ⟨nk, nv⟩)
      have N6 := Lib.hid (N5.out.grown GM)
      have X6 := Lib.hid (X5.out.grown GM)
      have Y6 := Lib.hid (Y5.out.grown GM)
      have C6 := Lib.hid (C5.out.kept GM (by simp))
      have G6 := Lib.hid (only_trans G5.out GM)
      clear GM
      refine (HNN.out _).mono ?_
      rintro e w7 ⟨rfl, g7⟩
      have M7 := Lib.hid (M6.out.grown g7)
      have N7 := Lib.hid (N6.out.grown g7)
      have X7 := Lib.hid (X6.out.grown g7)
      have Y7 := Lib.hid (Y6.out.grown g7)
      have C7 := Lib.hid (C6.out.kept g7 (by simp))
      have G7 := Lib.hid (only_trans G6.out g7)
      obtain ⟨x0, x1⟩ := X7.out
      obtain ⟨y0, y1⟩ := Y7.out
      obtain ⟨n0, n1⟩ := N7.out
      obtain ⟨m0, m1⟩ := M7.out
      clear g7
      go_wp2_with fail
      have HCK := Lib.hid (fun g : GW w7 none => I.check x g.world (by omega) (by omega) (I.kept hT (only_trans G7.out g.ok)))
      have HRCK := Lib.hid (fun g : GW w7 none => rcheckE_any x (by omega) (by omega) g.world)
      have HPT := Lib.hid (fun g : GW w7 none => I.put x g.world (by omega) (by omega))
      have HRPT := Lib.hid (fun g : GW w7 none => rputE_any x (by omega) (by omega) g.world)
      have HCM := Lib.hid (fun g : GW w7 none => I.cmp x y g.world (by omega) (by omega) (by omega) (by omega))
      have HRCM := Lib.hid (fun g : GW w7 none => rcmp_any x y (by omega) (by omega) (by omega) (by omega) g.world)
      have HRS := Lib.hid (fun g : GW w7 none => (rest_some (C7.out.kept g.ok (by simp))).mono fun e w' h => (⟨h.1, by obtain ⟨n, rfl⟩ := h.2; exact only_drewN (only_refl _ _) _⟩ : e = .returned (.string (s.extract k s.size)) ∧ g.world.grownBy w' none))
      have hx0 : ∀ g : GW w7 none, g.world.cell? ⟨W.heap.size, 0, none⟩ = some (.string x.key) := fun g => (X7.out.grown g.ok).1
      have hx1 : ∀ g : GW w7 none, g.world.cell? ⟨W.heap.size, 1, none⟩ = some (.string x.value) := fun g => (X7.out.grown g.ok).2
      have hy0 : ∀ g : GW w7 none, g.world.cell? ⟨W.heap.size + 1, 0, none⟩ = some (.string y.key) := fun g => (Y7.out.grown g.ok).1
      have hy1 : ∀ g : GW w7 none, g.world.cell? ⟨W.heap.size + 1, 1, none⟩ = some (.string y.value) := fun g => (Y7.out.grown g.ok).2
      have hn0 : ∀ g : GW w7 none, g.world.cell? ⟨w3.heap.size, 0, none⟩ = some (.string nk) := fun g => (N7.out.grown g.ok).1
      have hn1 : ∀ g : GW w7 none, g.world.cell? ⟨w3.heap.size, 1, none⟩ = some (.string nv) := fun g => (N7.out.grown g.ok).2
      have hm0 : ∀ g : GW w7 none, g.world.cell? ⟨w5.heap.size, 0, none⟩ = some (.string nk) := fun g => (M7.out.grown g.ok).1
      have hm1 : ∀ g : GW w7 none, g.world.cell? ⟨w5.heap.size, 1, none⟩ = some (.string nv) := fun g => (M7.out.grown g.ok).2
      have hck := checkE_lt x
      generalize checkE x = ce at *
      generalize txt (putE x) = pe at *
      generalize cmpE x y = me at *
      clear x0 x1 y0 y1 n0 n1 m0 m1 hT
      by_cases hq : q = 0
      · have hrest : txt rest = s.extract k s.size := by rw [← HC3.out hq, txt_rest]
        subst hq
        rw [hrest]
        clear HC3 hrest
        refine wp_region_gw w7 none (by kernel_rfl) (by kernel_rfl) (only_alloc (only_refl _ _) _) ?_
        repeat (go_big_quiet_step (first
          | (go_at_call 13; exact calls_gw (HCK.out _))
          | (go_at_call 14; exact calls_gw (HRCK.out _))
          | (go_at_call 15; exact calls_gw (HPT.out _))
          | (go_at_call 16; exact calls_gw (HRPT.out _))
          | (go_at_call 17; exact calls_gw (HCM.out _))
          | (go_at_call 18; exact calls_gw (HRCM.out _))
          | (go_at_call 19; exact calls_gw (HRS.out _))))
        refine wpQuiet_nil ?_
        rintro _ ⟨⟨w', hw'⟩, rfl⟩
        go_wp2_with fail
        go_ret
        exact ⟨rfl, only_trans G7.out hw'⟩
      · have hqb : ((q : Int) != 0) = true := by rw [bne_iff_ne]; omega
        clear HC3 hq
        refine wp_region_gw w7 none (by kernel_rfl) (by kernel_rfl) (only_alloc (only_refl _ _) _) ?_
        repeat (go_big_quiet_step (first
          | (go_at_call 13; exact calls_gw (HCK.out _))
          | (go_at_call 14; exact calls_gw (HRCK.out _))
          | (go_at_call 15; exact calls_gw (HPT.out _))
          | (go_at_call 16; exact calls_gw (HRPT.out _))
          | (go_at_call 17; exact calls_gw (HCM.out _))
          | (go_at_call 18; exact calls_gw (HRCM.out _))
          | (go_at_call 19; exact calls_gw (HRS.out _))))
        refine wpQuiet_nil ?_
        rintro _ ⟨⟨w', hw'⟩, rfl⟩
        go_wp2_with fail
        go_ret
        exact ⟨rfl, only_trans G7.out hw'⟩

end Go.Proofs.YtiolkedmpjjojaaGreatDoor.law11
