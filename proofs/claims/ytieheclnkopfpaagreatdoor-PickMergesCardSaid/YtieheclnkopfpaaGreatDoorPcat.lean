/-
  The library's Concat of fields; the developers' Merge.
-/
import Derived.Test.YtieheclnkopfpaaGreatDoorPsrt
import Derived.Test.YtieheclnkopfpaaGreatDoorPmerge
namespace Go.Proofs.YtieheclnkopfpaaGreatDoor.pp
open Go.RowKit Go.Lib Go.Proofs.YtieheclnkopfpaaGreatDoor.tr Go.Proofs.YtieheclnkopfpaaGreatDoor.pm Go.Proofs.YtieheclnkopfpaaGreatDoor.wm
set_option linter.unusedVariables false
set_option linter.unusedSimpArgs false

theorem own_empty (w : World) (cur : Array Value) (cap : Nat) (base : Nat) (S : Nat → Prop) (hb : base ≤ w.heap.size) (hm : cap ≤ maxLen) (hc : cur.size = cap * 5) (hS : ∀ k, S k → k < w.heap.size) : OwnF 38 base S (w.alloc (.cells cur 38)) (.slice (some ⟨w.heap.size, 0, none⟩) 0 cap) [] :=
  ⟨fun _ => .nilIface, by have := World.ownsRow_made (base := base) (size := 5) (e := 38) w cur cap hb hm hc; simpa [flat] using this, fun i t h => by simp at h, fun k hk => by have := hS k hk; simp; omega, fun k e hk => by simp [Value.ownBlock] at e; have := hS k hk; omega⟩

theorem grow_any (n : Nat) (hn : n ≤ 100000) (w : World) : Calls Tryz.prog 39 #[.slice none 0 0, .int .i64 (n : Nat)] w fun e w' => ∃ v, e = .returned v ∧ OwnF 38 w.heap.size (fun k => k < w.heap.size) w' v [] ∧ w.grownBy w' none := by
  by_cases h0 : n = 0
  · subst h0
    refine (Any8.slices_Grow_room Tryz.growF none 0 0 0 w (by omega) (by omega) (by omega) (by omega)).mono ?_
    rintro e w' ⟨rfl, rfl⟩
    exact ⟨_, rfl, (OwnF.nil _ _ _).more (fun k e => e.elim) (fun k e => e) (fun k e => by simp [Value.ownBlock] at e), only_refl _ _⟩
  · obtain ⟨i0, hi0, hz0, hs0, hb0⟩ := info_parts Tryz.infoF
    refine (Any8.slices_Grow_grow Tryz.growF i0 _ hi0 hz0 (by omega) none 0 0 n [] w (by omega) (by omega) (by rw [hb0]; omega) (by omega) (by simp) (fun _ => rfl) (fun a e => by cases e)).mono ?_
    rintro e w' ⟨rfl, rfl⟩
    have hge := grownCap_ge w (0 + n) 0 38
    have hle := grownCap_le_maxLen w (0 + n) 0 38 (by unfold maxLen; omega)
    refine ⟨_, rfl, own_empty w.drew _ _ _ _ (Nat.le_refl _) hle ?_ (fun k hk => hk), only_alloc (only_drew (only_refl _ _)) _⟩
    have hge' : 0 + n ≤ grownCap w (0 + n) 0 (Tryz.growF_ren.t 25) := hge
    generalize grownCap w (0 + n) 0 (Tryz.growF_ren.t 25) = c at *
    simp only [Array.size_append, size_zeroCells, Value.cells]
    simp
    omega

theorem flatten_take {Ls : List (List Tree)} {i : Nat} {l : List Tree} (h : Ls[i]? = some l) : (Ls.take (i + 1)).flatten = (Ls.take i).flatten ++ l := by
  rw [List.take_add_one, h]; simp
theorem flatten_le {Ls : List (List Tree)} (i : Nat) : (Ls.take i).flatten.length ≤ Ls.flatten.length := by
  have := congrArg List.length (show Ls.flatten = (Ls.take i).flatten ++ (Ls.drop i).flatten by rw [← List.flatten_append, List.take_append_drop])
  rw [List.length_append] at this; omega
theorem sizeL_flat_mem : ∀ {Ls : List (List Tree)} {l : List Tree}, l ∈ Ls → sizeL l ≤ sizeL Ls.flatten
  | x :: r, l, h => by
    rw [List.flatten_cons, sizeL_append]
    rcases List.mem_cons.1 h with rfl | h
    · omega
    · have := sizeL_flat_mem h; omega

theorem size_perm {a b : List Tree} (h : a.Perm b) : sizeL a = sizeL b := by
  induction h with
  | nil => rfl
  | cons x _ ih => rw [sizeL_cons, sizeL_cons, ih]
  | swap x y l => simp only [sizeL_cons]; omega
  | trans _ _ h1 h2 => rw [h1, h2]

theorem lls_tight {w : World} {S : Nat → Prop} {v : Value} {Ls : List (List Tree)} (h : Lls w S v Ls) : Lls w (fun k => k < w.heap.size) v Ls := by
  obtain ⟨h0, a, cap, h1, h2⟩ := h
  refine ⟨h0, a, cap, h1, ?_⟩
  rcases h2 with h2 | ⟨b, off, k1, k2, k3, k4, k5⟩
  · exact .inl h2
  · exact .inr ⟨b, off, k1, k2, k3, k4, fun i l hi => by
      obtain ⟨u, j1, j2⟩ := k5 i l hi
      exact ⟨u, j1, j2.tight.mono fun k _ hk => hk.2⟩⟩

set_option maxHeartbeats 4000000 in
set_option maxRecDepth 100000 in
theorem concat_any (Ls : List (List Tree)) (hs : Ls.flatten.length ≤ 50000) (w : World) (S : Nat → Prop) (v : Value) (h : Lls w S v Ls) :
    Calls Tryz.prog 28 #[v] w fun e w' => ∃ v', e = .returned v' ∧ OwnF 38 w.heap.size (fun k => k < w.heap.size) w' v' Ls.flatten ∧ w.grownBy w' none := by
  have HL := Lib.hid (lls_tight h)
  have hn : Ls.length ≤ 1000 := h.1
  have HG := Lib.hid (fun n hn w => grow_any n hn w)
  obtain ⟨-, a, cap, rfl, -⟩ := h
  go_enter Tryz.func28, Tryz.ntmps28
  go_wp2_with fail
  go_loopw [3, 11] (fun x q wr => ∃ i : Nat, i ≤ Ls.length ∧ q = .int .i64 i ∧ x = .int .i64 ((Ls.take i).flatten.length : Nat) ∧ w = wr) (fun _ q _ => Ls.length - (intOf q).toNat)
  case atStart => exact ⟨0, Nat.zero_le _, rfl, by simp, rfl⟩
  case round =>
    obtain ⟨i, hi, rfl, rfl, rfl⟩ := hrel
    by_cases hlt : i < Ls.length
    · obtain ⟨l, hl⟩ : ∃ l, Ls[i]? = some l := ⟨Ls[i], List.getElem?_eq_getElem hlt⟩
      obtain ⟨-, b, off, u, rfl, h1, h2, h3, h4, h5⟩ := HL.out.at hl
      obtain ⟨ua, uc, rfl⟩ := h4.shape
      have HT := Lib.hid (congrArg List.length (flatten_take hl))
      have hle := flatten_le (Ls := Ls) (i + 1)
      have hle2 := HT.out
      rw [List.length_append] at hle2
      have HT2 := Lib.hid hle2
      unfold maxLen at h2
      clear hl h4 HT hle2
      have hle3 : (Ls.take i).flatten.length + l.length ≤ 50000 := by have := HT2.out; omega
      clear hle
      generalize (Ls.take i).flatten.length = X at *
      go_wp2_with fail
      go_roundw
      case rel => exact ⟨i + 1, by omega, by go_num, congrArg (Value.int .i64) (by rw [HT2.out]; omega), by trivial⟩
      case measure => simp [intOf]; omega
    · have hie : i = Ls.length := by omega
      subst hie
      rw [List.take_length]
      obtain ⟨F, hF⟩ : ∃ F, Ls.flatten.length = F := ⟨_, rfl⟩
      rw [hF] at hs ⊢
      have HGR := Lib.hid (HG.out F (by omega))
      have HF := Lib.hid hF
      clear hF
      go_wp2_with fail
      refine (HGR.out _).mono ?_
      rintro e w1 ⟨v1, rfl, o1, g1⟩
      have HO1 := Lib.hid o1
      have HG1 := Lib.hid g1
      clear o1 g1
      go_wp2_with fail
      go_loopw [6, 27] (fun va q wr => ∃ i : Nat, i ≤ Ls.length ∧ q = .int .i64 i ∧ OwnF 38 w.heap.size (fun k => k < w.heap.size) wr va (Ls.take i).flatten ∧ w.grownBy wr none) (fun _ q _ => Ls.length - (intOf q).toNat)
      case atStart => exact ⟨0, Nat.zero_le _, rfl, by simpa using HO1.out, HG1.out⟩
      case round =>
        obtain ⟨i, hi, rfl, ho, hg⟩ := hrel
        have HO := Lib.hid ho
        have HGW := Lib.hid hg
        have hsz := hg.size
        clear ho hg HO1 HG1
        by_cases hlt : i < Ls.length
        · obtain ⟨l, hl⟩ : ∃ l, Ls[i]? = some l := ⟨Ls[i], List.getElem?_eq_getElem hlt⟩
          obtain ⟨-, b, off, u, rfl, h1, h2, h3, h4, h5⟩ := (HL.out.grown HGW.out).at hl
          have HR4 := Lib.hid h4
          obtain ⟨ua, uc, rfl⟩ := h4.shape
          have HT := Lib.hid (flatten_take hl)
          have hle := flatten_le (Ls := Ls) (i + 1)
          rw [HT.out, List.length_append, HF.out] at hle
          have hba := Lib.hid (fun k e => (HO.out.lt k e).1)
          unfold maxLen at h2
          clear hl h4
          go_wp2_with (at_builtin; refine ff.wpList_append_any rfl _ _ _ _ rfl _ Tryz.underlying27 Tryz.infoF rfl w.heap.size (fun k => k < w.heap.size) (fun k => k < w.heap.size) _ (Ls.take i).flatten l rfl HO.out _ rfl HR4.out ?c1 ?c2 ?c3 ?c4 ?_)
          case c1 => intro k hk; omega
          case c2 => intro k e hk; have := hba.out k e; omega
          case c3 => omega
          case c4 => omega
          intro v5 w5 ho5 hg5
          have HO5 := Lib.hid (ho5.more (T := fun k => k < w.heap.size) (fun k hk => by first | exact hk | exact Or.elim hk id id) (fun k hk => by have := hg5.size; omega) (fun k e => by have := (ho5.lt k e).1; omega))
          have HG5 := Lib.hid (below_to_none (below_of_only (below_of_none HGW.out) hg5 hsz (fun k e => hba.out k e)))
          clear ho5 hg5
          go_wp2_with fail
          go_roundw
          case rel => exact ⟨i + 1, by omega, by go_num, by rw [HT.out]; exact HO5.out, HG5.out⟩
          case measure => simp [intOf]; omega
        · have hie : i = Ls.length := by omega
          subst hie
          rw [List.take_length] at HO
          go_wp2_with fail
          go_ret
          exact ⟨_, rfl, HO.out, HGW.out⟩

set_option maxHeartbeats 4000000 in
set_option maxRecDepth 100000 in
theorem merge_any (Ls : List (List Tree)) (hs : sizeL Ls.flatten ≤ 50000) (w : World) (S : Nat → Prop) (v : Value) (h : Lls w S v Ls) :
    Calls Tryz.prog 18 #[v] w fun e w' => ∃ v', e = .returned (.tuple #[v', .int .i64 ((mergeR Ls).2 : Nat)]) ∧ Rd w' (fun _ => True) v' (mergeR Ls).1 ∧ w.grownBy w' none := by
  have HL := Lib.hid (lls_tight h)
  have hn : Ls.length ≤ 1000 := h.1
  have hfl : Ls.flatten.length ≤ 50000 := by have := len_size Ls.flatten; omega
  have HCC := Lib.hid (fun w1 (g : w.grownBy w1 none) => concat_any Ls hfl w1 _ v (h.grown g))
  have hv := h
  obtain ⟨-, a, cap, rfl, -⟩ := hv
  go_enter Tryz.func18, Tryz.ntmps18
  go_wp2_with fail
  go_loopw [10] (fun q wr => ∃ i : Nat, i ≤ Ls.length ∧ q = .int .i64 i ∧ (∀ (j : Nat) (x : List Tree), j < i → Ls[j]? = some x → checkL 0 0 x = 0) ∧ w.grownBy wr none) (fun q _ => Ls.length - (intOf q).toNat)
  case atStart => exact ⟨0, Nat.zero_le _, rfl, fun j x hj => by omega, only_refl _ _⟩
  case round =>
    obtain ⟨i, hi, rfl, hall, hg⟩ := hrel
    have HA := Lib.hid hall
    have HG := Lib.hid hg
    clear hall hg h
    by_cases hlt : i < Ls.length
    · obtain ⟨l, hl⟩ : ∃ l, Ls[i]? = some l := ⟨Ls[i], List.getElem?_eq_getElem hlt⟩
      have hsl := sizeL_flat_mem (List.mem_of_getElem? hl)
      obtain ⟨-, b, off, u, rfl, h1, h2, h3, h4, h5⟩ := (HL.out.grown HG.out).at hl
      have HC := Lib.hid (ff.check_any l wr _ u (by omega) h4)
      obtain ⟨ua, uc, rfl⟩ := h4.shape
      have hll := len_size l
      have hlt2 := checkL_lt _ l 0 0 (Nat.le_refl _)
      have HX := Lib.hid hl
      unfold maxLen at h2
      clear hl h4
      by_cases hc : checkL 0 0 l = 0
      · have HOK := Lib.hid hc
        rw [hc] at HC
        clear hc hlt2
        go_wp2_with fail
        refine HC.out.mono ?_
        rintro e w1 ⟨rfl, g1⟩
        have HG1 := Lib.hid (only_trans HG.out g1)
        clear g1
        go_wp2_with fail
        go_roundw
        case rel =>
          refine ⟨i + 1, by omega, by go_num, fun j x hj hx => ?_, HG1.out⟩
          by_cases hji : j < i
          · exact HA.out j x hji hx
          · obtain rfl : j = i := by omega
            rw [HX.out] at hx
            simp only [Option.some.injEq] at hx
            subst hx
            exact HOK.out
        case measure => simp [intOf]; omega
      · have HE : Hid (mergeR Ls = ([], checkL 0 0 l)) := by
          have h6 := firstErr_at HA.out HX.out hc
          show _ = _
          unfold mergeR
          rw [h6, if_pos hc]
        have HNE := Lib.hid hc
        clear hc
        generalize checkL 0 0 l = q at *
        have hqb : ((q : Int) != 0) = true := by rw [bne_iff_ne]; have := HNE.out; omega
        go_wp2_with fail
        refine HC.out.mono ?_
        rintro e w1 ⟨rfl, g1⟩
        have HG1 := Lib.hid (only_trans HG.out g1)
        clear g1
        go_wp2_with fail
        go_ret2
        rw [HE.out]
        exact ⟨_, rfl, .nil _ _, HG1.out⟩
    · have hie : i = Ls.length := by omega
      subst hie
      have hok : firstErr Ls = 0 := firstErr_all fun l hl => by
        obtain ⟨j, hj⟩ := List.getElem?_of_mem hl
        exact HA.out j l (List.getElem?_eq_some_iff.1 hj).1 hj
      have HOK := Lib.hid hok
      have HC1 := Lib.hid (HCC.out wr HG.out)
      clear hok HA
      go_wp2_with fail
      refine HC1.out.mono ?_
      rintro e w1 ⟨v1, rfl, o1, g1⟩
      have HG1 := Lib.hid (only_trans HG.out g1)
      have hb1 := Lib.hid (fun k e => (o1.lt k e).1)
      have hwz := HG.out.size
      have HS := Lib.hid (sort_any Ls.flatten w1 _ _ v1 (by omega) o1)
      clear o1 g1
      go_wp2_with fail
      refine HS.out.mono ?_
      rintro e w2 ⟨rfl, ts', hp, hpw, hr, g2⟩
      have HG2 := Lib.hid (below_to_none (below_of_only (below_of_none HG1.out) g2 HG1.out.size (fun k e => by have := hb1.out k e; omega)))
      have hsz2 : sizeL ts' ≤ 50000 := by rw [size_perm hp]; exact hs
      have HT := Lib.hid (twice_any ts' w2 _ v1 (by omega) hr)
      have HCL := Lib.hid (fun w3 (g : w2.grownBy w3 none) => ff.clone_any ts' w3 _ v1 (by omega) (hr.grown g))
      have HM : Hid (mergeR Ls = if twiceB ts' = true then ([], 14) else (ts', 0)) := by
        show _ = _
        unfold mergeR
        rw [if_neg (by rw [HOK.out]; simp), insAll_sorted hp hpw]
        cases twiceB ts' <;> rfl
      clear hp hpw hr g2
      cases htw : twiceB ts' with
      | true =>
        rw [htw] at HT HM
        clear htw
        go_wp2_with fail
        refine HT.out.mono ?_
        rintro e w3 ⟨rfl, g3⟩
        have HG3 := Lib.hid (only_trans HG2.out g3)
        clear g3
        go_wp2_with fail
        go_ret2
        rw [HM.out]
        exact ⟨_, rfl, .nil _ _, HG3.out⟩
      | false =>
        rw [htw] at HT HM
        clear htw
        go_wp2_with fail
        refine HT.out.mono ?_
        rintro e w3 ⟨rfl, g3⟩
        have HG3 := Lib.hid (only_trans HG2.out g3)
        have HC3 := Lib.hid (HCL.out w3 g3)
        clear g3
        go_wp2_with fail
        refine HC3.out.mono ?_
        rintro e w4 ⟨v4, S4, rfl, o4, hS4, -, g4⟩
        have HG4 := Lib.hid (only_trans HG3.out g4)
        have HR4 := Lib.hid (o4.rd.mono (T := fun _ => True) (fun _ _ _ => trivial))
        clear o4 hS4 g4
        go_wp2_with fail
        go_ret2
        rw [HM.out]
        exact ⟨_, rfl, HR4.out, HG4.out⟩

end Go.Proofs.YtieheclnkopfpaaGreatDoor.pp
