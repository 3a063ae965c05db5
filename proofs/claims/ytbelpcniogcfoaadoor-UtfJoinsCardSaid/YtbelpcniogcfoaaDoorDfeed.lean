/-
  deliver: the frames that wait and are whole.
-/
import Derived.Test.YtbelpcniogcfoaaDoorDeframe
namespace Go.Proofs.YtbelpcniogcfoaaDoor.df
open Go.RowKit Go.Proofs.YtbelpcniogcfoaaDoor.fm Go.Proofs.YtbelpcniogcfoaaDoor.vi Go.Proofs.YtbelpcniogcfoaaDoor.crc Go.Proofs.YtbelpcniogcfoaaDoor.cur Go.Proofs.YtbelpcniogcfoaaDoor.bd
set_option linter.unusedVariables false
set_option linter.unusedSimpArgs false

theorem str_app (R : List UInt8) (x : ByteArray) : (str R ++ x : ByteArray) = str (R ++ x.data.toList) := by
  have : (str R ++ x : ByteArray).data.toList = R ++ x.data.toList := by simp [str]
  rw [← this, str_of]
theorem str_drop (R : List UInt8) (m : Nat) : (str R).extract m (str R).size = str (R.drop m) := by
  have : ((str R).extract m (str R).size).data.toList = R.drop m := by
    rw [ext_list, str_list, str_size, List.take_of_length_le (by simp)]
  rw [← this, str_of]

/-- A list of texts is none of a builder's blocks. -/
theorem own_tyd {base : Nat} {w : World} {v : Value} {l : List (List UInt8)} (ho : Own base w v l) : ∀ k, v.ownBlock = some k → ¬ Tyd w k := fun k hk => by
  rcases ho.2 with ⟨rfl, _⟩ | ⟨g, cap, cur', rfl, _, hg, _⟩
  · cases hk
  · simp [Value.ownBlock] at hk
    subst hk
    rintro ⟨cur, t, fz, h1, h2⟩
    rw [hg] at h1
    simp only [Option.some.injEq, Obj.cells.injEq] at h1
    obtain ⟨-, rfl, -⟩ := h1
    revert h2; decide

theorem Raw.row {w w' : World} {b e k : Nat} {T : Nat → Prop} {R : List UInt8} (h : Raw w b T R e k) {base : Nat} {v : Value} {l : List (List UInt8)} (ho : Own base w v l) (hb : b < base) (g : w.grownBy w' v.ownBlock) : Raw w' b T R e k :=
  h.kept (Chg.of_grown (S := fun k => v.ownBlock = some k) g (fun k e => .inl e)) (fun e => by have := (Own.lt ho b e).1; omega) (fun j _ ht e => own_tyd ho j e ht)

theorem rest_suffix (L : List UInt8) : (restR L).length ≤ L.length := by unfold restR; simp
theorem rest_same {L : List UInt8} (h : L.length ≤ (restR L).length) : restR L = L := by
  have h1 := restR_len L
  have h2 := (ofR_bounds _ L (Nat.le_refl _)).1
  unfold restR
  rw [show L.length - (ofR L).2.2 = 0 by omega, List.drop_zero]

theorem Chg.tyd {w w2 w3 : World} {b : Nat} {T : Nat → Prop} (h : Chg (fun j => j = b ∨ (T j ∧ Tyd w j)) w w2) (g : Chg (fun j => T j ∧ Tyd w2 j) w2 w3) : Chg (fun j => j = b ∨ (T j ∧ Tyd w j)) w w3 :=
  h.trans g fun j hj => by
    by_cases hl : j < w.heap.size
    · by_cases hU : j = b ∨ (T j ∧ Tyd w j)
      · exact .inl hU
      · obtain ⟨h1, cur, t, fz, h2, h3⟩ := hj
        rw [h.block j hl hU] at h2
        exact absurd (.inr ⟨h1, cur, t, fz, h2, h3⟩) hU
    · exact .inr (by omega)

set_option maxHeartbeats 4000000 in
set_option maxRecDepth 100000 in
theorem deliver_any (w : World) (b : Nat) (T : Nat → Prop) (R0 : List UInt8) (n0 : Nat) (h : Raw w b T R0 0 n0) (hT : ∀ j, w.heap.size ≤ j → T j) (hR0 : R0.length ≤ 200000) (hn0 : n0 ≤ 200000) :
    Calls Tryd.prog 59 #[.pointer (some ⟨b, 0, none⟩)] w fun e w' =>
      ∃ v, e = .returned v ∧ Raw w' b T (restR R0) (ofR R0).2.1 (n0 + (ofR R0).1.length) ∧ Chg (fun j => j = b ∨ (T j ∧ Tyd w j)) w w' ∧ Own w.heap.size w' v (ofR R0).1 := by
  have hbw := h.lt
  have Hw := Lib.hid (waiting_any w b T R0 0 n0 h)
  have hob := ofR_bounds _ R0 (Nat.le_refl _)
  have Hwaits := Lib.hid (fun w E k h => waits_raw w b T R0 E k h)
  have Hkeep := Lib.hid (fun w E k h x hx ht => keep_any w b T R0 E k h x hx ht)
  have HTT := Lib.hid hT
  clear h hT
  go_enter Tryd.func59, Tryd.ntmps59
  go_wp2_with fail
  refine Hw.out.mono ?_
  rintro e w0 ⟨rfl, g0, hr0⟩
  have HR0 := Lib.hid hr0
  have HG0 := Lib.hid (g0.mono (T := fun j => j = b ∨ (T j ∧ Tyd w j)) (fun k h => .inl (.inr h)))
  have hsz0 := g0.size
  clear g0 hr0 Hw
  go_wp2_with fail
  go_loopw [3, 4] (fun v t wr => ∃ (R : List UInt8) (acc : List (List UInt8)), t = .string (str R) ∧ R.length + acc.length ≤ R0.length ∧ Raw wr b T R0 0 n0 ∧ Own w.heap.size wr v acc ∧ Chg (fun j => j = b ∨ (T j ∧ Tyd w j)) w wr ∧ ofR R0 = (acc ++ (ofR R).1, (ofR R).2) ∧ restR R0 = restR R) (fun _ t _ => strLen t)
  case atStart => exact ⟨R0, [], rfl, by simp, HR0.out, Own.nil _ _, HG0.out, by simp, rfl⟩
  case round =>
    obtain ⟨R, acc, rfl, hRl, hr, ho, hg, hof, hre⟩ := hrel
    have HR := Lib.hid hr
    have HO := Lib.hid ho
    have HG := Lib.hid hg
    have HOF := Lib.hid hof
    have HRE := Lib.hid hre
    have hsz := hg.size
    have hbr := hr.lt
    clear ho hg hof hre hr
    have hp := fun w => parse_any (str R) (by rw [str_size]; omega) w
    rw [str_list] at hp
    have hlt := parse_lt R
    have hpo := @parse_pos R
    have hok := fun h => (@parse_ok R h).2.2.2
    have Hsh := Lib.hid (@ofR_short R)
    have Hbad := Lib.hid (@ofR_bad R)
    have Hok := Lib.hid (@ofR_ok R)
    have Hrs := Lib.hid (@restR_short R)
    have Hro := Lib.hid (@restR_ok R)
    have Hnil := Lib.hid (show R = [] → (parseR R).2.2 = 1 from fun h => by rw [h, parse_nil])
    have hsR2 : (str R).size ≤ 200000 := by rw [str_size]; omega
    have hRs : (str R).size = R.length := str_size R
    have HDR := Lib.hid (str_drop R)
    unfold parseV at hp
    generalize parseR R = q at *
    obtain ⟨y, m, E⟩ := q
    simp only at hp hlt hpo hok
    by_cases h1 : E = 1
    · subst h1
      have e1 := Hsh.out rfl
      have e2 := Hrs.out rfl
      go_wp2_with fail
      refine (hp _).mono ?_
      rintro e w1 ⟨rfl, g1⟩
      have HR1 := HR.out.grown g1
      have HO1 := HO.out.kept g1
      have HG1 := HG.out.of_none' g1
      obtain ⟨pa, pc, hsh⟩ := row_shape HO1
      subst hsh
      have c2 := HR1.c2
      have f2 := HR1.fz 2
      have hR2 := HR1.set2 (n0 + acc.length)
      rw [show ((n0 + acc.length : Nat) : Int) = (n0 : Int) + (acc.length : Int) by omega] at hR2
      have HR2 := Lib.hid hR2
      have HO2 := Lib.hid (Own.far HO1 (only_setCell (only_refl w1 (some b)) (p := ⟨b, 2, none⟩) (.inl rfl) (.int .i64 ((n0 : Int) + (acc.length : Int)))) hbw)
      have HG2 := Lib.hid (HG1.setCell (p := ⟨b, 2, none⟩) (.inl (.inl rfl)) (.int .i64 ((n0 : Int) + (acc.length : Int))))
      clear hR2 HR1 HO1 HG1 g1
      go_wp2_with fail
      generalize w1.setCell ⟨b, 2, none⟩ (.int .i64 ((n0 : Int) + (acc.length : Int))) = w2 at *
      refine (Hwaits.out w2 _ _ HR2.out).mono ?_
      rintro e w3 ⟨rfl, g3, hr3⟩
      have HR3 := Lib.hid hr3
      have HO3 := Lib.hid (law06.own_chg HO2.out g3 (fun k e h => own_tyd HO2.out k e h.2))
      have HG3 := Lib.hid (Chg.tyd HG2.out g3)
      have hsz3 := HG3.out.size
      clear g3 hr3
      by_cases hk : (str R).size < R0.length
      · go_wp2_with fail
        refine (Hkeep.out w3 _ _ HR3.out (str R) (by omega) (fun j hj => HTT.out j (by omega))).mono ?_
        rintro e w4 ⟨rfl, g4, hr4⟩
        have HR4 := Lib.hid hr4
        have HO4 := Lib.hid (law06.own_chg HO3.out g4 (fun k e h => by have := (Own.lt HO3.out k e).1; omega))
        have HG4 := Lib.hid (HG3.out.trans g4 (fun j hj => .inl (.inl hj)))
        clear g4 hr4
        go_wp2_with fail
        go_ret
        refine ⟨_, rfl, ?_, HG4.out, ?_⟩
        · rw [HRE.out, e2, HOF.out, e1]
          simp only [List.append_nil]
          exact HR4.out
        · rw [HOF.out, e1]
          simp only [List.append_nil]
          exact HO4.out
      · have hrr : restR R0 = R0 := rest_same (by rw [HRE.out, e2]; omega)
        go_wp2_with fail
        go_ret
        refine ⟨_, rfl, ?_, HG3.out, ?_⟩
        · rw [hrr, HOF.out, e1]
          simp only [List.append_nil]
          exact HR3.out
        · rw [HOF.out, e1]
          simp only [List.append_nil]
          exact HO3.out
    · by_cases h0 : E = 0
      · subst h0
        have hmp := hpo rfl
        have hm := hok rfl
        have e1 := Hok.out rfl
        have e2 := Hro.out rfl
        have E1 := Lib.hid e1
        have E2 := Lib.hid e2
        clear e1 e2 hpo hok Hsh Hbad Hok Hrs Hro
        go_wp2_with fail
        refine (hp _).mono ?_
        rintro e w1 ⟨rfl, g1⟩
        have HO1 := Lib.hid (HO.out.kept g1)
        have HR1 := Lib.hid (HR.out.grown g1)
        have HG1 := Lib.hid (HG.out.of_none' g1)
        have hsz1 := HG1.out.size
        clear g1
        go_wp2_with (at_builtin; refine wpList_append_texts rfl (.tmp 24) (.tmp 26) rfl w.heap.size _ acc rfl (World.ownsRow.alloc HO1.out _) w1.heap.size _ [y] rfl (Own.one w1 y) ?c1 ?c2 ?_)
        case c1 => simp; omega
        case c2 => simp; omega
        intro v' w2 ho2 g2
        have hoa := World.ownsRow.alloc HO1.out (.cells #[.string (str y)] 9)
        have HR2 := Lib.hid ((HR1.out.grown (only_alloc (only_refl w1 none) (.cells #[.string (str y)] 9))).row hoa hbw g2)
        have HG2 := Lib.hid ((HG1.out.alloc (.cells #[.string (str y)] 9)).trans (Chg.of_grown (S := fun k => Value.ownBlock u3 = some k) g2 (fun k e => .inl e)) (fun k e => .inr (Own.lt HO1.out k e).1))
        have HO2 := Lib.hid ho2
        clear ho2 g2 hoa
        go_wp2_with fail
        go_roundw
        case rel => exact ⟨R.drop m, acc ++ [y], congrArg Value.string (HDR.out m), by simp; omega, HR2.out, HO2.out, HG2.out, by rw [HOF.out, E1.out]; simp, by rw [HRE.out, E2.out]⟩
        case measure => simp [strLen]; omega
      · have e1 := Hbad.out h1 h0
        have hE1 : ((E : Int) == 1) = false := by simp; omega
        have hE0 : ((E : Int) != 0) = true := by simp; omega
        have hRp : 0 < R.length := by
          rcases Nat.eq_zero_or_pos R.length with h | h
          · exact absurd (Hnil.out (List.length_eq_zero_iff.1 h)) h1
          · exact h
        have E1 := Lib.hid e1
        have hlp : 0 < R0.length := by omega
        clear e1 hpo hok Hsh Hbad Hok Hrs Hro
        go_wp2_with fail
        refine (hp _).mono ?_
        rintro e w1 ⟨rfl, g1⟩
        have HR1 := HR.out.grown g1
        have HO1 := HO.out.kept g1
        have HG1 := HG.out.of_none' g1
        obtain ⟨pa, pc, hsh⟩ := row_shape HO1
        subst hsh
        have c1 := HR1.c1
        have c2 := HR1.c2
        have f1 := HR1.fz 1
        have f2 := HR1.fz 2
        have hR2 := (HR1.set1 E).set2 (n0 + acc.length)
        rw [show ((n0 + acc.length : Nat) : Int) = (n0 : Int) + (acc.length : Int) by omega] at hR2
        have HR2 := Lib.hid hR2
        have HO2 := Lib.hid (Own.far HO1 (only_setCell (only_setCell (only_refl w1 (some b)) (p := ⟨b, 1, none⟩) (.inl rfl) (.int .i64 (E : Nat))) (p := ⟨b, 2, none⟩) (.inl rfl) (.int .i64 ((n0 : Int) + (acc.length : Int)))) hbw)
        have HG2 := Lib.hid ((HG1.setCell (p := ⟨b, 1, none⟩) (.inl (.inl rfl)) (.int .i64 (E : Nat))).setCell (p := ⟨b, 2, none⟩) (.inl (.inl rfl)) (.int .i64 ((n0 : Int) + (acc.length : Int))))
        clear hR2 HR1 HO1 HG1 g1
        go_wp2_with fail
        generalize (w1.setCell ⟨b, 1, none⟩ (.int .i64 (E : Nat))).setCell ⟨b, 2, none⟩ (.int .i64 ((n0 : Int) + (acc.length : Int))) = w2 at *
        refine (Hwaits.out w2 _ _ HR2.out).mono ?_
        rintro e w3 ⟨rfl, g3, hr3⟩
        have HR3 := Lib.hid hr3
        have HO3 := Lib.hid (law06.own_chg HO2.out g3 (fun k e h => own_tyd HO2.out k e h.2))
        have HG3 := Lib.hid (Chg.tyd HG2.out g3)
        have hsz3 := HG3.out.size
        clear g3 hr3
        go_wp2_with fail
        refine (Hkeep.out w3 _ _ HR3.out ⟨#[]⟩ (by decide) (fun j hj => HTT.out j (by omega))).mono ?_
        rintro e w4 ⟨rfl, g4, hr4⟩
        have HR4 := Lib.hid hr4
        have HO4 := Lib.hid (law06.own_chg HO3.out g4 (fun k e h => by have := (Own.lt HO3.out k e).1; omega))
        have HG4 := Lib.hid (HG3.out.trans g4 (fun j hj => .inl (.inl hj)))
        clear g4 hr4
        go_wp2_with fail
        go_ret
        have hR0e : (ofR R0).2.1 = E := by rw [HOF.out, E1.out]
        refine ⟨_, rfl, ?_, HG4.out, ?_⟩
        · rw [restR_err (by rw [hR0e]; exact h0), hR0e, HOF.out, E1.out]
          simp only [List.append_nil]
          exact HR4.out
        · rw [HOF.out, E1.out]
          simp only [List.append_nil]
          exact HO4.out

end Go.Proofs.YtbelpcniogcfoaaDoor.df
