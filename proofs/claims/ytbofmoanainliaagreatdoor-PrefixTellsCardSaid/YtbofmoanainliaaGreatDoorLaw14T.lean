/-
  The law PrefixTells, against package prefix's contracts.
-/
import Derived.Test.YtbofmoanainliaaGreatDoorBundX
namespace Go.Proofs.YtbofmoanainliaaGreatDoor.law14
open Go.RowKit Go.Proofs.YtbofmoanainliaaGreatDoor.cur Go.Proofs.YtbofmoanainliaaGreatDoor.vi Go.Proofs.YtbofmoanainliaaGreatDoor.um Go.Proofs.YtbofmoanainliaaGreatDoor.wm Go.Proofs.YtbofmoanainliaaGreatDoor.tr Go.Proofs.YtbofmoanainliaaGreatDoor.em Go.Proofs.YtbofmoanainliaaGreatDoor.rm Go.Proofs.YtbofmoanainliaaGreatDoor.fm Go.Proofs.YtbofmoanainliaaGreatDoor.crc Go.Proofs.YtbofmoanainliaaGreatDoor.rr Go.Proofs.YtbofmoanainliaaGreatDoor.pl
set_option linter.unusedVariables false
set_option linter.unusedSimpArgs false

set_option maxHeartbeats 8000000 in
set_option maxRecDepth 100000 in
theorem tells_any (I : PI) (W : World) (hT : I.Tab W) (xs : List ByteArray) (a0 : Option Addr) (cap : Nat) (a s : ByteArray) (f : Bool) (hl : xs.length ≤ maxLen) (ha : a.size ≤ maxLen) (hs : s.size ≤ maxLen) (h : Strs W a0 xs.length cap xs) :
    Calls Tryz.prog 6 #[.slice a0 xs.length cap, .string a, .string s, .bool f] W fun e w' => e = .returned (.bool true) ∧ W.grownBy w' none := by
  have HA := Lib.hid (awake_any I.toPCore W hT)
  have HS := Lib.hid h
  have HF := Lib.hid (fun w (g : W.grownBy w none) => few_any xs w a0 cap hl (h.kept g))
  unfold maxLen at hs hl ha
  clear hT h
  cases hf : fewP xs with
  | false =>
    rw [hf] at HF
    go_enter Tryz.func6, Tryz.ntmps6
    go_wp2_with fail
    refine HA.out.mono ?_
    rintro e w1 ⟨rfl, g1⟩
    have G1 := Lib.hid g1
    clear g1
    go_wp2_with fail
    refine (HF.out _ G1.out).mono ?_
    rintro e w2 ⟨rfl, g2⟩
    go_wp2_with fail
    go_ret
    exact ⟨rfl, only_trans G1.out g2⟩
  | true =>
    rw [hf] at HF
    by_cases hb1 : (300 : Int) < a.size
    · go_enter Tryz.func6, Tryz.ntmps6
      go_wp2_with fail
      refine HA.out.mono ?_
      rintro e w1 ⟨rfl, g1⟩
      have G1 := Lib.hid g1
      clear g1
      go_wp2_with fail
      refine (HF.out _ G1.out).mono ?_
      rintro e w2 ⟨rfl, g2⟩
      go_wp2_with fail
      go_ret
      exact ⟨rfl, only_trans G1.out g2⟩
    · by_cases hb : (3000 : Int) < s.size
      · go_enter Tryz.func6, Tryz.ntmps6
        go_wp2_with fail
        refine HA.out.mono ?_
        rintro e w1 ⟨rfl, g1⟩
        have G1 := Lib.hid g1
        clear g1
        go_wp2_with fail
        refine (HF.out _ G1.out).mono ?_
        rintro e w2 ⟨rfl, g2⟩
        go_wp2_with fail
        go_ret
        exact ⟨rfl, only_trans G1.out g2⟩
      · obtain ⟨f1, f2⟩ := few_facts hf
        have F2 := Lib.hid f2
        clear hf f2
        have HP := Lib.hid (fun w (g : W.grownBy w none) => I.put xs w a0 cap (by omega) (fun x hx => by have := F2.out x hx; omega) (HS.out.kept g))
        have HRP := Lib.hid (fun w (g : W.grownBy w none) => rputP_any xs w a0 cap (by omega) (fun x hx => by have := F2.out x hx; omega) (HS.out.kept g))
        have HL := Lib.hid (fun w => I.all s w (by omega))
        have HRL := Lib.hid (fun w => rallP_any s (by omega) w)
        have HN := Lib.hid (fun w1 w b (hw : w1.grownBy w none) hb hc => I.next w1 w b s 0 a f hw hb hc (by omega) (by omega))
        have hrn : ∀ w, Calls Tryz.prog 32 #[.string s, .string a, .bool f] w fun e w' => e = .returned (.tuple #[.string (txt (nextP s.data.toList a.data.toList f).1), .string (txt (nextP s.data.toList a.data.toList f).2.1), .int .i64 ((nextP s.data.toList a.data.toList f).2.2 : Nat)]) ∧ w.grownBy w' none := fun w => by
          have := rnext_txt s.data.toList a.data.toList f (by simp; omega) w
          rw [txt_of, txt_of] at this
          exact this
        have HRN := Lib.hid hrn
        have HNN := Lib.hid (fun w => I.next_nil a f w)
        have Hal := Lib.hid (show (allP s.size none s.data.toList).1.length ≤ maxLen by have := (allP_small s.size none s.data.toList).1; simp at this; unfold maxLen; omega)
        have hcd := nextP_code s.data.toList a.data.toList f
        rw [List.drop_zero] at HN
        clear hrn
        generalize putP none (ls xs) = PW at *
        generalize allP s.size none s.data.toList = AW at *
        generalize nextP s.data.toList a.data.toList f = NW at *
        obtain ⟨pw, pc⟩ := PW
        obtain ⟨al, ac⟩ := AW
        obtain ⟨nt, nr, nc⟩ := NW
        simp only at HP HRP HL HRL HN HRN Hal hcd
        generalize txt pw = pt at *
        generalize txt nt = tt at *
        go_enter Tryz.func6, Tryz.ntmps6
        go_wp2_with fail
        refine HA.out.mono ?_
        rintro e w1 ⟨rfl, g1⟩
        have G1 := Lib.hid g1
        clear g1
        go_wp2_with fail
        refine (HF.out _ G1.out).mono ?_
        rintro e w2 ⟨rfl, g2⟩
        have G2 := Lib.hid (only_trans G1.out g2)
        clear g2
        go_wp2_with fail
        refine (HP.out _ G2.out).mono ?_
        rintro e w3 ⟨rfl, g3⟩
        have G3 := Lib.hid (only_trans G2.out g3)
        clear g3
        go_wp2_with fail
        refine (HRP.out _ G3.out).mono ?_
        rintro e w4 ⟨rfl, g4⟩
        have G4 := Lib.hid (only_trans G3.out g4)
        clear g4
        go_wp2_with fail
        refine (HL.out _).mono ?_
        rintro e w5 ⟨v5, rfl, o5, g5⟩
        have G5 := Lib.hid (only_trans G4.out g5)
        have O5 := Lib.hid o5
        obtain ⟨a5, c5, rfl⟩ := own_shape o5
        clear o5 g5
        go_wp2_with fail
        refine (HRL.out _).mono ?_
        rintro e w6 ⟨v6, rfl, o6, g6⟩
        have G6 := Lib.hid (only_trans G5.out g6)
        have O56 := Lib.hid (O5.out.kept g6)
        have O6 := Lib.hid o6
        obtain ⟨a6, c6, rfl⟩ := own_shape o6
        clear o6 g6
        go_wp2_with fail
        refine (over_any s w6).mono ?_
        rintro e w7 ⟨rfl, rfl⟩
        have C7 := Cur.new s (by unfold maxLen; omega) w6
        have GA := only_alloc (only_refl w6 none) (.cells #[.string s, .int .i64 0] 106)
        have HN2 := Lib.hid (HN.out w6 _ w6.heap.size GA (Nat.le_refl _) C7)
        clear C7 GA
        go_wp2_with fail
        refine HN2.out.mono ?_
        rintro e w8 ⟨k, rfl, c8, hc8, g8⟩
        have C8 := Lib.hid c8
        have HC8 := Lib.hid hc8
        have G8 := Lib.hid (only_trans G6.out g8)
        have K8 := Lib.hid g8
        have hB : w6.heap.size < w8.heap.size := c8.lt
        clear c8 hc8 g8
        go_wp2_with fail
        refine (HRN.out _).mono ?_
        rintro e w9 ⟨rfl, g9⟩
        have C9 := Lib.hid (C8.out.kept g9 (by simp))
        have G9 := Lib.hid (only_trans G8.out g9)
        have K9 := Lib.hid (only_trans K8.out g9)
        clear g9
        go_wp2_with fail
        refine (HNN.out _).mono ?_
        rintro e wa ⟨rfl, ga⟩
        have CA := Lib.hid (C9.out.kept ga (by simp))
        have GA := Lib.hid (only_trans G9.out ga)
        have KA := Lib.hid (only_trans K9.out ga)
        clear ga
        go_wp2_with fail
        refine (equal_texts Hal.out (O56.out.kept KA.out) (O6.out.kept KA.out)).mono ?_
        rintro e wb ⟨rfl, gb⟩
        have CB := Lib.hid (CA.out.kept gb (by simp))
        have GB := Lib.hid (only_trans GA.out gb)
        clear gb
        by_cases hq : nc = 0
        · subst hq
          have hrest : txt nr = s.extract k s.size := by rw [← HC8.out rfl, txt_rest]
          rw [hrest]
          clear HC8 hrest
          go_wp2_with fail
          refine (rest_some CB.out).mono ?_
          rintro e wc ⟨rfl, n0, rfl⟩
          have GT := Lib.hid (only_drewN GB.out n0)
          go_wp2_with fail
          go_loopw [130] (fun q wr => ∃ i : Nat, i ≤ xs.length ∧ q = .int .i64 i ∧ W.grownBy wr none) (fun q _ => xs.length - (intOf q).toNat)
          case atStart => exact ⟨0, Nat.zero_le _, rfl, GT.out⟩
          case round =>
            obtain ⟨i, hi, rfl, hg⟩ := hrel
            have HG := Lib.hid hg
            clear hg
            by_cases hlt : i < xs.length
            · obtain ⟨x, hx⟩ : ∃ x, xs[i]? = some x := ⟨xs[i], List.getElem?_eq_getElem hlt⟩
              obtain ⟨-, -, hc⟩ := HS.out.kept HG.out
              obtain ⟨b, off, rfl, h5, h6, h7⟩ := hc.resolve_left (by omega)
              unfold maxLen at h6
              have c1 := h7 _ _ hx
              have hxs := F2.out x (List.mem_of_getElem? hx)
              have HCA := Lib.hid (fun w => I.common a x w (by omega) (by omega))
              have HRC := Lib.hid (fun w => rcom_any a x (by omega) (by omega) w)
              have HOA := Lib.hid (fun w => I.one a x w (by omega) (by omega))
              have HRO := Lib.hid (fun w => rone_any a x (by omega) (by omega) w)
              clear h7 hx hc
              generalize com a.data.toList x.data.toList = cm at *
              generalize txt (oneP a.data.toList x.data.toList) = om at *
              go_wp2_with fail
              refine (HCA.out _).mono ?_
              rintro e wa1 ⟨rfl, gk0⟩
              have GK0 := Lib.hid (only_trans HG.out gk0)
              clear gk0
              go_wp2_with fail
              refine (HRC.out _).mono ?_
              rintro e wa2 ⟨rfl, gk1⟩
              have GK1 := Lib.hid (only_trans GK0.out gk1)
              clear gk1
              go_wp2_with fail
              refine (HOA.out _).mono ?_
              rintro e wa3 ⟨rfl, gk2⟩
              have GK2 := Lib.hid (only_trans GK1.out gk2)
              clear gk2
              go_wp2_with fail
              refine (HRO.out _).mono ?_
              rintro e wa4 ⟨rfl, gk3⟩
              have GK3 := Lib.hid (only_trans GK2.out gk3)
              clear gk3
              go_wp2_with fail
              go_roundw
              case rel => exact ⟨i + 1, by omega, by go_num, GK3.out⟩
              case measure => simp [intOf]; omega
            · have hie : i = xs.length := by omega
              subst hie
              go_wp2_with fail
              go_ret
              exact ⟨rfl, HG.out⟩
        · have hqb : ((nc : Int) == 0) = false := by rw [beq_eq_false_iff_ne]; omega
          have GT := GB
          clear HC8
          go_wp2_with fail
          go_loopw [130] (fun q wr => ∃ i : Nat, i ≤ xs.length ∧ q = .int .i64 i ∧ W.grownBy wr none) (fun q _ => xs.length - (intOf q).toNat)
          case atStart => exact ⟨0, Nat.zero_le _, rfl, GT.out⟩
          case round =>
            obtain ⟨i, hi, rfl, hg⟩ := hrel
            have HG := Lib.hid hg
            clear hg
            by_cases hlt : i < xs.length
            · obtain ⟨x, hx⟩ : ∃ x, xs[i]? = some x := ⟨xs[i], List.getElem?_eq_getElem hlt⟩
              obtain ⟨-, -, hc⟩ := HS.out.kept HG.out
              obtain ⟨b, off, rfl, h5, h6, h7⟩ := hc.resolve_left (by omega)
              unfold maxLen at h6
              have c1 := h7 _ _ hx
              have hxs := F2.out x (List.mem_of_getElem? hx)
              have HCA := Lib.hid (fun w => I.common a x w (by omega) (by omega))
              have HRC := Lib.hid (fun w => rcom_any a x (by omega) (by omega) w)
              have HOA := Lib.hid (fun w => I.one a x w (by omega) (by omega))
              have HRO := Lib.hid (fun w => rone_any a x (by omega) (by omega) w)
              clear h7 hx hc
              generalize com a.data.toList x.data.toList = cm at *
              generalize txt (oneP a.data.toList x.data.toList) = om at *
              go_wp2_with fail
              refine (HCA.out _).mono ?_
              rintro e wa1 ⟨rfl, gk0⟩
              have GK0 := Lib.hid (only_trans HG.out gk0)
              clear gk0
              go_wp2_with fail
              refine (HRC.out _).mono ?_
              rintro e wa2 ⟨rfl, gk1⟩
              have GK1 := Lib.hid (only_trans GK0.out gk1)
              clear gk1
              go_wp2_with fail
              refine (HOA.out _).mono ?_
              rintro e wa3 ⟨rfl, gk2⟩
              have GK2 := Lib.hid (only_trans GK1.out gk2)
              clear gk2
              go_wp2_with fail
              refine (HRO.out _).mono ?_
              rintro e wa4 ⟨rfl, gk3⟩
              have GK3 := Lib.hid (only_trans GK2.out gk3)
              clear gk3
              go_wp2_with fail
              go_roundw
              case rel => exact ⟨i + 1, by omega, by go_num, GK3.out⟩
              case measure => simp [intOf]; omega
            · have hie : i = xs.length := by omega
              subst hie
              go_wp2_with fail
              go_ret
              exact ⟨rfl, HG.out⟩

end Go.Proofs.YtbofmoanainliaaGreatDoor.law14
