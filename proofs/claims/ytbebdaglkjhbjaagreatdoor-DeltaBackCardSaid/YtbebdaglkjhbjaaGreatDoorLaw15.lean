/-
  The laws of layer 15: awake, and what they ask.
-/
import Derived.Test.YtbebdaglkjhbjaaGreatDoorBundK
import Derived.Test.YtbebdaglkjhbjaaGreatDoorLaw13L
import Derived.Test.YtbebdaglkjhbjaaGreatDoorBundX
namespace Go.Proofs.YtbebdaglkjhbjaaGreatDoor.law15
open Go.RowKit Go.Proofs.YtbebdaglkjhbjaaGreatDoor.vi Go.Proofs.YtbebdaglkjhbjaaGreatDoor.um Go.Proofs.YtbebdaglkjhbjaaGreatDoor.wm Go.Proofs.YtbebdaglkjhbjaaGreatDoor.tr Go.Proofs.YtbebdaglkjhbjaaGreatDoor.em Go.Proofs.YtbebdaglkjhbjaaGreatDoor.rm Go.Proofs.YtbebdaglkjhbjaaGreatDoor.crc Go.Proofs.YtbebdaglkjhbjaaGreatDoor.cur Go.Proofs.YtbebdaglkjhbjaaGreatDoor.law11 Go.Proofs.YtbebdaglkjhbjaaGreatDoor.dd Go.Proofs.YtbebdaglkjhbjaaGreatDoor.dr Go.Proofs.YtbebdaglkjhbjaaGreatDoor.tm Go.Proofs.YtbebdaglkjhbjaaGreatDoor.tf Go.Proofs.YtbebdaglkjhbjaaGreatDoor.ti Go.Proofs.YtbebdaglkjhbjaaGreatDoor.rr Go.Proofs.YtbebdaglkjhbjaaGreatDoor.pk Go.Proofs.YtbebdaglkjhbjaaGreatDoor.kr Go.Proofs.YtbebdaglkjhbjaaGreatDoor.law13
set_option linter.unusedVariables false
set_option linter.unusedSimpArgs false

theorem ex_put : putK [] = ([0], 0) := by
  have e0 : enc 0 = [0] := enc_small (by omega)
  have h : checkT [] = 0 := rfl
  unfold putK textK
  rw [if_neg (by simp [h])]
  simp [rowsK, e0]
theorem putK_lt (l : List Rw) : (putK l).2 < 64 := by
  unfold putK
  split
  · exact checkT_lt l
  · simp
def rE : Rw := ⟨[eA], 5⟩
theorem ex_key : key rE = [1, 1, 97, 0] := ex_keyA
theorem ex_row : rowE rE = 0 := by
  have h : ∀ x : Ent, checkE x = 0 → checkD [x] = 0 := fun x hx => by simp [checkD, countE, walkE, hx, behindO]
  simp [rowE, rE, h eA ex_chk.1]
theorem ex_chkT : checkT [rE] = 0 := (checkT_ok _).2 ⟨by simp, by simpa using ex_row, by simp⟩
theorem ex_text : textK [rE] = [1, 0, 4, 1, 1, 97, 0, 5] := by
  have e0 : enc 0 = [0] := enc_small (by omega)
  have e1 : enc 1 = [1] := enc_small (by omega)
  have e4 : enc 4 = [4] := enc_small (by omega)
  have e5 : enc 5 = [5] := enc_small (by omega)
  have hn : rE.n = 5 := rfl
  simp [textK, rowsK, rowK, oneP, ex_key, com, e0, e1, e4, e5, hn]
theorem ex_get : getK [1, 0, 4, 1, 1, 97, 0, 5] = ([rE], 0) := by
  rw [← ex_text]
  exact getK_put ex_chkT (fun x hx => by
    obtain rfl : x = rE := by simpa using hx
    rw [ex_key]
    exact ⟨by show 5 < _; omega, by simp⟩)

set_option maxHeartbeats 2000000 in
set_option maxRecDepth 100000 in
theorem awake14_any (w : World) (hT : tb.Tab w) :
    Calls Tryz.prog 71 #[] w fun e w' => e = .returned (.bool true) ∧ w.grownBy w' none := by
  have HT := Lib.hid (fun w' (g : w.grownBy w' none) => law13.Awake_any w' (tb.kept hT g))
  have hs := law14.strs_two w ⟨#[117, 115, 101, 114]⟩ ⟨#[117, 115, 101, 114, 115]⟩ (by simp [ByteArray.size, maxLen]) (by simp [ByteArray.size, maxLen])
  have HGA := Lib.hid (only_alloc (only_refl w none) (.cells #[.string ⟨#[117, 115, 101, 114]⟩, .string ⟨#[117, 115, 101, 114, 115]⟩] 9))
  have HP := Lib.hid (px.putP_any [⟨#[117, 115, 101, 114]⟩, ⟨#[117, 115, 101, 114, 115]⟩] _ _ _ (by simp) (by intro z hz; simp at hz; rcases hz with rfl | rfl <;> simp [ByteArray.size]) hs)
  rw [law14.ex_put] at HP
  have hbe : ((txt [0, 4, 117, 115, 101, 114, 4, 1, 115]).toList == [0, 4, 117, 115, 101, 114, 4, 1, 115]) = true := by rw [ByteArray.toList_eq, txt_list]; rfl
  clear hs hT
  go_enter Tryz.func71, Tryz.ntmps71
  go_wp2_with fail
  refine HP.out.mono ?_
  rintro e w1 ⟨rfl, g1⟩
  have HG1 := Lib.hid (only_trans HGA.out g1)
  clear g1
  go_wp2_with fail
  refine (HT.out _ HG1.out).mono ?_
  rintro e w2 ⟨rfl, g2⟩
  have HG2 := Lib.hid (only_trans HG1.out g2)
  clear g2
  go_wp2_with fail
  go_ret
  exact ⟨rfl, HG2.out⟩

theorem Awake14_any (w : World) (hT : tb.Tab w) :
    Calls Tryz.prog 39 #[] w fun e w' => e = .returned (.bool true) ∧ w.grownBy w' none := by
  have HA := Lib.hid (awake14_any w hT)
  go_enter Tryz.func39, Tryz.ntmps39
  go_wp2_with fail
  refine HA.out.mono ?_
  rintro e w' ⟨rfl, g⟩
  go_wp2_with fail
  go_ret
  exact ⟨rfl, g⟩

set_option maxHeartbeats 2000000 in
set_option maxRecDepth 100000 in
theorem awake_any (w : World) (hT : tb.Tab w) :
    Calls Tryz.prog 8 #[] w fun e w' => e = .returned (.bool true) ∧ w.grownBy w' none := by
  have HT := Lib.hid (fun w' (g : w.grownBy w' none) => tb.kept hT g)
  have HP := Lib.hid (ka.put_any [] (fun _ => False) w (.slice none 0 0) (by simp) (by simp) hT (Rs.nil _ _ _ _))
  rw [ex_put] at HP
  have HG := Lib.hid (fun w1 (g : w.grownBy w1 none) => ka.get_any ⟨#[1, 0, 4, 1, 1, 97, 0, 5]⟩ w1 (by simp [ByteArray.size]) (HT.out w1 g))
  have hex : getK (⟨#[1, 0, 4, 1, 1, 97, 0, 5]⟩ : ByteArray).data.toList = ([rE], 0) := ex_get
  rw [hex] at HG
  have HA := Lib.hid (fun w1 (g : w.grownBy w1 none) => Awake14_any w1 (HT.out w1 g))
  have hbe : ((txt [0]).toList == [0]) = true := by rw [ByteArray.toList_eq, txt_list]; rfl
  clear hT hex
  go_enter Tryz.func8, Tryz.ntmps8
  go_wp2_with fail
  refine HP.out.mono ?_
  rintro e w1 ⟨rfl, g1⟩
  have G1 := Lib.hid g1
  clear g1
  go_wp2_with fail
  refine (HG.out _ G1.out).mono ?_
  rintro e w2 ⟨v2, rfl, ⟨T, o2, -⟩, g2⟩
  have G2 := Lib.hid (only_trans G1.out g2)
  obtain ⟨b, off, cap, u0, hv, -, hc1, hc2, k0, -, k1⟩ := o2.rd.at (i := 0) (r := rE) rfl
  subst hv
  have HK1 := Lib.hid (fun w3 (g : w2.grownBy w3 none) => (Chg.of_none (S := fun _ => False) g).cell k1 (fun e => e))
  clear o2 g2 k0 k1
  unfold maxLen at hc2
  have hc1 : 1 ≤ cap := hc1
  go_wp2_with fail
  refine (HA.out _ G2.out).mono ?_
  rintro e w3 ⟨rfl, g3⟩
  have G3 := Lib.hid (only_trans G2.out g3)
  have c1 : w3.cell? ⟨b, off + 1, none⟩ = some (.int .u64 5) := by have h9 := HK1.out w3 g3; rw [Nat.zero_mul, Nat.add_zero] at h9; exact h9
  clear g3
  go_wp2_with fail
  go_ret
  exact ⟨rfl, G3.out⟩

theorem Awake_any (w : World) (hT : tb.Tab w) :
    Calls Tryz.prog 61 #[] w fun e w' => e = .returned (.bool true) ∧ w.grownBy w' none := by
  have HA := Lib.hid (awake_any w hT)
  go_enter Tryz.func61, Tryz.ntmps61
  go_wp2_with fail
  refine HA.out.mono ?_
  rintro e w' ⟨rfl, g⟩
  go_wp2_with fail
  go_ret
  exact ⟨rfl, g⟩

end Go.Proofs.YtbebdaglkjhbjaaGreatDoor.law15
