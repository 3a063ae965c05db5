/-
  The document's frames: Text, Wrap, Parse.
-/
import Derived.Test.YtkggjokpbopjdaaTexts
import Derived.Test.YtkggjokpbopjdaaCrcRef
import Derived.Test.YtkggjokpbopjdaaVrall
namespace Go.Proofs.Ytkggjokpbopjdaa.fm
open Go.RowKit Go.Proofs.Ytkggjokpbopjdaa.vi Go.Proofs.Ytkggjokpbopjdaa.crcm
set_option linter.unusedVariables false
set_option linter.unusedSimpArgs false

theorem fr_text (p : ByteArray) : (⟨#[81, 70]⟩ ++ encB p.size ++ p ++ crc.putB (sumN p.data.toList) : ByteArray) = str (fr p.data.toList) := by
  apply ByteArray.ext
  apply Array.ext'
  simp [str, fr, hd, encB, crc.putB]

theorem rtext_any (p : ByteArray) (hp : p.size ≤ 1000000) (w : World) :
    Calls Try.prog 33 #[.string p] w fun e w' => e = .returned (.string (str (fr p.data.toList))) ∧ w.grownBy w' none := by
  have h1 := fun w => rput_any p.size (by omega) w
  have h2 := fun w => crc.rsum_any p (by unfold maxLen; omega) w
  have hS : sumN p.data.toList < 4294967296 := by unfold sumN; omega
  have h3 := fun w => crc.rput_any (sumN p.data.toList) hS w
  have HF := Lib.hid (fr_text p)
  have h10 : (encB p.size).size ≤ 10 := by rw [show (encB p.size).size = (enc p.size).length from size_of_list _]; exact enc_len_ten (by omega)
  have h4 : (crc.putB (sumN p.data.toList)).size = 4 := rfl
  generalize encB p.size = E at *
  generalize crc.putB (sumN p.data.toList) = P at *
  go_enter Try.func33, Try.ntmps33
  go_wp2_with fail
  refine (h1 _).mono ?_
  rintro e w1 ⟨rfl, g1⟩
  go_wp2_with fail
  refine (h2 _).mono ?_
  rintro e w' ⟨rfl, rfl⟩
  go_wp2_with fail
  refine (h3 _).mono ?_
  rintro e w2 ⟨rfl, g2⟩
  go_wp2_with fail
  go_ret
  exact ⟨ret1 (congrArg Value.string HF.out), only_trans g1 g2⟩

theorem rwrap_ok (p : ByteArray) (hp : p.size ≤ 65536) (w : World) :
    Calls Try.prog 11 #[.string p] w fun e w' => e = .returned (.tuple #[.string (str (fr p.data.toList)), .int .i64 0]) ∧ w.grownBy w' none := by
  have h1 := fun w => rtext_any p (by omega) w
  go_enter Try.func11, Try.ntmps11
  go_wp2_with fail
  refine (h1 _).mono ?_
  rintro e w1 ⟨rfl, g1⟩
  go_wp2_with fail
  go_ret2
  exact ⟨rfl, g1⟩

def parseV (r : List UInt8 × Nat × Nat) : Value := .tuple #[.string (str r.1), .int .i64 r.2.1, .int .i64 r.2.2]

theorem beq_list (a b : ByteArray) : (a.toList == b.toList) = decide (a.data.toList = b.data.toList) := by
  rw [ByteArray.toList_eq, ByteArray.toList_eq]
  by_cases h : a.data.toList = b.data.toList
  · rw [decide_eq_true h, h]; simp
  · rw [decide_eq_false h]; simpa using h

theorem ext_list (s : ByteArray) (a b : Nat) : (s.extract a b).data.toList = (s.data.toList.drop a).take (b - a) := by
  simp [List.take_drop]

theorem at_ne (s : ByteArray) (j : Nat) (h : j < s.size) (b : UInt8) (B : Int) (hB : B = (b.toNat : Int)) (hb : s.data.toList.getD j 0 ≠ b) : ((s[j].toNat : Int) != B) = true := by
  subst hB
  rw [getD_bytes s j h] at hb
  have : s[j].toNat ≠ b.toNat := fun e => hb (UInt8.toNat_inj.1 e)
  simp; omega
theorem at_eq (s : ByteArray) (j : Nat) (h : j < s.size) (b : UInt8) (B : Int) (hB : B = (b.toNat : Int)) (hb : s.data.toList.getD j 0 = b) : ((s[j].toNat : Int) != B) = false := by
  subst hB
  rw [getD_bytes s j h] at hb
  rw [hb]
  simp

set_option maxHeartbeats 2000000 in
set_option maxRecDepth 100000 in
theorem rparse_any (s : ByteArray) (hs : s.size ≤ 1000000) (w : World) :
    Calls Try.prog 13 #[.string s] w fun e w' => e = .returned (parseV (parseR s.data.toList)) ∧ w.grownBy w' none := by
  have hlen : s.data.toList.length = s.size := by simp
  have hg := fun w => rget_any (s.extract 2 s.size) (by simp; unfold maxLen; omega) w
  rw [bytes_drop] at hg
  unfold getV at hg
  have hb := getR_bounds (s.data.toList.drop 2)
  have hc := parse_cases s.data.toList
  have hx := ext_list s
  rw [hlen] at hc
  rcases hc with ⟨h1, h2, hp⟩ | ⟨h1, h2, h3, hp⟩ | ⟨h1, hp⟩ | ⟨h1, h2, hp⟩ | ⟨h1, h2, h3, hc⟩
  · have e0 := at_ne s 0 h1 81 81 rfl h2
    rw [hp]
    clear hp h2 hb hg hx
    go_enter Try.func13, Try.ntmps13
    go_wp2_with fail
    go_ret3
    exact ⟨rfl, only_refl _ _⟩
  · have e0 := at_eq s 0 (by omega) 81 81 rfl h2
    have e1 := at_ne s 1 h1 70 70 rfl h3
    rw [hp]
    clear hp h2 h3 hb hg hx
    go_enter Try.func13, Try.ntmps13
    go_wp2_with fail
    go_ret3
    exact ⟨rfl, only_refl _ _⟩
  · rw [hp]
    clear hp hb hg hx
    go_enter Try.func13, Try.ntmps13
    go_wp2_with fail
    go_ret3
    exact ⟨rfl, only_refl _ _⟩
  · have e0 := at_eq s 0 (by omega) 81 81 rfl h2
    rw [hp]
    clear hp h2 hb hg hx
    go_enter Try.func13, Try.ntmps13
    go_wp2_with fail
    go_ret3
    exact ⟨rfl, only_refl _ _⟩
  · have e0 := at_eq s 0 (by omega) 81 81 rfl h2
    have e1 := at_eq s 1 (by omega) 70 70 rfl h3
    clear h2 h3
    generalize getR (s.data.toList.drop 2) = r at *
    obtain ⟨n, k, E⟩ := r
    simp only at hc hg hb
    obtain ⟨hb1, -, hb3, hb4, hb5⟩ := hb
    rcases hc with ⟨h4, hp⟩ | ⟨rfl, h5, hp⟩ | ⟨rfl, h5, h6, hp⟩ | ⟨rfl, h5, h6, hc⟩
    · have e2 : ((E : Int) != 0) = true := by simp; omega
      rw [hp]
      clear hp hx
      go_enter Try.func13, Try.ntmps13
      go_wp2_with fail
      refine (hg _).mono ?_
      rintro e w' ⟨rfl, rfl⟩
      go_wp2_with fail
      go_ret3
      exact ⟨rfl, only_refl _ _⟩
    · rw [hp]
      clear hp hx
      go_enter Try.func13, Try.ntmps13
      go_wp2_with fail
      refine (hg _).mono ?_
      rintro e w' ⟨rfl, rfl⟩
      go_wp2_with fail
      go_ret3
      exact ⟨rfl, only_refl _ _⟩
    · rw [hp]
      clear hp hx
      go_enter Try.func13, Try.ntmps13
      go_wp2_with fail
      refine (hg _).mono ?_
      rintro e w' ⟨rfl, rfl⟩
      go_wp2_with fail
      go_ret3
      exact ⟨rfl, only_refl _ _⟩
    · obtain ⟨f, hf⟩ : ∃ f, f = 2 + k := ⟨_, rfl⟩
      obtain ⟨t, ht⟩ : ∃ t, t = f + n := ⟨_, rfl⟩
      obtain ⟨u, hu⟩ : ∃ u, u = t + 4 := ⟨_, rfl⟩
      have he1 : (2 : Int) + (k : Int) = (f : Int) := by omega
      have he2 : (f : Int) + (n : Int) = (t : Int) := by omega
      have he3 : (t : Int) + 4 = (u : Int) := by omega
      have hx1 := hx f t
      have hx2 := hx 0 u
      rw [show t - f = n by omega] at hx1
      rw [List.drop_zero, show u - 0 = u by omega] at hx2
      rw [show 2 + k + n + 4 = u by omega, show 2 + k = f by omega, ← hx1, ← hx2] at hc
      have hfu : u ≤ s.size := by omega
      have htx := fun w => rtext_any (s.extract f t) (by simp; omega) w
      have hps : str (s.extract f t).data.toList = s.extract f t := str_of _
      have hsl := fun w => run_slice_string (P := Try.prog) (w := w) 9 s .i64 .i64 (f : Int) (t : Int) Try.underlying9 (by omega) (by omega) (by omega)
      rw [Int.toNat_natCast, Int.toNat_natCast] at hsl
      have HP := Lib.hid hps
      have hft : f ≤ t := by omega
      have htu : t ≤ u := by omega
      have hu4 : 4 ≤ u := by omega
      clear hf ht hu
      rcases hc with ⟨-, h7, hp⟩ | ⟨-, h7, hp⟩
      · rw [hp]
        have hcmp : ((str (fr (s.extract f t).data.toList)).toList == (s.extract 0 u).toList) = true := by rw [beq_list, str_list, h7]; simp
        clear hp hx hx1 hx2 h7 hps
        generalize str (fr (s.extract f t).data.toList) = F at *
        go_enter Try.func13, Try.ntmps13
        go_wp2_with fail
        refine (hg _).mono ?_
        rintro e w' ⟨rfl, rfl⟩
        go_wp2_with fail
        refine wp_region_gw w none (by kernel_rfl) (by kernel_rfl) (only_refl _ _) ?_
        repeat (go_big_quiet_step ((go_at_call 33; exact calls_gw (htx _))))
        refine wpQuiet_nil ?_
        rintro _ ⟨⟨w', hw'⟩, rfl⟩
        go_wp2_with fail
        go_ret3
        exact ⟨ret3 (congrArg Value.string HP.out.symm) rfl rfl, hw'⟩
      · rw [hp]
        have hcmp : ((str (fr (s.extract f t).data.toList)).toList == (s.extract 0 u).toList) = false := by rw [beq_list, str_list]; exact decide_eq_false (fun h => h7 h.symm)
        clear hp hx hx1 hx2 h7 hps
        generalize str (fr (s.extract f t).data.toList) = F at *
        go_enter Try.func13, Try.ntmps13
        go_wp2_with fail
        refine (hg _).mono ?_
        rintro e w' ⟨rfl, rfl⟩
        go_wp2_with fail
        refine wp_region_gw w none (by kernel_rfl) (by kernel_rfl) (only_refl _ _) ?_
        repeat (go_big_quiet_step ((go_at_call 33; exact calls_gw (htx _))))
        refine wpQuiet_nil ?_
        rintro _ ⟨⟨w', hw'⟩, rfl⟩
        go_wp2_with fail
        go_ret3
        exact ⟨rfl, hw'⟩

end Go.Proofs.Ytkggjokpbopjdaa.fm
