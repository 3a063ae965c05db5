/-
  CrcSums, for parts that are together of at most 2^47 bytes.
-/
import Derived.Test.YtfcoiojfcepeiaaLaw04
namespace Go.Proofs.Ytfcoiojfcepeiaa.law04
open Go.RowKit Go.Proofs.Ytfcoiojfcepeiaa.crc Go.Proofs.Ytfcoiojfcepeiaa.crcm
set_option linter.unusedVariables false
set_option linter.unusedSimpArgs false

theorem join_cat : ∀ xs : List ByteArray, Lib.join (xs.map (·.data.toList)) [] = cat xs
  | [] => rfl
  | x :: r => by
    have : ∀ r : List ByteArray, Lib.joinTail [] (r.map (·.data.toList)) = cat r := by
      intro r
      induction r with
      | nil => rfl
      | cons y r ih =>
        simp only [Lib.joinTail, List.map_cons, List.flatten_cons, List.nil_append, cat] at ih ⊢
        rw [ih]
    rw [List.map_cons, Lib.join_cons, this]
    rfl

theorem join_any (a : Option Addr) (len cap : Nat) (xs : List ByteArray) (w : World) (h : Strs w a len cap xs) (hlen : len ≤ 140737488355328) (hc : (cat xs).length ≤ 140737488355328) :
    Calls Try.prog 19 #[.slice a len cap, .string ⟨#[]⟩] w fun e w' => e = .returned (.string ⟨(cat xs).toArray⟩) ∧ w.grownBy w' none := by
  obtain ⟨h1, h2, h3⟩ := h
  rcases h3 with h0 | ⟨b, off, rfl, h4, h5, h6⟩
  · subst h0
    obtain rfl : xs = [] := List.length_eq_zero_iff.1 h1
    exact (Try.strings_Join_none a cap ⟨#[]⟩ w).mono fun e w' ⟨he, hw⟩ => ⟨he, hw ▸ only_refl _ _⟩
  · by_cases h0 : len = 0
    · subst h0
      obtain rfl : xs = [] := List.length_eq_zero_iff.1 h1
      exact (Try.strings_Join_none _ cap ⟨#[]⟩ w).mono fun e w' ⟨he, hw⟩ => ⟨he, hw ▸ only_refl _ _⟩
    · have hx := h6 0 (xs[0]'(by omega)) (List.getElem?_eq_getElem _)
      have hb : b < w.heap.size := World.block_lt_of_cell? w ⟨b, off + 0, none⟩ hx
      have := Try.strings_Join b off cap xs ⟨#[]⟩ w h6 hb (by omega) (by omega) (by rw [join_cat]; exact hc)
      rw [join_cat, h1] at this
      exact this.mono fun e w' ⟨he, hw⟩ => ⟨he, only_of_below hw none⟩

theorem put_num {t : ByteArray} (h : t.size = 4) : putB (num t.data.toList) = t := by
  have hl : t.data.toList.length = 4 := by simpa using h
  have h1 := num_lt t.data.toList
  rw [hl] at h1
  have : put4 (num t.data.toList) = t.data.toList := num_inj _ _ (by rw [hl]; rfl) (num_put4 h1)
  unfold putB
  rw [this]

theorem beq_bytes (a b : ByteArray) : (a.toList == b.toList) = decide (a = b) := by
  by_cases h : a = b
  · subst h; simp
  · have : ¬ a.toList = b.toList := fun e => h (by
      rw [ByteArray.toList_eq, ByteArray.toList_eq] at e
      exact ByteArray.ext (Array.toList_inj.1 e))
    simp [h, this]

/-- What Get answers. -/
theorem get_any (t : ByteArray) (ht : t.size ≤ maxLen) : ∃ (k : Nat) (ok : Bool), k < 4294967296 ∧ (∀ w, Calls Try.prog 20 #[.string t] w fun e w' => e = .returned (.tuple #[.int .u32 k, .bool ok]) ∧ w = w') ∧
    ((ok = true ∧ t.size = 4 ∧ putB k = t) ∨ (ok = false ∧ t.size ≠ 4 ∧ k = 0)) := by
  by_cases h : t.size = 4
  · refine ⟨num t.data.toList, true, ?_, fun w => get_ok t h w, .inl ⟨rfl, h, put_num h⟩⟩
    have h1 := num_lt t.data.toList
    rw [show t.data.toList.length = 4 by simpa using h] at h1
    exact h1
  · exact ⟨0, false, by omega, fun w => get_no t ht h w, .inr ⟨rfl, h, rfl⟩⟩

set_option maxHeartbeats 1000000 in
set_option maxRecDepth 100000 in
theorem sums_early (s : ByteArray) (hs : s.size ≤ maxLen) (a : Option Addr) (len cap : Nat) (xs : List ByteArray) (hlen : len ≤ 140737488355328) (hc : (cat xs).length ≤ 140737488355328) (t : ByteArray) (ht : t.size ≤ maxLen) (n : Int)
    (hl : 3000 < s.size ∨ 60 < len ∨ 3000 < (cat xs).length ∨ 3000 < t.size) (W : World) (h : Strs W a len cap xs) :
    Calls Try.prog 4 #[.string s, .slice a len cap, .string t, .int .u32 n] W fun e w' => e = .returned (.bool true) ∧ W.grownBy w' none := by
  have HS := Lib.hid h
  clear h
  unfold maxLen at hs ht
  have hall : (⟨(cat xs).toArray⟩ : ByteArray).size = (cat xs).length := size_of_list _
  have hj := fun (w : World) (g : W.grownBy w none) => join_any a len cap xs w (HS.out.kept g) hlen hc
  generalize (⟨(cat xs).toArray⟩ : ByteArray) = all at *
  generalize (cat xs).length = m at *
  have Hj := Lib.hid hj
  clear hj
  rcases (show 3000 < s.size ∨ (¬ 3000 < s.size ∧ 60 < len) ∨ (¬ 3000 < s.size ∧ ¬ 60 < len ∧ 3000 < m) ∨ (¬ 3000 < s.size ∧ ¬ 60 < len ∧ ¬ 3000 < m ∧ 3000 < t.size) by omega) with h | ⟨h, h'⟩ | ⟨h, h', h''⟩ | ⟨h, h', h'', h'''⟩ <;> clear hl
  all_goals
    go_enter Try.func4, Try.ntmps4
    go_wp2_with (first
      | (go_at_call 18; refine (awake_any _).mono ?_; rintro e w0 ⟨rfl, g0⟩)
      | (go_at_call 19; refine (Hj.out _ g0).mono ?_; rintro e w1 ⟨rfl, g1⟩))
    go_ret
    exact ⟨rfl, only_trans g0 g1⟩

set_option maxHeartbeats 4000000 in
set_option maxRecDepth 100000 in
theorem sums_main (s : ByteArray) (hs : s.size ≤ 3000) (a : Option Addr) (len cap : Nat) (xs : List ByteArray) (hlen : len ≤ 60) (hc : (cat xs).length ≤ 3000) (t : ByteArray) (ht : t.size ≤ 3000) (n : Nat) (hn : n < 4294967296)
    (W : World) (h : Strs W a len cap xs) :
    Calls Try.prog 4 #[.string s, .slice a len cap, .string t, .int .u32 n] W fun e w' => e = .returned (.bool true) ∧ W.grownBy w' none := by
  have HS := Lib.hid h
  clear h
  have hall : (⟨(cat xs).toArray⟩ : ByteArray).size = (cat xs).length := size_of_list _
  have hj := fun (w : World) (g : W.grownBy w none) => join_any a len cap xs w (HS.out.kept g) (by omega) (by omega)
  have hsp := fun (w : World) (g : W.grownBy w none) => sum_any a len cap xs w (HS.out.kept g) (by unfold maxLen; omega)
  have hdl : (⟨(cat xs).toArray⟩ : ByteArray).data.toList = cat xs := rfl
  have hra := fun w => rsum_any ⟨(cat xs).toArray⟩ (by rw [hall]; unfold maxLen; omega) w
  rw [hdl] at hra
  have hSl : sumN s.data.toList < 4294967296 := by unfold sumN; omega
  have hmo := fun w => more_any (sumN s.data.toList) hSl ⟨(cat xs).toArray⟩ (by rw [hall]; unfold maxLen; omega) w
  have hrx := fun w => rsum_any (s ++ ⟨(cat xs).toArray⟩) (by rw [ByteArray.size_append, hall]; unfold maxLen; omega) w
  have hXe : (s ++ ⟨(cat xs).toArray⟩ : ByteArray).data.toList = s.data.toList ++ cat xs := by simp
  rw [hXe] at hrx
  rw [hdl, ← sumN_eq, moreN_append _ (by decide), sumN_eq, sumN_eq] at hmo
  obtain ⟨k, ok, hk, hgt, hgc⟩ := get_any t (by unfold maxLen; omega)
  have hpk := fun w => put_any k hk w
  have hpn := fun w => put_any n hn w
  have hrpn := fun w => rput_any n hn w
  have hgn := fun w => get_ok (putB n) rfl w
  rw [show num (putB n).data.toList = n from num_put4 hn] at hgn
  have hrs := fun w => rsum_any s (by unfold maxLen; omega) w
  have hrp := fun w => rput_any (sumN s.data.toList) hSl w
  have hs1 := fun w => sum_one s (by unfold maxLen; omega) w
  have hw4 : (putB (sumN s.data.toList)).size = 4 := rfl
  have hc1 := fun w => check_any s t (by unfold maxLen; omega) (by unfold maxLen; omega) w
  have hc2 := fun w => check_any s (putB (sumN s.data.toList)) (by unfold maxLen; omega) (by rw [hw4]; unfold maxLen; omega) w
  rw [decide_eq_true (rfl : putB (sumN s.data.toList) = putB (sumN s.data.toList))] at hc2
  rw [← hall] at hc
  generalize sumN (s.data.toList ++ cat xs) = X at *
  generalize sumN (cat xs) = A at *
  generalize (⟨(cat xs).toArray⟩ : ByteArray) = all at *
  generalize hwt : putB (sumN s.data.toList) = Wt at *
  clear hwt
  generalize sumN s.data.toList = S at *
  generalize hpb : putB n = P at *
  clear hpb
  clear hdl hXe hall
  have Hj := Lib.hid hj
  have Hsp := Lib.hid hsp
  clear hj hsp
  have hb2 := beq_bytes t Wt
  generalize decide (t = Wt) = b at *
  rcases hgc with ⟨rfl, h4, h5⟩ | ⟨rfl, h4, rfl⟩
  · rw [h5] at hpk
    have hI : ((t.size : Int) == 4) = true := by simp; omega
    clear h5
    go_enter Try.func4, Try.ntmps4
    go_wp2_with fail
    refine (awake_any _).mono ?_
    rintro e w0 ⟨rfl, G⟩
    go_wp2_with fail
    refine (Hj.out _ G).mono ?_
    rintro e w1 ⟨rfl, g⟩
    replace G := only_trans G g
    clear g
    go_wp2_with fail
    refine (hgt _).mono ?_
    rintro e w' ⟨rfl, rfl⟩
    go_wp2_with fail
    refine (hpn _).mono ?_
    rintro e w1 ⟨rfl, g⟩
    replace G := only_trans G g
    clear g
    go_wp2_with fail
    refine (hgn _).mono ?_
    rintro e w' ⟨rfl, rfl⟩
    go_wp2_with fail
    refine (hrs _).mono ?_
    rintro e w' ⟨rfl, rfl⟩
    go_wp2_with fail
    refine (hrp _).mono ?_
    rintro e w1 ⟨rfl, g⟩
    replace G := only_trans G g
    clear g
    go_wp2_with fail
    refine (hs1 _).mono ?_
    rintro e w1 ⟨rfl, g⟩
    replace G := only_trans G g
    clear g
    go_wp2_with fail
    refine (hrs _).mono ?_
    rintro e w' ⟨rfl, rfl⟩
    go_wp2_with fail
    refine (Hsp.out _ G).mono ?_
    rintro e w1 ⟨rfl, g⟩
    replace G := only_trans G g
    clear g
    go_wp2_with fail
    refine (hra _).mono ?_
    rintro e w' ⟨rfl, rfl⟩
    go_wp2_with fail
    refine (hpn _).mono ?_
    rintro e w1 ⟨rfl, g⟩
    replace G := only_trans G g
    clear g
    go_wp2_with fail
    refine (hrpn _).mono ?_
    rintro e w1 ⟨rfl, g⟩
    replace G := only_trans G g
    clear g
    go_wp2_with fail
    refine (hpk _).mono ?_
    rintro e w1 ⟨rfl, g⟩
    replace G := only_trans G g
    clear g
    go_wp2_with fail
    refine (hc1 _).mono ?_
    rintro e w1 ⟨rfl, g⟩
    replace G := only_trans G g
    clear g
    go_wp2_with fail
    refine (hc2 _).mono ?_
    rintro e w1 ⟨rfl, g⟩
    replace G := only_trans G g
    clear g
    go_wp2_with fail
    refine (hs1 _).mono ?_
    rintro e w1 ⟨rfl, g⟩
    replace G := only_trans G g
    clear g
    go_wp2_with fail
    refine (hmo _).mono ?_
    rintro e w1 ⟨rfl, g⟩
    replace G := only_trans G g
    clear g
    go_wp2_with fail
    refine (hrx _).mono ?_
    rintro e w' ⟨rfl, rfl⟩
    go_wp2_with fail
    go_ret
    exact ⟨rfl, G⟩
  · have hI : ((t.size : Int) == 4) = false := by simp; omega
    go_enter Try.func4, Try.ntmps4
    go_wp2_with fail
    refine (awake_any _).mono ?_
    rintro e w0 ⟨rfl, G⟩
    go_wp2_with fail
    refine (Hj.out _ G).mono ?_
    rintro e w1 ⟨rfl, g⟩
    replace G := only_trans G g
    clear g
    go_wp2_with fail
    refine (hgt _).mono ?_
    rintro e w' ⟨rfl, rfl⟩
    go_wp2_with fail
    refine (hpn _).mono ?_
    rintro e w1 ⟨rfl, g⟩
    replace G := only_trans G g
    clear g
    go_wp2_with fail
    refine (hgn _).mono ?_
    rintro e w' ⟨rfl, rfl⟩
    go_wp2_with fail
    refine (hrs _).mono ?_
    rintro e w' ⟨rfl, rfl⟩
    go_wp2_with fail
    refine (hrp _).mono ?_
    rintro e w1 ⟨rfl, g⟩
    replace G := only_trans G g
    clear g
    go_wp2_with fail
    refine (hs1 _).mono ?_
    rintro e w1 ⟨rfl, g⟩
    replace G := only_trans G g
    clear g
    go_wp2_with fail
    refine (hrs _).mono ?_
    rintro e w' ⟨rfl, rfl⟩
    go_wp2_with fail
    refine (Hsp.out _ G).mono ?_
    rintro e w1 ⟨rfl, g⟩
    replace G := only_trans G g
    clear g
    go_wp2_with fail
    refine (hra _).mono ?_
    rintro e w' ⟨rfl, rfl⟩
    go_wp2_with fail
    refine (hpn _).mono ?_
    rintro e w1 ⟨rfl, g⟩
    replace G := only_trans G g
    clear g
    go_wp2_with fail
    refine (hrpn _).mono ?_
    rintro e w1 ⟨rfl, g⟩
    replace G := only_trans G g
    clear g
    go_wp2_with fail
    refine (hc1 _).mono ?_
    rintro e w1 ⟨rfl, g⟩
    replace G := only_trans G g
    clear g
    go_wp2_with fail
    refine (hc2 _).mono ?_
    rintro e w1 ⟨rfl, g⟩
    replace G := only_trans G g
    clear g
    go_wp2_with fail
    refine (hs1 _).mono ?_
    rintro e w1 ⟨rfl, g⟩
    replace G := only_trans G g
    clear g
    go_wp2_with fail
    refine (hmo _).mono ?_
    rintro e w1 ⟨rfl, g⟩
    replace G := only_trans G g
    clear g
    go_wp2_with fail
    refine (hrx _).mono ?_
    rintro e w' ⟨rfl, rfl⟩
    go_wp2_with fail
    go_ret
    exact ⟨rfl, G⟩

/-- For parts that are together of at most 2^47 bytes. -/
theorem sums_any (W : World) (s : ByteArray) (hs : s.size ≤ maxLen) (a : Option Addr) (len cap : Nat) (xs : List ByteArray) (h : Strs W a len cap xs) (hlen : len ≤ 140737488355328) (hc : (cat xs).length ≤ 140737488355328) (t : ByteArray) (ht : t.size ≤ maxLen) (n : Int) (wn : (Lit.int .u32 n).wf = true) :
    Calls Try.prog 4 #[.string s, .slice a len cap, .string t, .int .u32 n] W fun e w' => e = .returned (.bool true) ∧ W.grownBy w' none := by
  have hn : 0 ≤ n ∧ n ≤ 4294967295 := by simpa [Lit.wf, IntKind.min, IntKind.max, IntKind.signed, IntKind.bits] using wn
  by_cases hl : 3000 < s.size ∨ 60 < len ∨ 3000 < (cat xs).length ∨ 3000 < t.size
  · exact sums_early s hs a len cap xs hlen hc t ht n hl W h
  · have := sums_main s (by omega) a len cap xs (by omega) (by omega) t (by omega) n.toNat (by omega) W h
    rwa [show ((n.toNat : Nat) : Int) = n by omega] at this

theorem sums_upto (W : World) (s : ByteArray) (hs : s.size ≤ maxLen) (a : Option Addr) (len cap : Nat) (xs : List ByteArray) (h : Strs W a len cap xs) (t : ByteArray) (ht : t.size ≤ maxLen) (n : Int) (wn : (Lit.int .u32 n).wf = true) (hk : (cat xs).length + len ≤ 1048576) :
    Calls Try.prog 4 #[.string s, .slice a len cap, .string t, .int .u32 n] W fun e w' => e = .returned (.bool true) ∧ W.grownBy w' none :=
  sums_any W s hs a len cap xs h (by omega) (by omega) t ht n wn

end Go.Proofs.Ytfcoiojfcepeiaa.law04
