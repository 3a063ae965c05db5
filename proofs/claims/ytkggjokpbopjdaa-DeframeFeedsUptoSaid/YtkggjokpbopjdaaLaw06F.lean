/-
  DeframeFeeds, for whatever keeps the contracts of a deframer; for pieces that are together of at most 2^47 bytes.
-/
import Derived.Test.YtkggjokpbopjdaaLaw06
import Derived.Test.YtkggjokpbopjdaaLaw04S
namespace Go.Proofs.Ytkggjokpbopjdaa.law06
open Go.RowKit Go.Proofs.Ytkggjokpbopjdaa.fm Go.Proofs.Ytkggjokpbopjdaa.vi Go.Proofs.Ytkggjokpbopjdaa.crc
set_option linter.unusedVariables false
set_option linter.unusedSimpArgs false

theorem cat_take (xs : List ByteArray) (i : Nat) (x : ByteArray) (h : xs[i]? = some x) : cat (xs.take (i + 1)) = cat (xs.take i) ++ x.data.toList := by
  rw [List.take_add_one, h, cat_append]
  simp [cat]
theorem cat_take_le (xs : List ByteArray) (i : Nat) : (cat (xs.take i)).length ≤ (cat xs).length := by
  have : cat xs = cat (xs.take i) ++ cat (xs.drop i) := by rw [← cat_append, List.take_append_drop]
  rw [this]; simp

set_option maxHeartbeats 1000000 in
set_option maxRecDepth 100000 in
theorem feeds_long (I : Iface) (a : Option Addr) (len cap : Nat) (xs : List ByteArray) (hlen : len ≤ 140737488355328) (hc : (cat xs).length ≤ 140737488355328) (W : World) (h : Strs W a len cap xs) (hl : 60 < len ∨ 4000 < (cat xs).length) :
    Calls Try.prog 6 #[.slice a len cap] W fun e w' => e = .returned (.bool true) ∧ W.grownBy w' none := by
  have hall : (⟨(cat xs).toArray⟩ : ByteArray).size = (cat xs).length := size_of_list _
  have Hj := Lib.hid (fun (w : World) (g : W.grownBy w none) => law04.join_any a len cap xs w (h.kept g) hlen hc)
  generalize (⟨(cat xs).toArray⟩ : ByteArray) = all at *
  generalize (cat xs).length = m at *
  clear h
  rcases (show 60 < len ∨ (¬ 60 < len ∧ 4000 < m) by omega) with h | ⟨h, h'⟩ <;> clear hl
  · go_enter Try.func6, Try.ntmps6
    go_wp2_with fail
    refine (awake_any I _).mono ?_
    rintro e w0 ⟨rfl, g0⟩
    go_wp2_with fail
    go_ret
    exact ⟨rfl, g0⟩
  · go_enter Try.func6, Try.ntmps6
    go_wp2_with fail
    refine (awake_any I _).mono ?_
    rintro e w0 ⟨rfl, g0⟩
    go_wp2_with fail
    refine (Hj.out _ g0).mono ?_
    rintro e w1 ⟨rfl, g1⟩
    go_wp2_with fail
    go_ret
    exact ⟨rfl, only_trans g0 g1⟩

set_option maxHeartbeats 4000000 in
set_option maxRecDepth 100000 in
theorem feeds_main (I : Iface) (a : Option Addr) (len cap : Nat) (xs : List ByteArray) (hlen : len ≤ 60) (hc : (cat xs).length ≤ 4000) (W : World) (h : Strs W a len cap xs) :
    Calls Try.prog 6 #[.slice a len cap] W fun e w' => e = .returned (.bool true) ∧ W.grownBy w' none := by
  have HS := Lib.hid h
  have hall : (⟨(cat xs).toArray⟩ : ByteArray).size = (cat xs).length := size_of_list _
  have Hj := Lib.hid (fun (w : World) (g : W.grownBy w none) => law04.join_any a len cap xs w (h.kept g) (by omega) (by omega))
  have hxl := h.1
  have Hle := Lib.hid (cat_take_le xs)
  clear h
  rw [← hall] at hc
  generalize (⟨(cat xs).toArray⟩ : ByteArray) = all at *
  have Hall := Lib.hid hall
  clear hall
  have Hnew := Lib.hid I.new
  have Hclone := Lib.hid I.clone
  have Hfeed := Lib.hid I.feed
  have Herr := Lib.hid I.err
  have Hwaits := Lib.hid I.waits
  have Hcount := Lib.hid I.count
  go_enter Try.func6, Try.ntmps6
  go_wp2_with fail
  refine (awake_any I _).mono ?_
  rintro e w0 ⟨rfl, g0⟩
  go_wp2_with fail
  refine (Hj.out _ g0).mono ?_
  rintro e w1 ⟨rfl, g1⟩
  go_wp2_with fail
  refine (Hnew.out _).mono ?_
  rintro e w2 ⟨b, S, rfl, hd, hS, g2⟩
  have G2 := Lib.hid (only_trans (only_trans g0 g1) g2)
  have HS2 : Hid (∀ k, S k → W.heap.size ≤ k) := fun k hk => by
    have h1 := hS k hk
    have h2 := (only_trans g0 g1).size
    omega
  have D2 := Lib.hid hd
  clear hd hS g0 g1 g2 Hj
  go_wp2_with fail
  go_loopw [4, 5, 26] (fun v t c wr => ∃ (i : Nat) (S : Nat → Prop), i ≤ len ∧ c = .int .i64 i ∧ t = .string (str (cat (xs.take i))) ∧ Own w2.heap.size wr v (ofR (cat (xs.take i))).1 ∧ I.Def wr b S (cat (xs.take i)) ∧ (∀ k, S k → W.heap.size ≤ k) ∧ W.grownBy wr none ∧ w2.heap.size ≤ wr.heap.size) (fun _ _ c _ => len - (intOf c).toNat)
  case atStart => exact ⟨0, S, by omega, rfl, rfl, by rw [List.take_zero, cat, ofR_nil]; exact Own.nil _ _, D2.out, HS2.out, G2.out, Nat.le_refl _⟩
  case round =>
    obtain ⟨i, S, hi, rfl, rfl, ho, hd, hSW, hg, hsz⟩ := hrel
    have HO := Lib.hid ho
    have HD := Lib.hid hd
    have HG := Lib.hid hg
    have HSW := Lib.hid hSW
    have HSL := Lib.hid (Iface.lt hd)
    clear ho hd hg hSW
    by_cases hlt : i < len
    · obtain ⟨x, hx⟩ : ∃ x, xs[i]? = some x := ⟨xs[i], List.getElem?_eq_getElem (by omega)⟩
      obtain ⟨-, hsx, hcx⟩ := HS.out.kept HG.out
      obtain ⟨ab, off, rfl, h5, h6, h7⟩ := hcx.resolve_left (by omega)
      have c1 := h7 i x hx
      have hxs := hsx x (List.mem_of_getElem? hx)
      have HT := Lib.hid (cat_take xs i x hx)
      have hll := Hle.out (i + 1)
      rw [← Hall.out, HT.out, List.length_append] at hll
      have hxdl : x.data.toList.length = x.size := by simp
      rw [hxdl] at hll
      unfold maxLen at h6
      have HX := Lib.hid hxs
      clear hsx hcx h7 hxs
      generalize hL : cat (xs.take i) = L at *
      have hLs : (str L).size = L.length := str_size L
      go_wp2_with fail
      refine (Hclone.out _ b S L HD.out).mono ?_
      rintro e w3 ⟨b', S1, S', rfl, hd3, hS1, hd3', hS3, g3⟩
      have HS1 := Lib.hid hS1
      have HSL1 := Lib.hid (fun k hk => HSL.out k (hS1 k hk))
      have HSW1 := Lib.hid (fun k hk => HSW.out k (hS1 k hk))
      clear hS1
      have D3 := Lib.hid hd3
      have C3 := Lib.hid hd3'
      have HS3 := Lib.hid hS3
      have HL3 := Lib.hid (Iface.lt hd3')
      have hsz3 := g3.size
      have HO3 := Lib.hid (own_chg HO.out g3 (Iface.far HD.out HO.out))
      have HG3 := Lib.hid (Chg.none_new HG.out g3 HSW.out)
      have HB := Lib.hid (fun k e => (Own.lt HO.out k e).2)
      clear hd3 hd3' hS3 g3
      go_wp2_with fail
      refine (Hfeed.out _ b' S' L _ _ _ _ (Iface.none C3.out (only_alloc (only_refl _ none) _)) (Strs.one ⟨#[122, 122, 122]⟩ (by decide) w3) (fun bb off e h => by have := HL3.out _ h; simp at e <;> omega) (by decide) (by rw [show (cat [(⟨#[122, 122, 122]⟩ : ByteArray)]).length = 3 from rfl]; omega)).mono ?_
      rintro e w4 ⟨v4, S4, rfl, -, -, g4, -⟩
      have g4' : Chg S' w3 w4 := (Chg.alloc (Chg.refl S' w3) (.cells #[.string ⟨#[122, 122, 122]⟩] 9)).trans' g4
      have hsz4 := g4'.size
      have HO4 := Lib.hid (own_chg HO3.out g4' (fun k e h => by have h1 := HB.out k e; have h2 := HS3.out k h; omega))
      have HD4 := Lib.hid (I.kept D3.out g4' (fun k h1 h2 => by have h3 := HSL1.out k h1; have h4 := HS3.out k h2; omega))
      have HG4 := Lib.hid (Chg.none_new HG3.out g4' (fun k h => by have h1 := HS3.out k h; have h2 := HG.out.size; omega))
      clear g4 g4'
      have hf5 := Hfeed.out _ b S1 L _ _ _ _ (Iface.none HD4.out (only_alloc (only_refl w4 none) (.cells #[.string x] 9))) (Strs.one x HX.out w4) (fun bb off e h => by have := HSL1.out _ h; simp at e <;> omega) (by decide) (by rw [cat_one, hxdl]; omega)
      rw [cat_one] at hf5
      have HF5 := Lib.hid hf5
      clear hf5
      go_wp2_with fail
      refine HF5.out.mono ?_
      rintro e w5 ⟨v5, S5, rfl, hd5, hS5, g5, o5⟩
      have g5' : Chg S1 w4 w5 := (Chg.alloc (Chg.refl S1 w4) (.cells #[.string x] 9)).trans' g5
      have HO5 := Lib.hid (own_chg HO4.out g5' (Iface.far HD4.out HO4.out))
      have HP5 := Lib.hid o5
      have HD5 := Lib.hid hd5
      have HG5 := Lib.hid (Chg.none_new HG4.out g5' HSW1.out)
      have HS5 : Hid (∀ k, S5 k → W.heap.size ≤ k) := fun k hk => by
        rcases hS5 k hk with h | h
        · exact HSW1.out k h
        · have := HG4.out.size; simp at h; omega
      have hsz5 : w2.heap.size ≤ w5.heap.size := by have := g5'.size; omega
      have hm := ofR_more L x.data.toList
      have hl1 := (ofR_bounds _ L (Nat.le_refl _)).2.1
      have hl2 := (ofR_bounds _ (L ++ x.data.toList) (Nat.le_refl _)).2.1
      rw [List.length_append, hxdl] at hl2
      have HM := Lib.hid hm
      have hdl : ((ofR (L ++ x.data.toList)).1.drop (ofR L).1.length).length ≤ 5000 := by simp; omega
      clear g5 g5' o5 hd5 hS5 HF5 hm
      go_wp2_with (at_builtin; refine wpList_append_texts rfl (.tmp 35) (.tmp 39) rfl w2.heap.size _ (ofR L).1 rfl HO5.out _ _ _ rfl HP5.out ?c1 ?c2 ?_)
      case c1 => exact hsz5
      case c2 => omega
      intro v6 w6 ho6 g6
      rw [HM.out] at ho6
      have hblk : ∀ k, Value.ownBlock u4 = some k → w2.heap.size ≤ k := fun k e => (Own.lt HO5.out k e).1
      have HD6 := Lib.hid (Iface.row HD5.out HO5.out g6)
      have HG6 := Lib.hid (below_to_none (below_of_only (below_of_none HG5.out) g6 HG5.out.size (fun k e => by have := hblk k e; have := G2.out.size; omega)))
      have HO6 := Lib.hid ho6
      have hsz6 : w2.heap.size ≤ w6.heap.size := by have := g6.size; omega
      clear ho6 g6 hblk
      have hof := rof_any (str L ++ x) (by rw [ByteArray.size_append]; omega)
      have hlist : (str L ++ x : ByteArray).data.toList = L ++ x.data.toList := by simp [str]
      rw [hlist] at hof
      have hstr : (str L ++ x : ByteArray) = str (L ++ x.data.toList) := by rw [← hlist, str_of]
      have Hof := Lib.hid hof
      have HStr := Lib.hid hstr
      have hb9 := ofR_bounds _ (L ++ x.data.toList) (Nat.le_refl _)
      rw [List.length_append, hxdl] at hb9
      clear hof hlist hstr
      have HTL := Lib.hid HT.out
      generalize hL2 : L ++ x.data.toList = L2 at *
      have hLx : (str L).size + x.size ≤ 4000 := by omega
      go_wp2_with fail
      refine (Hof.out _).mono ?_
      rintro e w7 ⟨v7, rfl, g7, o7⟩
      obtain ⟨a7, c7, rfl⟩ := row_shape o7
      have hq := equal_texts (by unfold maxLen; omega) (HO6.out.kept g7) o7
      have G7 := Lib.hid g7
      have O7 := Lib.hid o7
      clear g7 o7
      go_wp2_with fail
      refine hq.mono ?_
      rintro e w8 ⟨rfl, g8⟩
      have g68 := only_trans G7.out g8
      have HD8 := Lib.hid (Iface.none HD6.out g68)
      have HG8 := Lib.hid (only_trans HG6.out g68)
      have HO8 := Lib.hid (HO6.out.kept g68)
      have hsz8 : w2.heap.size ≤ w8.heap.size := by have := g68.size; omega
      clear hq g8 g68
      go_wp2_with fail
      refine (Herr.out _ b _ _ HD8.out).mono ?_
      rintro e w9 ⟨rfl, n1, rfl⟩
      go_wp2_with fail
      refine (Hwaits.out _ b _ _ (Iface.none HD8.out (only_drewN (only_refl _ none) _))).mono ?_
      rintro e w9 ⟨S9, rfl, hd9, hS9, g9⟩
      have g9' : Chg S5 w8 w9 := ((Chg.refl S5 w8).drewN n1).trans' g9
      have HD9 := Lib.hid hd9
      have HS9 := Lib.hid (fun k hk => HS5.out k (hS9 k hk))
      have HO9 := Lib.hid (own_chg HO8.out g9' (Iface.far HD8.out HO8.out))
      have HG9 := Lib.hid (Chg.none_new HG8.out g9' HS5.out)
      have hsz9 : w2.heap.size ≤ w9.heap.size := by have := g9'.size; omega
      clear hd9 hS9 g9 g9'
      go_wp2_with fail
      refine (Hcount.out _ b _ _ HD9.out).mono ?_
      rintro e w10 ⟨rfl, n3, rfl⟩
      go_wp2_with fail
      go_roundw
      case rel =>
        refine ⟨i + 1, S9, by omega, by go_num, ?_, ?_, ?_, HS9.out, only_drewN HG9.out _, hsz9⟩
        · rw [HT.out]; exact congrArg Value.string HStr.out
        · rw [HT.out]; exact HO9.out.kept (only_drewN (only_refl _ none) _)
        · rw [HT.out]; exact Iface.none HD9.out (only_drewN (only_refl _ none) _)
      case measure => simp [intOf]; omega
    · have hie : i = len := by omega
      subst hie
      go_wp2_with fail
      go_ret
      exact ⟨rfl, HG.out⟩

theorem feeds_upto (I : Iface) (W : World) (a : Option Addr) (len cap : Nat) (xs : List ByteArray) (h : Strs W a len cap xs) (hk : (cat xs).length + len ≤ 1048576) :
    Calls Try.prog 6 #[.slice a len cap] W fun e w' => e = .returned (.bool true) ∧ W.grownBy w' none := by
  by_cases hl : 60 < len ∨ 4000 < (cat xs).length
  · exact feeds_long I a len cap xs (by omega) (by omega) W h hl
  · exact feeds_main I a len cap xs (by omega) (by omega) W h

end Go.Proofs.Ytkggjokpbopjdaa.law06
