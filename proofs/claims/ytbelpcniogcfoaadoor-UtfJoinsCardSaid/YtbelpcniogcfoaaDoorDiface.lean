/-
  What the laws of layer 6 ask of a deframer, of this one.
-/
import Derived.Test.YtbelpcniogcfoaaDoorDfeed
namespace Go.Proofs.YtbelpcniogcfoaaDoor.df
open Go.RowKit Go.Proofs.YtbelpcniogcfoaaDoor.fm Go.Proofs.YtbelpcniogcfoaaDoor.vi Go.Proofs.YtbelpcniogcfoaaDoor.crc Go.Proofs.YtbelpcniogcfoaaDoor.cur Go.Proofs.YtbelpcniogcfoaaDoor.bd
set_option linter.unusedVariables false
set_option linter.unusedSimpArgs false

/-- A deframer that was fed L; of S are the blocks that are its own. -/
structure DefP (w : World) (b : Nat) (S : Nat → Prop) (L : List UInt8) : Prop where
  raw : Raw w b S (restR L) (ofR L).2.1 (ofR L).1.length
  sb : S b
  ty : ∀ k, S k → k = b ∨ Tyd w k
  len : L.length ≤ 200000

section
variable {w w' : World} {b : Nat} {S T : Nat → Prop} {L : List UInt8}
theorem DefP.lt (h : DefP w b S L) : ∀ k, S k → k < w.heap.size := fun k hk => by
  rcases h.ty k hk with rfl | ⟨cur, t, fz, h1, -⟩
  · exact h.raw.lt
  · exact (Array.getElem?_eq_some_iff.1 h1).1
theorem DefP.kept (h : DefP w b S L) (g : Chg T w w') (hd : ∀ k, S k → ¬ T k) : DefP w' b S L := by
  have hlt := h.lt
  refine ⟨h.raw.kept g (hd b h.sb) (fun j hj _ => hd j hj), h.sb, fun k hk => ?_, h.len⟩
  rcases h.ty k hk with e | ⟨cur, t, fz, h1, h2⟩
  · exact .inl e
  · exact .inr ⟨cur, t, fz, by rw [g.block k (hlt k hk) (hd k hk), h1], h2⟩
theorem DefP.grown (h : DefP w b S L) (g : w.grownBy w' none) : DefP w' b S L := h.kept (T := fun _ => False) (Chg.of_none g) (fun _ _ e => e)
theorem DefP.types (h : DefP w b S L) : ∀ k, S k → ∃ cur t fz, w.heap[k]? = some (.cells cur t fz) ∧ t ≠ 9 ∧ t ≠ 3 := fun k hk => by
  rcases h.ty k hk with rfl | ⟨cur, t, fz, h1, h2⟩
  · obtain ⟨q, h1, -⟩ := h.raw
    exact ⟨_, _, _, h1, by decide, by decide⟩
  · refine ⟨cur, t, fz, h1, ?_⟩
    rcases h2 with rfl | rfl <;> decide
/-- The same deframer, with the blocks that are really its own. -/
theorem DefP.of (h : Raw w b T (restR L) (ofR L).2.1 (ofR L).1.length) (hb : T b) (hl : L.length ≤ 200000) : DefP w b (fun k => T k ∧ (k = b ∨ Tyd w k)) L :=
  ⟨h.mono fun j _ h1 h2 => ⟨h1, .inr h2⟩, ⟨hb, .inl rfl⟩, fun k hk => hk.2, hl⟩
end

theorem def_zero (w : World) : DefP (w.alloc (.cells #[.pointer none, .int .i64 0, .int .i64 0] 83)) w.heap.size (fun k => k = w.heap.size) [] :=
  ⟨by rw [restR_nil, ofR_nil]; exact ⟨none, heap_alloc_new w _, .inl ⟨rfl, rfl⟩⟩, rfl, fun k hk => .inl hk, by simp⟩

theorem new_any (w : World) : Calls Tryd.prog 53 #[] w fun e w' => ∃ b S, e = .returned (.pointer (some ⟨b, 0, none⟩)) ∧ DefP w' b S [] ∧ (∀ k, S k → w.heap.size ≤ k) ∧ w.grownBy w' none := by
  have hz := Lib.hid (def_zero w)
  go_enter Tryd.func53, Tryd.ntmps53
  go_wp2
  go_ret
  exact ⟨_, _, rfl, hz.out, fun k hk => by omega, only_alloc (only_refl _ _) _⟩

theorem err_any (w : World) (b : Nat) (S : Nat → Prop) (L : List UInt8) (h : DefP w b S L) :
    Calls Tryd.prog 55 #[.pointer (some ⟨b, 0, none⟩)] w fun e w' => e = .returned (.int .i64 ((ofR L).2.1 : Nat)) ∧ ∃ n, w' = w.drewN n := err_raw w b S _ _ _ h.raw

theorem waits_any (w : World) (b : Nat) (S : Nat → Prop) (L : List UInt8) (h : DefP w b S L) :
    Calls Tryd.prog 64 #[.pointer (some ⟨b, 0, none⟩)] w fun e w' => ∃ S', e = .returned (.int .i64 ((ofR L).2.2 : Nat)) ∧ DefP w' b S' L ∧ (∀ k, S' k → S k) ∧ Chg S w w' := by
  refine (waits_raw w b S _ _ _ h.raw).mono ?_
  rintro e w' ⟨rfl, g, hr⟩
  exact ⟨_, by rw [restR_len], DefP.of hr h.sb h.len, fun k hk => hk.1, g.mono fun k hk => .inl hk.1⟩

theorem cat_at (xs : List ByteArray) (i : Nat) (x : ByteArray) (h : xs[i]? = some x) : cat (xs.take (i + 1)) = cat (xs.take i) ++ x.data.toList := by
  rw [List.take_add_one, h, cat_append]
  simp [cat]
theorem cat_le (xs : List ByteArray) (i : Nat) : (cat (xs.take i)).length ≤ (cat xs).length := by
  have : cat xs = cat (xs.take i) ++ cat (xs.drop i) := by rw [← cat_append, List.take_append_drop]
  rw [this]; simp

theorem strs_chg {w w' : World} {a : Option Addr} {len cap : Nat} {xs : List ByteArray} {T : Nat → Prop} (h : Strs w a len cap xs) (g : Chg T w w') (hr : ∀ bb off, a = some ⟨bb, off, none⟩ → 0 < len → ¬ T bb) : Strs w' a len cap xs := by
  obtain ⟨h1, h2, h3⟩ := h
  refine ⟨h1, h2, ?_⟩
  rcases h3 with h | ⟨b, off, h4, h5, h6, h7⟩
  · exact .inl h
  · exact .inr ⟨b, off, h4, h5, h6, fun i x hx => g.cell (h7 i x hx) (hr b off h4 (by have := (List.getElem?_eq_some_iff.1 hx).1; omega))⟩

theorem feed_bad (w : World) (b : Nat) (S : Nat → Prop) (L : List UInt8) (a : Option Addr) (len cap : Nat) (xs : List ByteArray) (h : DefP w b S L) (hc : L.length + (cat xs).length ≤ 100000) (hz : (ofR L).2.1 ≠ 0) :
    Calls Tryd.prog 54 #[.pointer (some ⟨b, 0, none⟩), .slice a len cap] w fun e w' =>
      ∃ v S', e = .returned v ∧ DefP w' b S' (L ++ cat xs) ∧ (∀ k, S' k → S k ∨ w.heap.size ≤ k) ∧ Chg S w w' ∧ Own w.heap.size w' v ((ofR (L ++ cat xs)).1.drop (ofR L).1.length) := by
  have happ := ofR_app L (cat xs)
  rw [if_pos hz] at happ
  have hre := restR_err hz
  have hre2 : restR (L ++ cat xs) = [] := restR_err (by rw [happ]; exact hz)
  have hd : DefP w b S (L ++ cat xs) := ⟨by rw [hre2, happ, ← hre]; exact h.raw, h.sb, h.ty, by rw [List.length_append]; omega⟩
  have HD := Lib.hid hd
  have Happ := Lib.hid happ
  have HE := Lib.hid (err_any w b S L h)
  have e0 : (((ofR L).2.1 : Int) != 0) = true := by simp; omega
  have e1 : (((ofR L).2.1 : Int) == 0) = false := by simp; omega
  clear h happ hd hre hre2
  go_enter Tryd.func54, Tryd.ntmps54
  go_wp2_with fail
  refine HE.out.mono ?_
  rintro e w1 ⟨rfl, n, rfl⟩
  go_wp2_with fail
  go_ret
  exact ⟨_, S, rfl, HD.out.grown (only_drewN (only_refl _ none) _), fun k h => .inl h, (Chg.refl S w).drewN n, by rw [Happ.out, List.drop_length]; exact Own.nil _ _⟩

set_option maxHeartbeats 4000000 in
set_option maxRecDepth 100000 in
theorem feed_good (w : World) (b : Nat) (S : Nat → Prop) (L : List UInt8) (a : Option Addr) (len cap : Nat) (xs : List ByteArray) (h : DefP w b S L) (hs : Strs w a len cap xs) (hne : ∀ bb off, a = some ⟨bb, off, none⟩ → ¬ S bb) (hlen : len ≤ maxLen) (hc : L.length + (cat xs).length ≤ 100000) (hz : (ofR L).2.1 = 0) :
    Calls Tryd.prog 54 #[.pointer (some ⟨b, 0, none⟩), .slice a len cap] w fun e w' =>
      ∃ v S', e = .returned v ∧ DefP w' b S' (L ++ cat xs) ∧ (∀ k, S' k → S k ∨ w.heap.size ≤ k) ∧ Chg S w w' ∧ Own w.heap.size w' v ((ofR (L ++ cat xs)).1.drop (ofR L).1.length) := by
  have hbw := h.raw.lt
  have hrl := rest_suffix L
  have hob := (ofR_bounds _ L (Nat.le_refl _)).2.1
  have HE := Lib.hid (err_any w b S L h)
  rw [hz] at HE
  have happ := ofR_app L (cat xs)
  rw [if_neg (by simpa using hz)] at happ
  have Happ := Lib.hid happ
  have Hra := Lib.hid (restR_app L (cat xs) hz)
  have hraw := h.raw
  rw [hz] at hraw
  have hsb := h.sb
  have HSL := Lib.hid h.lt
  have HS := Lib.hid hs
  have hxl := hs.1
  have Hle := Lib.hid (cat_le xs)
  have Hne := Lib.hid hne
  have Hlow : Hid (∀ bb off, a = some ⟨bb, off, none⟩ → 0 < len → bb < w.heap.size) := fun bb off e h0 => by
    obtain ⟨h1, h2, h3⟩ := hs
    rcases h3 with h | ⟨b', off', h4, h5, h6, h7⟩
    · omega
    · rw [e] at h4
      simp only [Option.some.injEq, Addr.mk.injEq, and_true] at h4
      obtain ⟨rfl, rfl⟩ := h4
      exact World.block_lt_of_cell? w ⟨bb, off + 0, none⟩ (h7 0 (xs[0]'(by omega)) (List.getElem?_eq_getElem _))
  have Hfin := Lib.hid (fun (w' : World) (h : Raw w' b (fun j => S j ∨ w.heap.size ≤ j) (restR (L ++ cat xs)) (ofR (L ++ cat xs)).2.1 (ofR (L ++ cat xs)).1.length) => DefP.of h (.inl hsb) (by rw [List.length_append]; omega))
  rw [Happ.out, Hra.out] at Hfin
  clear h hs hne happ hz
  unfold maxLen at hlen
  generalize hR : restR L = R at *
  generalize hn0 : (ofR L).1.length = n0 at *
  have HN0 := Lib.hid hn0
  clear hR hn0
  have HRW := Lib.hid hraw
  clear hraw
  obtain ⟨T, hT⟩ : ∃ T : Nat → Prop, T = fun j => S j ∨ w.heap.size ≤ j := ⟨_, rfl⟩
  have HT := Lib.hid (show ∀ j, T j ↔ S j ∨ w.heap.size ≤ j from fun j => by rw [hT])
  rw [← hT] at Hfin
  clear hT
  go_enter Tryd.func54, Tryd.ntmps54
  go_wp2_with fail
  refine HE.out.mono ?_
  rintro e w1 ⟨rfl, n, hw1⟩
  have hg1 : w.grownBy w1 none := by rw [hw1]; exact only_drewN (only_refl _ none) _
  have hraw := HRW.out.grown hg1
  have hsz1 : w1.heap.size = w.heap.size := by rw [hw1]; rfl
  clear hw1 HE
  have hbw1 := hraw.lt
  have hfz := hraw.fz 0
  have hnt := hraw.not_tyd
  obtain ⟨q, hbk, hq⟩ := hraw
  have c0 : w1.cell? ⟨b, 0, none⟩ = some (.pointer q) := by simp [World.cell?, hbk]
  have HK := Lib.hid hbk
  have HG1 := Lib.hid hg1
  clear hbk hg1 HRW
  rcases hq with ⟨rfl, hR0⟩ | ⟨bb, rfl, hB⟩
  · obtain ⟨bb, hbb⟩ : ∃ bb, bb = w.heap.size := ⟨_, rfl⟩
    have HB : Hid (Bld ((w1.setCell ⟨b, 0, none⟩ (.pointer (some ⟨w.heap.size, 0, none⟩))).alloc (.cells #[.pointer none, .slice none 0 0] 86)) bb T R) := by
      have := Bld.new (w1.setCell ⟨b, 0, none⟩ (.pointer (some ⟨w.heap.size, 0, none⟩))) T ((HT.out _).2 (.inr (by simp [World.setCell]; omega)))
      rw [show (w1.setCell ⟨b, 0, none⟩ (.pointer (some ⟨w.heap.size, 0, none⟩))).heap.size = w.heap.size by simp [World.setCell, hsz1]] at this
      rw [hR0, hbb]
      exact this
    have HK2 : Hid (((w1.setCell ⟨b, 0, none⟩ (.pointer (some ⟨w.heap.size, 0, none⟩))).alloc (.cells #[.pointer none, .slice none 0 0] 86)).heap[b]? = some (.cells #[.pointer (some ⟨bb, 0, none⟩), .int .i64 (0 : Nat), .int .i64 (n0 : Nat)] 83 (0, 0))) := by
      show _ = _
      rw [heap_alloc_old _ _ (by simpa [World.setCell] using hbw1), hbb]
      exact blk_set0 HK.out
    have HG2 : Hid (Chg S w ((w1.setCell ⟨b, 0, none⟩ (.pointer (some ⟨w.heap.size, 0, none⟩))).alloc (.cells #[.pointer none, .slice none 0 0] 86))) :=
      ((Chg.of_none HG1.out).setCell (p := ⟨b, 0, none⟩) (.inl hsb) _).alloc _
    clear hR0
    go_wp2_with fail
    generalize (w1.setCell ⟨b, 0, none⟩ (.pointer (some ⟨w.heap.size, 0, none⟩))).alloc (.cells #[.pointer none, .slice none 0 0] 86) = wq at *
    clear HK HG1 hfz c0 hnt hbw1 hsz1 hbb
    go_loopw [22] (fun q wr => ∃ i : Nat, i ≤ len ∧ q = .int .i64 i ∧ wr.heap[b]? = some (.cells #[.pointer (some ⟨bb, 0, none⟩), .int .i64 (0 : Nat), .int .i64 (n0 : Nat)] 83 (0, 0)) ∧ Bld wr bb T (R ++ cat (xs.take i)) ∧ Chg S w wr) (fun q _ => len - (intOf q).toNat)
    case atStart => exact ⟨0, by omega, rfl, HK2.out, by rw [List.take_zero, cat, List.append_nil]; exact HB.out, HG2.out⟩
    case round =>
      obtain ⟨i, hi, rfl, hk, hb, hg⟩ := hrel
      have HKr := Lib.hid hk
      have HBr := Lib.hid hb
      have HGr := Lib.hid hg
      have HSr := Lib.hid (strs_chg HS.out hg (fun bb' off e h0 => Hne.out bb' off e))
      have hszr := hg.size
      have d0 : wr.cell? ⟨b, 0, none⟩ = some (.pointer (some ⟨bb, 0, none⟩)) := by simp [World.cell?, hk]
      have HRr : Hid (Raw wr b T (R ++ cat (xs.take i)) 0 n0) := ⟨_, hk, .inr ⟨bb, rfl, hb⟩⟩
      clear hk hb hg
      by_cases hlt : i < len
      · obtain ⟨x, hx⟩ : ∃ x, xs[i]? = some x := ⟨xs[i], List.getElem?_eq_getElem (by omega)⟩
        obtain ⟨-, -, hc3⟩ := HSr.out
        obtain ⟨ab, off, rfl, h5, h6, h7⟩ := hc3.resolve_left (by omega)
        have c1 := h7 i x hx
        have HC := Lib.hid (cat_at xs i x hx)
        have hle := Hle.out (i + 1)
        rw [HC.out, List.length_append] at hle
        have hxd : x.data.toList.length = x.size := by simp
        rw [hxd] at hle
        unfold maxLen at h6
        have HW := Lib.hid (write_any bb _ (R ++ cat (xs.take i)) x wr HBr.out.tight (by rw [List.length_append]; omega))
        clear h7 hc3
        go_wp2_with fail
        refine HW.out.mono ?_
        rintro e w2 ⟨rfl, g2, hb2⟩
        have HB2 : Hid (Bld w2 bb T (R ++ (cat (xs.take i) ++ x.data.toList))) := by
          rw [← List.append_assoc]
          exact hb2.mono (fun j _ h => by
            rcases h with h | h
            · exact h.1
            · exact (HT.out j).2 (.inr (by omega)))
        have HK3 : Hid (w2.heap[b]? = _) := (g2.block b HRr.out.lt (fun h => HRr.out.not_tyd h.2)).trans HKr.out
        have HG3 : Hid (Chg S w w2) := HGr.out.trans g2 (fun j hj => (HT.out j).1 hj.1)
        clear g2 hb2 HW
        go_wp2_with fail
        go_roundw
        case rel => exact ⟨i + 1, by omega, by go_num, HK3.out, by rw [HC.out]; exact HB2.out, HG3.out⟩
        case measure => simp [intOf]; omega
      · have hie : i = len := by omega
        subst hie
        have ht : xs.take i = xs := List.take_of_length_le (by omega)
        rw [ht] at HRr
        have HD := Lib.hid (deliver_any wr b T (R ++ cat xs) n0 HRr.out (fun j hj => (HT.out j).2 (.inr (by omega))) (by rw [List.length_append]; omega) (by omega))
        go_wp2_with fail
        refine HD.out.mono ?_
        rintro e w2 ⟨v, rfl, hr, g, ho⟩
        have HR2 := Lib.hid hr
        have HG2 := Lib.hid g
        have HO2 := Lib.hid ho
        clear hr g ho HD
        go_wp2_with fail
        go_ret
        refine ⟨v, _, rfl, Hfin.out w2 (by rw [List.length_append, HN0.out]; exact HR2.out), fun k hk => hk.1, HGr.out.trans HG2.out (fun j hj => ?_), ?_⟩
        · rcases hj with rfl | hj
          · exact .inl hsb
          · exact (HT.out j).1 hj.1
        · rw [Happ.out]
          show Own _ _ _ (((ofR L).1 ++ (ofR (R ++ cat xs)).1).drop n0)
          rw [← HN0.out, List.drop_left]
          exact HO2.out.mono hszr
  · have HB := Lib.hid (hB.mono (fun j _ h => (HT.out j).2 (.inl h)))
    have HK2 := Lib.hid HK.out
    have HG2 : Hid (Chg S w w1) := Chg.of_none HG1.out
    clear hB
    go_wp2_with fail
    clear HK HG1 hfz c0 hnt hbw1 hsz1
    go_loopw [22] (fun q wr => ∃ i : Nat, i ≤ len ∧ q = .int .i64 i ∧ wr.heap[b]? = some (.cells #[.pointer (some ⟨bb, 0, none⟩), .int .i64 (0 : Nat), .int .i64 (n0 : Nat)] 83 (0, 0)) ∧ Bld wr bb T (R ++ cat (xs.take i)) ∧ Chg S w wr) (fun q _ => len - (intOf q).toNat)
    case atStart => exact ⟨0, by omega, rfl, HK2.out, by rw [List.take_zero, cat, List.append_nil]; exact HB.out, HG2.out⟩
    case round =>
      obtain ⟨i, hi, rfl, hk, hb, hg⟩ := hrel
      have HKr := Lib.hid hk
      have HBr := Lib.hid hb
      have HGr := Lib.hid hg
      have HSr := Lib.hid (strs_chg HS.out hg (fun bb' off e h0 => Hne.out bb' off e))
      have hszr := hg.size
      have d0 : wr.cell? ⟨b, 0, none⟩ = some (.pointer (some ⟨bb, 0, none⟩)) := by simp [World.cell?, hk]
      have HRr : Hid (Raw wr b T (R ++ cat (xs.take i)) 0 n0) := ⟨_, hk, .inr ⟨bb, rfl, hb⟩⟩
      clear hk hb hg
      by_cases hlt : i < len
      · obtain ⟨x, hx⟩ : ∃ x, xs[i]? = some x := ⟨xs[i], List.getElem?_eq_getElem (by omega)⟩
        obtain ⟨-, -, hc3⟩ := HSr.out
        obtain ⟨ab, off, rfl, h5, h6, h7⟩ := hc3.resolve_left (by omega)
        have c1 := h7 i x hx
        have HC := Lib.hid (cat_at xs i x hx)
        have hle := Hle.out (i + 1)
        rw [HC.out, List.length_append] at hle
        have hxd : x.data.toList.length = x.size := by simp
        rw [hxd] at hle
        unfold maxLen at h6
        have HW := Lib.hid (write_any bb _ (R ++ cat (xs.take i)) x wr HBr.out.tight (by rw [List.length_append]; omega))
        clear h7 hc3
        go_wp2_with fail
        refine HW.out.mono ?_
        rintro e w2 ⟨rfl, g2, hb2⟩
        have HB2 : Hid (Bld w2 bb T (R ++ (cat (xs.take i) ++ x.data.toList))) := by
          rw [← List.append_assoc]
          exact hb2.mono (fun j _ h => by
            rcases h with h | h
            · exact h.1
            · exact (HT.out j).2 (.inr (by omega)))
        have HK3 : Hid (w2.heap[b]? = _) := (g2.block b HRr.out.lt (fun h => HRr.out.not_tyd h.2)).trans HKr.out
        have HG3 : Hid (Chg S w w2) := HGr.out.trans g2 (fun j hj => (HT.out j).1 hj.1)
        clear g2 hb2 HW
        go_wp2_with fail
        go_roundw
        case rel => exact ⟨i + 1, by omega, by go_num, HK3.out, by rw [HC.out]; exact HB2.out, HG3.out⟩
        case measure => simp [intOf]; omega
      · have hie : i = len := by omega
        subst hie
        have ht : xs.take i = xs := List.take_of_length_le (by omega)
        rw [ht] at HRr
        have HD := Lib.hid (deliver_any wr b T (R ++ cat xs) n0 HRr.out (fun j hj => (HT.out j).2 (.inr (by omega))) (by rw [List.length_append]; omega) (by omega))
        go_wp2_with fail
        refine HD.out.mono ?_
        rintro e w2 ⟨v, rfl, hr, g, ho⟩
        have HR2 := Lib.hid hr
        have HG2 := Lib.hid g
        have HO2 := Lib.hid ho
        clear hr g ho HD
        go_wp2_with fail
        go_ret
        refine ⟨v, _, rfl, Hfin.out w2 (by rw [List.length_append, HN0.out]; exact HR2.out), fun k hk => hk.1, HGr.out.trans HG2.out (fun j hj => ?_), ?_⟩
        · rcases hj with rfl | hj
          · exact .inl hsb
          · exact (HT.out j).1 hj.1
        · rw [Happ.out]
          show Own _ _ _ (((ofR L).1 ++ (ofR (R ++ cat xs)).1).drop n0)
          rw [← HN0.out, List.drop_left]
          exact HO2.out.mono hszr

theorem feed_any (w : World) (b : Nat) (S : Nat → Prop) (L : List UInt8) (a : Option Addr) (len cap : Nat) (xs : List ByteArray) (h : DefP w b S L) (hs : Strs w a len cap xs) (hne : ∀ bb off, a = some ⟨bb, off, none⟩ → ¬ S bb) (hlen : len ≤ maxLen) (hc : L.length + (cat xs).length ≤ 100000) :
    Calls Tryd.prog 54 #[.pointer (some ⟨b, 0, none⟩), .slice a len cap] w fun e w' =>
      ∃ v S', e = .returned v ∧ DefP w' b S' (L ++ cat xs) ∧ (∀ k, S' k → S k ∨ w.heap.size ≤ k) ∧ Chg S w w' ∧ Own w.heap.size w' v ((ofR (L ++ cat xs)).1.drop (ofR L).1.length) := by
  by_cases hz : (ofR L).2.1 = 0
  · exact feed_good w b S L a len cap xs h hs hne hlen hc hz
  · exact feed_bad w b S L a len cap xs h hc hz

end Go.Proofs.YtbelpcniogcfoaaDoor.df
