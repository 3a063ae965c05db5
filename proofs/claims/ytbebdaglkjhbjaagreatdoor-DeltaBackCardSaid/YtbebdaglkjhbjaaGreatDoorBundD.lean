/-
  Dof, Law06, Deframe, Dfeed, Diface, Dcore
-/
import Derived.Test.YtbebdaglkjhbjaaGreatDoorBundC
import Derived.Test.YtbebdaglkjhbjaaGreatDoorBundB
import Derived.Test.YtbebdaglkjhbjaaGreatDoorBundA

/-
  The document's stream: Of.
-/
namespace Go.Proofs.YtbebdaglkjhbjaaGreatDoor.fm
open Go.RowKit Go.Proofs.YtbebdaglkjhbjaaGreatDoor.vi Go.Proofs.YtbebdaglkjhbjaaGreatDoor.cur
set_option linter.unusedVariables false
set_option linter.unusedSimpArgs false

end Go.Proofs.YtbebdaglkjhbjaaGreatDoor.fm

/-
  The statements of layer 6, for whatever keeps the contracts of a deframer.
-/
namespace Go.Proofs.YtbebdaglkjhbjaaGreatDoor.law06
open Go.RowKit Go.Proofs.YtbebdaglkjhbjaaGreatDoor.fm Go.Proofs.YtbebdaglkjhbjaaGreatDoor.vi Go.Proofs.YtbebdaglkjhbjaaGreatDoor.crc
set_option linter.unusedVariables false
set_option linter.unusedSimpArgs false

theorem ofR_more (L M : List UInt8) : (ofR L).1 ++ (ofR (L ++ M)).1.drop (ofR L).1.length = (ofR (L ++ M)).1 := by
  rw [ofR_app]
  split
  · simp
  · simp

/-- What layer 6's own test of itself asks of a deframer: a state that holds of a block, of the blocks that are its own, and of all bytes that it was fed. -/
structure Core where
  Def : World → Nat → (Nat → Prop) → List UInt8 → Prop
  ty : ∀ {w : World} {b : Nat} {S : Nat → Prop} {L : List UInt8}, Def w b S L → ∀ k, S k → ∃ cur t fz, w.heap[k]? = some (.cells cur t fz) ∧ t ≠ 9 ∧ t ≠ 3
  kept : ∀ {w w' : World} {b : Nat} {S T : Nat → Prop} {L : List UInt8}, Def w b S L → Chg T w w' → (∀ k, S k → ¬ T k) → Def w' b S L
  new : ∀ w : World, Calls Tryz.prog 219 #[] w fun e w' => ∃ b S, e = .returned (.pointer (some ⟨b, 0, none⟩)) ∧ Def w' b S [] ∧ (∀ k, S k → w.heap.size ≤ k) ∧ w.grownBy w' none
  feed : ∀ (w : World) (b : Nat) (S : Nat → Prop) (L : List UInt8) (a : Option Addr) (len cap : Nat) (xs : List ByteArray), Def w b S L → Strs w a len cap xs → (∀ bb off, a = some ⟨bb, off, none⟩ → ¬ S bb) → len ≤ maxLen → L.length + (cat xs).length ≤ 100000 →
    Calls Tryz.prog 220 #[.pointer (some ⟨b, 0, none⟩), .slice a len cap] w fun e w' => ∃ v S', e = .returned v ∧ Def w' b S' (L ++ cat xs) ∧ (∀ k, S' k → S k ∨ w.heap.size ≤ k) ∧ Chg S w w' ∧ Own w.heap.size w' v ((ofR (L ++ cat xs)).1.drop (ofR L).1.length)
  err : ∀ (w : World) (b : Nat) (S : Nat → Prop) (L : List UInt8), Def w b S L → Calls Tryz.prog 221 #[.pointer (some ⟨b, 0, none⟩)] w fun e w' => e = .returned (.int .i64 ((ofR L).2.1 : Nat)) ∧ ∃ n, w' = w.drewN n

section
variable {I : Core} {w w' : World} {b : Nat} {S T : Nat → Prop} {L : List UInt8}
theorem Core.lt (h : I.Def w b S L) : ∀ k, S k → k < w.heap.size := fun k hk => by
  obtain ⟨cur, t, fz, h1, -⟩ := I.ty h k hk
  exact (Array.getElem?_eq_some_iff.1 h1).1
theorem Core.none (h : I.Def w b S L) (g : w.grownBy w' none) : I.Def w' b S L := I.kept h (Chg.of_none (S := fun _ => False) g) (fun _ _ e => e)
end

theorem own_chg {w w' : World} {T : Nat → Prop} {base : Nat} {v : Value} {l : List (List UInt8)} (ho : Own base w v l) (g : Chg T w w') (hv : ∀ k, v.ownBlock = some k → ¬ T k) : Own base w' v l := g.ownsRow ho hv

theorem Awake05_any (w : World) :
    Calls Tryz.prog 222 #[] w fun e w' => e = .returned (.bool true) ∧ w.grownBy w' none := by
  go_enter Tryz.func222, Tryz.ntmps222
  go_wp2_with (go_at_call 224; refine (law05.awake_any _).mono ?_; rintro e w' ⟨rfl, g⟩)
  go_ret
  exact ⟨rfl, g⟩

theorem ofR_51 : ofR [81] = ([], 0, 1) := by
  rw [ofR_short (by unfold parseR; simp)]; rfl
theorem ofR_5147 : ofR [81, 71] = ([], 5, 0) := by
  have h : parseR [81, 71] = ([], 0, 5) := by unfold parseR; simp
  rw [ofR_bad (by rw [h]; decide) (by rw [h]; decide), h]

set_option maxHeartbeats 1000000 in
set_option maxRecDepth 100000 in
theorem awake_any (I : Core) (w : World) :
    Calls Tryz.prog 218 #[] w fun e w' => e = .returned (.bool true) ∧ w.grownBy w' none := by
  have Hnew := Lib.hid I.new
  have Herr := Lib.hid I.err
  have Hfeed := Lib.hid I.feed
  go_enter Tryz.func218, Tryz.ntmps218
  go_wp2_with fail
  refine (Hnew.out _).mono ?_
  rintro e w1 ⟨b, S, rfl, hd, hS, g1⟩
  have D1 := Lib.hid hd
  have G1 := Lib.hid g1
  have HS := Lib.hid hS
  have HL1 := Lib.hid (Core.lt hd)
  clear hd g1 hS
  go_wp2_with fail
  refine (Hfeed.out _ b S [] _ _ _ _ (Core.none D1.out (only_alloc (only_refl _ none) _)) (Strs.one ⟨#[81]⟩ (by decide) w1) (fun bb off e h => by have := HL1.out _ h; simp at e <;> omega) (by decide) (by decide)).mono ?_
  rintro e w2 ⟨v, S2, rfl, hd2, hS2, g2, o2⟩
  have D2 := Lib.hid hd2
  have HS2 : Hid (∀ k, S2 k → w.heap.size ≤ k) := fun k hk => by
    have h1 := G1.out.size
    rcases hS2 k hk with h | h
    · exact HS.out k h
    · simp at h; omega
  have G2 : Hid (w.grownBy w2 none) := Chg.none_new (only_alloc G1.out (.cells #[.string ⟨#[81]⟩] 9)) g2 HS.out
  have HL2 := Lib.hid (Core.lt hd2)
  clear hd2 g2 o2 hS2
  go_wp2_with fail
  refine (Herr.out _ b _ _ D2.out).mono ?_
  rintro e w' ⟨rfl, n, rfl⟩
  rw [show ([] : List UInt8) ++ cat [(⟨#[81]⟩ : ByteArray)] = [81] from rfl, ofR_51]
  go_wp2_with fail
  refine (Hfeed.out _ b S2 _ _ _ _ _ (Core.none D2.out (only_alloc (only_drewN (only_refl _ none) _) _)) (Strs.one ⟨#[71]⟩ (by decide) _) (fun bb off e h => by have := HL2.out _ h; simp at e <;> omega) (by decide) (by decide)).mono ?_
  rintro e w3 ⟨v3, S3, rfl, hd3, hS3, g3, o3⟩
  have D3 := Lib.hid hd3
  have G3 : Hid (w.grownBy w3 none) := Chg.none_new (only_alloc (only_drewN G2.out n) (.cells #[.string ⟨#[71]⟩] 9)) g3 HS2.out
  clear hd3 g3 o3 hS3
  go_wp2_with fail
  refine (Awake05_any _).mono ?_
  rintro e w4 ⟨rfl, g4⟩
  go_wp2_with fail
  refine (Herr.out _ b _ _ (Core.none D3.out g4)).mono ?_
  rintro e w' ⟨rfl, n2, rfl⟩
  rw [show ([] : List UInt8) ++ cat [(⟨#[81]⟩ : ByteArray)] ++ cat [(⟨#[71]⟩ : ByteArray)] = [81, 71] from rfl, ofR_5147]
  go_wp2_with fail
  go_ret
  exact ⟨rfl, only_drewN (only_trans G3.out g4) _⟩

end Go.Proofs.YtbebdaglkjhbjaaGreatDoor.law06

/-
  The contracts of package deframe but Feed (a deframer that keeps what waits in a builder, the error, and a count).
-/
namespace Go.Proofs.YtbebdaglkjhbjaaGreatDoor.df
open Go.RowKit Go.Proofs.YtbebdaglkjhbjaaGreatDoor.fm Go.Proofs.YtbebdaglkjhbjaaGreatDoor.vi Go.Proofs.YtbebdaglkjhbjaaGreatDoor.crc Go.Proofs.YtbebdaglkjhbjaaGreatDoor.cur Go.Proofs.YtbebdaglkjhbjaaGreatDoor.bd
set_option linter.unusedVariables false
set_option linter.unusedSimpArgs false

theorem restR_err {L : List UInt8} (h : (ofR L).2.1 ≠ 0) : restR L = [] := by
  have := (ofR_bounds _ L (Nat.le_refl _)).2.2.2.1 h
  unfold restR
  rw [this]
  simp

theorem restR_nil : restR [] = [] := by rw [restR_short (by rw [parse_nil])]

/-- A deframer's cells; what waits lies in a builder whose blocks are of T. -/
def Raw (w : World) (b : Nat) (T : Nat → Prop) (R : List UInt8) (e k : Nat) : Prop :=
  ∃ q : Option Addr, w.heap[b]? = some (.cells #[.pointer q, .int .i64 (e : Nat), .int .i64 (k : Nat)] 260 (0, 0)) ∧ ((q = none ∧ R = []) ∨ ∃ bb, q = some ⟨bb, 0, none⟩ ∧ Bld w bb T R)

section
variable {w w' : World} {b e k : Nat} {S T U : Nat → Prop} {R : List UInt8}

theorem Raw.lt (h : Raw w b T R e k) : b < w.heap.size := by
  obtain ⟨q, hb, -⟩ := h
  exact (Array.getElem?_eq_some_iff.1 hb).1
theorem Raw.c1 (h : Raw w b T R e k) : w.cell? ⟨b, 1, none⟩ = some (.int .i64 (e : Nat)) := by
  obtain ⟨q, hb, -⟩ := h
  simp [World.cell?, hb]
theorem Raw.c2 (h : Raw w b T R e k) : w.cell? ⟨b, 2, none⟩ = some (.int .i64 (k : Nat)) := by
  obtain ⟨q, hb, -⟩ := h
  simp [World.cell?, hb]
theorem Raw.fz (h : Raw w b T R e k) (j : Nat) : w.frozen? ⟨b, j, none⟩ = false := by
  obtain ⟨q, hb, -⟩ := h
  simp [World.frozen?, hb]
theorem Raw.not_tyd (h : Raw w b T R e k) : ¬ Tyd w b := by
  obtain ⟨q, hb, -⟩ := h
  rintro ⟨cur, t, fz, h1, h2⟩
  rw [hb] at h1
  simp only [Option.some.injEq, Obj.cells.injEq] at h1
  obtain ⟨-, rfl, -⟩ := h1
  revert h2; decide
theorem Raw.kept (h : Raw w b T R e k) (g : Chg U w w') (hb : ¬ U b) (hT : ∀ j, T j → Tyd w j → ¬ U j) : Raw w' b T R e k := by
  have hlt := h.lt
  obtain ⟨q, hbk, hq⟩ := h
  refine ⟨q, by rw [g.block b hlt hb, hbk], ?_⟩
  rcases hq with hq | ⟨bb, hq, hB⟩
  · exact .inl hq
  · exact .inr ⟨bb, hq, hB.kept' g hT⟩
theorem Raw.grown (h : Raw w b T R e k) (g : w.grownBy w' Option.none) : Raw w' b T R e k :=
  h.kept (U := fun _ => False) (Chg.of_none g) (fun e => e) (fun _ _ _ e => e)
theorem Raw.mono (h : Raw w b T R e k) (hS : ∀ j, j < w.heap.size → T j → Tyd w j → S j) : Raw w b S R e k := by
  obtain ⟨q, hbk, hq⟩ := h
  refine ⟨q, hbk, ?_⟩
  rcases hq with hq | ⟨bb, hq, hB⟩
  · exact .inl hq
  · exact .inr ⟨bb, hq, hB.tight.mono fun j hj h => hS j hj h.1 h.2⟩
theorem Raw.set (h : Raw w b T R e k) (j : Nat) (u : Value) : Chg (fun i => i = b) w (w.setCell ⟨b, j, none⟩ u) :=
  Chg.set_one w b j u
theorem bld_set {q : Option Addr} (hnt : ¬ Tyd w b) (g : Chg (fun i => i = b) w w') (hq : (q = .none ∧ R = []) ∨ ∃ bb, q = some ⟨bb, 0, .none⟩ ∧ Bld w bb T R) : (q = .none ∧ R = []) ∨ ∃ bb, q = some ⟨bb, 0, .none⟩ ∧ Bld w' bb T R := by
  rcases hq with hq | ⟨bb, hq, hB⟩
  · exact .inl hq
  · exact .inr ⟨bb, hq, hB.kept' g fun i _ ht e => hnt (e ▸ ht)⟩
theorem Raw.set1 (h : Raw w b T R e k) (e' : Nat) : Raw (w.setCell ⟨b, 1, .none⟩ (.int .i64 (e' : Nat))) b T R e' k := by
  have g := h.set 1 (.int .i64 (e' : Nat))
  have hnt := h.not_tyd
  obtain ⟨q, hbk, hq⟩ := h
  exact ⟨q, by simp [World.setCell, Array.getElem?_modify, hbk], bld_set hnt g hq⟩
theorem Raw.set2 (h : Raw w b T R e k) (k' : Nat) : Raw (w.setCell ⟨b, 2, .none⟩ (.int .i64 (k' : Nat))) b T R e k' := by
  have g := h.set 2 (.int .i64 (k' : Nat))
  have hnt := h.not_tyd
  obtain ⟨q, hbk, hq⟩ := h
  exact ⟨q, by simp [World.setCell, Array.getElem?_modify, hbk], bld_set hnt g hq⟩
theorem Raw.set0 (h : Raw w b T R e k) {q' : Option Addr} {R' : List UInt8} (hq : (q' = .none ∧ R' = []) ∨ ∃ bb, q' = some ⟨bb, 0, .none⟩ ∧ Bld w bb T R') : Raw (w.setCell ⟨b, 0, .none⟩ (.pointer q')) b T R' e k := by
  have g := h.set 0 (.pointer q')
  have hnt := h.not_tyd
  obtain ⟨q, hbk, -⟩ := h
  exact ⟨q', by simp [World.setCell, Array.getElem?_modify, hbk], bld_set hnt g hq⟩
end

set_option maxHeartbeats 1000000 in
theorem waiting_any (w : World) (b : Nat) (T : Nat → Prop) (R : List UInt8) (E k : Nat) (h : Raw w b T R E k) :
    Calls Tryz.prog 225 #[.pointer (some ⟨b, 0, none⟩)] w fun e w' => e = .returned (.string (str R)) ∧ Chg (fun j => T j ∧ Tyd w j) w w' ∧ Raw w' b T R E k := by
  have HR := Lib.hid h
  obtain ⟨q, hbk, hq⟩ := h
  have c0 : w.cell? ⟨b, 0, none⟩ = some (.pointer q) := by simp [World.cell?, hbk]
  have hnt := HR.out.not_tyd
  rcases hq with ⟨rfl, rfl⟩ | ⟨bb, rfl, hB⟩
  · clear hbk hnt
    go_enter Tryz.func225, Tryz.ntmps225
    go_wp2_with fail
    go_ret
    exact ⟨rfl, Chg.refl _ _, HR.out⟩
  · have HS := Lib.hid (string_any bb _ R w hB.tight)
    have HB := Lib.hid hB
    have HK := Lib.hid hbk
    clear hB hbk
    go_enter Tryz.func225, Tryz.ntmps225
    go_wp2_with fail
    refine HS.out.mono ?_
    rintro e w1 ⟨rfl, g, hb1⟩
    have hg := Lib.hid g
    have hb1 := Lib.hid hb1
    clear g HS
    go_wp2_with fail
    go_ret
    refine ⟨rfl, hg.out, _, by rw [hg.out.block b HR.out.lt (fun h => hnt h.2), HK.out], .inr ⟨bb, rfl, hb1.out.mono fun j _ h => h.1⟩⟩

theorem waits_raw (w : World) (b : Nat) (T : Nat → Prop) (R : List UInt8) (E k : Nat) (h : Raw w b T R E k) :
    Calls Tryz.prog 227 #[.pointer (some ⟨b, 0, none⟩)] w fun e w' => e = .returned (.int .i64 (R.length : Nat)) ∧ Chg (fun j => T j ∧ Tyd w j) w w' ∧ Raw w' b T R E k := by
  have hs := str_size R
  have H := Lib.hid (waiting_any w b T R E k h)
  have HS := Lib.hid hs
  clear h hs
  go_enter Tryz.func227, Tryz.ntmps227
  go_wp2_with fail
  refine H.out.mono ?_
  rintro e w1 ⟨rfl, g, hr⟩
  have HG := Lib.hid g
  have HR := Lib.hid hr
  clear g hr H
  go_wp2_with fail
  go_ret
  exact ⟨ret1 (congrArg (fun n : Nat => Value.int .i64 (n : Int)) HS.out), HG.out, HR.out⟩

theorem blk_set0 {w : World} {b : Nat} {q q' : Option Addr} {u v : Value} (h : w.heap[b]? = some (.cells #[.pointer q, u, v] 260 (0, 0))) : (w.setCell ⟨b, 0, none⟩ (.pointer q')).heap[b]? = some (.cells #[.pointer q', u, v] 260 (0, 0)) := by
  simp [World.setCell, Array.getElem?_modify, h]

set_option maxHeartbeats 1000000 in
theorem keep_any (w : World) (b : Nat) (T : Nat → Prop) (R : List UInt8) (E k : Nat) (h : Raw w b T R E k) (x : ByteArray) (hx : x.size ≤ 500000) (hT : ∀ j, w.heap.size ≤ j → T j) :
    Calls Tryz.prog 228 #[.pointer (some ⟨b, 0, none⟩), .string x] w fun e w' => e = .returned (.tuple #[]) ∧ Chg (fun j => j = b) w w' ∧ Raw w' b T x.data.toList E k := by
  have HR := Lib.hid h
  have hlt := h.lt
  have f0 := h.fz 0
  obtain ⟨q, hbk, -⟩ := h
  have c0 : w.cell? ⟨b, 0, none⟩ = some (.pointer q) := by simp [World.cell?, hbk]
  have HK := Lib.hid hbk
  clear hbk
  by_cases hx0 : x = ⟨#[]⟩
  · subst hx0
    go_enter Tryz.func228, Tryz.ntmps228
    go_wp2_with fail
    go_end0
    exact ⟨rfl, Chg.set_one w b 0 _, HR.out.set0 (.inl ⟨rfl, rfl⟩)⟩
  · have hxe : x.toList.isEmpty = false := by
      rw [ByteArray.toList_eq]
      cases hd : x.data.toList with
      | nil => exact absurd (ByteArray.ext (by simpa using hd)) hx0
      | cons a r => rfl
    have hsz : ((w.setCell ⟨b, 0, none⟩ (.pointer none)).setCell ⟨b, 0, none⟩ (.pointer (some ⟨w.heap.size, 0, none⟩))).heap.size = w.heap.size := by simp [World.setCell]
    have hB := Bld.new ((w.setCell ⟨b, 0, none⟩ (.pointer none)).setCell ⟨b, 0, none⟩ (.pointer (some ⟨w.heap.size, 0, none⟩))) (fun j => w.heap.size ≤ j) (by simp [World.setCell])
    rw [hsz] at hB
    have hK : ((w.setCell ⟨b, 0, none⟩ (.pointer none)).setCell ⟨b, 0, none⟩ (.pointer (some ⟨w.heap.size, 0, none⟩))).heap[b]? = _ := blk_set0 (blk_set0 HK.out)
    have hG : Chg (fun j => j = b) w ((w.setCell ⟨b, 0, none⟩ (.pointer none)).setCell ⟨b, 0, none⟩ (.pointer (some ⟨w.heap.size, 0, none⟩))) := (Chg.set_one w b 0 _).trans' (Chg.set_one _ b 0 _)
    have HB := Lib.hid hB
    have HK2 := Lib.hid hK
    have HG := Lib.hid hG
    have HSZ := Lib.hid hsz
    clear hB hK hG hsz
    go_enter Tryz.func228, Tryz.ntmps228
    go_wp2_with fail
    generalize ((w.setCell ⟨b, 0, none⟩ (.pointer none)).setCell ⟨b, 0, none⟩ (.pointer (some ⟨w.heap.size, 0, none⟩))) = w2 at *
    refine (write_any w.heap.size _ [] x _ HB.out (by simp; omega)).mono ?_
    rintro e w3 ⟨rfl, g3, hb3⟩
    have HG3 := Lib.hid g3
    have HB3 := Lib.hid hb3
    clear g3 hb3
    go_wp2_with fail
    go_end0
    refine ⟨rfl, (HG.out.alloc _).trans HG3.out (fun j hj => .inr hj), _, ?_, .inr ⟨w.heap.size, rfl, ?_⟩⟩
    · rw [HG3.out.block b (by simp [HSZ.out]; omega) (by omega), heap_alloc_old w2 _ (by rw [HSZ.out]; exact hlt)]
      exact HK2.out
    · rw [List.nil_append] at HB3
      exact HB3.out.mono fun j _ h => hT j (by
        rcases h with h | h
        · exact h
        · simp [HSZ.out] at h; omega)

theorem err_raw (w : World) (b : Nat) (T : Nat → Prop) (R : List UInt8) (E k : Nat) (h : Raw w b T R E k) :
    Calls Tryz.prog 221 #[.pointer (some ⟨b, 0, none⟩)] w fun e w' => e = .returned (.int .i64 (E : Nat)) ∧ ∃ n, w' = w.drewN n := by
  have c1 := h.c1
  clear h
  go_enter Tryz.func221, Tryz.ntmps221
  go_wp2
  go_ret
  exact ⟨rfl, 0, rfl⟩

end Go.Proofs.YtbebdaglkjhbjaaGreatDoor.df

/-
  deliver: the frames that wait and are whole.
-/
namespace Go.Proofs.YtbebdaglkjhbjaaGreatDoor.df
open Go.RowKit Go.Proofs.YtbebdaglkjhbjaaGreatDoor.fm Go.Proofs.YtbebdaglkjhbjaaGreatDoor.vi Go.Proofs.YtbebdaglkjhbjaaGreatDoor.crc Go.Proofs.YtbebdaglkjhbjaaGreatDoor.cur Go.Proofs.YtbebdaglkjhbjaaGreatDoor.bd
set_option linter.unusedVariables false
set_option linter.unusedSimpArgs false

theorem str_app (R : List UInt8) (x : ByteArray) : (str R ++ x : ByteArray) = str (R ++ x.data.toList) := by
  have : (str R ++ x : ByteArray).data.toList = R ++ x.data.toList := by simp [str]
  rw [← this, str_of]
theorem str_drop (R : List UInt8) (m : Nat) : (str R).extract m (str R).size = str (R.drop m) := by
  have : ((str R).extract m (str R).size).data.toList = R.drop m := by
    rw [ext_list, str_list, str_size, List.take_of_length_le (by simp)]
  rw [← this, str_of]

/-- A list of texts is none of a builder's blocks. -/
theorem own_tyd {base : Nat} {w : World} {v : Value} {l : List (List UInt8)} (ho : Own base w v l) : ∀ k, v.ownBlock = some k → ¬ Tyd w k := fun k hk => by
  rcases ho.2 with ⟨rfl, _⟩ | ⟨g, cap, cur', rfl, _, hg, _⟩
  · cases hk
  · simp [Value.ownBlock] at hk
    subst hk
    rintro ⟨cur, t, fz, h1, h2⟩
    rw [hg] at h1
    simp only [Option.some.injEq, Obj.cells.injEq] at h1
    obtain ⟨-, rfl, -⟩ := h1
    revert h2; decide

theorem Raw.row {w w' : World} {b e k : Nat} {T : Nat → Prop} {R : List UInt8} (h : Raw w b T R e k) {base : Nat} {v : Value} {l : List (List UInt8)} (ho : Own base w v l) (hb : b < base) (g : w.grownBy w' v.ownBlock) : Raw w' b T R e k :=
  h.kept (Chg.of_grown (S := fun k => v.ownBlock = some k) g (fun k e => .inl e)) (fun e => by have := (Own.lt ho b e).1; omega) (fun j _ ht e => own_tyd ho j e ht)

theorem rest_suffix (L : List UInt8) : (restR L).length ≤ L.length := by unfold restR; simp
theorem rest_same {L : List UInt8} (h : L.length ≤ (restR L).length) : restR L = L := by
  have h1 := restR_len L
  have h2 := (ofR_bounds _ L (Nat.le_refl _)).1
  unfold restR
  rw [show L.length - (ofR L).2.2 = 0 by omega, List.drop_zero]

theorem Chg.tyd {w w2 w3 : World} {b : Nat} {T : Nat → Prop} (h : Chg (fun j => j = b ∨ (T j ∧ Tyd w j)) w w2) (g : Chg (fun j => T j ∧ Tyd w2 j) w2 w3) : Chg (fun j => j = b ∨ (T j ∧ Tyd w j)) w w3 :=
  h.trans g fun j hj => by
    by_cases hl : j < w.heap.size
    · by_cases hU : j = b ∨ (T j ∧ Tyd w j)
      · exact .inl hU
      · obtain ⟨h1, cur, t, fz, h2, h3⟩ := hj
        rw [h.block j hl hU] at h2
        exact absurd (.inr ⟨h1, cur, t, fz, h2, h3⟩) hU
    · exact .inr (by omega)

set_option maxHeartbeats 4000000 in
set_option maxRecDepth 100000 in
theorem deliver_any (w : World) (b : Nat) (T : Nat → Prop) (R0 : List UInt8) (n0 : Nat) (h : Raw w b T R0 0 n0) (hT : ∀ j, w.heap.size ≤ j → T j) (hR0 : R0.length ≤ 200000) (hn0 : n0 ≤ 200000) :
    Calls Tryz.prog 223 #[.pointer (some ⟨b, 0, none⟩)] w fun e w' =>
      ∃ v, e = .returned v ∧ Raw w' b T (restR R0) (ofR R0).2.1 (n0 + (ofR R0).1.length) ∧ Chg (fun j => j = b ∨ (T j ∧ Tyd w j)) w w' ∧ Own w.heap.size w' v (ofR R0).1 := by
  have hbw := h.lt
  have Hw := Lib.hid (waiting_any w b T R0 0 n0 h)
  have hob := ofR_bounds _ R0 (Nat.le_refl _)
  have Hwaits := Lib.hid (fun w E k h => waits_raw w b T R0 E k h)
  have Hkeep := Lib.hid (fun w E k h x hx ht => keep_any w b T R0 E k h x hx ht)
  have HTT := Lib.hid hT
  clear h hT
  go_enter Tryz.func223, Tryz.ntmps223
  go_wp2_with fail
  refine Hw.out.mono ?_
  rintro e w0 ⟨rfl, g0, hr0⟩
  have HR0 := Lib.hid hr0
  have HG0 := Lib.hid (g0.mono (T := fun j => j = b ∨ (T j ∧ Tyd w j)) (fun k h => .inl (.inr h)))
  have hsz0 := g0.size
  clear g0 hr0 Hw
  go_wp2_with fail
  go_loopw [3, 4] (fun v t wr => ∃ (R : List UInt8) (acc : List (List UInt8)), t = .string (str R) ∧ R.length + acc.length ≤ R0.length ∧ Raw wr b T R0 0 n0 ∧ Own w.heap.size wr v acc ∧ Chg (fun j => j = b ∨ (T j ∧ Tyd w j)) w wr ∧ ofR R0 = (acc ++ (ofR R).1, (ofR R).2) ∧ restR R0 = restR R) (fun _ t _ => strLen t)
  case atStart => exact ⟨R0, [], rfl, by simp, HR0.out, Own.nil _ _, HG0.out, by simp, rfl⟩
  case round =>
    obtain ⟨R, acc, rfl, hRl, hr, ho, hg, hof, hre⟩ := hrel
    have HR := Lib.hid hr
    have HO := Lib.hid ho
    have HG := Lib.hid hg
    have HOF := Lib.hid hof
    have HRE := Lib.hid hre
    have hsz := hg.size
    have hbr := hr.lt
    clear ho hg hof hre hr
    have hp := fun w => parse_any (str R) (by rw [str_size]; omega) w
    rw [str_list] at hp
    have hlt := parse_lt R
    have hpo := @parse_pos R
    have hok := fun h => (@parse_ok R h).2.2.2
    have Hsh := Lib.hid (@ofR_short R)
    have Hbad := Lib.hid (@ofR_bad R)
    have Hok := Lib.hid (@ofR_ok R)
    have Hrs := Lib.hid (@restR_short R)
    have Hro := Lib.hid (@restR_ok R)
    have Hnil := Lib.hid (show R = [] → (parseR R).2.2 = 1 from fun h => by rw [h, parse_nil])
    have hsR2 : (str R).size ≤ 200000 := by rw [str_size]; omega
    have hRs : (str R).size = R.length := str_size R
    have HDR := Lib.hid (str_drop R)
    unfold parseV at hp
    generalize parseR R = q at *
    obtain ⟨y, m, E⟩ := q
    simp only at hp hlt hpo hok
    by_cases h1 : E = 1
    · subst h1
      have e1 := Hsh.out rfl
      have e2 := Hrs.out rfl
      go_wp2_with fail
      refine (hp _).mono ?_
      rintro e w1 ⟨rfl, g1⟩
      have HR1 := HR.out.grown g1
      have HO1 := HO.out.kept g1
      have HG1 := HG.out.of_none' g1
      obtain ⟨pa, pc, hsh⟩ := row_shape HO1
      subst hsh
      have c2 := HR1.c2
      have f2 := HR1.fz 2
      have hR2 := HR1.set2 (n0 + acc.length)
      rw [show ((n0 + acc.length : Nat) : Int) = (n0 : Int) + (acc.length : Int) by omega] at hR2
      have HR2 := Lib.hid hR2
      have HO2 := Lib.hid (Own.far HO1 (only_setCell (only_refl w1 (some b)) (p := ⟨b, 2, none⟩) (.inl rfl) (.int .i64 ((n0 : Int) + (acc.length : Int)))) hbw)
      have HG2 := Lib.hid (HG1.setCell (p := ⟨b, 2, none⟩) (.inl (.inl rfl)) (.int .i64 ((n0 : Int) + (acc.length : Int))))
      clear hR2 HR1 HO1 HG1 g1
      go_wp2_with fail
      generalize w1.setCell ⟨b, 2, none⟩ (.int .i64 ((n0 : Int) + (acc.length : Int))) = w2 at *
      refine (Hwaits.out w2 _ _ HR2.out).mono ?_
      rintro e w3 ⟨rfl, g3, hr3⟩
      have HR3 := Lib.hid hr3
      have HO3 := Lib.hid (law06.own_chg HO2.out g3 (fun k e h => own_tyd HO2.out k e h.2))
      have HG3 := Lib.hid (Chg.tyd HG2.out g3)
      have hsz3 := HG3.out.size
      clear g3 hr3
      by_cases hk : (str R).size < R0.length
      · go_wp2_with fail
        refine (Hkeep.out w3 _ _ HR3.out (str R) (by omega) (fun j hj => HTT.out j (by omega))).mono ?_
        rintro e w4 ⟨rfl, g4, hr4⟩
        have HR4 := Lib.hid hr4
        have HO4 := Lib.hid (law06.own_chg HO3.out g4 (fun k e h => by have := (Own.lt HO3.out k e).1; omega))
        have HG4 := Lib.hid (HG3.out.trans g4 (fun j hj => .inl (.inl hj)))
        clear g4 hr4
        go_wp2_with fail
        go_ret
        refine ⟨_, rfl, ?_, HG4.out, ?_⟩
        · rw [HRE.out, e2, HOF.out, e1]
          simp only [List.append_nil]
          exact HR4.out
        · rw [HOF.out, e1]
          simp only [List.append_nil]
          exact HO4.out
      · have hrr : restR R0 = R0 := rest_same (by rw [HRE.out, e2]; omega)
        go_wp2_with fail
        go_ret
        refine ⟨_, rfl, ?_, HG3.out, ?_⟩
        · rw [hrr, HOF.out, e1]
          simp only [List.append_nil]
          exact HR3.out
        · rw [HOF.out, e1]
          simp only [List.append_nil]
          exact HO3.out
    · by_cases h0 : E = 0
      · subst h0
        have hmp := hpo rfl
        have hm := hok rfl
        have e1 := Hok.out rfl
        have e2 := Hro.out rfl
        have E1 := Lib.hid e1
        have E2 := Lib.hid e2
        clear e1 e2 hpo hok Hsh Hbad Hok Hrs Hro
        go_wp2_with fail
        refine (hp _).mono ?_
        rintro e w1 ⟨rfl, g1⟩
        have HO1 := Lib.hid (HO.out.kept g1)
        have HR1 := Lib.hid (HR.out.grown g1)
        have HG1 := Lib.hid (HG.out.of_none' g1)
        have hsz1 := HG1.out.size
        clear g1
        go_wp2_with (at_builtin; refine wpList_append_texts rfl (.tmp 24) (.tmp 26) rfl w.heap.size _ acc rfl (World.ownsRow.alloc HO1.out _) w1.heap.size _ [y] rfl (Own.one w1 y) ?c1 ?c2 ?_)
        case c1 => simp; omega
        case c2 => simp; omega
        intro v' w2 ho2 g2
        have hoa := World.ownsRow.alloc HO1.out (.cells #[.string (str y)] 9)
        have HR2 := Lib.hid ((HR1.out.grown (only_alloc (only_refl w1 none) (.cells #[.string (str y)] 9))).row hoa hbw g2)
        have HG2 := Lib.hid ((HG1.out.alloc (.cells #[.string (str y)] 9)).trans (Chg.of_grown (S := fun k => Value.ownBlock u3 = some k) g2 (fun k e => .inl e)) (fun k e => .inr (Own.lt HO1.out k e).1))
        have HO2 := Lib.hid ho2
        clear ho2 g2 hoa
        go_wp2_with fail
        go_roundw
        case rel => exact ⟨R.drop m, acc ++ [y], congrArg Value.string (HDR.out m), by simp; omega, HR2.out, HO2.out, HG2.out, by rw [HOF.out, E1.out]; simp, by rw [HRE.out, E2.out]⟩
        case measure => simp [strLen]; omega
      · have e1 := Hbad.out h1 h0
        have hE1 : ((E : Int) == 1) = false := by simp; omega
        have hE0 : ((E : Int) != 0) = true := by simp; omega
        have hRp : 0 < R.length := by
          rcases Nat.eq_zero_or_pos R.length with h | h
          · exact absurd (Hnil.out (List.length_eq_zero_iff.1 h)) h1
          · exact h
        have E1 := Lib.hid e1
        have hlp : 0 < R0.length := by omega
        clear e1 hpo hok Hsh Hbad Hok Hrs Hro
        go_wp2_with fail
        refine (hp _).mono ?_
        rintro e w1 ⟨rfl, g1⟩
        have HR1 := HR.out.grown g1
        have HO1 := HO.out.kept g1
        have HG1 := HG.out.of_none' g1
        obtain ⟨pa, pc, hsh⟩ := row_shape HO1
        subst hsh
        have c1 := HR1.c1
        have c2 := HR1.c2
        have f1 := HR1.fz 1
        have f2 := HR1.fz 2
        have hR2 := (HR1.set1 E).set2 (n0 + acc.length)
        rw [show ((n0 + acc.length : Nat) : Int) = (n0 : Int) + (acc.length : Int) by omega] at hR2
        have HR2 := Lib.hid hR2
        have HO2 := Lib.hid (Own.far HO1 (only_setCell (only_setCell (only_refl w1 (some b)) (p := ⟨b, 1, none⟩) (.inl rfl) (.int .i64 (E : Nat))) (p := ⟨b, 2, none⟩) (.inl rfl) (.int .i64 ((n0 : Int) + (acc.length : Int)))) hbw)
        have HG2 := Lib.hid ((HG1.setCell (p := ⟨b, 1, none⟩) (.inl (.inl rfl)) (.int .i64 (E : Nat))).setCell (p := ⟨b, 2, none⟩) (.inl (.inl rfl)) (.int .i64 ((n0 : Int) + (acc.length : Int))))
        clear hR2 HR1 HO1 HG1 g1
        go_wp2_with fail
        generalize (w1.setCell ⟨b, 1, none⟩ (.int .i64 (E : Nat))).setCell ⟨b, 2, none⟩ (.int .i64 ((n0 : Int) + (acc.length : Int))) = w2 at *
        refine (Hwaits.out w2 _ _ HR2.out).mono ?_
        rintro e w3 ⟨rfl, g3, hr3⟩
        have HR3 := Lib.hid hr3
        have HO3 := Lib.hid (law06.own_chg HO2.out g3 (fun k e h => own_tyd HO2.out k e h.2))
        have HG3 := Lib.hid (Chg.tyd HG2.out g3)
        have hsz3 := HG3.out.size
        clear g3 hr3
        go_wp2_with fail
        refine (Hkeep.out w3 _ _ HR3.out ⟨#[]⟩ (by decide) (fun j hj => HTT.out j (by omega))).mono ?_
        rintro e w4 ⟨rfl, g4, hr4⟩
        have HR4 := Lib.hid hr4
        have HO4 := Lib.hid (law06.own_chg HO3.out g4 (fun k e h => by have := (Own.lt HO3.out k e).1; omega))
        have HG4 := Lib.hid (HG3.out.trans g4 (fun j hj => .inl (.inl hj)))
        clear g4 hr4
        go_wp2_with fail
        go_ret
        have hR0e : (ofR R0).2.1 = E := by rw [HOF.out, E1.out]
        refine ⟨_, rfl, ?_, HG4.out, ?_⟩
        · rw [restR_err (by rw [hR0e]; exact h0), hR0e, HOF.out, E1.out]
          simp only [List.append_nil]
          exact HR4.out
        · rw [HOF.out, E1.out]
          simp only [List.append_nil]
          exact HO4.out

end Go.Proofs.YtbebdaglkjhbjaaGreatDoor.df

/-
  What the laws of layer 6 ask of a deframer, of this one.
-/
namespace Go.Proofs.YtbebdaglkjhbjaaGreatDoor.df
open Go.RowKit Go.Proofs.YtbebdaglkjhbjaaGreatDoor.fm Go.Proofs.YtbebdaglkjhbjaaGreatDoor.vi Go.Proofs.YtbebdaglkjhbjaaGreatDoor.crc Go.Proofs.YtbebdaglkjhbjaaGreatDoor.cur Go.Proofs.YtbebdaglkjhbjaaGreatDoor.bd
set_option linter.unusedVariables false
set_option linter.unusedSimpArgs false

/-- A deframer that was fed L; of S are the blocks that are its own. -/
structure DefP (w : World) (b : Nat) (S : Nat → Prop) (L : List UInt8) : Prop where
  raw : Raw w b S (restR L) (ofR L).2.1 (ofR L).1.length
  sb : S b
  ty : ∀ k, S k → k = b ∨ Tyd w k
  len : L.length ≤ 200000

section
variable {w w' : World} {b : Nat} {S T : Nat → Prop} {L : List UInt8}
theorem DefP.lt (h : DefP w b S L) : ∀ k, S k → k < w.heap.size := fun k hk => by
  rcases h.ty k hk with rfl | ⟨cur, t, fz, h1, -⟩
  · exact h.raw.lt
  · exact (Array.getElem?_eq_some_iff.1 h1).1
theorem DefP.kept (h : DefP w b S L) (g : Chg T w w') (hd : ∀ k, S k → ¬ T k) : DefP w' b S L := by
  have hlt := h.lt
  refine ⟨h.raw.kept g (hd b h.sb) (fun j hj _ => hd j hj), h.sb, fun k hk => ?_, h.len⟩
  rcases h.ty k hk with e | ⟨cur, t, fz, h1, h2⟩
  · exact .inl e
  · exact .inr ⟨cur, t, fz, by rw [g.block k (hlt k hk) (hd k hk), h1], h2⟩
theorem DefP.grown (h : DefP w b S L) (g : w.grownBy w' none) : DefP w' b S L := h.kept (T := fun _ => False) (Chg.of_none g) (fun _ _ e => e)
theorem DefP.types (h : DefP w b S L) : ∀ k, S k → ∃ cur t fz, w.heap[k]? = some (.cells cur t fz) ∧ t ≠ 9 ∧ t ≠ 3 := fun k hk => by
  rcases h.ty k hk with rfl | ⟨cur, t, fz, h1, h2⟩
  · obtain ⟨q, h1, -⟩ := h.raw
    exact ⟨_, _, _, h1, by decide, by decide⟩
  · refine ⟨cur, t, fz, h1, ?_⟩
    rcases h2 with rfl | rfl <;> decide
/-- The same deframer, with the blocks that are really its own. -/
theorem DefP.of (h : Raw w b T (restR L) (ofR L).2.1 (ofR L).1.length) (hb : T b) (hl : L.length ≤ 200000) : DefP w b (fun k => T k ∧ (k = b ∨ Tyd w k)) L :=
  ⟨h.mono fun j _ h1 h2 => ⟨h1, .inr h2⟩, ⟨hb, .inl rfl⟩, fun k hk => hk.2, hl⟩
end

theorem def_zero (w : World) : DefP (w.alloc (.cells #[.pointer none, .int .i64 0, .int .i64 0] 260)) w.heap.size (fun k => k = w.heap.size) [] :=
  ⟨by rw [restR_nil, ofR_nil]; exact ⟨none, heap_alloc_new w _, .inl ⟨rfl, rfl⟩⟩, rfl, fun k hk => .inl hk, by simp⟩

theorem new_any (w : World) : Calls Tryz.prog 219 #[] w fun e w' => ∃ b S, e = .returned (.pointer (some ⟨b, 0, none⟩)) ∧ DefP w' b S [] ∧ (∀ k, S k → w.heap.size ≤ k) ∧ w.grownBy w' none := by
  have hz := Lib.hid (def_zero w)
  go_enter Tryz.func219, Tryz.ntmps219
  go_wp2
  go_ret
  exact ⟨_, _, rfl, hz.out, fun k hk => by omega, only_alloc (only_refl _ _) _⟩

theorem err_any (w : World) (b : Nat) (S : Nat → Prop) (L : List UInt8) (h : DefP w b S L) :
    Calls Tryz.prog 221 #[.pointer (some ⟨b, 0, none⟩)] w fun e w' => e = .returned (.int .i64 ((ofR L).2.1 : Nat)) ∧ ∃ n, w' = w.drewN n := err_raw w b S _ _ _ h.raw

theorem waits_any (w : World) (b : Nat) (S : Nat → Prop) (L : List UInt8) (h : DefP w b S L) :
    Calls Tryz.prog 227 #[.pointer (some ⟨b, 0, none⟩)] w fun e w' => ∃ S', e = .returned (.int .i64 ((ofR L).2.2 : Nat)) ∧ DefP w' b S' L ∧ (∀ k, S' k → S k) ∧ Chg S w w' := by
  refine (waits_raw w b S _ _ _ h.raw).mono ?_
  rintro e w' ⟨rfl, g, hr⟩
  exact ⟨_, by rw [restR_len], DefP.of hr h.sb h.len, fun k hk => hk.1, g.mono fun k hk => .inl hk.1⟩

theorem cat_at (xs : List ByteArray) (i : Nat) (x : ByteArray) (h : xs[i]? = some x) : cat (xs.take (i + 1)) = cat (xs.take i) ++ x.data.toList := by
  rw [List.take_add_one, h, cat_append]
  simp [cat]
theorem cat_le (xs : List ByteArray) (i : Nat) : (cat (xs.take i)).length ≤ (cat xs).length := by
  have : cat xs = cat (xs.take i) ++ cat (xs.drop i) := by rw [← cat_append, List.take_append_drop]
  rw [this]; simp

theorem strs_chg {w w' : World} {a : Option Addr} {len cap : Nat} {xs : List ByteArray} {T : Nat → Prop} (h : Strs w a len cap xs) (g : Chg T w w') (hr : ∀ bb off, a = some ⟨bb, off, none⟩ → 0 < len → ¬ T bb) : Strs w' a len cap xs := by
  obtain ⟨h1, h2, h3⟩ := h
  refine ⟨h1, h2, ?_⟩
  rcases h3 with h | ⟨b, off, h4, h5, h6, h7⟩
  · exact .inl h
  · exact .inr ⟨b, off, h4, h5, h6, fun i x hx => g.cell (h7 i x hx) (hr b off h4 (by have := (List.getElem?_eq_some_iff.1 hx).1; omega))⟩

theorem feed_bad (w : World) (b : Nat) (S : Nat → Prop) (L : List UInt8) (a : Option Addr) (len cap : Nat) (xs : List ByteArray) (h : DefP w b S L) (hc : L.length + (cat xs).length ≤ 100000) (hz : (ofR L).2.1 ≠ 0) :
    Calls Tryz.prog 220 #[.pointer (some ⟨b, 0, none⟩), .slice a len cap] w fun e w' =>
      ∃ v S', e = .returned v ∧ DefP w' b S' (L ++ cat xs) ∧ (∀ k, S' k → S k ∨ w.heap.size ≤ k) ∧ Chg S w w' ∧ Own w.heap.size w' v ((ofR (L ++ cat xs)).1.drop (ofR L).1.length) := by
  have happ := ofR_app L (cat xs)
  rw [if_pos hz] at happ
  have hre := restR_err hz
  have hre2 : restR (L ++ cat xs) = [] := restR_err (by rw [happ]; exact hz)
  have hd : DefP w b S (L ++ cat xs) := ⟨by rw [hre2, happ, ← hre]; exact h.raw, h.sb, h.ty, by rw [List.length_append]; omega⟩
  have HD := Lib.hid hd
  have Happ := Lib.hid happ
  have HE := Lib.hid (err_any w b S L h)
  have e0 : (((ofR L).2.1 : Int) != 0) = true := by simp; omega
  have e1 : (((ofR L).2.1 : Int) == 0) = false := by simp; omega
  clear h happ hd hre hre2
  go_enter Tryz.func220, Tryz.ntmps220
  go_wp2_with fail
  refine HE.out.mono ?_
  rintro e w1 ⟨rfl, n, rfl⟩
  go_wp2_with fail
  go_ret
  exact ⟨_, S, rfl, HD.out.grown (only_drewN (only_refl _ none) _), fun k h => .inl h, (Chg.refl S w).drewN n, by rw [Happ.out, List.drop_length]; exact Own.nil _ _⟩

set_option maxHeartbeats 4000000 in
set_option maxRecDepth 100000 in
theorem feed_good (w : World) (b : Nat) (S : Nat → Prop) (L : List UInt8) (a : Option Addr) (len cap : Nat) (xs : List ByteArray) (h : DefP w b S L) (hs : Strs w a len cap xs) (hne : ∀ bb off, a = some ⟨bb, off, none⟩ → ¬ S bb) (hlen : len ≤ maxLen) (hc : L.length + (cat xs).length ≤ 100000) (hz : (ofR L).2.1 = 0) :
    Calls Tryz.prog 220 #[.pointer (some ⟨b, 0, none⟩), .slice a len cap] w fun e w' =>
      ∃ v S', e = .returned v ∧ DefP w' b S' (L ++ cat xs) ∧ (∀ k, S' k → S k ∨ w.heap.size ≤ k) ∧ Chg S w w' ∧ Own w.heap.size w' v ((ofR (L ++ cat xs)).1.drop (ofR L).1.length) := by
  have hbw := h.raw.lt
  have hrl := rest_suffix L
  have hob := (ofR_bounds _ L (Nat.le_refl _)).2.1
  have HE := Lib.hid (err_any w b S L h)
  rw [hz] at HE
  have happ := ofR_app L (cat xs)
  rw [if_neg (by simpa using hz)] at happ
  have Happ := Lib.hid happ
  have Hra := Lib.hid (restR_app L (cat xs) hz)
  have hraw := h.raw
  rw [hz] at hraw
  have hsb := h.sb
  have HSL := Lib.hid h.lt
  have HS := Lib.hid hs
  have hxl := hs.1
  have Hle := Lib.hid (cat_le xs)
  have Hne := Lib.hid hne
  have Hlow : Hid (∀ bb off, a = some ⟨bb, off, none⟩ → 0 < len → bb < w.heap.size) := fun bb off e h0 => by
    obtain ⟨h1, h2, h3⟩ := hs
    rcases h3 with h | ⟨b', off', h4, h5, h6, h7⟩
    · omega
    · rw [e] at h4
      simp only [Option.some.injEq, Addr.mk.injEq, and_true] at h4
      obtain ⟨rfl, rfl⟩ := h4
      exact World.block_lt_of_cell? w ⟨bb, off + 0, none⟩ (h7 0 (xs[0]'(by omega)) (List.getElem?_eq_getElem _))
  have Hfin := Lib.hid (fun (w' : World) (h : Raw w' b (fun j => S j ∨ w.heap.size ≤ j) (restR (L ++ cat xs)) (ofR (L ++ cat xs)).2.1 (ofR (L ++ cat xs)).1.length) => DefP.of h (.inl hsb) (by rw [List.length_append]; omega))
  rw [Happ.out, Hra.out] at Hfin
  clear h hs hne happ hz
  unfold maxLen at hlen
  generalize hR : restR L = R at *
  generalize hn0 : (ofR L).1.length = n0 at *
  have HN0 := Lib.hid hn0
  clear hR hn0
  have HRW := Lib.hid hraw
  clear hraw
  obtain ⟨T, hT⟩ : ∃ T : Nat → Prop, T = fun j => S j ∨ w.heap.size ≤ j := ⟨_, rfl⟩
  have HT := Lib.hid (show ∀ j, T j ↔ S j ∨ w.heap.size ≤ j from fun j => by rw [hT])
  rw [← hT] at Hfin
  clear hT
  go_enter Tryz.func220, Tryz.ntmps220
  go_wp2_with fail
  refine HE.out.mono ?_
  rintro e w1 ⟨rfl, n, hw1⟩
  have hg1 : w.grownBy w1 none := by rw [hw1]; exact only_drewN (only_refl _ none) _
  have hraw := HRW.out.grown hg1
  have hsz1 : w1.heap.size = w.heap.size := by rw [hw1]; rfl
  clear hw1 HE
  have hbw1 := hraw.lt
  have hfz := hraw.fz 0
  have hnt := hraw.not_tyd
  obtain ⟨q, hbk, hq⟩ := hraw
  have c0 : w1.cell? ⟨b, 0, none⟩ = some (.pointer q) := by simp [World.cell?, hbk]
  have HK := Lib.hid hbk
  have HG1 := Lib.hid hg1
  clear hbk hg1 HRW
  rcases hq with ⟨rfl, hR0⟩ | ⟨bb, rfl, hB⟩
  · obtain ⟨bb, hbb⟩ : ∃ bb, bb = w.heap.size := ⟨_, rfl⟩
    have HB : Hid (Bld ((w1.setCell ⟨b, 0, none⟩ (.pointer (some ⟨w.heap.size, 0, none⟩))).alloc (.cells #[.pointer none, .slice none 0 0] 85)) bb T R) := by
      have := Bld.new (w1.setCell ⟨b, 0, none⟩ (.pointer (some ⟨w.heap.size, 0, none⟩))) T ((HT.out _).2 (.inr (by simp [World.setCell]; omega)))
      rw [show (w1.setCell ⟨b, 0, none⟩ (.pointer (some ⟨w.heap.size, 0, none⟩))).heap.size = w.heap.size by simp [World.setCell, hsz1]] at this
      rw [hR0, hbb]
      exact this
    have HK2 : Hid (((w1.setCell ⟨b, 0, none⟩ (.pointer (some ⟨w.heap.size, 0, none⟩))).alloc (.cells #[.pointer none, .slice none 0 0] 85)).heap[b]? = some (.cells #[.pointer (some ⟨bb, 0, none⟩), .int .i64 (0 : Nat), .int .i64 (n0 : Nat)] 260 (0, 0))) := by
      show _ = _
      rw [heap_alloc_old _ _ (by simpa [World.setCell] using hbw1), hbb]
      exact blk_set0 HK.out
    have HG2 : Hid (Chg S w ((w1.setCell ⟨b, 0, none⟩ (.pointer (some ⟨w.heap.size, 0, none⟩))).alloc (.cells #[.pointer none, .slice none 0 0] 85))) :=
      ((Chg.of_none HG1.out).setCell (p := ⟨b, 0, none⟩) (.inl hsb) _).alloc _
    clear hR0
    go_wp2_with fail
    generalize (w1.setCell ⟨b, 0, none⟩ (.pointer (some ⟨w.heap.size, 0, none⟩))).alloc (.cells #[.pointer none, .slice none 0 0] 85) = wq at *
    clear HK HG1 hfz c0 hnt hbw1 hsz1 hbb
    go_loopw [22] (fun q wr => ∃ i : Nat, i ≤ len ∧ q = .int .i64 i ∧ wr.heap[b]? = some (.cells #[.pointer (some ⟨bb, 0, none⟩), .int .i64 (0 : Nat), .int .i64 (n0 : Nat)] 260 (0, 0)) ∧ Bld wr bb T (R ++ cat (xs.take i)) ∧ Chg S w wr) (fun q _ => len - (intOf q).toNat)
    case atStart => exact ⟨0, by omega, rfl, HK2.out, by rw [List.take_zero, cat, List.append_nil]; exact HB.out, HG2.out⟩
    case round =>
      obtain ⟨i, hi, rfl, hk, hb, hg⟩ := hrel
      have HKr := Lib.hid hk
      have HBr := Lib.hid hb
      have HGr := Lib.hid hg
      have HSr := Lib.hid (strs_chg HS.out hg (fun bb' off e h0 => Hne.out bb' off e))
      have hszr := hg.size
      have d0 : wr.cell? ⟨b, 0, none⟩ = some (.pointer (some ⟨bb, 0, none⟩)) := by simp [World.cell?, hk]
      have HRr : Hid (Raw wr b T (R ++ cat (xs.take i)) 0 n0) := ⟨_, hk, .inr ⟨bb, rfl, hb⟩⟩
      clear hk hb hg
      by_cases hlt : i < len
      · obtain ⟨x, hx⟩ : ∃ x, xs[i]? = some x := ⟨xs[i], List.getElem?_eq_getElem (by omega)⟩
        obtain ⟨-, -, hc3⟩ := HSr.out
        obtain ⟨ab, off, rfl, h5, h6, h7⟩ := hc3.resolve_left (by omega)
        have c1 := h7 i x hx
        have HC := Lib.hid (cat_at xs i x hx)
        have hle := Hle.out (i + 1)
        rw [HC.out, List.length_append] at hle
        have hxd : x.data.toList.length = x.size := by simp
        rw [hxd] at hle
        unfold maxLen at h6
        have HW := Lib.hid (write_any bb _ (R ++ cat (xs.take i)) x wr HBr.out.tight (by rw [List.length_append]; omega))
        clear h7 hc3
        go_wp2_with fail
        refine HW.out.mono ?_
        rintro e w2 ⟨rfl, g2, hb2⟩
        have HB2 : Hid (Bld w2 bb T (R ++ (cat (xs.take i) ++ x.data.toList))) := by
          rw [← List.append_assoc]
          exact hb2.mono (fun j _ h => by
            rcases h with h | h
            · exact h.1
            · exact (HT.out j).2 (.inr (by omega)))
        have HK3 : Hid (w2.heap[b]? = _) := (g2.block b HRr.out.lt (fun h => HRr.out.not_tyd h.2)).trans HKr.out
        have HG3 : Hid (Chg S w w2) := HGr.out.trans g2 (fun j hj => (HT.out j).1 hj.1)
        clear g2 hb2 HW
        go_wp2_with fail
        go_roundw
        case rel => exact ⟨i + 1, by omega, by go_num, HK3.out, by rw [HC.out]; exact HB2.out, HG3.out⟩
        case measure => simp [intOf]; omega
      · have hie : i = len := by omega
        subst hie
        have ht : xs.take i = xs := List.take_of_length_le (by omega)
        rw [ht] at HRr
        have HD := Lib.hid (deliver_any wr b T (R ++ cat xs) n0 HRr.out (fun j hj => (HT.out j).2 (.inr (by omega))) (by rw [List.length_append]; omega) (by omega))
        go_wp2_with fail
        refine HD.out.mono ?_
        rintro e w2 ⟨v, rfl, hr, g, ho⟩
        have HR2 := Lib.hid hr
        have HG2 := Lib.hid g
        have HO2 := Lib.hid ho
        clear hr g ho HD
        go_wp2_with fail
        go_ret
        refine ⟨v, _, rfl, Hfin.out w2 (by rw [List.length_append, HN0.out]; exact HR2.out), fun k hk => hk.1, HGr.out.trans HG2.out (fun j hj => ?_), ?_⟩
        · rcases hj with rfl | hj
          · exact .inl hsb
          · exact (HT.out j).1 hj.1
        · rw [Happ.out]
          show Own _ _ _ (((ofR L).1 ++ (ofR (R ++ cat xs)).1).drop n0)
          rw [← HN0.out, List.drop_left]
          exact HO2.out.mono hszr
  · have HB := Lib.hid (hB.mono (fun j _ h => (HT.out j).2 (.inl h)))
    have HK2 := Lib.hid HK.out
    have HG2 : Hid (Chg S w w1) := Chg.of_none HG1.out
    clear hB
    go_wp2_with fail
    clear HK HG1 hfz c0 hnt hbw1 hsz1
    go_loopw [22] (fun q wr => ∃ i : Nat, i ≤ len ∧ q = .int .i64 i ∧ wr.heap[b]? = some (.cells #[.pointer (some ⟨bb, 0, none⟩), .int .i64 (0 : Nat), .int .i64 (n0 : Nat)] 260 (0, 0)) ∧ Bld wr bb T (R ++ cat (xs.take i)) ∧ Chg S w wr) (fun q _ => len - (intOf q).toNat)
    case atStart => exact ⟨0, by omega, rfl, HK2.out, by rw [List.take_zero, cat, List.append_nil]; exact HB.out, HG2.out⟩
    case round =>
      obtain ⟨i, hi, rfl, hk, hb, hg⟩ := hrel
      have HKr := Lib.hid hk
      have HBr := Lib.hid hb
      have HGr := Lib.hid hg
      have HSr := Lib.hid (strs_chg HS.out hg (fun bb' off e h0 => Hne.out bb' off e))
      have hszr := hg.size
      have d0 : wr.cell? ⟨b, 0, none⟩ = some (.pointer (some ⟨bb, 0, none⟩)) := by simp [World.cell?, hk]
      have HRr : Hid (Raw wr b T (R ++ cat (xs.take i)) 0 n0) := ⟨_, hk, .inr ⟨bb, rfl, hb⟩⟩
      clear hk hb hg
      by_cases hlt : i < len
      · obtain ⟨x, hx⟩ : ∃ x, xs[i]? = some x := ⟨xs[i], List.getElem?_eq_getElem (by omega)⟩
        obtain ⟨-, -, hc3⟩ := HSr.out
        obtain ⟨ab, off, rfl, h5, h6, h7⟩ := hc3.resolve_left (by omega)
        have c1 := h7 i x hx
        have HC := Lib.hid (cat_at xs i x hx)
        have hle := Hle.out (i + 1)
        rw [HC.out, List.length_append] at hle
        have hxd : x.data.toList.length = x.size := by simp
        rw [hxd] at hle
        unfold maxLen at h6
        have HW := Lib.hid (write_any bb _ (R ++ cat (xs.take i)) x wr HBr.out.tight (by rw [List.length_append]; omega))
        clear h7 hc3
        go_wp2_with fail
        refine HW.out.mono ?_
        rintro e w2 ⟨rfl, g2, hb2⟩
        have HB2 : Hid (Bld w2 bb T (R ++ (cat (xs.take i) ++ x.data.toList))) := by
          rw [← List.append_assoc]
          exact hb2.mono (fun j _ h => by
            rcases h with h | h
            · exact h.1
            · exact (HT.out j).2 (.inr (by omega)))
        have HK3 : Hid (w2.heap[b]? = _) := (g2.block b HRr.out.lt (fun h => HRr.out.not_tyd h.2)).trans HKr.out
        have HG3 : Hid (Chg S w w2) := HGr.out.trans g2 (fun j hj => (HT.out j).1 hj.1)
        clear g2 hb2 HW
        go_wp2_with fail
        go_roundw
        case rel => exact ⟨i + 1, by omega, by go_num, HK3.out, by rw [HC.out]; exact HB2.out, HG3.out⟩
        case measure => simp [intOf]; omega
      · have hie : i = len := by omega
        subst hie
        have ht : xs.take i = xs := List.take_of_length_le (by omega)
        rw [ht] at HRr
        have HD := Lib.hid (deliver_any wr b T (R ++ cat xs) n0 HRr.out (fun j hj => (HT.out j).2 (.inr (by omega))) (by rw [List.length_append]; omega) (by omega))
        go_wp2_with fail
        refine HD.out.mono ?_
        rintro e w2 ⟨v, rfl, hr, g, ho⟩
        have HR2 := Lib.hid hr
        have HG2 := Lib.hid g
        have HO2 := Lib.hid ho
        clear hr g ho HD
        go_wp2_with fail
        go_ret
        refine ⟨v, _, rfl, Hfin.out w2 (by rw [List.length_append, HN0.out]; exact HR2.out), fun k hk => hk.1, HGr.out.trans HG2.out (fun j hj => ?_), ?_⟩
        · rcases hj with rfl | hj
          · exact .inl hsb
          · exact (HT.out j).1 hj.1
        · rw [Happ.out]
          show Own _ _ _ (((ofR L).1 ++ (ofR (R ++ cat xs)).1).drop n0)
          rw [← HN0.out, List.drop_left]
          exact HO2.out.mono hszr

theorem feed_any (w : World) (b : Nat) (S : Nat → Prop) (L : List UInt8) (a : Option Addr) (len cap : Nat) (xs : List ByteArray) (h : DefP w b S L) (hs : Strs w a len cap xs) (hne : ∀ bb off, a = some ⟨bb, off, none⟩ → ¬ S bb) (hlen : len ≤ maxLen) (hc : L.length + (cat xs).length ≤ 100000) :
    Calls Tryz.prog 220 #[.pointer (some ⟨b, 0, none⟩), .slice a len cap] w fun e w' =>
      ∃ v S', e = .returned v ∧ DefP w' b S' (L ++ cat xs) ∧ (∀ k, S' k → S k ∨ w.heap.size ≤ k) ∧ Chg S w w' ∧ Own w.heap.size w' v ((ofR (L ++ cat xs)).1.drop (ofR L).1.length) := by
  by_cases hz : (ofR L).2.1 = 0
  · exact feed_good w b S L a len cap xs h hs hne hlen hc hz
  · exact feed_bad w b S L a len cap xs h hc hz

end Go.Proofs.YtbebdaglkjhbjaaGreatDoor.df

/-
  This deframer, as layer 6's own test of itself asks for it.
-/
namespace Go.Proofs.YtbebdaglkjhbjaaGreatDoor.df
open Go.RowKit
set_option linter.unusedVariables false

def core : law06.Core where
  Def := DefP
  ty := fun h => h.types
  kept := fun h g hd => h.kept g hd
  new := new_any
  feed := feed_any
  err := err_any

end Go.Proofs.YtbebdaglkjhbjaaGreatDoor.df
