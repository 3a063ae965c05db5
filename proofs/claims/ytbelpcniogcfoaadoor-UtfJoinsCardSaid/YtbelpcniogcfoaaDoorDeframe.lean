/-
  The contracts of package deframe but Feed (a deframer that keeps what waits in a builder, the error, and a count).
-/
import Derived.Test.YtbelpcniogcfoaaDoorLaw06
import Derived.Test.YtbelpcniogcfoaaDoorFparse
import Derived.Test.YtbelpcniogcfoaaDoorBld
namespace Go.Proofs.YtbelpcniogcfoaaDoor.df
open Go.RowKit Go.Proofs.YtbelpcniogcfoaaDoor.fm Go.Proofs.YtbelpcniogcfoaaDoor.vi Go.Proofs.YtbelpcniogcfoaaDoor.crc Go.Proofs.YtbelpcniogcfoaaDoor.cur Go.Proofs.YtbelpcniogcfoaaDoor.bd
set_option linter.unusedVariables false
set_option linter.unusedSimpArgs false

theorem restR_err {L : List UInt8} (h : (ofR L).2.1 ≠ 0) : restR L = [] := by
  have := (ofR_bounds _ L (Nat.le_refl _)).2.2.2.1 h
  unfold restR
  rw [this]
  simp

theorem restR_nil : restR [] = [] := by rw [restR_short (by rw [parse_nil])]

/-- A deframer's cells; what waits lies in a builder whose blocks are of T. -/
def Raw (w : World) (b : Nat) (T : Nat → Prop) (R : List UInt8) (e k : Nat) : Prop :=
  ∃ q : Option Addr, w.heap[b]? = some (.cells #[.pointer q, .int .i64 (e : Nat), .int .i64 (k : Nat)] 83 (0, 0)) ∧ ((q = none ∧ R = []) ∨ ∃ bb, q = some ⟨bb, 0, none⟩ ∧ Bld w bb T R)

section
variable {w w' : World} {b e k : Nat} {S T U : Nat → Prop} {R : List UInt8}

theorem Raw.lt (h : Raw w b T R e k) : b < w.heap.size := by
  obtain ⟨q, hb, -⟩ := h
  exact (Array.getElem?_eq_some_iff.1 hb).1
theorem Raw.c1 (h : Raw w b T R e k) : w.cell? ⟨b, 1, none⟩ = some (.int .i64 (e : Nat)) := by
  obtain ⟨q, hb, -⟩ := h
  simp [World.cell?, hb]
theorem Raw.c2 (h : Raw w b T R e k) : w.cell? ⟨b, 2, none⟩ = some (.int .i64 (k : Nat)) := by
  obtain ⟨q, hb, -⟩ := h
  simp [World.cell?, hb]
theorem Raw.fz (h : Raw w b T R e k) (j : Nat) : w.frozen? ⟨b, j, none⟩ = false := by
  obtain ⟨q, hb, -⟩ := h
  simp [World.frozen?, hb]
theorem Raw.not_tyd (h : Raw w b T R e k) : ¬ Tyd w b := by
  obtain ⟨q, hb, -⟩ := h
  rintro ⟨cur, t, fz, h1, h2⟩
  rw [hb] at h1
  simp only [Option.some.injEq, Obj.cells.injEq] at h1
  obtain ⟨-, rfl, -⟩ := h1
  revert h2; decide
theorem Raw.kept (h : Raw w b T R e k) (g : Chg U w w') (hb : ¬ U b) (hT : ∀ j, T j → Tyd w j → ¬ U j) : Raw w' b T R e k := by
  have hlt := h.lt
  obtain ⟨q, hbk, hq⟩ := h
  refine ⟨q, by rw [g.block b hlt hb, hbk], ?_⟩
  rcases hq with hq | ⟨bb, hq, hB⟩
  · exact .inl hq
  · exact .inr ⟨bb, hq, hB.kept' g hT⟩
theorem Raw.grown (h : Raw w b T R e k) (g : w.grownBy w' Option.none) : Raw w' b T R e k :=
  h.kept (U := fun _ => False) (Chg.of_none g) (fun e => e) (fun _ _ _ e => e)
theorem Raw.mono (h : Raw w b T R e k) (hS : ∀ j, j < w.heap.size → T j → Tyd w j → S j) : Raw w b S R e k := by
  obtain ⟨q, hbk, hq⟩ := h
  refine ⟨q, hbk, ?_⟩
  rcases hq with hq | ⟨bb, hq, hB⟩
  · exact .inl hq
  · exact .inr ⟨bb, hq, hB.tight.mono fun j hj h => hS j hj h.1 h.2⟩
theorem Raw.set (h : Raw w b T R e k) (j : Nat) (u : Value) : Chg (fun i => i = b) w (w.setCell ⟨b, j, none⟩ u) :=
  Chg.set_one w b j u
theorem bld_set {q : Option Addr} (hnt : ¬ Tyd w b) (g : Chg (fun i => i = b) w w') (hq : (q = .none ∧ R = []) ∨ ∃ bb, q = some ⟨bb, 0, .none⟩ ∧ Bld w bb T R) : (q = .none ∧ R = []) ∨ ∃ bb, q = some ⟨bb, 0, .none⟩ ∧ Bld w' bb T R := by
  rcases hq with hq | ⟨bb, hq, hB⟩
  · exact .inl hq
  · exact .inr ⟨bb, hq, hB.kept' g fun i _ ht e => hnt (e ▸ ht)⟩
theorem Raw.set1 (h : Raw w b T R e k) (e' : Nat) : Raw (w.setCell ⟨b, 1, .none⟩ (.int .i64 (e' : Nat))) b T R e' k := by
  have g := h.set 1 (.int .i64 (e' : Nat))
  have hnt := h.not_tyd
  obtain ⟨q, hbk, hq⟩ := h
  exact ⟨q, by simp [World.setCell, Array.getElem?_modify, hbk], bld_set hnt g hq⟩
theorem Raw.set2 (h : Raw w b T R e k) (k' : Nat) : Raw (w.setCell ⟨b, 2, .none⟩ (.int .i64 (k' : Nat))) b T R e k' := by
  have g := h.set 2 (.int .i64 (k' : Nat))
  have hnt := h.not_tyd
  obtain ⟨q, hbk, hq⟩ := h
  exact ⟨q, by simp [World.setCell, Array.getElem?_modify, hbk], bld_set hnt g hq⟩
theorem Raw.set0 (h : Raw w b T R e k) {q' : Option Addr} {R' : List UInt8} (hq : (q' = .none ∧ R' = []) ∨ ∃ bb, q' = some ⟨bb, 0, .none⟩ ∧ Bld w bb T R') : Raw (w.setCell ⟨b, 0, .none⟩ (.pointer q')) b T R' e k := by
  have g := h.set 0 (.pointer q')
  have hnt := h.not_tyd
  obtain ⟨q, hbk, -⟩ := h
  exact ⟨q', by simp [World.setCell, Array.getElem?_modify, hbk], bld_set hnt g hq⟩
end

set_option maxHeartbeats 1000000 in
theorem waiting_any (w : World) (b : Nat) (T : Nat → Prop) (R : List UInt8) (E k : Nat) (h : Raw w b T R E k) :
    Calls Tryd.prog 62 #[.pointer (some ⟨b, 0, none⟩)] w fun e w' => e = .returned (.string (str R)) ∧ Chg (fun j => T j ∧ Tyd w j) w w' ∧ Raw w' b T R E k := by
  have HR := Lib.hid h
  obtain ⟨q, hbk, hq⟩ := h
  have c0 : w.cell? ⟨b, 0, none⟩ = some (.pointer q) := by simp [World.cell?, hbk]
  have hnt := HR.out.not_tyd
  rcases hq with ⟨rfl, rfl⟩ | ⟨bb, rfl, hB⟩
  · clear hbk hnt
    go_enter Tryd.func62, Tryd.ntmps62
    go_wp2_with fail
    go_ret
    exact ⟨rfl, Chg.refl _ _, HR.out⟩
  · have HS := Lib.hid (string_any bb _ R w hB.tight)
    have HB := Lib.hid hB
    have HK := Lib.hid hbk
    clear hB hbk
    go_enter Tryd.func62, Tryd.ntmps62
    go_wp2_with fail
    refine HS.out.mono ?_
    rintro e w1 ⟨rfl, g, hb1⟩
    have hg := Lib.hid g
    have hb1 := Lib.hid hb1
    clear g HS
    go_wp2_with fail
    go_ret
    refine ⟨rfl, hg.out, _, by rw [hg.out.block b HR.out.lt (fun h => hnt h.2), HK.out], .inr ⟨bb, rfl, hb1.out.mono fun j _ h => h.1⟩⟩

theorem waits_raw (w : World) (b : Nat) (T : Nat → Prop) (R : List UInt8) (E k : Nat) (h : Raw w b T R E k) :
    Calls Tryd.prog 64 #[.pointer (some ⟨b, 0, none⟩)] w fun e w' => e = .returned (.int .i64 (R.length : Nat)) ∧ Chg (fun j => T j ∧ Tyd w j) w w' ∧ Raw w' b T R E k := by
  have hs := str_size R
  have H := Lib.hid (waiting_any w b T R E k h)
  have HS := Lib.hid hs
  clear h hs
  go_enter Tryd.func64, Tryd.ntmps64
  go_wp2_with fail
  refine H.out.mono ?_
  rintro e w1 ⟨rfl, g, hr⟩
  have HG := Lib.hid g
  have HR := Lib.hid hr
  clear g hr H
  go_wp2_with fail
  go_ret
  exact ⟨ret1 (congrArg (fun n : Nat => Value.int .i64 (n : Int)) HS.out), HG.out, HR.out⟩

theorem blk_set0 {w : World} {b : Nat} {q q' : Option Addr} {u v : Value} (h : w.heap[b]? = some (.cells #[.pointer q, u, v] 83 (0, 0))) : (w.setCell ⟨b, 0, none⟩ (.pointer q')).heap[b]? = some (.cells #[.pointer q', u, v] 83 (0, 0)) := by
  simp [World.setCell, Array.getElem?_modify, h]

set_option maxHeartbeats 1000000 in
theorem keep_any (w : World) (b : Nat) (T : Nat → Prop) (R : List UInt8) (E k : Nat) (h : Raw w b T R E k) (x : ByteArray) (hx : x.size ≤ 500000) (hT : ∀ j, w.heap.size ≤ j → T j) :
    Calls Tryd.prog 65 #[.pointer (some ⟨b, 0, none⟩), .string x] w fun e w' => e = .returned (.tuple #[]) ∧ Chg (fun j => j = b) w w' ∧ Raw w' b T x.data.toList E k := by
  have HR := Lib.hid h
  have hlt := h.lt
  have f0 := h.fz 0
  obtain ⟨q, hbk, -⟩ := h
  have c0 : w.cell? ⟨b, 0, none⟩ = some (.pointer q) := by simp [World.cell?, hbk]
  have HK := Lib.hid hbk
  clear hbk
  by_cases hx0 : x = ⟨#[]⟩
  · subst hx0
    go_enter Tryd.func65, Tryd.ntmps65
    go_wp2_with fail
    go_end0
    exact ⟨rfl, Chg.set_one w b 0 _, HR.out.set0 (.inl ⟨rfl, rfl⟩)⟩
  · have hxe : x.toList.isEmpty = false := by
      rw [ByteArray.toList_eq]
      cases hd : x.data.toList with
      | nil => exact absurd (ByteArray.ext (by simpa using hd)) hx0
      | cons a r => rfl
    have hsz : ((w.setCell ⟨b, 0, none⟩ (.pointer none)).setCell ⟨b, 0, none⟩ (.pointer (some ⟨w.heap.size, 0, none⟩))).heap.size = w.heap.size := by simp [World.setCell]
    have hB := Bld.new ((w.setCell ⟨b, 0, none⟩ (.pointer none)).setCell ⟨b, 0, none⟩ (.pointer (some ⟨w.heap.size, 0, none⟩))) (fun j => w.heap.size ≤ j) (by simp [World.setCell])
    rw [hsz] at hB
    have hK : ((w.setCell ⟨b, 0, none⟩ (.pointer none)).setCell ⟨b, 0, none⟩ (.pointer (some ⟨w.heap.size, 0, none⟩))).heap[b]? = _ := blk_set0 (blk_set0 HK.out)
    have hG : Chg (fun j => j = b) w ((w.setCell ⟨b, 0, none⟩ (.pointer none)).setCell ⟨b, 0, none⟩ (.pointer (some ⟨w.heap.size, 0, none⟩))) := (Chg.set_one w b 0 _).trans' (Chg.set_one _ b 0 _)
    have HB := Lib.hid hB
    have HK2 := Lib.hid hK
    have HG := Lib.hid hG
    have HSZ := Lib.hid hsz
    clear hB hK hG hsz
    go_enter Tryd.func65, Tryd.ntmps65
    go_wp2_with fail
    generalize ((w.setCell ⟨b, 0, none⟩ (.pointer none)).setCell ⟨b, 0, none⟩ (.pointer (some ⟨w.heap.size, 0, none⟩))) = w2 at *
    refine (write_any w.heap.size _ [] x _ HB.out (by simp; omega)).mono ?_
    rintro e w3 ⟨rfl, g3, hb3⟩
    have HG3 := Lib.hid g3
    have HB3 := Lib.hid hb3
    clear g3 hb3
    go_wp2_with fail
    go_end0
    refine ⟨rfl, (HG.out.alloc _).trans HG3.out (fun j hj => .inr hj), _, ?_, .inr ⟨w.heap.size, rfl, ?_⟩⟩
    · rw [HG3.out.block b (by simp [HSZ.out]; omega) (by omega), heap_alloc_old w2 _ (by rw [HSZ.out]; exact hlt)]
      exact HK2.out
    · rw [List.nil_append] at HB3
      exact HB3.out.mono fun j _ h => hT j (by
        rcases h with h | h
        · exact h
        · simp [HSZ.out] at h; omega)

theorem err_raw (w : World) (b : Nat) (T : Nat → Prop) (R : List UInt8) (E k : Nat) (h : Raw w b T R E k) :
    Calls Tryd.prog 55 #[.pointer (some ⟨b, 0, none⟩)] w fun e w' => e = .returned (.int .i64 (E : Nat)) ∧ ∃ n, w' = w.drewN n := by
  have c1 := h.c1
  clear h
  go_enter Tryd.func55, Tryd.ntmps55
  go_wp2
  go_ret
  exact ⟨rfl, 0, rfl⟩

end Go.Proofs.YtbelpcniogcfoaaDoor.df
