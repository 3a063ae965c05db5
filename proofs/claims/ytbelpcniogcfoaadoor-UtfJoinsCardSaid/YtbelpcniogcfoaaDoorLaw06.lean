/-
  The statements of layer 6, for whatever keeps the contracts of a deframer.
-/
import Derived.Test.YtbelpcniogcfoaaDoorDof
import Derived.Test.YtbelpcniogcfoaaDoorLaw05
import Derived.Test.YtbelpcniogcfoaaDoorStrs
import Derived.Test.YtbelpcniogcfoaaDoorChg
namespace Go.Proofs.YtbelpcniogcfoaaDoor.law06
open Go.RowKit Go.Proofs.YtbelpcniogcfoaaDoor.fm Go.Proofs.YtbelpcniogcfoaaDoor.vi Go.Proofs.YtbelpcniogcfoaaDoor.crc
set_option linter.unusedVariables false
set_option linter.unusedSimpArgs false

theorem ofR_more (L M : List UInt8) : (ofR L).1 ++ (ofR (L ++ M)).1.drop (ofR L).1.length = (ofR (L ++ M)).1 := by
  rw [ofR_app]
  split
  · simp
  · simp

/-- What layer 6's own test of itself asks of a deframer: a state that holds of a block, of the blocks that are its own, and of all bytes that it was fed. -/
structure Core where
  Def : World → Nat → (Nat → Prop) → List UInt8 → Prop
  ty : ∀ {w : World} {b : Nat} {S : Nat → Prop} {L : List UInt8}, Def w b S L → ∀ k, S k → ∃ cur t fz, w.heap[k]? = some (.cells cur t fz) ∧ t ≠ 9 ∧ t ≠ 3
  kept : ∀ {w w' : World} {b : Nat} {S T : Nat → Prop} {L : List UInt8}, Def w b S L → Chg T w w' → (∀ k, S k → ¬ T k) → Def w' b S L
  new : ∀ w : World, Calls Tryd.prog 53 #[] w fun e w' => ∃ b S, e = .returned (.pointer (some ⟨b, 0, none⟩)) ∧ Def w' b S [] ∧ (∀ k, S k → w.heap.size ≤ k) ∧ w.grownBy w' none
  feed : ∀ (w : World) (b : Nat) (S : Nat → Prop) (L : List UInt8) (a : Option Addr) (len cap : Nat) (xs : List ByteArray), Def w b S L → Strs w a len cap xs → (∀ bb off, a = some ⟨bb, off, none⟩ → ¬ S bb) → len ≤ maxLen → L.length + (cat xs).length ≤ 100000 →
    Calls Tryd.prog 54 #[.pointer (some ⟨b, 0, none⟩), .slice a len cap] w fun e w' => ∃ v S', e = .returned v ∧ Def w' b S' (L ++ cat xs) ∧ (∀ k, S' k → S k ∨ w.heap.size ≤ k) ∧ Chg S w w' ∧ Own w.heap.size w' v ((ofR (L ++ cat xs)).1.drop (ofR L).1.length)
  err : ∀ (w : World) (b : Nat) (S : Nat → Prop) (L : List UInt8), Def w b S L → Calls Tryd.prog 55 #[.pointer (some ⟨b, 0, none⟩)] w fun e w' => e = .returned (.int .i64 ((ofR L).2.1 : Nat)) ∧ ∃ n, w' = w.drewN n

section
variable {I : Core} {w w' : World} {b : Nat} {S T : Nat → Prop} {L : List UInt8}
theorem Core.lt (h : I.Def w b S L) : ∀ k, S k → k < w.heap.size := fun k hk => by
  obtain ⟨cur, t, fz, h1, -⟩ := I.ty h k hk
  exact (Array.getElem?_eq_some_iff.1 h1).1
theorem Core.none (h : I.Def w b S L) (g : w.grownBy w' none) : I.Def w' b S L := I.kept h (Chg.of_none (S := fun _ => False) g) (fun _ _ e => e)
end

theorem own_chg {w w' : World} {T : Nat → Prop} {base : Nat} {v : Value} {l : List (List UInt8)} (ho : Own base w v l) (g : Chg T w w') (hv : ∀ k, v.ownBlock = some k → ¬ T k) : Own base w' v l := g.ownsRow ho hv

theorem Awake05_any (w : World) :
    Calls Tryd.prog 56 #[] w fun e w' => e = .returned (.bool true) ∧ w.grownBy w' none := by
  go_enter Tryd.func56, Tryd.ntmps56
  go_wp2_with (go_at_call 60; refine (law05.awake_any _).mono ?_; rintro e w' ⟨rfl, g⟩)
  go_ret
  exact ⟨rfl, g⟩

theorem ofR_51 : ofR [81] = ([], 0, 1) := by
  rw [ofR_short (by unfold parseR; simp)]; rfl
theorem ofR_5147 : ofR [81, 71] = ([], 5, 0) := by
  have h : parseR [81, 71] = ([], 0, 5) := by unfold parseR; simp
  rw [ofR_bad (by rw [h]; decide) (by rw [h]; decide), h]

set_option maxHeartbeats 1000000 in
set_option maxRecDepth 100000 in
theorem awake_any (I : Core) (w : World) :
    Calls Tryd.prog 49 #[] w fun e w' => e = .returned (.bool true) ∧ w.grownBy w' none := by
  have Hnew := Lib.hid I.new
  have Herr := Lib.hid I.err
  have Hfeed := Lib.hid I.feed
  go_enter Tryd.func49, Tryd.ntmps49
  go_wp2_with fail
  refine (Hnew.out _).mono ?_
  rintro e w1 ⟨b, S, rfl, hd, hS, g1⟩
  have D1 := Lib.hid hd
  have G1 := Lib.hid g1
  have HS := Lib.hid hS
  have HL1 := Lib.hid (Core.lt hd)
  clear hd g1 hS
  go_wp2_with fail
  refine (Hfeed.out _ b S [] _ _ _ _ (Core.none D1.out (only_alloc (only_refl _ none) _)) (Strs.one ⟨#[81]⟩ (by decide) w1) (fun bb off e h => by have := HL1.out _ h; simp at e <;> omega) (by decide) (by decide)).mono ?_
  rintro e w2 ⟨v, S2, rfl, hd2, hS2, g2, o2⟩
  have D2 := Lib.hid hd2
  have HS2 : Hid (∀ k, S2 k → w.heap.size ≤ k) := fun k hk => by
    have h1 := G1.out.size
    rcases hS2 k hk with h | h
    · exact HS.out k h
    · simp at h; omega
  have G2 : Hid (w.grownBy w2 none) := Chg.none_new (only_alloc G1.out (.cells #[.string ⟨#[81]⟩] 9)) g2 HS.out
  have HL2 := Lib.hid (Core.lt hd2)
  clear hd2 g2 o2 hS2
  go_wp2_with fail
  refine (Herr.out _ b _ _ D2.out).mono ?_
  rintro e w' ⟨rfl, n, rfl⟩
  rw [show ([] : List UInt8) ++ cat [(⟨#[81]⟩ : ByteArray)] = [81] from rfl, ofR_51]
  go_wp2_with fail
  refine (Hfeed.out _ b S2 _ _ _ _ _ (Core.none D2.out (only_alloc (only_drewN (only_refl _ none) _) _)) (Strs.one ⟨#[71]⟩ (by decide) _) (fun bb off e h => by have := HL2.out _ h; simp at e <;> omega) (by decide) (by decide)).mono ?_
  rintro e w3 ⟨v3, S3, rfl, hd3, hS3, g3, o3⟩
  have D3 := Lib.hid hd3
  have G3 : Hid (w.grownBy w3 none) := Chg.none_new (only_alloc (only_drewN G2.out n) (.cells #[.string ⟨#[71]⟩] 9)) g3 HS2.out
  clear hd3 g3 o3 hS3
  go_wp2_with fail
  refine (Awake05_any _).mono ?_
  rintro e w4 ⟨rfl, g4⟩
  go_wp2_with fail
  refine (Herr.out _ b _ _ (Core.none D3.out g4)).mono ?_
  rintro e w' ⟨rfl, n2, rfl⟩
  rw [show ([] : List UInt8) ++ cat [(⟨#[81]⟩ : ByteArray)] ++ cat [(⟨#[71]⟩ : ByteArray)] = [81, 71] from rfl, ofR_5147]
  go_wp2_with fail
  go_ret
  exact ⟨rfl, only_drewN (only_trans G3.out g4) _⟩

end Go.Proofs.YtbelpcniogcfoaaDoor.law06
