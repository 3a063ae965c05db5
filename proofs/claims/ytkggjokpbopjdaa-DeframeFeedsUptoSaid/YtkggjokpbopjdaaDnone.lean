/-
  DeframeNone; what the laws of layer 6 ask of this deframer.
-/
import Derived.Test.YtkggjokpbopjdaaDiface
namespace Go.Proofs.Ytkggjokpbopjdaa.df
open Go.RowKit Go.Proofs.Ytkggjokpbopjdaa.fm Go.Proofs.Ytkggjokpbopjdaa.vi Go.Proofs.Ytkggjokpbopjdaa.crc Go.Proofs.Ytkggjokpbopjdaa.cur Go.Proofs.Ytkggjokpbopjdaa.bd
set_option linter.unusedVariables false
set_option linter.unusedSimpArgs false

def iface : law06.Iface where
  Def := DefP
  ty := fun h => h.types
  kept := fun h g hd => h.kept g hd
  new := new_any
  clone := clone_any
  feed := feed_any
  err := err_any
  waits := waits_any
  count := count_any

theorem feed_nil (v : Value) (w : World) : Calls Try.prog 23 #[.pointer none, v] w fun e w' => e = .returned (.slice none 0 0) ∧ w = w' := by
  go_enter Try.func23, Try.ntmps23
  go_wp2
  go_ret
  exact ⟨rfl, rfl⟩
theorem err_nil (w : World) : Calls Try.prog 25 #[.pointer none] w fun e w' => e = .returned (.int .i64 25) ∧ w = w' := by
  go_enter Try.func25, Try.ntmps25
  go_wp2
  go_ret
  exact ⟨rfl, rfl⟩
theorem waits_nil (w : World) : Calls Try.prog 26 #[.pointer none] w fun e w' => e = .returned (.int .i64 0) ∧ w = w' := by
  go_enter Try.func26, Try.ntmps26
  go_wp2
  go_ret
  exact ⟨rfl, rfl⟩
theorem count_nil (w : World) : Calls Try.prog 27 #[.pointer none] w fun e w' => e = .returned (.int .i64 0) ∧ w = w' := by
  go_enter Try.func27, Try.ntmps27
  go_wp2
  go_ret
  exact ⟨rfl, rfl⟩
theorem clone_nil (w : World) : Calls Try.prog 22 #[.pointer none] w fun e w' => e = .returned (.pointer none) ∧ w = w' := by
  go_enter Try.func22, Try.ntmps22
  go_wp2
  go_ret
  exact ⟨rfl, rfl⟩

theorem ofR_zero : ofR [81, 70, 0, 0, 0, 0, 0, 81] = ([[]], 0, 1) := by
  have h1 : fr [] = [81, 70, 0, 0, 0, 0, 0] := congrArg (fun b : ByteArray => b.data.toList) law05.fr_nil
  have h2 := parse_fr [] [81] (by decide)
  rw [h1] at h2
  have h3 : parseR [81, 70, 0, 0, 0, 0, 0, 81] = ([], 7, 0) := h2
  rw [ofR_ok (by rw [h3]), h3]
  show ([] :: (ofR [81]).1, (ofR [81]).2) = _
  rw [law06.ofR_51]

theorem strs_two (x y : ByteArray) (hx : x.size ≤ maxLen) (hy : y.size ≤ maxLen) (w : World) : Strs (w.alloc (.cells #[.string x, .string y] 9)) (some ⟨w.heap.size, 0, none⟩) 2 2 [x, y] :=
  ⟨rfl, fun z hz => by simp at hz; rcases hz with rfl | rfl <;> assumption, .inr ⟨_, 0, rfl, by omega, by unfold maxLen; omega, fun i z hz => by
    have : i = 0 ∨ i = 1 := by have := (List.getElem?_eq_some_iff.1 hz).1; simp at this; omega
    rcases this with rfl | rfl <;> (simp at hz; subst hz; exact World.cell?_alloc_at _ _ _ _ rfl)⟩⟩

set_option maxHeartbeats 4000000 in
set_option maxRecDepth 100000 in
theorem none_any (W : World) :
    Calls Try.prog 8 #[] W fun e w' => e = .returned (.bool true) ∧ W.grownBy w' none := by
  have hz := def_zero W
  have hgz := only_alloc (only_refl W none) (.cells #[.pointer none, .int .i64 0, .int .i64 0] 60)
  have hsz : (W.alloc (.cells #[.pointer none, .int .i64 0, .int .i64 0] 60)).heap.size = W.heap.size + 1 := by simp
  have hf := feed_any _ W.heap.size _ [] _ 2 2 _ (hz.grown (only_alloc (only_refl _ none) (.cells #[.string ⟨#[81, 70, 0, 0, 0, 0]⟩, .string ⟨#[0, 81]⟩] 9))) (strs_two ⟨#[81, 70, 0, 0, 0, 0]⟩ ⟨#[0, 81]⟩ (by decide) (by decide) (W.alloc (.cells #[.pointer none, .int .i64 0, .int .i64 0] 60))) (fun bb off e h => by simp at e <;> omega) (by decide) (by decide)
  rw [show ([] : List UInt8) ++ cat [(⟨#[81, 70, 0, 0, 0, 0]⟩ : ByteArray), ⟨#[0, 81]⟩] = [81, 70, 0, 0, 0, 0, 0, 81] from rfl, ofR_zero, ofR_nil, List.length_nil, List.drop_zero, hsz] at hf
  have HF := Lib.hid hf
  have HGZ := Lib.hid hgz
  clear hf hz hgz
  go_enter Try.func8, Try.ntmps8
  go_wp2_with fail
  refine HF.out.mono ?_
  rintro e w1 ⟨v, S1, rfl, d1, hS1, g1, o1⟩
  obtain ⟨g, cap, rfl, -, hg⟩ := World.ownsRow.form o1 (by decide)
  have hcell : w1.cell? ⟨g, 0, none⟩ = some (.string ⟨#[]⟩) := own_cell o1 0 (by decide)
  have D1 := Lib.hid d1
  have HC := Lib.hid hcell
  have HS1 : Hid (∀ k, S1 k → W.heap.size ≤ k) := fun k hk => by
    rcases hS1 k hk with h | h
    · omega
    · simp at h; omega
  have G1 : Hid (W.grownBy w1 none) := Chg.none_new (only_alloc HGZ.out (.cells #[.string ⟨#[81, 70, 0, 0, 0, 0]⟩, .string ⟨#[0, 81]⟩] 9)) g1 (fun k hk => by omega)
  clear d1 g1 o1 HF hcell hS1
  go_wp2_with fail
  refine (law06.awake_any iface _).mono ?_
  rintro e w2 ⟨rfl, g2⟩
  have D2 := Lib.hid (D1.out.grown g2)
  have hc2 := g2.cell HC.out (by simp)
  have G2 := Lib.hid (only_trans G1.out g2)
  have hg2 : g < w2.heap.size := Nat.lt_of_lt_of_le hg g2.size
  have hb2 := D2.out.raw.lt
  clear g2 HC
  go_wp2_with fail
  refine (feed_nil _ _).mono ?_
  rintro e w' ⟨rfl, rfl⟩
  go_wp2_with fail
  refine (err_nil _).mono ?_
  rintro e w' ⟨rfl, rfl⟩
  go_wp2_with fail
  refine (waits_nil _).mono ?_
  rintro e w' ⟨rfl, rfl⟩
  go_wp2_with fail
  refine (count_nil _).mono ?_
  rintro e w' ⟨rfl, rfl⟩
  go_wp2_with fail
  refine (clone_nil _).mono ?_
  rintro e w' ⟨rfl, rfl⟩
  go_wp2_with fail
  have hw := waits_any _ W.heap.size S1 [81, 70, 0, 0, 0, 0, 0, 81] (D2.out.grown (only_alloc (only_refl w2 none) (.cells #[.string ⟨#[120]⟩] 9)))
  rw [ofR_zero] at hw
  refine hw.mono ?_
  clear hw
  rintro e w3 ⟨S3, rfl, d3, hS3, g3⟩
  have he := err_any _ W.heap.size S3 [81, 70, 0, 0, 0, 0, 0, 81] d3
  rw [ofR_zero] at he
  have HE := Lib.hid he
  have G3 : Hid (W.grownBy w3 none) := Chg.none_new (only_alloc G2.out (.cells #[.string ⟨#[120]⟩] 9)) g3 HS1.out
  clear he d3 hS3 g3
  go_wp2_with fail
  refine HE.out.mono ?_
  rintro e w' ⟨rfl, m, rfl⟩
  go_wp2_with fail
  go_ret
  exact ⟨rfl, only_drewN G3.out _⟩

end Go.Proofs.Ytkggjokpbopjdaa.df
