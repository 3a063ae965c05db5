/-
  The laws of layer 16: awake, and what they ask.
-/
import Derived.Test.YtbebdaglkjhbjaaGreatDoorBundN
import Derived.Test.YtbebdaglkjhbjaaGreatDoorBundL
import Derived.Test.YtbebdaglkjhbjaaGreatDoorLaw15
namespace Go.Proofs.YtbebdaglkjhbjaaGreatDoor.law16
open Go.RowKit Go.Proofs.YtbebdaglkjhbjaaGreatDoor.vi Go.Proofs.YtbebdaglkjhbjaaGreatDoor.um Go.Proofs.YtbebdaglkjhbjaaGreatDoor.wm Go.Proofs.YtbebdaglkjhbjaaGreatDoor.tr Go.Proofs.YtbebdaglkjhbjaaGreatDoor.em Go.Proofs.YtbebdaglkjhbjaaGreatDoor.rm Go.Proofs.YtbebdaglkjhbjaaGreatDoor.law11 Go.Proofs.YtbebdaglkjhbjaaGreatDoor.dd Go.Proofs.YtbebdaglkjhbjaaGreatDoor.dr Go.Proofs.YtbebdaglkjhbjaaGreatDoor.tm Go.Proofs.YtbebdaglkjhbjaaGreatDoor.tf Go.Proofs.YtbebdaglkjhbjaaGreatDoor.ti Go.Proofs.YtbebdaglkjhbjaaGreatDoor.dl Go.Proofs.YtbebdaglkjhbjaaGreatDoor.dz Go.Proofs.YtbebdaglkjhbjaaGreatDoor.da Go.Proofs.YtbebdaglkjhbjaaGreatDoor.law13
set_option linter.unusedVariables false
set_option linter.unusedSimpArgs false

theorem es_of1 {w : World} {b : Nat} {x : Ent} {ty : TypeId} (hb : w.heap[b]? = some (.cells #[.string x.key, .string x.value] ty (0, 0))) : EsS (fun _ => True) w (.slice (some ⟨b, 0, none⟩) 1 1) [x] :=
  ⟨_, _, rfl, .inr ⟨b, 0, rfl, trivial, by simp, by unfold maxLen; omega, fun i y hy => by
    have : i = 0 := by have := (List.getElem?_eq_some_iff.1 hy).1; simp at this; omega
    subst this
    simp at hy; subst hy
    simp [World.cell?, hb]⟩⟩
theorem rs_of1 {w : World} {b : Nat} {u : Value} {x : Rw} {ty : TypeId} (hb : w.heap[b]? = some (.cells #[u, .int .u64 (x.n : Nat)] ty (0, 0))) (hu : EsS (fun _ => True) w u x.d) : Rs (fun _ => True) w (.slice (some ⟨b, 0, none⟩) 1 1) [x] :=
  ⟨_, _, rfl, .inr ⟨b, 0, rfl, trivial, by simp, by unfold maxLen; omega, fun i y hy => by
    have : i = 0 := by have := (List.getElem?_eq_some_iff.1 hy).1; simp at this; omega
    subst this
    simp at hy; subst hy
    exact ⟨u, by simp [World.cell?, hb], hu, by simp [World.cell?, hb]⟩⟩⟩
theorem rs_of2 {w : World} {b : Nat} {u v : Value} {x y : Rw} {ty : TypeId} (hb : w.heap[b]? = some (.cells #[u, .int .u64 (x.n : Nat), v, .int .u64 (y.n : Nat)] ty (0, 0))) (hu : EsS (fun _ => True) w u x.d) (hv : EsS (fun _ => True) w v y.d) : Rs (fun _ => True) w (.slice (some ⟨b, 0, none⟩) 2 2) [x, y] :=
  ⟨_, _, rfl, .inr ⟨b, 0, rfl, trivial, by simp, by unfold maxLen; omega, fun i z hz => by
    have hi : i = 0 ∨ i = 1 := by have := (List.getElem?_eq_some_iff.1 hz).1; simp at this; omega
    rcases hi with rfl | rfl
    · simp at hz; subst hz
      exact ⟨u, by simp [World.cell?, hb], hu, by simp [World.cell?, hb]⟩
    · simp at hz; subst hz
      exact ⟨v, by simp [World.cell?, hb], hv, by simp [World.cell?, hb]⟩⟩⟩

def rA3 : Rw := ⟨[eA], 3⟩
def rA2 : Rw := ⟨[eA], 2⟩
theorem ex_rows : rowE rA = 0 ∧ rowE rA3 = 0 ∧ rowE rA2 = 0 ∧ rowE rB = 0 := by
  have h : ∀ x : Ent, checkE x = 0 → checkD [x] = 0 := fun x hx => by simp [checkD, countE, walkE, hx, behindO]
  refine ⟨?_, ?_, ?_, ?_⟩
  · simp [rowE, rA, h eA ex_chk.1]
  · simp [rowE, rA3, h eA ex_chk.1]
  · simp [rowE, rA2, h eA ex_chk.1]
  · simp [rowE, rB, h eB ex_chk.2]
theorem ex_good1 : tm.Good [rA] := ⟨by simp, by simpa using ex_rows.1, by simp⟩
theorem ex_good2 : tm.Good [rA3, rB] := by
  refine ⟨by simp, ?_, ?_⟩
  · intro x hx
    simp at hx
    rcases hx with rfl | rfl
    · exact ex_rows.2.1
    · exact ex_rows.2.2.2
  · have hk : key rA3 = [1, 1, 97, 0] := ex_keyA
    have : ltR rA3 rB := by unfold ltR; rw [hk, ex_keyB]; decide
    simpa using this
theorem ex_getA : getT rA.d [rA3, rB] = 3 ∧ getT rA3.d [rA] = 1 ∧ getT rB.d [rA] = 0 := by
  have hA : key rA = [1, 1, 97, 0] := ex_keyA
  have hA3 : key rA3 = [1, 1, 97, 0] := ex_keyA
  have h1 : keyD rA.d = [1, 1, 97, 0] := ex_keyA
  have h3 : keyD rA3.d = [1, 1, 97, 0] := ex_keyA
  have hB : keyD rB.d = [1, 1, 98, 0] := ex_keyB
  refine ⟨?_, ?_, ?_⟩
  · unfold getT; rw [if_pos (by rw [hA3, h1])]; rfl
  · unfold getT; rw [if_pos (by rw [hA, h3])]; rfl
  · unfold getT; rw [if_neg (by rw [hA, hB]; decide)]; rfl
theorem ex_diff : diffX ⟨1, [rA]⟩ ⟨2, [rA3, rB]⟩ = (⟨1, 2, [rA2, rB]⟩, 0) := by
  have hat : atT [rA3, rB] [rA] = true := (atT_iff _ _).2 fun r hr => by
    obtain rfl : r = rA := by simpa using hr
    rw [ex_getA.1]; show 1 ≤ 3; omega
  rw [diffX_eq (a := ⟨1, [rA]⟩) (b := ⟨2, [rA3, rB]⟩) ex_good1 ex_good2 (by show 1 < 2; omega) hat]
  have hd : diffT [rA] [rA3, rB] = [rA2, rB] := by
    have e1 := ex_getA.2.1
    have e2 := ex_getA.2.2
    have n1 : rA3.n = 3 := rfl
    have n2 : rB.n = 2 := rfl
    unfold diffT
    rw [List.filter_cons_of_pos (by simp [e1, n1]), List.filter_cons_of_pos (by simp [e2, n2]), List.filter_nil, List.map_cons, List.map_cons, List.map_nil, e1, e2]
    rfl
  simp only
  rw [hd]
theorem ex_tok : Tok [rA] ∧ Tok [rA3, rB] := by
  have h1 : Fit rA := fit_ok ex_rows.1 (by show 1 < _; omega)
  have h2 : Fit rA3 := fit_ok ex_rows.2.1 (by show 3 < _; omega)
  have h3 : Fit rB := fit_ok ex_rows.2.2.2 (by show 2 < _; omega)
  refine ⟨⟨by simp, by simpa using h1⟩, ⟨by simp, ?_⟩⟩
  intro r hr
  simp at hr
  rcases hr with rfl | rfl
  · exact h2
  · exact h3

set_option maxHeartbeats 2000000 in
set_option maxRecDepth 100000 in
theorem awake_any (w : World) (hT : tb.Tab w) :
    Calls Tryz.prog 22 #[] w fun e w' => e = .returned (.bool true) ∧ w.grownBy w' none := by
  have HT := Lib.hid (fun w' (g : w.grownBy w' none) => law15.Awake_any w' (tb.kept hT g))
  obtain ⟨m1, m2, m3, m4, m5⟩ := made4 w (.cells #[.string eA.key, .string eA.value] 115) (.cells #[.string eB.key, .string eB.value] 115) (.cells #[.slice (some ⟨w.heap.size, 0, none⟩) 1 1, .int .u64 (rA.n : Nat)] 80)
    (.cells #[.slice (some ⟨w.heap.size, 0, none⟩) 1 1, .int .u64 (rA3.n : Nat), .slice (some ⟨w.heap.size + 1, 0, none⟩) 1 1, .int .u64 (rB.n : Nat)] 80)
  have M5 := Lib.hid m5
  have HD := Lib.hid (diff_any ⟨1, [rA]⟩ ⟨2, [rA3, rB]⟩ _ _ _ _ _ ex_tok.1 ex_tok.2 (tb.kept hT m5) (rs_of1 m3 (es_of1 (x := eA) m1)) (rs_of2 m4 (es_of1 (x := eA) m1) (es_of1 (x := eB) m2)))
  rw [ex_diff] at HD
  unfold snV dtV at HD
  simp only at HD
  clear m1 m2 m3 m4 m5 hT
  go_enter Tryz.func22, Tryz.ntmps22
  go_wp2_with fail
  refine HD.out.mono ?_
  rintro e w1 ⟨u1, rfl, r1, g1⟩
  have G1 := Lib.hid (only_trans M5.out g1)
  obtain ⟨b, off, cap, v0, hv, -, hc1, hc2, k0, -, k1⟩ := r1.at (i := 0) (r := rA2) rfl
  obtain ⟨b', off', cap', v1, hv', -, -, -, n0, -, n1⟩ := r1.at (i := 1) (r := rB) rfl
  have hv3 := hv.symm.trans hv'
  simp only [Value.slice.injEq, Option.some.injEq, Addr.mk.injEq, and_true, true_and] at hv3
  obtain ⟨⟨rfl, rfl⟩, rfl⟩ := hv3
  subst hv
  have K0 := Lib.hid k1
  have K1 := Lib.hid n1
  unfold maxLen at hc2
  have hc1 : 2 ≤ cap := hc1
  have GA := Lib.hid (only_alloc (only_refl w1 none) (.cells #[.int .u64 1, .int .u64 2, .slice (some ⟨b, off, none⟩) 2 cap] 51))
  have F0 := Lib.hid (heap_alloc_new w1 (.cells #[.int .u64 1, .int .u64 2, .slice (some ⟨b, off, none⟩) 2 cap] 51))
  clear r1 g1 hv' k0 k1 n0 n1
  go_wp2_with fail
  refine (HT.out _ (only_trans G1.out GA.out)).mono ?_
  rintro e w2 ⟨rfl, g2⟩
  have G2 := Lib.hid (only_trans (only_trans G1.out GA.out) g2)
  obtain ⟨d0, d1, d2, -⟩ := cells3 (heap_kept F0.out g2 (by simp))
  have c0 : w2.cell? ⟨b, off + 1, none⟩ = some (.int .u64 2) := by have h9 := (Chg.of_none (S := fun _ => False) (only_trans GA.out g2)).cell K0.out (fun e => e); rw [Nat.zero_mul, Nat.add_zero] at h9; exact h9
  have c1 : w2.cell? ⟨b, off + 2 + 1, none⟩ = some (.int .u64 2) := by have h9 := (Chg.of_none (S := fun _ => False) (only_trans GA.out g2)).cell K1.out (fun e => e); rw [Nat.one_mul] at h9; exact h9
  clear g2
  go_wp2_with fail
  go_ret
  exact ⟨rfl, G2.out⟩

end Go.Proofs.YtbebdaglkjhbjaaGreatDoor.law16
