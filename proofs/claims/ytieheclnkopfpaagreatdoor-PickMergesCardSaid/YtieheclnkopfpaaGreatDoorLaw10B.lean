/-
  PickBack.
-/
import Derived.Test.YtieheclnkopfpaaGreatDoorLaw10
import Derived.Test.YtieheclnkopfpaaGreatDoorBundA
import Derived.Test.YtieheclnkopfpaaGreatDoorWfew
namespace Go.Proofs.YtieheclnkopfpaaGreatDoor.law10
open Go.RowKit Go.Proofs.YtieheclnkopfpaaGreatDoor.tr Go.Proofs.YtieheclnkopfpaaGreatDoor.pm Go.Proofs.YtieheclnkopfpaaGreatDoor.pp Go.Proofs.YtieheclnkopfpaaGreatDoor.vi Go.Proofs.YtieheclnkopfpaaGreatDoor.wm
set_option linter.unusedVariables false
set_option linter.unusedSimpArgs false

theorem tgs_of {w : World} {a : Option Addr} {len cap : Nat} {zs : List Int} (h : IsInts .u64 w a len cap zs) (hl : len ≤ maxLen) : ∃ us : List Nat, us.length = len ∧ Tgs w (.slice a len cap) us ∧ ∀ x ∈ us, x < 18446744073709551616 := by
  rcases h with ⟨rfl, rfl⟩ | ⟨b, off, rfl, h0, h1, h2, h3, hc⟩
  · exact ⟨[], rfl, ⟨by simp, a, cap, rfl, .inl rfl⟩, fun x hx => by simp at hx⟩
  · have hwf : ∀ i, i < len → 0 ≤ zs.getD i 0 ∧ zs.getD i 0 ≤ 18446744073709551615 := fun i hi => by
      simpa [Lit.wf, IntKind.min, IntKind.max, IntKind.signed, IntKind.bits] using (hc i hi).2
    have hg : ∀ (i x : Nat), (zs.map Int.toNat)[i]? = some x → i < len ∧ zs.getD i 0 = (x : Int) := fun i x hx => by
      rw [List.getElem?_map] at hx
      obtain ⟨z, hz, rfl⟩ := Option.map_eq_some_iff.1 hx
      have hi : i < len := by have := (List.getElem?_eq_some_iff.1 hz).1; omega
      have hzd : zs.getD i 0 = z := by simp [List.getD, hz]
      have := hwf i hi
      rw [hzd] at this ⊢
      exact ⟨hi, by omega⟩
    have hlen : (zs.map Int.toNat).length = len := by simp [h3]
    refine ⟨zs.map Int.toNat, hlen, ⟨by omega, _, cap, by rw [hlen], .inr ⟨b, off, rfl, World.block_lt_of_cell? w ⟨b, off + 0, none⟩ (hc 0 h0).1, by omega, h2, fun i x hx => ?_⟩⟩, fun x hx => ?_⟩
    · obtain ⟨hi, e⟩ := hg i x hx
      rw [← e]; exact (hc i hi).1
    · obtain ⟨i, hi⟩ := List.getElem?_of_mem hx
      obtain ⟨hil, e⟩ := hg i x hi
      have := hwf i hil
      omega

set_option maxHeartbeats 1000000 in
set_option maxRecDepth 100000 in
theorem split_any (ts : List Tree) (us : List Nat) (hs : sizeL ts ≤ 50000) (ht64 : ∀ t ∈ ts, t.tag < 18446744073709551616) (hu64 : ∀ x ∈ us, x < 18446744073709551616) (w : World) (S : Nat → Prop) (v u : Value) (h : Rd w S v ts) (hu : Tgs w u us) :
    Calls Tryz.prog 10 #[v, u] w fun e w' => ∃ va vb, e = .returned (.tuple #[va, vb]) ∧ Rd w' (fun _ => True) va (ts.filter fun t => inB us t == true) ∧ Rd w' (fun _ => True) vb (ts.filter fun t => inB us t == false) ∧ w.grownBy w' none := by
  have HA := Lib.hid (part_any ts us true hs ht64 hu64 w S v u h hu)
  have HB := Lib.hid (fun w1 (g : w.grownBy w1 none) => part_any ts us false hs ht64 hu64 w1 S v u (h.grown g) (hu.grown g))
  clear h hu ht64 hu64
  go_enter Tryz.func10, Tryz.ntmps10
  go_wp2_with fail
  refine HA.out.mono ?_
  rintro e w1 ⟨va, rfl, ra, g1⟩
  have RA := Lib.hid ra
  have G1 := Lib.hid g1
  clear ra g1
  go_wp2_with fail
  refine (HB.out w1 G1.out).mono ?_
  rintro e w2 ⟨vb, rfl, rb, g2⟩
  have RA2 := Lib.hid (RA.out.grown g2)
  have RB := Lib.hid rb
  have G2 := Lib.hid (only_trans G1.out g2)
  clear rb g2
  go_wp2_with fail
  go_ret2
  exact ⟨va, vb, rfl, RA2.out, RB.out, G2.out⟩

set_option maxHeartbeats 1000000 in
set_option maxRecDepth 100000 in
theorem without_any (ts : List Tree) (us : List Nat) (hs : sizeL ts ≤ 50000) (ht64 : ∀ t ∈ ts, t.tag < 18446744073709551616) (hu64 : ∀ x ∈ us, x < 18446744073709551616) (w : World) (S : Nat → Prop) (v u : Value) (h : Rd w S v ts) (hu : Tgs w u us) :
    Calls Tryz.prog 15 #[v, u] w fun e w' => ∃ vb, e = .returned vb ∧ Rd w' (fun _ => True) vb (ts.filter fun t => inB us t == false) ∧ w.grownBy w' none := by
  have HB := Lib.hid (part_any ts us false hs ht64 hu64 w S v u h hu)
  clear h hu ht64 hu64
  go_enter Tryz.func15, Tryz.ntmps15
  go_wp2_with fail
  refine HB.out.mono ?_
  rintro e w2 ⟨vb, rfl, rb, g2⟩
  have RB := Lib.hid rb
  have G2 := Lib.hid g2
  clear rb g2
  go_wp2_with fail
  go_ret
  exact ⟨vb, rfl, RB.out, G2.out⟩

/-! The mathematics -/
theorem parts_perm (q : Tree → Bool) (ts : List Tree) : (ts.filter (fun t => q t == true) ++ ts.filter fun t => q t == false).Perm ts := by
  have h1 : (fun t => q t == true) = q := by funext t; simp
  have h2 : (fun t => q t == false) = fun t => !q t := by funext t; simp
  rw [h1, h2]
  exact List.filter_append_perm q ts
theorem merge_ok {Ls : List (List Tree)} {o : List Tree} (h : ∀ l ∈ Ls, checkL 0 0 l = 0) (hi : insAll [] Ls.flatten = some o) : mergeR Ls = (o, 0) := by
  unfold mergeR
  rw [if_neg (by rw [firstErr_all h]; simp), hi]
theorem merge_two {Ls : List (List Tree)} (h : ∀ l ∈ Ls, checkL 0 0 l = 0) (hi : insAll [] Ls.flatten = none) : mergeR Ls = ([], 14) := by
  unfold mergeR
  rw [if_neg (by rw [firstErr_all h]; simp), hi]
theorem back_ab {X : List Tree} (q : Tree → Bool) (hc : checkL 0 0 X = 0) : mergeR [X.filter (fun t => q t == true), X.filter fun t => q t == false] = (X, 0) := by
  refine merge_ok (fun l hl => ?_) ?_
  · simp at hl
    rcases hl with rfl | rfl <;> exact check_filter 0 _ _ 0 hc
  · have := ins_parts (rising_of hc).1 (parts_perm q X)
    simpa using this
theorem back_ba {X : List Tree} (q : Tree → Bool) (hc : checkL 0 0 X = 0) : mergeR [X.filter (fun t => q t == false), X.filter fun t => q t == true] = (X, 0) := by
  refine merge_ok (fun l hl => ?_) ?_
  · simp at hl
    rcases hl with rfl | rfl <;> exact check_filter 0 _ _ 0 hc
  · have := ins_parts (rising_of hc).1 ((List.perm_append_comm).trans (parts_perm q X))
    simpa using this
theorem back_xa {X : List Tree} (q : Tree → Bool) (hc : checkL 0 0 X = 0) : (mergeR [X, X.filter fun t => q t == true]).2 = if (X.filter fun t => q t == true) = [] then 0 else 14 := by
  have hok : ∀ l ∈ [X, X.filter fun t => q t == true], checkL 0 0 l = 0 := fun l hl => by
    simp at hl
    rcases hl with rfl | rfl
    · exact hc
    · exact check_filter 0 _ _ 0 hc
  cases hA : X.filter fun t => q t == true with
  | nil =>
    rw [hA] at hok
    rw [if_pos rfl, merge_ok hok (o := X) (by
      have := ins_parts (a := X) (b := []) (rising_of hc).1 (by rw [List.append_nil])
      simpa using this)]
  | cons f r =>
    rw [hA] at hok
    rw [if_neg (by simp), merge_two hok (by
      have hf : f ∈ X := (List.mem_filter.1 (show f ∈ X.filter fun t => q t == true by rw [hA]; simp)).1
      have := insAll_twice (b := f :: r) (rising_of hc).1 rfl hf
      simpa using this)]

end Go.Proofs.YtieheclnkopfpaaGreatDoor.law10
