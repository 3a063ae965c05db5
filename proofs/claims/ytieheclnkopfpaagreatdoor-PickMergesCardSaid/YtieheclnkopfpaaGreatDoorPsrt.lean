/-
  The library's sort of fields by their tags.
-/
import Derived.Test.YtieheclnkopfpaaGreatDoorPfind
import Derived.Test.YtieheclnkopfpaaGreatDoorSlay
import Derived.Test.YtieheclnkopfpaaGreatDoorBundT
namespace Go.Proofs.YtieheclnkopfpaaGreatDoor.pp
open Go.RowKit Go.Lib Go.Sort Go.Proofs.YtieheclnkopfpaaGreatDoor.tr Go.Proofs.YtieheclnkopfpaaGreatDoor.pm Go.Proofs.YtieheclnkopfpaaGreatDoor.wm
set_option linter.unusedVariables false
set_option linter.unusedSimpArgs false

instance : Inhabited Tree := ⟨.mk 0 0 0 ⟨#[]⟩ []⟩

/-- A field as it lies in a row: the field, and where its list is. -/
abbrev Cel := Tree × Option Addr × Nat
def encF (x : Cel) : List Value := [.int .u64 (x.1.tag : Nat), .int .i64 x.1.typ, .int .u64 (x.1.num : Nat), .string x.1.text, .slice x.2.1 x.1.list.length x.2.2]
def cmpT (a b : Nat) : Int := if a < b then -1 else if b < a then 1 else 0

theorem ltT (x y : Cel) : ltOf (fun x y : Cel => cmpT x.1.tag y.1.tag) x y = decide (x.1.tag < y.1.tag) := by
  unfold ltOf cmpT
  by_cases h1 : x.1.tag < y.1.tag
  · simp [h1]
  · by_cases h2 : y.1.tag < x.1.tag <;> simp [h1, h2]
theorem swoT : SWO (ltOf fun x y : Cel => cmpT x.1.tag y.1.tag) where
  irrefl x := by rw [ltT]; simp
  trans x y z h1 h2 := by rw [ltT] at *; simp at *; omega
  ntrans x y z h1 h2 := by rw [ltT] at *; simp at *; omega

set_option maxHeartbeats 1000000 in
theorem nan_any (a : Nat) (w : World) : Calls Tryz.prog 57 #[.int .u64 (a : Nat)] w fun e w' => e = .returned (.bool false) ∧ w = w' := by
  have hb : ((a : Int) != (a : Int)) = false := by simp
  go_enter Tryz.func57, Tryz.ntmps57
  go_wp2_with fail
  go_ret
  exact ⟨rfl, rfl⟩

set_option maxHeartbeats 2000000 in
theorem compare_any (a b : Nat) (w : World) : Calls Tryz.prog 42 #[.int .u64 (a : Nat), .int .u64 (b : Nat)] w fun e w' => e = .returned (.int .i64 (cmpT a b)) ∧ w = w' := by
  have HA := Lib.hid (fun w => nan_any a w)
  have HB := Lib.hid (fun w => nan_any b w)
  unfold cmpT
  by_cases h1 : a < b
  · rw [if_pos h1]
    go_enter Tryz.func42, Tryz.ntmps42
    go_wp2_with fail
    refine (HA.out _).mono ?_
    rintro e w1 ⟨rfl, rfl⟩
    go_wp2_with fail
    refine (HB.out _).mono ?_
    rintro e w2 ⟨rfl, rfl⟩
    go_wp2_with fail
    go_ret
    exact ⟨rfl, rfl⟩
  · rw [if_neg h1]
    by_cases h2 : b < a
    · rw [if_pos h2]
      go_enter Tryz.func42, Tryz.ntmps42
      go_wp2_with fail
      refine (HA.out _).mono ?_
      rintro e w1 ⟨rfl, rfl⟩
      go_wp2_with fail
      refine (HB.out _).mono ?_
      rintro e w2 ⟨rfl, rfl⟩
      go_wp2_with fail
      go_ret
      exact ⟨rfl, rfl⟩
    · rw [if_neg h2]
      go_enter Tryz.func42, Tryz.ntmps42
      go_wp2_with fail
      refine (HA.out _).mono ?_
      rintro e w1 ⟨rfl, rfl⟩
      go_wp2_with fail
      refine (HB.out _).mono ?_
      rintro e w2 ⟨rfl, rfl⟩
      go_wp2_with fail
      go_ret
      exact ⟨rfl, rfl⟩

set_option maxHeartbeats 1000000 in
theorem byTag_any (x y : Cel) (W : World) : Calls Tryz.prog 30 #[.agg #[.int .u64 (x.1.tag : Nat), .int .i64 x.1.typ, .int .u64 (x.1.num : Nat), .string x.1.text, .slice x.2.1 x.1.list.length x.2.2], .agg #[.int .u64 (y.1.tag : Nat), .int .i64 y.1.typ, .int .u64 (y.1.num : Nat), .string y.1.text, .slice y.2.1 y.1.list.length y.2.2]] W fun e w' =>
    e = .returned (.int .i64 (cmpT x.1.tag y.1.tag)) ∧ ∃ q os', w' = grow (W.drewN q) os' := by
  have HC := Lib.hid (fun w => compare_any x.1.tag y.1.tag w)
  generalize cmpT x.1.tag y.1.tag = r at *
  go_enter Tryz.func30, Tryz.ntmps30
  go_wp2_with fail
  refine (HC.out _).mono ?_
  rintro e w1 ⟨rfl, rfl⟩
  go_wp2_with fail
  go_ret
  exact ⟨rfl, 0, _, by rw [alloc_eq_grow, alloc_eq_grow, grow_grow]; rfl⟩

theorem byTag_lays (blk off size : Nat) (w : World) : CmpLays Tryz.prog 30 #[] encF 5 (fun x y => cmpT x.1.tag y.1.tag) blk off size w :=
  fun _ _ _ _ x y => byTag_any x y _

theorem isAggF (w : World) : (isAgg 38).run Tryz.prog w = .ok true w := by kernel_rfl
theorem sizeOfF (w : World) : (Go.sizeOf 38).run Tryz.prog w = .ok 5 w := by kernel_rfl

/-- The fields of a row as they lie there. -/
theorem cels_of : ∀ (ts : List Tree) (lv : Nat → Value), (∀ (i : Nat) (t : Tree), ts[i]? = some t → ∃ a c, lv i = .slice a t.list.length c) → ∃ ds : List Cel, ds.map Prod.fst = ts ∧ ∀ (i : Nat) (x : Cel), ds[i]? = some x → lv i = .slice x.2.1 x.1.list.length x.2.2
  | [], lv, _ => ⟨[], rfl, fun i x h => by simp at h⟩
  | t :: r, lv, h => by
    obtain ⟨a, c, h0⟩ := h 0 t rfl
    obtain ⟨ds, h1, h2⟩ := cels_of r (fun i => lv (i + 1)) (fun i u hu => h (i + 1) u (by simpa using hu))
    refine ⟨(t, a, c) :: ds, by simp [h1], fun i x hx => ?_⟩
    cases i with
    | zero => simp at hx; subst hx; exact h0
    | succ i => exact h2 i x (by simpa using hx)

theorem sort_worlds (enc : Cel → List Value) (w : World) (g m : Nat) (d : Array Cel) (os : Array Obj) : w.grownBy (sortWorldK enc 5 w g 0 m d os) (some g) := by
  refine ⟨rfl, rfl, rfl, ?_, fun k hk hne => ?_⟩
  · simp [sortWorldK, putRowK, putRow, mapBlock, Sort.ahead, grow]
  · have hkg : g ≠ k := fun e => hne (by rw [e])
    simp only [sortWorldK, putRowK, putRow, mapBlock, Sort.ahead, grow]
    rw [Array.getElem?_append_left (by simpa using hk), Array.getElem?_modify, if_neg hkg]

set_option maxHeartbeats 1000000 in
theorem sort_any (ts : List Tree) (w : World) (S : Nat → Prop) (base : Nat) (v : Value) (hs : ts.length ≤ 100000) (h : OwnF 38 base S w v ts) :
    Calls Tryz.prog 29 #[v, .func (.func 30) #[] #[]] w fun e w' =>
      e = .returned (.tuple #[]) ∧ ∃ ts', ts'.Perm ts ∧ (ts'.Pairwise fun a b => a.tag ≤ b.tag) ∧ Rd w' (fun k => S k ∨ v.ownBlock = some k) v ts' ∧ w.grownBy w' v.ownBlock := by
  have hall := h
  obtain ⟨lv, o1, o2, o3, o4⟩ := h
  rcases o1.2 with ⟨rfl, h0⟩ | ⟨g, cap, cur, rfl, hb, hg, hnc, hcm, hcs, htake⟩
  · obtain rfl : ts = [] := List.length_eq_zero_iff.1 h0
    refine (AnyF.slices_SortFunc_none Tryz.sortF none 0 _ w).mono ?_
    rintro e w' ⟨rfl, rfl⟩
    exact ⟨rfl, [], List.Perm.refl _, List.Pairwise.nil, .nil _ _, only_refl _ _⟩
  · obtain ⟨ds, hds, hlv⟩ := cels_of ts lv (fun i t ht => by obtain ⟨a, c, e⟩ := (o2 i t ht).shape; exact ⟨a, c, e⟩)
    have hn : ds.length = ts.length := by rw [← hds, List.length_map]
    have hcell : ∀ (i c : Nat) (x : Cel), ds[i]? = some x → c < 5 → w.cell? ⟨g, 0 + (i * 5 + c), none⟩ = some (encF x)[c]! := fun i c x hx hc => by
      have ht : ts[i]? = some x.1 := by rw [← hds, List.getElem?_map, hx]; rfl
      obtain ⟨f0, f1, f2, f3, f4⟩ := flat_get ts lv i x.1 ht
      rw [hlv i x hx] at f4
      have hq := fun j u (hj : (flat ts lv)[j]? = some u) => World.ownsRow.cells o1 (g := g) rfl j u hj
      have ha : ∀ j, (⟨g, 0, none⟩ : Addr).add j = ⟨g, 0 + j, none⟩ := fun j => Addr.add_lit ..
      simp only [ha] at hq
      rcases (show c = 0 ∨ c = 1 ∨ c = 2 ∨ c = 3 ∨ c = 4 by omega) with rfl | rfl | rfl | rfl | rfl
      · exact hq _ _ f0
      · exact hq _ _ f1
      · exact hq _ _ f2
      · exact hq _ _ f3
      · exact hq _ _ f4
    have hH : HoldsK encF 5 w g 0 ds.toArray := fun j hj => by
      rw [size_flatK] at hj
      rw [get_flatK _ _ _ _ hj]
      have hj5 : j / 5 < ds.length := by simp at hj; omega
      have hx : ds[j / 5]? = some ds.toArray[j / 5]! := by
        rw [getElem!_pos ds.toArray (j / 5) (by simpa using hj5)]
        simp
      have := hcell (j / 5) (j % 5) _ hx (by omega)
      rw [show j / 5 * 5 + j % 5 = j by omega] at this
      exact ⟨this, by simp [World.frozen?, hg]⟩
    have hlt : g < w.heap.size := (Array.getElem?_eq_some_iff.1 hg).1
    have eg : ∀ args w, (callFunc 30 args).run Tryz.prog w = .ok (.enter 30 args) w := enters_of Tryz.func30 (by kernel_rfl) rfl
    have hcon := AnyQ.slices_SortFunc Tryz.sortF 5 isAggF sizeOfF encF (fun _ => rfl) (fun x v hv => by simp [encF] at hv; rcases hv with rfl | rfl | rfl | rfl | rfl <;> rfl) (fun x y => cmpT x.1.tag y.1.tag) swoT 30 #[] g 0 cap ds.toArray w eg (byTag_lays g 0 _ w) hH hlt (by simp; omega)
    change Calls Tryz.prog 29 _ _ _ at hcon
    have hsz : ds.toArray.size = ts.length := by simp [hn]
    rw [hsz] at hcon
    refine hcon.mono ?_
    rintro e w' ⟨rfl, d', m, os, ⟨hp1, -, hp3⟩, hsd, rfl⟩
    have hd's : d'.size = ts.length := by rw [hp1, hsz]
    have hperm : d'.toList.Perm ds := by
      have e1 : d'.extract 0 ts.length = d' := by rw [← hd's]; simp
      have e2 : ds.toArray.extract 0 ts.length = ds.toArray := by rw [← hsz]; simp
      rw [e1, e2] at hp3
      simpa using hp3
    have hgw := sort_worlds encF w g m d' os
    have hH2 : HoldsK encF 5 (sortWorldK encF 5 w g 0 m d' os) g 0 d' :=
      holdsK_grow encF 5 _ os g 0 d' (by simp [putRowK, putRow, mapBlock, Sort.ahead]; exact hlt) (holdsK_putRowK encF 5 (Sort.ahead w m) g 0 ds.toArray d' (holdsK_ahead encF 5 w m g 0 _ hH) hp1)
    have hget : ∀ (i : Nat) (x : Cel), d'.toList[i]? = some x → d'[i]! = x ∧ i < d'.size := fun i x hx => by
      have hi := (List.getElem?_eq_some_iff.1 hx).1
      refine ⟨?_, by simpa using hi⟩
      rw [getElem!_pos d' i (by simpa using hi)]
      obtain ⟨_, he⟩ := List.getElem?_eq_some_iff.1 hx
      simpa using he
    refine ⟨rfl, d'.toList.map Prod.fst, by rw [← hds]; exact hperm.map _, ?_, ?_, hgw⟩
    · rw [List.pairwise_map, List.pairwise_iff_getElem]
      intro i j hi hj hij
      have := hsd i j (Nat.zero_le _) hij (by rw [← hd's]; simpa using hj)
      rw [ltT, decide_eq_false_iff_not] at this
      rw [getElem!_pos d' i (by simpa using hi), getElem!_pos d' j (by simpa using hj)] at this
      simp only [Array.getElem_toList]
      omega
    · have hln : (d'.toList.map Prod.fst).length = ts.length := by simp [hd's]
      by_cases h0 : ts.length = 0
      · have : d'.toList.map Prod.fst = [] := List.length_eq_zero_iff.1 (by omega)
        rw [this, h0]
        exact .nil _ _
      · refine .row g 0 ts.length cap _ (fun i => .slice d'[i]!.2.1 d'[i]!.1.list.length d'[i]!.2.2) hln (by omega) hnc hcm (.inr rfl) (fun i t ht => ?_) (fun i t ht => ?_)
        · rw [List.getElem?_map] at ht
          obtain ⟨x, hx, rfl⟩ := Option.map_eq_some_iff.1 ht
          obtain ⟨e1, e2⟩ := hget i x hx
          have hc := fun c (hc : c < 5) => (HoldsK.cell hH2 e2 hc).1
          rw [e1] at hc
          have k0 := hc 0 (by omega)
          have k1 := hc 1 (by omega)
          have k2 := hc 2 (by omega)
          have k3 := hc 3 (by omega)
          have k4 := hc 4 (by omega)
          simp only [e1]
          exact ⟨k0, k1, k2, k3, k4⟩
        · rw [List.getElem?_map] at ht
          obtain ⟨x, hx, rfl⟩ := Option.map_eq_some_iff.1 ht
          obtain ⟨e1, e2⟩ := hget i x hx
          obtain ⟨j, hj⟩ := List.getElem?_of_mem (hperm.mem_iff.1 (List.mem_of_getElem? hx))
          have ht' : ts[j]? = some x.1 := by rw [← hds, List.getElem?_map, hj]; rfl
          have hr := o2 j x.1 ht'
          rw [hlv j x hj] at hr
          simp only [e1]
          exact (hr.kept (T := fun k => k = g) (Chg.of_grown hgw (fun k e => .inl (Option.some.inj e).symm)) (fun k hk e => o4 k (by rw [e]; rfl) hk)).mono fun k _ hk => .inl hk

end Go.Proofs.YtieheclnkopfpaaGreatDoor.pp
