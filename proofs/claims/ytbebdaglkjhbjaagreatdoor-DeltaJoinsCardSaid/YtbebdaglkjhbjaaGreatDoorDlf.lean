/-
  The developers' package delta: what stayed the same is left out.
-/
import Derived.Test.YtbebdaglkjhbjaaGreatDoorDle
namespace Go.Proofs.YtbebdaglkjhbjaaGreatDoor.da
open Go.RowKit Go.Proofs.YtbebdaglkjhbjaaGreatDoor.vi Go.Proofs.YtbebdaglkjhbjaaGreatDoor.um Go.Proofs.YtbebdaglkjhbjaaGreatDoor.wm Go.Proofs.YtbebdaglkjhbjaaGreatDoor.tr Go.Proofs.YtbebdaglkjhbjaaGreatDoor.em Go.Proofs.YtbebdaglkjhbjaaGreatDoor.rm Go.Proofs.YtbebdaglkjhbjaaGreatDoor.law11 Go.Proofs.YtbebdaglkjhbjaaGreatDoor.dd Go.Proofs.YtbebdaglkjhbjaaGreatDoor.dr Go.Proofs.YtbebdaglkjhbjaaGreatDoor.tm Go.Proofs.YtbebdaglkjhbjaaGreatDoor.tf Go.Proofs.YtbebdaglkjhbjaaGreatDoor.dl Go.Proofs.YtbebdaglkjhbjaaGreatDoor.dz Go.Proofs.YtbebdaglkjhbjaaGreatDoor.ti
set_option linter.unusedVariables false
set_option linter.unusedSimpArgs false

set_option maxHeartbeats 2000000 in
set_option maxRecDepth 100000 in
theorem stay_any (w : World) (B : Nat) (x : Rw) (a : List Rw) (p : Int) (SB T : Nat → Prop) (u va : Value) (hfx : Fit x) (ha : Gk a) (hB : w.heap[B]? = some (.cells #[.int .u64 p, va] 49 (0, 0))) (h : Rs SB w va a) (hu : EsS T w u x.d) :
    Calls Tryz.prog 63 #[.agg #[u, .int .u64 (x.n : Nat)], .pointer (some ⟨B, 0, none⟩)] w fun e w' => e = .returned (.bool (decide (x.n = getT x.d a))) ∧ w.grownBy w' none := by
  have GA := Lib.hid (only_alloc (only_refl w none) (.cells #[u, .int .u64 (x.n : Nat)] 80))
  have F0 := Lib.hid (heap_alloc_new w (.cells #[u, .int .u64 (x.n : Nat)] 80))
  have FB := Lib.hid (heap_kept hB GA.out (by simp))
  have ht := ha.tok
  have HG := Lib.hid (fun w1 (g : w.grownBy w1 none) => ti.get_any a x.d SB _ w1 va u (by have := ht.1; omega) ht.2 ha.1.2.2 ⟨hfx.1, hfx.2.1, hfx.2.2.1⟩ (h.grown g) (hu.grown g).es)
  have hg64 := getT_lt a x.d (fun r hr => (ht.2 r hr).2.2.2)
  have hxn := hfx.2.2.2
  obtain ⟨ua, uc, rfl⟩ := hu.shape
  obtain ⟨aa, ac, rfl⟩ := h.shape
  clear hB h hu ha hfx ht
  generalize getT x.d a = n at *
  go_enter Tryz.func63, Tryz.ntmps63
  go_wp2_with fail
  generalize w.alloc (.cells #[.slice ua x.d.length uc, .int .u64 (x.n : Nat)] 80) = wa at *
  have HGX := Lib.hid (fun g : GW wa none => HG.out g.world (only_trans GA.out g.ok))
  have hx0 : ∀ g : GW wa none, g.world.cell? ⟨w.heap.size, 0, none⟩ = some (.slice ua x.d.length uc) := fun g => (cells2 (heap_kept F0.out g.ok (by simp))).1
  have hx1 : ∀ g : GW wa none, g.world.cell? ⟨w.heap.size, 1, none⟩ = some (.int .u64 (x.n : Nat)) := fun g => (cells2 (heap_kept F0.out g.ok (by simp))).2.1
  have hb1 : ∀ g : GW wa none, g.world.cell? ⟨B, 1, none⟩ = some (.slice aa a.length ac) := fun g => (cells2 (heap_kept FB.out g.ok (by simp))).2.1
  by_cases hq : x.n = n
  · have hqb : ((x.n : Int) == (n : Int)) = true := by rw [hq]; simp
    have HD := Lib.hid (decide_eq_true hq)
    clear hq
    refine wp_region_gw wa none (by kernel_rfl) (by kernel_rfl) (only_refl _ _) ?_
    repeat (go_big_quiet_step ((go_at_call 64; exact calls_gw (HGX.out _))))
    refine wpQuiet_nil ?_
    rintro w2 ⟨⟨_, g2⟩, rfl⟩
    have G2 := Lib.hid (only_trans GA.out g2)
    go_wp2_with fail
    go_ret
    first | exact ⟨ret1 (congrArg Value.bool HD.out.symm), G2.out⟩ | exact ⟨ret1 (congrArg Value.bool (by have := HD.out; simpa using this)), G2.out⟩
  · have hqb : ((x.n : Int) == (n : Int)) = false := by rw [beq_eq_false_iff_ne]; omega
    have HD := Lib.hid (decide_eq_false hq)
    clear hq
    refine wp_region_gw wa none (by kernel_rfl) (by kernel_rfl) (only_refl _ _) ?_
    repeat (go_big_quiet_step ((go_at_call 64; exact calls_gw (HGX.out _))))
    refine wpQuiet_nil ?_
    rintro w2 ⟨⟨_, g2⟩, rfl⟩
    have G2 := Lib.hid (only_trans GA.out g2)
    go_wp2_with fail
    go_ret
    first | exact ⟨ret1 (congrArg Value.bool HD.out.symm), G2.out⟩ | exact ⟨ret1 (congrArg Value.bool (by have := HD.out; simpa using this)), G2.out⟩

set_option maxHeartbeats 2000000 in
set_option maxRecDepth 100000 in
theorem index_any (w : World) (g n cap B : Nat) (T : Nat → Prop) (c : Nat → Rw) (p : Rw → Bool) (hn : n ≤ 1000) (hcap : n ≤ cap) (hcm : cap ≤ maxLen) (hR : RowW g n T w c) (hF : ∀ j, j < n → Fit (c j))
    (hC : ∀ w1, w.grownBy w1 none → ∀ u x, Fit x → EsS T w1 u x.d → Calls Tryz.prog 63 #[.agg #[u, .int .u64 (x.n : Nat)], .pointer (some ⟨B, 0, none⟩)] w1 fun e w' => e = .returned (.bool (p x)) ∧ w1.grownBy w' none) :
    Calls Tryz.prog 92 #[.slice (some ⟨g, 0, none⟩) n cap, .func (.func 63) #[] #[.pointer (some ⟨B, 0, none⟩)]] w fun e w' => ∃ q : Int, e = .returned (.int .i64 q) ∧ w.grownBy w' none ∧ ((q = -1 ∧ ∀ j, j < n → p (c j) = false) ∨ ∃ i : Nat, q = i ∧ i < n ∧ p (c i) = true ∧ ∀ j, j < i → p (c j) = false) := by
  have HR := Lib.hid hR
  have HF := Lib.hid hF
  have HC := Lib.hid hC
  unfold maxLen at hcm
  clear hR hF hC
  go_enter Tryz.func92, Tryz.ntmps92
  go_wp2_with fail
  go_loopw [8] (fun q wr => ∃ i : Nat, i ≤ n ∧ q = .int .i64 i ∧ (∀ j, j < i → p (c j) = false) ∧ w.grownBy wr none) (fun q _ => n - (intOf q).toNat)
  case atStart => exact ⟨0, Nat.zero_le _, rfl, fun j hj => by omega, only_refl _ _⟩
  case round =>
    obtain ⟨i, hi, rfl, hp, hg⟩ := hrel
    have HG := Lib.hid hg
    have HP := Lib.hid hp
    clear hg hp
    by_cases hlt : i < n
    · obtain ⟨u, a1, a2, a3, -, -⟩ := (HR.out.grown HG.out).2.2 i hlt
      have HCL := Lib.hid (HC.out wr HG.out u (c i) (HF.out i hlt) a2)
      obtain ⟨ua, uc, rfl⟩ := a2.shape
      clear a2
      generalize hx : c i = x at *
      have HX := Lib.hid hx
      clear hx
      cases hpx : p x with
      | true =>
        rw [hpx] at HCL
        go_wp2_with fail
        refine HCL.out.mono ?_
        rintro e w1 ⟨rfl, g1⟩
        have G1 := Lib.hid (only_trans HG.out g1)
        clear g1
        go_wp2_with fail
        go_ret
        exact ⟨_, rfl, G1.out, .inr ⟨i, rfl, hlt, by rw [HX.out]; exact hpx, HP.out⟩⟩
      | false =>
        rw [hpx] at HCL
        have HPN : Hid (∀ j, j < i + 1 → p (c j) = false) := by
          intro j hj
          by_cases h : j = i
          · rw [h, HX.out]; exact hpx
          · exact HP.out j (by omega)
        clear hpx
        go_wp2_with fail
        refine HCL.out.mono ?_
        rintro e w1 ⟨rfl, g1⟩
        have G1 := Lib.hid (only_trans HG.out g1)
        clear g1
        go_wp2_with fail
        go_roundw
        case rel => exact ⟨i + 1, by omega, by go_num, HPN.out, G1.out⟩
        case measure => simp [intOf]; omega
    · have hie : i = n := by omega
      subst hie
      go_wp2_with fail
      go_ret
      exact ⟨_, rfl, HG.out, .inl ⟨rfl, HP.out⟩⟩

/-- Of no rows nothing is left out. -/
theorem index_nil (w : World) (a : Option Addr) (cap B : Nat) :
    Calls Tryz.prog 92 #[.slice a 0 cap, .func (.func 63) #[] #[.pointer (some ⟨B, 0, none⟩)]] w fun e w' => e = .returned (.int .i64 (-1)) ∧ w.grownBy w' none := by
  go_enter Tryz.func92, Tryz.ntmps92
  go_wp2_with fail
  go_loopw [8] (fun q wr => q = .int .i64 0 ∧ w.grownBy wr none) (fun q _ => 0)
  case atStart => exact ⟨rfl, only_refl _ _⟩
  case round =>
    obtain ⟨rfl, hg⟩ := hrel
    have HG := Lib.hid hg
    clear hg
    go_wp2_with fail
    go_ret
    exact ⟨rfl, HG.out⟩

theorem del_nil (w : World) (a : Option Addr) (cap B : Nat) :
    Calls Tryz.prog 65 #[.slice a 0 cap, .func (.func 63) #[] #[.pointer (some ⟨B, 0, none⟩)]] w fun e w' => e = .returned (.slice a 0 cap) ∧ w.grownBy w' none := by
  have HI := Lib.hid (index_nil w a cap B)
  go_enter Tryz.func65, Tryz.ntmps65
  go_wp2_with fail
  refine HI.out.mono ?_
  rintro e w1 ⟨rfl, g1⟩
  go_wp2_with fail
  go_ret
  exact ⟨rfl, g1⟩

/-- What is kept of the first j rows. -/
def kept (p : Rw → Bool) (rs : List Rw) (j : Nat) : List Rw := (rs.take j).filter (fun r => !p r)
theorem kept_next {p : Rw → Bool} {rs : List Rw} {j : Nat} {x : Rw} (h : rs[j]? = some x) : kept p rs (j + 1) = kept p rs j ++ if p x = true then [] else [x] := by
  unfold kept
  rw [List.take_add_one, h]
  simp only [Option.toList, List.filter_append]
  congr 1
  cases hp : p x <;> simp [hp]
theorem kept_le (p : Rw → Bool) (rs : List Rw) (j : Nat) : (kept p rs j).length ≤ j := by
  unfold kept
  have h1 := List.length_filter_le (fun r => !p r) (rs.take j)
  rw [List.length_take] at h1
  omega

end Go.Proofs.YtbebdaglkjhbjaaGreatDoor.da
