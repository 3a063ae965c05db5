/-
  Snapshots and deltas in memory (layer 16); the document's Check, Same, SameDelta, Sum.
-/
import Derived.Test.YtbebdaglkjhbjaaGreatDoorDls
import Derived.Test.YtbebdaglkjhbjaaGreatDoorLaw13L
namespace Go.Proofs.YtbebdaglkjhbjaaGreatDoor.dz
open Go.RowKit Go.Proofs.YtbebdaglkjhbjaaGreatDoor.vi Go.Proofs.YtbebdaglkjhbjaaGreatDoor.um Go.Proofs.YtbebdaglkjhbjaaGreatDoor.wm Go.Proofs.YtbebdaglkjhbjaaGreatDoor.tr Go.Proofs.YtbebdaglkjhbjaaGreatDoor.em Go.Proofs.YtbebdaglkjhbjaaGreatDoor.rm Go.Proofs.YtbebdaglkjhbjaaGreatDoor.law11 Go.Proofs.YtbebdaglkjhbjaaGreatDoor.dd Go.Proofs.YtbebdaglkjhbjaaGreatDoor.dr Go.Proofs.YtbebdaglkjhbjaaGreatDoor.tm Go.Proofs.YtbebdaglkjhbjaaGreatDoor.tf Go.Proofs.YtbebdaglkjhbjaaGreatDoor.dl
set_option linter.unusedVariables false
set_option linter.unusedSimpArgs false

/-- A snapshot, a delta, as values. -/
def snV (s : Sn) (u : Value) : Value := .agg #[.int .u64 (s.e : Nat), u]
def dtV (d : Dt) (u : Value) : Value := .agg #[.int .u64 (d.b : Nat), .int .u64 (d.e : Nat), u]
/-- What is asked of tables. -/
def Tok (t : List Rw) : Prop := t.length ≤ 1000 ∧ ∀ r ∈ t, Fit r

theorem heap_kept {w w' : World} {n : Nat} {o : Obj} {row : Option Nat} (h : w.heap[n]? = some o) (g : w.grownBy w' row) (hr : some n ≠ row) : w'.heap[n]? = some o :=
  (g.block _ (Array.getElem?_eq_some_iff.1 h).1 hr).trans h
theorem cells2 {w : World} {n : Nat} {v0 v1 : Value} {ty : TypeId} (h : w.heap[n]? = some (.cells #[v0, v1] ty (0, 0))) : w.cell? ⟨n, 0, none⟩ = some v0 ∧ w.cell? ⟨n, 1, none⟩ = some v1 ∧ w.frozen? ⟨n, 0, none⟩ = false ∧ w.frozen? ⟨n, 1, none⟩ = false := by
  simp [World.cell?, World.frozen?, h]
theorem cells3 {w : World} {n : Nat} {v0 v1 v2 : Value} {ty : TypeId} (h : w.heap[n]? = some (.cells #[v0, v1, v2] ty (0, 0))) : w.cell? ⟨n, 0, none⟩ = some v0 ∧ w.cell? ⟨n, 1, none⟩ = some v1 ∧ w.cell? ⟨n, 2, none⟩ = some v2 ∧ w.frozen? ⟨n, 0, none⟩ = false ∧ w.frozen? ⟨n, 1, none⟩ = false ∧ w.frozen? ⟨n, 2, none⟩ = false := by
  simp [World.cell?, World.frozen?, h]
/-- Blocks made at a call's start. -/
theorem made1 (w : World) (A : Obj) : (w.alloc A).heap[w.heap.size]? = some A ∧ w.grownBy (w.alloc A) none ∧ (w.alloc A).heap.size = w.heap.size + 1 := ⟨heap_alloc_new w A, only_alloc (only_refl w none) A, by simp⟩
theorem made2 (w : World) (A B : Obj) : ((w.alloc A).alloc B).heap[w.heap.size]? = some A ∧ ((w.alloc A).alloc B).heap[w.heap.size + 1]? = some B ∧ w.grownBy ((w.alloc A).alloc B) none ∧ ((w.alloc A).alloc B).heap.size = w.heap.size + 1 + 1 := by
  obtain ⟨h1, h2, h3⟩ := made1 w A
  have h4 := heap_alloc_new (w.alloc A) B
  rw [h3] at h4
  exact ⟨heap_kept h1 (only_alloc (only_refl _ none) B) (by simp), h4, only_alloc h2 B, by simp⟩
theorem made3 (w : World) (A B C : Obj) : (((w.alloc A).alloc B).alloc C).heap[w.heap.size]? = some A ∧ (((w.alloc A).alloc B).alloc C).heap[w.heap.size + 1]? = some B ∧ (((w.alloc A).alloc B).alloc C).heap[w.heap.size + 1 + 1]? = some C ∧ w.grownBy (((w.alloc A).alloc B).alloc C) none ∧ (((w.alloc A).alloc B).alloc C).heap.size = w.heap.size + 1 + 1 + 1 := by
  obtain ⟨h1, h2, h3, h4⟩ := made2 w A B
  have h5 := heap_alloc_new ((w.alloc A).alloc B) C
  rw [h4] at h5
  have g := only_alloc (only_refl ((w.alloc A).alloc B) none) C
  exact ⟨heap_kept h1 g (by simp), heap_kept h2 g (by simp), h5, only_alloc h3 C, by simp⟩

/-- Rows lie in no block whose cells are other things. -/
theorem rs_off {w w' : World} {g : Nat} {v : Value} {rs : List Rw} {cs : Array Value} {ty : TypeId} (h : Rs (fun k => k < w.heap.size) w v rs) (hb : w.heap[g]? = some (.cells cs ty (0, 0))) (hg : w.grownBy w' (some g))
    (n1 : ∀ (i : Nat) (s : ByteArray), cs[i]? ≠ some (.string s)) (n2 : ∀ (i : Nat) (a : Option Addr) (n c : Nat) (m : Int), cs[i]? = some (.slice a n c) → cs[i + 1]? ≠ some (.int .u64 m)) : Rs (fun k => k < w'.heap.size) w' v rs := by
  have hcell : ∀ i, w.cell? ⟨g, i, none⟩ = cs[i]? := fun i => by simp [World.cell?, hb]
  have h9 : Rs (fun k => k ≠ g) w v rs := by
    obtain ⟨a, cap, e, h⟩ := h
    refine ⟨a, cap, e, ?_⟩
    rcases h with h | ⟨b, off, h1, h2, h3, h4, h5⟩
    · exact .inl h
    · cases rs with
      | nil => exact .inl rfl
      | cons r t =>
        have hne : b ≠ g := fun e => by
          obtain ⟨u, k1, k2, k3⟩ := h5 0 r rfl
          obtain ⟨ua, uc, rfl⟩ := k2.shape
          rw [e, hcell] at k1 k3
          exact n2 _ _ _ _ _ k1 k3
        refine .inr ⟨b, off, h1, hne, h3, h4, fun i x hx => ?_⟩
        obtain ⟨u, k1, k2, k3⟩ := h5 i x hx
        refine ⟨u, k1, ?_, k3⟩
        obtain ⟨a', cap', e', k2⟩ := k2
        refine ⟨a', cap', e', ?_⟩
        rcases k2 with k2 | ⟨b2, off2, j1, j2, j3, j4, j5⟩
        · exact .inl k2
        · by_cases hd : x.d = []
          · exact .inl hd
          · obtain ⟨y, l, hy⟩ := List.exists_cons_of_ne_nil hd
            refine .inr ⟨b2, off2, j1, fun e => ?_, j3, j4, j5⟩
            have := (j5 0 y (by rw [hy]; rfl)).1
            rw [e, hcell] at this
            exact n1 _ _ this
  exact (h9.kept (T := fun k => k = g) (Chg.of_grown hg (fun k e => .inl (by cases e; rfl))) (fun k hk e => hk e)).low
theorem rs_off2 {w w' : World} {g : Nat} {v : Value} {rs : List Rw} {p : Int} {ty : TypeId} (h : Rs (fun k => k < w.heap.size) w v rs) (hb : w.heap[g]? = some (.cells #[.int .u64 p, .slice none 0 0] ty (0, 0))) (hg : w.grownBy w' (some g)) : Rs (fun k => k < w'.heap.size) w' v rs :=
  rs_off h hb hg (fun i s => by match i with | 0 => simp | 1 => simp | k + 2 => simp) (fun i a n c m => by match i with | 0 => simp | 1 => simp | k + 2 => simp)
theorem rs_off3 {w w' : World} {g : Nat} {v : Value} {rs : List Rw} {p q : Int} {ty : TypeId} (h : Rs (fun k => k < w.heap.size) w v rs) (hb : w.heap[g]? = some (.cells #[.int .u64 p, .int .u64 q, .slice none 0 0] ty (0, 0))) (hg : w.grownBy w' (some g)) : Rs (fun k => k < w'.heap.size) w' v rs :=
  rs_off h hb hg (fun i s => by match i with | 0 => simp | 1 => simp | 2 => simp | k + 3 => simp) (fun i a n c m => by match i with | 0 => simp | 1 => simp | 2 => simp | k + 3 => simp)

/-! Check -/
set_option maxRecDepth 100000 in
theorem rcheckX_any (d : Dt) (S : Nat → Prop) (w : World) (u : Value) (hd : Tok d.t) (h : Rs S w u d.t) :
    Calls Tryz.prog 34 #[dtV d u] w fun e w' => e = .returned (.int .i64 (checkX d : Nat)) ∧ w.grownBy w' none := by
  have HC := Lib.hid (fun w1 (g : w.grownBy w1 none) => rcheckT_any d.t S w1 u (by have := hd.1; omega) hd.2 (h.grown g))
  have HX : Hid (checkX d = if d.e ≤ d.b then 20 else checkT d.t) := rfl
  obtain ⟨ua, uc, rfl⟩ := h.shape
  obtain ⟨m1, m2, m3⟩ := made1 w (.cells #[.int .u64 (d.b : Nat), .int .u64 (d.e : Nat), .slice ua d.t.length uc] 55)
  have M2 := Lib.hid m2
  clear hd h m1 m2 m3
  unfold dtV
  generalize checkX d = R at *
  generalize checkT d.t = c at *
  obtain ⟨p, q, t⟩ := d
  simp only at *
  by_cases h0 : q ≤ p
  · have HX2 := Lib.hid (HX.out.trans (if_pos h0))
    have h0i : (q : Int) ≤ (p : Int) := by omega
    go_enter Tryz.func34, Tryz.ntmps34
    go_wp2_with fail
    go_ret
    rw [HX2.out]
    exact ⟨rfl, M2.out⟩
  · have HX2 := Lib.hid (HX.out.trans (if_neg h0))
    have h0i : ¬ (q : Int) ≤ (p : Int) := by omega
    go_enter Tryz.func34, Tryz.ntmps34
    go_wp2_with fail
    refine (HC.out _ M2.out).mono ?_
    rintro e w1 ⟨rfl, g1⟩
    go_wp2_with fail
    go_ret
    rw [HX2.out]
    exact ⟨rfl, only_trans M2.out g1⟩

/-! Same -/
def sameX (a b : Sn) : Bool := decide (a.e = b.e) && decide (a.t = b.t)
def sameD (a b : Dt) : Bool := decide (a.b = b.b) && decide (a.e = b.e) && decide (a.t = b.t)

set_option maxRecDepth 100000 in
theorem rsameX_any (a b : Sn) (S T : Nat → Prop) (w : World) (u v : Value) (ha : a.t.length ≤ 300 ∧ ∀ r ∈ a.t, Fit r) (hb : b.t.length ≤ 300 ∧ ∀ r ∈ b.t, Fit r) (h : Rs S w u a.t) (h2 : Rs T w v b.t) :
    Calls Tryz.prog 32 #[snV a u, snV b v] w fun e w' => e = .returned (.bool (sameX a b)) ∧ w.grownBy w' none := by
  have HS := Lib.hid (fun w1 (g : w.grownBy w1 none) => law13.rsd_any a.t b.t S T w1 u v ha.1 hb.1 ha.2 hb.2 (h.grown g) (h2.grown g))
  obtain ⟨ua, uc, rfl⟩ := h.shape
  obtain ⟨va, vc, rfl⟩ := h2.shape
  have M := Lib.hid (made2 w (.cells #[.int .u64 (a.e : Nat), .slice ua a.t.length uc] 59) (.cells #[.int .u64 (b.e : Nat), .slice va b.t.length vc] 59)).2.2.1
  clear ha hb h h2
  unfold snV sameX
  generalize decide (a.t = b.t) = q at *
  obtain ⟨p1, t1⟩ := a
  obtain ⟨p2, t2⟩ := b
  simp only at *
  by_cases h0 : p1 = p2
  · subst h0
    have h0b : ((p1 : Int) == (p1 : Int)) = true := by simp
    rw [decide_eq_true rfl, Bool.true_and]
    go_enter Tryz.func32, Tryz.ntmps32
    go_wp2_with fail
    refine (HS.out _ M.out).mono ?_
    rintro e w1 ⟨rfl, g1⟩
    go_wp2_with fail
    go_ret
    exact ⟨rfl, only_trans M.out g1⟩
  · rw [decide_eq_false h0, Bool.false_and]
    have h0b : ((p1 : Int) == (p2 : Int)) = false := by rw [beq_eq_false_iff_ne]; omega
    go_enter Tryz.func32, Tryz.ntmps32
    go_wp2_with fail
    go_ret
    exact ⟨rfl, M.out⟩

set_option maxRecDepth 100000 in
theorem rsameD_any (a b : Dt) (S T : Nat → Prop) (w : World) (u v : Value) (ha : a.t.length ≤ 300 ∧ ∀ r ∈ a.t, Fit r) (hb : b.t.length ≤ 300 ∧ ∀ r ∈ b.t, Fit r) (h : Rs S w u a.t) (h2 : Rs T w v b.t) :
    Calls Tryz.prog 31 #[dtV a u, dtV b v] w fun e w' => e = .returned (.bool (sameD a b)) ∧ w.grownBy w' none := by
  have HS := Lib.hid (fun w1 (g : w.grownBy w1 none) => law13.rsd_any a.t b.t S T w1 u v ha.1 hb.1 ha.2 hb.2 (h.grown g) (h2.grown g))
  obtain ⟨ua, uc, rfl⟩ := h.shape
  obtain ⟨va, vc, rfl⟩ := h2.shape
  have M := Lib.hid (made2 w (.cells #[.int .u64 (a.b : Nat), .int .u64 (a.e : Nat), .slice ua a.t.length uc] 55) (.cells #[.int .u64 (b.b : Nat), .int .u64 (b.e : Nat), .slice va b.t.length vc] 55)).2.2.1
  clear ha hb h h2
  unfold dtV sameD
  generalize decide (a.t = b.t) = q at *
  obtain ⟨p1, q1, t1⟩ := a
  obtain ⟨p2, q2, t2⟩ := b
  simp only at *
  by_cases h0 : p1 = p2
  · subst h0
    have h0b : ((p1 : Int) == (p1 : Int)) = true := by simp
    by_cases h1 : q1 = q2
    · subst h1
      have h1b : ((q1 : Int) == (q1 : Int)) = true := by simp
      rw [decide_eq_true rfl, decide_eq_true rfl, Bool.true_and, Bool.true_and]
      go_enter Tryz.func31, Tryz.ntmps31
      go_wp2_with fail
      refine (HS.out _ M.out).mono ?_
      rintro e w1 ⟨rfl, g1⟩
      go_wp2_with fail
      go_ret
      exact ⟨rfl, only_trans M.out g1⟩
    · rw [decide_eq_false h1, Bool.and_false, Bool.false_and]
      have h1b : ((q1 : Int) == (q2 : Int)) = false := by rw [beq_eq_false_iff_ne]; omega
      go_enter Tryz.func31, Tryz.ntmps31
      go_wp2_with fail
      go_ret
      exact ⟨rfl, M.out⟩
  · rw [decide_eq_false h0, Bool.false_and, Bool.false_and]
    have h0b : ((p1 : Int) == (p2 : Int)) = false := by rw [beq_eq_false_iff_ne]; omega
    go_enter Tryz.func31, Tryz.ntmps31
    go_wp2_with fail
    go_ret
    exact ⟨rfl, M.out⟩

/-! Sum -/
theorem over_next {a b : List Rw} {i : Nat} {x : Rw} (h : a[i]? = some x) : overT (a.drop i) b = (decide (18446744073709551615 < x.n + getT x.d b) || overT (a.drop (i + 1)) b) := by
  obtain ⟨hi, rfl⟩ := List.getElem?_eq_some_iff.1 h
  rw [List.drop_eq_getElem_cons hi]; rfl
theorem map_next {a : List Rw} {i : Nat} {x : Rw} (h : a[i]? = some x) (f : Rw → Rw) : (a.take (i + 1)).map f = (a.take i).map f ++ [f x] := by
  rw [List.take_add_one, h]; simp
theorem filter_next {a : List Rw} {i : Nat} {x : Rw} (h : a[i]? = some x) (f : Rw → Bool) : (a.take (i + 1)).filter f = (a.take i).filter f ++ if f x = true then [x] else [] := by
  rw [List.take_add_one, h]
  simp only [Option.toList, List.filter_append]
  congr 1
  cases hf : f x <;> simp [hf]
theorem both_fit {a b : List Rw} (ho : overT a b = false) (ha : ∀ r ∈ a, Fit r) (hb : ∀ r ∈ b, Fit r) : ∀ r ∈ bothT a b, Fit r := fun x hx => by
  have h64 := both_64 ho (fun r hr => (hb r hr).2.2.2) x hx
  unfold bothT at hx
  rcases List.mem_append.1 hx with hx | hx
  · obtain ⟨r, hr, rfl⟩ := List.mem_map.1 hx
    exact ⟨(ha r hr).1, (ha r hr).2.1, (ha r hr).2.2.1, h64⟩
  · exact hb x (List.mem_filter.1 hx).1
theorem both_len2 (a b : List Rw) : (bothT a b).length ≤ a.length + b.length := by
  unfold bothT
  rw [List.length_append, List.length_map]
  have := List.length_filter_le (fun r => decide (getT r.d a = 0)) b
  omega

set_option maxHeartbeats 4000000 in
set_option maxRecDepth 100000 in
theorem rsum_any (a b : List Rw) (SA SB : Nat → Prop) (w : World) (va vb : Value) (hA : Tok a) (hB : Tok b) (h : Rs SA w va a) (h2 : Rs SB w vb b) :
    Calls Tryz.prog 70 #[va, vb] w fun e w' => ∃ v, e = .returned (.tuple #[v, .int .i64 ((sumT a b).2 : Nat)]) ∧ Rs (fun k => k < w'.heap.size) w' v (sumT a b).1 ∧ w.grownBy w' none := by
  have HA := Lib.hid h.low
  have HB := Lib.hid h2.low
  obtain ⟨la, fa⟩ := hA
  obtain ⟨lb, fb⟩ := hB
  have FA := Lib.hid fa
  have FB := Lib.hid fb
  have HGB := Lib.hid (fun w1 u (g : w.grownBy w1 none) (x : Rw) (hx : Fit x) (he : EsS (fun k => k < w.heap.size) w1 u x.d) => rgetT_any b x.d _ _ w1 vb u (by omega) fb ⟨hx.1, hx.2.1, hx.2.2.1⟩ (h2.grown g) he.es)
  have HGA := Lib.hid (fun w1 u (g : w.grownBy w1 none) (x : Rw) (hx : Fit x) (he : EsS (fun k => k < w.heap.size) w1 u x.d) => rgetT_any a x.d _ _ w1 va u (by omega) fa ⟨hx.1, hx.2.1, hx.2.2.1⟩ (h.grown g) he.es)
  have HOF := Lib.hid (fun (ho : overT a b = false) S w1 v (h : Rs S w1 v (bothT a b)) => rofT_any (bothT a b) S w1 v (by have := both_len2 a b; omega) (both_fit ho fa fb) h)
  have HNIL := Lib.hid (OwnR.nil 97 w.heap.size (fun _ => False) w (fun k e => e.elim))
  obtain ⟨aa, ac, rfl⟩ := h.shape
  obtain ⟨ba, bc, rfl⟩ := h2.shape
  clear h h2 fa fb
  go_enter Tryz.func70, Tryz.ntmps70
  go_wp2_with fail
  go_loopw [6, 14] (fun vo q wr => ∃ (i : Nat) (T : Nat → Prop), i ≤ a.length ∧ q = .int .i64 i ∧ OwnR 97 w.heap.size T wr vo ((a.take i).map (plusR b)) ∧ overT a b = overT (a.drop i) b ∧ w.grownBy wr none) (fun _ q _ => a.length - (intOf q).toNat)
  case atStart => exact ⟨0, fun _ => False, Nat.zero_le _, rfl, HNIL.out, rfl, only_refl _ _⟩
  case round =>
    obtain ⟨i, T, hi, rfl, ho, hov, hg⟩ := hrel
    have HO := Lib.hid ho
    have HG := Lib.hid hg
    have HOV := Lib.hid hov
    have hvb := ho.lt
    have hwz : w.heap.size ≤ wr.heap.size := hg.size
    obtain ⟨oa, oc, rfl⟩ := ho.rd.shape
    clear ho hg hov
    by_cases hlt : i < a.length
    · obtain ⟨x, hx⟩ : ∃ x, a[i]? = some x := ⟨a[i], List.getElem?_eq_getElem hlt⟩
      have HON := Lib.hid (HOV.out.trans (over_next hx))
      have HMN := Lib.hid (map_next hx (plusR b))
      obtain ⟨bk, off, cx, uu, hv, hbk, hle, hcm, c0, he, c1⟩ := (HA.out.grown HG.out).at hx
      simp only [Value.slice.injEq, true_and] at hv
      obtain ⟨rfl, rfl⟩ := hv
      unfold maxLen at hcm
      obtain ⟨xa, xc, rfl⟩ := he.shape
      have hfx := FA.out x (List.mem_of_getElem? hx)
      have HFX := Lib.hid hfx
      have hxn := hfx.2.2.2
      have GA := Lib.hid (only_alloc (only_refl wr none) (.cells #[.slice xa x.d.length xc, .int .u64 (x.n : Nat)] 97))
      have F0 := Lib.hid (heap_alloc_new wr (.cells #[.slice xa x.d.length xc, .int .u64 (x.n : Nat)] 97))
      have HEA := Lib.hid (he.grown GA.out)
      have G0 := Lib.hid (only_trans HG.out GA.out)
      have O0 := Lib.hid (HO.out.grown GA.out)
      have hwa := GA.out.size
      have htl : ((a.take i).map (plusR b)).length ≤ 1000 := by rw [List.length_map, List.length_take]; omega
      have hg64 := getT_lt b x.d (fun r hr => (FB.out r hr).2.2.2)
      have hpd : (plusR b x).d = x.d := rfl
      have hpn : (plusR b x).n = x.n + getT x.d b := rfl
      clear he hx hfx GA HO
      generalize (a.take i).map (plusR b) = acc at *
      generalize plusR b x = y at *
      obtain ⟨yd, yn⟩ := y
      simp only at hpd hpn
      subst hpd
      go_wp2_with fail
      generalize wr.alloc (.cells #[.slice xa x.d.length xc, .int .u64 (x.n : Nat)] 97) = wa at *
      obtain ⟨d0, d1, -⟩ := cells2 F0.out
      have HGX := Lib.hid (HGB.out wa _ G0.out x HFX.out HEA.out)
      generalize getT x.d b = n at *
      go_wp2_with fail
      refine HGX.out.mono ?_
      rintro e w2 ⟨rfl, g2⟩
      have G2 := Lib.hid (only_trans G0.out g2)
      have O2 := Lib.hid (O0.out.grown g2)
      have HE2 := Lib.hid (HEA.out.grown g2)
      have F2 := Lib.hid (heap_kept F0.out g2 (by simp))
      have hsz2 : wa.heap.size ≤ w2.heap.size := g2.size
      obtain ⟨e0, e1, -⟩ := cells2 F2.out
      clear g2 d0 d1
      by_cases hc : 18446744073709551615 < x.n + n
      · have HOT : Hid (overT a b = true) := by show _ = _; rw [HON.out]; simp [hc]
        have hci : (18446744073709551615 : Int) - (n : Int) < (x.n : Int) := by omega
        go_wp2_with fail
        go_ret2
        rw [sum_over HOT.out]
        exact ⟨_, rfl, Rs.nil _ _ _ _, G2.out⟩
      · have HON2 : Hid (overT a b = overT (a.drop (i + 1)) b) := by show _ = _; rw [HON.out]; simp [hc]
        have hci : ¬ (18446744073709551615 : Int) - (n : Int) < (x.n : Int) := by omega
        obtain rfl : yn = x.n + n := hpn
        have GB := only_alloc (only_refl w2 none) (.cells #[.slice xa x.d.length xc, .int .u64 ((x.n : Int) + (n : Int))] 97)
        have O3 := Lib.hid (O2.out.grown GB)
        have G3 := Lib.hid (only_trans G2.out GB)
        have HONE : Hid (Rs (fun k => (k < w.heap.size) ∨ k = w2.heap.size) (w2.alloc (.cells #[.slice xa x.d.length xc, .int .u64 ((x.n : Int) + (n : Int))] 97)) (.slice (some ⟨w2.heap.size, 0, none⟩) 1 1) [(⟨x.d, x.n + n⟩ : Rw)]) := rs_one w2 _ _ (⟨x.d, x.n + n⟩ : Rw) 97 HE2.out
        clear GB
        go_wp2_with (at_builtin; (refine wpList_append_rs rfl _ _ 30 97 rfl _ Tryz.underlying30 law13.Tryz.infoRW rfl w.heap.size _ _ _ acc [(⟨x.d, x.n + n⟩ : Rw)] rfl O3.out _ rfl HONE.out ?c1 ?c2 ?c3 ?c4 ?_))
        case c1 => intro k hk; simp at hk ⊢; omega
        case c2 => intro k e hk; have := hvb k e; (try simp at hk); omega
        case c3 => simp; omega
        case c4 => simp; omega
        intro v5 w5 ho5 hg5
        have HO5 := Lib.hid ho5
        have G5 := Lib.hid (only_row G3.out hg5 (fun k e => (hvb k e).1))
        clear ho5 hg5
        go_wp2_with fail
        go_roundw
        case rel => exact ⟨i + 1, _, by omega, by go_num, by rw [HMN.out]; exact HO5.out, HON2.out, G5.out⟩
        case measure => simp [intOf]; omega
    · have hie : i = a.length := by omega
      subst hie
      rw [List.take_length] at HO
      rw [List.drop_length] at HOV
      have HOT : Hid (overT a b = false) := HOV.out
      have HG1 := Lib.hid HG.out
      clear HOV
      go_wp2_with fail
      go_loopw [6, 40] (fun vo q w2 => ∃ (i : Nat) (T : Nat → Prop), i ≤ b.length ∧ q = .int .i64 i ∧ OwnR 97 w.heap.size T w2 vo (a.map (plusR b) ++ (b.take i).filter (fun r => decide (getT r.d a = 0))) ∧ w.grownBy w2 none) (fun _ q _ => b.length - (intOf q).toNat)
      case atStart => exact ⟨0, T, Nat.zero_le _, rfl, by simpa using HO.out, HG1.out⟩
      case round =>
        rename World => wq
        obtain ⟨i, T2, hi, rfl, ho, hg⟩ := hrel
        clear HO HG HG1
        have HO := Lib.hid ho
        have HG := Lib.hid hg
        have hvb := ho.lt
        have hwz : w.heap.size ≤ wq.heap.size := hg.size
        obtain ⟨oa, oc, hvo⟩ := ho.rd.shape
        obtain ⟨N, hN⟩ : ∃ N, N = (a.map (plusR b) ++ (b.take i).filter (fun r => decide (getT r.d a = 0))).length := ⟨_, rfl⟩
        rw [← hN] at hvo
        subst hvo
        clear ho hg hN
        by_cases hlt : i < b.length
        · obtain ⟨x, hx⟩ : ∃ x, b[i]? = some x := ⟨b[i], List.getElem?_eq_getElem hlt⟩
          have HFN := Lib.hid (filter_next hx (fun r => decide (getT r.d a = 0)))
          obtain ⟨bk, off, cx, uu, hv, hbk, hle, hcm, c0, he, c1⟩ := (HB.out.grown HG.out).at hx
          simp only [Value.slice.injEq, true_and] at hv
          obtain ⟨rfl, rfl⟩ := hv
          unfold maxLen at hcm
          obtain ⟨xa, xc, rfl⟩ := he.shape
          have hfx := FB.out x (List.mem_of_getElem? hx)
          have HFX := Lib.hid hfx
          have GA := Lib.hid (only_alloc (only_refl wq none) (.cells #[.slice xa x.d.length xc, .int .u64 (x.n : Nat)] 97))
          have F0 := Lib.hid (heap_alloc_new wq (.cells #[.slice xa x.d.length xc, .int .u64 (x.n : Nat)] 97))
          have HEA := Lib.hid (he.grown GA.out)
          have G0 := Lib.hid (only_trans HG.out GA.out)
          have O0 := Lib.hid (HO.out.grown GA.out)
          have hwa := GA.out.size
          have htl : (a.map (plusR b) ++ (b.take i).filter (fun r => decide (getT r.d a = 0))).length ≤ 2000 := by
            have := List.length_filter_le (fun r => decide (getT r.d a = 0)) (b.take i)
            rw [List.length_append, List.length_map]
            rw [List.length_take] at this
            omega
          clear he hx hfx GA HO
          have HAP : Hid (a.map (plusR b) ++ (b.take (i + 1)).filter (fun r => decide (getT r.d a = 0)) = (a.map (plusR b) ++ (b.take i).filter (fun r => decide (getT r.d a = 0))) ++ if decide (getT x.d a = 0) = true then [x] else []) := by show _ = _; rw [HFN.out, List.append_assoc]
          clear HFN
          generalize a.map (plusR b) ++ (b.take i).filter (fun r => decide (getT r.d a = 0)) = acc at *
          go_wp2_with fail
          generalize wq.alloc (.cells #[.slice xa x.d.length xc, .int .u64 (x.n : Nat)] 97) = wa at *
          obtain ⟨d0, d1, -⟩ := cells2 F0.out
          have HGX := Lib.hid (HGA.out wa _ G0.out x HFX.out HEA.out)
          generalize getT x.d a = n at *
          refine HGX.out.mono ?_
          rintro e w2 ⟨rfl, g2⟩
          have G2 := Lib.hid (only_trans G0.out g2)
          have O2 := Lib.hid (O0.out.grown g2)
          have HE2 := Lib.hid (HEA.out.grown g2)
          have F2 := Lib.hid (heap_kept F0.out g2 (by simp))
          have hsz2 : wa.heap.size ≤ w2.heap.size := g2.size
          obtain ⟨e0, e1, -⟩ := cells2 F2.out
          clear g2 d0 d1
          by_cases hc : n = 0
          · subst hc
            have HAP2 := Lib.hid (HAP.out.trans (congrArg (fun z => acc ++ z) (if_pos (by simp))))
            have GB := only_alloc (only_refl w2 none) (.cells #[.slice xa x.d.length xc, .int .u64 (x.n : Nat)] 97)
            have O3 := Lib.hid (O2.out.grown GB)
            have G3 := Lib.hid (only_trans G2.out GB)
            have HONE := Lib.hid (rs_one w2 _ _ x 97 HE2.out)
            clear GB HAP
            go_wp2_with (at_builtin; (refine wpList_append_rs rfl _ _ 30 97 rfl _ Tryz.underlying30 law13.Tryz.infoRW rfl w.heap.size _ _ _ acc [x] rfl O3.out _ rfl HONE.out ?c1 ?c2 ?c3 ?c4 ?_))
            case c1 => intro k hk; simp at hk ⊢; omega
            case c2 => intro k e hk; have := hvb k e; (try simp at hk); omega
            case c3 => simp; omega
            case c4 => simp; omega
            intro v5 w5 ho5 hg5
            have HO5 := Lib.hid ho5
            have G5 := Lib.hid (only_row G3.out hg5 (fun k e => (hvb k e).1))
            clear ho5 hg5
            go_wp2_with fail
            go_roundw
            case rel => exact ⟨i + 1, _, by omega, by go_num, by rw [HAP2.out]; exact HO5.out, G5.out⟩
            case measure => simp [intOf]; omega
          · have HAP2 := Lib.hid (HAP.out.trans ((congrArg (fun z => acc ++ z) (if_neg (by simpa using hc))).trans (List.append_nil acc)))
            have hcb : ((n : Int) == 0) = false := by rw [beq_eq_false_iff_ne]; omega
            clear HAP
            go_wp2_with fail
            go_roundw
            case rel => exact ⟨i + 1, _, by omega, by go_num, by rw [HAP2.out]; exact O2.out, G2.out⟩
            case measure => simp [intOf]; omega
        · have hie : i = b.length := by omega
          subst hie
          rw [List.take_length] at HO
          have HFI := Lib.hid (HOF.out HOT.out _ wq _ (show Rs _ wq _ (bothT a b) from HO.out.rd))
          have HLB : Hid ((a.map (plusR b) ++ b.filter (fun r => decide (getT r.d a = 0))).length = (bothT a b).length) := rfl
          have HSF := Lib.hid (sum_fine HOT.out)
          generalize ofT (bothT a b) = R at *
          go_wp2_with fail
          refine HFI.out.mono ?_
          rintro e w3 ⟨v3, rfl, r3, g3⟩
          have R3 := Lib.hid r3
          have G3 := Lib.hid (only_trans HG.out g3)
          obtain ⟨ra, rc, rfl⟩ := r3.shape
          clear r3 g3
          go_wp2_with fail
          go_ret2
          rw [HSF.out]
          exact ⟨_, rfl, R3.out, G3.out⟩

end Go.Proofs.YtbebdaglkjhbjaaGreatDoor.dz
