/-
  The law's own functions over trees: turn.
-/
import Derived.Test.YtbelpcniogcfoaaDoorBundT
namespace Go.Proofs.YtbelpcniogcfoaaDoor.tr
open Go.RowKit
set_option linter.unusedVariables false
set_option linter.unusedSimpArgs false

/-- Cells that turned held numbers of 64 bits, and do. -/
def TagC (w w' : World) : Prop := ∀ p : Addr, w'.cell? p = w.cell? p ∨ ∃ x y : Nat, w.cell? p = some (.int .u64 (x : Nat)) ∧ w'.cell? p = some (.int .u64 (y : Nat))
def FZ (w w' : World) : Prop := ∀ p : Addr, w'.frozen? p = w.frozen? p

theorem TagC.refl (w : World) : TagC w w := fun p => .inl rfl
theorem TagC.trans {a b c : World} (h : TagC a b) (g : TagC b c) : TagC a c := fun p => by
  rcases h p with h | ⟨x, y, h1, h2⟩
  · rcases g p with g | ⟨x', y', g1, g2⟩
    · exact .inl (g.trans h)
    · exact .inr ⟨x', y', by rw [← h]; exact g1, g2⟩
  · rcases g p with g | ⟨x', y', g1, g2⟩
    · exact .inr ⟨x, y, h1, by rw [g]; exact h2⟩
    · exact .inr ⟨x, y', h1, g2⟩
theorem set_same {w : World} {p : Addr} {u v : Value} (h : w.cell? p = some u) : (w.setCell p v).cell? p = some v := by apply World.cell?_setCell_same; exact h
theorem set_other {w : World} {p q : Addr} {v : Value} (h : p ≠ q) : (w.setCell p v).cell? q = w.cell? q := by apply World.cell?_setCell_other; exact h

theorem TagC.set {w : World} {p : Addr} {x : Nat} (h : w.cell? p = some (.int .u64 (x : Nat))) (y : Nat) : TagC w (w.setCell p (.int .u64 (y : Nat))) := fun q => by
  by_cases hq : p = q
  · subst hq
    exact .inr ⟨x, y, h, set_same h⟩
  · exact .inl (set_other hq)
theorem FZ.refl (w : World) : FZ w w := fun _ => rfl
theorem FZ.trans {a b c : World} (h : FZ a b) (g : FZ b c) : FZ a c := fun p => (g p).trans (h p)
theorem FZ.set (w : World) (p : Addr) (v : Value) : FZ w (w.setCell p v) := fun q => World.frozen?_setCell ..

theorem list_of {P : Nat → Tree → Tree → Prop} : ∀ (ts : List Tree), (∀ i t, ts[i]? = some t → ∃ t', P i t t') → ∃ ts' : List Tree, ts'.length = ts.length ∧ ∀ i t t', ts[i]? = some t → ts'[i]? = some t' → P i t t'
  | [], _ => ⟨[], rfl, fun i t t' h => by simp at h⟩
  | x :: r, h => by
    obtain ⟨x', hx⟩ := h 0 x rfl
    obtain ⟨r', hl, hr⟩ := list_of (P := fun i => P (i + 1)) r (fun i t ht => h (i + 1) t (by simpa using ht))
    refine ⟨x' :: r', by simp [hl], fun i t t' ht ht' => ?_⟩
    cases i with
    | zero => simp at ht ht'; subst ht; subst ht'; exact hx
    | succ i => exact hr i t t' (by simpa using ht) (by simpa using ht')
theorem size_of_same : ∀ (ts ts' : List Tree), ts'.length = ts.length → (∀ (i : Nat) (t t' : Tree), ts[i]? = some t → ts'[i]? = some t' → sizeL t'.list = sizeL t.list) → sizeL ts' = sizeL ts
  | [], [], _, _ => rfl
  | [], _ :: _, h, _ => by simp at h
  | _ :: _, [], h, _ => by simp at h
  | x :: r, x' :: r', h, hs => by
    rw [sizeL_cons, sizeL_cons, hs 0 x x' rfl rfl, size_of_same r r' (by simpa using h) (fun i t t' ht ht' => hs (i + 1) t t' (by simpa using ht) (by simpa using ht'))]

/-- The row of fields at a block, and what its fields reach, which lies in S. -/
def Top (w : World) (S : Nat → Prop) (b off : Nat) (ts : List Tree) (lv : Nat → Value) : Prop :=
  (∀ i t, ts[i]? = some t → Cells w b (off + i * 5) t (lv i)) ∧ (∀ i t, ts[i]? = some t → Rd w S (lv i) t.list)

theorem cells_tagged {w w' : World} {b o : Nat} {t : Tree} {v : Value} (h : Cells w b o t v) (hv : v.oneCell' = true ∧ ∀ x : Nat, v ≠ .int .u64 (x : Nat)) (g : TagC w w') (l : List Tree) : ∃ t' : Tree, t'.list = l ∧ Cells w' b o t' v := by
  have hn : ∀ p : Addr, ∀ x : Nat, w.cell? p = some (.int .u64 (x : Nat)) → ∃ y : Nat, w'.cell? p = some (.int .u64 (y : Nat)) := fun p x hp => by
    rcases g p with k | ⟨x', y, -, k⟩
    · exact ⟨x, by rw [k, hp]⟩
    · exact ⟨y, k⟩
  have hs : ∀ (p : Addr) (u : Value), w.cell? p = some u → (∀ x : Nat, u ≠ .int .u64 (x : Nat)) → w'.cell? p = some u := fun p u hp hu => by
    rcases g p with k | ⟨x', y, k, -⟩
    · rw [k, hp]
    · rw [hp] at k
      simp only [Option.some.injEq] at k
      exact absurd k (hu x')
  obtain ⟨a, ha⟩ := hn _ _ h.c0
  obtain ⟨c, hc⟩ := hn _ _ h.c2
  exact ⟨.mk a t.typ c t.text l, rfl, ⟨ha, hs _ _ h.c1 (fun x e => by simp at e), hc, hs _ _ h.c3 (fun x e => by simp at e), hs _ _ h.c4 hv.2⟩⟩

theorem rd_value {w : World} {S : Nat → Prop} {v : Value} {ts : List Tree} (h : Rd w S v ts) : v.oneCell' = true ∧ ∀ x : Nat, v ≠ .int .u64 (x : Nat) := by
  obtain ⟨a, c, rfl⟩ := h.shape
  exact ⟨rfl, fun x e => by cases e⟩

theorem Rd.tagged {w w' : World} {S : Nat → Prop} {v : Value} {ts : List Tree} (h : Rd w S v ts) (g : TagC w w') : ∃ ts', Rd w' S v ts' ∧ ts'.length = ts.length ∧ sizeL ts' = sizeL ts := by
  induction h with
  | nil a cap => exact ⟨[], .nil a cap, rfl, rfl⟩
  | row b off len cap ts lv h h0 h1 h2 hb hc hr ih =>
    obtain ⟨ts', hl, hp⟩ := list_of (P := fun i t t' => Cells w' b (off + i * 5) t' (lv i) ∧ Rd w' S (lv i) t'.list ∧ sizeL t'.list = sizeL t.list) ts (fun i t ht => by
      obtain ⟨us, k1, k2, k3⟩ := ih i t ht
      obtain ⟨t', e, k4⟩ := cells_tagged (hc i t ht) (rd_value (hr i t ht)) g us
      exact ⟨t', k4, by rw [e]; exact k1, by rw [e]; exact k3⟩)
    have hx : ∀ i t', ts'[i]? = some t' → ∃ t, ts[i]? = some t := fun i t' ht => by
      have := (List.getElem?_eq_some_iff.1 ht).1
      exact ⟨ts[i], List.getElem?_eq_getElem (by omega)⟩
    refine ⟨ts', .row b off len cap ts' lv (by omega) h0 h1 h2 hb (fun i t' ht => ?_) (fun i t' ht => ?_), hl, size_of_same ts ts' hl fun i t t' ht ht' => (hp i t t' ht ht').2.2⟩
    · obtain ⟨t, h⟩ := hx i t' ht; exact (hp i t t' h ht).1
    · obtain ⟨t, h⟩ := hx i t' ht; exact (hp i t t' h ht).2.1

theorem Top.tagged {w w' : World} {S : Nat → Prop} {b off : Nat} {ts : List Tree} {lv : Nat → Value} (h : Top w S b off ts lv) (g : TagC w w') {i : Nat} {t : Tree} (ht : ts[i]? = some t) :
    ∃ t', Cells w' b (off + i * 5) t' (lv i) ∧ Rd w' S (lv i) t'.list ∧ sizeL t'.list = sizeL t.list := by
  obtain ⟨us, k1, k2, k3⟩ := (h.2 i t ht).tagged g
  obtain ⟨t', e, k4⟩ := cells_tagged (h.1 i t ht) (rd_value (h.2 i t ht)) g us
  exact ⟨t', k4, by rw [e]; exact k1, by rw [e]; exact k3⟩

theorem turn_none (a : Option Addr) (cap : Nat) (w : World) : Calls Tryd.prog 32 #[.slice a 0 cap] w fun e w' => e = .returned (.tuple #[]) ∧ w' = w := by
  go_enter Tryd.func32, Tryd.ntmps32
  go_wp2_with fail
  refine wp_loop_rounds 1 ?_
  rw [rounds_succ]
  go_wp2_with fail
  go_end0
  exact ⟨rfl, rfl⟩

set_option maxHeartbeats 4000000 in
set_option maxRecDepth 100000 in
theorem turn_row : ∀ (n : Nat) (ts : List Tree), sizeL ts ≤ n → 0 < ts.length → ∀ (w : World) (S : Nat → Prop) (b off cap : Nat) (lv : Nat → Value), ts.length ≤ cap → cap ≤ maxLen → Top w S b off ts lv → (∀ k, S k → ∀ j, w.frozen? ⟨k, j, none⟩ = false) → (∀ j, w.frozen? ⟨b, j, none⟩ = false) →
    Calls Tryd.prog 32 #[.slice (some ⟨b, off, none⟩) ts.length cap] w fun e w' => e = .returned (.tuple #[]) ∧ TagC w w' ∧ Chg (fun k => S k ∨ k = b) w w' ∧ FZ w w' ∧
      (¬ S b → ∀ t, ts[0]? = some t → w'.cell? ⟨b, off, none⟩ = some (.int .u64 (((t.tag + 1) % 18446744073709551616 : Nat) : Int))) := by
  intro n
  induction n with
  | zero =>
    intro ts hn hp
    have := len_size ts
    omega
  | succ n ih =>
    intro ts hn hp w S b off cap lv hlc hcm htop hfS hfb
    have HTOP := Lib.hid htop
    have HFS := Lib.hid hfS
    have HFB := Lib.hid hfb
    have hll := len_size ts
    -- a field's list
    have HCH : Hid (∀ (us : List Tree) (w : World) (v : Value), sizeL us ≤ n → Rd w S v us → (∀ k, S k → ∀ j, w.frozen? ⟨k, j, none⟩ = false) →
        Calls Tryd.prog 32 #[v] w fun e w' => e = .returned (.tuple #[]) ∧ TagC w w' ∧ Chg S w w' ∧ FZ w w') := fun us w v hs hr hf => by
      cases hr with
      | nil a cap => exact (turn_none a cap w).mono fun e w' ⟨he, hw⟩ => ⟨he, by rw [hw]; exact TagC.refl w, by rw [hw]; exact Chg.refl S w, by rw [hw]; exact FZ.refl w⟩
      | row b' off' len' cap' _ lv' h h0 h1 h2 hb hc hr =>
        subst h
        exact (ih us hs h0 w S b' off' cap' lv' h1 h2 ⟨hc, hr⟩ hf (hf b' hb)).mono fun e w' ⟨he, k1, k2, k3, _⟩ => ⟨he, k1, k2.mono (fun k hk => by rcases hk with hk | rfl; { exact .inl hk }; exact .inl hb), k3⟩
    clear htop hfS hfb ih
    unfold maxLen at hcm
    go_enter Tryd.func32, Tryd.ntmps32
    go_wp2_with fail
    go_loopw [5] (fun q wr => ∃ i : Nat, i ≤ ts.length ∧ q = .int .i64 i ∧ TagC w wr ∧ Chg (fun k => S k ∨ k = b) w wr ∧ FZ w wr ∧ (¬ S b → ∀ t, ts[0]? = some t → wr.cell? ⟨b, off, none⟩ = some (.int .u64 ((if i = 0 then t.tag else (t.tag + 1) % 18446744073709551616 : Nat) : Int)))) (fun q _ => ts.length - (intOf q).toNat)
    case atStart => exact ⟨0, by omega, rfl, TagC.refl w, Chg.refl _ w, FZ.refl w, fun _ t ht => by
      have := (HTOP.out.1 0 t ht).c0
      simpa using this⟩
    case round =>
      obtain ⟨i, hi, rfl, htg, hch, hfz, hfirst⟩ := hrel
      have HTG := Lib.hid htg
      have HCG := Lib.hid hch
      have HFZ := Lib.hid hfz
      have HFI := Lib.hid hfirst
      clear htg hch hfz hfirst
      by_cases hlt : i < ts.length
      · obtain ⟨t, ht⟩ : ∃ t, ts[i]? = some t := ⟨ts[i], List.getElem?_eq_getElem hlt⟩
        have hts := size_mem ht
        obtain ⟨t', hc', -, -⟩ := HTOP.out.tagged HTG.out ht
        obtain ⟨y, hy, hy2⟩ : ∃ y : Nat, ((t'.tag : Int) + 1) % 18446744073709551616 = (y : Int) ∧ y = (t'.tag + 1) % 18446744073709551616 := ⟨(t'.tag + 1) % 18446744073709551616, by omega, rfl⟩
        have c0 := hc'.c0
        have hc'4 := hc'.c4
        have f0 : wr.frozen? ⟨b, off + i * 5, none⟩ = false := by rw [HFZ.out]; exact HFB.out _
        have HT1 := Lib.hid (TagC.set c0 y)
        have hset := Chg.set_one wr b (off + i * 5) (.int .u64 (y : Nat))
        have HS1 := Lib.hid hset
        have HFZ1 := Lib.hid (FZ.set wr ⟨b, off + i * 5, none⟩ (.int .u64 (y : Nat)))
        obtain ⟨t2, hc2, hr2, hz2⟩ := HTOP.out.tagged (HTG.out.trans HT1.out) ht
        have c4 := hc2.c4
        have HR2 := Lib.hid hr2
        obtain ⟨la, lc, hlv⟩ := hr2.shape
        have hif : ¬ S b → ∀ t, ts[0]? = some t → (wr.setCell ⟨b, off + i * 5, none⟩ (.int .u64 (y : Nat))).cell? ⟨b, off, none⟩ = some (.int .u64 (((t.tag + 1) % 18446744073709551616 : Nat) : Int)) := fun hb t0 ht0 => by
          have h1 := HFI.out hb t0 ht0
          by_cases h0 : i = 0
          · subst h0
            rw [if_pos rfl] at h1
            rw [Nat.zero_mul, Nat.add_zero] at c0 ⊢
            rw [set_same c0]
            rw [c0] at h1
            simp only [Option.some.injEq, Value.int.injEq, true_and] at h1
            rw [hy2]
            congr 2
            omega
          · rw [if_neg h0] at h1
            rw [set_other (fun e => by simp at e <;> omega)]
            exact h1
        have HIF := Lib.hid hif
        have HFS1 : Hid (∀ k, S k → ∀ j, (wr.setCell ⟨b, off + i * 5, none⟩ (.int .u64 (y : Nat))).frozen? ⟨k, j, none⟩ = false) := fun k hk j => by
          rw [World.frozen?_setCell, HFZ.out]; exact HFS.out k hk j
        have HCH1 := Lib.hid (HCH.out t2.list _ (lv i) (by omega) HR2.out HFS1.out)
        clear hif hset hc' hc2 hr2 ht hts hz2
        have k4 := hc'4
        have hy1 : IntKind.u64.wrap ((t'.tag : Int) + 1) = (y : Int) := by rw [IntKind.wrap_u64]; exact hy
        rw [hlv] at c4 HCH1 k4
        have HY := Lib.hid hy2
        clear hlv hy2
        go_wp2_with fail
        generalize wr.setCell ⟨b, off + i * 5, none⟩ (.int .u64 (y : Nat)) = w1 at *
        refine HCH1.out.mono ?_
        rintro e w2 ⟨rfl, j1, j2, j3⟩
        have HTG2 := Lib.hid ((HTG.out.trans HT1.out).trans j1)
        have HCG2 : Hid (Chg (fun k => S k ∨ k = b) w w2) := (HCG.out.trans HS1.out (fun k e => .inl (.inr e))).trans j2 (fun k e => .inl (.inl e))
        have HFZ2 : Hid (FZ w w2) := fun p => by rw [j3 p, HFZ1.out p, HFZ.out p]
        have HFI2 : Hid (¬ S b → ∀ t, ts[0]? = some t → w2.cell? ⟨b, off, none⟩ = some (.int .u64 ((if i + 1 = 0 then t.tag else (t.tag + 1) % 18446744073709551616 : Nat) : Int))) := fun hb t ht => by
          rw [if_neg (by omega)]
          exact j2.cell (HIF.out hb t ht) hb
        clear j1 j2 j3 k4 c4
        go_wp2_with fail
        go_roundw
        case rel => exact ⟨i + 1, by omega, by go_num, HTG2.out, HCG2.out, HFZ2.out, HFI2.out⟩
        case measure => simp [intOf]; omega
      · have hie : i = ts.length := by omega
        subst hie
        go_wp2_with fail
        go_end0
        exact ⟨rfl, HTG.out, HCG.out, HFZ.out, fun hb t ht => by have := HFI.out hb t ht; rwa [if_neg (by omega)] at this⟩

end Go.Proofs.YtbelpcniogcfoaaDoor.tr
