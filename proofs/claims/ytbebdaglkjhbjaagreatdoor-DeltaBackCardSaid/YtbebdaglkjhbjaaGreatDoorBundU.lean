/-
  Umath, Uref, Ugood, Udec, Utrim, Tabs, Law07, Ucalls, Uui
-/
import Derived.Test.YtbebdaglkjhbjaaGreatDoorBundA
import Derived.Handy
import Derived.Lib.ValidU
import Derived.Lib.TrimUEq
import Derived.Lib.RuneCount
import Derived.Lib.MapLaws
import Derived.Test.YtbebdaglkjhbjaaGreatDoorRows
import Derived.Test.YtbebdaglkjhbjaaGreatDoorUlay
import Derived.Lib.LaidU8T
import Derived.MakeChecks
import Derived.Test.YtbebdaglkjhbjaaGreatDoorShelf
import Derived.Lib.Bits
import Derived.Test.YtbebdaglkjhbjaaGreatDoorBundD

/-
  Plain mathematics of UTF-8, as layer 7's document has it: no function of the program.
-/
namespace Go.Proofs.YtbebdaglkjhbjaaGreatDoor.um
set_option linter.unusedVariables false
set_option linter.unusedSimpArgs false

def byt (L : List UInt8) (i : Nat) : Nat := (L.getD i 0).toNat
/-- The number of k further bytes behind a first part n. -/
def accN (L : List UInt8) (n : Nat) : Nat → Nat
  | 0 => n
  | k + 1 => 64 * accN L n k + (byt L (k + 1) - 128)
/-- So many bytes, all but the first one between 128 and 191. -/
def conts (L : List UInt8) (k : Nat) : Prop := ∀ i, i < k → 128 ≤ byt L (i + 1) ∧ byt L (i + 1) < 192
instance (L : List UInt8) (k : Nat) : Decidable (conts L k) := by unfold conts; infer_instance
def outN (least v : Nat) : Prop := v < least ∨ 1114111 < v ∨ (55296 ≤ v ∧ v < 57344)
instance (least v : Nat) : Decidable (outN least v) := by unfold outN; infer_instance
/-- A code point of size bytes. -/
def mulR (L : List UInt8) (size n least : Nat) : Nat :=
  if L.length < size then 0 else if conts L (size - 1) then (if outN least (accN L n (size - 1)) then 0 else size) else 0
/-- How many bytes the code point has that bytes begin with; 0: there is none. -/
def firstR (L : List UInt8) : Nat :=
  if L.length = 0 then 0
  else if byt L 0 < 128 then 1
  else if 192 ≤ byt L 0 ∧ byt L 0 < 224 then mulR L 2 (byt L 0 - 192) 128
  else if 224 ≤ byt L 0 ∧ byt L 0 < 240 then mulR L 3 (byt L 0 - 224) 2048
  else if 240 ≤ byt L 0 ∧ byt L 0 < 248 then mulR L 4 (byt L 0 - 240) 65536
  else 0

theorem byt_app (L M : List UInt8) (i : Nat) (h : i < L.length) : byt (L ++ M) i = byt L i := by
  unfold byt
  rw [List.getD_eq_getElem?_getD, List.getD_eq_getElem?_getD, List.getElem?_append_left h]
theorem conts_app (L M : List UInt8) (k : Nat) (h : k < L.length) : conts (L ++ M) k ↔ conts L k := by
  unfold conts
  constructor <;> intro hc i hi <;> have := hc i hi <;> rw [byt_app L M (i + 1) (by omega)] at * <;> exact this
theorem accN_app (L M : List UInt8) (n : Nat) : ∀ k, k < L.length → accN (L ++ M) n k = accN L n k
  | 0, _ => rfl
  | k + 1, h => by
    show 64 * accN (L ++ M) n k + (byt (L ++ M) (k + 1) - 128) = 64 * accN L n k + (byt L (k + 1) - 128)
    rw [accN_app L M n k (by omega), byt_app L M (k + 1) h]

theorem mulR_le (L : List UInt8) (size n least : Nat) : mulR L size n least = 0 ∨ (mulR L size n least = size ∧ size ≤ L.length ∧ conts L (size - 1)) := by
  unfold mulR
  split
  · exact .inl rfl
  · split
    · split
      · exact .inl rfl
      · rename_i h1 h2 h3; exact .inr ⟨rfl, by omega, h2⟩
    · exact .inl rfl

theorem mulR_app (L M : List UInt8) (size n least : Nat) (hs : 1 ≤ size) (h : size ≤ L.length) : mulR (L ++ M) size n least = mulR L size n least := by
  unfold mulR
  rw [if_neg (show ¬ (L ++ M).length < size by rw [List.length_append]; omega), if_neg (show ¬ L.length < size by omega)]
  by_cases hc : conts L (size - 1)
  · rw [if_pos hc, if_pos ((conts_app L M _ (by omega)).2 hc), accN_app L M n _ (by omega)]
  · rw [if_neg hc, if_neg (fun h' => hc ((conts_app L M _ (by omega)).1 h'))]

/-- A code point: its size, and what its bytes are. -/
theorem firstR_facts (L : List UInt8) (h : firstR L ≠ 0) : firstR L ≤ L.length ∧ firstR L ≤ 4 ∧ conts L (firstR L - 1) ∧ (byt L 0 < 128 ∨ 192 ≤ byt L 0) := by
  unfold firstR at *
  split at h
  · exact absurd rfl h
  · rename_i h0
    rw [if_neg h0]
    split at h
    · rename_i h1
      rw [if_pos h1]
      exact ⟨by omega, by omega, fun i hi => by omega, .inl h1⟩
    · rename_i h1
      rw [if_neg h1]
      split at h
      · rename_i h2
        rw [if_pos h2]
        rcases mulR_le L 2 (byt L 0 - 192) 128 with hm | ⟨hm, hl, hc⟩
        · exact absurd hm h
        · rw [hm]; exact ⟨hl, by omega, hc, .inr h2.1⟩
      · rename_i h2
        rw [if_neg h2]
        split at h
        · rename_i h3
          rw [if_pos h3]
          rcases mulR_le L 3 (byt L 0 - 224) 2048 with hm | ⟨hm, hl, hc⟩
          · exact absurd hm h
          · rw [hm]; exact ⟨hl, by omega, hc, .inr (by omega)⟩
        · rename_i h3
          rw [if_neg h3]
          split at h
          · rename_i h4
            rw [if_pos h4]
            rcases mulR_le L 4 (byt L 0 - 240) 65536 with hm | ⟨hm, hl, hc⟩
            · exact absurd hm h
            · rw [hm]; exact ⟨hl, by omega, hc, .inr (by omega)⟩
          · exact absurd rfl h

/-- More behind plays no part, where there are bytes enough. -/
theorem firstR_app (L M : List UInt8) (h : firstR L ≠ 0 ∨ (firstR (L ++ M) ≠ 0 ∧ firstR (L ++ M) ≤ L.length)) : firstR (L ++ M) = firstR L := by
  have hpos : 0 < L.length := by
    rcases h with h | ⟨h1, h2⟩
    · have := (firstR_facts L h).1; omega
    · omega
  have hb := byt_app L M 0 hpos
  have key : ∀ size n least, 1 ≤ size → (mulR L size n least ≠ 0 ∨ (mulR (L ++ M) size n least ≠ 0 ∧ mulR (L ++ M) size n least ≤ L.length)) → mulR (L ++ M) size n least = mulR L size n least := by
    intro size n least hs hh
    by_cases hl : size ≤ L.length
    · exact mulR_app L M size n least hs hl
    · exfalso
      rcases hh with h1 | ⟨h1, h2⟩
      · rcases mulR_le L size n least with hm | ⟨_, hm, _⟩
        · exact h1 hm
        · omega
      · rcases mulR_le (L ++ M) size n least with hm | ⟨hm, _, _⟩
        · exact h1 hm
        · omega
  unfold firstR at h ⊢
  rw [hb] at h ⊢
  rw [if_neg (show ¬ (L ++ M).length = 0 by rw [List.length_append]; omega), if_neg (show ¬ L.length = 0 by omega)] at h ⊢
  by_cases h1 : byt L 0 < 128
  · rw [if_pos h1, if_pos h1]
  · rw [if_neg h1, if_neg h1] at h ⊢
    by_cases h2 : 192 ≤ byt L 0 ∧ byt L 0 < 224
    · rw [if_pos h2, if_pos h2] at h ⊢
      exact key _ _ _ (by omega) h
    · rw [if_neg h2, if_neg h2] at h ⊢
      by_cases h3 : 224 ≤ byt L 0 ∧ byt L 0 < 240
      · rw [if_pos h3, if_pos h3] at h ⊢
        exact key _ _ _ (by omega) h
      · rw [if_neg h3, if_neg h3] at h ⊢
        by_cases h4 : 240 ≤ byt L 0 ∧ byt L 0 < 248
        · rw [if_pos h4, if_pos h4] at h ⊢
          exact key _ _ _ (by omega) h
        · rw [if_neg h4, if_neg h4]

/-! Good texts. -/
def goodR (L : List UInt8) : Bool :=
  if hL : L = [] then true else if h : firstR L = 0 then false else goodR (L.drop (firstR L))
termination_by L.length
decreasing_by
  have : 0 < L.length := List.length_pos_iff.2 hL
  simp only [List.length_drop]
  omega

theorem goodR_nil : goodR [] = true := by rw [goodR, dif_pos rfl]
theorem goodR_bad {L : List UInt8} (hL : L ≠ []) (h : firstR L = 0) : goodR L = false := by rw [goodR, dif_neg hL, dif_pos h]
theorem goodR_step {L : List UInt8} (hL : L ≠ []) (h : firstR L ≠ 0) : goodR L = goodR (L.drop (firstR L)) := by rw [goodR, dif_neg hL, dif_neg h]

/-- How many code points; each byte of none is one. -/
def countR (L : List UInt8) : Nat :=
  if hL : L = [] then 0 else 1 + countR (L.drop (max 1 (firstR L)))
termination_by L.length
decreasing_by
  have : 0 < L.length := List.length_pos_iff.2 hL
  simp only [List.length_drop]
  omega
theorem countR_nil : countR [] = 0 := by rw [countR, dif_pos rfl]
theorem countR_step {L : List UInt8} (hL : L ≠ []) : countR L = 1 + countR (L.drop (max 1 (firstR L))) := by rw [countR, dif_neg hL]

theorem first_pos {L : List UInt8} (hL : L ≠ []) (h : goodR L = true) : firstR L ≠ 0 := fun h0 => by rw [goodR_bad hL h0] at h; cases h

/-- Two good texts together. -/
theorem good_app : ∀ (m : Nat) (L M : List UInt8), L.length ≤ m → goodR L = true → goodR (L ++ M) = goodR M ∧ countR (L ++ M) = countR L + countR M := by
  intro m
  induction m with
  | zero =>
    intro L M hm _
    obtain rfl : L = [] := List.length_eq_zero_iff.1 (by omega)
    rw [countR_nil]; simp
  | succ m ih =>
    intro L M hm hg
    by_cases hL : L = []
    · subst hL; rw [countR_nil]; simp
    · have hf := first_pos hL hg
      have hfa := firstR_app L M (.inl hf)
      have hl := (firstR_facts L hf).1
      have hd : (L ++ M).drop (firstR L) = L.drop (firstR L) ++ M := List.drop_append_of_le_length hl
      rw [goodR_step hL hf] at hg
      have hi := ih (L.drop (firstR L)) M (by simp; omega) hg
      have hne : L ++ M ≠ [] := by simp [hL]
      rw [goodR_step hne (by rw [hfa]; exact hf), hfa, hd, countR_step hne, hfa, countR_step hL, show max 1 (firstR L) = firstR L by omega, hd, hi.1, hi.2]
      exact ⟨rfl, by omega⟩

/-- Where the whole and the second are good, so is the first. -/
theorem good_left : ∀ (m : Nat) (L M : List UInt8), L.length ≤ m → goodR (L ++ M) = true → goodR M = true → goodR L = true := by
  intro m
  induction m with
  | zero =>
    intro L M hm _ _
    obtain rfl : L = [] := List.length_eq_zero_iff.1 (by omega)
    exact goodR_nil
  | succ m ih =>
    intro L M hm hg hM
    by_cases hL : L = []
    · subst hL; exact goodR_nil
    · have hne : L ++ M ≠ [] := by simp [hL]
      have hf := first_pos hne hg
      have hfacts := firstR_facts (L ++ M) hf
      by_cases hle : firstR (L ++ M) ≤ L.length
      · have hfa := firstR_app L M (.inr ⟨hf, hle⟩)
        rw [goodR_step hne hf, hfa, List.drop_append_of_le_length (by omega)] at hg
        rw [goodR_step hL (by omega)]
        exact ih _ M (by simp; omega) hg hM
      · exfalso
        have hpos : 0 < L.length := List.length_pos_iff.2 hL
        have hMne : M ≠ [] := by
          intro h; subst h
          have := hfacts.1
          simp at this; simp at hle; omega
        have hc := hfacts.2.2.1 (L.length - 1) (by omega)
        rw [show L.length - 1 + 1 = L.length by omega] at hc
        have hb : byt (L ++ M) L.length = byt M 0 := by
          unfold byt
          rw [List.getD_eq_getElem?_getD, List.getElem?_append_right (by omega), List.getD_eq_getElem?_getD, Nat.sub_self]
        rw [hb] at hc
        have := (firstR_facts M (first_pos hMne hM)).2.2.2
        omega

/-! Cut to a length. -/
def trimN (L : List UInt8) (most : Int) : Nat :=
  if hL : L = [] then 0 else if h : (firstR L : Int) ≤ most ∧ firstR L ≠ 0 then firstR L + trimN (L.drop (firstR L)) (most - firstR L) else 0
termination_by L.length
decreasing_by
  have : 0 < L.length := List.length_pos_iff.2 hL
  simp only [List.length_drop]
  omega

theorem trimN_facts : ∀ (m : Nat) (L : List UInt8) (most : Int), L.length ≤ m → trimN L most ≤ L.length ∧ ((trimN L most : Int) ≤ max most 0) ∧ goodR (L.take (trimN L most)) = true := by
  intro m
  induction m with
  | zero =>
    intro L most hm
    obtain rfl : L = [] := List.length_eq_zero_iff.1 (by omega)
    rw [trimN, dif_pos rfl]
    simp [goodR_nil]
    omega
  | succ m ih =>
    intro L most hm
    by_cases hL : L = []
    · subst hL; rw [trimN, dif_pos rfl]; simp [goodR_nil]; omega
    · by_cases h : (firstR L : Int) ≤ most ∧ firstR L ≠ 0
      · have hf := firstR_facts L h.2
        obtain ⟨h1, h2, h3⟩ := ih (L.drop (firstR L)) (most - firstR L) (by simp; omega)
        rw [trimN, dif_neg hL, dif_pos h]
        generalize trimN (L.drop (firstR L)) (most - firstR L) = t at *
        simp only [List.length_drop] at h1
        refine ⟨by omega, by omega, ?_⟩
        have hsplit : L.take (firstR L + t) = L.take (firstR L) ++ (L.drop (firstR L)).take t := List.take_add
        have hLs : L.take (firstR L) ++ L.drop (firstR L) = L := List.take_append_drop _ _
        have hne : L.take (firstR L) ≠ [] := by
          intro h0
          have h1' := congrArg List.length h0
          rw [List.length_take, List.length_nil] at h1'
          have := List.length_pos_iff.2 hL
          omega
        have hfa : firstR (L.take (firstR L)) = firstR L := by
          have := firstR_app (L.take (firstR L)) (L.drop (firstR L)) (.inr (by rw [hLs]; exact ⟨h.2, by simp; omega⟩))
          rw [hLs] at this
          exact this.symm
        have hg : goodR (L.take (firstR L)) = true := by
          rw [goodR_step hne (by rw [hfa]; exact h.2), hfa, List.drop_eq_nil_of_le (by simp; omega)]
          exact goodR_nil
        rw [hsplit, (good_app _ _ _ (Nat.le_refl _) hg).1]
        exact h3
      · rw [trimN, dif_neg hL, dif_neg h]
        simp [goodR_nil]
        omega

end Go.Proofs.YtbebdaglkjhbjaaGreatDoor.um

/-
  The document's UTF-8: First.
-/
namespace Go.Proofs.YtbebdaglkjhbjaaGreatDoor.um
open Go.RowKit Go.Proofs.YtbebdaglkjhbjaaGreatDoor.cur
set_option linter.unusedVariables false
set_option linter.unusedSimpArgs false

theorem byt_at (s : ByteArray) (k : Nat) (h : k < s.size) : byt s.data.toList k = s[k].toNat := by
  unfold byt
  rw [List.getD_eq_getElem?_getD, List.getElem?_eq_getElem (by simpa using h)]
  rfl

theorem conts_step (L : List UInt8) (k : Nat) (h : conts L k) (hd : 128 ≤ byt L (k + 1) ∧ byt L (k + 1) < 192) : conts L (k + 1) := fun i hi => by
  by_cases h2 : i = k
  · subst h2; exact hd
  · exact h i (by omega)

set_option maxHeartbeats 4000000 in
set_option maxRecDepth 100000 in
theorem rfirst_any (s : ByteArray) (hs : s.size ≤ 1000000) (w : World) :
    Calls Tryz.prog 152 #[.string s] w fun e w' => e = .returned (.int .i64 (firstR s.data.toList : Nat)) ∧ w = w' := by
  have hlen : s.data.toList.length = s.size := by simp
  by_cases h0 : s.size = 0
  · have hf : firstR s.data.toList = 0 := by unfold firstR; rw [if_pos (by omega)]
    rw [hf]
    clear hf hlen
    go_enter Tryz.func152, Tryz.ntmps152
    go_wp2_with fail
    go_ret
    exact ⟨rfl, rfl⟩
  · have hp : 0 < s.size := by omega
    have hb := byt_at s 0 hp
    have hc := s[0].toNat_lt
    have hf : firstR s.data.toList = if s[0].toNat < 128 then 1
        else if 192 ≤ s[0].toNat ∧ s[0].toNat < 224 then mulR s.data.toList 2 (s[0].toNat - 192) 128
        else if 224 ≤ s[0].toNat ∧ s[0].toNat < 240 then mulR s.data.toList 3 (s[0].toNat - 224) 2048
        else if 240 ≤ s[0].toNat ∧ s[0].toNat < 248 then mulR s.data.toList 4 (s[0].toNat - 240) 65536
        else 0 := by
      unfold firstR
      rw [if_neg (by omega), hb]
    rw [hf]
    clear hf
    rcases (show s[0].toNat < 128 ∨ (128 ≤ s[0].toNat ∧ s[0].toNat < 192) ∨ 248 ≤ s[0].toNat ∨ (192 ≤ s[0].toNat ∧ s[0].toNat < 224) ∨ (224 ≤ s[0].toNat ∧ s[0].toNat < 240) ∨ (240 ≤ s[0].toNat ∧ s[0].toNat < 248) by omega) with h1 | h1 | h1 | h1 | h1 | h1
    · rw [if_pos h1]
      go_enter Tryz.func152, Tryz.ntmps152
      go_wp2_with fail
      go_ret
      exact ⟨rfl, rfl⟩
    · rw [if_neg (by omega), if_neg (by omega), if_neg (by omega), if_neg (by omega)]
      go_enter Tryz.func152, Tryz.ntmps152
      go_wp2_with fail
      go_ret
      exact ⟨rfl, rfl⟩
    · rw [if_neg (by omega), if_neg (by omega), if_neg (by omega), if_neg (by omega)]
      go_enter Tryz.func152, Tryz.ntmps152
      go_wp2_with fail
      go_ret
      exact ⟨rfl, rfl⟩
    · rw [if_neg (by omega), if_pos h1]
      obtain ⟨n0, hn0, hnl⟩ : ∃ n0 : Nat, (s[0].toNat : Int) - 192 = (n0 : Int) ∧ n0 < 32 := ⟨s[0].toNat - 192, by omega, by omega⟩
      rw [show s[0].toNat - 192 = n0 by omega]
      by_cases hl : s.size < 2
      · have hm : mulR s.data.toList 2 n0 128 = 0 := by unfold mulR; rw [if_pos (by omega)]
        rw [hm]
        clear hm
        go_enter Tryz.func152, Tryz.ntmps152
        go_wp2_with fail
        go_ret
        exact ⟨rfl, rfl⟩
      · have HM : Hid (mulR s.data.toList 2 n0 128 = if conts s.data.toList (2 - 1) then (if outN 128 (accN s.data.toList n0 (2 - 1)) then 0 else 2) else 0) := by unfold mulR; rw [if_neg (by omega)]; rfl
        generalize mulR s.data.toList 2 n0 128 = R at *
        go_enter Tryz.func152, Tryz.ntmps152
        go_wp2_with fail
        rw [show decide ((s[0].toNat : Int) < 224) = true from decide_eq_true (by omega)]
        go_loopw [5, 7] (fun n c wr => ∃ k v : Nat, k + 1 ≤ 2 ∧ c = .int .i64 ((k + 1 : Nat) : Int) ∧ n = .int .i64 v ∧ v = accN s.data.toList n0 k ∧ v + 1 ≤ 32 * 64 ^ k ∧ conts s.data.toList k ∧ wr = w) (fun _ c _ => 2 - (intOf c).toNat)
        case atStart => exact ⟨0, n0, by omega, rfl, rfl, rfl, by omega, fun i hi => by omega, rfl⟩
        case round =>
          obtain ⟨k, v, hk, rfl, rfl, hv, hvl, hct, rfl⟩ := hrel
          have HV := Lib.hid hv
          have HC := Lib.hid hct
          have hpw : 64 ^ k ≤ 64 ^ 3 := Nat.pow_le_pow_right (by omega) (by omega)
          have hvs : v < 8388608 := by omega
          have HVL := Lib.hid hvl
          clear hv hct hpw hvl
          by_cases hlt : k + 1 < 2
          · have h2 : k + 1 < s.size := by omega
            have hbd := byt_at s (k + 1) h2
            have hd := s[k + 1].toNat_lt
            have HB := Lib.hid hbd
            clear hbd
            by_cases hcont : 128 ≤ s[k + 1].toNat ∧ s[k + 1].toNat < 192
            · obtain ⟨v', hv'⟩ : ∃ v' : Nat, 64 * (v : Int) + (s[k + 1].toNat : Int) - 128 = (v' : Int) := ⟨64 * v + (s[k + 1].toNat - 128), by omega⟩
              have HA : Hid (v' = accN s.data.toList n0 (k + 1)) := by
                show v' = 64 * accN s.data.toList n0 k + (byt s.data.toList (k + 1) - 128)
                rw [HB.out, ← HV.out]; omega
              have HL : Hid (v' + 1 ≤ 32 * 64 ^ (k + 1)) := by have := HVL.out; rw [Nat.pow_succ]; show v' + 1 ≤ 32 * (64 ^ k * 64); omega
              have HC2 := Lib.hid (conts_step _ k HC.out (by rw [HB.out]; exact hcont))
              go_wp2_with fail
              go_roundw
              case rel => exact ⟨k + 1, v', by omega, by go_num, rfl, HA.out, HL.out, HC2.out, by first | rfl | trivial⟩
              case measure => simp [intOf]; omega
            · have hR : Hid (R = 0) := by
                rw [HM.out, if_neg (fun h => hcont (by have := h k (by omega); rw [HB.out] at this; exact this))]; rfl
              rcases (show s[k + 1].toNat < 128 ∨ (128 ≤ s[k + 1].toNat ∧ 192 ≤ s[k + 1].toNat) by omega) with h3 | h3
              all_goals
                go_wp2_with fail
                go_ret
                exact ⟨ret1 (congrArg (fun n : Nat => Value.int .i64 (n : Int)) hR.out.symm), rfl⟩
          · have hk1 : k = 2 - 1 := by omega
            subst hk1
            have hR := HM.out
            rw [if_pos HC.out, ← HV.out] at hR
            have HR := Lib.hid hR
            clear hR
            rcases (show v < 128 ∨ (128 ≤ v ∧ 1114111 < v) ∨ (128 ≤ v ∧ v ≤ 1114111 ∧ 55296 ≤ v ∧ v < 57344) ∨ (128 ≤ v ∧ v ≤ 1114111 ∧ v < 55296) ∨ (128 ≤ v ∧ v ≤ 1114111 ∧ 57344 ≤ v) by omega) with h3 | h3 | h3 | h3 | h3
            all_goals
              have hR := HR.out
              first
                | rw [if_pos (by unfold outN; omega)] at hR
                | rw [if_neg (by unfold outN; omega)] at hR
              have HR2 := Lib.hid hR
              clear hR
              go_wp2_with fail
              go_ret
              exact ⟨ret1 (congrArg (fun n : Nat => Value.int .i64 (n : Int)) HR2.out.symm), rfl⟩
    · rw [if_neg (by omega), if_neg (by omega), if_pos h1]
      obtain ⟨n0, hn0, hnl⟩ : ∃ n0 : Nat, (s[0].toNat : Int) - 224 = (n0 : Int) ∧ n0 < 32 := ⟨s[0].toNat - 224, by omega, by omega⟩
      rw [show s[0].toNat - 224 = n0 by omega]
      by_cases hl : s.size < 3
      · have hm : mulR s.data.toList 3 n0 2048 = 0 := by unfold mulR; rw [if_pos (by omega)]
        rw [hm]
        clear hm
        go_enter Tryz.func152, Tryz.ntmps152
        go_wp2_with fail
        go_ret
        exact ⟨rfl, rfl⟩
      · have HM : Hid (mulR s.data.toList 3 n0 2048 = if conts s.data.toList (3 - 1) then (if outN 2048 (accN s.data.toList n0 (3 - 1)) then 0 else 3) else 0) := by unfold mulR; rw [if_neg (by omega)]; rfl
        generalize mulR s.data.toList 3 n0 2048 = R at *
        go_enter Tryz.func152, Tryz.ntmps152
        go_wp2_with fail
        rw [show decide ((s[0].toNat : Int) < 240) = true from decide_eq_true (by omega)]
        go_loopw [5, 7] (fun n c wr => ∃ k v : Nat, k + 1 ≤ 3 ∧ c = .int .i64 ((k + 1 : Nat) : Int) ∧ n = .int .i64 v ∧ v = accN s.data.toList n0 k ∧ v + 1 ≤ 32 * 64 ^ k ∧ conts s.data.toList k ∧ wr = w) (fun _ c _ => 3 - (intOf c).toNat)
        case atStart => exact ⟨0, n0, by omega, rfl, rfl, rfl, by omega, fun i hi => by omega, rfl⟩
        case round =>
          obtain ⟨k, v, hk, rfl, rfl, hv, hvl, hct, rfl⟩ := hrel
          have HV := Lib.hid hv
          have HC := Lib.hid hct
          have hpw : 64 ^ k ≤ 64 ^ 3 := Nat.pow_le_pow_right (by omega) (by omega)
          have hvs : v < 8388608 := by omega
          have HVL := Lib.hid hvl
          clear hv hct hpw hvl
          by_cases hlt : k + 1 < 3
          · have h2 : k + 1 < s.size := by omega
            have hbd := byt_at s (k + 1) h2
            have hd := s[k + 1].toNat_lt
            have HB := Lib.hid hbd
            clear hbd
            by_cases hcont : 128 ≤ s[k + 1].toNat ∧ s[k + 1].toNat < 192
            · obtain ⟨v', hv'⟩ : ∃ v' : Nat, 64 * (v : Int) + (s[k + 1].toNat : Int) - 128 = (v' : Int) := ⟨64 * v + (s[k + 1].toNat - 128), by omega⟩
              have HA : Hid (v' = accN s.data.toList n0 (k + 1)) := by
                show v' = 64 * accN s.data.toList n0 k + (byt s.data.toList (k + 1) - 128)
                rw [HB.out, ← HV.out]; omega
              have HL : Hid (v' + 1 ≤ 32 * 64 ^ (k + 1)) := by have := HVL.out; rw [Nat.pow_succ]; show v' + 1 ≤ 32 * (64 ^ k * 64); omega
              have HC2 := Lib.hid (conts_step _ k HC.out (by rw [HB.out]; exact hcont))
              go_wp2_with fail
              go_roundw
              case rel => exact ⟨k + 1, v', by omega, by go_num, rfl, HA.out, HL.out, HC2.out, by first | rfl | trivial⟩
              case measure => simp [intOf]; omega
            · have hR : Hid (R = 0) := by
                rw [HM.out, if_neg (fun h => hcont (by have := h k (by omega); rw [HB.out] at this; exact this))]; rfl
              rcases (show s[k + 1].toNat < 128 ∨ (128 ≤ s[k + 1].toNat ∧ 192 ≤ s[k + 1].toNat) by omega) with h3 | h3
              all_goals
                go_wp2_with fail
                go_ret
                exact ⟨ret1 (congrArg (fun n : Nat => Value.int .i64 (n : Int)) hR.out.symm), rfl⟩
          · have hk1 : k = 3 - 1 := by omega
            subst hk1
            have hR := HM.out
            rw [if_pos HC.out, ← HV.out] at hR
            have HR := Lib.hid hR
            clear hR
            rcases (show v < 2048 ∨ (2048 ≤ v ∧ 1114111 < v) ∨ (2048 ≤ v ∧ v ≤ 1114111 ∧ 55296 ≤ v ∧ v < 57344) ∨ (2048 ≤ v ∧ v ≤ 1114111 ∧ v < 55296) ∨ (2048 ≤ v ∧ v ≤ 1114111 ∧ 57344 ≤ v) by omega) with h3 | h3 | h3 | h3 | h3
            all_goals
              have hR := HR.out
              first
                | rw [if_pos (by unfold outN; omega)] at hR
                | rw [if_neg (by unfold outN; omega)] at hR
              have HR2 := Lib.hid hR
              clear hR
              go_wp2_with fail
              go_ret
              exact ⟨ret1 (congrArg (fun n : Nat => Value.int .i64 (n : Int)) HR2.out.symm), rfl⟩
    · rw [if_neg (by omega), if_neg (by omega), if_neg (by omega), if_pos h1]
      obtain ⟨n0, hn0, hnl⟩ : ∃ n0 : Nat, (s[0].toNat : Int) - 240 = (n0 : Int) ∧ n0 < 32 := ⟨s[0].toNat - 240, by omega, by omega⟩
      rw [show s[0].toNat - 240 = n0 by omega]
      by_cases hl : s.size < 4
      · have hm : mulR s.data.toList 4 n0 65536 = 0 := by unfold mulR; rw [if_pos (by omega)]
        rw [hm]
        clear hm
        go_enter Tryz.func152, Tryz.ntmps152
        go_wp2_with fail
        go_ret
        exact ⟨rfl, rfl⟩
      · have HM : Hid (mulR s.data.toList 4 n0 65536 = if conts s.data.toList (4 - 1) then (if outN 65536 (accN s.data.toList n0 (4 - 1)) then 0 else 4) else 0) := by unfold mulR; rw [if_neg (by omega)]; rfl
        generalize mulR s.data.toList 4 n0 65536 = R at *
        go_enter Tryz.func152, Tryz.ntmps152
        go_wp2_with fail
        rw [show decide ((s[0].toNat : Int) < 248) = true from decide_eq_true (by omega)]
        go_loopw [5, 7] (fun n c wr => ∃ k v : Nat, k + 1 ≤ 4 ∧ c = .int .i64 ((k + 1 : Nat) : Int) ∧ n = .int .i64 v ∧ v = accN s.data.toList n0 k ∧ v + 1 ≤ 32 * 64 ^ k ∧ conts s.data.toList k ∧ wr = w) (fun _ c _ => 4 - (intOf c).toNat)
        case atStart => exact ⟨0, n0, by omega, rfl, rfl, rfl, by omega, fun i hi => by omega, rfl⟩
        case round =>
          obtain ⟨k, v, hk, rfl, rfl, hv, hvl, hct, rfl⟩ := hrel
          have HV := Lib.hid hv
          have HC := Lib.hid hct
          have hpw : 64 ^ k ≤ 64 ^ 3 := Nat.pow_le_pow_right (by omega) (by omega)
          have hvs : v < 8388608 := by omega
          have HVL := Lib.hid hvl
          clear hv hct hpw hvl
          by_cases hlt : k + 1 < 4
          · have h2 : k + 1 < s.size := by omega
            have hbd := byt_at s (k + 1) h2
            have hd := s[k + 1].toNat_lt
            have HB := Lib.hid hbd
            clear hbd
            by_cases hcont : 128 ≤ s[k + 1].toNat ∧ s[k + 1].toNat < 192
            · obtain ⟨v', hv'⟩ : ∃ v' : Nat, 64 * (v : Int) + (s[k + 1].toNat : Int) - 128 = (v' : Int) := ⟨64 * v + (s[k + 1].toNat - 128), by omega⟩
              have HA : Hid (v' = accN s.data.toList n0 (k + 1)) := by
                show v' = 64 * accN s.data.toList n0 k + (byt s.data.toList (k + 1) - 128)
                rw [HB.out, ← HV.out]; omega
              have HL : Hid (v' + 1 ≤ 32 * 64 ^ (k + 1)) := by have := HVL.out; rw [Nat.pow_succ]; show v' + 1 ≤ 32 * (64 ^ k * 64); omega
              have HC2 := Lib.hid (conts_step _ k HC.out (by rw [HB.out]; exact hcont))
              go_wp2_with fail
              go_roundw
              case rel => exact ⟨k + 1, v', by omega, by go_num, rfl, HA.out, HL.out, HC2.out, by first | rfl | trivial⟩
              case measure => simp [intOf]; omega
            · have hR : Hid (R = 0) := by
                rw [HM.out, if_neg (fun h => hcont (by have := h k (by omega); rw [HB.out] at this; exact this))]; rfl
              rcases (show s[k + 1].toNat < 128 ∨ (128 ≤ s[k + 1].toNat ∧ 192 ≤ s[k + 1].toNat) by omega) with h3 | h3
              all_goals
                go_wp2_with fail
                go_ret
                exact ⟨ret1 (congrArg (fun n : Nat => Value.int .i64 (n : Int)) hR.out.symm), rfl⟩
          · have hk1 : k = 4 - 1 := by omega
            subst hk1
            have hR := HM.out
            rw [if_pos HC.out, ← HV.out] at hR
            have HR := Lib.hid hR
            clear hR
            rcases (show v < 65536 ∨ (65536 ≤ v ∧ 1114111 < v) ∨ (65536 ≤ v ∧ v ≤ 1114111 ∧ 55296 ≤ v ∧ v < 57344) ∨ (65536 ≤ v ∧ v ≤ 1114111 ∧ v < 55296) ∨ (65536 ≤ v ∧ v ≤ 1114111 ∧ 57344 ≤ v) by omega) with h3 | h3 | h3 | h3 | h3
            all_goals try (exfalso; omega)
            all_goals
              have hR := HR.out
              first
                | rw [if_pos (by unfold outN; omega)] at hR
                | rw [if_neg (by unfold outN; omega)] at hR
              have HR2 := Lib.hid hR
              clear hR
              go_wp2_with fail
              go_ret
              exact ⟨ret1 (congrArg (fun n : Nat => Value.int .i64 (n : Int)) HR2.out.symm), rfl⟩

end Go.Proofs.YtbebdaglkjhbjaaGreatDoor.um

/-
  The document's UTF-8: Good, Check, Count, Trim.
-/
namespace Go.Proofs.YtbebdaglkjhbjaaGreatDoor.um
open Go.RowKit Go.Proofs.YtbebdaglkjhbjaaGreatDoor.cur Go.Proofs.YtbebdaglkjhbjaaGreatDoor.vi
set_option linter.unusedVariables false
set_option linter.unusedSimpArgs false

set_option maxHeartbeats 2000000 in
set_option maxRecDepth 100000 in
theorem rgood_any (s : ByteArray) (hs : s.size ≤ 1000000) (w : World) :
    Calls Tryz.prog 143 #[.string s] w fun e w' => e = .returned (.bool (goodR s.data.toList)) ∧ w = w' := by
  have Hlen := Lib.hid (show s.data.toList.length = s.size by simp)
  go_enter Tryz.func143, Tryz.ntmps143
  go_wp2_with fail
  go_loopw [0] (fun t wr => ∃ k : Nat, k ≤ s.size ∧ t = .string (s.extract k s.size) ∧ goodR s.data.toList = goodR (s.data.toList.drop k) ∧ w = wr) (fun t _ => strLen t)
  case atStart => exact ⟨0, Nat.zero_le _, congrArg Value.string (extract_all s).symm, rfl, rfl⟩
  case round =>
    obtain ⟨k, hk, rfl, hall, rfl⟩ := hrel
    have Hall := Lib.hid hall
    clear hall
    have hes : (s.extract k s.size).size = s.size - k := by simp
    have hx := rfirst_any (s.extract k s.size) (by omega) w
    rw [bytes_drop] at hx
    have hm0 := fun m h => extract_drop s k m hk h
    by_cases hnil : s.data.toList.drop k = []
    · have hz : (s.extract k s.size).size = 0 := by rw [hes, ← Hlen.out]; have := congrArg List.length hnil; simpa using this
      have Hh := Lib.hid (Hall.out.trans (by rw [hnil, goodR_nil]))
      clear hx hm0
      go_wp2_with fail
      go_ret
      exact ⟨ret1 (congrArg Value.bool Hh.out.symm), rfl⟩
    · have hz : 0 < (s.extract k s.size).size := by
        rw [hes]
        have h1 : 0 < (s.data.toList.drop k).length := List.length_pos_iff.2 hnil
        rw [List.length_drop, Hlen.out] at h1
        exact h1
      have Hstep := Lib.hid (@goodR_step (s.data.toList.drop k) hnil)
      have Hbad := Lib.hid (@goodR_bad (s.data.toList.drop k) hnil)
      have Hf := Lib.hid (firstR_facts (s.data.toList.drop k))
      rw [List.drop_drop] at Hstep
      have hdl : (s.data.toList.drop k).length = s.size - k := by simp
      rw [hdl] at Hf
      clear hdl
      generalize firstR (s.data.toList.drop k) = m at *
      have Hes := Lib.hid hes
      clear hes
      generalize hT : s.extract k s.size = T at *
      have HT := Lib.hid hT
      clear hT
      by_cases h0 : m = 0
      · subst h0
        have Hh := Lib.hid (Hall.out.trans (Hbad.out rfl))
        clear hm0
        go_wp2_with fail
        refine hx.mono ?_
        rintro e w1 ⟨rfl, rfl⟩
        go_wp2_with fail
        go_ret
        exact ⟨ret1 (congrArg Value.bool Hh.out.symm), rfl⟩
      · obtain ⟨hle, hle4, -, -⟩ := Hf.out h0
        have Hh := Lib.hid (Hall.out.trans (Hstep.out h0))
        have Hm := Lib.hid (hm0 m hle)
        clear hm0
        have hTm : m ≤ T.size := by rw [Hes.out]; exact hle
        have hne : ((m : Int) == 0) = false := by simp; omega
        go_wp2_with fail
        refine hx.mono ?_
        rintro e w1 ⟨rfl, rfl⟩
        go_wp2_with fail
        go_roundw
        case rel => exact ⟨k + m, by omega, congrArg Value.string Hm.out, Hh.out, by first | rfl | trivial⟩
        case measure =>
          simp [strLen]
          omega

def checkN (s : ByteArray) (least most : Int) : Nat :=
  if (s.size : Int) < least ∨ most < (s.size : Int) then 13 else if goodR s.data.toList = true then 0 else 11

theorem rcheck_any (s : ByteArray) (hs : s.size ≤ 1000000) (least most : Int) (w : World) :
    Calls Tryz.prog 130 #[.string s, .int .i64 least, .int .i64 most] w fun e w' => e = .returned (.int .i64 (checkN s least most : Nat)) ∧ w = w' := by
  have hx := rgood_any s hs w
  by_cases h1 : (s.size : Int) < least
  · have HC := Lib.hid (show checkN s least most = 13 from if_pos (.inl h1))
    go_enter Tryz.func130, Tryz.ntmps130
    go_wp2_with fail
    go_ret
    exact ⟨ret1 (congrArg (fun n : Nat => Value.int .i64 (n : Int)) HC.out.symm), rfl⟩
  · by_cases h2 : most < (s.size : Int)
    · have HC := Lib.hid (show checkN s least most = 13 from if_pos (.inr h2))
      go_enter Tryz.func130, Tryz.ntmps130
      go_wp2_with fail
      go_ret
      exact ⟨ret1 (congrArg (fun n : Nat => Value.int .i64 (n : Int)) HC.out.symm), rfl⟩
    · have HC := Lib.hid (show checkN s least most = if goodR s.data.toList = true then 0 else 11 from if_neg (by omega))
      rcases Bool.eq_false_or_eq_true (goodR s.data.toList) with hg | hg
      · rw [hg] at hx HC
        clear hg
        go_enter Tryz.func130, Tryz.ntmps130
        go_wp2_with fail
        refine hx.mono ?_
        rintro e w1 ⟨rfl, rfl⟩
        go_wp2_with fail
        go_ret
        exact ⟨ret1 (congrArg (fun n : Nat => Value.int .i64 (n : Int)) HC.out.symm), rfl⟩
      · rw [hg] at hx HC
        clear hg
        go_enter Tryz.func130, Tryz.ntmps130
        go_wp2_with fail
        refine hx.mono ?_
        rintro e w1 ⟨rfl, rfl⟩
        go_wp2_with fail
        go_ret
        exact ⟨ret1 (congrArg (fun n : Nat => Value.int .i64 (n : Int)) HC.out.symm), rfl⟩

end Go.Proofs.YtbebdaglkjhbjaaGreatDoor.um

/-
  Layer 7's plain mathematics held against the library's own decoder, which is the model's: good, and how many code points.
-/
namespace Go.Proofs.YtbebdaglkjhbjaaGreatDoor.um
open Go.Lib
set_option linter.unusedVariables false
set_option linter.unusedSimpArgs false

theorem conts_one (L : List UInt8) : conts L 1 ↔ (128 ≤ byt L 1 ∧ byt L 1 < 192) :=
  ⟨fun h => h 0 (by omega), fun h i hi => by obtain rfl : i = 0 := by omega
                                             exact h⟩
theorem conts_two (L : List UInt8) : conts L 2 ↔ ((128 ≤ byt L 1 ∧ byt L 1 < 192) ∧ (128 ≤ byt L 2 ∧ byt L 2 < 192)) :=
  ⟨fun h => ⟨h 0 (by omega), h 1 (by omega)⟩, fun h i hi => by
    rcases (show i = 0 ∨ i = 1 by omega) with rfl | rfl
    · exact h.1
    · exact h.2⟩
theorem conts_three (L : List UInt8) : conts L 3 ↔ ((128 ≤ byt L 1 ∧ byt L 1 < 192) ∧ (128 ≤ byt L 2 ∧ byt L 2 < 192) ∧ (128 ≤ byt L 3 ∧ byt L 3 < 192)) :=
  ⟨fun h => ⟨h 0 (by omega), h 1 (by omega), h 2 (by omega)⟩, fun h i hi => by
    rcases (show i = 0 ∨ i = 1 ∨ i = 2 by omega) with rfl | rfl | rfl
    · exact h.1
    · exact h.2.1
    · exact h.2.2⟩

/-- What the decoder says of a step, as layer 7 has it. -/
def stepN (d : Nat × Nat) : Nat := if d.1 = 65533 ∧ d.2 = 1 then 0 else d.2

theorem accN1 (L : List UInt8) (n : Nat) : accN L n 1 = 64 * n + (byt L 1 - 128) := rfl
theorem accN2 (L : List UInt8) (n : Nat) : accN L n 2 = 64 * (64 * n + (byt L 1 - 128)) + (byt L 2 - 128) := rfl
theorem accN3 (L : List UInt8) (n : Nat) : accN L n 3 = 64 * (64 * (64 * n + (byt L 1 - 128)) + (byt L 2 - 128)) + (byt L 3 - 128) := rfl

theorem firstR_dec (L : List UInt8) (hL : L ≠ []) : firstR L = stepN (decodeL L) := by
  have hn : 1 ≤ L.length := List.length_pos_iff.2 hL
  have b0 : byt L 0 < 256 := UInt8.toNat_lt _
  have b1 : byt L 1 < 256 := UInt8.toNat_lt _
  have b2 : byt L 2 < 256 := UInt8.toNat_lt _
  have b3 : byt L 3 < 256 := UInt8.toNat_lt _
  rw [decodeL_N]
  show firstR L = stepN (decodeN L.length (byt L 0) (byt L 1) (byt L 2) (byt L 3))
  unfold firstR mulR stepN decodeN outN
  rw [if_neg (show ¬ L.length = 0 by omega)]
  simp only [show (2 - 1 : Nat) = 1 from rfl, show (3 - 1 : Nat) = 2 from rfl, show (4 - 1 : Nat) = 3 from rfl, conts_one, conts_two, conts_three, accN1, accN2, accN3]
  generalize L.length = n at *
  generalize byt L 0 = x at *
  generalize byt L 1 = y at *
  generalize byt L 2 = z at *
  generalize byt L 3 = u at *
  by_cases h0 : x < 128
  · rw [if_pos h0, if_pos h0]; simp <;> omega
  rw [if_neg h0, if_neg h0]
  by_cases h1 : 192 ≤ x ∧ x < 224
  · rw [if_pos h1]
    by_cases c : 1 < n ∧ y / 64 = 2
    · rw [if_pos (show x / 32 = 6 ∧ (1 < n ∧ y / 64 = 2) from ⟨by omega, c⟩), if_neg (show ¬ n < 2 by omega), if_pos (show 128 ≤ y ∧ y < 192 by omega)]
      repeat' split
      all_goals first | rfl | omega | (exfalso; simp at * <;> omega) | (simp at * <;> omega)
    · rw [if_neg (show ¬ (x / 32 = 6 ∧ (1 < n ∧ y / 64 = 2)) by omega), if_neg (show ¬ (x / 16 = 14 ∧ (1 < n ∧ y / 64 = 2) ∧ (2 < n ∧ z / 64 = 2)) by omega), if_neg (show ¬ (x / 8 = 30 ∧ (1 < n ∧ y / 64 = 2) ∧ (2 < n ∧ z / 64 = 2) ∧ (3 < n ∧ u / 64 = 2)) by omega)]
      repeat' split
      all_goals first | rfl | omega | (exfalso; simp at * <;> omega) | (simp at * <;> omega)
  rw [if_neg h1, if_neg (show ¬ (x / 32 = 6 ∧ (1 < n ∧ y / 64 = 2)) by omega)]
  by_cases h2 : 224 ≤ x ∧ x < 240
  · rw [if_pos h2]
    by_cases c : (1 < n ∧ y / 64 = 2) ∧ (2 < n ∧ z / 64 = 2)
    · rw [if_pos (show x / 16 = 14 ∧ (1 < n ∧ y / 64 = 2) ∧ (2 < n ∧ z / 64 = 2) from ⟨by omega, c⟩), if_neg (show ¬ n < 3 by omega), if_pos (show (128 ≤ y ∧ y < 192) ∧ (128 ≤ z ∧ z < 192) by omega)]
      have e : 64 * (64 * (x - 224) + (y - 128)) + (z - 128) = x % 16 * 4096 + y % 64 * 64 + z % 64 := by omega
      rw [e]
      generalize x % 16 * 4096 + y % 64 * 64 + z % 64 = v
      repeat' split
      all_goals first | rfl | omega | (exfalso; simp at * <;> omega) | (simp at * <;> omega)
    · rw [if_neg (show ¬ (x / 16 = 14 ∧ (1 < n ∧ y / 64 = 2) ∧ (2 < n ∧ z / 64 = 2)) from fun h => c h.2), if_neg (show ¬ (x / 8 = 30 ∧ (1 < n ∧ y / 64 = 2) ∧ (2 < n ∧ z / 64 = 2) ∧ (3 < n ∧ u / 64 = 2)) by omega)]
      repeat' split
      all_goals first | rfl | omega | (exfalso; simp at * <;> omega) | (simp at * <;> omega)
  rw [if_neg h2, if_neg (show ¬ (x / 16 = 14 ∧ (1 < n ∧ y / 64 = 2) ∧ (2 < n ∧ z / 64 = 2)) by omega)]
  by_cases h3 : 240 ≤ x ∧ x < 248
  · rw [if_pos h3]
    by_cases c : (1 < n ∧ y / 64 = 2) ∧ (2 < n ∧ z / 64 = 2) ∧ (3 < n ∧ u / 64 = 2)
    · rw [if_pos (show x / 8 = 30 ∧ (1 < n ∧ y / 64 = 2) ∧ (2 < n ∧ z / 64 = 2) ∧ (3 < n ∧ u / 64 = 2) from ⟨by omega, c⟩), if_neg (show ¬ n < 4 by omega), if_pos (show (128 ≤ y ∧ y < 192) ∧ (128 ≤ z ∧ z < 192) ∧ (128 ≤ u ∧ u < 192) by omega)]
      have e : 64 * (64 * (64 * (x - 240) + (y - 128)) + (z - 128)) + (u - 128) = x % 8 * 262144 + y % 64 * 4096 + z % 64 * 64 + u % 64 := by omega
      rw [e]
      generalize x % 8 * 262144 + y % 64 * 4096 + z % 64 * 64 + u % 64 = v
      repeat' split
      all_goals first | rfl | omega | (exfalso; simp at * <;> omega) | (simp at * <;> omega)
    · rw [if_neg (show ¬ (x / 8 = 30 ∧ (1 < n ∧ y / 64 = 2) ∧ (2 < n ∧ z / 64 = 2) ∧ (3 < n ∧ u / 64 = 2)) from fun h => c h.2)]
      repeat' split
      all_goals first | rfl | omega | (exfalso; simp at * <;> omega) | (simp at * <;> omega)
  rw [if_neg h3, if_neg (show ¬ (x / 8 = 30 ∧ (1 < n ∧ y / 64 = 2) ∧ (2 < n ∧ z / 64 = 2) ∧ (3 < n ∧ u / 64 = 2)) by omega)]
  simp

/-- Good is what the library's ValidString says. -/
theorem validGo_good : ∀ (n : Nat) (L : List UInt8), L.length ≤ n → validGoD n L = goodR L := by
  intro n
  induction n with
  | zero =>
    intro L h
    obtain rfl : L = [] := List.length_eq_zero_iff.1 (by omega)
    rw [goodR_nil]; rfl
  | succ n ih =>
    intro L h
    unfold validGoD
    by_cases hL : L = []
    · rw [if_pos hL, hL, goodR_nil]
    · rw [if_neg hL]
      have hd := firstR_dec L hL
      have hw := decodeL_width L
      have hn : 1 ≤ L.length := List.length_pos_iff.2 hL
      unfold stepN at hd
      by_cases hb : (decodeL L).1 = 65533 ∧ (decodeL L).2 = 1
      · rw [if_pos hb] at hd
        rw [if_pos hb, goodR_bad hL hd]
      · rw [if_neg hb] at hd
        rw [if_neg hb, goodR_step hL (by omega), hd]
        exact ih _ (by rw [List.length_drop]; omega)

theorem valid_good (L : List UInt8) : validD L = goodR L := validGo_good _ L (Nat.le_refl _)

/-- How many code points is what the library's RuneCountInString says. -/
theorem runes_count (s : ByteArray) : ∀ (n pos : Nat), s.size - pos ≤ n → runeCountFrom s n pos = countR (s.data.toList.drop pos) := by
  intro n
  induction n with
  | zero =>
    intro pos h
    rw [show s.data.toList.drop pos = [] from List.drop_eq_nil_of_le (by simpa using (show s.size ≤ pos by omega)), countR_nil]
    rfl
  | succ n ih =>
    intro pos h
    unfold runeCountFrom
    by_cases hp : pos < s.size
    · have hlen : (s.data.toList.drop pos).length = s.size - pos := by rw [List.length_drop]; rfl
      have hL : s.data.toList.drop pos ≠ [] := by
        intro h0; rw [h0] at hlen; simp at hlen; omega
      rw [if_pos hp, countR_step hL, ← decodeL_drop]
      have hd := firstR_dec _ hL
      have hw := decodeL_width (s.data.toList.drop pos)
      have hm : max 1 (firstR (s.data.toList.drop pos)) = (decodeL (s.data.toList.drop pos)).2 := by
        unfold stepN at hd
        split at hd <;> omega
      rw [hm, List.drop_drop, ih _ (by omega)]
    · rw [if_neg hp, show s.data.toList.drop pos = [] from List.drop_eq_nil_of_le (by simpa using (show s.size ≤ pos by omega)), countR_nil]

theorem count_runes (s : ByteArray) : runeCount s = countR s.data.toList := by
  have := runes_count s s.size 0 (by omega)
  simpa [runeCount] using this

end Go.Proofs.YtbebdaglkjhbjaaGreatDoor.um

/-
  Trim from behind: of a good text the cut lies where, going back, the first byte stands that is no further byte of a code point.
-/
namespace Go.Proofs.YtbebdaglkjhbjaaGreatDoor.um
set_option linter.unusedVariables false
set_option linter.unusedSimpArgs false

/-- Back from a place to one with a byte that a code point may begin with. -/
def backN (L : List UInt8) : Nat → Nat
  | 0 => 0
  | n + 1 => if 128 ≤ byt L (n + 1) ∧ byt L (n + 1) < 192 then backN L n else n + 1

theorem backN_le (L : List UInt8) : ∀ n, backN L n ≤ n
  | 0 => Nat.le_refl _
  | n + 1 => by
    unfold backN
    have := backN_le L n
    split <;> omega

theorem backN_in (L : List UInt8) (k : Nat) (hc : conts L k) : ∀ n, n ≤ k → backN L n = 0
  | 0, _ => rfl
  | n + 1, h => by
    unfold backN
    rw [if_pos (hc n (by omega))]
    exact backN_in L k hc n (by omega)

theorem byt_drop (L : List UInt8) (f i : Nat) : byt (L.drop f) i = byt L (f + i) := by
  unfold byt
  rw [List.getD_eq_getElem?_getD, List.getD_eq_getElem?_getD, List.getElem?_drop]

theorem backN_drop (L : List UInt8) (f : Nat) (hf : 0 < f) (h0 : ¬ (128 ≤ byt L f ∧ byt L f < 192)) : ∀ n, backN L (f + n) = f + backN (L.drop f) n
  | 0 => by
    obtain ⟨g, rfl⟩ : ∃ g, f = g + 1 := ⟨f - 1, by omega⟩
    show backN L (g + 1) = _
    unfold backN
    rw [if_neg h0]
  | n + 1 => by
    have ih := backN_drop L f hf h0 n
    show backN L ((f + n) + 1) = f + backN (L.drop f) (n + 1)
    unfold backN
    rw [byt_drop, show f + (n + 1) = f + n + 1 by omega]
    split
    · exact ih
    · omega

theorem trimN_over : ∀ (m : Nat) (L : List UInt8) (most : Int), L.length ≤ m → goodR L = true → (L.length : Int) ≤ most → trimN L most = L.length := by
  intro m
  induction m with
  | zero =>
    intro L most h hg hm
    obtain rfl : L = [] := List.length_eq_zero_iff.1 (by omega)
    rw [trimN, dif_pos rfl]; rfl
  | succ m ih =>
    intro L most h hg hm
    by_cases hL : L = []
    · subst hL; rw [trimN, dif_pos rfl]; rfl
    · have hp := first_pos hL hg
      have hf := firstR_facts L hp
      rw [trimN, dif_neg hL, dif_pos ⟨by omega, hp⟩, ih _ _ (by rw [List.length_drop]; omega) (by rw [← goodR_step hL hp]; exact hg) (by rw [List.length_drop]; omega), List.length_drop]
      omega

theorem trimN_neg (L : List UInt8) (most : Int) (hm : most ≤ 0) : trimN L most = 0 := by
  rw [trimN]
  split
  · rfl
  · rw [dif_neg (by omega)]

theorem trimN_back : ∀ (m : Nat) (L : List UInt8) (n : Nat), L.length ≤ m → goodR L = true → n < L.length → trimN L n = backN L n := by
  intro m
  induction m with
  | zero => intro L n h hg hn; omega
  | succ m ih =>
    intro L n h hg hn
    have hL : L ≠ [] := by rintro rfl; simp at hn
    have hp := first_pos hL hg
    obtain ⟨hl, -, hc, -⟩ := firstR_facts L hp
    rw [trimN, dif_neg hL]
    by_cases hfn : firstR L ≤ n
    · rw [dif_pos ⟨by omega, hp⟩]
      have hg' : goodR (L.drop (firstR L)) = true := by rw [← goodR_step hL hp]; exact hg
      have hL' : L.drop (firstR L) ≠ [] := by
        intro h0
        have := congrArg List.length h0
        rw [List.length_drop] at this
        simp at this; omega
      have hp' := first_pos hL' hg'
      have hb := (firstR_facts _ hp').2.2.2
      rw [byt_drop, Nat.add_zero] at hb
      have e := backN_drop L (firstR L) (by omega) (by omega) (n - firstR L)
      rw [show firstR L + (n - firstR L) = n by omega] at e
      rw [e, show ((n : Int) - (firstR L : Int)) = ((n - firstR L : Nat) : Int) by omega, ih _ _ (by rw [List.length_drop]; omega) hg' (by rw [List.length_drop]; omega)]
    · rw [dif_neg (by omega), backN_in L (firstR L - 1) hc n (by omega)]

end Go.Proofs.YtbebdaglkjhbjaaGreatDoor.um

/-
  The library's unicode/utf8, where the program leans on it: the two tables in memory, ValidString. (Tables: unicode/utf8.first, acceptRanges. YtbebdaglkjhbjaaGreatDoorUlay: by ulay.sh.)
-/
namespace Go.Proofs.YtbebdaglkjhbjaaGreatDoor.tb
open Go.Lib Go.Shelf
set_option linter.unusedVariables false

/-- The two tables lie in memory. -/
def Tab (w : World) : Prop := Utf8Tabs (Tryz.laysValid_ren.g 3) (Tryz.laysValid_ren.g 4) w

theorem kept {w w' : World} (h : Tab w) (g : w.grownBy w' none) : Tab w' := Utf8Tabs_below h (below_of_none g)

theorem valid (s : ByteArray) (w : World) (hs : s.size ≤ 9223372036854775807) (hT : Tab w) :
    Calls Tryz.prog 144 #[.string s] w fun e w' => e = .returned (.bool (um.goodR s.data.toList)) ∧ w.grownBy w' none := by
  have c : Calls Tryz.prog 144 #[.string s] w _ := Any.utf8_ValidString Tryz.laysValid s w hs hT
  rw [um.valid_good] at c
  exact c.mono fun e w' ⟨he, hb⟩ => ⟨he, only_of_below hb none⟩

theorem first_same : Go.Pinned.utf8First = firstData := by kernel_rfl
theorem of_laid {w : World} {l : List (String × DataW Unit)} (h : laidMetH Tryz.prog l w)
    (h0 : (l.all fun x => x.2.handleName?.isNone) = true := by kernel_rfl)
    (h1 : ("unicode/utf8.first", Go.Pinned.utf8First) ∈ l := by first | exact .head _ | exact .tail _ (.head _) | exact .tail _ (.tail _ (.head _)))
    (h2 : ("unicode/utf8.acceptRanges", acceptData) ∈ l := by first | exact .head _ | exact .tail _ (.head _) | exact .tail _ (.tail _ (.head _))) : Tab w := by
  rw [MakeChecks.laidMetH_plain _ _ _ h0] at h
  have r1 := Lib.laidMet.reads h h1
  have r2 := Lib.laidMet.reads h h2
  rw [first_same] at r1
  exact utf8Tabs_of_readsT (U8Types.of196 Tryz.laysValid) ⟨by kernel_rfl, by kernel_rfl, by kernel_rfl, by kernel_rfl, by kernel_rfl, by kernel_rfl, by kernel_rfl⟩ r1 r2

end Go.Proofs.YtbebdaglkjhbjaaGreatDoor.tb

/-
  The statements of layer 7, for whatever keeps the contracts of texts.
-/
namespace Go.Proofs.YtbebdaglkjhbjaaGreatDoor.law07
open Go.RowKit Go.Proofs.YtbebdaglkjhbjaaGreatDoor.um
set_option linter.unusedVariables false
set_option linter.unusedSimpArgs false

/-- What layer 7's awake asks of package utf (Tab: what must lie in memory from the start on). -/
structure UCore where
  Tab : World → Prop
  kept : ∀ {w w' : World}, Tab w → w.grownBy w' none → Tab w'
  awake6 : ∀ w : World, Calls Tryz.prog 217 #[] w fun e w' => e = .returned (.bool true) ∧ w.grownBy w' none
  good : ∀ (s : ByteArray) (w : World), s.size ≤ 10000 → Tab w → Calls Tryz.prog 132 #[.string s] w fun e w' => e = .returned (.bool (goodR s.data.toList)) ∧ w.grownBy w' none

theorem bad_c080 : goodR (⟨#[192, 128]⟩ : ByteArray).data.toList = false := goodR_bad (by simp) (by decide)
theorem good_a0e : goodR (⟨#[97, 0, 195, 169]⟩ : ByteArray).data.toList = true := by
  rw [goodR_step (by simp) (by decide)]
  show goodR [0, 195, 169] = true
  rw [goodR_step (by simp) (by decide)]
  show goodR [195, 169] = true
  rw [goodR_step (by simp) (by decide)]
  show goodR [] = true
  exact goodR_nil

theorem awake_any (I : UCore) (w : World) (hT : I.Tab w) :
    Calls Tryz.prog 216 #[] w fun e w' => e = .returned (.bool true) ∧ w.grownBy w' none := by
  have HA := Lib.hid (I.awake6 w)
  have HT := Lib.hid (fun w' (g : w.grownBy w' none) => I.kept hT g)
  have HG1 := Lib.hid (fun w' h => I.good ⟨#[192, 128]⟩ w' (by decide) h)
  have HG2 := Lib.hid (fun w' h => I.good ⟨#[97, 0, 195, 169]⟩ w' (by decide) h)
  rw [bad_c080] at HG1
  rw [good_a0e] at HG2
  go_enter Tryz.func216, Tryz.ntmps216
  go_wp2_with fail
  refine HA.out.mono ?_
  rintro e w1 ⟨rfl, g1⟩
  have G1 := Lib.hid g1
  clear g1
  go_wp2_with fail
  refine (HG1.out _ (HT.out _ G1.out)).mono ?_
  rintro e w2 ⟨rfl, g2⟩
  have G2 := Lib.hid (only_trans G1.out g2)
  clear g2
  go_wp2_with fail
  refine (HG2.out _ (HT.out _ G2.out)).mono ?_
  rintro e w3 ⟨rfl, g3⟩
  go_wp2_with fail
  go_ret
  exact ⟨rfl, only_trans G2.out g3⟩

theorem Awake_any (I : UCore) (w : World) (hT : I.Tab w) :
    Calls Tryz.prog 214 #[] w fun e w' => e = .returned (.bool true) ∧ w.grownBy w' none := by
  go_enter Tryz.func214, Tryz.ntmps214
  go_wp2_with (go_at_call 216; refine (awake_any I _ hT).mono ?_; rintro e w' ⟨rfl, g⟩)
  go_ret
  exact ⟨rfl, g⟩

theorem prefix_of (s : ByteArray) (k : Nat) : Lib.hasPrefix s.data.toList (s.extract 0 k).data.toList = true := by
  have : (s.extract 0 k).data.toList = s.data.toList.take k := by simp
  rw [this]
  unfold Lib.hasPrefix
  exact List.isPrefixOf_iff_prefix.2 (List.take_prefix k _)

end Go.Proofs.YtbebdaglkjhbjaaGreatDoor.law07

/-
  The calls of package utf: Good, Check, Count, Trim. (Written for a program whose Good is utf8.ValidString, Count utf8.RuneCountInString, and whose Trim goes back byte by byte.)
-/
namespace Go.Proofs.YtbebdaglkjhbjaaGreatDoor.uu
open Go.RowKit Go.Proofs.YtbebdaglkjhbjaaGreatDoor.um
set_option linter.unusedVariables false
set_option linter.unusedSimpArgs false

theorem good_any (s : ByteArray) (w : World) (hs : s.size ≤ maxLen) (hT : tb.Tab w) :
    Calls Tryz.prog 132 #[.string s] w fun e w' => e = .returned (.bool (goodR s.data.toList)) ∧ w.grownBy w' none := by
  have HV := tb.valid s w (by unfold maxLen at hs; omega) hT
  generalize goodR s.data.toList = G at *
  go_enter Tryz.func132, Tryz.ntmps132
  go_wp2_with (go_at_call 144; refine HV.mono ?_; rintro e w' ⟨rfl, g⟩)
  go_ret
  exact ⟨rfl, g⟩

theorem check_any (s : ByteArray) (least most : Int) (w : World) (hs : s.size ≤ maxLen) (hT : tb.Tab w) :
    Calls Tryz.prog 125 #[.string s, .int .i64 least, .int .i64 most] w fun e w' => e = .returned (.int .i64 (checkN s least most : Nat)) ∧ w.grownBy w' none := by
  unfold checkN
  have HG := Lib.hid (good_any s w hs hT)
  unfold maxLen at hs
  by_cases hb : (s.size : Int) < least ∨ most < (s.size : Int)
  · rw [if_pos hb]
    clear HG
    go_enter Tryz.func125, Tryz.ntmps125
    rcases (show (s.size : Int) < least ∨ (¬ (s.size : Int) < least ∧ most < (s.size : Int)) by omega) with h | ⟨h, h'⟩ <;> clear hb
    all_goals
      go_wp2
      go_ret
      exact ⟨rfl, only_refl _ _⟩
  · rw [if_neg hb]
    have h1 : ¬ (s.size : Int) < least := by omega
    have h2 : ¬ most < (s.size : Int) := by omega
    clear hb
    cases hG : goodR s.data.toList <;> rw [hG] at HG <;> clear hG
    all_goals
      go_enter Tryz.func125, Tryz.ntmps125
      go_wp2_with (go_at_call 132; refine HG.out.mono ?_; rintro e w' ⟨rfl, g⟩)
      go_ret
      exact ⟨rfl, g⟩

theorem backN_stop (L : List UInt8) (k : Nat) (h : k = 0 ∨ ¬ (128 ≤ byt L k ∧ byt L k < 192)) : backN L k = k := by
  cases k with
  | zero => rfl
  | succ k =>
    rcases h with h | h
    · omega
    · unfold backN; rw [if_neg h]

theorem backN_go (L : List UInt8) (k : Nat) (h : 128 ≤ byt L (k + 1) ∧ byt L (k + 1) < 192) : backN L (k + 1) = backN L k := by
  rw [backN, if_pos h]

theorem start_of (s : ByteArray) (k : Nat) (hk : k < s.size) : Lib.runeStart ((((s[k]'hk)).toNat : Nat) : Int) = !decide (128 ≤ byt s.data.toList k ∧ byt s.data.toList k < 192) := by
  have e : byt s.data.toList k = ((s[k]'hk)).toNat := by
    unfold byt
    rw [List.getD_eq_getElem?_getD, Array.getElem?_toList]
    have hk' : k < s.data.size := hk
    rw [Array.getElem?_eq_getElem hk']
    rfl
  rw [e]
  unfold Lib.runeStart
  generalize ((s[k]'hk)).toNat = x
  by_cases h : 128 ≤ x ∧ x < 192
  · rw [decide_eq_true h]; have : (x : Int) / 64 = 2 := by omega
    simp [this]
  · rw [decide_eq_false h]; have : ¬ (x : Int) / 64 = 2 := by omega
    simp [this]

end Go.Proofs.YtbebdaglkjhbjaaGreatDoor.uu

/-
  Package utf keeps its contracts (XUcalls), and layer 6's laws are awake.
-/
namespace Go.Proofs.YtbebdaglkjhbjaaGreatDoor.uu
open Go.RowKit Go.Proofs.YtbebdaglkjhbjaaGreatDoor.um
set_option linter.unusedVariables false

theorem awake6_any (w : World) : Calls Tryz.prog 217 #[] w fun e w' => e = .returned (.bool true) ∧ w.grownBy w' none := by
  go_enter Tryz.func217, Tryz.ntmps217
  go_wp2_with (go_at_call 218; refine (law06.awake_any df.core _).mono ?_; rintro e w' ⟨rfl, g⟩)
  go_ret
  exact ⟨rfl, g⟩

def ucore : law07.UCore where
  Tab := tb.Tab
  kept := tb.kept
  awake6 := awake6_any
  good := fun s w hs hT => good_any s w (by unfold maxLen; omega) hT

end Go.Proofs.YtbebdaglkjhbjaaGreatDoor.uu
