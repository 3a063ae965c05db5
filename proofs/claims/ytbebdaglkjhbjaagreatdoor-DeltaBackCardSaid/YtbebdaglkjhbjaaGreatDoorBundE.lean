/-
  Emath, Eref, Law11, Dmath, Es, Eent, Eei, Dcon, Dnxt
-/
import Derived.Test.YtbebdaglkjhbjaaGreatDoorBundW
import Derived.Test.YtbebdaglkjhbjaaGreatDoorBundU
import Derived.Sort.Walk0
import Derived.Test.YtbebdaglkjhbjaaGreatDoorBundA
import Derived.Handy
import Derived.Test.YtbebdaglkjhbjaaGreatDoorBundT
import Derived.Laws.OwnMore
import Derived.Maps.AppendAt
import Derived.Deep.Onto
import Derived.Test.YtbebdaglkjhbjaaGreatDoorShelf
import Derived.Sort.Grow
import Derived.Deep.RegionHeld3
import Derived.Test.YtbebdaglkjhbjaaGreatDoorLaw10A
import Derived.Test.YtbebdaglkjhbjaaGreatDoorFfi
import Derived.Test.YtbebdaglkjhbjaaGreatDoorBundC

/-
  Plain mathematics of entries: as they are written, read, and in which order they stand.
-/
namespace Go.Proofs.YtbebdaglkjhbjaaGreatDoor.em
open Go.Proofs.YtbebdaglkjhbjaaGreatDoor.vi Go.Proofs.YtbebdaglkjhbjaaGreatDoor.um Go.Proofs.YtbebdaglkjhbjaaGreatDoor.wm
set_option linter.unusedVariables false
set_option linter.unusedSimpArgs false

/-- An entry. -/
structure Ent where
  key : ByteArray
  value : ByteArray
deriving DecidableEq

def zeroE : Ent := ⟨ByteArray.empty, ByteArray.empty⟩
def checkE (x : Ent) : Nat := if checkN x.key 1 64 ≠ 0 then checkN x.key 1 64 else checkN x.value 0 256
/-- A text, its length ahead. -/
def tw (s : ByteArray) : List UInt8 := enc s.size ++ s.data.toList
def putE (x : Ent) : List UInt8 := tw x.key ++ tw x.value
/-- The text that stands next, what is behind, the code. -/
def textW (L : List UInt8) : List UInt8 × List UInt8 × Nat :=
  if (getR L).2.2 ≠ 0 then ([], [], (getR L).2.2)
  else if L.length - (getR L).2.1 < (getR L).1 then ([], [], 1)
  else ((L.drop (getR L).2.1).take (getR L).1, L.drop ((getR L).2.1 + (getR L).1), 0)
/-- The entry that stands next, what is behind, the code. -/
def nextE (L : List UInt8) : Ent × List UInt8 × Nat :=
  if (textW L).2.2 ≠ 0 then (zeroE, [], (textW L).2.2)
  else if (textW (textW L).2.1).2.2 ≠ 0 then (zeroE, [], (textW (textW L).2.1).2.2)
  else if checkE ⟨txt (textW L).1, txt (textW (textW L).2.1).1⟩ ≠ 0 then (zeroE, [], checkE ⟨txt (textW L).1, txt (textW (textW L).2.1).1⟩)
  else (⟨txt (textW L).1, txt (textW (textW L).2.1).1⟩, (textW (textW L).2.1).2.1, 0)

theorem checkN_lt (s : ByteArray) (a b : Int) : checkN s a b < 64 := by unfold checkN; split <;> (try split) <;> omega
theorem checkE_lt (x : Ent) : checkE x < 64 := by unfold checkE; split <;> exact checkN_lt _ _ _
theorem checkE_small {x : Ent} (h : checkE x = 0) : 1 ≤ x.key.size ∧ x.key.size ≤ 64 ∧ x.value.size ≤ 256 := by
  unfold checkE at h
  by_cases h1 : checkN x.key 1 64 = 0
  · rw [if_neg (by simp [h1])] at h
    unfold checkN at h h1
    split at h1
    · omega
    · split at h
      · omega
      · omega
  · rw [if_pos h1] at h; exact absurd h h1
theorem textW_err {L : List UInt8} (h : (textW L).2.2 ≠ 0) : (textW L).1 = [] ∧ (textW L).2.1 = [] := by
  unfold textW at h ⊢
  split
  · exact ⟨rfl, rfl⟩
  · rename_i h1
    rw [if_neg h1] at h
    split
    · exact ⟨rfl, rfl⟩
    · rename_i h2
      rw [if_neg h2] at h
      exact absurd rfl h
theorem textW_lt (L : List UInt8) : (textW L).2.2 < 64 := by
  have := getR_bounds L
  unfold textW
  split
  · show (getR L).2.2 < 64; omega
  · split <;> simp
theorem nextE_lt (L : List UInt8) : (nextE L).2.2 < 64 := by
  unfold nextE
  split
  · exact textW_lt _
  · split
    · exact textW_lt _
    · split
      · exact checkE_lt _
      · simp
theorem nextE_err {L : List UInt8} (h : (nextE L).2.2 ≠ 0) : (nextE L).1 = zeroE ∧ (nextE L).2.1 = [] := by
  unfold nextE at h ⊢
  split
  · exact ⟨rfl, rfl⟩
  · rename_i h1
    rw [if_neg h1] at h
    split
    · exact ⟨rfl, rfl⟩
    · rename_i h2
      rw [if_neg h2] at h
      split
      · exact ⟨rfl, rfl⟩
      · rename_i h3
        rw [if_neg h3] at h
        exact absurd rfl h

theorem tw_len (s : ByteArray) : (tw s).length = (enc s.size).length + s.size := by unfold tw; rw [List.length_append]; simp
/-- What is written is read. -/
theorem textW_put (t : ByteArray) (h : t.size < 18446744073709551616) (r : List UInt8) : textW (tw t ++ r) = (t.data.toList, r, 0) := by
  have hg : getR (tw t ++ r) = (t.size, (enc t.size).length, 0) := by
    unfold tw
    rw [List.append_assoc]
    exact getR_enc h _
  have hl : t.data.toList.length = t.size := by simp
  have hd : (tw t ++ r).drop (enc t.size).length = t.data.toList ++ r := by
    unfold tw
    rw [List.append_assoc, List.drop_left]
  unfold textW
  rw [hg]
  rw [if_neg (by simp), if_neg (by simp only [List.length_append, tw_len]; omega)]
  simp only
  rw [← List.drop_drop, hd, ← hl, List.take_left, List.drop_left]
/-- What is read was written so. -/
theorem textW_ok {L : List UInt8} (h : (textW L).2.2 = 0) : L = tw (txt (textW L).1) ++ (textW L).2.1 ∧ (textW L).1.length < 18446744073709551616 := by
  have hb := getR_bounds L
  by_cases h1 : (getR L).2.2 = 0
  · by_cases h2 : L.length - (getR L).2.1 < (getR L).1
    · unfold textW at h
      rw [if_neg (by simp [h1]), if_pos h2] at h
      simp at h
    · have e := enc_getR h1
      have ht : textW L = ((L.drop (getR L).2.1).take (getR L).1, L.drop ((getR L).2.1 + (getR L).1), 0) := by
        unfold textW
        rw [if_neg (by simp [h1]), if_neg h2]
      rw [ht]
      have hl : ((L.drop (getR L).2.1).take (getR L).1).length = (getR L).1 := by simp; omega
      refine ⟨?_, by simp only; omega⟩
      simp only
      unfold tw
      rw [txt_size, txt_list, hl, e, List.append_assoc, ← List.drop_drop, List.take_append_drop, List.take_append_drop]
  · unfold textW at h
    rw [if_pos h1] at h
    exact absurd h h1

theorem nextE_put (x : Ent) (h1 : x.key.size < 18446744073709551616) (h2 : x.value.size < 18446744073709551616) (r : List UInt8) :
    nextE (putE x ++ r) = if checkE x ≠ 0 then (zeroE, [], checkE x) else (x, r, 0) := by
  have e1 : textW (putE x ++ r) = (x.key.data.toList, tw x.value ++ r, 0) := by
    unfold putE
    rw [List.append_assoc]
    exact textW_put _ h1 _
  unfold nextE
  rw [e1]
  simp only
  rw [textW_put _ h2, if_neg (by simp), if_neg (by simp), txt_of, txt_of]
theorem nextE_ok {L : List UInt8} (h : (nextE L).2.2 = 0) : L = putE (nextE L).1 ++ (nextE L).2.1 ∧ checkE (nextE L).1 = 0 := by
  by_cases h1 : (textW L).2.2 = 0
  · by_cases h2 : (textW (textW L).2.1).2.2 = 0
    · by_cases h3 : checkE ⟨txt (textW L).1, txt (textW (textW L).2.1).1⟩ = 0
      · have e : nextE L = (⟨txt (textW L).1, txt (textW (textW L).2.1).1⟩, (textW (textW L).2.1).2.1, 0) := by
          unfold nextE
          rw [if_neg (by simp [h1]), if_neg (by simp [h2]), if_neg (by simp [h3])]
        rw [e]
        refine ⟨?_, h3⟩
        have a1 := (textW_ok h1).1
        have a2 := (textW_ok h2).1
        simp only
        unfold putE
        rw [List.append_assoc, ← a2]
        exact a1
      · unfold nextE at h
        rw [if_neg (by simp [h1]), if_neg (by simp [h2]), if_pos h3] at h
        exact absurd h h3
    · unfold nextE at h
      rw [if_neg (by simp [h1]), if_pos h2] at h
      exact absurd h h2
  · unfold nextE at h
    rw [if_pos h1] at h
    exact absurd h h1

/-! In which order -/
theorem less_irrefl : ∀ a : List UInt8, Op.bytesLess a a = false
  | [] => rfl
  | a :: x => by
    unfold Op.bytesLess
    rw [less_irrefl x]
    simp [UInt8.lt_irrefl]
theorem less_trans : ∀ a b c : List UInt8, Op.bytesLess a b = true → Op.bytesLess b c = true → Op.bytesLess a c = true
  | a, [], _, h, _ => by cases a <;> simp [Op.bytesLess] at h
  | _, _ :: _, [], _, h => by simp [Op.bytesLess] at h
  | [], _ :: _, _ :: _, _, _ => rfl
  | a :: x, b :: y, c :: z, h1, h2 => by
    simp only [Op.bytesLess, Bool.or_eq_true, decide_eq_true_eq, Bool.and_eq_true, beq_iff_eq] at h1 h2 ⊢
    rcases h1 with h1 | ⟨rfl, h1⟩ <;> rcases h2 with h2 | ⟨rfl, h2⟩
    · exact .inl (UInt8.lt_trans h1 h2)
    · exact .inl h1
    · exact .inl h2
    · exact .inr ⟨rfl, less_trans x y z h1 h2⟩
theorem less_tri : ∀ a b : List UInt8, Op.bytesLess a b = true ∨ a = b ∨ Op.bytesLess b a = true
  | [], [] => .inr (.inl rfl)
  | [], _ :: _ => .inl rfl
  | _ :: _, [] => .inr (.inr rfl)
  | a :: x, b :: y => by
    simp only [Op.bytesLess, Bool.or_eq_true, decide_eq_true_eq, Bool.and_eq_true, beq_iff_eq, List.cons.injEq]
    rcases (show a < b ∨ a = b ∨ b < a by simp only [UInt8.lt_iff_toNat_lt, ← UInt8.toNat_inj]; omega) with h | rfl | h
    · exact .inl (.inl h)
    · rcases less_tri x y with h | rfl | h
      · exact .inl (.inr ⟨rfl, h⟩)
      · exact .inr (.inl ⟨rfl, rfl⟩)
      · exact .inr (.inr (.inr ⟨rfl, h⟩))
    · exact .inr (.inr (.inl h))
theorem less_asymm {a b : List UInt8} (h : Op.bytesLess a b = true) : Op.bytesLess b a = false := by
  cases h2 : Op.bytesLess b a with
  | false => rfl
  | true => have := less_trans a b a h h2; rw [less_irrefl] at this; cases this

/-- How two texts stand. -/
def cmpB (a b : ByteArray) : Int := if Op.bytesLess a.data.toList b.data.toList = true then -1 else if a = b then 0 else 1
theorem bytes_inj {a b : ByteArray} (h : a.data.toList = b.data.toList) : a = b := by cases a; cases b; simp at h; rw [h]
theorem cmpB_neg (a b : ByteArray) : cmpB a b = -cmpB b a := by
  unfold cmpB
  rcases less_tri a.data.toList b.data.toList with h | h | h
  · have h1 := less_asymm h
    have : ¬ b = a := fun e => by rw [e, less_irrefl] at h; cases h
    simp [h, h1, this]
  · have := bytes_inj h
    subst this
    simp [less_irrefl]
  · have h1 := less_asymm h
    have : ¬ a = b := fun e => by rw [e, less_irrefl] at h; cases h
    simp [h, h1, this]
theorem cmpB_zero (a b : ByteArray) : cmpB a b = 0 ↔ a = b := by
  unfold cmpB
  constructor
  · intro h
    split at h
    · omega
    · split at h
      · assumption
      · omega
  · rintro rfl
    simp [less_irrefl]
theorem cmpB_lt (a b : ByteArray) : cmpB a b < 0 ↔ Op.bytesLess a.data.toList b.data.toList = true := by
  unfold cmpB
  split
  · rename_i h; simp [h]
  · rename_i h
    split
    · rename_i e; subst e; simp [less_irrefl]
    · simp [h]
theorem cmpB_trans {a b c : ByteArray} (h1 : cmpB a b < 0) (h2 : cmpB b c < 0) : cmpB a c < 0 := by
  rw [cmpB_lt] at *
  exact less_trans _ _ _ h1 h2
theorem cmpB_cases (a b : ByteArray) : cmpB a b = -1 ∨ cmpB a b = 0 ∨ cmpB a b = 1 := by
  unfold cmpB; split <;> (try split) <;> simp

/-- How two entries stand. -/
def cmpE (a b : Ent) : Int := if a.key = b.key then cmpB a.value b.value else cmpB a.key b.key
theorem cmpE_cases (a b : Ent) : cmpE a b = -1 ∨ cmpE a b = 0 ∨ cmpE a b = 1 := by
  unfold cmpE; split <;> exact cmpB_cases _ _
theorem cmpE_neg (a b : Ent) : cmpE a b = -cmpE b a := by
  unfold cmpE
  by_cases h : a.key = b.key
  · rw [if_pos h, if_pos h.symm, cmpB_neg]
  · rw [if_neg h, if_neg (fun e => h e.symm), cmpB_neg]
theorem cmpE_zero (a b : Ent) : cmpE a b = 0 ↔ a = b := by
  unfold cmpE
  by_cases h : a.key = b.key
  · rw [if_pos h, cmpB_zero]
    obtain ⟨k, v⟩ := a; obtain ⟨k', v'⟩ := b
    simp at h ⊢
    simp [h]
  · rw [if_neg h, cmpB_zero]
    exact ⟨fun e => absurd e h, fun e => absurd (by rw [e]) h⟩
theorem cmpE_trans {a b c : Ent} (h1 : cmpE a b < 0) (h2 : cmpE b c < 0) : cmpE a c < 0 := by
  unfold cmpE at *
  by_cases e1 : a.key = b.key
  · rw [if_pos e1] at h1
    by_cases e2 : b.key = c.key
    · rw [if_pos e2] at h2
      rw [if_pos (e1.trans e2)]
      exact cmpB_trans h1 h2
    · rw [if_neg e2] at h2
      rw [if_neg (by rw [e1]; exact e2), e1]
      exact h2
  · rw [if_neg e1] at h1
    by_cases e2 : b.key = c.key
    · rw [if_pos e2] at h2
      rw [if_neg (by rw [← e2]; exact e1), ← e2]
      exact h1
    · rw [if_neg e2] at h2
      have h3 := cmpB_trans h1 h2
      have : ¬ a.key = c.key := fun e => by rw [e, (cmpB_zero _ _).2 rfl] at h3; omega
      rw [if_neg this]
      exact h3

end Go.Proofs.YtbebdaglkjhbjaaGreatDoor.em

/-
  The document's entries: Check, Put, Cmp, Next.
-/
namespace Go.Proofs.YtbebdaglkjhbjaaGreatDoor.em
open Go.RowKit Go.Proofs.YtbebdaglkjhbjaaGreatDoor.vi Go.Proofs.YtbebdaglkjhbjaaGreatDoor.um Go.Proofs.YtbebdaglkjhbjaaGreatDoor.wm Go.Proofs.YtbebdaglkjhbjaaGreatDoor.tr
set_option linter.unusedVariables false
set_option linter.unusedSimpArgs false

set_option maxRecDepth 100000 in
theorem rcheckE_any (x : Ent) (h1 : x.key.size ≤ 1000000) (h2 : x.value.size ≤ 1000000) (w : World) :
    Calls Tryz.prog 120 #[.agg #[.string x.key, .string x.value]] w fun e w' => e = .returned (.int .i64 (checkE x : Nat)) ∧ w.grownBy w' none := by
  have HK := Lib.hid (fun w => rcheck_any x.key h1 1 64 w)
  have HV := Lib.hid (fun w => rcheck_any x.value h2 0 256 w)
  have HG := Lib.hid (only_alloc (only_refl w none) (.cells #[.string x.key, .string x.value] 112))
  unfold checkE
  by_cases hc : checkN x.key 1 64 = 0
  · rw [if_neg (by simp [hc])]
    rw [hc] at HK
    clear hc
    go_enter Tryz.func120, Tryz.ntmps120
    go_wp2_with fail
    refine (HK.out _).mono ?_
    rintro e w1 ⟨rfl, rfl⟩
    go_wp2_with fail
    refine (HV.out _).mono ?_
    rintro e w1 ⟨rfl, rfl⟩
    go_wp2_with fail
    go_ret
    exact ⟨rfl, HG.out⟩
  · rw [if_pos hc]
    generalize checkN x.key 1 64 = q at *
    have hqb : ((q : Int) != 0) = true := by rw [bne_iff_ne]; omega
    clear hc
    go_enter Tryz.func120, Tryz.ntmps120
    go_wp2_with fail
    refine (HK.out _).mono ?_
    rintro e w1 ⟨rfl, rfl⟩
    go_wp2_with fail
    go_ret
    exact ⟨rfl, HG.out⟩

theorem put_txt (x : Ent) : encB x.key.size ++ x.key ++ encB x.value.size ++ x.value = txt (putE x) := by
  apply ByteArray.ext
  simp [putE, tw, txt, encB_txt]

set_option maxHeartbeats 1000000 in
set_option maxRecDepth 100000 in
theorem rputE_any (x : Ent) (h1 : x.key.size ≤ 1000000) (h2 : x.value.size ≤ 1000000) (w : World) :
    Calls Tryz.prog 103 #[.agg #[.string x.key, .string x.value]] w fun e w' => e = .returned (.string (txt (putE x))) ∧ w.grownBy w' none := by
  have HK := Lib.hid (fun w1 => rput_any x.key.size (by omega) w1)
  have HV := Lib.hid (fun w1 => rput_any x.value.size (by omega) w1)
  have HP := Lib.hid (put_txt x)
  have hz : ∀ n, n ≤ 1000000 → (encB n).size ≤ 10 := fun n hn => by rw [encB_txt, txt_size]; exact enc_len_ten (by omega)
  have hz1 := hz _ h1
  have hz2 := hz _ h2
  have HG := Lib.hid (only_alloc (only_refl w none) (.cells #[.string x.key, .string x.value] 112))
  have c0 : (w.alloc (.cells #[.string x.key, .string x.value] 112)).cell? ⟨w.heap.size, 0, none⟩ = some (.string x.key) := by rw [cell_new]; rfl
  have c1 : (w.alloc (.cells #[.string x.key, .string x.value] 112)).cell? ⟨w.heap.size, 1, none⟩ = some (.string x.value) := by rw [cell_new]; rfl
  clear hz
  generalize encB x.key.size = E1 at *
  generalize encB x.value.size = E2 at *
  go_enter Tryz.func103, Tryz.ntmps103
  go_wp2_with fail
  generalize w.alloc (.cells #[.string x.key, .string x.value] 112) = wa at *
  generalize w.heap.size = b at *
  have hl0 : ∀ g : GW wa none, g.world.cell? ⟨b, 0, none⟩ = some (.string x.key) := fun g => (Chg.of_none (S := fun _ => False) g.ok).cell c0 (fun e => e)
  have hl1 : ∀ g : GW wa none, g.world.cell? ⟨b, 1, none⟩ = some (.string x.value) := fun g => (Chg.of_none (S := fun _ => False) g.ok).cell c1 (fun e => e)
  refine wp_region_gw wa none (by kernel_rfl) (by kernel_rfl) (only_refl _ _) ?_
  repeat (go_big_quiet_step ((go_at_call 79; first | with_reducible exact calls_gw (HK.out _) | with_reducible exact calls_gw (HV.out _))))
  refine wpQuiet_nil ?_
  rintro _ ⟨⟨w', hw'⟩, rfl⟩
  go_wp2_with fail
  go_ret
  exact ⟨ret1 (congrArg Value.string HP.out), only_trans HG.out hw'⟩

theorem less_drop (s t : ByteArray) (i : Nat) (hs : i < s.size) (ht : i < t.size) :
    Op.bytesLess (s.data.toList.drop i) (t.data.toList.drop i) = (decide (s[i] < t[i]) || (s[i] == t[i] && Op.bytesLess (s.data.toList.drop (i + 1)) (t.data.toList.drop (i + 1)))) := by
  rw [List.drop_eq_getElem_cons (i := i) (by simpa using hs), List.drop_eq_getElem_cons (i := i) (by simpa using ht)]
  rfl

set_option maxRecDepth 100000 in
theorem rless_any (s t : ByteArray) (h1 : s.size ≤ 1000000) (h2 : t.size ≤ 1000000) (w : World) :
    Calls Tryz.prog 121 #[.string s, .string t] w fun e w' => e = .returned (.bool (Op.bytesLess s.data.toList t.data.toList)) ∧ w.grownBy w' none := by
  go_enter Tryz.func121, Tryz.ntmps121
  have H1 := Lib.hid (show s.data.toList.length = s.size by simp)
  have H2 := Lib.hid (show t.data.toList.length = t.size by simp)
  go_wp2_with fail
  go_loopw [5] (fun q wr => ∃ i : Nat, i ≤ s.size ∧ i ≤ t.size ∧ q = .int .i64 i ∧ Op.bytesLess s.data.toList t.data.toList = Op.bytesLess (s.data.toList.drop i) (t.data.toList.drop i) ∧ ∃ n, wr = w.drewN n) (fun q _ => s.size - (intOf q).toNat)
  case atStart => exact ⟨0, Nat.zero_le _, Nat.zero_le _, rfl, by simp, 0, rfl⟩
  case round =>
    obtain ⟨i, hi1, hi2, rfl, hL, n0, rfl⟩ := hrel
    by_cases hlt1 : i < s.size
    · by_cases hlt2 : i < t.size
      · have HD := Lib.hid (hL.trans (less_drop s t i hlt1 hlt2))
        clear hL
        by_cases hq : s[i] = t[i]
        · have HD2 : Hid (Op.bytesLess s.data.toList t.data.toList = Op.bytesLess (s.data.toList.drop (i + 1)) (t.data.toList.drop (i + 1))) := by
            show _ = _
            rw [HD.out, hq]
            simp [UInt8.lt_irrefl]
          have hqi : (s[i].toNat : Int) = (t[i].toNat : Int) := by rw [hq]
          clear HD hq
          go_wp2_with fail
          go_quiet (fail)
          go_wp2_with fail
          go_roundw
          case rel => exact ⟨i + 1, by omega, by omega, by go_num, HD2.out, _, rfl⟩
          case measure => simp [intOf]; omega
        · have hqi : ¬ (s[i].toNat : Int) = (t[i].toNat : Int) := fun e => hq (UInt8.toNat_inj.1 (by omega))
          have HD2 : Hid (Op.bytesLess s.data.toList t.data.toList = decide (s[i].toNat < t[i].toNat)) := by
            show _ = _
            rw [HD.out, show (s[i] == t[i]) = false from by simpa using hq]
            simp [UInt8.lt_iff_toNat_lt]
          clear HD hq
          go_wp2_with fail
          go_quiet (fail)
          go_wp2_with fail
          go_quiet (fail)
          go_wp2_with fail
          go_ret
          rw [HD2.out]
          exact ⟨rfl, only_drewN (only_drewN (only_drewN (only_refl _ _) _) _) _⟩
      · have hie : i = t.size := by omega
        have HD : Hid (Op.bytesLess s.data.toList t.data.toList = false) := by
          show _ = _
          rw [hL, show t.data.toList.drop i = [] from List.drop_eq_nil_of_le (by rw [H2.out]; omega)]
          cases s.data.toList.drop i <;> rfl
        clear hL
        have hlen : ¬ (s.size : Int) < (t.size : Int) := by omega
        go_wp2_with fail
        go_ret
        rw [HD.out]
        exact ⟨by simp [hlen], only_drewN (only_refl _ _) _⟩
    · have hie : i = s.size := by omega
      have HD : Hid (Op.bytesLess s.data.toList t.data.toList = decide (s.size < t.size)) := by
        show _ = _
        rw [hL, show s.data.toList.drop i = [] from List.drop_eq_nil_of_le (by rw [H1.out]; omega)]
        by_cases hlt : i < t.size
        · rw [List.drop_eq_getElem_cons (by rw [H2.out]; omega)]
          simp [Op.bytesLess]; omega
        · rw [List.drop_eq_nil_of_le (by rw [H2.out]; omega)]
          simp [Op.bytesLess]; omega
      clear hL
      go_wp2_with fail
      go_ret
      rw [HD.out]
      exact ⟨rfl, only_drewN (only_refl _ _) _⟩

theorem txt_ext (s : ByteArray) (a b : Nat) : txt ((s.data.toList.drop a).take b) = s.extract a (a + b) := by
  apply bytes_inj
  rw [txt_list]
  simp
theorem txt_rest (s : ByteArray) (a : Nat) : txt (s.data.toList.drop a) = s.extract a s.size := by
  apply bytes_inj
  rw [txt_list, bytes_drop]

set_option maxRecDepth 100000 in
theorem rtext_any (s : ByteArray) (hs : s.size ≤ 1000000) (w : World) :
    Calls Tryz.prog 124 #[.string s] w fun e w' => e = .returned (.tuple #[.string (txt (textW s.data.toList).1), .string (txt (textW s.data.toList).2.1), .int .i64 ((textW s.data.toList).2.2 : Nat)]) ∧ ∃ n, w' = w.drewN n := by
  have HG := Lib.hid (rget_any s (by unfold maxLen; omega) w)
  have hb := getR_bounds s.data.toList
  have he := @getR_err s.data.toList
  have hl : s.data.toList.length = s.size := by simp
  have HT : Hid (textW s.data.toList = if (getR s.data.toList).2.2 ≠ 0 then ([], [], (getR s.data.toList).2.2) else if s.size - (getR s.data.toList).2.1 < (getR s.data.toList).1 then ([], [], 1) else ((s.data.toList.drop (getR s.data.toList).2.1).take (getR s.data.toList).1, s.data.toList.drop ((getR s.data.toList).2.1 + (getR s.data.toList).1), 0)) := by
    show _ = _
    unfold textW
    rw [hl]
  generalize textW s.data.toList = R at *
  generalize getR s.data.toList = r at *
  obtain ⟨x, m, E⟩ := r
  unfold getV at HG
  simp only at hb he HG HT
  rw [hl] at hb
  obtain ⟨hx, hm, hm10, hE, hpos⟩ := hb
  clear hl hpos
  by_cases h0 : E = 0
  · subst h0
    clear he
    by_cases h1 : s.size - m < x
    · have hi : (s.size : Int) - m < x := by omega
      have HR : Hid (R = ([], [], 1)) := by show _ = _; rw [HT.out, if_neg (by simp), if_pos h1]
      clear HT
      go_enter Tryz.func124, Tryz.ntmps124
      go_wp2_with fail
      refine HG.out.mono ?_
      rintro e w1 ⟨rfl, rfl⟩
      go_wp2_with fail
      go_ret3
      rw [HR.out]
      exact ⟨rfl, 0, rfl⟩
    · have HR : Hid (R = ((s.data.toList.drop m).take x, s.data.toList.drop (m + x), 0)) := by show _ = _; rw [HT.out, if_neg (by simp), if_neg h1]
      clear HT
      go_enter Tryz.func124, Tryz.ntmps124
      go_wp2_with fail
      refine HG.out.mono ?_
      rintro e w1 ⟨rfl, rfl⟩
      go_wp2_with fail
      rw [show (m : Int) + (x : Int) = ((m + x : Nat) : Int) from rfl]
      have HE1 := Lib.hid (txt_ext s m x)
      have HE2 := Lib.hid (txt_rest s (m + x))
      have hp1 : m ≤ m + x := by omega
      have hp2 : m + x ≤ s.size := by omega
      generalize m + x = p at *
      go_quiet (fail)
      go_wp2_with fail
      go_ret3
      rw [HR.out]
      exact ⟨ret3 (congrArg Value.string HE1.out.symm) (congrArg Value.string HE2.out.symm) rfl, _, rfl⟩
  · have HR : Hid (R = ([], [], E)) := by show _ = _; rw [HT.out, if_pos h0]
    have hqb : ((E : Int) != 0) = true := by rw [bne_iff_ne]; omega
    clear HT h0
    go_enter Tryz.func124, Tryz.ntmps124
    go_wp2_with fail
    refine HG.out.mono ?_
    rintro e w1 ⟨rfl, rfl⟩
    go_wp2_with fail
    go_ret3
    rw [HR.out]
    exact ⟨rfl, 0, rfl⟩

theorem beq_bytes (a b : ByteArray) : (a.toList == b.toList) = decide (a = b) := by
  rw [ByteArray.toList_eq, ByteArray.toList_eq]
  by_cases h : a = b
  · subst h; simp
  · rw [decide_eq_false h]
    exact beq_eq_false_iff_ne.2 fun e => h (bytes_inj e)

/-- What a result's block and a variable's hold, in any world that comes later. -/
theorem res_var (w : World) (n : Nat) (ty : TypeId) (z0 z1 v0 v1 : Value) : ∀ w', ((((w.alloc (.cells #[z0, z1] ty)).drewN n).alloc (.cells #[v0, v1] ty))).grownBy w' none →
    w'.heap[w.heap.size]? = some (.cells #[z0, z1] ty (0, 0)) ∧ w'.heap[w.heap.size + 1]? = some (.cells #[v0, v1] ty (0, 0)) := fun w' g => by
  have h1 : (((w.alloc (.cells #[z0, z1] ty)).drewN n).alloc (.cells #[v0, v1] ty)).heap[w.heap.size]? = some (.cells #[z0, z1] ty (0, 0)) := by
    rw [heap_alloc_old _ _ (by simp [World.drewN])]
    exact heap_alloc_new w _
  have h2 : (((w.alloc (.cells #[z0, z1] ty)).drewN n).alloc (.cells #[v0, v1] ty)).heap[w.heap.size + 1]? = some (.cells #[v0, v1] ty (0, 0)) := by
    have := heap_alloc_new ((w.alloc (.cells #[z0, z1] ty)).drewN n) (.cells #[v0, v1] ty)
    rw [show ((w.alloc (.cells #[z0, z1] ty)).drewN n).heap.size = w.heap.size + 1 by simp [World.drewN]] at this
    exact this
  exact ⟨(g.block _ (Array.getElem?_eq_some_iff.1 h1).1 (by simp)).trans h1, (g.block _ (Array.getElem?_eq_some_iff.1 h2).1 (by simp)).trans h2⟩

/-- Two entries, each in a block of its own. -/
theorem two_vars (w : World) (ty : TypeId) (x y : Ent) : ∀ w', ((w.alloc (.cells #[.string x.key, .string x.value] ty)).alloc (.cells #[.string y.key, .string y.value] ty)).grownBy w' none →
    w'.cell? ⟨w.heap.size, 0, none⟩ = some (.string x.key) ∧ w'.cell? ⟨w.heap.size, 1, none⟩ = some (.string x.value) ∧ w'.cell? ⟨w.heap.size + 1, 0, none⟩ = some (.string y.key) ∧ w'.cell? ⟨w.heap.size + 1, 1, none⟩ = some (.string y.value) := fun w' g => by
  have c0 : (w.alloc (.cells #[.string x.key, .string x.value] ty)).cell? ⟨w.heap.size, 0, none⟩ = some (.string x.key) := by rw [cell_new]; rfl
  have c1 : (w.alloc (.cells #[.string x.key, .string x.value] ty)).cell? ⟨w.heap.size, 1, none⟩ = some (.string x.value) := by rw [cell_new]; rfl
  have hs : (w.alloc (.cells #[.string x.key, .string x.value] ty)).heap.size = w.heap.size + 1 := by simp
  have d0 : ((w.alloc (.cells #[.string x.key, .string x.value] ty)).alloc (.cells #[.string y.key, .string y.value] ty)).cell? ⟨w.heap.size + 1, 0, none⟩ = some (.string y.key) := by rw [← hs, cell_new]; rfl
  have d1 : ((w.alloc (.cells #[.string x.key, .string x.value] ty)).alloc (.cells #[.string y.key, .string y.value] ty)).cell? ⟨w.heap.size + 1, 1, none⟩ = some (.string y.value) := by rw [← hs, cell_new]; rfl
  have ga := only_alloc (only_refl (w.alloc (.cells #[.string x.key, .string x.value] ty)) none) (.cells #[.string y.key, .string y.value] ty)
  have k := Chg.of_none (S := fun _ => False) g
  have k1 := Chg.of_none (S := fun _ => False) (only_trans ga g)
  exact ⟨k1.cell c0 (fun e => e), k1.cell c1 (fun e => e), k.cell d0 (fun e => e), k.cell d1 (fun e => e)⟩

set_option maxHeartbeats 1000000 in
set_option maxRecDepth 100000 in
theorem rcmp_any (x y : Ent) (h1 : x.key.size ≤ 1000000) (h2 : x.value.size ≤ 1000000) (h3 : y.key.size ≤ 1000000) (h4 : y.value.size ≤ 1000000) (w : World) :
    Calls Tryz.prog 104 #[.agg #[.string x.key, .string x.value], .agg #[.string y.key, .string y.value]] w fun e w' => e = .returned (.int .i64 (cmpE x y)) ∧ w.grownBy w' none := by
  have HK := Lib.hid (fun w => rless_any x.key y.key h1 h3 w)
  have HV := Lib.hid (fun w => rless_any x.value y.value h2 h4 w)
  have HG := Lib.hid (only_alloc (only_alloc (only_refl w none) (.cells #[.string x.key, .string x.value] 112)) (.cells #[.string y.key, .string y.value] 112))
  have HT := Lib.hid (two_vars w 112 x y)
  have hkb : (x.key.toList == y.key.toList) = decide (x.key = y.key) := beq_bytes _ _
  have hvb : (x.value.toList == y.value.toList) = decide (x.value = y.value) := beq_bytes _ _
  have HE : Hid (cmpE x y = if Op.bytesLess x.key.data.toList y.key.data.toList = true then -1 else if x.key = y.key then (if Op.bytesLess x.value.data.toList y.value.data.toList = true then -1 else if x.value = y.value then 0 else 1) else 1) := by
    show _ = _
    unfold cmpE cmpB
    by_cases hk : x.key = y.key
    · rw [if_pos hk, hk, less_irrefl]; simp
    · rw [if_neg hk]; simp [hk]
  obtain ⟨kx, vx⟩ := x
  obtain ⟨ky, vy⟩ := y
  simp only at *
  cases hA : Op.bytesLess kx.data.toList ky.data.toList with
  | true =>
    rw [hA] at HK HE
    rw [HE.out]
    clear hA
    go_enter Tryz.func104, Tryz.ntmps104
    go_wp2_with fail
    refine (HK.out _).mono ?_
    rintro e w2 ⟨rfl, g2⟩
    obtain ⟨c0, c1, d0, d1⟩ := HT.out w2 g2
    have G2 := Lib.hid (only_trans HG.out g2)
    clear g2
    go_wp2_with fail
    go_ret
    exact ⟨by simp, G2.out⟩
  | false =>
    rw [hA] at HK HE
    clear hA
    by_cases hk : kx = ky
    · rw [show decide (kx = ky) = true from decide_eq_true hk] at hkb
      have HKE := Lib.hid hk
      clear hk
      cases hB : Op.bytesLess vx.data.toList vy.data.toList with
      | true =>
        rw [hB] at HV HE
        clear hB
        go_enter Tryz.func104, Tryz.ntmps104
        go_wp2_with fail
        refine (HK.out _).mono ?_
        rintro e w2 ⟨rfl, g2⟩
        obtain ⟨c0, c1, d0, d1⟩ := HT.out w2 g2
        have G2 := Lib.hid (only_trans HG.out g2)
        have K2 := Lib.hid g2
        clear g2
        go_wp2_with fail
        refine (HV.out _).mono ?_
        rintro e w3 ⟨rfl, g3⟩
        obtain ⟨c0, c1, d0, d1⟩ := HT.out w3 (only_trans K2.out g3)
        have G3 := Lib.hid (only_trans G2.out g3)
        clear g3
        go_wp2_with fail
        go_ret
        rw [HE.out, HKE.out]
        exact ⟨by simp, G3.out⟩
      | false =>
        rw [hB] at HV HE
        clear hB
        by_cases hv : vx = vy
        · rw [show decide (vx = vy) = true from decide_eq_true hv] at hvb
          have HVE := Lib.hid hv
          clear hv
          go_enter Tryz.func104, Tryz.ntmps104
          go_wp2_with fail
          refine (HK.out _).mono ?_
          rintro e w2 ⟨rfl, g2⟩
          obtain ⟨c0, c1, d0, d1⟩ := HT.out w2 g2
          have G2 := Lib.hid (only_trans HG.out g2)
          have K2 := Lib.hid g2
          clear g2
          go_wp2_with fail
          refine (HV.out _).mono ?_
          rintro e w3 ⟨rfl, g3⟩
          obtain ⟨c0, c1, d0, d1⟩ := HT.out w3 (only_trans K2.out g3)
          have G3 := Lib.hid (only_trans G2.out g3)
          clear g3
          go_wp2_with fail
          go_ret
          rw [HE.out, HKE.out, HVE.out]
          exact ⟨by simp, G3.out⟩
        · rw [show decide (vx = vy) = false from decide_eq_false hv] at hvb
          have HVE := Lib.hid hv
          clear hv
          go_enter Tryz.func104, Tryz.ntmps104
          go_wp2_with fail
          refine (HK.out _).mono ?_
          rintro e w2 ⟨rfl, g2⟩
          obtain ⟨c0, c1, d0, d1⟩ := HT.out w2 g2
          have G2 := Lib.hid (only_trans HG.out g2)
          have K2 := Lib.hid g2
          clear g2
          go_wp2_with fail
          refine (HV.out _).mono ?_
          rintro e w3 ⟨rfl, g3⟩
          obtain ⟨c0, c1, d0, d1⟩ := HT.out w3 (only_trans K2.out g3)
          have G3 := Lib.hid (only_trans G2.out g3)
          clear g3
          go_wp2_with fail
          go_ret
          rw [HE.out, HKE.out]
          exact ⟨by simp [HVE.out], G3.out⟩
    · rw [show decide (kx = ky) = false from decide_eq_false hk] at hkb
      have HKE := Lib.hid hk
      clear hk
      go_enter Tryz.func104, Tryz.ntmps104
      go_wp2_with fail
      refine (HK.out _).mono ?_
      rintro e w2 ⟨rfl, g2⟩
      obtain ⟨c0, c1, d0, d1⟩ := HT.out w2 g2
      have G2 := Lib.hid (only_trans HG.out g2)
      have K2 := Lib.hid g2
      clear g2
      go_wp2_with fail
      go_ret
      rw [HE.out]
      exact ⟨by simp [HKE.out], G2.out⟩

theorem tw_le (L : List UInt8) : (textW L).1.length + (textW L).2.1.length ≤ L.length := by
  unfold textW
  split
  · simp
  · split
    · simp
    · simp; omega

set_option maxHeartbeats 1000000 in
set_option maxRecDepth 100000 in
theorem rnextE_any (s : ByteArray) (hs : s.size ≤ 1000000) (w : World) :
    Calls Tryz.prog 111 #[.string s] w fun e w' => e = .returned (.tuple #[.agg #[.string (nextE s.data.toList).1.key, .string (nextE s.data.toList).1.value], .string (txt (nextE s.data.toList).2.1), .int .i64 ((nextE s.data.toList).2.2 : Nat)]) ∧ w.grownBy w' none := by
  have HT1 := Lib.hid (rtext_any s hs)
  have hr := tw_le s.data.toList
  have HT2 := Lib.hid (fun w => rtext_any (txt (textW s.data.toList).2.1) (by rw [txt_size]; simp at hr; omega) w)
  rw [txt_list] at HT2
  have hr2 := tw_le (textW s.data.toList).2.1
  have HC := Lib.hid (fun w => rcheckE_any ⟨txt (textW s.data.toList).1, txt (textW (textW s.data.toList).2.1).1⟩ (by show (txt _).size ≤ _; rw [txt_size]; simp at hr; omega) (by show (txt _).size ≤ _; rw [txt_size]; simp at hr; omega) w)
  clear hr2
  have hlt1 := textW_lt s.data.toList
  have hlt2 := textW_lt (textW s.data.toList).2.1
  have hlt3 := checkE_lt ⟨txt (textW s.data.toList).1, txt (textW (textW s.data.toList).2.1).1⟩
  unfold nextE
  have E1 := @textW_err s.data.toList
  have E2 := @textW_err (textW s.data.toList).2.1
  generalize textW s.data.toList = R at *
  obtain ⟨t1, r1, q1⟩ := R
  simp only at *
  generalize textW r1 = R at *
  obtain ⟨t2, r2, q2⟩ := R
  simp only at *
  by_cases h1 : q1 = 0
  · subst h1
    rw [if_neg (by simp)]
    clear E1
    by_cases h2 : q2 = 0
    · subst h2
      rw [if_neg (by simp)]
      clear E2 hlt1 hlt2
      generalize hE : checkE ⟨txt t1, txt t2⟩ = q3 at *
      by_cases h3 : q3 = 0
      · subst h3
        rw [if_neg (by simp)]
        clear hE hlt3 hr
        go_enter Tryz.func111, Tryz.ntmps111
        go_wp2_with fail
        refine (HT1.out _).mono ?_
        rintro e w1 ⟨rfl, n1, rfl⟩
        go_wp2_with fail
        refine (HT2.out _).mono ?_
        rintro e w1 ⟨rfl, n2, rfl⟩
        go_wp2_with fail
        refine (HC.out _).mono ?_
        rintro e w5 ⟨rfl, g5⟩
        obtain ⟨hb5, hx5⟩ := res_var w (n1 + n2) 112 (.string ⟨#[]⟩) (.string ⟨#[]⟩) (.string (txt t1)) (.string (txt t2)) w5 g5
        have G5 := Lib.hid (only_trans (only_alloc (only_drewN (only_alloc (only_refl w none) (.cells #[.string ⟨#[]⟩, .string ⟨#[]⟩] 112)) (n1 + n2)) (.cells #[.string (txt t1), .string (txt t2)] 112)) g5)
        have x0 : w5.frozen? ⟨w.heap.size, 0, none⟩ = false := by simp [World.frozen?, hb5]
        have x1 : w5.frozen? ⟨w.heap.size, 1, none⟩ = false := by simp [World.frozen?, hb5]
        have z0 : w5.cell? ⟨w.heap.size, 0, none⟩ = some (.string ⟨#[]⟩) := by simp [World.cell?, hb5]
        have z1 : w5.cell? ⟨w.heap.size, 1, none⟩ = some (.string ⟨#[]⟩) := by simp [World.cell?, hb5]
        have c0 : w5.cell? ⟨w.heap.size + 1, 0, none⟩ = some (.string (txt t1)) := by simp [World.cell?, hx5]
        have c1 : w5.cell? ⟨w.heap.size + 1, 1, none⟩ = some (.string (txt t2)) := by simp [World.cell?, hx5]
        have HB5 := Lib.hid hb5
        clear g5 hb5 hx5
        go_wp2_with fail
        exact bodyPost_ret (results_cell3 rfl _ _ w.heap.size 112 #[.string (txt t1), .string (txt t2)] (0, 0) _ rfl (heap_setc (heap_setc HB5.out)) Tryz.underlying112 rfl (by kernel_rfl)) rfl ⟨rfl, only_setCell (only_setCell G5.out (.inr (Nat.le_refl _)) _) (.inr (Nat.le_refl _)) _⟩
      · rw [if_pos h3]
        have hqb : ((q3 : Int) != 0) = true := by rw [bne_iff_ne]; omega
        clear hE hr h3
        go_enter Tryz.func111, Tryz.ntmps111
        go_wp2_with fail
        refine (HT1.out _).mono ?_
        rintro e w1 ⟨rfl, n1, rfl⟩
        go_wp2_with fail
        refine (HT2.out _).mono ?_
        rintro e w1 ⟨rfl, n2, rfl⟩
        go_wp2_with fail
        refine (HC.out _).mono ?_
        rintro e w5 ⟨rfl, g5⟩
        obtain ⟨hb5, hx5⟩ := res_var w (n1 + n2) 112 (.string ⟨#[]⟩) (.string ⟨#[]⟩) (.string (txt t1)) (.string (txt t2)) w5 g5
        have G5 := Lib.hid (only_trans (only_alloc (only_drewN (only_alloc (only_refl w none) (.cells #[.string ⟨#[]⟩, .string ⟨#[]⟩] 112)) (n1 + n2)) (.cells #[.string (txt t1), .string (txt t2)] 112)) g5)
        have x0 : w5.frozen? ⟨w.heap.size, 0, none⟩ = false := by simp [World.frozen?, hb5]
        have x1 : w5.frozen? ⟨w.heap.size, 1, none⟩ = false := by simp [World.frozen?, hb5]
        have z0 : w5.cell? ⟨w.heap.size, 0, none⟩ = some (.string ⟨#[]⟩) := by simp [World.cell?, hb5]
        have z1 : w5.cell? ⟨w.heap.size, 1, none⟩ = some (.string ⟨#[]⟩) := by simp [World.cell?, hb5]
        have c0 : w5.cell? ⟨w.heap.size + 1, 0, none⟩ = some (.string (txt t1)) := by simp [World.cell?, hx5]
        have c1 : w5.cell? ⟨w.heap.size + 1, 1, none⟩ = some (.string (txt t2)) := by simp [World.cell?, hx5]
        have HB5 := Lib.hid hb5
        clear g5 hb5 hx5
        go_wp2_with fail
        exact bodyPost_ret (results_cell3 rfl _ _ w.heap.size 112 #[.string ⟨#[]⟩, .string ⟨#[]⟩] (0, 0) _ rfl (heap_setc (heap_setc HB5.out)) Tryz.underlying112 rfl (by kernel_rfl)) rfl ⟨rfl, only_setCell (only_setCell G5.out (.inr (Nat.le_refl _)) _) (.inr (Nat.le_refl _)) _⟩
    · rw [if_pos h2]
      obtain ⟨rfl, rfl⟩ := E2 h2
      have hqb : ((q2 : Int) != 0) = true := by rw [bne_iff_ne]; omega
      clear HC E2 h2 hr hlt1 hlt3
      go_enter Tryz.func111, Tryz.ntmps111
      go_wp2_with fail
      refine (HT1.out _).mono ?_
      rintro e w1 ⟨rfl, n1, rfl⟩
      go_wp2_with fail
      refine (HT2.out _).mono ?_
      rintro e w1 ⟨rfl, n2, rfl⟩
      go_wp2_with fail
      exact bodyPost_ret (results_cell3 rfl _ _ w.heap.size 112 #[.string ⟨#[]⟩, .string ⟨#[]⟩] (0, 0) _ rfl (heap_setc (heap_setc (heap_alloc_new w _))) Tryz.underlying112 rfl (by kernel_rfl)) rfl ⟨rfl, only_setCell (only_setCell (only_drewN (only_alloc (only_refl _ _) _) _) (.inr (Nat.le_refl _)) _) (.inr (Nat.le_refl _)) _⟩
  · rw [if_pos h1]
    obtain ⟨rfl, rfl⟩ := E1 h1
    have hqb : ((q1 : Int) != 0) = true := by rw [bne_iff_ne]; omega
    clear HT2 HC E1 E2 h1 hr hlt2 hlt3
    go_enter Tryz.func111, Tryz.ntmps111
    go_wp2_with fail
    refine (HT1.out _).mono ?_
    rintro e w1 ⟨rfl, n1, rfl⟩
    go_wp2_with fail
    exact bodyPost_ret (results_cell3 rfl _ _ w.heap.size 112 #[.string ⟨#[]⟩, .string ⟨#[]⟩] (0, 0) _ rfl (heap_setc (heap_setc (heap_alloc_new w _))) Tryz.underlying112 rfl (by kernel_rfl)) rfl ⟨rfl, only_setCell (only_setCell (only_drewN (only_alloc (only_refl _ _) _) _) (.inr (Nat.le_refl _)) _) (.inr (Nat.le_refl _)) _⟩

end Go.Proofs.YtbebdaglkjhbjaaGreatDoor.em

/-
  The statements of layer 11, for whatever keeps the contracts of entries.
-/
namespace Go.Proofs.YtbebdaglkjhbjaaGreatDoor.law11
open Go.RowKit Go.Proofs.YtbebdaglkjhbjaaGreatDoor.vi Go.Proofs.YtbebdaglkjhbjaaGreatDoor.um Go.Proofs.YtbebdaglkjhbjaaGreatDoor.wm Go.Proofs.YtbebdaglkjhbjaaGreatDoor.tr Go.Proofs.YtbebdaglkjhbjaaGreatDoor.em Go.Proofs.YtbebdaglkjhbjaaGreatDoor.cur
set_option linter.unusedVariables false
set_option linter.unusedSimpArgs false

/-- What layer 11's awake asks. -/
structure ECore where
  Tab : World → Prop
  kept : ∀ {w w' : World}, Tab w → w.grownBy w' none → Tab w'
  awake10 : ∀ w : World, Tab w → Calls Tryz.prog 161 #[] w fun e w' => e = .returned (.bool true) ∧ w.grownBy w' none
  check : ∀ (x : Ent) (w : World), x.key.size ≤ 10000 → x.value.size ≤ 10000 → Tab w → Calls Tryz.prog 114 #[.agg #[.string x.key, .string x.value]] w fun e w' => e = .returned (.int .i64 (checkE x : Nat)) ∧ w.grownBy w' none
  put : ∀ (x : Ent) (w : World), x.key.size ≤ 100000 → x.value.size ≤ 100000 → Calls Tryz.prog 72 #[.agg #[.string x.key, .string x.value]] w fun e w' => e = .returned (.string (txt (putE x))) ∧ w.grownBy w' none

/-- What the laws ask of package entry besides. -/
structure EI extends ECore where
  cmp : ∀ (x y : Ent) (w : World), x.key.size ≤ 100000 → x.value.size ≤ 100000 → y.key.size ≤ 100000 → y.value.size ≤ 100000 → Calls Tryz.prog 157 #[.agg #[.string x.key, .string x.value], .agg #[.string y.key, .string y.value]] w fun e w' => e = .returned (.int .i64 (cmpE x y)) ∧ w.grownBy w' none
  next_nil : ∀ w : World, Calls Tryz.prog 123 #[.pointer none] w fun e w' => e = .returned (.tuple #[.agg #[.string ⟨#[]⟩, .string ⟨#[]⟩], .int .i64 25]) ∧ w.grownBy w' none
  next : ∀ (W w : World) (b : Nat) (s : ByteArray) (k : Nat), Tab W → W.grownBy w none → W.heap.size ≤ b → Cur w b s k → s.size ≤ 10000 →
    Calls Tryz.prog 123 #[.pointer (some ⟨b, 0, none⟩)] w fun e w' => ∃ k', e = .returned (.tuple #[.agg #[.string (nextE (s.data.toList.drop k)).1.key, .string (nextE (s.data.toList.drop k)).1.value], .int .i64 ((nextE (s.data.toList.drop k)).2.2 : Nat)]) ∧ Cur w' b s k' ∧
      ((nextE (s.data.toList.drop k)).2.2 = 0 → s.data.toList.drop k' = (nextE (s.data.toList.drop k)).2.1) ∧ W.grownBy w' none

def exE : Ent := ⟨⟨#[97]⟩, ⟨#[98, 99]⟩⟩
theorem good_abc : ∀ l : List UInt8, (∀ x ∈ l, x.toNat < 128) → goodR l = true
  | [], _ => goodR_nil
  | x :: r, h => by
    have hx := h x (by simp)
    have hf : firstR (x :: r) = 1 := by
      unfold firstR
      rw [if_neg (by simp), if_pos (by simpa [byt] using hx)]
    rw [goodR_step (by simp) (by rw [hf]; omega), hf]
    exact good_abc r fun y hy => h y (by simp [hy])
theorem ex_checkE : checkE exE = 0 := by
  unfold checkE exE checkN
  simp only
  rw [good_abc _ (by intro x hx; simp at hx; subst hx; decide), good_abc _ (by intro x hx; simp at hx; rcases hx with rfl | rfl <;> decide)]
  simp [ByteArray.size]
theorem ex_putE : txt (putE exE) = ⟨#[1, 97, 2, 98, 99]⟩ := by
  have e1 : enc 1 = [1] := enc_small (by omega)
  have e2 : enc 2 = [2] := enc_small (by omega)
  unfold putE tw exE
  show txt ((enc 1 ++ [97]) ++ (enc 2 ++ [98, 99])) = _
  rw [e1, e2]
  rfl

/-- A variable that holds an entry. -/
def EntV (w : World) (b : Nat) (x : Ent) : Prop := w.cell? ⟨b, 0, none⟩ = some (.string x.key) ∧ w.cell? ⟨b, 1, none⟩ = some (.string x.value)
theorem EntV.kept {w w' : World} {b : Nat} {x : Ent} {T : Nat → Prop} (h : EntV w b x) (g : Chg T w w') (hb : ¬ T b) : EntV w' b x := ⟨g.cell h.1 hb, g.cell h.2 hb⟩
theorem EntV.grown {w w' : World} {b : Nat} {x : Ent} (h : EntV w b x) (g : w.grownBy w' none) : EntV w' b x := h.kept (T := fun _ => False) (Chg.of_none g) (fun e => e)
theorem EntV.new (w : World) (ty : TypeId) (x : Ent) : EntV (w.alloc (.cells #[.string x.key, .string x.value] ty)) w.heap.size x := ⟨by rw [cell_new]; rfl, by rw [cell_new]; rfl⟩
theorem EntV.lt {w : World} {b : Nat} {x : Ent} (h : EntV w b x) : b < w.heap.size := World.block_lt_of_cell? w ⟨b, 0, none⟩ h.1

set_option maxHeartbeats 1000000 in
set_option maxRecDepth 100000 in
theorem awake_any (I : ECore) (w : World) (hT : I.Tab w) :
    Calls Tryz.prog 158 #[] w fun e w' => e = .returned (.bool true) ∧ w.grownBy w' none := by
  have HT := Lib.hid (fun w' (g : w.grownBy w' none) => I.awake10 w' (I.kept hT g))
  have HP := Lib.hid (fun w => I.put exE w (by simp [exE, ByteArray.size]) (by simp [exE, ByteArray.size]))
  have HC := Lib.hid (fun w' (g : w.grownBy w' none) => I.check exE w' (by simp [exE, ByteArray.size]) (by simp [exE, ByteArray.size]) (I.kept hT g))
  rw [ex_putE] at HP
  rw [ex_checkE] at HC
  have hk : exE.key = ⟨#[97]⟩ := rfl
  have hv : exE.value = ⟨#[98, 99]⟩ := rfl
  rw [hk, hv] at HP HC
  have V0 := Lib.hid (EntV.new w 115 exE)
  have G0 := Lib.hid (only_alloc (only_refl w none) (.cells #[.string ⟨#[97]⟩, .string ⟨#[98, 99]⟩] 115))
  rw [hk, hv] at V0
  clear hk hv
  go_enter Tryz.func158, Tryz.ntmps158
  go_wp2_with fail
  refine (HT.out _ G0.out).mono ?_
  rintro e w1 ⟨rfl, g1⟩
  have V1 := Lib.hid (V0.out.grown g1)
  have G1 := Lib.hid (only_trans G0.out g1)
  obtain ⟨c0, c1⟩ := V1.out
  clear g1
  go_wp2_with fail
  refine (HP.out _).mono ?_
  rintro e w2 ⟨rfl, g2⟩
  have V2 := Lib.hid (V1.out.grown g2)
  have G2 := Lib.hid (only_trans G1.out g2)
  obtain ⟨d0, d1⟩ := V2.out
  clear g2
  go_wp2_with fail
  refine (HC.out _ G2.out).mono ?_
  rintro e w3 ⟨rfl, g3⟩
  have G3 := Lib.hid (only_trans G2.out g3)
  clear g3
  go_wp2_with fail
  go_ret
  exact ⟨rfl, G3.out⟩

theorem Awake_any (I : ECore) (w : World) (hT : I.Tab w) :
    Calls Tryz.prog 151 #[] w fun e w' => e = .returned (.bool true) ∧ w.grownBy w' none := by
  go_enter Tryz.func151, Tryz.ntmps151
  go_wp2_with (go_at_call 158; refine (awake_any I _ hT).mono ?_; rintro e w' ⟨rfl, g⟩)
  go_ret
  exact ⟨rfl, g⟩

end Go.Proofs.YtbebdaglkjhbjaaGreatDoor.law11

/-
  Plain mathematics of descriptors: which may be, their order, their key, and what is read of it.
-/
namespace Go.Proofs.YtbebdaglkjhbjaaGreatDoor.em
open Go.Proofs.YtbebdaglkjhbjaaGreatDoor.vi Go.Proofs.YtbebdaglkjhbjaaGreatDoor.um Go.Proofs.YtbebdaglkjhbjaaGreatDoor.wm
set_option linter.unusedVariables false
set_option linter.unusedSimpArgs false

def countE (n : Nat) : Nat := if n = 0 then 12 else if 16 < n then 13 else 0
def behindE (a b : Ent) : Nat := if a.key = b.key then 14 else if 0 < cmpE a b then 7 else 0
def behindO (p : Option Ent) (b : Ent) : Nat := p.elim 0 fun a => behindE a b
/-- Entry by entry. -/
def walkE : Option Ent → List Ent → Nat
  | _, [] => 0
  | p, x :: r => if checkE x ≠ 0 then checkE x else if behindO p x ≠ 0 then behindO p x else walkE (some x) r
def checkD (l : List Ent) : Nat := if countE l.length ≠ 0 then countE l.length else walkE none l
def firstE : List Ent → Nat
  | [] => 0
  | x :: r => if checkE x ≠ 0 then checkE x else firstE r
def insE (x : Ent) : List Ent → List Ent
  | [] => [x]
  | t :: r => if cmpE t x < 0 then t :: insE x r else x :: t :: r
def sortE (l : List Ent) : List Ent := l.foldl (fun out x => insE x out) []
def twiceE : List Ent → Bool
  | [] => false
  | [_] => false
  | a :: b :: r => decide (a.key = b.key) || twiceE (b :: r)
def ofD (l : List Ent) : List Ent × Nat :=
  if countE l.length ≠ 0 then ([], countE l.length) else if firstE l ≠ 0 then ([], firstE l) else if twiceE (sortE l) = true then ([], 14) else (sortE l, 0)
def keyD (l : List Ent) : List UInt8 := enc l.length ++ (l.map putE).flatten
/-- So many entries, behind another one, what is behind, the code. -/
def readE : Nat → Option Ent → List UInt8 → List Ent × List UInt8 × Nat
  | 0, _, L => ([], L, 0)
  | n + 1, p, L =>
    if (nextE L).2.2 ≠ 0 then ([], [], (nextE L).2.2)
    else if behindO p (nextE L).1 ≠ 0 then ([], [], behindO p (nextE L).1)
    else if (readE n (some (nextE L).1) (nextE L).2.1).2.2 ≠ 0 then ([], [], (readE n (some (nextE L).1) (nextE L).2.1).2.2)
    else ((nextE L).1 :: (readE n (some (nextE L).1) (nextE L).2.1).1, (readE n (some (nextE L).1) (nextE L).2.1).2.1, 0)
def nextD (L : List UInt8) : List Ent × List UInt8 × Nat :=
  if (getR L).2.2 ≠ 0 then ([], [], (getR L).2.2) else if countE (getR L).1 ≠ 0 then ([], [], countE (getR L).1) else readE (getR L).1 none (L.drop (getR L).2.1)
def parseD (L : List UInt8) : List Ent × Nat :=
  if (nextD L).2.2 ≠ 0 then ([], (nextD L).2.2) else if (nextD L).2.1 ≠ [] then ([], 10) else ((nextD L).1, 0)
def getD (key : ByteArray) : List Ent → ByteArray × Bool
  | [] => (ByteArray.empty, false)
  | x :: r => if x.key = key then (x.value, true) else getD key r

theorem countE_lt (n : Nat) : countE n < 64 := by unfold countE; split <;> (try split) <;> omega
theorem behindE_lt (a b : Ent) : behindE a b < 64 := by unfold behindE; split <;> (try split) <;> omega
theorem behindO_lt (p : Option Ent) (b : Ent) : behindO p b < 64 := by cases p <;> simp [behindO, behindE_lt]
theorem walkE_lt : ∀ (l : List Ent) (p : Option Ent), walkE p l < 64
  | [], _ => by simp [walkE]
  | x :: r, p => by
    unfold walkE
    split
    · exact checkE_lt x
    · split
      · exact behindO_lt _ _
      · exact walkE_lt r _
theorem checkD_lt (l : List Ent) : checkD l < 64 := by unfold checkD; split; exact countE_lt _; exact walkE_lt _ _
theorem firstE_lt : ∀ l : List Ent, firstE l < 64
  | [] => by simp [firstE]
  | x :: r => by unfold firstE; split; exact checkE_lt x; exact firstE_lt r
theorem ofD_lt (l : List Ent) : (ofD l).2 < 64 := by
  unfold ofD
  split
  · exact countE_lt _
  · split
    · exact firstE_lt _
    · split <;> simp
theorem readE_lt : ∀ (n : Nat) (p : Option Ent) (L : List UInt8), (readE n p L).2.2 < 64
  | 0, _, _ => by simp [readE]
  | n + 1, p, L => by
    unfold readE
    split
    · exact nextE_lt _
    · split
      · exact behindO_lt _ _
      · split
        · exact readE_lt n _ _
        · simp
theorem nextD_lt (L : List UInt8) : (nextD L).2.2 < 64 := by
  have := getR_bounds L
  unfold nextD
  split
  · show (getR L).2.2 < 64; omega
  · split
    · exact countE_lt _
    · exact readE_lt _ _ _
theorem readE_err : ∀ (n : Nat) (p : Option Ent) (L : List UInt8), (readE n p L).2.2 ≠ 0 → (readE n p L).1 = [] ∧ (readE n p L).2.1 = []
  | 0, _, _, h => by simp [readE] at h
  | n + 1, p, L, h => by
    unfold readE at h ⊢
    split
    · exact ⟨rfl, rfl⟩
    · rename_i h1
      rw [if_neg h1] at h
      split
      · exact ⟨rfl, rfl⟩
      · rename_i h2
        rw [if_neg h2] at h
        split
        · exact ⟨rfl, rfl⟩
        · rename_i h3
          rw [if_neg h3] at h
          exact absurd rfl h
theorem nextD_err {L : List UInt8} (h : (nextD L).2.2 ≠ 0) : (nextD L).1 = [] ∧ (nextD L).2.1 = [] := by
  unfold nextD at h ⊢
  split
  · exact ⟨rfl, rfl⟩
  · rename_i h1
    rw [if_neg h1] at h
    split
    · exact ⟨rfl, rfl⟩
    · rename_i h2
      rw [if_neg h2] at h
      exact readE_err _ _ _ h
theorem parseD_err {L : List UInt8} (h : (parseD L).2 ≠ 0) : (parseD L).1 = [] := by
  unfold parseD at h ⊢
  split
  · rfl
  · rename_i h1
    rw [if_neg h1] at h
    split
    · rfl
    · rename_i h2
      rw [if_neg h2] at h
      exact absurd rfl h

/-! Rising keys -/
def lessE (a b : Ent) : Prop := Op.bytesLess a.key.data.toList b.key.data.toList = true
def RisE (l : List Ent) : Prop := l.Pairwise lessE
theorem lessE_trans {a b c : Ent} (h1 : lessE a b) (h2 : lessE b c) : lessE a c := less_trans _ _ _ h1 h2
theorem lessE_ne {a b : Ent} (h : lessE a b) : a.key ≠ b.key := fun e => by unfold lessE at h; rw [e, less_irrefl] at h; cases h
theorem behindE_zero (a b : Ent) : behindE a b = 0 ↔ lessE a b := by
  unfold behindE lessE
  by_cases h : a.key = b.key
  · rw [if_pos h]
    simp [h, less_irrefl]
  · rw [if_neg h]
    have hc : cmpE a b = cmpB a.key b.key := if_neg h
    rw [hc, ← cmpB_lt]
    have h0 : cmpB a.key b.key ≠ 0 := fun e => h ((cmpB_zero _ _).1 e)
    rcases cmpB_cases a.key b.key with e | e | e
    · rw [e]; simp
    · exact absurd e h0
    · rw [e]; simp
theorem walkE_ok : ∀ (l : List Ent) (p : Option Ent), walkE p l = 0 ↔ ((∀ x ∈ l, checkE x = 0) ∧ RisE (p.toList ++ l))
  | [], p => by cases p <;> simp [walkE, RisE]
  | x :: r, p => by
    have ih := walkE_ok r (some x)
    unfold walkE
    by_cases h1 : checkE x = 0
    · rw [if_neg (by simp [h1])]
      by_cases h2 : behindO p x = 0
      · rw [if_neg (by simp [h2]), ih]
        have hp : ∀ a, p = some a → lessE a x := fun a e => by subst e; exact (behindE_zero a x).1 (by simpa [behindO] using h2)
        constructor
        · rintro ⟨k1, k2⟩
          refine ⟨fun y hy => ?_, ?_⟩
          · rcases List.mem_cons.1 hy with rfl | hy
            · exact h1
            · exact k1 y hy
          · cases p with
            | none => simpa using k2
            | some a =>
              have ha := hp a rfl
              have k3 := List.pairwise_cons.1 (by simpa using k2 : RisE (x :: r))
              refine List.pairwise_cons.2 ⟨fun y hy => ?_, List.pairwise_cons.2 k3⟩
              rcases List.mem_cons.1 (by simpa using hy : y ∈ x :: r) with rfl | hy
              · exact ha
              · exact lessE_trans ha (k3.1 y hy)
        · rintro ⟨k1, k2⟩
          refine ⟨fun y hy => k1 y (List.mem_cons_of_mem _ hy), ?_⟩
          cases p with
          | none => simpa using k2
          | some a => exact (List.pairwise_cons.1 k2).2
      · rw [if_pos h2]
        constructor
        · intro e; exact absurd e h2
        · rintro ⟨k1, k2⟩
          cases p with
          | none => simp [behindO] at h2
          | some a =>
            have := (List.pairwise_cons.1 k2).1 x (by simp)
            exact absurd ((behindE_zero a x).2 this) (by simpa [behindO] using h2)
    · rw [if_pos h1]
      exact ⟨fun e => absurd e h1, fun k => absurd (k.1 x (by simp)) h1⟩
theorem checkD_ok (l : List Ent) : checkD l = 0 ↔ (1 ≤ l.length ∧ l.length ≤ 16 ∧ (∀ x ∈ l, checkE x = 0) ∧ RisE l) := by
  have := walkE_ok l none
  unfold checkD
  by_cases h : countE l.length = 0
  · rw [if_neg (by simp [h]), this]
    unfold countE at h
    split at h
    · omega
    · split at h
      · omega
      · exact ⟨fun k => ⟨by omega, by omega, k.1, by simpa using k.2⟩, fun k => ⟨k.2.2.1, by simpa using k.2.2.2⟩⟩
  · rw [if_pos h]
    constructor
    · intro e; exact absurd e h
    · rintro ⟨h1, h2, -⟩
      exact absurd (by unfold countE; rw [if_neg (by omega), if_neg (by omega)]) h

/-! Written and read -/
theorem readE_put : ∀ (l : List Ent) (p : Option Ent) (r : List UInt8), walkE p l = 0 → readE l.length p ((l.map putE).flatten ++ r) = (l, r, 0)
  | [], _, r, _ => by simp [readE]
  | x :: l, p, r, h => by
    unfold walkE at h
    by_cases h1 : checkE x = 0
    · rw [if_neg (by simp [h1])] at h
      by_cases h2 : behindO p x = 0
      · rw [if_neg (by simp [h2])] at h
        have hs := checkE_small h1
        have hn := nextE_put x (by omega) (by omega) ((l.map putE).flatten ++ r)
        rw [if_neg (by simp [h1])] at hn
        have ih := readE_put l (some x) r h
        show readE (l.length + 1) p _ = _
        rw [List.map_cons, List.flatten_cons, List.append_assoc]
        unfold readE
        rw [hn]
        simp only
        rw [ih]
        simp [h2]
      · rw [if_pos h2] at h; exact absurd h h2
    · rw [if_pos h1] at h; exact absurd h h1
theorem readE_ok : ∀ (n : Nat) (p : Option Ent) (L : List UInt8), (readE n p L).2.2 = 0 → L = ((readE n p L).1.map putE).flatten ++ (readE n p L).2.1 ∧ (readE n p L).1.length = n ∧ walkE p (readE n p L).1 = 0
  | 0, p, L, _ => by simp [readE, walkE]
  | n + 1, p, L, h => by
    by_cases h1 : (nextE L).2.2 = 0
    · by_cases h2 : behindO p (nextE L).1 = 0
      · by_cases h3 : (readE n (some (nextE L).1) (nextE L).2.1).2.2 = 0
        · have e : readE (n + 1) p L = ((nextE L).1 :: (readE n (some (nextE L).1) (nextE L).2.1).1, (readE n (some (nextE L).1) (nextE L).2.1).2.1, 0) := by
            rw [readE, if_neg (by simp [h1]), if_neg (by simp [h2]), if_neg (by simp [h3])]
          rw [e]
          obtain ⟨i1, i2, i3⟩ := readE_ok n (some (nextE L).1) (nextE L).2.1 h3
          obtain ⟨j1, j2⟩ := nextE_ok h1
          refine ⟨?_, by simp [i2], ?_⟩
          · simp only [List.map_cons, List.flatten_cons]
            rw [List.append_assoc, ← i1, ← j1]
          · unfold walkE
            rw [if_neg (by simp [j2]), if_neg (by simp [h2]), i3]
        · rw [readE, if_neg (by simp [h1]), if_neg (by simp [h2]), if_pos h3] at h
          exact absurd h h3
      · rw [readE, if_neg (by simp [h1]), if_pos h2] at h
        exact absurd h h2
    · rw [readE, if_pos h1] at h
      exact absurd h h1

theorem nextD_key {l : List Ent} (h : checkD l = 0) (r : List UInt8) : nextD (keyD l ++ r) = (l, r, 0) := by
  have hl := (checkD_ok l).1 h
  have hw : walkE none l = 0 := (walkE_ok l none).2 ⟨hl.2.2.1, by simpa using hl.2.2.2⟩
  have hg : getR (keyD l ++ r) = (l.length, (enc l.length).length, 0) := by
    unfold keyD
    rw [List.append_assoc]
    exact getR_enc (by omega) _
  have hc : countE l.length = 0 := by unfold countE; rw [if_neg (by omega), if_neg (by omega)]
  unfold nextD
  rw [hg]
  rw [if_neg (by simp), if_neg (by simp [hc])]
  simp only
  unfold keyD
  rw [List.append_assoc, List.drop_left]
  exact readE_put l none r hw
theorem nextD_ok {L : List UInt8} (h : (nextD L).2.2 = 0) : L = keyD (nextD L).1 ++ (nextD L).2.1 ∧ checkD (nextD L).1 = 0 := by
  by_cases h1 : (getR L).2.2 = 0
  · by_cases h2 : countE (getR L).1 = 0
    · have e : nextD L = readE (getR L).1 none (L.drop (getR L).2.1) := by
        unfold nextD
        rw [if_neg (by simp [h1]), if_neg (by simp [h2])]
      rw [e] at h ⊢
      obtain ⟨i1, i2, i3⟩ := readE_ok _ _ _ h
      refine ⟨?_, ?_⟩
      · unfold keyD
        rw [i2, List.append_assoc, ← i1, enc_getR h1, List.take_append_drop]
      · unfold checkD
        rw [i2, if_neg (by simp [h2]), i3]
    · unfold nextD at h
      rw [if_neg (by simp [h1]), if_pos h2] at h
      exact absurd h h2
  · unfold nextD at h
    rw [if_pos h1] at h
    exact absurd h h1
theorem parseD_key {l : List Ent} (h : checkD l = 0) : parseD (keyD l) = (l, 0) := by
  have := nextD_key h []
  rw [List.append_nil] at this
  unfold parseD
  rw [this]
  simp
theorem parseD_ok {L : List UInt8} (h : (parseD L).2 = 0) : keyD (parseD L).1 = L ∧ checkD (parseD L).1 = 0 := by
  by_cases h1 : (nextD L).2.2 = 0
  · by_cases h2 : (nextD L).2.1 = []
    · have e : parseD L = ((nextD L).1, 0) := by unfold parseD; rw [if_neg (by simp [h1]), if_neg (by simp [h2])]
      obtain ⟨i1, i2⟩ := nextD_ok h1
      rw [h2, List.append_nil] at i1
      rw [e]
      exact ⟨i1.symm, i2⟩
    · unfold parseD at h
      rw [if_neg (by simp [h1]), if_pos h2] at h
      simp at h
  · unfold parseD at h
    rw [if_pos h1] at h
    exact absurd h h1
/-- Neither key is the beginning of another one's. -/
theorem key_apart {x y : List Ent} (hx : checkD x = 0) (hy : checkD y = 0) {r : List UInt8} (h : keyD y = keyD x ++ r) : x = y ∧ r = [] := by
  have h1 := nextD_key hx r
  have h2 := nextD_key hy []
  rw [List.append_nil, h, h1] at h2
  simp at h2
  exact h2

/-! In order -/
theorem insE_perm (x : Ent) : ∀ l : List Ent, (insE x l).Perm (x :: l)
  | [] => List.Perm.refl _
  | t :: r => by
    unfold insE
    split
    · exact ((insE_perm x r).cons t).trans (List.Perm.swap x t r)
    · exact List.Perm.refl _
theorem sort_perm (l : List Ent) : (sortE l).Perm l := by
  unfold sortE
  suffices h : ∀ out : List Ent, (l.foldl (fun o x => insE x o) out).Perm (out ++ l) by simpa using h []
  induction l with
  | nil => intro out; simp
  | cons x r ih =>
    intro out
    refine (ih (insE x out)).trans ?_
    have := (insE_perm x out).append_right r
    exact this.trans (by simpa using (List.perm_middle (a := x) (l₁ := out) (l₂ := r)).symm)
def leE (a b : Ent) : Prop := cmpE a b ≤ 0
theorem leE_trans {a b c : Ent} (h1 : leE a b) (h2 : leE b c) : leE a c := by
  unfold leE at *
  by_cases e1 : cmpE a b = 0
  · rw [(cmpE_zero a b).1 e1]; exact h2
  · by_cases e2 : cmpE b c = 0
    · rw [← (cmpE_zero b c).1 e2]; exact h1
    · have := cmpE_trans (a := a) (b := b) (c := c) (by omega) (by omega)
      omega
theorem insE_sorted (x : Ent) : ∀ l : List Ent, l.Pairwise leE → (insE x l).Pairwise leE
  | [], _ => List.pairwise_singleton _ _
  | t :: r, h => by
    obtain ⟨h1, h2⟩ := List.pairwise_cons.1 h
    unfold insE
    split
    · rename_i hc
      refine List.pairwise_cons.2 ⟨fun y hy => ?_, insE_sorted x r h2⟩
      rcases List.mem_cons.1 ((insE_perm x r).mem_iff.1 hy) with rfl | hy
      · unfold leE; omega
      · exact h1 y hy
    · rename_i hc
      have hxt : leE x t := by unfold leE; rw [cmpE_neg]; omega
      refine List.pairwise_cons.2 ⟨fun y hy => ?_, h⟩
      rcases List.mem_cons.1 hy with rfl | hy
      · exact hxt
      · exact leE_trans hxt (h1 y hy)
theorem sort_sorted (l : List Ent) : (sortE l).Pairwise leE := by
  unfold sortE
  suffices h : ∀ out : List Ent, out.Pairwise leE → (l.foldl (fun o x => insE x o) out).Pairwise leE by exact h [] List.Pairwise.nil
  induction l with
  | nil => intro out h; exact h
  | cons x r ih => intro out h; exact ih _ (insE_sorted x out h)
theorem sorted_same {a b : List Ent} (ha : a.Pairwise leE) (hb : b.Pairwise leE) (h : a.Perm b) : a = b := by
  refine h.eq_of_pairwise (fun x y _ _ h1 h2 => ?_) ha hb
  unfold leE at h1 h2
  rw [cmpE_neg] at h2
  exact (cmpE_zero x y).1 (by omega)
theorem sort_of_perm {a b : List Ent} (h : a.Perm b) : sortE a = sortE b := sorted_same (sort_sorted a) (sort_sorted b) ((sort_perm a).trans (h.trans (sort_perm b).symm))
theorem twice_rise : ∀ {l : List Ent}, l.Pairwise leE → (twiceE l = false ↔ RisE l)
  | [], _ => by simp [twiceE, RisE]
  | [x], _ => by simp [twiceE, RisE]
  | x :: y :: r, h => by
    obtain ⟨h1, h2⟩ := List.pairwise_cons.1 h
    have ih := twice_rise h2
    have hxy := h1 y (by simp)
    have hk : x.key ≠ y.key → lessE x y := fun hne => by
      unfold leE at hxy
      have hc : cmpE x y = cmpB x.key y.key := if_neg hne
      rw [hc] at hxy
      have h0 : cmpB x.key y.key ≠ 0 := fun e => hne ((cmpB_zero _ _).1 e)
      exact (cmpB_lt _ _).1 (by omega)
    unfold twiceE
    rw [Bool.or_eq_false_iff, decide_eq_false_iff_not, ih]
    constructor
    · rintro ⟨k1, k2⟩
      refine List.pairwise_cons.2 ⟨fun z hz => ?_, k2⟩
      rcases List.mem_cons.1 hz with rfl | hz
      · exact hk k1
      · exact lessE_trans (hk k1) ((List.pairwise_cons.1 k2).1 z hz)
    · intro k
      obtain ⟨k1, k2⟩ := List.pairwise_cons.1 k
      exact ⟨lessE_ne (k1 y (by simp)), k2⟩
theorem firstE_zero : ∀ l : List Ent, firstE l = 0 ↔ ∀ x ∈ l, checkE x = 0
  | [] => by simp [firstE]
  | x :: r => by
    have ih := firstE_zero r
    unfold firstE
    by_cases h : checkE x = 0
    · rw [if_neg (by simp [h]), ih]; simp [h]
    · rw [if_pos h]
      exact ⟨fun e => absurd e h, fun k => absurd (k x (by simp)) h⟩
/-- What comes of any entries may be. -/
theorem ofD_ok {l : List Ent} (h : (ofD l).2 = 0) : (ofD l).1 = sortE l ∧ checkD (sortE l) = 0 := by
  unfold ofD at h ⊢
  by_cases h1 : countE l.length = 0
  · rw [if_neg (by simp [h1])] at h ⊢
    by_cases h2 : firstE l = 0
    · rw [if_neg (by simp [h2])] at h ⊢
      by_cases h3 : twiceE (sortE l) = true
      · rw [if_pos h3] at h; simp at h
      · rw [if_neg h3]
        have hp := sort_perm l
        have hc := (firstE_zero l).1 h2
        refine ⟨rfl, (checkD_ok _).2 ?_⟩
        rw [hp.length_eq]
        unfold countE at h1
        split at h1
        · omega
        · split at h1
          · omega
          · exact ⟨by omega, by omega, fun x hx => hc x (hp.mem_iff.1 hx), (twice_rise (sort_sorted l)).1 (by simpa using h3)⟩
    · rw [if_pos h2] at h; exact absurd h h2
  · rw [if_pos h1] at h; exact absurd h h1
theorem firstE_perm {a b : List Ent} (h : a.Perm b) (h0 : firstE a = 0) : firstE b = 0 := (firstE_zero b).2 fun x hx => (firstE_zero a).1 h0 x (h.mem_iff.2 hx)
theorem ofD_perm {a b : List Ent} (h : a.Perm b) (h0 : (ofD a).2 = 0) : ofD b = ((ofD a).1, 0) := by
  obtain ⟨h1, h2⟩ := ofD_ok h0
  rw [h1]
  have hl := h.length_eq
  have hs := sort_of_perm h
  unfold ofD at h0 ⊢
  by_cases k1 : countE a.length = 0
  · rw [if_neg (by simp [k1])] at h0
    by_cases k2 : firstE a = 0
    · rw [if_neg (by simp [k2])] at h0
      by_cases k3 : twiceE (sortE a) = true
      · rw [if_pos k3] at h0; simp at h0
      · rw [if_neg (by rw [← hl]; simp [k1]), if_neg (by simp [firstE_perm h k2]), if_neg (by rw [← hs]; exact k3), hs]
    · rw [if_pos k2] at h0; exact absurd h0 k2
  · rw [if_pos k1] at h0; exact absurd h0 k1

end Go.Proofs.YtbebdaglkjhbjaaGreatDoor.em

/-
  Rows of entries in memory: one that is read, one of the call's own, append.
-/
namespace Go.Proofs.YtbebdaglkjhbjaaGreatDoor.em
open Go.RowKit Go.Proofs.YtbebdaglkjhbjaaGreatDoor.tr
set_option linter.unusedVariables false
set_option linter.unusedSimpArgs false

instance : Inhabited Ent := ⟨zeroE⟩

/-- The cells of entries, two each. -/
def flatE : List Ent → List Value
  | [] => []
  | x :: r => .string x.key :: .string x.value :: flatE r
theorem flatE_len : ∀ l : List Ent, (flatE l).length = l.length * 2
  | [] => rfl
  | x :: r => by simp [flatE, flatE_len r]; omega
theorem flatE_app : ∀ a b : List Ent, flatE (a ++ b) = flatE a ++ flatE b
  | [], _ => rfl
  | x :: r, b => by simp [flatE, flatE_app r b]
theorem flatE_get : ∀ (l : List Ent) (i : Nat) (x : Ent), l[i]? = some x → (flatE l)[i * 2]? = some (.string x.key) ∧ (flatE l)[i * 2 + 1]? = some (.string x.value)
  | [], i, x, h => by simp at h
  | y :: r, 0, x, h => by simp at h; subst h; exact ⟨rfl, rfl⟩
  | y :: r, i + 1, x, h => by
    have := flatE_get r i x (by simpa using h)
    rw [show (i + 1) * 2 = i * 2 + 1 + 1 by omega]
    simpa [flatE] using this
theorem flatE_mem : ∀ (l : List Ent) (j : Nat) (u : Value), (flatE l)[j]? = some u → ∃ i x, l[i]? = some x ∧ (j = i * 2 ∧ u = .string x.key ∨ j = i * 2 + 1 ∧ u = .string x.value)
  | [], j, u, h => by simp [flatE] at h
  | y :: r, 0, u, h => by simp [flatE] at h; exact ⟨0, y, rfl, .inl ⟨rfl, h.symm⟩⟩
  | y :: r, 1, u, h => by simp [flatE] at h; exact ⟨0, y, rfl, .inr ⟨rfl, h.symm⟩⟩
  | y :: r, j + 2, u, h => by
    obtain ⟨i, x, h1, h2⟩ := flatE_mem r j u (by simpa [flatE] using h)
    refine ⟨i + 1, x, by simpa using h1, ?_⟩
    rcases h2 with ⟨h2, h3⟩ | ⟨h2, h3⟩
    · exact .inl ⟨by omega, h3⟩
    · exact .inr ⟨by omega, h3⟩

/-- A slice of entries that is read: nil or empty, or a row of cells in a block below B. -/
def Es (B : Nat) (w : World) (v : Value) (xs : List Ent) : Prop :=
  ∃ a cap, v = .slice a xs.length cap ∧ (xs = [] ∨ ∃ b off, a = some ⟨b, off, none⟩ ∧ b < B ∧ xs.length ≤ cap ∧ cap ≤ maxLen ∧ ∀ (i : Nat) (x : Ent), xs[i]? = some x → w.cell? ⟨b, off + i * 2, none⟩ = some (.string x.key) ∧ w.cell? ⟨b, off + i * 2 + 1, none⟩ = some (.string x.value))

section
variable {B : Nat} {w w' : World} {v : Value} {xs : List Ent}
theorem Es.shape (h : Es B w v xs) : ∃ a cap, v = .slice a xs.length cap := by obtain ⟨a, cap, e, -⟩ := h; exact ⟨a, cap, e⟩
theorem Es.nil (B : Nat) (w : World) (a : Option Addr) (cap : Nat) : Es B w (.slice a 0 cap) [] := ⟨a, cap, rfl, .inl rfl⟩
theorem Es.kept {T : Nat → Prop} (h : Es B w v xs) (g : Chg T w w') (hT : ∀ k, T k → B ≤ k) : Es B w' v xs := by
  obtain ⟨a, cap, e, h⟩ := h
  refine ⟨a, cap, e, ?_⟩
  rcases h with h | ⟨b, off, h1, h2, h3, h4, h5⟩
  · exact .inl h
  · have hb : ¬ T b := fun hb => by have := hT b hb; omega
    exact .inr ⟨b, off, h1, h2, h3, h4, fun i x hx => ⟨g.cell (h5 i x hx).1 hb, g.cell (h5 i x hx).2 hb⟩⟩
theorem Es.grown (h : Es B w v xs) (g : w.grownBy w' none) : Es B w' v xs := h.kept (T := fun _ => False) (Chg.of_none g) (fun _ e => e.elim)
theorem Es.mono {B' : Nat} (h : Es B w v xs) (hb : B ≤ B') : Es B' w v xs := by
  obtain ⟨a, cap, e, h⟩ := h
  exact ⟨a, cap, e, h.imp id fun ⟨b, off, h1, h2, h3⟩ => ⟨b, off, h1, by omega, h3⟩⟩
theorem Es.low (h : Es B w v xs) : Es w.heap.size w v xs := by
  obtain ⟨a, cap, e, h⟩ := h
  refine ⟨a, cap, e, ?_⟩
  rcases h with h | ⟨b, off, h1, h2, h3, h4, h5⟩
  · exact .inl h
  · cases xs with
    | nil => exact .inl rfl
    | cons x r => exact .inr ⟨b, off, h1, World.block_lt_of_cell? w _ (h5 0 x rfl).1, h3, h4, h5⟩
theorem Es.at (h : Es B w v xs) {i : Nat} {x : Ent} (hx : xs[i]? = some x) : ∃ b off cap, v = .slice (some ⟨b, off, none⟩) xs.length cap ∧ b < B ∧ xs.length ≤ cap ∧ cap ≤ maxLen ∧
    w.cell? ⟨b, off + i * 2, none⟩ = some (.string x.key) ∧ w.cell? ⟨b, off + i * 2 + 1, none⟩ = some (.string x.value) := by
  obtain ⟨a, cap, e, h⟩ := h
  rcases h with rfl | ⟨b, off, rfl, h2, h3, h4, h5⟩
  · simp at hx
  · exact ⟨b, off, cap, e, h2, h3, h4, h5 i x hx⟩
theorem Es.take {a : Option Addr} {n cap : Nat} (h : Es B w (.slice a n cap) xs) (i : Nat) (hi : i ≤ n) : Es B w (.slice a i cap) (xs.take i) := by
  obtain ⟨a', cap', e, h⟩ := h
  simp only [Value.slice.injEq] at e
  obtain ⟨rfl, rfl, rfl⟩ := e
  have hl : (xs.take i).length = i := by simp; omega
  refine ⟨a, cap, by rw [hl], ?_⟩
  rcases h with rfl | ⟨b, off, h1, h2, h3, h4, h5⟩
  · exact .inl (by simp)
  · refine .inr ⟨b, off, h1, h2, by omega, h4, fun j x hx => ?_⟩
    have hj : j < i := by have := (List.getElem?_eq_some_iff.1 hx).1; omega
    rw [List.getElem?_take, if_pos hj] at hx
    exact h5 j x hx
theorem Es.drop {a : Option Addr} {n cap : Nat} (h : Es B w (.slice a n cap) xs) (k : Nat) (hk : k ≤ n) (q : Option Addr) (hq : ∀ g off, a = some ⟨g, off, none⟩ → k < n → q = some ⟨g, off + k * 2, none⟩) : Es B w (.slice q (n - k) (cap - k)) (xs.drop k) := by
  obtain ⟨a', cap', e, h⟩ := h
  simp only [Value.slice.injEq] at e
  obtain ⟨rfl, rfl, rfl⟩ := e
  refine ⟨q, cap - k, by rw [List.length_drop], ?_⟩
  rcases h with rfl | ⟨b, off, h1, h2, h3, h4, h5⟩
  · exact .inl (by simp)
  · by_cases hlt : k < xs.length
    · refine .inr ⟨b, off + k * 2, hq b off h1 hlt, h2, by rw [List.length_drop]; omega, by omega, fun j x hx => ?_⟩
      rw [List.getElem?_drop] at hx
      have := h5 _ _ hx
      rw [show off + (k + j) * 2 = off + k * 2 + j * 2 by omega] at this
      exact this
    · exact .inl (List.drop_eq_nil_of_le (by omega))
end

/-- A row of entries of the call's own. -/
def OwnE (ty : TypeId) (base : Nat) (w : World) (v : Value) (xs : List Ent) : Prop := w.ownsRow base ty 2 v xs.length (flatE xs)

section
variable {ty : TypeId} {base : Nat} {w w' : World} {v : Value} {xs : List Ent}
theorem OwnE.nil (ty : TypeId) (base : Nat) (w : World) : OwnE ty base w (.slice none 0 0) [] := World.ownsRow_nil w base ty 2
theorem OwnE.es (h : OwnE ty base w v xs) : Es w.heap.size w v xs := by
  rcases h.2 with ⟨e, h0⟩ | ⟨g, cap, cur, e, hb, hg, hnc, hcm, hcs, htake⟩
  · have : xs = [] := List.length_eq_zero_iff.1 h0
    subst this
    exact ⟨none, 0, e, .inl rfl⟩
  · subst e
    have hc := World.ownsRow.cells h (g := g) rfl
    have ha : ∀ j, (⟨g, 0, none⟩ : Addr).add j = ⟨g, 0 + j, none⟩ := fun j => Addr.add_lit ..
    simp only [ha] at hc
    exact ⟨_, _, rfl, .inr ⟨g, 0, rfl, (Array.getElem?_eq_some_iff.1 hg).1, hnc, hcm, fun i x hx => ⟨hc _ _ (flatE_get xs i x hx).1, by rw [Nat.add_assoc]; exact hc _ _ (flatE_get xs i x hx).2⟩⟩⟩
theorem OwnE.mono {base' : Nat} (h : OwnE ty base w v xs) (hb : base' ≤ base) : OwnE ty base' w v xs := World.ownsRow.mono h hb
theorem OwnE.kept {row : Option Nat} (h : OwnE ty base w v xs) (hg : w.grownBy w' row) (hne : v.ownBlock = none ∨ v.ownBlock ≠ row) : OwnE ty base w' v xs := World.ownsRow.kept h hg hne
theorem OwnE.grown (h : OwnE ty base w v xs) (hg : w.grownBy w' none) : OwnE ty base w' v xs := h.kept hg (by cases v.ownBlock <;> simp)
theorem OwnE.lt (h : OwnE ty base w v xs) : ∀ k, v.ownBlock = some k → base ≤ k ∧ k < w.heap.size := World.ownsRow.lt h
end

section
variable {P : Program}

theorem run_append_none (w : World) (base : Nat) (t tr e : TypeId) (i : TypeInfo) (size c : Nat) (ht : P.underlying t = some (.slice e)) (hi : P.info? e = some i)
    (v : Value) (n : Nat) (xs : List Value) (hown : w.ownsRow base e size v n xs) :
    (Builtin.append_ #[t, t] tr #[v, .slice none 0 c]).run P w = .ok v w := by
  rcases hown.2 with ⟨rfl, rfl⟩ | ⟨g, cap, cur, rfl, _, _, hnc, _⟩
  · simp [Builtin.append_, run_underlying ht, sizeOf, typeInfo, hi, Builtin.lenOf, Builtin.firstCells]
  · simp [Builtin.append_, run_underlying ht, sizeOf, typeInfo, hi, Builtin.lenOf, Builtin.firstCells, hnc, storeCells]

/-- 'append(v, s...)' of entries that are read. -/
theorem run_append_es (w : World) (sl ty tr : TypeId) (z : Value) (ht : P.underlying sl = some (.slice ty)) (hinfo : (P.info? ty).map (fun i => (i.zero, i.size, i.bytes)) = some (some z, 2, 32)) (hz2 : z.cells.size = 2)
    (base B : Nat) (v : Value) (ts us : List Ent) (hown : OwnE ty base w v ts) (x : Value) (hr : Es B w x us) (hlen : ts.length + us.length ≤ 1000000) (hbase : base ≤ w.heap.size) :
    ∃ v' w', (Builtin.append_ #[sl, sl] tr #[v, x]).run P w = .ok v' w' ∧ OwnE ty base w' v' (ts ++ us) ∧ w.grownBy w' v.ownBlock ∧ (v'.ownBlock = v.ownBlock ∨ v'.ownBlock = some w.heap.size) := by
  obtain ⟨i, hi, hz, hsize, hby⟩ := info_parts hinfo
  obtain ⟨a, c, rfl, h⟩ := hr
  cases a with
  | none =>
    obtain rfl : us = [] := by
      rcases h with h | ⟨b, off, h, -⟩
      · exact h
      · cases h
    refine ⟨v, w, run_append_none (P := P) w base sl tr ty i 2 c ht hi v _ _ hown, ?_, ⟨rfl, rfl, rfl, Nat.le_refl _, fun _ _ _ => rfl⟩, .inl rfl⟩
    rw [List.append_nil]; exact hown
  | some a =>
    obtain ⟨v', w', hrun, ho', g, _, hat⟩ := run_append_own_at (P := P) w base sl tr ty i z 2 32 ht hi hz hsize hby hz2 (by omega) v ts.length (flatE ts) hown a us.length c (flatE us) (flatE_len us)
      (fun j u hj => by
        obtain ⟨k, e, h1, h2⟩ := flatE_mem us j u hj
        rcases h with h | ⟨b, off, hb, -, -, -, h5⟩
        · rw [h] at h1; simp at h1
        · cases hb
          rw [show (⟨b, off, none⟩ : Addr).add j = ⟨b, off + j, none⟩ from Addr.add_lit ..]
          rcases h2 with ⟨rfl, rfl⟩ | ⟨rfl, rfl⟩
          · exact (h5 k e h1).1
          · rw [← Nat.add_assoc]; exact (h5 k e h1).2)
      (fun u hu => by
        obtain ⟨j, hj⟩ := List.getElem?_of_mem hu
        obtain ⟨k, e, h1, h2⟩ := flatE_mem us j u hj
        rcases h2 with ⟨-, rfl⟩ | ⟨-, rfl⟩ <;> rfl) (by unfold maxLen; omega) (by omega) hbase
    exact ⟨v', w', hrun, by unfold OwnE; rw [flatE_app, List.length_append]; exact ho', g, hat⟩

theorem es_one (w : World) (x : Ent) (ty : TypeId) : Es (w.heap.size + 1) (w.alloc (.cells #[.string x.key, .string x.value] ty)) (.slice (some ⟨w.heap.size, 0, none⟩) 1 1) [x] :=
  ⟨_, _, rfl, .inr ⟨w.heap.size, 0, rfl, by omega, by simp, by unfold maxLen; omega, fun i y hy => by
    have : i = 0 := by have := (List.getElem?_eq_some_iff.1 hy).1; simp at this; omega
    subst this
    simp at hy; subst hy
    exact ⟨by rw [cell_new]; rfl, by rw [cell_new]; rfl⟩⟩⟩

theorem wp_append_es {o : Oper} {a : Act} {w : World} {K : Act → World → Prop} {Q : Exit → Act → World → Prop} (s x : Operand) (sl ty : TypeId)
    (ho : o.op = .call { callee := .builtin .append, args := #[s, x], argTypes := #[sl, sl] }) (z : Value) (ht : P.underlying sl = some (.slice ty)) (hinfo : (P.info? ty).map (fun i => (i.zero, i.size, i.bytes)) = some (some z, 2, 32)) (hz2 : z.cells.size = 2)
    (base B : Nat) (v : Value) (ts us : List Ent) (hs : a.eval s = v) (hown : OwnE ty base w v ts) (u : Value) (hx : a.eval x = u) (hr : Es B w u us)
    (hlen : ts.length + us.length ≤ 1000000) (hbase : base ≤ w.heap.size)
    (h : ∀ v' w', OwnE ty base w' v' (ts ++ us) → w.grownBy w' v.ownBlock → (v'.ownBlock = v.ownBlock ∨ v'.ownBlock = some w.heap.size) → K (a.put o.dst v') w') :
    Oper.wp P o a w K Q := by
  obtain ⟨v', w', hr', h2, h3, h4⟩ := run_append_es (P := P) w sl ty o.type z ht hinfo hz2 base B v ts us hown u hr hlen hbase
  unfold Oper.wp execOp
  simp only [ho, resolve, invoke, builtin, Sem.run_bind, Sem.run_pure, Result.andThen_ok, List.map_toArray, List.map_cons, List.map_nil, hs, hx, hr']
  exact h v' w' h2 h3 h4

theorem wpList_append_es {ops : Array Oper} {rest : List Oper} {o : Oper} {a : Act} {w : World} {Q : Exit → Act → World → Prop} (hgd : o.guard = none) (s x : Operand) (sl ty : TypeId)
    (ho : o.op = .call { callee := .builtin .append, args := #[s, x], argTypes := #[sl, sl] }) (z : Value) (ht : P.underlying sl = some (.slice ty)) (hinfo : (P.info? ty).map (fun i => (i.zero, i.size, i.bytes)) = some (some z, 2, 32)) (hz2 : z.cells.size = 2)
    (base B : Nat) (v : Value) (ts us : List Ent) (hs : a.eval s = v) (hown : OwnE ty base w v ts) (u : Value) (hx : a.eval x = u) (hr : Es B w u us)
    (hlen : ts.length + us.length ≤ 1000000) (hbase : base ≤ w.heap.size)
    (h : ∀ v' w', OwnE ty base w' v' (ts ++ us) → w.grownBy w' v.ownBlock → (v'.ownBlock = v.ownBlock ∨ v'.ownBlock = some w.heap.size) → wpList P ops Q rest (a.put o.dst v') w') :
    wpList P ops Q (o :: rest) a w :=
  wpList_plain hgd fun K hK => wp_append_es s x sl ty ho z ht hinfo hz2 base B v ts us hs hown u hx hr hlen hbase fun v' w' h2 h3 h4 => hK _ _ (h v' w' h2 h3 h4)

theorem step_append_es {ops : Array Oper} {o : Oper} {a : Act} {w : World} {K : Act → World → Prop} {Q : Exit → Act → World → Prop} {E : Prop} (hgd : o.guard = none) (s x : Operand) (sl ty : TypeId)
    (ho : o.op = .call { callee := .builtin .append, args := #[s, x], argTypes := #[sl, sl] }) (z : Value) (ht : P.underlying sl = some (.slice ty)) (hinfo : (P.info? ty).map (fun i => (i.zero, i.size, i.bytes)) = some (some z, 2, 32)) (hz2 : z.cells.size = 2)
    (base B : Nat) (v : Value) (ts us : List Ent) (hs : a.eval s = v) (hown : OwnE ty base w v ts) (u : Value) (hx : a.eval x = u) (hr : Es B w u us)
    (hlen : ts.length + us.length ≤ 1000000) (hbase : base ≤ w.heap.size)
    (h : ∀ v' w', OwnE ty base w' v' (ts ++ us) → w.grownBy w' v.ownBlock → (v'.ownBlock = v.ownBlock ∨ v'.ownBlock = some w.heap.size) → K (a.put o.dst v') w') :
    if Region.wanted o (yielded ops a.tmps) = true then Oper.wp P o a w K Q else E := by
  have hw : Region.wanted o (yielded ops a.tmps) = true := by simp [Region.wanted, hgd]
  rw [if_pos hw]
  exact wp_append_es s x sl ty ho z ht hinfo hz2 base B v ts us hs hown u hx hr hlen hbase h
end

end Go.Proofs.YtbebdaglkjhbjaaGreatDoor.em

/-
  The developers' entries: Check, Put, Cmp, Next; package entry keeps its contracts.
-/
namespace Go.Proofs.YtbebdaglkjhbjaaGreatDoor.ee
open Go.RowKit Go.Proofs.YtbebdaglkjhbjaaGreatDoor.vi Go.Proofs.YtbebdaglkjhbjaaGreatDoor.um Go.Proofs.YtbebdaglkjhbjaaGreatDoor.wm Go.Proofs.YtbebdaglkjhbjaaGreatDoor.tr Go.Proofs.YtbebdaglkjhbjaaGreatDoor.em Go.Proofs.YtbebdaglkjhbjaaGreatDoor.cur Go.Proofs.YtbebdaglkjhbjaaGreatDoor.law11
set_option linter.unusedVariables false
set_option linter.unusedSimpArgs false

set_option maxRecDepth 100000 in
theorem check_any (x : Ent) (w : World) (h1 : x.key.size ≤ maxLen) (h2 : x.value.size ≤ maxLen) (hT : tb.Tab w) :
    Calls Tryz.prog 114 #[.agg #[.string x.key, .string x.value]] w fun e w' => e = .returned (.int .i64 (checkE x : Nat)) ∧ w.grownBy w' none := by
  have HK := Lib.hid (fun w1 (g : w.grownBy w1 none) => uu.check_any x.key 1 64 w1 h1 (tb.kept hT g))
  have HV := Lib.hid (fun w1 (g : w.grownBy w1 none) => uu.check_any x.value 0 256 w1 h2 (tb.kept hT g))
  have V0 := Lib.hid (EntV.new w 115 x)
  have G0 := Lib.hid (only_alloc (only_refl w none) (.cells #[.string x.key, .string x.value] 115))
  unfold checkE
  by_cases hc : checkN x.key 1 64 = 0
  · rw [if_neg (by simp [hc])]
    rw [hc] at HK
    clear hc hT h1 h2
    go_enter Tryz.func114, Tryz.ntmps114
    go_wp2_with fail
    refine (HK.out _ G0.out).mono ?_
    rintro e w1 ⟨rfl, g1⟩
    have V1 := Lib.hid (V0.out.grown g1)
    have G1 := Lib.hid (only_trans G0.out g1)
    obtain ⟨c0, c1⟩ := V1.out
    clear g1
    go_wp2_with fail
    refine (HV.out _ G1.out).mono ?_
    rintro e w2 ⟨rfl, g2⟩
    have G2 := Lib.hid (only_trans G1.out g2)
    clear g2
    go_wp2_with fail
    go_ret
    exact ⟨rfl, G2.out⟩
  · rw [if_pos hc]
    generalize checkN x.key 1 64 = q at *
    have hqb : ((q : Int) != 0) = true := by rw [bne_iff_ne]; omega
    clear hc hT h1 h2
    go_enter Tryz.func114, Tryz.ntmps114
    go_wp2_with fail
    refine (HK.out _ G0.out).mono ?_
    rintro e w1 ⟨rfl, g1⟩
    have G1 := Lib.hid (only_trans G0.out g1)
    clear g1
    go_wp2_with fail
    go_ret
    exact ⟨rfl, G1.out⟩

theorem tw_txt (s : ByteArray) : encB s.size ++ s = txt (tw s) := by
  apply ByteArray.ext
  simp [tw, txt, encB_txt]
theorem put_txt2 (x : Ent) : txt (tw x.key) ++ txt (tw x.value) = txt (putE x) := by
  apply ByteArray.ext
  simp [putE, txt]

set_option maxRecDepth 100000 in
theorem writtenD_any (s : ByteArray) (hs : s.size ≤ 2000000) (w : World) :
    Calls Tryz.prog 99 #[.string s] w fun e w' => e = .returned (.string (txt (tw s))) ∧ Gd w w' := by
  have HP := Lib.hid (fun w => vi.putD_any s.size (by omega) w)
  have HT := Lib.hid (tw_txt s)
  have hz : (encB s.size).size ≤ 10 := by rw [encB_txt, txt_size]; exact enc_len_ten (by omega)
  generalize encB s.size = E at *
  go_enter Tryz.func99, Tryz.ntmps99
  go_wp2_with fail
  refine (HP.out _).mono ?_
  rintro e w1 ⟨rfl, g1⟩
  go_wp2_with fail
  go_ret
  exact ⟨ret1 (congrArg Value.string HT.out), g1⟩

set_option maxHeartbeats 1000000 in
set_option maxRecDepth 100000 in
theorem putD_any (x : Ent) (w : World) (h1 : x.key.size ≤ 1000000) (h2 : x.value.size ≤ 1000000) :
    Calls Tryz.prog 72 #[.agg #[.string x.key, .string x.value]] w fun e w' => e = .returned (.string (txt (putE x))) ∧ Gd w w' := by
  have HK := Lib.hid (fun w => writtenD_any x.key (by omega) w)
  have HV := Lib.hid (fun w => writtenD_any x.value (by omega) w)
  have HP := Lib.hid (put_txt2 x)
  have hz : ∀ n, n ≤ 1000000 → (enc n).length ≤ 10 := fun n hn => enc_len_ten (by omega)
  have hz1 : (txt (tw x.key)).size ≤ 1000010 := by rw [txt_size, tw_len]; have := hz _ h1; omega
  have hz2 : (txt (tw x.value)).size ≤ 1000010 := by rw [txt_size, tw_len]; have := hz _ h2; omega
  have V0 := Lib.hid (EntV.new w 115 x)
  have HG := Lib.hid ((Gd.refl w).alloc (.cells #[.string x.key, .string x.value] 115))
  clear hz
  generalize txt (tw x.key) = E1 at *
  generalize txt (tw x.value) = E2 at *
  go_enter Tryz.func72, Tryz.ntmps72
  go_wp2_with fail
  generalize w.alloc (.cells #[.string x.key, .string x.value] 115) = wa at *
  generalize w.heap.size = b at *
  have hl0 : ∀ g : GD wa, g.world.cell? ⟨b, 0, none⟩ = some (.string x.key) := fun g => (V0.out.grown g.ok.ok).1
  have hl1 : ∀ g : GD wa, g.world.cell? ⟨b, 1, none⟩ = some (.string x.value) := fun g => (V0.out.grown g.ok.ok).2
  refine wp_region_gd wa (by kernel_rfl) (by kernel_rfl) (Gd.refl _) ?_
  repeat (go_big_quiet_step ((go_at_call 99; first | with_reducible exact calls_gd (HK.out _) | with_reducible exact calls_gd (HV.out _))))
  refine wpQuiet_nil ?_
  rintro _ ⟨⟨w', hw'⟩, rfl⟩
  go_wp2_with fail
  go_ret
  exact ⟨ret1 (congrArg Value.string HP.out), HG.out.trans hw'⟩

theorem written_any (s : ByteArray) (hs : s.size ≤ 2000000) (w : World) :
    Calls Tryz.prog 99 #[.string s] w fun e w' => e = .returned (.string (txt (tw s))) ∧ w.grownBy w' none :=
  (writtenD_any s hs w).mono fun _ _ ⟨h, g⟩ => ⟨h, g.ok⟩

theorem put_any (x : Ent) (w : World) (h1 : x.key.size ≤ 1000000) (h2 : x.value.size ≤ 1000000) :
    Calls Tryz.prog 72 #[.agg #[.string x.key, .string x.value]] w fun e w' => e = .returned (.string (txt (putE x))) ∧ w.grownBy w' none :=
  (putD_any x w h1 h2).mono fun _ _ ⟨h, g⟩ => ⟨h, g.ok⟩

theorem next_nil (w : World) : Calls Tryz.prog 131 #[.pointer none] w fun e w' => e = .returned (.tuple #[.string ⟨#[]⟩, .int .i64 25]) ∧ w = w' := by
  have HN := Lib.hid (fun w => vi.next_nil w)
  go_enter Tryz.func131, Tryz.ntmps131
  go_wp2_with fail
  refine (HN.out _).mono ?_
  rintro e w1 ⟨rfl, rfl⟩
  go_wp2_with fail
  go_ret2
  exact ⟨rfl, rfl⟩

set_option maxRecDepth 100000 in
theorem text_any (w : World) (b : Nat) (s : ByteArray) (k : Nat) (hc : Cur w b s k) :
    Calls Tryz.prog 131 #[.pointer (some ⟨b, 0, none⟩)] w fun e w' => ∃ k', e = .returned (.tuple #[.string (txt (textW (s.data.toList.drop k)).1), .int .i64 ((textW (s.data.toList.drop k)).2.2 : Nat)]) ∧ Cur w' b s k' ∧
      ((textW (s.data.toList.drop k)).2.2 = 0 → s.data.toList.drop k' = (textW (s.data.toList.drop k)).2.1) ∧ w.grownBy w' (some b) := by
  have HN := Lib.hid (vi.next_some hc)
  have hbd := getR_bounds (s.data.toList.drop k)
  have hl : (s.data.toList.drop k).length = s.size - k := by simp
  have hks := hc.le
  have hml := hc.hs
  have HT : Hid (textW (s.data.toList.drop k) = if (getR (s.data.toList.drop k)).2.2 ≠ 0 then ([], [], (getR (s.data.toList.drop k)).2.2) else if s.size - k - (getR (s.data.toList.drop k)).2.1 < (getR (s.data.toList.drop k)).1 then ([], [], 1) else ((s.data.toList.drop (k + (getR (s.data.toList.drop k)).2.1)).take (getR (s.data.toList.drop k)).1, s.data.toList.drop (k + (getR (s.data.toList.drop k)).2.1 + (getR (s.data.toList.drop k)).1), 0)) := by
    show _ = _
    unfold textW
    rw [hl, List.drop_drop, List.drop_drop, Nat.add_assoc]
  generalize textW (s.data.toList.drop k) = R at *
  generalize getR (s.data.toList.drop k) = r at *
  obtain ⟨x, m, E⟩ := r
  simp only at hbd HN HT
  rw [hl] at hbd
  obtain ⟨hx, hm, hm10, hE, hpos⟩ := hbd
  unfold maxLen at hml
  clear hl hpos hc
  by_cases h0 : E = 0
  · subst h0
    by_cases h1 : s.size - k - m < x
    · have HR : Hid (R = ([], [], 1)) := by show _ = _; rw [HT.out, if_neg (by simp), if_pos h1]
      clear HT
      have HTK := Lib.hid (fun (w : World) (h : Cur w b s (k + m)) => take_no h x (by omega) (by omega))
      go_enter Tryz.func131, Tryz.ntmps131
      go_wp2_with fail
      refine HN.out.mono ?_
      rintro e w1 ⟨rfl, c1, g1⟩
      have C1 := Lib.hid c1
      have G1 := Lib.hid g1
      clear c1 g1
      go_wp2_with fail
      refine (HTK.out _ C1.out).mono ?_
      rintro e w2 ⟨rfl, n, rfl⟩
      have C2 := Lib.hid (C1.out.kept (only_drewN (only_refl w1 none) n) (by simp))
      have G2 := Lib.hid (only_drewN G1.out n)
      go_wp2_with fail
      go_ret2
      rw [HR.out]
      exact ⟨_, rfl, C2.out, fun e => by simp at e, G2.out⟩
    · have HR : Hid (R = ((s.data.toList.drop (k + m)).take x, s.data.toList.drop (k + m + x), 0)) := by show _ = _; rw [HT.out, if_neg (by simp), if_neg h1]
      clear HT
      have HTK := Lib.hid (fun (w : World) (h : Cur w b s (k + m)) => take_ok h x (by omega))
      go_enter Tryz.func131, Tryz.ntmps131
      go_wp2_with fail
      refine HN.out.mono ?_
      rintro e w1 ⟨rfl, c1, g1⟩
      have C1 := Lib.hid c1
      have G1 := Lib.hid g1
      clear c1 g1
      go_wp2_with fail
      refine (HTK.out _ C1.out).mono ?_
      rintro e w2 ⟨rfl, c2, g2⟩
      have C2 := Lib.hid c2
      have G2 := Lib.hid (only_trans G1.out g2)
      clear c2 g2
      go_wp2_with fail
      have HE1 := Lib.hid (txt_ext s (k + m) x)
      go_ret2
      rw [HR.out]
      exact ⟨_, ret2 (congrArg Value.string HE1.out.symm) rfl, C2.out, fun _ => rfl, G2.out⟩
  · have HR : Hid (R = ([], [], E)) := by show _ = _; rw [HT.out, if_pos h0]
    have hqb : ((E : Int) != 0) = true := by rw [bne_iff_ne]; omega
    have HE := Lib.hid h0
    clear HT h0
    go_enter Tryz.func131, Tryz.ntmps131
    go_wp2_with fail
    refine HN.out.mono ?_
    rintro e w1 ⟨rfl, c1, g1⟩
    have C1 := Lib.hid c1
    have G1 := Lib.hid g1
    clear c1 g1
    go_wp2_with fail
    go_ret2
    rw [HR.out]
    exact ⟨_, rfl, C1.out, fun e => absurd e HE.out, G1.out⟩

theorem results_cell2 {P : Program} {fn : Func} {p u : Tmp} {ty : TypeId} (h : fn.results = #[.cell p ty, .tmp u]) (tmps : Array Value) (w : World) (g : Nat) (t : TypeId) (cs : Array Value) (fr : Nat × Nat) (d : TypeDesc)
    (hp : tmps.getD p undef = .pointer (some ⟨g, 0, none⟩)) (hg : w.heap[g]? = some (.cells cs t fr))
    (hu : P.underlying ty = some d) (hd : (match d with | .struct _ | .array _ _ => true | _ => false) = true) (hi : (P.info? ty).map (·.size) = some cs.size) :
    (results fn tmps).run P w = .ok (.tuple #[.agg cs, tmps.getD u undef]) w := by
  have hp' : tmps[p]?.getD undef = .pointer (some ⟨g, 0, none⟩) := by simpa using hp
  simp [results, h, hp', asAddr, run_loadVar_row w g t ty cs fr d hg hu hd hi]

theorem heap_kept {w w' : World} {n : Nat} {o : Obj} {row : Option Nat} (h : w.heap[n]? = some o) (g : w.grownBy w' row) (hr : some n ≠ row) : w'.heap[n]? = some o :=
  (g.block _ (Array.getElem?_eq_some_iff.1 h).1 hr).trans h
theorem cells_of {w : World} {n : Nat} {v0 v1 : Value} {ty : TypeId} (h : w.heap[n]? = some (.cells #[v0, v1] ty (0, 0))) : w.cell? ⟨n, 0, none⟩ = some v0 ∧ w.cell? ⟨n, 1, none⟩ = some v1 ∧ w.frozen? ⟨n, 0, none⟩ = false ∧ w.frozen? ⟨n, 1, none⟩ = false := by
  simp [World.cell?, World.frozen?, h]

set_option maxHeartbeats 1000000 in
set_option maxRecDepth 100000 in
theorem next_any (W w : World) (b : Nat) (s : ByteArray) (k : Nat) (hT : tb.Tab W) (hw : W.grownBy w none) (hb : W.heap.size ≤ b) (hc : Cur w b s k) :
    Calls Tryz.prog 123 #[.pointer (some ⟨b, 0, none⟩)] w fun e w' => ∃ k', e = .returned (.tuple #[.agg #[.string (nextE (s.data.toList.drop k)).1.key, .string (nextE (s.data.toList.drop k)).1.value], .int .i64 ((nextE (s.data.toList.drop k)).2.2 : Nat)]) ∧ Cur w' b s k' ∧
      ((nextE (s.data.toList.drop k)).2.2 = 0 → s.data.toList.drop k' = (nextE (s.data.toList.drop k)).2.1) ∧ w.grownBy w' (some b) := by
  have HT1 := Lib.hid (fun w h => text_any w b s k h)
  have HT2 := Lib.hid (fun w k h => text_any w b s k h)
  have hlt : b < w.heap.size := hc.lt
  have hml := hc.hs
  have hr : (textW (s.data.toList.drop k)).1.length + (textW (s.data.toList.drop k)).2.1.length ≤ s.size := by
    have := tw_le (s.data.toList.drop k)
    simp only [List.length_drop, Array.length_toList] at this
    have e : s.data.size = s.size := rfl
    omega
  have hr2 := tw_le (textW (s.data.toList.drop k)).2.1
  have HC := Lib.hid (fun w1 (g : W.grownBy w1 none) => check_any ⟨txt (textW (s.data.toList.drop k)).1, txt (textW (textW (s.data.toList.drop k)).2.1).1⟩ w1 (by show (txt _).size ≤ _; rw [txt_size]; omega) (by show (txt _).size ≤ _; rw [txt_size]; omega) (tb.kept hT g))
  have HNW := Lib.hid (fun w1 (g : w.grownBy w1 (some b)) => only_new hw g hb)
  clear hr hr2 hw hT hml hb
  have hlt1 := textW_lt (s.data.toList.drop k)
  have hlt2 := textW_lt (textW (s.data.toList.drop k)).2.1
  have hlt3 := checkE_lt ⟨txt (textW (s.data.toList.drop k)).1, txt (textW (textW (s.data.toList.drop k)).2.1).1⟩
  unfold nextE
  have E1 := @textW_err (s.data.toList.drop k)
  have E2 := @textW_err (textW (s.data.toList.drop k)).2.1
  generalize textW (s.data.toList.drop k) = R at *
  obtain ⟨t1, r1, q1⟩ := R
  simp only at *
  generalize hR2 : textW r1 = R2 at hlt2 hlt3 E2 HC ⊢
  have HR2 := Lib.hid hR2
  clear hR2
  obtain ⟨t2, r2, q2⟩ := R2
  simp only at hlt2 hlt3 E2 HC ⊢
  have g0 := only_alloc (only_refl w (some b)) (.cells #[.string ⟨#[]⟩, .string ⟨#[]⟩] 115)
  have C0 := Lib.hid (hc.kept (only_alloc (only_refl w none) (.cells #[.string ⟨#[]⟩, .string ⟨#[]⟩] 115)) (by simp))
  have G0 := Lib.hid g0
  have B0 := Lib.hid (heap_alloc_new w (.cells #[.string ⟨#[]⟩, .string ⟨#[]⟩] 115))
  have hne : some w.heap.size ≠ some b := by simp; omega
  have HNE := Lib.hid hne
  clear g0 hc hne
  by_cases h1 : q1 = 0
  · subst h1
    rw [if_neg (by simp)]
    clear E1
    by_cases h2 : q2 = 0
    · subst h2
      rw [if_neg (by simp)]
      clear E2 hlt1 hlt2
      generalize hE : checkE ⟨txt t1, txt t2⟩ = q3 at *
      by_cases h3 : q3 = 0
      · subst h3
        rw [if_neg (by simp)]
        clear hE hlt3
        go_enter Tryz.func123, Tryz.ntmps123
        go_wp2_with fail
        refine (HT1.out _ C0.out).mono ?_
        rintro e w1 ⟨k1, rfl, c1, hk1, g1⟩
        have C1 := Lib.hid c1
        have HK1 := Lib.hid (by first | exact hk1 rfl | exact hk1 trivial : s.data.toList.drop k1 = r1)
        have G1 := Lib.hid (only_trans G0.out g1)
        have B1 := Lib.hid (heap_kept B0.out g1 HNE.out)
        clear c1 hk1 g1
        go_wp2_with fail
        have HT3 := HT2.out w1 k1 C1.out
        rw [HK1.out, HR2.out] at HT3
        refine HT3.mono ?_
        rintro e w2 ⟨k2, rfl, c2, hk2, g2⟩
        have C2 := Lib.hid c2
        have HK2 := Lib.hid (by first | exact hk2 rfl | exact hk2 trivial : s.data.toList.drop k2 = r2)
        have G2 := Lib.hid (only_trans G1.out g2)
        have B2 := Lib.hid (heap_kept B1.out g2 HNE.out)
        clear c2 hk2 g2
        go_wp2_with fail
        refine (HC.out _ (HNW.out _ (only_alloc G2.out (.cells #[.string (txt t1), .string (txt t2)] 115)))).mono ?_
        rintro e w3 ⟨rfl, g3⟩
        have B3 := Lib.hid (heap_kept (heap_kept B2.out (only_alloc (only_refl w2 none) (.cells #[.string (txt t1), .string (txt t2)] 115)) (by simp)) g3 (by simp))
        have V3 := Lib.hid ((EntV.new w2 115 ⟨txt t1, txt t2⟩).grown g3)
        have C3 := Lib.hid ((C2.out.kept (only_alloc (only_refl w2 none) (.cells #[.string (txt t1), .string (txt t2)] 115)) (by simp)).kept g3 (by simp))
        have G3 := Lib.hid (only_trans (only_alloc G2.out (.cells #[.string (txt t1), .string (txt t2)] 115)) (only_of_none g3 _))
        obtain ⟨z0, z1, x0, x1⟩ := cells_of B3.out
        obtain ⟨v0, v1⟩ := V3.out
        clear g3
        go_wp2_with fail
        exact bodyPost_ret (results_cell2 rfl _ _ w.heap.size 115 #[.string (txt t1), .string (txt t2)] (0, 0) _ rfl (heap_setc (heap_setc B3.out)) Tryz.underlying115 rfl (by kernel_rfl)) rfl ⟨k2, rfl, (C3.out).kept (only_setCell (only_setCell (only_refl _ (some w.heap.size)) (.inl rfl) _) (.inl rfl) _) (fun e => HNE.out e.symm), fun _ => HK2.out, only_setCell (only_setCell G3.out (.inr (Nat.le_refl _)) _) (.inr (Nat.le_refl _)) _⟩
      · rw [if_pos h3]
        have hqb : ((q3 : Int) != 0) = true := by rw [bne_iff_ne]; omega
        have HQ := Lib.hid h3
        clear hE h3
        go_enter Tryz.func123, Tryz.ntmps123
        go_wp2_with fail
        refine (HT1.out _ C0.out).mono ?_
        rintro e w1 ⟨k1, rfl, c1, hk1, g1⟩
        have C1 := Lib.hid c1
        have HK1 := Lib.hid (by first | exact hk1 rfl | exact hk1 trivial : s.data.toList.drop k1 = r1)
        have G1 := Lib.hid (only_trans G0.out g1)
        have B1 := Lib.hid (heap_kept B0.out g1 HNE.out)
        clear c1 hk1 g1
        go_wp2_with fail
        have HT3 := HT2.out w1 k1 C1.out
        rw [HK1.out, HR2.out] at HT3
        refine HT3.mono ?_
        rintro e w2 ⟨k2, rfl, c2, hk2, g2⟩
        have C2 := Lib.hid c2
        have HK2 := Lib.hid (by first | exact hk2 rfl | exact hk2 trivial : s.data.toList.drop k2 = r2)
        have G2 := Lib.hid (only_trans G1.out g2)
        have B2 := Lib.hid (heap_kept B1.out g2 HNE.out)
        clear c2 hk2 g2
        go_wp2_with fail
        refine (HC.out _ (HNW.out _ (only_alloc G2.out (.cells #[.string (txt t1), .string (txt t2)] 115)))).mono ?_
        rintro e w3 ⟨rfl, g3⟩
        have B3 := Lib.hid (heap_kept (heap_kept B2.out (only_alloc (only_refl w2 none) (.cells #[.string (txt t1), .string (txt t2)] 115)) (by simp)) g3 (by simp))
        have V3 := Lib.hid ((EntV.new w2 115 ⟨txt t1, txt t2⟩).grown g3)
        have C3 := Lib.hid ((C2.out.kept (only_alloc (only_refl w2 none) (.cells #[.string (txt t1), .string (txt t2)] 115)) (by simp)).kept g3 (by simp))
        have G3 := Lib.hid (only_trans (only_alloc G2.out (.cells #[.string (txt t1), .string (txt t2)] 115)) (only_of_none g3 _))
        obtain ⟨z0, z1, x0, x1⟩ := cells_of B3.out
        obtain ⟨v0, v1⟩ := V3.out
        clear g3
        go_wp2_with fail
        exact bodyPost_ret (results_cell2 rfl _ _ w.heap.size 115 #[.string ⟨#[]⟩, .string ⟨#[]⟩] (0, 0) _ rfl (heap_setc (heap_setc B3.out)) Tryz.underlying115 rfl (by kernel_rfl)) rfl ⟨k2, rfl, (C3.out).kept (only_setCell (only_setCell (only_refl _ (some w.heap.size)) (.inl rfl) _) (.inl rfl) _) (fun e => HNE.out e.symm), fun e => absurd e HQ.out, only_setCell (only_setCell G3.out (.inr (Nat.le_refl _)) _) (.inr (Nat.le_refl _)) _⟩
    · rw [if_pos h2]
      obtain ⟨rfl, rfl⟩ := E2 h2
      have hqb : ((q2 : Int) != 0) = true := by rw [bne_iff_ne]; omega
      have HQ := Lib.hid h2
      clear HC E2 h2 hlt1 hlt3
      go_enter Tryz.func123, Tryz.ntmps123
      go_wp2_with fail
      refine (HT1.out _ C0.out).mono ?_
      rintro e w1 ⟨k1, rfl, c1, hk1, g1⟩
      have C1 := Lib.hid c1
      have HK1 := Lib.hid (by first | exact hk1 rfl | exact hk1 trivial : s.data.toList.drop k1 = r1)
      have G1 := Lib.hid (only_trans G0.out g1)
      have B1 := Lib.hid (heap_kept B0.out g1 HNE.out)
      clear c1 hk1 g1
      go_wp2_with fail
      have HT3 := HT2.out w1 k1 C1.out
      rw [HK1.out, HR2.out] at HT3
      refine HT3.mono ?_
      rintro e w2 ⟨k2, rfl, c2, hk2, g2⟩
      have C2 := Lib.hid c2
      have G2 := Lib.hid (only_trans G1.out g2)
      have B2 := Lib.hid (heap_kept B1.out g2 HNE.out)
      obtain ⟨z0, z1, x0, x1⟩ := cells_of B2.out
      clear c2 hk2 g2
      go_wp2_with fail
      exact bodyPost_ret (results_cell2 rfl _ _ w.heap.size 115 #[.string ⟨#[]⟩, .string ⟨#[]⟩] (0, 0) _ rfl (heap_setc (heap_setc B2.out)) Tryz.underlying115 rfl (by kernel_rfl)) rfl ⟨k2, rfl, (C2.out).kept (only_setCell (only_setCell (only_refl _ (some w.heap.size)) (.inl rfl) _) (.inl rfl) _) (fun e => HNE.out e.symm), fun e => absurd e HQ.out, only_setCell (only_setCell G2.out (.inr (Nat.le_refl _)) _) (.inr (Nat.le_refl _)) _⟩
  · rw [if_pos h1]
    obtain ⟨rfl, rfl⟩ := E1 h1
    have hqb : ((q1 : Int) != 0) = true := by rw [bne_iff_ne]; omega
    have HQ := Lib.hid h1
    clear HT2 HC E1 E2 h1 hlt2 hlt3
    go_enter Tryz.func123, Tryz.ntmps123
    go_wp2_with fail
    refine (HT1.out _ C0.out).mono ?_
    rintro e w1 ⟨k1, rfl, c1, hk1, g1⟩
    have C1 := Lib.hid c1
    have G1 := Lib.hid (only_trans G0.out g1)
    have B1 := Lib.hid (heap_kept B0.out g1 HNE.out)
    obtain ⟨z0, z1, x0, x1⟩ := cells_of B1.out
    clear c1 hk1 g1
    go_wp2_with fail
    exact bodyPost_ret (results_cell2 rfl _ _ w.heap.size 115 #[.string ⟨#[]⟩, .string ⟨#[]⟩] (0, 0) _ rfl (heap_setc (heap_setc B1.out)) Tryz.underlying115 rfl (by kernel_rfl)) rfl ⟨k1, rfl, (C1.out).kept (only_setCell (only_setCell (only_refl _ (some w.heap.size)) (.inl rfl) _) (.inl rfl) _) (fun e => HNE.out e.symm), fun e => absurd e HQ.out, only_setCell (only_setCell G1.out (.inr (Nat.le_refl _)) _) (.inr (Nat.le_refl _)) _⟩

set_option maxRecDepth 100000 in
theorem Next_nil (w : World) : Calls Tryz.prog 123 #[.pointer none] w fun e w' => e = .returned (.tuple #[.agg #[.string ⟨#[]⟩, .string ⟨#[]⟩], .int .i64 25]) ∧ w.grownBy w' none := by
  have HN := Lib.hid (fun w => next_nil w)
  have B0 := Lib.hid (heap_alloc_new w (.cells #[.string ⟨#[]⟩, .string ⟨#[]⟩] 115))
  have G0 := Lib.hid (only_alloc (only_refl w none) (.cells #[.string ⟨#[]⟩, .string ⟨#[]⟩] 115))
  go_enter Tryz.func123, Tryz.ntmps123
  go_wp2_with fail
  refine (HN.out _).mono ?_
  rintro e w1 ⟨rfl, rfl⟩
  obtain ⟨z0, z1, x0, x1⟩ := cells_of B0.out
  go_wp2_with fail
  exact bodyPost_ret (results_cell2 rfl _ _ w.heap.size 115 #[.string ⟨#[]⟩, .string ⟨#[]⟩] (0, 0) _ rfl B0.out Tryz.underlying115 rfl (by kernel_rfl)) rfl ⟨rfl, G0.out⟩

theorem compare_less : ∀ a b : List UInt8, Lib.compareBytes a b = if Op.bytesLess a b = true then -1 else if a = b then 0 else 1
  | [], [] => rfl
  | [], _ :: _ => rfl
  | _ :: _, [] => rfl
  | a :: x, b :: y => by
    unfold Lib.compareBytes Op.bytesLess
    by_cases h : a < b
    · simp [h]
    · by_cases h2 : b < a
      · have hne : ¬ a = b := fun e => by rw [e] at h2; exact absurd h2 (UInt8.lt_irrefl b)
        simp [h, h2, hne]
      · have he : a = b := by rw [UInt8.lt_iff_toNat_lt] at h h2; exact UInt8.toNat_inj.1 (by omega)
        subst he
        rw [compare_less x y]
        simp [UInt8.lt_irrefl]
theorem cmpB_compare (a b : ByteArray) : Lib.compareBytes a.data.toList b.data.toList = cmpB a b := by
  rw [compare_less]
  unfold cmpB
  by_cases h : a = b
  · subst h; simp
  · have : ¬ a.data.toList = b.data.toList := fun e => h (bytes_inj e)
    rw [if_neg h, if_neg this]

theorem compare_any (a b : ByteArray) (w : World) : Calls Tryz.prog 91 #[.string a, .string b] w fun e w' => e = .returned (.int .i64 (cmpB a b)) ∧ w' = w := by
  have h := Tryz.strings_Compare a b w
  rw [cmpB_compare] at h
  exact h

set_option maxRecDepth 100000 in
theorem or_any (x y : Int) (b : Nat) (w : World) (h0 : w.cell? ⟨b, 0, none⟩ = some (.int .i64 x)) (h1 : w.cell? ⟨b, 1, none⟩ = some (.int .i64 y)) :
    Calls Tryz.prog 160 #[.slice (some ⟨b, 0, none⟩) 2 2] w fun e w' => e = .returned (.int .i64 (if x = 0 then y else x)) ∧ w = w' := by
  by_cases hx : x = 0
  · subst hx
    rw [if_pos rfl]
    by_cases hy : y = 0
    · subst hy
      go_enter Tryz.func160, Tryz.ntmps160
      go_wp2_with fail
      refine wp_loop_rounds 3 ?_
      rw [rounds_succ]
      go_wp2_with fail
      rw [rounds_succ]
      go_wp2_with fail
      rw [rounds_succ]
      go_wp2_with fail
      go_ret
      exact ⟨rfl, rfl⟩
    · have hyb : (y != 0) = true := by simpa using hy
      go_enter Tryz.func160, Tryz.ntmps160
      go_wp2_with fail
      refine wp_loop_rounds 2 ?_
      rw [rounds_succ]
      go_wp2_with fail
      rw [rounds_succ]
      go_wp2_with fail
      go_ret
      exact ⟨rfl, rfl⟩
  · rw [if_neg hx]
    have hxb : (x != 0) = true := by simpa using hx
    go_enter Tryz.func160, Tryz.ntmps160
    go_wp2_with fail
    refine wp_loop_rounds 1 ?_
    rw [rounds_succ]
    go_wp2_with fail
    go_ret
    exact ⟨rfl, rfl⟩

set_option maxHeartbeats 1000000 in
set_option maxRecDepth 100000 in
theorem Cmp_any (x y : Ent) (w : World) :
    Calls Tryz.prog 157 #[.agg #[.string x.key, .string x.value], .agg #[.string y.key, .string y.value]] w fun e w' => e = .returned (.int .i64 (cmpE x y)) ∧ ∃ q os', w' = Go.Sort.grow (w.drewN q) os' := by
  have HK := Lib.hid (fun w => compare_any x.key y.key w)
  have HV := Lib.hid (fun w => compare_any x.value y.value w)
  have HE : Hid ((if cmpB x.key y.key = 0 then cmpB x.value y.value else cmpB x.key y.key) = cmpE x y) := by
    show _ = _
    unfold cmpE
    by_cases h : x.key = y.key
    · rw [if_pos ((cmpB_zero _ _).2 h), if_pos h]
    · rw [if_neg (fun e => h ((cmpB_zero _ _).1 e)), if_neg h]
  generalize cmpB x.key y.key = k at *
  generalize cmpB x.value y.value = v at *
  have HO : Hid (∀ b w, w.cell? ⟨b, 0, none⟩ = some (.int .i64 k) → w.cell? ⟨b, 1, none⟩ = some (.int .i64 v) → Calls Tryz.prog 160 #[.slice (some ⟨b, 0, none⟩) 2 2] w fun e w' => e = .returned (.int .i64 (cmpE x y)) ∧ w = w') := fun b w h0 h1 => by
    have := or_any k v b w h0 h1
    rw [HE.out] at this
    exact this
  clear HE
  generalize cmpE x y = r at *
  go_enter Tryz.func157, Tryz.ntmps157
  have V := Lib.hid (two_vars w 115 x y _ (only_refl _ none))
  have HWA : Hid (((w.alloc (.cells #[.string x.key, .string x.value] 115)).alloc (.cells #[.string y.key, .string y.value] 115)) = Go.Sort.grow w #[.cells #[.string x.key, .string x.value] 115, .cells #[.string y.key, .string y.value] 115]) := by
    show _ = _
    rw [Go.Sort.alloc_eq_grow, Go.Sort.alloc_eq_grow, Go.Sort.grow_grow]; rfl
  go_wp2_with fail
  generalize (w.alloc (.cells #[.string x.key, .string x.value] 115)).alloc (.cells #[.string y.key, .string y.value] 115) = wa at *
  obtain ⟨a0, a1, b0, b1⟩ := V.out
  go_region_held3 (fun w' => w'.cell? ⟨w.heap.size, 0, none⟩ = some (.string x.key) ∧ w'.cell? ⟨w.heap.size, 1, none⟩ = some (.string x.value) ∧ w'.cell? ⟨w.heap.size + 1, 0, none⟩ = some (.string y.key) ∧ w'.cell? ⟨w.heap.size + 1, 1, none⟩ = some (.string y.value))
    (first | go_keep)
    (first
      | (go_at_call 91; with_reducible refine (HK.out _).mono ?_; rintro e w5 ⟨rfl, rfl⟩)
      | (go_at_call 91; with_reducible refine (HV.out _).mono ?_; rintro e w5 ⟨rfl, rfl⟩)
      | (go_at_call 160; refine (HO.out wa.heap.size ((wa.alloc (.cells #[.int .i64 k, .int .i64 v] 3)).drew) (show (wa.alloc (.cells #[.int .i64 k, .int .i64 v] 3)).cell? ⟨wa.heap.size, 0, none⟩ = some (.int .i64 k) from by rw [cell_new]; rfl) (show (wa.alloc (.cells #[.int .i64 k, .int .i64 v] 3)).cell? ⟨wa.heap.size, 1, none⟩ = some (.int .i64 v) from by rw [cell_new]; rfl)).mono ?_; rintro e w5 ⟨rfl, rfl⟩))
  go_wp2_with fail
  go_ret
  have h1 := HWA.out
  subst h1
  exact ⟨rfl, 1, #[.cells #[.string x.key, .string x.value] 115, .cells #[.string y.key, .string y.value] 115] ++ #[.cells #[.int .i64 k, .int .i64 v] 3], by rw [Go.Sort.alloc_eq_grow, Go.Sort.grow_grow]; rfl⟩

theorem cmp_any (x y : Ent) (w : World) :
    Calls Tryz.prog 157 #[.agg #[.string x.key, .string x.value], .agg #[.string y.key, .string y.value]] w fun e w' => e = .returned (.int .i64 (cmpE x y)) ∧ w.grownBy w' none := by
  refine (Cmp_any x y w).mono ?_
  rintro e w' ⟨rfl, q, os, rfl⟩
  refine ⟨rfl, rfl, rfl, rfl, by simp [Go.Sort.grow, World.drewN], fun k hk _ => ?_⟩
  simp only [Go.Sort.grow, World.drewN]
  rw [Array.getElem?_append_left (by simpa using hk)]

end Go.Proofs.YtbebdaglkjhbjaaGreatDoor.ee

/-
  Package entry keeps its contracts (XEent).
-/
namespace Go.Proofs.YtbebdaglkjhbjaaGreatDoor.ee
open Go.RowKit Go.Proofs.YtbebdaglkjhbjaaGreatDoor.em Go.Proofs.YtbebdaglkjhbjaaGreatDoor.cur Go.Proofs.YtbebdaglkjhbjaaGreatDoor.law11
set_option linter.unusedVariables false

theorem awake10_any (w : World) (hT : tb.Tab w) :
    Calls Tryz.prog 161 #[] w fun e w' => e = .returned (.bool true) ∧ w.grownBy w' none := by
  go_enter Tryz.func161, Tryz.ntmps161
  go_wp2_with (go_at_call 170; refine (law10.awake_any _ hT).mono ?_; rintro e w' ⟨rfl, g⟩)
  go_ret
  exact ⟨rfl, g⟩

def ecore : ECore where
  Tab := tb.Tab
  kept := tb.kept
  awake10 := fun w hT => awake10_any w hT
  check := fun x w h1 h2 hT => check_any x w (by unfold maxLen; omega) (by unfold maxLen; omega) hT
  put := fun x w h1 h2 => put_any x w (by omega) (by omega)

def ei : EI :=
  { ecore with
    cmp := fun x y w _ _ _ _ => cmp_any x y w
    next_nil := Next_nil
    next := fun W w b s k hT hw hb hc _ => (next_any W w b s k hT hw hb hc).mono fun e w' ⟨k', h1, h2, h3, h4⟩ => ⟨k', h1, h2, h3, only_new hw h4 hb⟩ }

end Go.Proofs.YtbebdaglkjhbjaaGreatDoor.ee

/-
  The developers' descriptors: checkCount, checkBehind, Check, Key, Get, Cmp.
-/
namespace Go.Proofs.YtbebdaglkjhbjaaGreatDoor.dd
open Go.RowKit Go.Proofs.YtbebdaglkjhbjaaGreatDoor.vi Go.Proofs.YtbebdaglkjhbjaaGreatDoor.um Go.Proofs.YtbebdaglkjhbjaaGreatDoor.wm Go.Proofs.YtbebdaglkjhbjaaGreatDoor.tr Go.Proofs.YtbebdaglkjhbjaaGreatDoor.em Go.Proofs.YtbebdaglkjhbjaaGreatDoor.cur Go.Proofs.YtbebdaglkjhbjaaGreatDoor.law11 Go.Proofs.YtbebdaglkjhbjaaGreatDoor.bd
set_option linter.unusedVariables false
set_option linter.unusedSimpArgs false

/-! checkCount -/
theorem count_any (n : Nat) (hn : n < 18446744073709551616) (w : World) :
    Calls Tryz.prog 113 #[.int .u64 (n : Nat)] w fun e w' => e = .returned (.int .i64 (countE n : Nat)) ∧ w = w' := by
  unfold countE
  by_cases h0 : n = 0
  · rw [if_pos h0]
    subst h0
    go_enter Tryz.func113, Tryz.ntmps113
    go_wp2_with fail
    go_ret
    exact ⟨rfl, rfl⟩
  · rw [if_neg h0]
    have h0i : ((n : Int) == 0) = false := by simpa using h0
    by_cases h1 : 16 < n
    · rw [if_pos h1]
      have h1i : (16 : Int) < (n : Int) := by omega
      go_enter Tryz.func113, Tryz.ntmps113
      go_wp2_with fail
      go_ret
      exact ⟨rfl, rfl⟩
    · rw [if_neg h1]
      have h1i : ¬ (16 : Int) < (n : Int) := by omega
      go_enter Tryz.func113, Tryz.ntmps113
      go_wp2_with fail
      go_ret
      exact ⟨rfl, rfl⟩

/-! checkBehind -/
def behindK : Option Ent → ByteArray → Nat
  | none, _ => 0
  | some a, k => if a.key = k then 14 else if Op.bytesLess k.data.toList a.key.data.toList = true then 7 else 0
theorem behindK_eq (p : Option Ent) (x : Ent) : behindK p x.key = behindO p x := by
  cases p with
  | none => rfl
  | some a =>
    show (if a.key = x.key then 14 else if Op.bytesLess x.key.data.toList a.key.data.toList = true then 7 else 0) = behindE a x
    unfold behindE
    by_cases h : a.key = x.key
    · rw [if_pos h, if_pos h]
    · rw [if_neg h, if_neg h]
      have hc : cmpE a x = cmpB a.key x.key := if_neg h
      rw [hc, cmpB_neg]
      have := cmpB_lt x.key a.key
      by_cases h2 : cmpB x.key a.key < 0
      · rw [if_pos (this.1 h2), if_pos (by omega)]
      · rw [if_neg (fun e => h2 (this.2 e)), if_neg (by omega)]

set_option maxHeartbeats 1000000 in
set_option maxRecDepth 100000 in
theorem behind_any (ys : List Ent) (key : ByteArray) (B : Nat) (w : World) (v : Value) (hl : ys.length ≤ 1000000) (h : Es B w v ys) :
    Calls Tryz.prog 115 #[v, .string key] w fun e w' => e = .returned (.int .i64 (behindK ys.getLast? key : Nat)) ∧ ∃ n, w' = w.drewN n := by
  rcases List.eq_nil_or_concat ys with rfl | ⟨zs, y, rfl⟩
  · obtain ⟨a, cap, rfl⟩ := h.shape
    go_enter Tryz.func115, Tryz.ntmps115
    go_wp2_with fail
    go_ret
    exact ⟨rfl, 0, rfl⟩
  · rw [List.concat_eq_append] at *
    have hln : (zs ++ [y]).length = zs.length + 1 := by simp
    obtain ⟨b, off, cap, rfl, hb, hle, hcm, c0, c1⟩ := h.at (i := zs.length) (x := y) (by simp)
    rw [hln] at hl hle ⊢
    unfold maxLen at hcm
    have HR : Hid (behindK (zs ++ [y]).getLast? key = if y.key = key then 14 else if Op.bytesLess key.data.toList y.key.data.toList = true then 7 else 0) := by
      show _ = _
      simp [behindK]
    have hk0 := beq_bytes key y.key
    clear h hln
    generalize zs.length = n at *
    generalize behindK (zs ++ [y]).getLast? key = R at *
    have hne : ¬ (n : Int) + 1 = 0 := by omega
    by_cases h1 : y.key = key
    · have hk : (key.toList == y.key.toList) = true := by rw [hk0]; simp [h1]
      have HR2 : Hid (R = 14) := by show _ = _; rw [HR.out, if_pos h1]
      clear HR hk0 h1
      go_enter Tryz.func115, Tryz.ntmps115
      go_wp2_with fail
      go_ret
      rw [HR2.out]
      exact ⟨rfl, 0, rfl⟩
    · have hk : (key.toList == y.key.toList) = false := by rw [hk0]; simp; exact fun e => h1 e.symm
      by_cases h2 : Op.bytesLess key.data.toList y.key.data.toList = true
      · have HR2 : Hid (R = 7) := by show _ = _; rw [HR.out, if_neg h1, if_pos h2]
        have h2b : Op.bytesLess key.toList y.key.toList = true := by rw [ByteArray.toList_eq, ByteArray.toList_eq]; exact h2
        clear HR hk0 h1
        go_enter Tryz.func115, Tryz.ntmps115
        go_wp2_with fail
        go_ret
        rw [HR2.out]
        exact ⟨rfl, 0, rfl⟩
      · have HR2 : Hid (R = 0) := by show _ = _; rw [HR.out, if_neg h1, if_neg h2]
        have h3 : Op.bytesLess key.toList y.key.toList = false := by rw [ByteArray.toList_eq, ByteArray.toList_eq]; simpa using h2
        clear HR hk0 h1 h2
        go_enter Tryz.func115, Tryz.ntmps115
        go_wp2_with fail
        go_ret
        rw [HR2.out]
        exact ⟨rfl, 0, rfl⟩

/-! Check -/
theorem last_snoc {l : List Ent} {i : Nat} {x : Ent} (h : l[i]? = some x) : (l.take (i + 1)).getLast? = some x := by
  rw [List.take_add_one, h]; simp
theorem drop_at {l : List Ent} {i : Nat} {x : Ent} (h : l[i]? = some x) : l.drop i = x :: l.drop (i + 1) := by
  obtain ⟨h1, h2⟩ := List.getElem?_eq_some_iff.1 h
  rw [← h2]; exact List.drop_eq_getElem_cons h1
theorem firstE_at {l : List Ent} {i : Nat} {x : Ent} (h : l[i]? = some x) : firstE (l.drop i) = if checkE x ≠ 0 then checkE x else firstE (l.drop (i + 1)) := by
  rw [drop_at h, firstE]
theorem walk_next {l : List Ent} {i : Nat} {x : Ent} (p : Option Ent) (h : l[i]? = some x) : walkE p (l.drop i) = if checkE x ≠ 0 then checkE x else if behindO p x ≠ 0 then behindO p x else walkE ((l.take (i + 1)).getLast?) (l.drop (i + 1)) := by
  rw [drop_at h, walkE, last_snoc h]

theorem ent_size {xs : List Ent} (h : ∀ x ∈ xs, x.key.size ≤ maxLen ∧ x.value.size ≤ maxLen) {i : Nat} {x : Ent} (hx : xs[i]? = some x) : x.key.size ≤ maxLen ∧ x.value.size ≤ maxLen := h x (List.mem_of_getElem? hx)

set_option maxHeartbeats 2000000 in
set_option maxRecDepth 100000 in
theorem dcheck_any (xs : List Ent) (B : Nat) (w : World) (v : Value) (hl : xs.length ≤ 1000000) (hz : ∀ x ∈ xs, x.key.size ≤ maxLen ∧ x.value.size ≤ maxLen) (hT : tb.Tab w) (h : Es B w v xs) :
    Calls Tryz.prog 87 #[v] w fun e w' => e = .returned (.int .i64 (checkD xs : Nat)) ∧ w.grownBy w' none := by
  have HC := Lib.hid (fun w => count_any xs.length (by omega) w)
  have HE := Lib.hid h.low
  have HZ := Lib.hid hz
  have HTB := Lib.hid (fun w1 (g : w.grownBy w1 none) => tb.kept hT g)
  have hlt := countE_lt xs.length
  have hmod : (xs.length : Int) % 18446744073709551616 = xs.length := by omega
  have HD : Hid (checkD xs = if countE xs.length ≠ 0 then countE xs.length else walkE none xs) := rfl
  obtain ⟨a, cap, rfl⟩ := h.shape
  clear h hT hz
  by_cases hc : countE xs.length = 0
  · rw [hc] at HC HD
    have HD2 := Lib.hid (HD.out.trans (if_neg (by simp)))
    clear HD hlt hc
    go_enter Tryz.func87, Tryz.ntmps87
    go_wp2_with fail
    refine (HC.out _).mono ?_
    rintro e w0 ⟨rfl, rfl⟩
    go_wp2_with fail
    go_loopw [17] (fun q wr => ∃ i : Nat, i ≤ xs.length ∧ q = .int .i64 i ∧ w.grownBy wr none ∧ walkE none xs = walkE ((xs.take i).getLast?) (xs.drop i)) (fun q _ => xs.length - (intOf q).toNat)
    case atStart => exact ⟨0, Nat.zero_le _, rfl, only_refl _ _, by simp⟩
    case round =>
      obtain ⟨i, hi, rfl, hg, hw⟩ := hrel
      have HG := Lib.hid hg
      have HW := Lib.hid hw
      clear hg hw
      by_cases hlt : i < xs.length
      · obtain ⟨x, hx⟩ : ∃ x, xs[i]? = some x := ⟨xs[i], List.getElem?_eq_getElem hlt⟩
        have HEi := Lib.hid (HE.out.grown HG.out)
        obtain ⟨b, off, cap', hv, hb, hle, hcm, c0, c1⟩ := HEi.out.at hx
        simp only [Value.slice.injEq, true_and] at hv
        obtain ⟨rfl, rfl⟩ := hv
        unfold maxLen at hcm
        have hsz := ent_size HZ.out hx
        have HWN := Lib.hid (HW.out.trans (walk_next _ hx))
        have GA := only_alloc (only_refl wr none) (.cells #[.string x.key, .string x.value] 115)
        have G1 := Lib.hid (only_trans HG.out GA)
        have V1 := Lib.hid (EntV.new wr 115 x)
        have HCK := Lib.hid (fun w1 (g : w.grownBy w1 none) => ee.check_any x w1 hsz.1 hsz.2 (HTB.out w1 g))
        have HBH := Lib.hid (fun w1 (g : wr.grownBy w1 none) => behind_any (xs.take i) x.key _ w1 _ (by simp; omega) ((HEi.out.grown g).take i (by omega)))
        rw [behindK_eq] at HBH
        have h1lt := checkE_lt x
        have h2lt := behindO_lt ((xs.take i).getLast?) x
        have HGA := Lib.hid GA
        clear hx hsz GA HW
        by_cases h1 : checkE x = 0
        · rw [h1] at HCK HWN
          have HWN := Lib.hid (HWN.out.trans (if_neg (by simp)))
          clear h1lt h1
          by_cases h2 : behindO ((xs.take i).getLast?) x = 0
          · rw [h2] at HBH HWN
            have HWN := Lib.hid (HWN.out.trans (if_neg (by simp)))
            clear h2lt h2
            go_wp2_with fail
            refine (HCK.out _ G1.out).mono ?_
            rintro e w1 ⟨rfl, g1⟩
            have G2 := Lib.hid (only_trans G1.out g1)
            have V2 := Lib.hid (V1.out.grown g1)
            have HGB := Lib.hid (only_trans HGA.out g1)
            obtain ⟨d0, d1⟩ := V2.out
            clear g1
            go_wp2_with fail
            have HBQ := Lib.hid (fun n => HBH.out (w1.drewN n) (only_drewN HGB.out n))
            go_quiet (first | (go_at_call 115; exact Calls.quiet_of (HBQ.out _)))
            go_wp2_with fail
            go_roundw
            case rel => exact ⟨i + 1, by omega, by go_num, only_drewN G2.out _, HWN.out⟩
            case measure => simp [intOf]; omega
          · have HWN := Lib.hid (HWN.out.trans (if_pos h2))
            generalize behindO ((xs.take i).getLast?) x = q at *
            have hqb : ((q : Int) != 0) = true := by rw [bne_iff_ne]; omega
            go_wp2_with fail
            refine (HCK.out _ G1.out).mono ?_
            rintro e w1 ⟨rfl, g1⟩
            have G2 := Lib.hid (only_trans G1.out g1)
            have V2 := Lib.hid (V1.out.grown g1)
            have HGB := Lib.hid (only_trans HGA.out g1)
            obtain ⟨d0, d1⟩ := V2.out
            clear g1
            go_wp2_with fail
            have HBQ := Lib.hid (fun n => HBH.out (w1.drewN n) (only_drewN HGB.out n))
            go_quiet (first | (go_at_call 115; exact Calls.quiet_of (HBQ.out _)))
            go_wp2_with fail
            go_ret
            rw [HD2.out, HWN.out]
            exact ⟨rfl, only_drewN G2.out _⟩
        · have HWN := Lib.hid (HWN.out.trans (if_pos h1))
          generalize checkE x = q at *
          have hqb : ((q : Int) != 0) = true := by rw [bne_iff_ne]; omega
          clear HBH h2lt
          go_wp2_with fail
          refine (HCK.out _ G1.out).mono ?_
          rintro e w1 ⟨rfl, g1⟩
          have G2 := Lib.hid (only_trans G1.out g1)
          clear g1
          go_wp2_with fail
          go_ret
          rw [HD2.out, HWN.out]
          exact ⟨rfl, G2.out⟩
      · have hie : i = xs.length := by omega
        subst hie
        rw [List.drop_length] at HW
        go_wp2_with fail
        go_ret
        rw [HD2.out, HW.out]
        exact ⟨rfl, HG.out⟩
  · have hqb : ((countE xs.length : Int) != 0) = true := by rw [bne_iff_ne]; omega
    have HD2 := Lib.hid (HD.out.trans (if_pos hc))
    generalize countE xs.length = q at *
    clear HD hc
    go_enter Tryz.func87, Tryz.ntmps87
    go_wp2_with fail
    refine (HC.out _).mono ?_
    rintro e w0 ⟨rfl, rfl⟩
    go_wp2_with fail
    go_ret
    rw [HD2.out]
    exact ⟨rfl, only_refl _ _⟩

/-! Key -/
theorem keyD_take {l : List Ent} {i : Nat} {x : Ent} (h : l[i]? = some x) : ((l.take (i + 1)).map putE).flatten = ((l.take i).map putE).flatten ++ putE x := by
  rw [List.take_add_one, h]; simp

set_option maxHeartbeats 2000000 in
set_option maxRecDepth 100000 in
theorem keyD_any (xs : List Ent) (B : Nat) (w : World) (v : Value) (hl : xs.length ≤ 1000) (hz : ∀ x ∈ xs, x.key.size ≤ 1000 ∧ x.value.size ≤ 1000) (hk : (keyD xs).length ≤ 1000000) (h : Es B w v xs) :
    Calls Tryz.prog 41 #[v] w fun e w' => e = .returned (.string (txt (keyD xs))) ∧ Gd w w' := by
  have HP := Lib.hid (fun w => vi.putD_any xs.length (by omega) w)
  have HE := Lib.hid h.low
  have HZ := Lib.hid hz
  have hmod : (xs.length : Int) % 18446744073709551616 = xs.length := by omega
  obtain ⟨a, cap, rfl⟩ := h.shape
  clear h hz
  go_enter Tryz.func41, Tryz.ntmps41
  have HB := Lib.hid (Bld.new w (fun k => w.heap.size ≤ k) (Nat.le_refl _))
  have HGA := Lib.hid ((Gd.refl w).alloc (.cells #[.pointer none, .slice none 0 0] 85))
  have hkl : (enc xs.length).length + ((xs.map putE).flatten).length ≤ 1000000 := by unfold keyD at hk; rw [List.length_append] at hk; exact hk
  have HN : Hid ((encB xs.length).data.toList = enc xs.length) := by
    show _ = _
    rw [encB_txt, txt_list]
  have hn : (encB xs.length).size = (enc xs.length).length := by rw [encB_txt, txt_size]
  clear hk
  go_wp2_with fail
  refine (HP.out _).mono ?_
  rintro e w1 ⟨rfl, g1⟩
  have HB1 := Lib.hid (HB.out.kept (T := fun _ => False) (Chg.of_none g1.ok) (fun _ _ e => e))
  have HG1 := Lib.hid (HGA.out.trans g1)
  clear g1
  go_wp2_with fail
  refine (writeD_any _ _ _ _ _ HB1.out (by rw [hn]; simp; omega)).mono ?_
  rintro e w2 ⟨rfl, g2, b2, d2⟩
  have HG2 := Lib.hid (HG1.out.new g2 d2 (fun k e => e))
  rw [HN.out, List.nil_append] at b2
  have HB2 := Lib.hid (b2.mono (T := fun k => w.heap.size ≤ k) (fun k _ hk => by rcases hk with hk | hk; exact hk; have := HG1.out.ok.size; omega))
  clear g2 b2 d2
  go_wp2_with fail
  go_loopw [13] (fun q wr => ∃ i : Nat, i ≤ xs.length ∧ q = .int .i64 i ∧ Bld wr w.heap.size (fun k => w.heap.size ≤ k) (enc xs.length ++ ((xs.take i).map putE).flatten) ∧ Gd w wr) (fun q _ => xs.length - (intOf q).toNat)
  case atStart => exact ⟨0, Nat.zero_le _, rfl, by simpa using HB2.out, HG2.out⟩
  case round =>
    obtain ⟨i, hi, rfl, hb, hg⟩ := hrel
    have HG := Lib.hid hg
    have HBi := Lib.hid hb
    clear hg hb
    by_cases hlt : i < xs.length
    · obtain ⟨x, hx⟩ : ∃ x, xs[i]? = some x := ⟨xs[i], List.getElem?_eq_getElem hlt⟩
      have HEi := Lib.hid (HE.out.grown HG.out.ok)
      obtain ⟨b, off, cap', hv, hb, hle, hcm, c0, c1⟩ := HEi.out.at hx
      simp only [Value.slice.injEq, true_and] at hv
      obtain ⟨rfl, rfl⟩ := hv
      unfold maxLen at hcm
      have hsz := HZ.out x (List.mem_of_getElem? hx)
      have HTK := Lib.hid (keyD_take hx)
      have hpl : ((xs.take i).map putE).flatten.length + (putE x).length ≤ ((xs.map putE).flatten).length := by
        rw [← List.length_append, ← HTK.out]
        have := congrArg List.length (show (xs.map putE).flatten = ((xs.take (i + 1)).map putE).flatten ++ ((xs.drop (i + 1)).map putE).flatten by rw [← List.flatten_append, ← List.map_append, List.take_append_drop])
        rw [List.length_append] at this
        omega
      have GA := (Gd.refl wr).alloc (.cells #[.string x.key, .string x.value] 115)
      have G1 := Lib.hid (HG.out.trans GA)
      have HBA := Lib.hid (HBi.out.kept (T := fun _ => False) (Chg.of_none GA.ok) (fun _ _ e => e))
      have HPX := Lib.hid (fun w => ee.putD_any x w (by omega) (by omega))
      clear hx GA hsz
      go_wp2_with fail
      refine (HPX.out _).mono ?_
      rintro e w3 ⟨rfl, g3⟩
      have HG3 := Lib.hid (G1.out.trans g3)
      have HB3 := Lib.hid (HBA.out.kept (T := fun _ => False) (Chg.of_none g3.ok) (fun _ _ e => e))
      clear g3
      go_wp2_with fail
      refine (writeD_any _ _ _ _ _ HB3.out (by rw [txt_size, List.length_append]; omega)).mono ?_
      rintro e w4 ⟨rfl, g4, b4, d4⟩
      have HG4 := Lib.hid (HG3.out.new g4 d4 (fun k e => e))
      rw [txt_list, List.append_assoc, ← HTK.out] at b4
      have HB4 := Lib.hid (b4.mono (T := fun k => w.heap.size ≤ k) (fun k _ hk => by rcases hk with hk | hk; exact hk; have := HG3.out.ok.size; omega))
      clear g4 b4 d4
      go_wp2_with fail
      go_roundw
      case rel => exact ⟨i + 1, by omega, by go_num, HB4.out, HG4.out⟩
      case measure => simp [intOf]; omega
    · have hie : i = xs.length := by omega
      subst hie
      rw [List.take_length] at HBi
      go_wp2_with fail
      refine (stringD_any _ _ _ _ HBi.out).mono ?_
      rintro e w4 ⟨rfl, g4, -, d4⟩
      have HG4 := Lib.hid (HG.out.new g4 d4 (fun k e => by first | exact e | (rcases e with e | e; exact e; have := HG.out.ok.size; omega)))
      clear g4 d4
      go_wp2_with fail
      go_ret
      exact ⟨rfl, HG4.out⟩

theorem key_any (xs : List Ent) (B : Nat) (w : World) (v : Value) (hl : xs.length ≤ 1000) (hz : ∀ x ∈ xs, x.key.size ≤ 1000 ∧ x.value.size ≤ 1000) (hk : (keyD xs).length ≤ 1000000) (h : Es B w v xs) :
    Calls Tryz.prog 41 #[v] w fun e w' => e = .returned (.string (txt (keyD xs))) ∧ w.grownBy w' none :=
  (keyD_any xs B w v hl hz hk h).mono fun _ _ ⟨h, g⟩ => ⟨h, g.ok⟩

/-! Get -/
theorem getD_at {l : List Ent} {i : Nat} {x : Ent} (key : ByteArray) (h : l[i]? = some x) : getD key (l.drop i) = if x.key = key then (x.value, true) else getD key (l.drop (i + 1)) := by
  rw [drop_at h, getD]

/-! Cmp -/
set_option maxHeartbeats 2000000 in
set_option maxRecDepth 100000 in
theorem dcmpD_any (xs ys : List Ent) (B : Nat) (w : World) (v u : Value) (hx : xs.length ≤ 1000) (hy : ys.length ≤ 1000) (hz : ∀ x ∈ xs, x.key.size ≤ 1000 ∧ x.value.size ≤ 1000) (hz2 : ∀ x ∈ ys, x.key.size ≤ 1000 ∧ x.value.size ≤ 1000)
    (hk : (keyD xs).length ≤ 1000000) (hk2 : (keyD ys).length ≤ 1000000) (h : Es B w v xs) (h2 : Es B w u ys) :
    Calls Tryz.prog 88 #[v, u] w fun e w' => e = .returned (.int .i64 (cmpB (txt (keyD xs)) (txt (keyD ys)))) ∧ Gd w w' := by
  have HK1 := Lib.hid (fun w1 (g : Gd w w1) => keyD_any xs B w1 v hx hz hk (h.grown g.ok))
  have HK2 := Lib.hid (fun w1 (g : Gd w w1) => keyD_any ys B w1 u hy hz2 hk2 (h2.grown g.ok))
  have HC := Lib.hid (fun w => ee.compare_any (txt (keyD xs)) (txt (keyD ys)) w)
  obtain ⟨a, cap, rfl⟩ := h.shape
  obtain ⟨a2, cap2, rfl⟩ := h2.shape
  generalize txt (keyD xs) = X at *
  generalize txt (keyD ys) = Y at *
  generalize cmpB X Y = r at *
  clear h h2 hz hz2
  go_enter Tryz.func88, Tryz.ntmps88
  go_wp2_with fail
  refine (HK1.out _ (Gd.refl _)).mono ?_
  rintro e w1 ⟨rfl, g1⟩
  have G1 := Lib.hid g1
  clear g1
  go_wp2_with fail
  refine (HK2.out _ G1.out).mono ?_
  rintro e w2 ⟨rfl, g2⟩
  have G2 := Lib.hid (G1.out.trans g2)
  clear g2
  go_wp2_with fail
  refine (HC.out _).mono ?_
  rintro e w3 ⟨rfl, rfl⟩
  go_wp2_with fail
  go_ret
  exact ⟨rfl, G2.out⟩

theorem dcmp_any (xs ys : List Ent) (B : Nat) (w : World) (v u : Value) (hx : xs.length ≤ 1000) (hy : ys.length ≤ 1000) (hz : ∀ x ∈ xs, x.key.size ≤ 1000 ∧ x.value.size ≤ 1000) (hz2 : ∀ x ∈ ys, x.key.size ≤ 1000 ∧ x.value.size ≤ 1000)
    (hk : (keyD xs).length ≤ 1000000) (hk2 : (keyD ys).length ≤ 1000000) (h : Es B w v xs) (h2 : Es B w u ys) :
    Calls Tryz.prog 88 #[v, u] w fun e w' => e = .returned (.int .i64 (cmpB (txt (keyD xs)) (txt (keyD ys)))) ∧ w.grownBy w' none :=
  (dcmpD_any xs ys B w v u hx hy hz hz2 hk hk2 h h2).mono fun _ _ ⟨h, g⟩ => ⟨h, g.ok⟩

end Go.Proofs.YtbebdaglkjhbjaaGreatDoor.dd

/-
  The developers' descriptors: Next, Parse.
-/
namespace Go.Proofs.YtbebdaglkjhbjaaGreatDoor.dd
open Go.RowKit Go.Proofs.YtbebdaglkjhbjaaGreatDoor.vi Go.Proofs.YtbebdaglkjhbjaaGreatDoor.um Go.Proofs.YtbebdaglkjhbjaaGreatDoor.wm Go.Proofs.YtbebdaglkjhbjaaGreatDoor.tr Go.Proofs.YtbebdaglkjhbjaaGreatDoor.em Go.Proofs.YtbebdaglkjhbjaaGreatDoor.cur Go.Proofs.YtbebdaglkjhbjaaGreatDoor.law11
set_option linter.unusedVariables false
set_option linter.unusedSimpArgs false

theorem Tryz.infoE : (Tryz.prog.info? 115).map (fun i => (i.zero, i.size, i.bytes)) = some (some (.agg #[.string ⟨#[]⟩, .string ⟨#[]⟩]), 2, 32) := by kernel_rfl

theorem only_row {a b c : World} {row o : Option Nat} (h : a.grownBy b row) (g : b.grownBy c o) (hk : ∀ k, o = some k → a.heap.size ≤ k) : a.grownBy c row := by
  cases o with
  | none => exact only_trans h (only_of_none g row)
  | some k => exact only_new h g (hk k rfl)

def glueE (acc : List Ent) (r : List Ent × List UInt8 × Nat) : List Ent × List UInt8 × Nat := if r.2.2 ≠ 0 then ([], [], r.2.2) else (acc ++ r.1, r.2.1, 0)
theorem glueE_zero (acc : List Ent) (p : Option Ent) (L : List UInt8) : glueE acc (readE 0 p L) = (acc, L, 0) := by simp [glueE, readE]
theorem glueE_step (acc : List Ent) (n : Nat) (p : Option Ent) (L : List UInt8) : glueE acc (readE (n + 1) p L) =
    if (nextE L).2.2 ≠ 0 then ([], [], (nextE L).2.2) else if behindO p (nextE L).1 ≠ 0 then ([], [], behindO p (nextE L).1) else glueE (acc ++ [(nextE L).1]) (readE n (some (nextE L).1) (nextE L).2.1) := by
  have e : readE (n + 1) p L = if (nextE L).2.2 ≠ 0 then ([], [], (nextE L).2.2) else if behindO p (nextE L).1 ≠ 0 then ([], [], behindO p (nextE L).1)
    else if (readE n (some (nextE L).1) (nextE L).2.1).2.2 ≠ 0 then ([], [], (readE n (some (nextE L).1) (nextE L).2.1).2.2)
    else ((nextE L).1 :: (readE n (some (nextE L).1) (nextE L).2.1).1, (readE n (some (nextE L).1) (nextE L).2.1).2.1, 0) := by rw [readE]
  rw [e]
  generalize readE n (some (nextE L).1) (nextE L).2.1 = r
  by_cases h1 : (nextE L).2.2 = 0
  · by_cases h2 : behindO p (nextE L).1 = 0
    · by_cases h3 : r.2.2 = 0 <;> simp [glueE, h1, h2, h3]
    · simp [glueE, h1, h2]
  · simp [glueE, h1]
theorem glueE_nil (r : List Ent × List UInt8 × Nat) (h : r.2.2 ≠ 0 → r.1 = [] ∧ r.2.1 = []) : r = glueE [] r := by
  obtain ⟨a, b, c⟩ := r
  unfold glueE
  simp only at *
  split
  · rename_i h0
    obtain ⟨rfl, rfl⟩ := h h0
    rfl
  · rename_i h0
    have : c = 0 := by omega
    subst this
    rfl

set_option maxHeartbeats 4000000 in
set_option maxRecDepth 100000 in
theorem next_any (W w : World) (b : Nat) (s : ByteArray) (k : Nat) (hs : s.size ≤ 1000000) (hT : tb.Tab W) (hw : W.grownBy w none) (hb : W.heap.size ≤ b) (hc : Cur w b s k) :
    Calls Tryz.prog 109 #[.pointer (some ⟨b, 0, none⟩)] w fun e w' => ∃ k' v, e = .returned (.tuple #[v, .int .i64 ((nextD (s.data.toList.drop k)).2.2 : Nat)]) ∧ Cur w' b s k' ∧ OwnE 115 w.heap.size w' v (nextD (s.data.toList.drop k)).1 ∧
      ((nextD (s.data.toList.drop k)).2.2 = 0 → s.data.toList.drop k' = (nextD (s.data.toList.drop k)).2.1) ∧ w.grownBy w' (some b) := by
  have HN := Lib.hid (vi.next_some hc)
  have hbd := getR_bounds (s.data.toList.drop k)
  have HX : Hid (nextD (s.data.toList.drop k) = if (getR (s.data.toList.drop k)).2.2 ≠ 0 then ([], [], (getR (s.data.toList.drop k)).2.2) else if countE (getR (s.data.toList.drop k)).1 ≠ 0 then ([], [], countE (getR (s.data.toList.drop k)).1) else readE (getR (s.data.toList.drop k)).1 none (s.data.toList.drop (k + (getR (s.data.toList.drop k)).2.1))) := by
    show _ = _
    rw [← List.drop_drop]
    rfl
  have hbw : b < w.heap.size := hc.lt
  have HTB := Lib.hid hT
  have HNW := Lib.hid (fun w1 (g : w.grownBy w1 (some b)) => only_new hw g hb)
  generalize nextD (s.data.toList.drop k) = R at *
  generalize getR (s.data.toList.drop k) = r at *
  obtain ⟨x, m, E⟩ := r
  simp only at hbd HN HX
  obtain ⟨hx, -, -, hE, -⟩ := hbd
  have HC := Lib.hid (fun w => count_any x hx w)
  clear hT hw hc
  by_cases h0 : E = 0
  · subst h0
    by_cases h1 : countE x = 0
    · rw [h1] at HC
      have HX := Lib.hid (HX.out.trans ((if_neg (by simp)).trans (if_neg (by simp [h1]))))
      have hx16 : x ≤ 16 ∧ 1 ≤ x := by unfold countE at h1; split at h1 <;> (try split at h1) <;> omega
      have HX := Lib.hid (HX.out.trans (glueE_nil _ (readE_err x none (s.data.toList.drop (k + m)))))
      clear h1
      go_enter Tryz.func109, Tryz.ntmps109
      go_wp2_with fail
      refine HN.out.mono ?_
      rintro e w1 ⟨rfl, c1, g1⟩
      have C1 := Lib.hid c1
      have G1 := Lib.hid g1
      clear c1 g1
      go_wp2_with fail
      refine (HC.out _).mono ?_
      rintro e w2 ⟨rfl, rfl⟩
      go_wp2_with fail
      go_loopw [7, 25] (fun v q wr => ∃ (i k' : Nat) (acc : List Ent), i ≤ x ∧ acc.length = i ∧ q = .int .u64 i ∧ OwnE 115 w.heap.size wr v acc ∧ Cur wr b s k' ∧ w.grownBy wr (some b) ∧ R = glueE acc (readE (x - i) acc.getLast? (s.data.toList.drop k'))) (fun _ q _ => x - (intOf q).toNat)
      case atStart => exact ⟨0, k + m, [], Nat.zero_le _, rfl, rfl, OwnE.nil _ _ _, C1.out, G1.out, HX.out⟩
      case round =>
        obtain ⟨i, k', acc, hi, rfl, rfl, ho, hcu, hg, hr⟩ := hrel
        have HO := Lib.hid ho
        have HCU := Lib.hid hcu
        have HG := Lib.hid hg
        have HR := Lib.hid hr
        clear ho hcu hg hr
        by_cases hlt : acc.length < x
        · obtain ⟨n, hn⟩ : ∃ n, x - acc.length = n + 1 := ⟨x - acc.length - 1, by omega⟩
          have HNX := Lib.hid (ee.next_any W wr b s k' HTB.out (HNW.out _ HG.out) hb HCU.out)
          have HST := Lib.hid (HR.out.trans ((congrArg (fun z => glueE acc (readE z acc.getLast? (s.data.toList.drop k'))) hn).trans (glueE_step acc n acc.getLast? (s.data.toList.drop k'))))
          have hlt64 := nextE_lt (s.data.toList.drop k')
          have hbl := behindO_lt acc.getLast? (nextE (s.data.toList.drop k')).1
          have HBK := Lib.hid (behindK_eq acc.getLast? (nextE (s.data.toList.drop k')).1)
          clear HR HX
          generalize nextE (s.data.toList.drop k') = Y at *
          obtain ⟨y, L', q⟩ := Y
          simp only at HNX HST hlt64 hbl HBK
          by_cases h1 : q = 0
          · subst h1
            have HST := Lib.hid (HST.out.trans (if_neg (by simp)))
            obtain ⟨va, vc, hv⟩ := HO.out.es.shape
            have HOV := HO.out
            rw [hv] at HOV
            have HO2 := Lib.hid HOV
            subst hv
            have hvb := HOV.lt
            clear HOV HO
            go_wp2_with fail
            refine HNX.out.mono ?_
            rintro e w3 ⟨k2, rfl, c3, hk3, g3⟩
            have HO3 := Lib.hid (HO2.out.kept g3 (.inr (fun e => by have := (hvb _ e).1; omega)))
            have C3 := Lib.hid c3
            have HK3 := Lib.hid (by first | exact hk3 rfl | exact hk3 trivial : s.data.toList.drop k2 = L')
            have HG3 := Lib.hid (only_trans HG.out g3)
            have hsz3 := HG3.out.size
            clear c3 hk3 g3
            have GA := only_alloc (only_refl w3 none) (.cells #[.string y.key, .string y.value] 115)
            have V4 := Lib.hid (EntV.new w3 115 y)
            have HO4 := Lib.hid (HO3.out.grown GA)
            have C4 := Lib.hid (C3.out.kept GA (by simp))
            have HG4 := Lib.hid (only_trans HG3.out (only_of_none GA (some b)))
            have HGA := Lib.hid GA
            have HBH := Lib.hid (fun w1 (g : (w3.alloc (.cells #[.string y.key, .string y.value] 115)).grownBy w1 none) => behind_any acc y.key _ w1 _ (by omega) (HO4.out.es.grown g))
            rw [HBK.out] at HBH
            clear GA
            by_cases h2 : behindO acc.getLast? y = 0
            · rw [h2] at HBH
              have HST := Lib.hid (HST.out.trans (if_neg (by simp [h2])))
              obtain ⟨d0, d1⟩ := V4.out
              clear h2 hbl HBK hlt64
              go_wp2_with fail
              generalize hwa : w3.alloc (.cells #[.string y.key, .string y.value] 115) = wa at *
              refine (HBH.out _ (only_refl _ _)).mono ?_
              rintro e w5 ⟨rfl, n5, rfl⟩
              have GB := only_drewN (only_refl wa none) n5
              have GC := only_alloc GB (.cells #[.string y.key, .string y.value] 115)
              have HO5 := Lib.hid (HO4.out.grown GC)
              have C5 := Lib.hid (C4.out.kept GC (by simp))
              have HG5 := Lib.hid (only_trans HG4.out (only_of_none GC (some b)))
              have HONE : Hid (Es (wa.heap.size + 1) ((wa.drewN n5).alloc (.cells #[.string y.key, .string y.value] 115)) (.slice (some ⟨wa.heap.size, 0, none⟩) 1 1) [y]) := es_one (wa.drewN n5) y _
              have hwz : w.heap.size ≤ wa.heap.size := HG4.out.size
              clear GB GC
              obtain ⟨d0, d1⟩ := (V4.out.grown (only_drewN (only_refl wa none) n5))
              go_wp2_with (at_builtin; refine wpList_append_es rfl _ _ 78 115 rfl _ Tryz.underlying78 Tryz.infoE rfl w.heap.size _ _ acc [y] rfl HO5.out _ rfl HONE.out ?c1 ?c2 ?_)
              case c1 => simp; omega
              case c2 => simp; omega
              intro v6 w6 ho6 hg6 _
              have HO6 := Lib.hid ho6
              have C6 := Lib.hid (C5.out.kept hg6 (fun e => by have := (hvb _ e.symm).1; omega))
              have HG6 := Lib.hid (only_row HG5.out hg6 (fun k e => (hvb k e).1))
              clear ho6 hg6
              go_wp2_with fail
              go_roundw
              case rel => exact ⟨acc.length + 1, k2, acc ++ [y], by omega, by simp, by go_num, HO6.out, C6.out, HG6.out, by rw [HST.out, HK3.out, show x - (acc.length + 1) = n by omega]; simp⟩
              case measure => simp [intOf]; omega
            · have HST := Lib.hid (HST.out.trans (if_pos h2))
              generalize behindO acc.getLast? y = q at *
              have hqb : ((q : Int) != 0) = true := by rw [bne_iff_ne]; omega
              have HQ := Lib.hid h2
              obtain ⟨d0, d1⟩ := V4.out
              clear h2 hbl HBK hlt64
              go_wp2_with fail
              generalize hwa : w3.alloc (.cells #[.string y.key, .string y.value] 115) = wa at *
              refine (HBH.out _ (only_refl _ _)).mono ?_
              rintro e w5 ⟨rfl, n5, rfl⟩
              go_wp2_with fail
              go_ret2
              rw [HST.out]
              exact ⟨k2, _, rfl, C4.out.kept (only_drewN (only_refl _ none) _) (by simp), OwnE.nil _ _ _, fun e => absurd e HQ.out, only_drewN HG4.out _⟩
          · have HST := Lib.hid (HST.out.trans (if_pos h1))
            have hqb : ((q : Int) != 0) = true := by rw [bne_iff_ne]; omega
            have HQ := Lib.hid h1
            clear h1 hbl HBK hlt64
            go_wp2_with fail
            refine HNX.out.mono ?_
            rintro e w3 ⟨k2, rfl, c3, hk3, g3⟩
            have HG3 := Lib.hid (only_trans HG.out g3)
            have C3 := Lib.hid c3
            clear c3 hk3 g3
            go_wp2_with fail
            go_ret2
            rw [HST.out]
            exact ⟨k2, _, rfl, C3.out.kept (only_alloc (only_refl _ none) _) (by simp), OwnE.nil _ _ _, fun e => absurd e HQ.out, only_alloc HG3.out _⟩
        · have hie : x - acc.length = 0 := by omega
          rw [hie, glueE_zero] at HR
          go_wp2_with fail
          go_ret2
          rw [HR.out]
          exact ⟨k', _, rfl, HCU.out, HO.out, fun _ => rfl, HG.out⟩
    · have HX := Lib.hid (HX.out.trans ((if_neg (by simp)).trans (if_pos h1)))
      have HQ := Lib.hid h1
      generalize countE x = q at *
      have hqb : ((q : Int) != 0) = true := by rw [bne_iff_ne]; omega
      clear h1
      go_enter Tryz.func109, Tryz.ntmps109
      go_wp2_with fail
      refine HN.out.mono ?_
      rintro e w1 ⟨rfl, c1, g1⟩
      have C1 := Lib.hid c1
      have G1 := Lib.hid g1
      clear c1 g1
      go_wp2_with fail
      refine (HC.out _).mono ?_
      rintro e w2 ⟨rfl, rfl⟩
      go_wp2_with fail
      go_ret2
      rw [HX.out]
      exact ⟨_, _, rfl, C1.out, OwnE.nil _ _ _, fun e => absurd e HQ.out, G1.out⟩
  · have HX := Lib.hid (HX.out.trans (if_pos h0))
    have HQ := Lib.hid h0
    have hqb : ((E : Int) != 0) = true := by rw [bne_iff_ne]; omega
    clear h0
    go_enter Tryz.func109, Tryz.ntmps109
    go_wp2_with fail
    refine HN.out.mono ?_
    rintro e w1 ⟨rfl, c1, g1⟩
    have C1 := Lib.hid c1
    have G1 := Lib.hid g1
    clear c1 g1
    go_wp2_with fail
    go_ret2
    rw [HX.out]
    exact ⟨_, _, rfl, C1.out, OwnE.nil _ _ _, fun e => absurd e HQ.out, G1.out⟩

theorem next_nil (w : World) : Calls Tryz.prog 109 #[.pointer none] w fun e w' => e = .returned (.tuple #[.slice none 0 0, .int .i64 25]) ∧ w = w' := by
  have HN := Lib.hid (fun w => vi.next_nil w)
  go_enter Tryz.func109, Tryz.ntmps109
  go_wp2_with fail
  refine (HN.out _).mono ?_
  rintro e w1 ⟨rfl, rfl⟩
  go_wp2_with fail
  go_ret2
  exact ⟨rfl, rfl⟩

set_option maxHeartbeats 1000000 in
set_option maxRecDepth 100000 in
theorem parse_any (s : ByteArray) (w : World) (hs : s.size ≤ 1000000) (hT : tb.Tab w) :
    Calls Tryz.prog 83 #[.string s] w fun e w' => ∃ v, e = .returned (.tuple #[v, .int .i64 ((parseD s.data.toList).2 : Nat)]) ∧ OwnE 115 w.heap.size w' v (parseD s.data.toList).1 ∧ w.grownBy w' none := by
  have HO := Lib.hid (over_any s)
  have GA := only_alloc (only_refl w none) (.cells #[.string s, .int .i64 0] 100)
  have HN := Lib.hid (next_any w _ w.heap.size s 0 hs hT GA (Nat.le_refl _) (Cur.new s (by unfold maxLen; omega) w))
  rw [List.drop_zero] at HN
  have HGA := Lib.hid GA
  have hlt := nextD_lt s.data.toList
  have hl : s.data.toList.length = s.size := by simp
  clear GA hT
  have HP : Hid (parseD s.data.toList = if (nextD s.data.toList).2.2 ≠ 0 then ([], (nextD s.data.toList).2.2) else if (nextD s.data.toList).2.1 ≠ [] then ([], 10) else ((nextD s.data.toList).1, 0)) := rfl
  generalize parseD s.data.toList = PP at *
  generalize nextD s.data.toList = R at *
  obtain ⟨l, rest, q⟩ := R
  simp only at HN hlt HP
  by_cases h1 : q = 0
  · subst h1
    have HP := Lib.hid (HP.out.trans (if_neg (by simp)))
    go_enter Tryz.func83, Tryz.ntmps83
    go_wp2_with fail
    refine (HO.out _).mono ?_
    rintro e w1 ⟨rfl, rfl⟩
    go_wp2_with fail
    refine HN.out.mono ?_
    rintro e w2 ⟨k, v, rfl, c2, o2, hk, g2⟩
    have hk2 : s.data.toList.drop k = rest := by first | exact hk rfl | exact hk trivial
    have hk3 := congrArg List.length hk2
    rw [List.length_drop, hl] at hk3
    have HL := Lib.hid (left_some c2)
    have O2 := Lib.hid (OwnE.mono (base' := w.heap.size) o2 (by simp))
    have G2 := Lib.hid (only_new HGA.out g2 (Nat.le_refl _))
    obtain ⟨va, vc, rfl⟩ := o2.es.shape
    clear c2 o2 hk g2 hk2
    by_cases h2 : rest = []
    · have HP := Lib.hid (HP.out.trans (if_neg (by simp [h2])))
      subst h2
      rw [List.length_nil] at hk3
      rw [hk3] at HL
      go_wp2_with fail
      refine HL.out.mono ?_
      rintro e w3 ⟨rfl, n, rfl⟩
      go_wp2_with fail
      go_ret2
      rw [HP.out]
      exact ⟨_, rfl, O2.out.grown (only_drewN (only_refl _ _) _), only_drewN G2.out _⟩
    · have HP := Lib.hid (HP.out.trans (if_pos h2))
      have h3 : rest.length ≠ 0 := fun e => h2 (List.length_eq_zero_iff.1 e)
      rw [hk3] at HL
      generalize rest.length = m at *
      have h4 : (0 : Int) < (m : Int) := by omega
      go_wp2_with fail
      refine HL.out.mono ?_
      rintro e w3 ⟨rfl, n, rfl⟩
      go_wp2_with fail
      go_ret2
      rw [HP.out]
      exact ⟨_, rfl, OwnE.nil _ _ _, only_drewN G2.out _⟩
  · have HP := Lib.hid (HP.out.trans (if_pos h1))
    have hqb : ((q : Int) != 0) = true := by rw [bne_iff_ne]; omega
    go_enter Tryz.func83, Tryz.ntmps83
    go_wp2_with fail
    refine (HO.out _).mono ?_
    rintro e w1 ⟨rfl, rfl⟩
    go_wp2_with fail
    refine HN.out.mono ?_
    rintro e w2 ⟨k, v, rfl, c2, o2, hk, g2⟩
    have G2 := Lib.hid (only_new HGA.out g2 (Nat.le_refl _))
    obtain ⟨va, vc, rfl⟩ := o2.es.shape
    clear c2 o2 hk g2
    go_wp2_with fail
    go_ret2
    rw [HP.out]
    exact ⟨_, rfl, OwnE.nil _ _ _, G2.out⟩

end Go.Proofs.YtbebdaglkjhbjaaGreatDoor.dd
