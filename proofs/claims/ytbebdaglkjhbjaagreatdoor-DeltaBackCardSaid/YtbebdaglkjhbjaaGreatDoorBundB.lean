/-
  Cmath, Crc, CrcMore, CrcSum, CrcPut, CrcRef, Law04, Strs
-/
import Derived.Test.YtbebdaglkjhbjaaGreatDoorBundA
import Derived.SliceStrings

/-
  Plain mathematics of the sum of 32 bits: no function of the program.
-/
namespace Go.Proofs.YtbebdaglkjhbjaaGreatDoor.crcm
set_option linter.unusedVariables false

/-- One bit's step. -/
def st (r : Nat) : Nat := if r % 2 = 1 then r / 2 ^^^ 3988292384 else r / 2

def stN : Nat → Nat → Nat
  | 0, r => r
  | k + 1, r => stN k (st r)

theorem stN_add (a b r : Nat) : stN (a + b) r = stN b (stN a r) := by
  induction a generalizing r with
  | zero => simp [stN]
  | succ a ih => rw [show a + 1 + b = (a + b) + 1 by omega, stN, ih, stN]

theorem stN_succ (k r : Nat) : stN (k + 1) r = st (stN k r) := by rw [stN_add]; rfl

theorem xor_mod2 (a b : Nat) : (a ^^^ b) % 2 = (a % 2 + b % 2) % 2 := by
  have h := Nat.xor_mod_two_pow (a := a) (b := b) (n := 1)
  rw [show (2 : Nat) ^ 1 = 2 from rfl] at h
  rw [h]
  rcases Nat.mod_two_eq_zero_or_one a with ha | ha <;> rcases Nat.mod_two_eq_zero_or_one b with hb | hb <;> rw [ha, hb] <;> rfl

theorem st_xor (a b : Nat) : st (a ^^^ b) = st a ^^^ st b := by
  unfold st
  rw [xor_mod2, Nat.xor_div_two]
  rcases Nat.mod_two_eq_zero_or_one a with ha | ha <;> rcases Nat.mod_two_eq_zero_or_one b with hb | hb <;> simp only [ha, hb]
  · simp
  · simp [Nat.xor_assoc]
  · simp only [if_true, Nat.zero_ne_one, if_false]
    rw [Nat.xor_assoc, Nat.xor_assoc, Nat.xor_comm (b / 2)]
  · simp only [Nat.reduceAdd, Nat.reduceMod, Nat.zero_ne_one, if_false, if_true]
    rw [Nat.xor_assoc, Nat.xor_comm (b / 2), ← Nat.xor_assoc 3988292384, Nat.xor_self, Nat.zero_xor]

theorem stN_xor : ∀ (k a b : Nat), stN k (a ^^^ b) = stN k a ^^^ stN k b
  | 0, a, b => rfl
  | k + 1, a, b => by rw [stN, st_xor, stN_xor k]; rfl

theorem st_double (x : Nat) : st (2 * x) = x := by unfold st; rw [if_neg (by omega)]; omega

theorem stN_shift : ∀ (k x : Nat), stN k (2 ^ k * x) = x
  | 0, x => by simp [stN]
  | k + 1, x => by rw [stN, Nat.pow_succ, Nat.mul_comm (2 ^ k) 2, Nat.mul_assoc, st_double, stN_shift k]

theorem stN_zero (k : Nat) : stN k 0 = 0 := by simpa using stN_shift k 0

theorem st_lt {r : Nat} (h : r < 4294967296) : st r < 4294967296 := by
  unfold st
  split
  · exact Nat.xor_lt_two_pow (n := 32) (by omega) (by decide)
  · omega

theorem stN_lt : ∀ (k : Nat) {r : Nat}, r < 4294967296 → stN k r < 4294967296
  | 0, r, h => h
  | k + 1, r, h => stN_lt k (st_lt h)

theorem st_eq_zero {r : Nat} (h : r < 4294967296) (h0 : st r = 0) : r = 0 := by
  unfold st at h0
  split at h0
  · have h1 : r / 2 = 3988292384 := by
      have := congrArg (· ^^^ 3988292384) h0
      simp only [Nat.xor_assoc, Nat.xor_self, Nat.xor_zero, Nat.zero_xor] at this
      exact this
    omega
  · omega

theorem stN_eq_zero : ∀ (k : Nat) {r : Nat}, r < 4294967296 → stN k r = 0 → r = 0
  | 0, r, _, h0 => h0
  | k + 1, r, h, h0 => st_eq_zero h (stN_eq_zero k (st_lt h) h0)

theorem stN_inj (k : Nat) {a b : Nat} (ha : a < 4294967296) (hb : b < 4294967296) (h : stN k a = stN k b) : a = b := by
  have h1 : stN k (a ^^^ b) = 0 := by rw [stN_xor, h, Nat.xor_self]
  have h2 := stN_eq_zero k (Nat.xor_lt_two_pow (n := 32) ha hb) h1
  have h3 := congrArg (· ^^^ b) h2
  simpa [Nat.xor_assoc] using h3

/-- A byte's step. -/
def fb (r : Nat) (b : UInt8) : Nat := stN 8 (r ^^^ b.toNat)
def fold (r : Nat) (L : List UInt8) : Nat := L.foldl fb r
/-- Bytes as one number, the lowest first. -/
def num : List UInt8 → Nat
  | [] => 0
  | b :: l => b.toNat + 256 * num l
def sumN (L : List UInt8) : Nat := 4294967295 - fold 4294967295 L

theorem low_xor (b v : Nat) (h : b < 256) : b ^^^ 256 * v = b + 256 * v := by
  have := Nat.two_pow_add_eq_or_of_lt (i := 8) h v
  have h2 : b ^^^ 256 * v = 256 * v ||| b := by
    apply Nat.eq_of_testBit_eq
    intro i
    rw [Nat.testBit_xor, Nat.testBit_or]
    rw [show (256 : Nat) = 2 ^ 8 from rfl, Nat.testBit_two_pow_mul]
    by_cases hi : 8 ≤ i
    · have : b.testBit i = false := Nat.testBit_lt_two_pow (Nat.lt_of_lt_of_le h (Nat.pow_le_pow_right (n := 2) (by omega) hi))
      simp [this]
    · simp [hi]
  rw [h2, ← this]
  omega

theorem fold_num : ∀ (L : List UInt8) (r : Nat), fold r L = stN (8 * L.length) (r ^^^ num L)
  | [], r => by simp [fold, stN, num]
  | b :: l, r => by
    have e : fold r (b :: l) = fold (fb r b) l := rfl
    have hb := b.toNat_lt
    rw [e, fold_num l, fb]
    have h1 : stN 8 (r ^^^ b.toNat) ^^^ num l = stN 8 (r ^^^ (b.toNat + 256 * num l)) := by
      rw [← low_xor _ _ (by omega), ← Nat.xor_assoc, stN_xor 8 (r ^^^ b.toNat), show 256 * num l = 2 ^ 8 * num l from rfl, stN_shift]
    rw [h1, ← stN_add, List.length_cons]
    congr 1
    omega

theorem fold_append (r : Nat) (L M : List UInt8) : fold r (L ++ M) = fold (fold r L) M := List.foldl_append ..

theorem fb_lt {r : Nat} (h : r < 4294967296) (b : UInt8) : fb r b < 4294967296 :=
  stN_lt 8 (Nat.xor_lt_two_pow (n := 32) h (by have := b.toNat_lt; omega))

theorem fold_lt : ∀ (L : List UInt8) {r : Nat}, r < 4294967296 → fold r L < 4294967296
  | [], r, h => h
  | b :: l, r, h => fold_lt l (fb_lt h b)

theorem num_lt : ∀ (L : List UInt8), num L < 256 ^ L.length
  | [] => by simp [num]
  | b :: l => by
    have := num_lt l
    have hb := b.toNat_lt
    simp only [num, List.length_cons, Nat.pow_succ]
    omega

/-- The bytes of a sum. -/
def put4 (n : Nat) : List UInt8 := [UInt8.ofNat (n % 256), UInt8.ofNat (n / 256 % 256), UInt8.ofNat (n / 65536 % 256), UInt8.ofNat (n / 16777216 % 256)]

theorem num_put4 {n : Nat} (h : n < 4294967296) : num (put4 n) = n := by
  simp only [put4, num]
  rw [show ∀ m, (UInt8.ofNat (m % 256)).toNat = m % 256 from fun m => by simp, show ∀ m, (UInt8.ofNat (m % 256)).toNat = m % 256 from fun m => by simp]
  simp
  omega

theorem not_xor (r : Nat) (h : r < 4294967296) : r ^^^ (4294967295 - r) = 4294967295 := by
  have h1 : ∀ i, i < 32 → (4294967295 - r).testBit i = !r.testBit i := fun i hi => by
    have := Nat.testBit_two_pow_sub_succ (x := r) (n := 32) h i
    rw [show (2 : Nat) ^ 32 - (r + 1) = 4294967295 - r by omega] at this
    rw [this]
    simp [hi]
  apply Nat.eq_of_testBit_eq
  intro i
  rw [Nat.testBit_xor]
  by_cases hi : i < 32
  · rw [h1 i hi]
    have : (4294967295 : Nat).testBit i = true := by
      have := Nat.testBit_two_pow_sub_one 32 i
      rw [show (2 : Nat) ^ 32 - 1 = 4294967295 from rfl] at this
      rw [this]; simpa using hi
    rw [this]
    simp
  · have h2 : ∀ x, x < 4294967296 → x.testBit i = false := fun x hx => Nat.testBit_lt_two_pow (Nat.lt_of_lt_of_le hx (Nat.pow_le_pow_right (n := 2) (by omega) (Nat.le_of_not_lt hi)))
    rw [h2 r h, h2 _ (by omega), h2 _ (by omega)]
    rfl

/-- A text and four bytes check just if all of it comes to the one state. -/
theorem check_iff (L T : List UInt8) (hT : T.length = 4) : num T = sumN L ↔ fold 4294967295 (L ++ T) = stN 32 4294967295 := by
  have hF : fold 4294967295 L < 4294967296 := fold_lt L (by decide)
  have hTn : num T < 4294967296 := by have := num_lt T; rw [hT] at this; exact this
  rw [fold_append, fold_num T, hT]
  constructor
  · intro h
    rw [h, sumN, not_xor _ hF]
  · intro h
    have := stN_inj 32 (Nat.xor_lt_two_pow (n := 32) hF hTn) (by decide) h
    have h2 := congrArg (fold 4294967295 L ^^^ ·) this
    simp only [← Nat.xor_assoc, Nat.xor_self, Nat.zero_xor] at h2
    rw [h2, sumN]
    have h3 := congrArg (fold 4294967295 L ^^^ ·) (not_xor _ hF)
    simp only [← Nat.xor_assoc, Nat.xor_self, Nat.zero_xor] at h3
    exact h3.symm

/-- A burst: bytes that are the others', turned at e from bit f on, check just if e is 0. -/
theorem burst (L M : List UInt8) (hlen : M.length = L.length) (e f : Nat) (he : e < 4294967296) (hf : f ≤ 8 * L.length) (hM : num M = num L ^^^ 2 ^ f * e) :
    fold 4294967295 M = fold 4294967295 L ↔ e = 0 := by
  rw [fold_num, fold_num, hlen, hM, ← Nat.xor_assoc, stN_xor _ (4294967295 ^^^ num L)]
  have hs : stN (8 * L.length) (2 ^ f * e) = stN (8 * L.length - f) e := by
    rw [show 8 * L.length = f + (8 * L.length - f) by omega, stN_add, stN_shift]
    congr 1
    omega
  rw [hs]
  generalize stN (8 * L.length) (4294967295 ^^^ num L) = A
  constructor
  · intro h
    have h2 := congrArg (A ^^^ ·) h
    simp only [← Nat.xor_assoc, Nat.xor_self, Nat.zero_xor] at h2
    exact stN_eq_zero _ he h2
  · rintro rfl
    rw [stN_zero, Nat.xor_zero]

/-- Eight steps at once, by a table of 256. -/
theorem stN8_table (r : Nat) : stN 8 r = stN 8 (r % 256) ^^^ r / 256 := by
  have h := low_xor (r % 256) (r / 256) (Nat.mod_lt _ (by decide))
  have h2 : r % 256 + 256 * (r / 256) = r := by omega
  rw [h2] at h
  have h3 := stN_xor 8 (r % 256) (256 * (r / 256))
  rw [h, show 256 * (r / 256) = 2 ^ 8 * (r / 256) from rfl, stN_shift] at h3
  exact h3

theorem mul_xor (k a b : Nat) : 2 ^ k * (a ^^^ b) = 2 ^ k * a ^^^ 2 ^ k * b := by
  have := Nat.shiftLeft_xor_distrib (a := a) (b := b) (i := k)
  simp only [Nat.shiftLeft_eq] at this
  rw [Nat.mul_comm, this, Nat.mul_comm a, Nat.mul_comm b]

theorem ofNat8 {n : Nat} (h : n < 256) : (UInt8.ofNat n).toNat = n := by simp; omega

/-- A bit of a byte is turned: so is one of the number. -/
theorem num_set : ∀ (M : List UInt8) (j r : Nat), j < M.length → r < 8 → num (M.set j (UInt8.ofNat ((M.getD j 0).toNat ^^^ 2 ^ r))) = num M ^^^ 2 ^ (8 * j + r)
  | [], j, r, h, _ => by simp at h
  | b :: l, 0, r, _, hr => by
    have hb := b.toNat_lt
    have h2 : 2 ^ r < 256 := by
      have := Nat.pow_lt_pow_right (a := 2) (by omega) hr
      simpa using this
    have hx : b.toNat ^^^ 2 ^ r < 256 := Nat.xor_lt_two_pow (n := 8) (by omega) (by simpa using h2)
    have hn : (UInt8.ofNat (b.toNat ^^^ 2 ^ r)).toNat = b.toNat ^^^ 2 ^ r := ofNat8 hx
    show (UInt8.ofNat (b.toNat ^^^ 2 ^ r)).toNat + 256 * num l = (b.toNat + 256 * num l) ^^^ 2 ^ (8 * 0 + r)
    rw [hn, ← low_xor _ _ hx, ← low_xor _ _ (by omega : b.toNat < 256), Nat.mul_zero, Nat.zero_add, Nat.xor_assoc, Nat.xor_assoc, Nat.xor_comm (2 ^ r)]
  | b :: l, j + 1, r, h, hr => by
    have hb := b.toNat_lt
    have := num_set l j r (by simpa using h) hr
    show b.toNat + 256 * num (l.set j (UInt8.ofNat ((l.getD j 0).toNat ^^^ 2 ^ r))) = (b.toNat + 256 * num l) ^^^ 2 ^ (8 * (j + 1) + r)
    rw [this, ← low_xor _ _ (by omega : b.toNat < 256), ← low_xor _ _ (by omega : b.toNat < 256), show (256 : Nat) = 2 ^ 8 from rfl, mul_xor, ← Nat.pow_add, ← Nat.xor_assoc]
    congr 2
    omega

theorem num_inj : ∀ (L M : List UInt8), L.length = M.length → num L = num M → L = M
  | [], [], _, _ => rfl
  | [], b :: m, h, _ => by simp at h
  | a :: l, [], h, _ => by simp at h
  | a :: l, b :: m, h, e => by
    have ha := a.toNat_lt
    have hb := b.toNat_lt
    simp only [num] at e
    have h1 : a.toNat = b.toNat := by omega
    have h2 : num l = num m := by omega
    rw [num_inj l m (by simpa using h) h2, UInt8.toNat_inj.1 h1]

theorem example_sum : sumN [49, 50, 51, 52, 53, 54, 55, 56, 57] = 3421780262 := by decide +kernel

end Go.Proofs.YtbebdaglkjhbjaaGreatDoor.crcm

/-
  The contracts of package crc.
-/
namespace Go.Proofs.YtbebdaglkjhbjaaGreatDoor.crc
open Go.RowKit Go.Proofs.YtbebdaglkjhbjaaGreatDoor.crcm
set_option linter.unusedVariables false
set_option linter.unusedSimpArgs false

theorem and_1 (r : Nat) : r &&& 1 = r % 2 := Nat.and_one_is_mod r
theorem bit_step (r : Nat) (h : r < 4294967296) :
    bits .xor .u32 ((r : Int) / 2) (IntKind.u32.wrap (3988292384 * bits .and .u32 (r : Int) 1)) = ((st r : Nat) : Int) := by
  have e1 : bits .and .u32 (r : Int) 1 = ((r % 2 : Nat) : Int) := by
    have := u32_and_nat r 1 h (by decide)
    rwa [and_1] at this
  have e2 : IntKind.u32.wrap (3988292384 * ((r % 2 : Nat) : Int)) = ((3988292384 * (r % 2) : Nat) : Int) := by
    rw [IntKind.wrap_u32]; omega
  have e3 : (r : Int) / 2 = ((r / 2 : Nat) : Int) := rfl
  rw [e1, e2, e3, u32_xor_nat _ _ (by omega) (by omega)]
  congr 1
  unfold st
  rcases Nat.mod_two_eq_zero_or_one r with h2 | h2 <;> rw [h2] <;> simp

def tn (k j : Nat) : Nat := if j < k then stN 4 j else 0
def tv (k j : Nat) : Value := .int .u32 (tn k j : Nat)
def trow (k : Nat) : Array Value := #[tv k 0, tv k 1, tv k 2, tv k 3, tv k 4, tv k 5, tv k 6, tv k 7, tv k 8, tv k 9, tv k 10, tv k 11, tv k 12, tv k 13, tv k 14, tv k 15]
theorem trow_set : ∀ k, k < 16 → (trow k).setIfInBounds k (.int .u32 (stN 4 k : Nat)) = trow (k + 1) := by
  intro k hk
  have : k = 0 ∨ k = 1 ∨ k = 2 ∨ k = 3 ∨ k = 4 ∨ k = 5 ∨ k = 6 ∨ k = 7 ∨ k = 8 ∨ k = 9 ∨ k = 10 ∨ k = 11 ∨ k = 12 ∨ k = 13 ∨ k = 14 ∨ k = 15 := by omega
  rcases this with rfl | rfl | rfl | rfl | rfl | rfl | rfl | rfl | rfl | rfl | rfl | rfl | rfl | rfl | rfl | rfl <;> rfl

/-- The table of 16. -/
def sixteen : Array Value := trow 16

set_option maxRecDepth 100000 in
theorem reckon_any (i : Nat) (hi : i < 16) (w0 : World) (o : Obj) (c : Array Value) (hc : c.size = 16) :
    Calls Tryz.prog 242 #[.int .u32 i, .pointer (some ⟨w0.heap.size + 1, 0, none⟩)] ((w0.alloc o).alloc (.cells c 271)) fun e w' => e = .returned (.tuple #[]) ∧ w' = (w0.alloc o).alloc (.cells (c.setIfInBounds i (.int .u32 (stN 4 i : Nat))) 271) := by
  go_enter Tryz.func242, Tryz.ntmps242
  go_wp2_with fail
  go_loop [3, 6] (fun r c => ∃ k : Nat, k ≤ 4 ∧ c = .int .i64 k ∧ r = .int .u32 (stN k i : Nat)) (fun _ c => 4 - (intOf c).toNat)
  case atStart => exact ⟨0, by omega, rfl, rfl⟩
  case round =>
    obtain ⟨k, hk, rfl, rfl⟩ := hrel
    by_cases hlt : k < 4
    · have hr : stN k i < 4294967296 := stN_lt k (by omega)
      have hb := bit_step (stN k i) hr
      have hn := Lib.hid (stN_succ k i)
      generalize stN k i = r at *
      go_wp2_with fail
      go_round
      case rel => exact ⟨k + 1, by omega, by go_num, by rw [hn.out, ← hb, IntKind.wrap_u32]⟩
      case measure => simp [intOf]; omega
    · have : k = 4 := by omega
      subst this
      generalize hr : stN 4 i = r at *
      have HR := Lib.hid hr
      clear hr
      go_wp2_with fail
      go_end0
      exact ⟨rfl, by rw [HR.out]⟩

set_option maxRecDepth 100000 in
theorem sums_any (w : World) :
    Calls Tryz.prog 240 #[] w fun e w' => e = .returned (.agg sixteen) ∧ w.grownBy w' none := by
  go_enter Tryz.func240, Tryz.ntmps240
  go_wp2_with fail
  go_loopw [5] (fun c wr => ∃ k : Nat, k ≤ 16 ∧ c = .int .u32 k ∧ wr = (w.alloc (.cells (trow 0) 271)).alloc (.cells (trow k) 271)) (fun c _ => 16 - (intOf c).toNat)
  case atStart => exact ⟨0, by omega, rfl, rfl⟩
  case round =>
    obtain ⟨k, hk, rfl, rfl⟩ := hrel
    by_cases hlt : k < 16
    · have hc := reckon_any k hlt w (.cells (trow 0) 271) (trow k) rfl
      rw [trow_set k hlt] at hc
      have HC := Lib.hid hc
      clear hc
      generalize trow k = T at *
      go_wp2_with (go_at_call 242; refine HC.out.mono ?_; rintro e w' ⟨rfl, rfl⟩)
      go_roundw
      case rel => exact ⟨k + 1, by omega, by go_num, rfl⟩
      case measure => simp [intOf]; omega
    · have : k = 16 := by omega
      subst this
      rw [show trow 16 = #[.int .u32 (tn 16 0 : Nat), .int .u32 (tn 16 1 : Nat), .int .u32 (tn 16 2 : Nat), .int .u32 (tn 16 3 : Nat), .int .u32 (tn 16 4 : Nat), .int .u32 (tn 16 5 : Nat), .int .u32 (tn 16 6 : Nat), .int .u32 (tn 16 7 : Nat), .int .u32 (tn 16 8 : Nat), .int .u32 (tn 16 9 : Nat), .int .u32 (tn 16 10 : Nat), .int .u32 (tn 16 11 : Nat), .int .u32 (tn 16 12 : Nat), .int .u32 (tn 16 13 : Nat), .int .u32 (tn 16 14 : Nat), .int .u32 (tn 16 15 : Nat)] from rfl,
        show trow 0 = #[.int .u32 0, .int .u32 0, .int .u32 0, .int .u32 0, .int .u32 0, .int .u32 0, .int .u32 0, .int .u32 0, .int .u32 0, .int .u32 0, .int .u32 0, .int .u32 0, .int .u32 0, .int .u32 0, .int .u32 0, .int .u32 0] from rfl]
      have hG := Lib.hid (only_alloc (only_alloc (only_refl w none) (.cells sixteen 271)) (.cells sixteen 271))
      go_wp2_with fail
      refine bodyPost_ret (results_cell_row rfl _ _ w.heap.size 271 sixteen (0, 0) _ rfl ?_ Tryz.underlying271 rfl (by kernel_rfl)) rfl ⟨rfl, hG.out⟩
      rw [Below.heap_alloc _ _ _ (by simp)]
      exact heap_alloc_new _ _

theorem sums_all (w : World) :
    Calls Tryz.prog 240 #[] w fun e w' => e = .returned (.agg #[.int .u32 (tn 16 0 : Nat), .int .u32 (tn 16 1 : Nat), .int .u32 (tn 16 2 : Nat), .int .u32 (tn 16 3 : Nat), .int .u32 (tn 16 4 : Nat), .int .u32 (tn 16 5 : Nat), .int .u32 (tn 16 6 : Nat), .int .u32 (tn 16 7 : Nat), .int .u32 (tn 16 8 : Nat), .int .u32 (tn 16 9 : Nat), .int .u32 (tn 16 10 : Nat), .int .u32 (tn 16 11 : Nat), .int .u32 (tn 16 12 : Nat), .int .u32 (tn 16 13 : Nat), .int .u32 (tn 16 14 : Nat), .int .u32 (tn 16 15 : Nat)]) ∧ w.grownBy w' none := sums_any w

/-- The table of 16 lies in a block. -/
def Tab (w : World) (B : Nat) : Prop := ∀ j, j < 16 → w.cell? ⟨B, j, none⟩ = some (.int .u32 (stN 4 j : Nat))
theorem tab_new (w : World) (t : TypeId) : Tab (w.alloc (.cells #[.int .u32 (tn 16 0 : Nat), .int .u32 (tn 16 1 : Nat), .int .u32 (tn 16 2 : Nat), .int .u32 (tn 16 3 : Nat), .int .u32 (tn 16 4 : Nat), .int .u32 (tn 16 5 : Nat), .int .u32 (tn 16 6 : Nat), .int .u32 (tn 16 7 : Nat), .int .u32 (tn 16 8 : Nat), .int .u32 (tn 16 9 : Nat), .int .u32 (tn 16 10 : Nat), .int .u32 (tn 16 11 : Nat), .int .u32 (tn 16 12 : Nat), .int .u32 (tn 16 13 : Nat), .int .u32 (tn 16 14 : Nat), .int .u32 (tn 16 15 : Nat)] t)) w.heap.size := by
  intro j hj
  have : j = 0 ∨ j = 1 ∨ j = 2 ∨ j = 3 ∨ j = 4 ∨ j = 5 ∨ j = 6 ∨ j = 7 ∨ j = 8 ∨ j = 9 ∨ j = 10 ∨ j = 11 ∨ j = 12 ∨ j = 13 ∨ j = 14 ∨ j = 15 := by omega
  rw [World.cell?_alloc_at _ _ _ _ rfl]
  rcases this with rfl | rfl | rfl | rfl | rfl | rfl | rfl | rfl | rfl | rfl | rfl | rfl | rfl | rfl | rfl | rfl <;> rfl

end Go.Proofs.YtbebdaglkjhbjaaGreatDoor.crc

/-
  The contracts of package crc: More, Sum.
-/
namespace Go.Proofs.YtbebdaglkjhbjaaGreatDoor.crc
open Go.RowKit Go.Proofs.YtbebdaglkjhbjaaGreatDoor.crcm
set_option linter.unusedVariables false
set_option linter.unusedSimpArgs false

def moreN (sum : Nat) (L : List UInt8) : Nat := 4294967295 - fold (4294967295 - sum) L

theorem low_xor16 (b v : Nat) (h : b < 16) : b ^^^ 16 * v = b + 16 * v := by
  have := Nat.two_pow_add_eq_or_of_lt (i := 4) h v
  have h2 : b ^^^ 16 * v = 16 * v ||| b := by
    apply Nat.eq_of_testBit_eq
    intro i
    rw [Nat.testBit_xor, Nat.testBit_or]
    rw [show (16 : Nat) = 2 ^ 4 from rfl, Nat.testBit_two_pow_mul]
    by_cases hi : 4 ≤ i
    · have : b.testBit i = false := Nat.testBit_lt_two_pow (Nat.lt_of_lt_of_le h (Nat.pow_le_pow_right (n := 2) (by omega) hi))
      simp [this]
    · simp [hi]
  rw [h2, ← this]
  omega

theorem stN4_table (r : Nat) : stN 4 r = stN 4 (r % 16) ^^^ r / 16 := by
  have h := low_xor16 (r % 16) (r / 16) (Nat.mod_lt _ (by decide))
  have h2 : r % 16 + 16 * (r / 16) = r := by omega
  rw [h2] at h
  have h3 := stN_xor 4 (r % 16) (16 * (r / 16))
  rw [h, show 16 * (r / 16) = 2 ^ 4 * (r / 16) from rfl, stN_shift] at h3
  exact h3

theorem not_u32 (n : Nat) (h : n < 4294967296) : bits .xor .u32 IntKind.u32.max (n : Int) = ((4294967295 - n : Nat) : Int) := by
  rw [show IntKind.u32.max = ((4294967295 : Nat) : Int) from rfl, u32_xor_nat _ _ (by decide) h]
  congr 1
  have := not_xor n h
  have h2 := congrArg (n ^^^ ·) this
  simp only [← Nat.xor_assoc, Nat.xor_self, Nat.zero_xor] at h2
  rw [h2, Nat.xor_comm]

theorem and_15 (r : Nat) (h : r < 4294967296) : bits .and .u32 (r : Int) 15 = ((r % 16 : Nat) : Int) := by
  have := u32_and_nat r 15 h (by decide)
  rw [show r &&& 15 = r % 16 from Nat.and_two_pow_sub_one_eq_mod r 4] at this
  exact this

theorem xor_step (r : Nat) (h : r < 4294967296) : bits .xor .u32 ((r : Int) / 16) ((stN 4 (r % 16) : Nat) : Int) = ((stN 4 r : Nat) : Int) := by
  have h1 : stN 4 (r % 16) < 4294967296 := stN_lt 4 (by omega)
  rw [show (r : Int) / 16 = ((r / 16 : Nat) : Int) from rfl, u32_xor_nat _ _ (by omega) h1, stN4_table r, Nat.xor_comm]

theorem fold_take (r : Nat) (s : ByteArray) (k : Nat) (h : k < s.size) : fold r (s.data.toList.take (k + 1)) = stN 4 (stN 4 (fold r (s.data.toList.take k) ^^^ s[k].toNat)) := by
  rw [vi.take_step s k h, fold_append, ← stN_add]
  rfl

theorem Tab.kept {w w' : World} {B : Nat} (h : Tab w B) (hB : B < w.heap.size) (g : w.grownBy w' none) : Tab w' B := fun j hj => g.cell (h j hj) (by simp)

set_option maxHeartbeats 1000000 in
set_option maxRecDepth 100000 in
theorem more_any (sum : Nat) (hsum : sum < 4294967296) (s : ByteArray) (hs : s.size ≤ maxLen) (w : World) :
    Calls Tryz.prog 238 #[.int .u32 sum, .string s] w fun e w' => e = .returned (.int .u32 (moreN sum s.data.toList : Nat)) ∧ w.grownBy w' none := by
  unfold maxLen at hs
  have hsg : IntKind.u32.signed = false := rfl
  have hnot := not_u32 sum hsum
  go_enter Tryz.func238, Tryz.ntmps238
  go_wp2_with (go_at_call 240; refine (sums_all _).mono ?_; rintro e w1 ⟨rfl, g1⟩)
  have hT := tab_new w1 271
  have hG := only_alloc g1 (.cells #[.int .u32 (tn 16 0 : Nat), .int .u32 (tn 16 1 : Nat), .int .u32 (tn 16 2 : Nat), .int .u32 (tn 16 3 : Nat), .int .u32 (tn 16 4 : Nat), .int .u32 (tn 16 5 : Nat), .int .u32 (tn 16 6 : Nat), .int .u32 (tn 16 7 : Nat), .int .u32 (tn 16 8 : Nat), .int .u32 (tn 16 9 : Nat), .int .u32 (tn 16 10 : Nat), .int .u32 (tn 16 11 : Nat), .int .u32 (tn 16 12 : Nat), .int .u32 (tn 16 13 : Nat), .int .u32 (tn 16 14 : Nat), .int .u32 (tn 16 15 : Nat)] 271)
  generalize w1.alloc (.cells #[.int .u32 (tn 16 0 : Nat), .int .u32 (tn 16 1 : Nat), .int .u32 (tn 16 2 : Nat), .int .u32 (tn 16 3 : Nat), .int .u32 (tn 16 4 : Nat), .int .u32 (tn 16 5 : Nat), .int .u32 (tn 16 6 : Nat), .int .u32 (tn 16 7 : Nat), .int .u32 (tn 16 8 : Nat), .int .u32 (tn 16 9 : Nat), .int .u32 (tn 16 10 : Nat), .int .u32 (tn 16 11 : Nat), .int .u32 (tn 16 12 : Nat), .int .u32 (tn 16 13 : Nat), .int .u32 (tn 16 14 : Nat), .int .u32 (tn 16 15 : Nat)] 271) = wt at *
  generalize w1.heap.size = B at *
  have HT := Lib.hid hT
  have HG := Lib.hid hG
  clear hT hG g1
  go_loopw [6, 13] (fun x c wr => ∃ i r : Nat, i ≤ s.size ∧ c = .int .i64 i ∧ x = .int .u32 r ∧ r = fold (4294967295 - sum) (s.data.toList.take i) ∧ Tab wr B ∧ w.grownBy wr none) (fun _ c _ => s.size - (intOf c).toNat)
  case atStart => exact ⟨0, 4294967295 - sum, by omega, rfl, rfl, rfl, HT.out, HG.out⟩
  case round =>
    obtain ⟨i, r, hi, rfl, rfl, hr, hT, hg⟩ := hrel
    have hrl : r < 4294967296 := hr ▸ fold_lt _ (by omega)
    have HT2 := Lib.hid hT
    have HG2 := Lib.hid hg
    have HR := Lib.hid hr
    clear hT hg hr
    by_cases hlt : i < s.size
    · have hb := s[i].toNat_lt
      have hx : bits .xor .u32 (r : Int) (s[i].toNat : Int) = ((r ^^^ s[i].toNat : Nat) : Int) := u32_xor_nat _ _ hrl (by omega)
      have hxl : r ^^^ s[i].toNat < 4294967296 := Nat.xor_lt_two_pow (n := 32) hrl (by omega)
      have HF := Lib.hid (fold_take (4294967295 - sum) s i hlt)
      rw [← HR.out] at HF
      generalize hy : r ^^^ s[i].toNat = y at *
      have Hy := Lib.hid hy
      clear hy
      go_wp2_with fail
      go_loopw [6, 22] (fun x c wq => ∃ k z : Nat, k ≤ 2 ∧ c = .int .i64 k ∧ x = .int .u32 z ∧ z = stN (4 * k) y ∧ wq = wr) (fun _ c _ => 2 - (intOf c).toNat)
      case atStart => exact ⟨0, y, by omega, rfl, rfl, rfl, rfl⟩
      case round =>
        obtain ⟨k, z, hk, rfl, rfl, hz, rfl⟩ := hrel
        have hzl : z < 4294967296 := hz ▸ stN_lt _ hxl
        have HZ := Lib.hid hz
        clear hz
        by_cases hlt2 : k < 2
        · have hc := HT2.out (z % 16) (Nat.mod_lt _ (by decide))
          have ha := and_15 z hzl
          have hx2 := xor_step z hzl
          have hm : z % 16 < 16 := Nat.mod_lt _ (by decide)
          have HN : Hid (stN 4 z = stN (4 * (k + 1)) y) := by rw [HZ.out, ← stN_add]; rfl
          generalize hq : stN 4 z = q at *
          clear hq
          generalize hv : stN 4 (z % 16) = v at *
          clear hv
          generalize hm' : z % 16 = m at *
          clear hm'
          go_wp2_with fail
          go_roundw
          case rel => exact ⟨k + 1, q, by omega, by go_num, rfl, HN.out, by first | rfl | trivial⟩
          case measure => simp [intOf]; omega
        · have hk2 : k = 2 := by omega
          subst hk2
          go_wp2_with fail
          go_roundw
          case rel => exact ⟨i + 1, z, by omega, by go_num, rfl, by rw [HF.out, HZ.out, ← stN_add], HT2.out, HG2.out⟩
          case measure => simp [intOf]; omega
    · have hie : i = s.size := by omega
      subst hie
      have hn2 := not_u32 r hrl
      have hlen : s.data.toList.take s.size = s.data.toList := List.take_of_length_le (by simp)
      rw [hlen] at HR
      have HE : Hid (4294967295 - r = moreN sum s.data.toList) := by rw [HR.out]; rfl
      generalize hE : 4294967295 - r = E at *
      clear hE
      go_wp2_with fail
      go_ret
      have hE := HE.out
      subst hE
      exact ⟨rfl, HG2.out⟩

theorem sumN_eq (L : List UInt8) : moreN 0 L = sumN L := rfl
theorem moreN_nil : moreN 0 [] = 0 := by simp [moreN, fold]
theorem moreN_lt (sum : Nat) (L : List UInt8) : moreN sum L < 4294967296 := by unfold moreN; omega
theorem moreN_append (sum : Nat) (hs : sum < 4294967296) (L M : List UInt8) : moreN (moreN sum L) M = moreN sum (L ++ M) := by
  have : fold (4294967295 - sum) L < 4294967296 := fold_lt L (by omega)
  unfold moreN
  rw [fold_append, show 4294967295 - (4294967295 - fold (4294967295 - sum) L) = fold (4294967295 - sum) L by omega]

end Go.Proofs.YtbebdaglkjhbjaaGreatDoor.crc

/-
  The contracts of package crc: Sum.
-/
namespace Go.Proofs.YtbebdaglkjhbjaaGreatDoor.crc
open Go.RowKit Go.Proofs.YtbebdaglkjhbjaaGreatDoor.crcm
set_option linter.unusedVariables false
set_option linter.unusedSimpArgs false

/-- So many texts, one behind the other. -/
def cat : List ByteArray → List UInt8
  | [] => []
  | x :: r => x.data.toList ++ cat r
theorem cat_append (a b : List ByteArray) : cat (a ++ b) = cat a ++ cat b := by
  induction a with
  | nil => rfl
  | cons x r ih => simp [cat, ih]

/-- Strings lie in a row. -/
def Strs (w : World) (a : Option Addr) (len cap : Nat) (xs : List ByteArray) : Prop :=
  xs.length = len ∧ (∀ x ∈ xs, x.size ≤ maxLen) ∧ (len = 0 ∨ ∃ b off, a = some ⟨b, off, none⟩ ∧ len ≤ cap ∧ cap ≤ maxLen ∧ ∀ (i : Nat) x, xs[i]? = some x → w.cell? ⟨b, off + i, none⟩ = some (.string x))
theorem Strs.kept {w w' : World} {a : Option Addr} {len cap : Nat} {xs : List ByteArray} (h : Strs w a len cap xs) (g : w.grownBy w' none) : Strs w' a len cap xs := by
  obtain ⟨h1, h2, h3⟩ := h
  refine ⟨h1, h2, ?_⟩
  rcases h3 with h | ⟨b, off, h4, h5, h6, h7⟩
  · exact .inl h
  · exact .inr ⟨b, off, h4, h5, h6, fun i x hx => g.cell (h7 i x hx) (by simp)⟩

set_option maxHeartbeats 1000000 in
set_option maxRecDepth 100000 in
theorem sum_any (a : Option Addr) (len cap : Nat) (xs : List ByteArray) (w : World) (h : Strs w a len cap xs) (hlen : len ≤ maxLen) :
    Calls Tryz.prog 235 #[.slice a len cap] w fun e w' => e = .returned (.int .u32 (sumN (cat xs) : Nat)) ∧ w.grownBy w' none := by
  have HS := Lib.hid h
  have hl := h.1
  clear h
  unfold maxLen at hlen
  go_enter Tryz.func235, Tryz.ntmps235
  go_wp2_with fail
  go_loopw [3, 8] (fun x c wr => ∃ i r : Nat, i ≤ len ∧ c = .int .i64 i ∧ x = .int .u32 r ∧ r = moreN 0 (cat (xs.take i)) ∧ w.grownBy wr none) (fun _ c _ => len - (intOf c).toNat)
  case atStart => exact ⟨0, 0, by omega, rfl, rfl, by rw [List.take_zero, cat, moreN_nil], only_refl _ _⟩
  case round =>
    obtain ⟨i, r, hi, rfl, rfl, hr, hg⟩ := hrel
    have hrl : r < 4294967296 := hr ▸ moreN_lt _ _
    have HG := Lib.hid hg
    have HR := Lib.hid hr
    clear hg hr
    by_cases hlt : i < len
    · obtain ⟨x, hx⟩ : ∃ x, xs[i]? = some x := ⟨xs[i], List.getElem?_eq_getElem (by omega)⟩
      obtain ⟨-, hsz, hc⟩ := HS.out.kept HG.out
      obtain ⟨b, off, rfl, h5, h6, h7⟩ := hc.resolve_left (by omega)
      have c1 := h7 i x hx
      have hxs := hsz x (List.mem_of_getElem? hx)
      have hm := fun w => more_any r hrl x hxs w
      have HN : Hid (moreN r x.data.toList = moreN 0 (cat (xs.take (i + 1)))) := by
        rw [HR.out, moreN_append _ (by decide), List.take_add_one, hx, cat_append]
        simp [Hid, cat]
      have hml := moreN_lt r x.data.toList
      generalize moreN r x.data.toList = r' at *
      unfold maxLen at h6 hxs
      clear hsz hc h7
      go_wp2_with (go_at_call 238; refine (hm _).mono ?_; rintro e w1 ⟨rfl, g1⟩)
      go_roundw
      case rel => exact ⟨i + 1, r', by omega, by go_num, rfl, HN.out, only_trans HG.out g1⟩
      case measure => simp [intOf]; omega
    · have hie : i = len := by omega
      subst hie
      have ht : xs.take i = xs := List.take_of_length_le (by omega)
      have hE := HR.out
      rw [ht, sumN_eq] at hE
      have HE := Lib.hid hE
      clear hE
      go_wp2_with fail
      go_ret
      have hE := HE.out
      subst hE
      exact ⟨rfl, HG.out⟩

/-- One text in a row of its own. -/
theorem Strs.one (s : ByteArray) (hs : s.size ≤ maxLen) (w : World) : Strs (w.alloc (.cells #[.string s] 9)) (some ⟨w.heap.size, 0, none⟩) 1 1 [s] :=
  ⟨rfl, by simpa using hs, .inr ⟨_, 0, rfl, by omega, by unfold maxLen; omega, fun i x hx => by
    have : i = 0 := by have := (List.getElem?_eq_some_iff.1 hx).1; simp at this; omega
    subst this
    simp at hx
    subst hx
    exact World.cell?_alloc_at _ _ _ _ rfl⟩⟩
theorem cat_one (s : ByteArray) : cat [s] = s.data.toList := by simp [cat]

/-- The sum of one text. -/
theorem sum_one (s : ByteArray) (hs : s.size ≤ maxLen) (w : World) :
    Calls Tryz.prog 235 #[.slice (some ⟨w.heap.size, 0, none⟩) 1 1] (w.alloc (.cells #[.string s] 9)) fun e w' => e = .returned (.int .u32 (sumN s.data.toList : Nat)) ∧ w.grownBy w' none := by
  have h := sum_any (some ⟨w.heap.size, 0, none⟩) 1 1 [s] (w.alloc (.cells #[.string s] 9)) (Strs.one s hs w) (by unfold maxLen; omega)
  rw [cat_one] at h
  exact h.mono fun e w' ⟨he, hg⟩ => ⟨he, only_trans (only_alloc (only_refl _ _) _) hg⟩

end Go.Proofs.YtbebdaglkjhbjaaGreatDoor.crc

/-
  The contracts of package crc: Put, Get, Check.
-/
namespace Go.Proofs.YtbebdaglkjhbjaaGreatDoor.crc
open Go.RowKit Go.Proofs.YtbebdaglkjhbjaaGreatDoor.crcm
set_option linter.unusedVariables false
set_option linter.unusedSimpArgs false

def putB (n : Nat) : ByteArray := ⟨(put4 n).toArray⟩

def pn (n k j : Nat) : Nat := if j < k then n / 256 ^ j % 256 else 0
def prow (n k : Nat) : Array Value := #[.int .u8 (pn n k 0 : Nat), .int .u8 (pn n k 1 : Nat), .int .u8 (pn n k 2 : Nat), .int .u8 (pn n k 3 : Nat)]
theorem prow0 (n : Nat) : (prow n 0).setIfInBounds 0 (.int .u8 ((n : Int) % 256)) = prow n 1 := by
  unfold prow
  simp [pn]
theorem prow1 (n : Nat) : (prow n 1).setIfInBounds 1 (.int .u8 ((n : Int) / 256 % 256)) = prow n 2 := by
  unfold prow
  simp [pn]
theorem prow2 (n : Nat) : (prow n 2).setIfInBounds 2 (.int .u8 ((n : Int) / 65536 % 256)) = prow n 3 := by
  unfold prow
  simp [pn]
theorem prow3 (n : Nat) (hn : n < 4294967296) : (prow n 3).setIfInBounds 3 (.int .u8 ((n : Int) / 16777216)) = prow n 4 := by
  unfold prow
  simp [pn]
  omega

theorem put_conv (n : Nat) (w : World) (t : TypeId) :
    (convert 83 9 (.slice (some ⟨w.heap.size, 0, none⟩) 4 4)).run Tryz.prog (w.alloc (.cells (prow n 4) t)) =
      .ok (.string (putB n)) (w.alloc (.cells (prow n 4) t)) :=
  run_convert_bytes_back (P := Tryz.prog) (w.alloc (.cells (prow n 4) t)) 83 9 5 ⟨w.heap.size, 0, none⟩ 4 (put4 n) Tryz.underlying83 Tryz.underlying5 Tryz.underlying9 (fun j hj => by
    have : j = 0 ∨ j = 1 ∨ j = 2 ∨ j = 3 := by simp [put4] at hj; omega
    rcases this with rfl | rfl | rfl | rfl <;> rw [Addr.add_lit, World.cell?_alloc_at _ _ _ _ rfl] <;> simp [prow, pn, put4])

set_option maxHeartbeats 1000000 in
set_option maxRecDepth 100000 in
theorem put_any (n : Nat) (hn : n < 4294967296) (w : World) :
    Calls Tryz.prog 234 #[.int .u32 n] w fun e w' => e = .returned (.string (putB n)) ∧ w.grownBy w' none := by
  have hcv := put_conv n w 269
  have h0 := prow0 n
  have h1 := prow1 n
  have h2 := prow2 n
  have h3 := prow3 n hn
  have c0 : (prow n 0)[0]? = some (.int .u8 (pn n 0 0 : Nat)) := rfl
  have c1 : (prow n 1)[1]? = some (.int .u8 (pn n 1 1 : Nat)) := rfl
  have c2 : (prow n 2)[2]? = some (.int .u8 (pn n 2 2 : Nat)) := rfl
  have c3 : (prow n 3)[3]? = some (.int .u8 (pn n 3 3 : Nat)) := rfl
  have hG := Lib.hid (only_alloc (only_refl w none) (.cells (prow n 4) 269))
  go_enter Tryz.func234, Tryz.ntmps234
  go_wp2_with fail
  go_loopw [5] (fun c wr => ∃ k : Nat, k ≤ 4 ∧ c = .int .i64 k ∧ wr = w.alloc (.cells (prow n k) 269)) (fun c _ => 4 - (intOf c).toNat)
  case atStart => exact ⟨0, by omega, rfl, rfl⟩
  case round =>
    obtain ⟨k, hk, rfl, rfl⟩ := hrel
    rcases (show k = 0 ∨ k = 1 ∨ k = 2 ∨ k = 3 ∨ k = 4 by omega) with rfl | rfl | rfl | rfl | rfl
    · go_wp2_with fail
      go_roundw
      case rel => exact ⟨1, by omega, rfl, by first | rfl | trivial⟩
      case measure => simp [intOf]
    · go_wp2_with fail
      go_roundw
      case rel => exact ⟨2, by omega, rfl, by first | rfl | trivial⟩
      case measure => simp [intOf]
    · go_wp2_with fail
      go_roundw
      case rel => exact ⟨3, by omega, rfl, by first | rfl | trivial⟩
      case measure => simp [intOf]
    · go_wp2_with fail
      go_roundw
      case rel => exact ⟨4, by omega, rfl, by first | rfl | trivial⟩
      case measure => simp [intOf]
    · go_wp2_with fail
      go_ret
      exact ⟨rfl, hG.out⟩

theorem or_step (x b k : Nat) (hk : k ≤ 3) (hx : x < 256 ^ k) (hb : b < 256) :
    bits .or .u32 (x : Int) (IntKind.u32.wrap ((b : Int) * 2 ^ (8 * k))) = ((x + b * 256 ^ k : Nat) : Int) := by
  have e0 : (256 : Nat) ^ k = 2 ^ (8 * k) := by rw [Nat.pow_mul]
  have hp : (256 : Nat) ^ k ≤ 256 ^ 3 := Nat.pow_le_pow_right (by omega) hk
  have hm : b * 256 ^ k ≤ 255 * 256 ^ 3 := Nat.mul_le_mul (by omega) hp
  have e1 : IntKind.u32.wrap ((b : Int) * 2 ^ (8 * k)) = ((b * 256 ^ k : Nat) : Int) := by
    rw [IntKind.wrap_u32, e0, Int.natCast_mul, Int.natCast_pow]
    have : ((b : Int) * 2 ^ (8 * k)) = ((b * 256 ^ k : Nat) : Int) := by rw [e0, Int.natCast_mul, Int.natCast_pow]; rfl
    rw [show ((2 : Nat) : Int) = 2 from rfl, this]
    omega
  rw [e1, u32_or_nat _ _ (by omega) (by omega)]
  congr 1
  rw [Nat.or_comm, nat_join (8 * k) _ _ (by rw [← e0]; exact Nat.mul_mod_left _ _) (by rw [← e0]; exact hx)]
  omega

theorem num_snoc : ∀ (L : List UInt8) (b : UInt8), num (L ++ [b]) = num L + b.toNat * 256 ^ L.length
  | [], b => by simp [num]
  | x :: l, b => by
    have := num_snoc l b
    simp only [List.cons_append, num, this, List.length_cons, Nat.pow_succ]
    have h2 : b.toNat * (256 ^ l.length * 256) = 256 * (b.toNat * 256 ^ l.length) := by rw [← Nat.mul_assoc, Nat.mul_comm]
    rw [h2]
    omega

theorem num_take (s : ByteArray) (k : Nat) (h : k < s.size) : num (s.data.toList.take (k + 1)) = num (s.data.toList.take k) + s[k].toNat * 256 ^ k := by
  rw [vi.take_step s k h, num_snoc, List.length_take, Nat.min_eq_left (by simp; omega)]

set_option maxRecDepth 100000 in
theorem check_any (s t : ByteArray) (hs : s.size ≤ maxLen) (ht : t.size ≤ maxLen) (w : World) :
    Calls Tryz.prog 232 #[.string s, .string t] w fun e w' => e = .returned (.bool (decide (t = putB (sumN s.data.toList)))) ∧ w.grownBy w' none := by
  have hsm := fun (w : World) => sum_any (some ⟨w.heap.size, 0, none⟩) 1 1 [s] (w.alloc (.cells #[.string s] 9)) ⟨rfl, by simpa using hs, .inr ⟨_, 0, rfl, by omega, by unfold maxLen; omega, fun i x hx => by
    have : i = 0 := by have := (List.getElem?_eq_some_iff.1 hx).1; simp at this; omega
    subst this
    simp at hx
    subst hx
    exact World.cell?_alloc_at _ _ _ _ rfl⟩⟩ (by unfold maxLen; omega)
  have hcat : cat [s] = s.data.toList := by simp [cat]
  rw [hcat] at hsm
  have hl : sumN s.data.toList < 4294967296 := by unfold sumN; omega
  generalize sumN s.data.toList = n at *
  have hp := fun w => put_any n hl w
  generalize putB n = T at *
  go_enter Tryz.func232, Tryz.ntmps232
  go_wp2_with (first
    | (go_at_call 235; refine (hsm _).mono ?_; rintro e w1 ⟨rfl, g1⟩)
    | (go_at_call 234; refine (hp _).mono ?_; rintro e w2 ⟨rfl, g2⟩))
  go_ret
  refine ⟨ret1 (congrArg Value.bool ?_), only_trans (only_trans (only_alloc (only_refl _ _) _) g1) g2⟩
  by_cases h : t = T
  · subst h; simp
  · have : ¬ t.toList = T.toList := fun e => h (by
      rw [ByteArray.toList_eq, ByteArray.toList_eq] at e
      exact ByteArray.ext (Array.toList_inj.1 e))
    simp [h, this]

end Go.Proofs.YtbebdaglkjhbjaaGreatDoor.crc

/-
  The document's sum of 32 bits.
-/
namespace Go.Proofs.YtbebdaglkjhbjaaGreatDoor.crc
open Go.RowKit Go.Proofs.YtbebdaglkjhbjaaGreatDoor.crcm
set_option linter.unusedVariables false
set_option linter.unusedSimpArgs false

theorem rput_conv (n : Nat) (hn : n < 4294967296) (w : World) (t : TypeId) :
    (convert 83 9 (.slice (some ⟨w.heap.size, 0, none⟩) 4 4)).run Tryz.prog (w.alloc (.cells #[.int .u8 ((n : Int) % 256), .int .u8 ((n : Int) / 256 % 256), .int .u8 ((n : Int) / 65536 % 256), .int .u8 ((n : Int) / 16777216)] t)) =
      .ok (.string (putB n)) (w.alloc (.cells #[.int .u8 ((n : Int) % 256), .int .u8 ((n : Int) / 256 % 256), .int .u8 ((n : Int) / 65536 % 256), .int .u8 ((n : Int) / 16777216)] t)) :=
  run_convert_bytes_back (P := Tryz.prog) (w.alloc (.cells #[.int .u8 ((n : Int) % 256), .int .u8 ((n : Int) / 256 % 256), .int .u8 ((n : Int) / 65536 % 256), .int .u8 ((n : Int) / 16777216)] t)) 83 9 5 ⟨w.heap.size, 0, none⟩ 4 (put4 n) Tryz.underlying83 Tryz.underlying5 Tryz.underlying9 (fun j hj => by
    have : j = 0 ∨ j = 1 ∨ j = 2 ∨ j = 3 := by simp [put4] at hj; omega
    rcases this with rfl | rfl | rfl | rfl <;> rw [Addr.add_lit, World.cell?_alloc_at _ _ _ _ rfl] <;> simp [put4] <;> omega)

end Go.Proofs.YtbebdaglkjhbjaaGreatDoor.crc

/-
  The statements of layer 4: the example.
-/
namespace Go.Proofs.YtbebdaglkjhbjaaGreatDoor.law04
open Go.RowKit Go.Proofs.YtbebdaglkjhbjaaGreatDoor.crc Go.Proofs.YtbebdaglkjhbjaaGreatDoor.crcm
set_option linter.unusedVariables false

theorem Awake03_any (w : World) :
    Calls Tryz.prog 239 #[] w fun e w' => e = .returned (.bool true) ∧ w.grownBy w' none := by
  go_enter Tryz.func239, Tryz.ntmps239
  go_wp2_with (go_at_call 241; refine (law03.awake_any _).mono ?_; rintro e w' ⟨rfl, g⟩)
  go_ret
  exact ⟨rfl, g⟩

theorem awake_any (w : World) :
    Calls Tryz.prog 236 #[] w fun e w' => e = .returned (.bool true) ∧ w.grownBy w' none := by
  have h1 := fun w => sum_one ⟨#[49, 50, 51, 52, 53, 54, 55, 56, 57]⟩ (by decide) w
  rw [show sumN (⟨#[49, 50, 51, 52, 53, 54, 55, 56, 57]⟩ : ByteArray).data.toList = 3421780262 from example_sum] at h1
  go_enter Tryz.func236, Tryz.ntmps236
  go_wp2_with (first
    | (go_at_call 239; refine (Awake03_any _).mono ?_; rintro e w2 ⟨rfl, g2⟩)
    | (go_at_call 235; refine (h1 _).mono ?_; rintro e w3 ⟨rfl, g3⟩))
  go_ret
  exact ⟨rfl, only_trans g2 g3⟩

end Go.Proofs.YtbebdaglkjhbjaaGreatDoor.law04

/-
  A slice of texts that came in as an argument: its texts, and how many bytes they are together.
-/
namespace Go.Proofs.YtbebdaglkjhbjaaGreatDoor.crc
open Go.RowKit Go.ChangeShapes Go.WideShapes Go.Deep
set_option linter.unusedVariables false

theorem bulk_strs {H : Type} : ∀ l : List ByteArray, (cat l).length + l.length ≤ Rows.uptoBulkAll (strs (H := H) l)
  | [] => by simp [cat]
  | x :: r => by
    have := bulk_strs (H := H) r
    have e : strs (H := H) (x :: r) = .lit (.string x.data.toList) :: strs r := rfl
    rw [e]
    simp only [Rows.uptoBulkAll, Rows.uptoBulk, cat, List.length_append, List.length_cons]
    omega

section
variable {H : Type} {enc : TypeId × Value → H} {P : Program} {w : World}

theorem strs_of_open {t e : TypeId} {a : Option Addr} {len cap : Nat} {d : DataW H} {p : List MemPlace} (ht : P.underlying t = some (.slice e)) (he : P.underlying e = some .string) (hC : P.cellsOf e = 1)
    (h : DataW.Trod enc P w 0 (fun _ => true) true t (.slice a len cap) d p) : ∃ xs, Strs w a len cap xs ∧ (cat xs).length + len ≤ Rows.uptoBulk d := by
  obtain ⟨fuel, hf⟩ := h
  rcases open_strings ht he hC hf with ⟨hcs, _⟩ | ⟨x, l, c, ss, hcs, _, hl, hm, hz, hx, hcell, hsz⟩
  · simp [Value.cells] at hcs
    exact ⟨[], ⟨by simp [hcs.2.1], by simp, .inl hcs.2.1⟩, by simp [cat, hcs.2.1]⟩
  · simp [Value.cells] at hcs
    obtain ⟨rfl, rfl, rfl⟩ := hcs
    have hz' : ss.length = cap := by simpa using hz
    have hd : d = .slice (strs (ss.take len)) (strs (ss.drop len)) := congrArg Prod.fst hx
    have hlen : (ss.take len).length = len := by simp; omega
    refine ⟨ss.take len, ⟨hlen, fun y hy => hsz y (List.mem_of_mem_take hy), ?_⟩, ?_⟩
    · by_cases h0 : len = 0
      · exact .inl h0
      · have hc := hcell 0 (by omega)
        obtain ⟨b, off, spot⟩ := x
        have hspot : spot = none := by simpa [Addr.add] using World.cell?_spot hc
        subst hspot
        refine .inr ⟨b, off, rfl, hl, hm, fun i y hy => ?_⟩
        have hi : i < len := by have := (List.getElem?_eq_some_iff.1 hy).1; omega
        have := hcell i (by omega)
        rw [add_plain] at this
        rw [this]
        rw [List.getElem?_take, if_pos hi] at hy
        rw [List.getD_eq_getElem?_getD, hy]
        rfl
    · subst hd
      have := bulk_strs (H := H) (ss.take len)
      simp only [Rows.uptoBulk]
      omega
end

end Go.Proofs.YtbebdaglkjhbjaaGreatDoor.crc
