/-
  Plain mathematics of the sum of 32 bits: no function of the program.
-/
import Derived.Test.YtbelpcniogcfoaaDoorBase
namespace Go.Proofs.YtbelpcniogcfoaaDoor.crcm
set_option linter.unusedVariables false

/-- One bit's step. -/
def st (r : Nat) : Nat := if r % 2 = 1 then r / 2 ^^^ 3988292384 else r / 2

def stN : Nat → Nat → Nat
  | 0, r => r
  | k + 1, r => stN k (st r)

theorem stN_add (a b r : Nat) : stN (a + b) r = stN b (stN a r) := by
  induction a generalizing r with
  | zero => simp [stN]
  | succ a ih => rw [show a + 1 + b = (a + b) + 1 by omega, stN, ih, stN]

theorem stN_succ (k r : Nat) : stN (k + 1) r = st (stN k r) := by rw [stN_add]; rfl

theorem xor_mod2 (a b : Nat) : (a ^^^ b) % 2 = (a % 2 + b % 2) % 2 := by
  have h := Nat.xor_mod_two_pow (a := a) (b := b) (n := 1)
  rw [show (2 : Nat) ^ 1 = 2 from rfl] at h
  rw [h]
  rcases Nat.mod_two_eq_zero_or_one a with ha | ha <;> rcases Nat.mod_two_eq_zero_or_one b with hb | hb <;> rw [ha, hb] <;> rfl

theorem st_xor (a b : Nat) : st (a ^^^ b) = st a ^^^ st b := by
  unfold st
  rw [xor_mod2, Nat.xor_div_two]
  rcases Nat.mod_two_eq_zero_or_one a with ha | ha <;> rcases Nat.mod_two_eq_zero_or_one b with hb | hb <;> simp only [ha, hb]
  · simp
  · simp [Nat.xor_assoc]
  · simp only [if_true, Nat.zero_ne_one, if_false]
    rw [Nat.xor_assoc, Nat.xor_assoc, Nat.xor_comm (b / 2)]
  · simp only [Nat.reduceAdd, Nat.reduceMod, Nat.zero_ne_one, if_false, if_true]
    rw [Nat.xor_assoc, Nat.xor_comm (b / 2), ← Nat.xor_assoc 3988292384, Nat.xor_self, Nat.zero_xor]

theorem stN_xor : ∀ (k a b : Nat), stN k (a ^^^ b) = stN k a ^^^ stN k b
  | 0, a, b => rfl
  | k + 1, a, b => by rw [stN, st_xor, stN_xor k]; rfl

theorem st_double (x : Nat) : st (2 * x) = x := by unfold st; rw [if_neg (by omega)]; omega

theorem stN_shift : ∀ (k x : Nat), stN k (2 ^ k * x) = x
  | 0, x => by simp [stN]
  | k + 1, x => by rw [stN, Nat.pow_succ, Nat.mul_comm (2 ^ k) 2, Nat.mul_assoc, st_double, stN_shift k]

theorem stN_zero (k : Nat) : stN k 0 = 0 := by simpa using stN_shift k 0

theorem st_lt {r : Nat} (h : r < 4294967296) : st r < 4294967296 := by
  unfold st
  split
  · exact Nat.xor_lt_two_pow (n := 32) (by omega) (by decide)
  · omega

theorem stN_lt : ∀ (k : Nat) {r : Nat}, r < 4294967296 → stN k r < 4294967296
  | 0, r, h => h
  | k + 1, r, h => stN_lt k (st_lt h)

theorem st_eq_zero {r : Nat} (h : r < 4294967296) (h0 : st r = 0) : r = 0 := by
  unfold st at h0
  split at h0
  · have h1 : r / 2 = 3988292384 := by
      have := congrArg (· ^^^ 3988292384) h0
      simp only [Nat.xor_assoc, Nat.xor_self, Nat.xor_zero, Nat.zero_xor] at this
      exact this
    omega
  · omega

theorem stN_eq_zero : ∀ (k : Nat) {r : Nat}, r < 4294967296 → stN k r = 0 → r = 0
  | 0, r, _, h0 => h0
  | k + 1, r, h, h0 => st_eq_zero h (stN_eq_zero k (st_lt h) h0)

theorem stN_inj (k : Nat) {a b : Nat} (ha : a < 4294967296) (hb : b < 4294967296) (h : stN k a = stN k b) : a = b := by
  have h1 : stN k (a ^^^ b) = 0 := by rw [stN_xor, h, Nat.xor_self]
  have h2 := stN_eq_zero k (Nat.xor_lt_two_pow (n := 32) ha hb) h1
  have h3 := congrArg (· ^^^ b) h2
  simpa [Nat.xor_assoc] using h3

/-- A byte's step. -/
def fb (r : Nat) (b : UInt8) : Nat := stN 8 (r ^^^ b.toNat)
def fold (r : Nat) (L : List UInt8) : Nat := L.foldl fb r
/-- Bytes as one number, the lowest first. -/
def num : List UInt8 → Nat
  | [] => 0
  | b :: l => b.toNat + 256 * num l
def sumN (L : List UInt8) : Nat := 4294967295 - fold 4294967295 L

theorem low_xor (b v : Nat) (h : b < 256) : b ^^^ 256 * v = b + 256 * v := by
  have := Nat.two_pow_add_eq_or_of_lt (i := 8) h v
  have h2 : b ^^^ 256 * v = 256 * v ||| b := by
    apply Nat.eq_of_testBit_eq
    intro i
    rw [Nat.testBit_xor, Nat.testBit_or]
    rw [show (256 : Nat) = 2 ^ 8 from rfl, Nat.testBit_two_pow_mul]
    by_cases hi : 8 ≤ i
    · have : b.testBit i = false := Nat.testBit_lt_two_pow (Nat.lt_of_lt_of_le h (Nat.pow_le_pow_right (n := 2) (by omega) hi))
      simp [this]
    · simp [hi]
  rw [h2, ← this]
  omega

theorem fold_num : ∀ (L : List UInt8) (r : Nat), fold r L = stN (8 * L.length) (r ^^^ num L)
  | [], r => by simp [fold, stN, num]
  | b :: l, r => by
    have e : fold r (b :: l) = fold (fb r b) l := rfl
    have hb := b.toNat_lt
    rw [e, fold_num l, fb]
    have h1 : stN 8 (r ^^^ b.toNat) ^^^ num l = stN 8 (r ^^^ (b.toNat + 256 * num l)) := by
      rw [← low_xor _ _ (by omega), ← Nat.xor_assoc, stN_xor 8 (r ^^^ b.toNat), show 256 * num l = 2 ^ 8 * num l from rfl, stN_shift]
    rw [h1, ← stN_add, List.length_cons]
    congr 1
    omega

theorem fold_append (r : Nat) (L M : List UInt8) : fold r (L ++ M) = fold (fold r L) M := List.foldl_append ..

theorem fb_lt {r : Nat} (h : r < 4294967296) (b : UInt8) : fb r b < 4294967296 :=
  stN_lt 8 (Nat.xor_lt_two_pow (n := 32) h (by have := b.toNat_lt; omega))

theorem fold_lt : ∀ (L : List UInt8) {r : Nat}, r < 4294967296 → fold r L < 4294967296
  | [], r, h => h
  | b :: l, r, h => fold_lt l (fb_lt h b)

theorem num_lt : ∀ (L : List UInt8), num L < 256 ^ L.length
  | [] => by simp [num]
  | b :: l => by
    have := num_lt l
    have hb := b.toNat_lt
    simp only [num, List.length_cons, Nat.pow_succ]
    omega

/-- The bytes of a sum. -/
def put4 (n : Nat) : List UInt8 := [UInt8.ofNat (n % 256), UInt8.ofNat (n / 256 % 256), UInt8.ofNat (n / 65536 % 256), UInt8.ofNat (n / 16777216 % 256)]

theorem num_put4 {n : Nat} (h : n < 4294967296) : num (put4 n) = n := by
  simp only [put4, num]
  rw [show ∀ m, (UInt8.ofNat (m % 256)).toNat = m % 256 from fun m => by simp, show ∀ m, (UInt8.ofNat (m % 256)).toNat = m % 256 from fun m => by simp]
  simp
  omega

theorem not_xor (r : Nat) (h : r < 4294967296) : r ^^^ (4294967295 - r) = 4294967295 := by
  have h1 : ∀ i, i < 32 → (4294967295 - r).testBit i = !r.testBit i := fun i hi => by
    have := Nat.testBit_two_pow_sub_succ (x := r) (n := 32) h i
    rw [show (2 : Nat) ^ 32 - (r + 1) = 4294967295 - r by omega] at this
    rw [this]
    simp [hi]
  apply Nat.eq_of_testBit_eq
  intro i
  rw [Nat.testBit_xor]
  by_cases hi : i < 32
  · rw [h1 i hi]
    have : (4294967295 : Nat).testBit i = true := by
      have := Nat.testBit_two_pow_sub_one 32 i
      rw [show (2 : Nat) ^ 32 - 1 = 4294967295 from rfl] at this
      rw [this]; simpa using hi
    rw [this]
    simp
  · have h2 : ∀ x, x < 4294967296 → x.testBit i = false := fun x hx => Nat.testBit_lt_two_pow (Nat.lt_of_lt_of_le hx (Nat.pow_le_pow_right (n := 2) (by omega) (Nat.le_of_not_lt hi)))
    rw [h2 r h, h2 _ (by omega), h2 _ (by omega)]
    rfl

/-- A text and four bytes check just if all of it comes to the one state. -/
theorem check_iff (L T : List UInt8) (hT : T.length = 4) : num T = sumN L ↔ fold 4294967295 (L ++ T) = stN 32 4294967295 := by
  have hF : fold 4294967295 L < 4294967296 := fold_lt L (by decide)
  have hTn : num T < 4294967296 := by have := num_lt T; rw [hT] at this; exact this
  rw [fold_append, fold_num T, hT]
  constructor
  · intro h
    rw [h, sumN, not_xor _ hF]
  · intro h
    have := stN_inj 32 (Nat.xor_lt_two_pow (n := 32) hF hTn) (by decide) h
    have h2 := congrArg (fold 4294967295 L ^^^ ·) this
    simp only [← Nat.xor_assoc, Nat.xor_self, Nat.zero_xor] at h2
    rw [h2, sumN]
    have h3 := congrArg (fold 4294967295 L ^^^ ·) (not_xor _ hF)
    simp only [← Nat.xor_assoc, Nat.xor_self, Nat.zero_xor] at h3
    exact h3.symm

/-- A burst: bytes that are the others', turned at e from bit f on, check just if e is 0. -/
theorem burst (L M : List UInt8) (hlen : M.length = L.length) (e f : Nat) (he : e < 4294967296) (hf : f ≤ 8 * L.length) (hM : num M = num L ^^^ 2 ^ f * e) :
    fold 4294967295 M = fold 4294967295 L ↔ e = 0 := by
  rw [fold_num, fold_num, hlen, hM, ← Nat.xor_assoc, stN_xor _ (4294967295 ^^^ num L)]
  have hs : stN (8 * L.length) (2 ^ f * e) = stN (8 * L.length - f) e := by
    rw [show 8 * L.length = f + (8 * L.length - f) by omega, stN_add, stN_shift]
    congr 1
    omega
  rw [hs]
  generalize stN (8 * L.length) (4294967295 ^^^ num L) = A
  constructor
  · intro h
    have h2 := congrArg (A ^^^ ·) h
    simp only [← Nat.xor_assoc, Nat.xor_self, Nat.zero_xor] at h2
    exact stN_eq_zero _ he h2
  · rintro rfl
    rw [stN_zero, Nat.xor_zero]

/-- Eight steps at once, by a table of 256. -/
theorem stN8_table (r : Nat) : stN 8 r = stN 8 (r % 256) ^^^ r / 256 := by
  have h := low_xor (r % 256) (r / 256) (Nat.mod_lt _ (by decide))
  have h2 : r % 256 + 256 * (r / 256) = r := by omega
  rw [h2] at h
  have h3 := stN_xor 8 (r % 256) (256 * (r / 256))
  rw [h, show 256 * (r / 256) = 2 ^ 8 * (r / 256) from rfl, stN_shift] at h3
  exact h3

theorem mul_xor (k a b : Nat) : 2 ^ k * (a ^^^ b) = 2 ^ k * a ^^^ 2 ^ k * b := by
  have := Nat.shiftLeft_xor_distrib (a := a) (b := b) (i := k)
  simp only [Nat.shiftLeft_eq] at this
  rw [Nat.mul_comm, this, Nat.mul_comm a, Nat.mul_comm b]

theorem ofNat8 {n : Nat} (h : n < 256) : (UInt8.ofNat n).toNat = n := by simp; omega

/-- A bit of a byte is turned: so is one of the number. -/
theorem num_set : ∀ (M : List UInt8) (j r : Nat), j < M.length → r < 8 → num (M.set j (UInt8.ofNat ((M.getD j 0).toNat ^^^ 2 ^ r))) = num M ^^^ 2 ^ (8 * j + r)
  | [], j, r, h, _ => by simp at h
  | b :: l, 0, r, _, hr => by
    have hb := b.toNat_lt
    have h2 : 2 ^ r < 256 := by
      have := Nat.pow_lt_pow_right (a := 2) (by omega) hr
      simpa using this
    have hx : b.toNat ^^^ 2 ^ r < 256 := Nat.xor_lt_two_pow (n := 8) (by omega) (by simpa using h2)
    have hn : (UInt8.ofNat (b.toNat ^^^ 2 ^ r)).toNat = b.toNat ^^^ 2 ^ r := ofNat8 hx
    show (UInt8.ofNat (b.toNat ^^^ 2 ^ r)).toNat + 256 * num l = (b.toNat + 256 * num l) ^^^ 2 ^ (8 * 0 + r)
    rw [hn, ← low_xor _ _ hx, ← low_xor _ _ (by omega : b.toNat < 256), Nat.mul_zero, Nat.zero_add, Nat.xor_assoc, Nat.xor_assoc, Nat.xor_comm (2 ^ r)]
  | b :: l, j + 1, r, h, hr => by
    have hb := b.toNat_lt
    have := num_set l j r (by simpa using h) hr
    show b.toNat + 256 * num (l.set j (UInt8.ofNat ((l.getD j 0).toNat ^^^ 2 ^ r))) = (b.toNat + 256 * num l) ^^^ 2 ^ (8 * (j + 1) + r)
    rw [this, ← low_xor _ _ (by omega : b.toNat < 256), ← low_xor _ _ (by omega : b.toNat < 256), show (256 : Nat) = 2 ^ 8 from rfl, mul_xor, ← Nat.pow_add, ← Nat.xor_assoc]
    congr 2
    omega

theorem num_inj : ∀ (L M : List UInt8), L.length = M.length → num L = num M → L = M
  | [], [], _, _ => rfl
  | [], b :: m, h, _ => by simp at h
  | a :: l, [], h, _ => by simp at h
  | a :: l, b :: m, h, e => by
    have ha := a.toNat_lt
    have hb := b.toNat_lt
    simp only [num] at e
    have h1 : a.toNat = b.toNat := by omega
    have h2 : num l = num m := by omega
    rw [num_inj l m (by simpa using h) h2, UInt8.toNat_inj.1 h1]

theorem example_sum : sumN [49, 50, 51, 52, 53, 54, 55, 56, 57] = 3421780262 := by decide +kernel

end Go.Proofs.YtbelpcniogcfoaaDoor.crcm
