/-
  Plain facts on words of 32 bits: turned, put together bit by bit, their bytes, their sums.
-/
import Derived.Laws.BitsAllLaws
namespace Go.Proofs.YtphakhklhicolaaDoor
namespace Wd
open Go

abbrev W32 := BitVec 32

/-- x turned up by k places. -/
def rot (x : W32) (k : Nat) : W32 := x <<< k ||| x >>> (32 - k)
/-- x turned by n. -/
def trn (x : W32) (n : Int) : W32 := rot x (n % 32).toNat

theorem rot_bit (x : W32) (k i : Nat) (hk : k < 32) (hi : i < 32) : (rot x k).getLsbD i = x.getLsbD ((i + 32 - k) % 32) := by
  unfold rot
  rw [BitVec.getLsbD_or, BitVec.getLsbD_shiftLeft, BitVec.getLsbD_ushiftRight]
  by_cases h : i < k
  · rw [show (i + 32 - k) % 32 = 32 - k + i by omega]
    simp [hi, h]
  · rw [show (i + 32 - k) % 32 = i - k by omega]
    have : x.getLsbD (32 - k + i) = false := BitVec.getLsbD_of_ge _ _ (by omega)
    simp [hi, h, this]
theorem trn_bit (x : W32) (n : Int) (i : Nat) (hi : i < 32) : (trn x n).getLsbD i = x.getLsbD (((i : Int) - n) % 32).toNat := by
  unfold trn
  rw [rot_bit x _ i (by omega) hi]
  congr 1
  omega
theorem trn_trn (x : W32) (n m k : Int) (h : k % 32 = (n + m) % 32) : trn (trn x n) m = trn x k := by
  apply BitVec.eq_of_getLsbD_eq
  intro i hi
  rw [trn_bit _ _ _ hi, trn_bit _ _ _ (by omega), trn_bit _ _ _ hi]
  congr 1
  omega
theorem trn_zero (x : W32) (n : Int) (h : n % 32 = 0) : trn x n = x := by
  apply BitVec.eq_of_getLsbD_eq
  intro i hi
  rw [trn_bit _ _ _ hi]
  congr 1
  omega
theorem trn_mod (x : W32) (n m : Int) (h : n % 32 = m % 32) : trn x n = trn x m := by
  unfold trn
  rw [h]

/-- y's bit, where x's is 1, else z's. -/
def chs (x y z : W32) : W32 := (x &&& y) ||| (~~~x &&& z)
def odd (x y z : W32) : W32 := x ^^^ y ^^^ z
def mst (x y z : W32) : W32 := (x &&& y) ||| (x &&& z) ||| (y &&& z)
theorem chs_bit (x y z : W32) (i : Nat) (hi : i < 32) : (chs x y z).getLsbD i = (if x.getLsbD i then y.getLsbD i else z.getLsbD i) := by
  unfold chs
  simp only [BitVec.getLsbD_or, BitVec.getLsbD_and, BitVec.getLsbD_not, hi, decide_true, Bool.true_and]
  cases x.getLsbD i <;> simp
theorem odd_bit (x y z : W32) (i : Nat) : (odd x y z).getLsbD i = (x.getLsbD i ^^ y.getLsbD i ^^ z.getLsbD i) := by
  unfold odd
  simp only [BitVec.getLsbD_xor]
theorem mst_bit (x y z : W32) (i : Nat) : (mst x y z).getLsbD i = ((x.getLsbD i && y.getLsbD i) || (x.getLsbD i && z.getLsbD i) || (y.getLsbD i && z.getLsbD i)) := by
  unfold mst
  simp only [BitVec.getLsbD_or, BitVec.getLsbD_and]
theorem chs_trn (x y z : W32) (n : Int) : chs (trn x n) (trn y n) (trn z n) = trn (chs x y z) n := by
  apply BitVec.eq_of_getLsbD_eq
  intro i hi
  rw [chs_bit _ _ _ _ hi, trn_bit _ _ _ hi, trn_bit _ _ _ hi, trn_bit _ _ _ hi, trn_bit _ _ _ hi, chs_bit _ _ _ _ (by omega)]
theorem odd_trn (x y z : W32) (n : Int) : odd (trn x n) (trn y n) (trn z n) = trn (odd x y z) n := by
  apply BitVec.eq_of_getLsbD_eq
  intro i hi
  rw [odd_bit, trn_bit _ _ _ hi, trn_bit _ _ _ hi, trn_bit _ _ _ hi, trn_bit _ _ _ hi, odd_bit]
theorem mst_trn (x y z : W32) (n : Int) : mst (trn x n) (trn y n) (trn z n) = trn (mst x y z) n := by
  apply BitVec.eq_of_getLsbD_eq
  intro i hi
  rw [mst_bit, trn_bit _ _ _ hi, trn_bit _ _ _ hi, trn_bit _ _ _ hi, trn_bit _ _ _ hi, mst_bit]

theorem ones_bit (i : Nat) (hi : i < 32) : (4294967295#32).getLsbD i = true := by
  have all : ∀ j : Fin 32, (4294967295#32).getLsbD j.val = true := by decide
  exact all ⟨i, hi⟩
theorem mst_chs (x y z : W32) : mst x y z = chs x (y ||| z) (y &&& z) := by
  apply BitVec.eq_of_getLsbD_eq
  intro i hi
  rw [mst_bit, chs_bit _ _ _ _ hi, BitVec.getLsbD_or, BitVec.getLsbD_and]
  cases x.getLsbD i <;> cases y.getLsbD i <;> cases z.getLsbD i <;> rfl
theorem odd_chs (x y z : W32) : odd x y z = chs x (odd 4294967295#32 y z) (odd 0#32 y z) := by
  apply BitVec.eq_of_getLsbD_eq
  intro i hi
  rw [odd_bit, chs_bit _ _ _ _ hi, odd_bit, odd_bit, ones_bit i hi, BitVec.getLsbD_zero]
  cases x.getLsbD i <;> cases y.getLsbD i <;> cases z.getLsbD i <;> rfl
theorem chs_ones (y z : W32) : chs 4294967295#32 y z = y := by
  apply BitVec.eq_of_getLsbD_eq
  intro i hi
  rw [chs_bit _ _ _ _ hi, ones_bit i hi, if_pos rfl]
theorem chs_zero (y z : W32) : chs 0#32 y z = z := by
  apply BitVec.eq_of_getLsbD_eq
  intro i hi
  rw [chs_bit _ _ _ _ hi, BitVec.getLsbD_zero, if_neg (by simp)]
theorem mst_same (x z : W32) : mst x x z = x := by
  apply BitVec.eq_of_getLsbD_eq
  intro i hi
  rw [mst_bit]
  cases x.getLsbD i <;> cases z.getLsbD i <;> rfl

/-- The number whose bits below k are f's. -/
def bvn (f : Nat → Bool) : Nat → Nat
  | 0 => 0
  | k + 1 => bvn f k + (f k).toNat * 2 ^ k
theorem bvn_lt (f : Nat → Bool) (k : Nat) : bvn f k < 2 ^ k := by
  induction k with
  | zero => simp [bvn]
  | succ k ih =>
    have h2 : (f k).toNat ≤ 1 := by cases f k <;> decide
    have h3 : (f k).toNat * 2 ^ k ≤ 1 * 2 ^ k := Nat.mul_le_mul_right _ h2
    rw [bvn, Nat.pow_succ]
    omega
theorem bvn_lt32 (f : Nat → Bool) (k : Nat) (h : k ≤ 32) : bvn f k < 4294967296 := by
  have h1 := bvn_lt f k
  have h2 : 2 ^ k ≤ 2 ^ 32 := Nat.pow_le_pow_right (by decide) h
  omega
theorem bvn_or (f : Nat → Bool) (k : Nat) (h : f k = true) : bvn f k ||| 2 ^ k = bvn f (k + 1) := by
  rw [bvn, h, Nat.or_comm]
  have := Nat.two_pow_add_eq_or_of_lt (bvn_lt f k) 1
  rw [Nat.mul_one] at this
  rw [← this]
  simp
  omega
theorem bvn_no (f : Nat → Bool) (k : Nat) (h : f k = false) : bvn f (k + 1) = bvn f k := by
  rw [bvn, h]
  simp
theorem bvn_mod (f : Nat → Bool) (X : W32) (k : Nat) (h : ∀ i, i < k → f i = X.getLsbD i) : bvn f k = X.toNat % 2 ^ k := by
  induction k with
  | zero => simp [bvn, Nat.mod_one]
  | succ k ih =>
    rw [bvn, ih (fun i hi => h i (by omega)), h k (by omega), Nat.mod_pow_succ, ← BitVec.testBit_toNat, Nat.toNat_testBit, Nat.mul_comm]
theorem bvn_of (f : Nat → Bool) (X : W32) (h : ∀ i, i < 32 → f i = X.getLsbD i) : bvn f 32 = X.toNat := by
  rw [bvn_mod f X 32 h]
  exact Nat.mod_eq_of_lt X.isLt

/-- A bit as a number. -/
def bt (x : W32) (i : Nat) : Nat := x.toNat / 2 ^ i % 2
theorem bt_bit (x : W32) (i : Nat) : bt x i = (x.getLsbD i).toNat := by
  unfold bt
  rw [← BitVec.testBit_toNat, Nat.toNat_testBit]
theorem bt_le (x : W32) (i : Nat) : bt x i ≤ 1 := by unfold bt; omega
theorem hi_succ (x : W32) (k : Nat) : x.toNat / 2 ^ k = 2 * (x.toNat / 2 ^ (k + 1)) + bt x k := by
  unfold bt
  rw [Nat.pow_succ, ← Nat.div_div_eq_div_mul]
  omega
theorem hi_top (x : W32) : x.toNat / 2 ^ 32 = 0 := Nat.div_eq_of_lt x.isLt
theorem chs_bt (x y z : W32) (i : Nat) (hi : i < 32) : bt (chs x y z) i = if bt x i = 1 then bt y i else bt z i := by
  rw [bt_bit, bt_bit, bt_bit, bt_bit, chs_bit _ _ _ _ hi]
  cases x.getLsbD i <;> simp
theorem odd_bt (x y z : W32) (i : Nat) : bt (odd x y z) i = (bt x i + bt y i + bt z i) % 2 := by
  rw [bt_bit, bt_bit, bt_bit, bt_bit, odd_bit]
  cases x.getLsbD i <;> cases y.getLsbD i <;> cases z.getLsbD i <;> rfl
theorem mst_bt (x y z : W32) (i : Nat) : bt (mst x y z) i = (bt x i + bt y i + bt z i) / 2 := by
  rw [bt_bit, bt_bit, bt_bit, bt_bit, mst_bit]
  cases x.getLsbD i <;> cases y.getLsbD i <;> cases z.getLsbD i <;> rfl

theorem rot_nat (x : W32) (k : Nat) : (rot x k).toNat = x.toNat * 2 ^ k % 4294967296 ||| x.toNat / 2 ^ (32 - k) := by
  unfold rot
  rw [BitVec.toNat_or, BitVec.toNat_shiftLeft, BitVec.toNat_ushiftRight, Nat.shiftLeft_eq, Nat.shiftRight_eq_div_pow]
theorem rot_one (x : W32) : (rot x 1).toNat = x.toNat * 2 % 4294967296 + x.toNat / 2147483648 := by
  rw [rot_nat]
  have hx := x.isLt
  have h := Nat.two_pow_add_eq_or_of_lt (i := 1) (b := x.toNat / 2147483648) (by omega) (x.toNat % 2147483648)
  rw [show x.toNat * 2 ^ 1 % 4294967296 = 2 ^ 1 * (x.toNat % 2147483648) by omega, show x.toNat / 2 ^ (32 - 1) = x.toNat / 2147483648 by rfl, ← h]
theorem up_trn (x : W32) (i : Nat) : (trn x ((i + 1 : Nat) : Int)).toNat = (trn x i).toNat * 2 % 4294967296 + (trn x i).toNat / 2147483648 := by
  rw [← rot_one, ← trn_trn x i 1 ((i + 1 : Nat) : Int) (by omega)]
  rfl

/-- The sum of words, whole. -/
def smN (l : List W32) : Nat := (l.map BitVec.toNat).sum
def sm (l : List W32) : Nat := smN l % 4294967296
theorem sm_lt (l : List W32) : sm l < 4294967296 := Nat.mod_lt _ (by decide)
theorem smN_append (a b : List W32) : smN (a ++ b) = smN a + smN b := by simp [smN]
theorem sm_take (l : List W32) (k : Nat) (h : k < l.length) : sm (l.take (k + 1)) = (sm (l.take k) + (l[k]'h).toNat) % 4294967296 := by
  unfold sm
  rw [List.take_succ_eq_append_getElem h, smN_append, Nat.mod_add_mod]
  simp [smN]
theorem sm_turn (l : List W32) (k : Nat) : sm (l.drop k ++ l.take k) = sm l := by
  unfold sm
  conv => rhs; rw [← List.take_append_drop k l]
  rw [smN_append, smN_append, Nat.add_comm]
theorem sm_parts (l : List W32) (k : Nat) (a b : W32) (ha : a.toNat = sm (l.take k)) (hb : b.toNat = sm (l.drop k)) : sm [a, b] = sm l := by
  conv => rhs; rw [← List.take_append_drop k l]
  unfold sm at *
  rw [smN_append]
  simp only [smN, List.map_cons, List.map_nil, List.sum_cons, List.sum_nil] at *
  omega

/-- A word's bytes. -/
def w4 (x : W32) : List UInt8 := [(x.toNat / 16777216).toUInt8, (x.toNat / 65536 % 256).toUInt8, (x.toNat / 256 % 256).toUInt8, (x.toNat % 256).toUInt8]
def bytesL (l : List W32) : List UInt8 := l.flatMap w4
theorem bytesL_length (l : List W32) : (bytesL l).length = 4 * l.length := by
  induction l with
  | nil => rfl
  | cons a l ih => simp only [bytesL, List.flatMap_cons, List.length_append, List.length_cons] at *; simp only [w4, List.length_cons, List.length_nil]; omega
theorem bytesL_append (a b : List W32) : bytesL (a ++ b) = bytesL a ++ bytesL b := by simp [bytesL]
theorem bytesL_take (l : List W32) (k : Nat) (h : k < l.length) : bytesL (l.take (k + 1)) = bytesL (l.take k) ++ w4 (l[k]'h) := by
  rw [List.take_succ_eq_append_getElem h, bytesL_append]; simp [bytesL]

/-- The first r bytes of the j-th four, as a number. -/
def pw (b : List UInt8) (j : Nat) : Nat → Nat
  | 0 => 0
  | r + 1 => 256 * pw b j r + (b.getD (4 * j + r) 0).toNat
theorem pw_lt (b : List UInt8) (j r : Nat) : pw b j r < 256 ^ r := by
  induction r with
  | zero => simp [pw]
  | succ r ih =>
    have := (b.getD (4 * j + r) 0).toNat_lt
    rw [pw, Nat.pow_succ]
    omega
theorem pw_lt4 (b : List UInt8) (j r : Nat) (h : r ≤ 4) : pw b j r < 4294967296 := by
  have h1 := pw_lt b j r
  have h2 : 256 ^ r ≤ 256 ^ 4 := Nat.pow_le_pow_right (by decide) h
  omega
theorem pw_lt3 (b : List UInt8) (j r : Nat) (h : r ≤ 3) : pw b j r < 16777216 := by
  have h1 := pw_lt b j r
  have h2 : 256 ^ r ≤ 256 ^ 3 := Nat.pow_le_pow_right (by decide) h
  omega
/-- The n words behind 'at' bytes. -/
def rowW (b : List UInt8) (n at_ : Nat) : List W32 := (List.range n).map fun j => BitVec.ofNat 32 (pw b j (min 4 (at_ - 4 * j)))
theorem rowW_length (b : List UInt8) (n at_ : Nat) : (rowW b n at_).length = n := by simp [rowW]
theorem rowW_zero (b : List UInt8) (n : Nat) : rowW b n 0 = List.replicate n 0#32 := by
  apply List.ext_getElem
  · simp [rowW]
  · intro j h1 h2
    simp [rowW, pw]
theorem rowW_get (b : List UInt8) (n at_ : Nat) (h : at_ / 4 < n) : (rowW b n at_)[at_ / 4]'(by rw [rowW_length]; exact h) = BitVec.ofNat 32 (pw b (at_ / 4) (at_ % 4)) := by
  simp only [rowW, List.getElem_map, List.getElem_range]
  rw [show min 4 (at_ - 4 * (at_ / 4)) = at_ % 4 by omega]
theorem rowW_set (b : List UInt8) (n at_ : Nat) : (rowW b n at_).set (at_ / 4) (BitVec.ofNat 32 (256 * pw b (at_ / 4) (at_ % 4) + (b.getD at_ 0).toNat)) = rowW b n (at_ + 1) := by
  apply List.ext_getElem
  · simp [rowW]
  · intro j h1 h2
    have hj : j < n := by simpa [rowW] using h2
    rw [List.getElem_set]
    simp only [rowW, List.getElem_map, List.getElem_range]
    split
    · rename_i e
      subst e
      rw [show min 4 (at_ + 1 - 4 * (at_ / 4)) = at_ % 4 + 1 by omega, pw, show 4 * (at_ / 4) + at_ % 4 = at_ by omega]
    · rename_i e
      rw [show min 4 (at_ + 1 - 4 * j) = min 4 (at_ - 4 * j) by omega]
/-- The words whose bytes b is. -/
def wordL (b : List UInt8) : List W32 := (List.range (b.length / 4)).map fun j => BitVec.ofNat 32 (pw b j 4)
theorem wordL_length (b : List UInt8) : (wordL b).length = b.length / 4 := by simp [wordL]
theorem rowW_full (b : List UInt8) (at_ : Nat) (h : at_ = 4 * (b.length / 4)) : rowW b (b.length / 4) at_ = wordL b := by
  subst h
  apply List.ext_getElem
  · simp [rowW, wordL]
  · intro j h1 h2
    have hj : j < b.length / 4 := by simpa [wordL] using h2
    simp only [rowW, wordL, List.getElem_map, List.getElem_range]
    rw [show min 4 (4 * (b.length / 4) - 4 * j) = 4 by omega]
/-- The first k words. -/
def wordK (b : List UInt8) (k : Nat) : List W32 := (List.range k).map fun j => BitVec.ofNat 32 (pw b j 4)
theorem wordK_length (b : List UInt8) (k : Nat) : (wordK b k).length = k := by simp [wordK]
theorem wordK_succ (b : List UInt8) (k : Nat) : wordK b (k + 1) = wordK b k ++ [BitVec.ofNat 32 (pw b k 4)] := by simp [wordK, List.range_succ]
theorem wordK_full (b : List UInt8) : wordK b (b.length / 4) = wordL b := rfl
theorem pw4 (b : List UInt8) (j : Nat) : pw b j 4 = 16777216 * (b.getD (4 * j) 0).toNat + 65536 * (b.getD (4 * j + 1) 0).toNat + 256 * (b.getD (4 * j + 2) 0).toNat + (b.getD (4 * j + 3) 0).toNat := by
  simp only [pw, Nat.add_zero, Nat.mul_zero, Nat.zero_add]
  omega
theorem bytesL_at (l : List W32) (j r : Nat) (h : j < l.length) (hr : r < 4) : (bytesL l).getD (4 * j + r) 0 = (w4 (l[j]'h)).getD r 0 := by
  induction l generalizing j with
  | nil => simp at h
  | cons a l ih =>
    have e : bytesL (a :: l) = w4 a ++ bytesL l := by simp [bytesL]
    have e4 : (w4 a).length = 4 := rfl
    cases j with
    | zero =>
      rw [e, List.getD_eq_getElem?_getD, List.getD_eq_getElem?_getD, List.getElem?_append_left (by rw [e4]; omega)]
      simp
    | succ j =>
      have h' : j < l.length := by simpa using h
      have := ih j h'
      rw [List.getD_eq_getElem?_getD] at this
      rw [e, List.getD_eq_getElem?_getD, List.getElem?_append_right (by rw [e4]; omega), e4, show 4 * (j + 1) + r - 4 = 4 * j + r by omega, this]
      simp
theorem u8_nat (n : Nat) (h : n < 256) : n.toUInt8.toNat = n := by rw [Nat.toUInt8, UInt8.toNat_ofNat']; omega
theorem w4_word (x : W32) : 16777216 * ((w4 x).getD 0 0).toNat + 65536 * ((w4 x).getD 1 0).toNat + 256 * ((w4 x).getD 2 0).toNat + ((w4 x).getD 3 0).toNat = x.toNat := by
  have hx := x.isLt
  simp only [w4, List.getD_cons_zero, List.getD_cons_succ]
  rw [u8_nat _ (by omega), u8_nat _ (by omega), u8_nat _ (by omega), u8_nat _ (by omega)]
  omega
theorem wordL_bytesL (l : List W32) : wordL (bytesL l) = l := by
  apply List.ext_getElem
  · rw [wordL_length, bytesL_length]; omega
  · intro j h1 h2
    simp only [wordL, List.getElem_map, List.getElem_range]
    rw [pw4, show 4 * j = 4 * j + 0 by rfl, bytesL_at l j 0 h2 (by omega), bytesL_at l j 1 h2 (by omega), bytesL_at l j 2 h2 (by omega), bytesL_at l j 3 h2 (by omega), w4_word]
    simp
theorem w4_bytes (a b c d : UInt8) : w4 (BitVec.ofNat 32 (16777216 * a.toNat + 65536 * b.toNat + 256 * c.toNat + d.toNat)) = [a, b, c, d] := by
  have ha := a.toNat_lt
  have hb := b.toNat_lt
  have hc := c.toNat_lt
  have hd := d.toNat_lt
  have e : (BitVec.ofNat 32 (16777216 * a.toNat + 65536 * b.toNat + 256 * c.toNat + d.toNat)).toNat = 16777216 * a.toNat + 65536 * b.toNat + 256 * c.toNat + d.toNat := by
    rw [BitVec.toNat_ofNat]; omega
  unfold w4
  rw [e]
  have f : ∀ (n : Nat) (u : UInt8), n = u.toNat → n.toUInt8 = u := by
    intro n u h
    subst h
    simp
  rw [f _ a (by omega), f _ b (by omega), f _ c (by omega), f _ d (by omega)]
theorem bytesL_wordL (b : List UInt8) (h : b.length % 4 = 0) : bytesL (wordL b) = b := by
  have key : ∀ k, 4 * k ≤ b.length → bytesL (wordK b k) = b.take (4 * k) := by
    intro k
    induction k with
    | zero => intro _; simp [wordK, bytesL]
    | succ k ih =>
      intro hk
      rw [wordK_succ, bytesL_append, ih (by omega)]
      have g : ∀ r, r < 4 → b.getD (4 * k + r) 0 = b[4 * k + r]?.getD 0 := fun r _ => List.getD_eq_getElem?_getD ..
      have e : bytesL [BitVec.ofNat 32 (pw b k 4)] = [b.getD (4 * k) 0, b.getD (4 * k + 1) 0, b.getD (4 * k + 2) 0, b.getD (4 * k + 3) 0] := by
        rw [pw4]
        have := w4_bytes (b.getD (4 * k) 0) (b.getD (4 * k + 1) 0) (b.getD (4 * k + 2) 0) (b.getD (4 * k + 3) 0)
        simp only [bytesL, List.flatMap_cons, List.flatMap_nil, List.append_nil]
        exact this
      rw [e]
      have t : ∀ m, m < b.length → b.take (m + 1) = b.take m ++ [b.getD m 0] := by
        intro m hm
        rw [List.take_succ_eq_append_getElem hm, List.getD_eq_getElem?_getD, List.getElem?_eq_getElem hm]; rfl
      rw [show 4 * (k + 1) = 4 * k + 1 + 1 + 1 + 1 by omega, t _ (by omega), t _ (by omega), t _ (by omega), t _ (by omega)]
      simp
  have := key (b.length / 4) (by omega)
  rw [wordK_full] at this
  rw [this, show 4 * (b.length / 4) = b.length by omega, List.take_length]
end Wd
end Go.Proofs.YtphakhklhicolaaDoor
