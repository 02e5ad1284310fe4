/-
  Plain facts on SHA-1: the schedule, the rounds, the state behind blocks, what stands behind a text, the digest.
-/
import Derived.Test.YtmjcmlaeajglmaaWordM
namespace Go.Proofs.Ytmjcmlaeajglmaa
namespace Sh
open Go Wd

/-- Five words. -/
structure S5 where
  a : W32
  b : W32
  c : W32
  d : W32
  e : W32
deriving DecidableEq
def S5.toL (s : S5) : List W32 := [s.a, s.b, s.c, s.d, s.e]
theorem S5.inj {s t : S5} (h : s.toL = t.toL) : s = t := by
  obtain ⟨a, b, c, d, e⟩ := s
  obtain ⟨a', b', c', d', e'⟩ := t
  simp only [S5.toL, List.cons.injEq, and_true] at h
  obtain ⟨rfl, rfl, rfl, rfl, rfl⟩ := h
  rfl

/-- The state at first. -/
def first : S5 := ⟨0x67452301#32, 0xefcdab89#32, 0x98badcfe#32, 0x10325476#32, 0xc3d2e1f0#32⟩

/-- The schedule's next word, of the ones ahead. -/
def nxt (l : List W32) : W32 := trn (l.getD (l.length - 3) 0 ^^^ l.getD (l.length - 8) 0 ^^^ l.getD (l.length - 14) 0 ^^^ l.getD (l.length - 16) 0) 1
/-- The schedule's first words, k behind those that are given. -/
def sch (l : List W32) : Nat → List W32
  | 0 => l
  | k + 1 => sch l k ++ [nxt (sch l k)]
theorem sch_length (l : List W32) (k : Nat) : (sch l k).length = l.length + k := by
  induction k with
  | zero => rfl
  | succ k ih => rw [sch, List.length_append, ih]; rfl
theorem sch_get (l : List W32) (k m t : Nat) (h : k ≤ m) (ht : t < l.length + k) : (sch l m).getD t 0 = (sch l k).getD t 0 := by
  induction m with
  | zero => obtain rfl : k = 0 := by omega
            rfl
  | succ m ih =>
    rcases Nat.lt_or_ge k (m + 1) with h1 | h1
    · rw [sch, ← ih (by omega), List.getD_eq_getElem?_getD, List.getD_eq_getElem?_getD, List.getElem?_append_left (by rw [sch_length]; omega)]
    · obtain rfl : k = m + 1 := by omega
      rfl
theorem sch_new (l : List W32) (k m : Nat) (h : k < m) : (sch l m).getD (l.length + k) 0 = nxt (sch l k) := by
  rw [sch_get l (k + 1) m (l.length + k) h (by omega), sch, List.getD_eq_getElem?_getD, List.getElem?_append_right (by rw [sch_length]; omega), sch_length]
  simp
/-- The word t of a schedule of 16 words, of those ahead of it. -/
theorem sch_word (l : List W32) (hl : l.length = 16) (t m : Nat) (h : t < m + 16) (ht : 16 ≤ t) :
    (sch l m).getD t 0 = trn ((sch l m).getD (t - 3) 0 ^^^ (sch l m).getD (t - 8) 0 ^^^ (sch l m).getD (t - 14) 0 ^^^ (sch l m).getD (t - 16) 0) 1 := by
  have h1 := sch_new l (t - 16) m (by omega)
  rw [hl, show 16 + (t - 16) = t by omega] at h1
  rw [h1, nxt, sch_length, hl, show 16 + (t - 16) = t by omega]
  rw [sch_get l (t - 16) m (t - 3) (by omega) (by omega), sch_get l (t - 16) m (t - 8) (by omega) (by omega), sch_get l (t - 16) m (t - 14) (by omega) (by omega), sch_get l (t - 16) m (t - 16) (by omega) (by omega)]

/-- Three words put together, in a round; a round's constant. -/
def ff (t : Nat) (x y z : W32) : W32 := if t < 20 then chs x y z else if t < 40 then odd x y z else if t < 60 then mst x y z else odd x y z
def kk (t : Nat) : W32 := if t < 20 then 0x5a827999#32 else if t < 40 then 0x6ed9eba1#32 else if t < 60 then 0x8f1bbcdc#32 else 0xca62c1d6#32
/-- Five words behind a round. -/
def rnd (t : Nat) (w : W32) (x : S5) : S5 := ⟨trn x.a 5 + ff t x.b x.c x.d + x.e + kk t + w, x.a, trn x.b 30, x.c, x.d⟩
/-- Five words behind the first k rounds, of a schedule. -/
def rds (l : List W32) (x : S5) : Nat → S5
  | 0 => x
  | k + 1 => rnd k (l.getD k 0) (rds l x k)
def S5.add (x y : S5) : S5 := ⟨x.a + y.a, x.b + y.b, x.c + y.c, x.d + y.d, x.e + y.e⟩
/-- The state behind a block. -/
def blk (h : S5) (b : List UInt8) : S5 := h.add (rds (sch (wordL b) 64) h 80)
/-- The state behind the first k blocks. -/
def goK (h : S5) (l : List UInt8) : Nat → S5
  | 0 => h
  | k + 1 => blk (goK h l k) ((l.drop (64 * k)).take 64)
/-- The state behind all blocks. -/
def goL (h : S5) (l : List UInt8) : S5 := goK h l (l.length / 64)
theorem goK_left (h : S5) (a b : List UInt8) (j k : Nat) (hj : k ≤ j) (ha : 64 * j ≤ a.length) : goK h (a ++ b) k = goK h a k := by
  induction k with
  | zero => rfl
  | succ k ih =>
    rw [goK, goK, ih (by omega), List.drop_append_of_le_length (by omega), List.take_append_of_le_length (by rw [List.length_drop]; omega)]
theorem goK_append (h : S5) (a b : List UInt8) (j k : Nat) (ha : a.length = 64 * j) : goK h (a ++ b) (j + k) = goK (goK h a j) b k := by
  induction k with
  | zero => exact goK_left h a b j j (Nat.le_refl _) (by omega)
  | succ k ih =>
    rw [← Nat.add_assoc, goK, goK, ih]
    congr 2
    rw [show 64 * (j + k) = a.length + 64 * k by omega, List.drop_append, List.drop_of_length_le (by omega), List.nil_append]
    congr 1
    omega
theorem goL_append (h : S5) (a b : List UInt8) (ha : a.length % 64 = 0) : goL h (a ++ b) = goL (goL h a) b := by
  unfold goL
  rw [List.length_append, show (a.length + b.length) / 64 = a.length / 64 + b.length / 64 by omega]
  exact goK_append h a b _ _ (by omega)
theorem goL_parts (h : S5) (l : List UInt8) (k : Nat) (hk : k % 64 = 0) (hl : k ≤ l.length) : goL (goL h (l.take k)) (l.drop k) = goL h l := by
  rw [← goL_append h (l.take k) (l.drop k) (by rw [List.length_take]; omega), List.take_append_drop]

/-- How many zeros stand behind a text of n bytes, behind the byte 128. -/
def padZ (n : Nat) : Nat := (119 - n % 64) % 64
/-- What stands behind a text of n bytes. -/
def padL (n : Nat) : List UInt8 := 128 :: List.replicate (padZ n) 0 ++ [0, 0, 0, 0, 0, (8 * n / 65536).toUInt8, (8 * n / 256 % 256).toUInt8, (8 * n % 256).toUInt8]
theorem padL_length (n : Nat) : (padL n).length = padZ n + 9 := by
  simp only [padL, List.length_append, List.length_cons, List.length_replicate, List.length_nil]
theorem padL_whole (n : Nat) : (n + (padL n).length) % 64 = 0 := by rw [padL_length]; unfold padZ; omega
theorem padL_bd (n : Nat) : 9 ≤ (padL n).length ∧ (padL n).length ≤ 72 := by rw [padL_length]; unfold padZ; omega
theorem padL_head (n : Nat) : (padL n).getD 0 0 = 128 := rfl
theorem padL_last (n : Nat) : (padL n).drop ((padL n).length - 8) = [0, 0, 0, 0, 0, (8 * n / 65536).toUInt8, (8 * n / 256 % 256).toUInt8, (8 * n % 256).toUInt8] := by
  have h : (128 :: List.replicate (padZ n) (0 : UInt8)).length = padZ n + 1 := by simp
  rw [padL_length, show padZ n + 9 - 8 = (128 :: List.replicate (padZ n) (0 : UInt8)).length by rw [h]; omega]
  unfold padL
  exact List.drop_left
theorem wordL_eight (a b c d e f g h : UInt8) : wordL [a, b, c, d, e, f, g, h] = [BitVec.ofNat 32 (pw [a, b, c, d, e, f, g, h] 0 4), BitVec.ofNat 32 (pw [a, b, c, d, e, f, g, h] 1 4)] := by
  have e1 : ([a, b, c, d, e, f, g, h] : List UInt8).length / 4 = 2 := by simp
  unfold wordL
  rw [e1]
  rfl
theorem padL_words (n : Nat) (h : n ≤ 16384) : wordL ((padL n).drop ((padL n).length - 8)) = [0#32, BitVec.ofNat 32 (8 * n)] := by
  rw [padL_last]
  rw [wordL_eight]
  rw [pw4, pw4]
  simp only [List.getD_cons_zero, List.getD_cons_succ, Nat.mul_zero, Nat.mul_one, Nat.zero_add, Nat.reduceAdd]
  rw [u8_nat _ (by omega), u8_nat _ (by omega), u8_nat _ (by omega)]
  have e : 16777216 * (0 : UInt8).toNat + 65536 * (8 * n / 65536) + 256 * (8 * n / 256 % 256) + 8 * n % 256 = 8 * n := by
    have : (0 : UInt8).toNat = 0 := rfl
    rw [this]
    omega
  rw [e]
  rfl
theorem padL_inj (n m : Nat) (hn : n ≤ 16384) (hm : m ≤ 16384) (h : padL n = padL m) : n = m := by
  have h1 := padL_words n hn
  rw [h, padL_words m hm] at h1
  have h2 := congrArg (fun l => (l.getD 1 0#32).toNat) h1
  simp only [List.getD_cons_succ, List.getD_cons_zero, BitVec.toNat_ofNat] at h2
  omega

/-- The digest. -/
def dig (b : List UInt8) : List UInt8 := bytesL (goL first (b ++ padL b.length)).toL
theorem dig_length (b : List UInt8) : (dig b).length = 20 := by unfold dig; rw [bytesL_length]; rfl
theorem whole (b : List UInt8) : (b ++ padL b.length).length % 64 = 0 := by rw [List.length_append]; exact padL_whole _

/-- The chapter's examples. -/
theorem dig_none : dig [] = [0xda, 0x39, 0xa3, 0xee, 0x5e, 0x6b, 0x4b, 0x0d, 0x32, 0x55, 0xbf, 0xef, 0x95, 0x60, 0x18, 0x90, 0xaf, 0xd8, 0x07, 0x09] := by decide +kernel
theorem dig_abc : dig [97, 98, 99] = [0xa9, 0x99, 0x3e, 0x36, 0x47, 0x06, 0x81, 0x6a, 0xba, 0x3e, 0x25, 0x71, 0x78, 0x50, 0xc2, 0x6c, 0x9c, 0xd0, 0xd8, 0x9d] := by decide +kernel
theorem dig_long : dig [97, 98, 99, 100, 98, 99, 100, 101, 99, 100, 101, 102, 100, 101, 102, 103, 101, 102, 103, 104, 102, 103, 104, 105, 103, 104, 105, 106, 104, 105, 106, 107, 105, 106, 107, 108, 106, 107, 108, 109, 107, 108, 109, 110, 108, 109, 110, 111, 109, 110, 111, 112, 110, 111, 112, 113] = [0x84, 0x98, 0x3e, 0x44, 0x1c, 0x3b, 0xd2, 0x6e, 0xba, 0xae, 0x4a, 0xa1, 0xf9, 0x51, 0x29, 0xe5, 0xe5, 0x46, 0x70, 0xf1] := by decide +kernel

/-- The document's own spelling of the three ways, and of a round's first word. -/
theorem chs_minus (x y z : W32) : (x &&& y) ||| ((4294967295#32 - x) &&& z) = chs x y z := by
  have e : 4294967295#32 - x = ~~~x := by
    apply BitVec.eq_of_toNat_eq
    rw [BitVec.toNat_not, BitVec.toNat_sub]
    have h := x.isLt
    rw [show (4294967295#32).toNat = 4294967295 from rfl]
    omega
  rw [e, chs]
theorem sm5 (a b c d e : W32) : sm [a, b, c, d, e] = (a + b + c + d + e).toNat := by
  simp only [sm, smN, List.map_cons, List.map_nil, List.sum_cons, List.sum_nil, BitVec.toNat_add]
  omega
theorem sm2 (a b : W32) : sm [a, b] = (a + b).toNat := by
  simp only [sm, smN, List.map_cons, List.map_nil, List.sum_cons, List.sum_nil, BitVec.toNat_add]
  omega
end Sh
end Go.Proofs.Ytmjcmlaeajglmaa
