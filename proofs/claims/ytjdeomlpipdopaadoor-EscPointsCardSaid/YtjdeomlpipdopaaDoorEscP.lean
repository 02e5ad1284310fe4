/-
  Plain facts on references by numbers.
-/
import Derived.Test.YtjdeomlpipdopaaDoorEscW
import Derived.Test.YtjdeomlpipdopaaDoorHexP
namespace Go.Proofs.YtjdeomlpipdopaaDoor
open Go.RowKit
namespace Hx
open Tx Nmb Es
set_option linter.unusedVariables false
/-- A digit of great size. -/
def upc (q : Bool) (c : UInt8) : UInt8 := if q = true ∧ 97 ≤ c.toNat then c - 32 else c
theorem hxv_hx : ∀ j : Fin 16, hxv (hx j.val) = some j.val := by decide +kernel
theorem hxv_of (j : Nat) (h : j < 16) : hxv (hx j) = some j := hxv_hx ⟨j, h⟩
theorem hxv_up : ∀ (q : Bool) (j : Fin 16), hxv (upc q (hx j.val)) = some j.val ∧ (upc q (hx j.val)).toNat < 128 ∧ may ((upc q (hx j.val)).toNat : Int) = true ∧ upc q (hx j.val) ≠ 59 ∧ (upc q (hx j.val) = 48 → hx j.val = 48) := by decide +kernel
def isHx (c : UInt8) : Prop := ∃ j, j < 16 ∧ c = hx j
theorem two_hx (b c : UInt8) (h : c ∈ two b) : isHx c := by
  have := b.toNat_lt
  unfold two at h
  simp only [List.mem_cons, List.not_mem_nil, or_false] at h
  rcases h with rfl | rfl
  · exact ⟨_, by omega, rfl⟩
  · exact ⟨_, by omega, rfl⟩
theorem putL_hx (l : List UInt8) : ∀ c ∈ putL l, isHx c := by
  intro c h
  unfold putL at h
  rw [List.mem_flatMap] at h
  obtain ⟨b, _, hb⟩ := h
  exact two_hx b c hb
theorem up_hx {q : Bool} {c : UInt8} (h : isHx c) : hxv (upc q c) = hxv c ∧ (upc q c).toNat < 128 ∧ may ((upc q c).toNat : Int) = true ∧ upc q c ≠ 59 ∧ (upc q c = 48 → c = 48) := by
  obtain ⟨j, hj, rfl⟩ := h
  obtain ⟨h1, h2⟩ := hxv_up q ⟨j, hj⟩
  exact ⟨h1.trans (hxv_of j hj).symm, h2⟩
theorem fold_up (q : Bool) (l : List UInt8) (h : ∀ c ∈ l, isHx c) : ∀ a : Option Nat, (l.map (upc q)).foldl (fun a c => a.bind fun n => (hxv c).map fun d => 16 * n + d) a = l.foldl (fun a c => a.bind fun n => (hxv c).map fun d => 16 * n + d) a := by
  induction l with
  | nil => intro a; rfl
  | cons c l ih =>
    intro a
    rw [List.map_cons, List.foldl_cons, List.foldl_cons, (up_hx (h c (by simp))).1]
    exact ih (fun x hx => h x (by simp [hx])) _
/-- Without the zeros at the beginning. -/
def strip (l : List UInt8) : List UInt8 := l.dropWhile fun c => decide (c.toNat = 48)
theorem hexF_strip (l : List UInt8) : hexF (strip l) = hexF l := by
  induction l with
  | nil => rfl
  | cons c l ih =>
    unfold strip
    rw [List.dropWhile_cons]
    split
    · rename_i h
      have h48 : c = 48 := u8_eq (by simpa using h)
      subst h48
      have e : hexF (48 :: l) = hexF l := by
        unfold hexF
        rw [List.foldl_cons]
        rfl
      rw [e]
      exact ih
    · rfl
theorem strip_sub (l : List UInt8) : ∀ c ∈ strip l, c ∈ l := fun c h => (List.dropWhile_sublist _).mem h
theorem strip_len (l : List UInt8) : (strip l).length ≤ l.length := (List.dropWhile_sublist _).length_le
theorem strip_head (l : List UInt8) : (strip l).head? ≠ some 48 := by
  induction l with
  | nil => simp [strip]
  | cons c l ih =>
    unfold strip
    rw [List.dropWhile_cons]
    split
    · exact ih
    · rename_i h
      intro e
      rw [List.head?_cons] at e
      have : c = 48 := by simpa using e
      rw [this] at h
      exact h (by decide)
theorem hexF_three (a b c : UInt8) : hexF (putL [a, b, c]) = some (65536 * a.toNat + 256 * b.toNat + c.toNat) := by
  have ha := a.toNat_lt
  have hb := b.toNat_lt
  have hc := c.toNat_lt
  unfold hexF putL
  simp only [List.flatMap_cons, List.flatMap_nil, two, List.cons_append, List.nil_append, List.foldl_cons, List.foldl_nil, Option.bind_some,
    hxv_of (a.toNat / 16) (by omega), hxv_of (a.toNat % 16) (by omega), hxv_of (b.toNat / 16) (by omega), hxv_of (b.toNat % 16) (by omega), hxv_of (c.toNat / 16) (by omega), hxv_of (c.toNat % 16) (by omega), Option.map_some]
  congr 1
  omega
/-- The digits of a number, of any size, tell it. -/
theorem hexV_digits (q : Bool) (a b c : UInt8) (n : Nat) (hn : n = 65536 * a.toNat + 256 * b.toNat + c.toNat) (h1 : 1 ≤ n) : hexV ((strip (putL [a, b, c])).map (upc q)) = some n ∧ strip (putL [a, b, c]) ≠ [] := by
  have hx : ∀ x ∈ strip (putL [a, b, c]), isHx x := fun x h => putL_hx _ x (strip_sub _ x h)
  have hf : hexF (strip (putL [a, b, c])) = some n := by rw [hexF_strip, hexF_three, hn]
  have hne : strip (putL [a, b, c]) ≠ [] := by
    intro e
    rw [e] at hf
    have : (0 : Nat) = n := by
      have h0 : hexF [] = some 0 := rfl
      rw [h0] at hf
      simpa using hf
    omega
  refine ⟨?_, hne⟩
  rw [hexV_in]
  · have := fold_up q _ hx (some 0)
    unfold hexF at hf ⊢
    rw [this, hf]
  · intro e
    exact hne (List.map_eq_nil_iff.1 e)
  · rw [List.length_map]
    have h2 := strip_len (putL [a, b, c])
    rw [putL_length] at h2
    simp at h2
    omega
  · intro e
    have hh := strip_head (putL [a, b, c])
    cases hs : strip (putL [a, b, c]) with
    | nil => exact hne hs
    | cons y r =>
      rw [hs] at e hh
      rw [List.map_cons, List.head?_cons] at e
      have e2 : upc q y = 48 := by simpa using e
      exact hh (by rw [List.head?_cons, (up_hx (hx y (by rw [hs]; simp))).2.2.2.2 e2])
/-- A text of such bytes alone. -/
theorem pts_near (l : List UInt8) (h : ∀ c ∈ l, c.toNat < 128 ∧ may (c.toNat : Int) = true) : (pts l).isSome = true := by
  have e := encs_near l (fun c hc => (h c hc).1)
  rw [← e, pts_encs]
  · rfl
  · intro n hn
    obtain ⟨c, hc, rfl⟩ := List.mem_map.1 hn
    exact (h c hc).2
/-- What a reference by a number reads as. -/
theorem rd_num (x : List UInt8) (n : Nat) (h59 : (59 : UInt8) ∉ x) (hn : numL x = some n) : rd (38 :: 35 :: (x ++ [59])) = some (enc n) := by
  have hs : semi (35 :: (x ++ [59])) = some (35 :: x, []) := by
    have := semi_of (35 :: x) [] (by
      intro h
      rcases List.mem_cons.1 h with h | h
      · exact absurd h (by decide)
      · exact h59 h)
    exact this
  have hm : meantL (35 :: x) = some (enc n) := by
    unfold meantL
    rw [if_neg (by simp), if_neg (by simp), if_neg (by simp), if_neg (by simp), if_neg (by simp)]
    show (numL x).map enc = _
    rw [hn]
    rfl
  rw [rd_amp, hs]
  simp only [hm, rd_nil]
  simp
theorem rd_nonum (x : List UInt8) (h59 : (59 : UInt8) ∉ x) (hn : numL x = none) : rd (38 :: 35 :: (x ++ [59])) = none := by
  have hs : semi (35 :: (x ++ [59])) = some (35 :: x, []) := by
    have := semi_of (35 :: x) [] (by
      intro h
      rcases List.mem_cons.1 h with h | h
      · exact absurd h (by decide)
      · exact h59 h)
    exact this
  have hm : meantL (35 :: x) = none := by
    unfold meantL
    rw [if_neg (by simp), if_neg (by simp), if_neg (by simp), if_neg (by simp), if_neg (by simp)]
    show (numL x).map enc = _
    rw [hn]
    rfl
  rw [rd_amp, hs]
  simp only [hm]
/-- What a reference by a number is read as, in all. -/
theorem get_num (x : List UInt8) (n : Nat) (s : ByteArray) (hs : s = ⟨(38 :: 35 :: (x ++ [59])).toArray⟩) (hx : ∀ c ∈ x, c.toNat < 128 ∧ may (c.toNat : Int) = true) (hl : x.length ≤ 1000) (h59 : (59 : UInt8) ∉ x) (hn : numL x = if may (n : Int) then some n else none) :
    getR s = if may (n : Int) then (⟨(enc n).toArray⟩, 0) else (⟨#[]⟩, 80) := by
  subst hs
  have hz : (⟨(38 :: 35 :: (x ++ [59])).toArray⟩ : ByteArray).size ≤ 16384 := by
    show (38 :: 35 :: (x ++ [59])).length ≤ _
    simp
    omega
  have hc : chkE ⟨(38 :: 35 :: (x ++ [59])).toArray⟩ = 0 := by
    rw [chk_in hz]
    show (pts (38 :: 35 :: (x ++ [59]))).isSome = true
    refine pts_near _ fun c hc => ?_
    simp only [List.mem_cons, List.mem_append, List.not_mem_nil, or_false] at hc
    rcases hc with rfl | rfl | hc | rfl
    · decide
    · decide
    · exact hx c hc
    · decide
  unfold getR
  rw [if_neg (by simpa using hc)]
  show (match rd (38 :: 35 :: (x ++ [59])) with | some x => _ | none => _) = _
  cases hm : may (n : Int)
  · rw [hm] at hn
    rw [rd_nonum x h59 hn]
    rfl
  · rw [hm] at hn
    rw [rd_num x n h59 hn]
    rfl
theorem dg_ok (n : Nat) : ∀ c ∈ dg n, c.toNat < 128 ∧ may (c.toNat : Int) = true := by
  intro c hc
  have h := dg_all n
  rw [List.all_eq_true] at h
  have h1 := h c hc
  unfold isDg at h1
  rw [Bool.and_eq_true, decide_eq_true_eq, decide_eq_true_eq] at h1
  refine ⟨by omega, ?_⟩
  rw [may_high (by omega)]
  simp
  omega
theorem num_dg (n : Nat) (h : n < 16777216) : numL (dg n) = if may (n : Int) then some n else none := by
  rw [numL_d]
  · have : readN (dg n) = some n := (readN_iff _ _).2 ⟨rfl, by unfold most; omega⟩
    rw [this, Option.filter_some]
  · intro e
    cases hd : dg n with
    | nil => rw [hd] at e; cases e
    | cons y r =>
      rw [hd] at e
      have hy : y = 120 := by simpa using e
      have h1 := dg_all n
      rw [hd, List.all_cons, Bool.and_eq_true, hy] at h1
      exact absurd h1.1 (by decide)
theorem dg_59 (n : Nat) : (59 : UInt8) ∉ dg n := dg_not n 59 (by decide)
theorem num_hex (q : Bool) (a b c : UInt8) (n : Nat) (hn : n = 65536 * a.toNat + 256 * b.toNat + c.toNat) (h1 : 1 ≤ n) : numL (120 :: (strip (putL [a, b, c])).map (upc q)) = if may (n : Int) then some n else none := by
  rw [numL_x, (hexV_digits q a b c n hn h1).1, Option.filter_some]
theorem hex_ok (q : Bool) (l : List UInt8) : ∀ c ∈ (120 : UInt8) :: (strip (putL l)).map (upc q), c.toNat < 128 ∧ may (c.toNat : Int) = true ∧ c ≠ 59 := by
  intro c hc
  rcases List.mem_cons.1 hc with rfl | hc
  · decide
  · obtain ⟨y, hy, rfl⟩ := List.mem_map.1 hc
    obtain ⟨_, h2, h3, h4, _⟩ := up_hx (q := q) (putL_hx l y (strip_sub _ y hy))
    exact ⟨h2, h3, h4⟩
end Hx
end Go.Proofs.YtjdeomlpipdopaaDoor
