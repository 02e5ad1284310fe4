/-
  Texts of one seat, put together: LexW.
-/
import Derived.Test.YtichboamakgabaaGreatDoorG07
namespace Go.Proofs.YtichboamakgabaaGreatDoor
open Go.RowKit
namespace Hx
open Lx Tx Nmb Es
set_option linter.unusedVariables false
/-- What stands behind a tag's name, from here on. -/
def tagG (acc : List Pr) (l : List UInt8) : Option (Bool × List Pr × List UInt8) := tagF (l.length + 1) acc l
def tagAt (l : List UInt8) (p : Nat) : Nat := p + ((l.drop p).takeWhile blk).length
theorem tagG_at (l : List UInt8) (p : Nat) (acc : List Pr) : tagG acc (l.drop p) = match l.drop (tagAt l p) with
    | [] => none
    | c :: x => if c = 62 then some (false, acc, x) else if c = 47 ∧ x.head? = some 62 then some (true, acc, x.tail) else
      match attrL (c :: x) with
      | none => none
      | some (pr, y) => if p = tagAt l p ∨ hasL acc pr.name = true then none else tagG (acc ++ [pr]) y := by
  conv => lhs; unfold tagG tagF
  rw [dw_drop]
  show (match l.drop (tagAt l p) with | [] => _ | c :: x => _) = _
  cases hd : l.drop (tagAt l p) with
  | nil => rfl
  | cons c x =>
    dsimp only
    by_cases h1 : c = 62
    · rw [if_pos h1, if_pos h1]
    · rw [if_neg h1, if_neg h1]
      by_cases h2 : c = 47 ∧ x.head? = some 62
      · rw [if_pos h2, if_pos h2]
      · rw [if_neg h2, if_neg h2]
        cases ha : attrL (c :: x) with
        | none => rfl
        | some q =>
          obtain ⟨pr, y⟩ := q
          dsimp only
          have hy := attrL_len ha
          have hl := congrArg List.length hd
          rw [List.length_drop] at hl
          have hlen : ((l.drop p).length = (c :: x).length) ↔ p = tagAt l p := by
            rw [← hd, List.length_drop, List.length_drop]
            have : l.length ≠ 0 := by intro e; rw [e] at hl; simp at hl
            have h3 : tagAt l p < l.length := by rw [List.length_cons] at hl; omega
            have h4 : p ≤ tagAt l p := by unfold tagAt; omega
            omega
          have hq : tagF (l.drop p).length (acc ++ [pr]) y = tagF (y.length + 1) (acc ++ [pr]) y := by
            refine tagF_same _ _ _ _ ?_ (Nat.lt_succ_self _)
            rw [List.length_drop]
            have h4 : p ≤ tagAt l p := by unfold tagAt; omega
            rw [List.length_cons] at hl hy
            omega
          by_cases h3 : p = tagAt l p ∨ hasL acc pr.name = true
          · rw [if_pos h3, if_pos (h3.imp hlen.2 id)]
          · rw [if_neg h3, if_neg (fun h4 => h3 (h4.imp hlen.1 id))]
            exact hq
theorem tagG_shut {l : List UInt8} {p q : Nat} {acc : List Pr} (hq : tagAt l p = q) (h : q < l.length) (h1 : l[q]'h = 62) : tagG acc (l.drop p) = some (false, acc, l.drop (q + 1)) := by
  rw [tagG_at, hq, List.drop_eq_getElem_cons h]
  dsimp only
  rw [if_pos h1]
theorem tagG_bare {l : List UInt8} {p q : Nat} {acc : List Pr} (hq : tagAt l p = q) (h : q + 1 < l.length) (h1 : l[q]'(by omega) = 47) (h2 : l[q + 1]'h = 62) : tagG acc (l.drop p) = some (true, acc, l.drop (q + 2)) := by
  rw [tagG_at, hq, List.drop_eq_getElem_cons (show q < l.length by omega)]
  dsimp only
  rw [if_neg (by rw [h1]; decide), if_pos ⟨h1, by rw [List.drop_eq_getElem_cons h, h2]; rfl⟩, List.drop_eq_getElem_cons h]
  rfl
/-- Neither of the two ends stands here. -/
def noEnd (l : List UInt8) (q : Nat) : Prop := ∀ c x, l.drop q = c :: x → c ≠ 62 ∧ ¬ (c = 47 ∧ x.head? = some 62)
theorem noEnd_of {l : List UInt8} {q : Nat} (h1 : ∀ h : q < l.length, l[q]'h ≠ 62) (h2 : ∀ h : q + 1 < l.length, l[q]'(by omega) = 47 → l[q + 1]'h ≠ 62) : noEnd l q := by
  intro c x e
  have hq : q < l.length := by
    have := congrArg List.length e
    rw [List.length_drop, List.length_cons] at this
    omega
  rw [List.drop_eq_getElem_cons hq] at e
  obtain ⟨e1, e2⟩ := List.cons.inj e
  refine ⟨by rw [← e1]; exact h1 hq, ?_⟩
  rintro ⟨e3, e4⟩
  by_cases hq1 : q + 1 < l.length
  · rw [← e2, List.drop_eq_getElem_cons hq1] at e4
    exact h2 hq1 (e1.trans e3) (Option.some.inj e4)
  · rw [← e2, List.drop_of_length_le (by omega)] at e4
    cases e4
theorem tagG_none {l : List UInt8} {p q : Nat} {acc : List Pr} (hq : tagAt l p = q) (hn : noEnd l q) (ha : attrL (l.drop q) = none) : tagG acc (l.drop p) = none := by
  rw [tagG_at, hq]
  cases hd : l.drop q with
  | nil => rfl
  | cons c x =>
    obtain ⟨n1, n2⟩ := hn c x hd
    dsimp only
    rw [if_neg n1, if_neg n2, ← hd, ha]
theorem tagG_bad {l y : List UInt8} {p q : Nat} {acc : List Pr} {pr : Pr} (hq : tagAt l p = q) (hn : noEnd l q) (ha : attrL (l.drop q) = some (pr, y)) (hb : p = q ∨ hasL acc pr.name = true) : tagG acc (l.drop p) = none := by
  rw [tagG_at, hq]
  cases hd : l.drop q with
  | nil => rfl
  | cons c x =>
    obtain ⟨n1, n2⟩ := hn c x hd
    dsimp only
    rw [if_neg n1, if_neg n2, ← hd, ha]
    dsimp only
    rw [if_pos hb]
theorem tagG_next {l y : List UInt8} {p q : Nat} {acc : List Pr} {pr : Pr} (hq : tagAt l p = q) (hn : noEnd l q) (ha : attrL (l.drop q) = some (pr, y)) (hb : p ≠ q) (hb2 : hasL acc pr.name = false) : tagG acc (l.drop p) = tagG (acc ++ [pr]) y := by
  rw [tagG_at, hq]
  cases hd : l.drop q with
  | nil => rw [hd] at ha; cases ha
  | cons c x =>
    obtain ⟨n1, n2⟩ := hn c x hd
    dsimp only
    rw [if_neg n1, if_neg n2, ← hd, ha]
    dsimp only
    rw [if_neg (by rw [not_or, hb2]; exact ⟨hb, by simp⟩)]
theorem tagL_of {l : List UInt8} {a : Nat} (h47 : (l.drop a).head? ≠ some 47) (hw : wordL (l.drop a) ≠ []) : tagL (l.drop a) = (tagG [] (l.drop (a + (wordL (l.drop a)).length))).map fun p => (⟨if p.1 then 3 else 1, wordL (l.drop a), p.2.1, []⟩, p.2.2) := by
  unfold tagL
  rw [if_neg h47, if_neg hw, List.drop_drop]
  unfold tagG
  rw [tagF_same _ ((l.drop (a + (wordL (l.drop a)).length)).length + 1) _ _ ?_ (Nat.lt_succ_self _)]
  rw [List.length_drop, List.length_drop]
  omega
theorem tagL_of0 {l : List UInt8} (h47 : l.head? ≠ some 47) (hw : wordL l = []) : tagL l = none := by unfold tagL; rw [if_neg h47, if_pos hw]
theorem tagL_of47 {l : List UInt8} {a : Nat} (h : a < l.length) (h47 : l[a]'h = 47) : tagL (l.drop a) = shutL (l.drop (a + 1)) := by
  unfold tagL
  rw [List.drop_eq_getElem_cons h, h47, if_pos (show (47 :: List.drop (a + 1) l).head? = some 47 from rfl)]
  rfl
/-- Attributes as the program holds them. -/
abbrev PB := ByteArray × ByteArray
def prCells (p : PB) : List Value := [.string p.1, .string p.2]
def prVal (p : PB) : Pr := ⟨p.1.data.toList, p.2.data.toList⟩
theorem prCells_R (w : World) (B : Nat) (p : PB) : PrC.R w B (prCells p) (prVal p) := ⟨p.1, p.2, rfl, rfl, rfl⟩
theorem own_attrs {w : World} {base : Nat} {A : Option Addr} {n c : Nat} {l : List PB} (h : w.ownsRow base 35 2 (.slice A n c) n (l.flatMap prCells)) : RdC PrC w w.heap.size A (l.map prVal) ∧ l.length = n ∧ n ≤ c ∧ c ≤ maxLen ∧ (A = none → c = 0) :=
  RdC.of_own (C := PrC) prCells prVal (fun _ => rfl) (by decide) l (fun b _ => prCells_R _ _ b) h
/-- A token whose attributes lie in new memory. -/
def TkR (B : Nat) (w : World) (cs : Array Value) (t : Tk) : Prop := TkC.R w w.heap.size cs.toList t ∧ ∀ A n c, cs[2]? = some (.slice A n c) → ∀ ad, A = some ad → B ≤ ad.block
/-- What tag answers. -/
def TagTo (s : ByteArray) (a : Nat) (w : World) (e : Ending) (w' : World) : Prop := Below w.heap.size w w' ∧
  ((tagL (s.data.toList.drop (a + 1)) = none ∧ e = .returned (.tuple #[.agg #[.int .u8 0, .string ⟨#[]⟩, .slice none 0 0, .string ⟨#[]⟩], .int .i64 (-1)])) ∨
   (∃ (cs : Array Value) (t : Tk) (n : Nat), tagL (s.data.toList.drop (a + 1)) = some (t, s.data.toList.drop n) ∧ n ≤ s.size ∧ TkR w.heap.size w' cs t ∧ e = .returned (.tuple #[.agg cs, .int .i64 n])))
theorem attrL_suffix {l r : List UInt8} {p : Pr} (h : attrL l = some (p, r)) : ∃ k, k ≤ l.length ∧ r = l.drop k := by
  obtain ⟨g1, g2, x, rfl, _, _, _, h4⟩ := (attrL_iff _ _ _).1 h
  obtain ⟨q, raw, rfl, _⟩ := (valL_iff _ _ _).1 h4
  refine ⟨(p.name ++ (g1 ++ 61 :: (g2 ++ q :: (raw ++ [q])))).length, by simp <;> omega, ?_⟩
  have e : p.name ++ (g1 ++ 61 :: (g2 ++ q :: (raw ++ q :: r))) = (p.name ++ (g1 ++ 61 :: (g2 ++ q :: (raw ++ [q])))) ++ r := by simp
  rw [e, List.drop_left]
theorem drop_same {l : List UInt8} {n m : Nat} (hn : n ≤ l.length) (hm : m ≤ l.length) (h : l.drop n = l.drop m) : n = m := by
  have := congrArg List.length h
  rw [List.length_drop, List.length_drop] at this
  omega
theorem rattr_none (s : ByteArray) (a : Nat) (w : World) (hm : s.size ≤ 1000000) (ha : a ≤ s.size) (h : attrL (s.data.toList.drop a) = none) :
    Calls Tryz.prog 65 #[.string s, .int .i64 a] w fun e w' => e = .returned (.tuple #[.agg #[.string ⟨#[]⟩, .string ⟨#[]⟩], .int .i64 (-1)]) ∧ Below w.heap.size w w' :=
  (rattr9 s a w hm ha).mono fun e w' hp => by
    obtain ⟨hb, ⟨_, h2⟩ | ⟨x, y, n, h1, _⟩⟩ := hp
    · exact ⟨h2, hb⟩
    · rw [h] at h1; cases h1
theorem rattr_some (s : ByteArray) (a : Nat) (w : World) (hm : s.size ≤ 1000000) (ha : a ≤ s.size) (x y : ByteArray) (n : Nat) (hn : n ≤ s.size) (h : attrL (s.data.toList.drop a) = some (⟨x.data.toList, y.data.toList⟩, s.data.toList.drop n)) :
    Calls Tryz.prog 65 #[.string s, .int .i64 a] w fun e w' => e = .returned (.tuple #[.agg #[.string x, .string y], .int .i64 n]) ∧ Below w.heap.size w w' :=
  (rattr9 s a w hm ha).mono fun e w' hp => by
    obtain ⟨hb, ⟨h1, _⟩ | ⟨x', y', n', h1, hn', h2⟩⟩ := hp
    · rw [h] at h1; cases h1
    · rw [h] at h1
      obtain ⟨e1, e2⟩ := (Prod.mk.injEq _ _ _ _).mp (Option.some.inj h1)
      injection e1 with e3 e4
      have e5 := drop_same (by rw [ba_l]; exact hn) (by rw [ba_l]; exact hn') e2
      subst e5
      rw [ba_x e3, ba_x e4]
      exact ⟨h2, hb⟩
theorem rshut_none (s : ByteArray) (a : Nat) (w : World) (hm : s.size ≤ 1000000) (ha : a + 2 ≤ s.size) (h : shutL (s.data.toList.drop (a + 2)) = none) :
    Calls Tryz.prog 62 #[.string s, .int .i64 a] w fun e w' => e = .returned (.tuple #[.agg #[.int .u8 0, .string ⟨#[]⟩, .slice none 0 0, .string ⟨#[]⟩], .int .i64 (-1)]) ∧ Below w.heap.size w w' :=
  (rshut9 s a w hm ha).mono fun e w' hp => by
    obtain ⟨hb, ⟨_, h2⟩ | ⟨x, n, h1, _⟩⟩ := hp
    · exact ⟨h2, hb⟩
    · rw [h] at h1; cases h1
theorem rshut_some (s : ByteArray) (a : Nat) (w : World) (hm : s.size ≤ 1000000) (ha : a + 2 ≤ s.size) (x : ByteArray) (n : Nat) (hn : n ≤ s.size) (h : shutL (s.data.toList.drop (a + 2)) = some (⟨2, x.data.toList, [], []⟩, s.data.toList.drop n)) :
    Calls Tryz.prog 62 #[.string s, .int .i64 a] w fun e w' => e = .returned (.tuple #[.agg #[.int .u8 2, .string x, .slice none 0 0, .string ⟨#[]⟩], .int .i64 n]) ∧ Below w.heap.size w w' :=
  (rshut9 s a w hm ha).mono fun e w' hp => by
    obtain ⟨hb, ⟨h1, _⟩ | ⟨x', n', h1, hn', h2⟩⟩ := hp
    · rw [h] at h1; cases h1
    · rw [h] at h1
      obtain ⟨e1, e2⟩ := (Prod.mk.injEq _ _ _ _).mp (Option.some.inj h1)
      injection e1 with _ e3 _ _
      have e5 := drop_same (by rw [ba_l]; exact hn) (by rw [ba_l]; exact hn') e2
      subst e5
      rw [ba_x e3]
      exact ⟨h2, hb⟩
theorem rword9T (s : ByteArray) (a : Nat) (w : World) (hm : s.size ≤ 1000000) (ha : a + 1 ≤ s.size) (t : ByteArray) (h : t.data.toList = wordL (s.data.toList.drop (a + 1))) :
    Calls Tryz.prog 63 #[.string s, .int .i64 ((a : Int) + 1)] w fun e w' => e = .returned (.string t) ∧ Below w.heap.size w w' := rword9 s (a + 1) w hm ha t h
theorem TkC_plain (w : World) (k : Nat) (hk : k < 256) (x : ByteArray) : TkC.R w w.heap.size (#[Value.int .u8 (k : Int), .string x, .slice none 0 0, .string ⟨#[]⟩] : Array Value).toList ⟨k, x.data.toList, [], []⟩ :=
  ⟨x, none, 0, ⟨#[]⟩, rfl, hk, rfl, rfl, Nat.le_refl _, Nat.zero_le _, fun _ => rfl, RdC.nil _ _ _⟩
theorem TkR_plain (B : Nat) (w : World) (k : Nat) (hk : k < 256) (x : ByteArray) : TkR B w #[Value.int .u8 (k : Int), .string x, .slice none 0 0, .string ⟨#[]⟩] ⟨k, x.data.toList, [], []⟩ :=
  ⟨TkC_plain w k hk x, fun A n c h ad e => by
    have h' : Value.slice none 0 0 = .slice A n c := Option.some.inj h
    injection h' with h1 _ _
    rw [← h1] at e
    cases e⟩
set_option maxHeartbeats 2000000 in
set_option maxRecDepth 100000 in
theorem rtag_shut (s : ByteArray) (a : Nat) (w : World) (hm : s.size ≤ 1000000) (ha : a + 1 < s.size) (h47 : (s[a + 1]'ha).toNat = 47) : Calls Tryz.prog 47 #[.string s, .int .i64 a] w (TagTo s a w) := by
  have HM := Lib.hid hm
  have HA2 : Hid (a + 2 ≤ s.size) := Lib.hid (by omega)
  obtain ⟨c, hc⟩ : ∃ c, s[a + 1]'ha = c := ⟨_, rfl⟩
  have hca : ∀ h, s[a + 1]'h = c := fun _ => hc
  have hal : a + 1 < s.data.toList.length := by rw [ba_l]; exact ha
  have hck : s.data.toList[a + 1]'hal = c := (at_l s (a + 1) ha).trans hc
  rw [hc] at h47
  have e47 : c = 47 := UInt8.toNat_inj.1 h47
  have f47 : ((c.toNat : Int) == 47) = true := by simp; omega
  have dA : decide ((a : Int) + 1 < (s.size : Int)) = true := decide_eq_true (by omega)
  have bA : (0 : Int) ≤ (a : Int) + 1 ∧ (a : Int) + 1 < (s.size : Int) := by omega
  have HX : Hid (tagL (s.data.toList.drop (a + 1)) = shutL (s.data.toList.drop (a + 2))) := Lib.hid (tagL_of47 hal (hck.trans e47))
  clear hck hc e47 h47
  cases hs : shutL (s.data.toList.drop (a + 2)) with
  | none =>
    have HS := Lib.hid hs
    have HN : Hid (tagL (s.data.toList.drop (a + 1)) = none) := Lib.hid (HX.out.trans hs)
    clear hs
    go_enter Tryz.func47, Tryz.ntmps47
    go_wp2_with (first
      | (go_at_call 62; (with_reducible refine (rshut_none s a _ HM.out HA2.out HS.out).mono ?_); rintro e w1 ⟨rfl, hb1⟩; have HG1 := Lib.hid (kept_heap (heap_alloc_new w (.cells zTk 32)) hb1); have HB1 := Lib.hid (stp (stpA (Below.refl w.heap.size w) (.cells zTk 32)) hb1); clear hb1)
      | (refine wpList_store_row rfl _ _ _ rfl w.heap.size #[.int .u8 0, .string ⟨#[]⟩, .slice none 0 0, .string ⟨#[]⟩] rfl rfl 32 zTk HG1.out sizeTk rfl (oneTk _ _ _ _) ?_)
      | fail)
    exact bodyPost_ret (v := .tuple #[.agg #[.int .u8 0, .string ⟨#[]⟩, .slice none 0 0, .string ⟨#[]⟩], .int .i64 (-1)]) (rcell2 (p := 4) (q := 5) rfl _ _ _ _ #[.int .u8 0, .string ⟨#[]⟩, .slice none 0 0, .string ⟨#[]⟩] _ _ rfl (setRow_heap _ _ _ #[.int .u8 0, .string ⟨#[]⟩, .slice none 0 0, .string ⟨#[]⟩] _ _ HG1.out) Tryz.underlying32 rfl sizeTk) rfl ⟨below_setRowV HB1.out (Nat.le_refl _) _, .inl ⟨HN.out, rfl⟩⟩
  | some r =>
    obtain ⟨t, y⟩ := r
    obtain ⟨g, e1, e2, _, e3⟩ := (shutL_iff _ _ _).1 hs
    obtain ⟨x, hx⟩ : ∃ x : ByteArray, x.data.toList = t.name := ⟨⟨t.name.toArray⟩, rfl⟩
    obtain ⟨n, hn, hy⟩ : ∃ n, n ≤ s.size ∧ y = s.data.toList.drop n := by
      have := congrArg List.length e1
      rw [List.length_drop, ba_l] at this
      simp only [List.length_append, List.length_cons] at this
      refine ⟨a + 2 + (t.name ++ (g ++ [62])).length, by simp only [List.length_append, List.length_cons, List.length_nil]; omega, ?_⟩
      rw [← List.drop_drop, e1, show t.name ++ (g ++ 62 :: y) = (t.name ++ (g ++ [62])) ++ y by simp, List.drop_left]
    rw [e3, ← hx, hy] at hs
    have HS := Lib.hid hs
    have HNN := Lib.hid hn
    have HT : Hid (tagL (s.data.toList.drop (a + 1)) = some (⟨2, x.data.toList, [], []⟩, s.data.toList.drop n)) := Lib.hid (HX.out.trans hs)
    clear hs e1 e2 e3 hx hy hn
    go_enter Tryz.func47, Tryz.ntmps47
    go_wp2_with (first
      | (go_at_call 62; (with_reducible refine (rshut_some s a _ HM.out HA2.out x n HNN.out HS.out).mono ?_); rintro e w1 ⟨rfl, hb1⟩; have HG1 := Lib.hid (kept_heap (heap_alloc_new w (.cells zTk 32)) hb1); have HB1 := Lib.hid (stp (stpA (Below.refl w.heap.size w) (.cells zTk 32)) hb1); clear hb1)
      | (refine wpList_store_row rfl _ _ _ rfl w.heap.size #[.int .u8 2, .string x, .slice none 0 0, .string ⟨#[]⟩] rfl rfl 32 zTk HG1.out sizeTk rfl (oneTk _ _ _ _) ?_)
      | fail)
    exact bodyPost_ret (v := .tuple #[.agg #[.int .u8 2, .string x, .slice none 0 0, .string ⟨#[]⟩], .int .i64 (n : Int)]) (rcell2 (p := 4) (q := 5) rfl _ _ _ _ #[.int .u8 2, .string x, .slice none 0 0, .string ⟨#[]⟩] _ _ rfl (setRow_heap _ _ _ #[.int .u8 2, .string x, .slice none 0 0, .string ⟨#[]⟩] _ _ HG1.out) Tryz.underlying32 rfl sizeTk) rfl ⟨below_setRowV HB1.out (Nat.le_refl _) _, .inr ⟨_, _, n, HT.out, HNN.out, TkR_plain _ _ 2 (by decide) x, rfl⟩⟩
/-- The tag as it is made: its variable, its attributes. -/
def TagSt (t : ByteArray) (R g : Nat) (w : World) (L : List PB) (v : Value) (wr : World) : Prop :=
  wr.heap[g]? = some (.cells #[.int .u8 1, .string t, v, .string ⟨#[]⟩] 32 (0, 0)) ∧ wr.ownsRow (g + 1) 35 2 v L.length (L.flatMap prCells) ∧ wr.heap[R]? = some (.cells zTk 32 (0, 0)) ∧ Below w.heap.size w wr
theorem cellV (w : World) (g k : Nat) (cs : Array Value) (t : TypeId) (fr : Nat × Nat) (h : w.heap[g]? = some (.cells cs t fr)) : w.cell? ⟨g, k, none⟩ = cs[k]? := by simp [World.cell?, h]
theorem freeV (w : World) (g k : Nat) (cs : Array Value) (t : TypeId) (h : w.heap[g]? = some (.cells cs t (0, 0))) : w.frozen? ⟨g, k, none⟩ = false := by simp [World.frozen?, h]
theorem own_setRow {w : World} {base : Nat} {e : TypeId} {size : Nat} {v : Value} {n : Nat} {xs : List Value} (h : w.ownsRow base e size v n xs) (R : Nat) (hR : R < base) (cs : Array Value) : (w.setRow R cs).ownsRow base e size v n xs := by
  refine ⟨h.1, ?_⟩
  rcases h.2 with h0 | ⟨g, cap, cur, hv, hb, hg, rest⟩
  · exact .inl h0
  · exact .inr ⟨g, cap, cur, hv, hb, (setRow_other w R g cs (by omega)).trans hg, rest⟩
theorem infoPr : (Tryz.prog.info? 35).map (fun i => (i.zero, i.size, i.bytes)) = some (some (.agg #[.string ⟨#[]⟩, .string ⟨#[]⟩]), 2, 32) := by kernel_rfl
theorem own_form2 {w : World} {base : Nat} {e : TypeId} {size : Nat} {v : Value} {n : Nat} {xs : List Value} (h : w.ownsRow base e size v n xs) : ∃ A c, v = .slice A n c := by
  rcases h.2 with ⟨rfl, rfl⟩ | ⟨g, cap, cur, rfl, _⟩
  · exact ⟨none, 0, rfl⟩
  · exact ⟨_, cap, rfl⟩
theorem TkC_made {w : World} {g : Nat} {L : List PB} {v : Value} (k : Nat) (hk : k < 256) (t : ByteArray) (h : w.ownsRow (g + 1) 35 2 v L.length (L.flatMap prCells)) :
    TkC.R w w.heap.size (#[Value.int .u8 (k : Int), .string t, v, .string ⟨#[]⟩] : Array Value).toList ⟨k, t.data.toList, L.map prVal, []⟩ := by
  obtain ⟨A, c, rfl⟩ := own_form2 h
  obtain ⟨h1, h2, h3, h4, h5⟩ := own_attrs h
  exact ⟨t, A, c, ⟨#[]⟩, by simp, hk, rfl, rfl, by simpa using h3, h4, h5, h1⟩
theorem TkC_set {w : World} {g R : Nat} {L : List PB} {v : Value} {cs : Array Value} (h : w.ownsRow (g + 1) 35 2 v L.length (L.flatMap prCells)) (hR : R < g) (k : Nat) (hk : k < 256) (t : ByteArray) :
    TkC.R (w.setRow R cs) (w.setRow R cs).heap.size (#[Value.int .u8 (k : Int), .string t, v, .string ⟨#[]⟩] : Array Value).toList ⟨k, t.data.toList, L.map prVal, []⟩ := TkC_made k hk t (own_setRow h R (by omega) cs)
theorem TkR_set {w : World} {B g R : Nat} {L : List PB} {A : Option Addr} {c : Nat} {cs : Array Value} (h : w.ownsRow (g + 1) 35 2 (.slice A L.length c) L.length (L.flatMap prCells)) (hR : R < g) (hB : B ≤ R) (k : Nat) (hk : k < 256) (t : ByteArray) :
    TkR B (w.setRow R cs) #[Value.int .u8 (k : Int), .string t, .slice A L.length c, .string ⟨#[]⟩] ⟨k, t.data.toList, L.map prVal, []⟩ := by
  refine ⟨TkC_set h hR k hk t, fun A' n c' e ad e2 => ?_⟩
  have h' : Value.slice A L.length c = .slice A' n c' := Option.some.inj e
  injection h' with h1 _ _
  rcases h.2 with ⟨h3, _⟩ | ⟨g', cap, cur, hv, hb, _⟩
  · injection h3 with h3 _ _
    rw [← h1, h3] at e2
    cases e2
  · injection hv with h3 _ _
    rw [← h1, h3] at e2
    injection e2 with e2
    rw [← e2]
    show B ≤ g'
    omega
theorem own_belowK {w w' : World} {B base : Nat} {e : TypeId} {size : Nat} {v : Value} {n : Nat} {xs : List Value} (h : w.ownsRow base e size v n xs) (hb : Below B w w') (hB : w.heap.size ≤ B) : w'.ownsRow base e size v n xs := by
  refine h.kept (row := none) ⟨hb.os, hb.tape, hb.output, hb.size, fun k hk _ => hb.block k (by omega)⟩ ?_
  cases v.ownBlock
  · exact .inl rfl
  · exact .inr (by simp)
theorem new_at (w : World) (cs : List Value) (t : TypeId) (B : Nat) (hB : w.heap.size = B) : ∀ (j : Nat) (u : Value), cs[j]? = some u → (w.alloc (.cells cs.toArray t)).cell? ((⟨B, 0, none⟩ : Addr).add j) = some u := fun j u h => by
  subst hB
  rw [addr_plain, World.cell?_alloc_new]
  simpa using h
theorem set_other (w : World) (g k b : Nat) (x : Value) (h : b ≠ g) : (w.setCell ⟨g, k, none⟩ x).heap[b]? = w.heap[b]? := by
  unfold World.setCell
  dsimp only
  rw [Array.getElem?_modify, if_neg (fun e => h e.symm)]
theorem own_setCell {w : World} {base : Nat} {e : TypeId} {size : Nat} {v : Value} {n : Nat} {xs : List Value} (h : w.ownsRow base e size v n xs) (R k : Nat) (hR : R < base) (x : Value) : (w.setCell ⟨R, k, none⟩ x).ownsRow base e size v n xs := by
  refine ⟨h.1, ?_⟩
  rcases h.2 with h0 | ⟨g, cap, cur, hv, hb, hg, rest⟩
  · exact .inl h0
  · exact .inr ⟨g, cap, cur, hv, hb, (set_other w R k g x (by omega)).trans hg, rest⟩
theorem two_at {l : List UInt8} {q : Nat} (h : q + 1 < l.length) : (l.drop q).take 2 = [l[q]'(by omega), l[q + 1]'h] := by
  rw [List.drop_eq_getElem_cons (show q < l.length by omega), List.drop_eq_getElem_cons h]
  rfl
theorem attrL_few {l : List UInt8} (h : l.length < 3) : attrL l = none := by
  cases ha : attrL l with
  | none => rfl
  | some r =>
    have := attrL_len (p := r.1) (r := r.2) ha
    omega
set_option maxHeartbeats 16000000 in
set_option maxRecDepth 100000 in
theorem rtag_open (s : ByteArray) (a : Nat) (w : World) (hm : s.size ≤ 1000000) (ha : a < s.size) (h47 : ∀ h : a + 1 < s.size, (s[a + 1]'h).toNat ≠ 47) : Calls Tryz.prog 47 #[.string s, .int .i64 a] w (TagTo s a w) := by
  obtain ⟨i0, hi, hz0, hz1, hz2⟩ := info_parts infoPr
  have HI := Lib.hid hi
  have HZ0 := Lib.hid hz0
  have HZ1 := Lib.hid hz1
  have HZ2 := Lib.hid hz2
  clear hi hz0 hz1 hz2
  have HM := Lib.hid hm
  have HA1 : Hid (a + 1 ≤ s.size) := Lib.hid (by omega)
  have hd47 : (s.data.toList.drop (a + 1)).head? ≠ some 47 := by
    by_cases h : a + 1 < s.size
    · rw [List.drop_eq_getElem_cons (show a + 1 < s.data.toList.length by rw [ba_l]; exact h)]
      intro e
      have e1 := Option.some.inj e
      rw [at_l s (a + 1) h] at e1
      exact h47 h (by rw [e1]; rfl)
    · rw [List.drop_of_length_le (by rw [ba_l]; omega)]
      simp
  obtain ⟨t, ht⟩ : ∃ t : ByteArray, t.data.toList = wordL (s.data.toList.drop (a + 1)) := ⟨⟨(wordL (s.data.toList.drop (a + 1))).toArray⟩, rfl⟩
  have HT := Lib.hid ht
  have hte := empty_l t
  have htl := ba_l t
  have hwl : t.size = (wordL (s.data.toList.drop (a + 1))).length := by rw [← ht, htl]
  have hwd2 : t.size ≤ s.size - (a + 1) := by
    by_cases hw : wordL (s.data.toList.drop (a + 1)) = []
    · rw [hwl, hw]; simp
    · have := congrArg List.length (wordL_ne hw).2.1
      rw [List.length_append, List.length_drop, ← hwl, ba_l] at this
      omega
  have H47 := Lib.hid h47
  have HD47 := Lib.hid hd47
  obtain ⟨p0, hp0⟩ : ∃ p0, a + 1 + t.size = p0 := ⟨_, rfl⟩
  have e1 : (a : Int) + 1 + (t.size : Int) = (p0 : Int) := by omega
  have b0 : (0 : Int) ≤ (p0 : Int) ∧ (p0 : Int) ≤ 9223372036854775807 := by omega
  have HP0 := Lib.hid hp0
  have HPS : Hid (p0 ≤ s.size) := Lib.hid (by omega)
  have HWL := Lib.hid hwl
  clear h47 hd47 ht hp0 hwl hwd2 htl
  by_cases h0 : t.size = 0
  · have HN : Hid (tagL (s.data.toList.drop (a + 1)) = none) := Lib.hid (tagL_of0 HD47.out (by rw [← HT.out]; exact List.eq_nil_of_length_eq_zero ((ba_l t).trans h0)))
    rw [decide_eq_true h0] at hte
    clear h0
    by_cases hA : a + 1 < s.size
    · have dA : decide ((a : Int) + 1 < (s.size : Int)) = true := decide_eq_true (by omega)
      have bA : (0 : Int) ≤ (a : Int) + 1 ∧ (a : Int) + 1 < (s.size : Int) := by omega
      obtain ⟨c, hc⟩ : ∃ c, s[a + 1]'hA = c := ⟨_, rfl⟩
      have hca : ∀ h, s[a + 1]'h = c := fun _ => hc
      have f47 : ((c.toNat : Int) == 47) = false := by have := H47.out hA; rw [hc] at this; simp; omega
      clear hc
      go_enter Tryz.func47, Tryz.ntmps47
      go_wp2_with (first
        | (go_at_call 63; (with_reducible refine (rword9T s a _ HM.out HA1.out t HT.out).mono ?_); rintro e w1 ⟨rfl, hb1⟩; have HG1 := Lib.hid (kept_heap (heap_alloc_new w (.cells zTk 32)) hb1); have HB1 := Lib.hid (stp (stpA (Below.refl w.heap.size w) (.cells zTk 32)) hb1); have HR1 := Lib.hid (Nat.lt_of_lt_of_le (lt_heap (heap_alloc_new w (.cells zTk 32))) hb1.size); clear hb1)
        | (refine wpList_store_row rfl _ _ _ rfl w1.heap.size #[.int .u8 1, .string t, .slice none 0 0, .string ⟨#[]⟩] rfl rfl 32 zTk (heap_alloc_new _ _) sizeTk rfl (oneTk _ _ _ _) ?_; rw [World.setRow_alloc_new])
        | fail)
      go_loopw [] (fun wr => (w1.alloc (.cells #[.int .u8 1, .string t, .slice none 0 0, .string ⟨#[]⟩] 32)) = wr) (fun _ => 0)
      case atStart => rfl
      case round =>
        obtain rfl := hrel
        go_wp2_with (first
          | (refine wpList_store_row rfl _ _ _ rfl w.heap.size #[.int .u8 0, .string ⟨#[]⟩, .slice none 0 0, .string ⟨#[]⟩] rfl rfl 32 zTk (kept_heap HG1.out (stpA (Below.refl w1.heap.size w1) _)) sizeTk rfl (oneTk _ _ _ _) ?_)
          | fail)
        exact bodyPost_ret (v := .tuple #[.agg #[.int .u8 0, .string ⟨#[]⟩, .slice none 0 0, .string ⟨#[]⟩], .int .i64 (-1)]) (rcell2 (p := 4) (q := 5) rfl _ _ _ _ #[.int .u8 0, .string ⟨#[]⟩, .slice none 0 0, .string ⟨#[]⟩] _ _ rfl (setRow_heap _ _ _ #[.int .u8 0, .string ⟨#[]⟩, .slice none 0 0, .string ⟨#[]⟩] _ _ (kept_heap HG1.out (stpA (Below.refl w1.heap.size w1) _))) Tryz.underlying32 rfl sizeTk) rfl ⟨below_setRowV (stpA HB1.out _) (Nat.le_refl _) _, .inl ⟨HN.out, rfl⟩⟩
    · have dA : decide ((a : Int) + 1 < (s.size : Int)) = false := decide_eq_false (by omega)
      go_enter Tryz.func47, Tryz.ntmps47
      go_wp2_with (first
        | (go_at_call 63; (with_reducible refine (rword9T s a _ HM.out HA1.out t HT.out).mono ?_); rintro e w1 ⟨rfl, hb1⟩; have HG1 := Lib.hid (kept_heap (heap_alloc_new w (.cells zTk 32)) hb1); have HB1 := Lib.hid (stp (stpA (Below.refl w.heap.size w) (.cells zTk 32)) hb1); have HR1 := Lib.hid (Nat.lt_of_lt_of_le (lt_heap (heap_alloc_new w (.cells zTk 32))) hb1.size); clear hb1)
        | (refine wpList_store_row rfl _ _ _ rfl w1.heap.size #[.int .u8 1, .string t, .slice none 0 0, .string ⟨#[]⟩] rfl rfl 32 zTk (heap_alloc_new _ _) sizeTk rfl (oneTk _ _ _ _) ?_; rw [World.setRow_alloc_new])
        | fail)
      go_loopw [] (fun wr => (w1.alloc (.cells #[.int .u8 1, .string t, .slice none 0 0, .string ⟨#[]⟩] 32)) = wr) (fun _ => 0)
      case atStart => rfl
      case round =>
        obtain rfl := hrel
        go_wp2_with (first
          | (refine wpList_store_row rfl _ _ _ rfl w.heap.size #[.int .u8 0, .string ⟨#[]⟩, .slice none 0 0, .string ⟨#[]⟩] rfl rfl 32 zTk (kept_heap HG1.out (stpA (Below.refl w1.heap.size w1) _)) sizeTk rfl (oneTk _ _ _ _) ?_)
          | fail)
        exact bodyPost_ret (v := .tuple #[.agg #[.int .u8 0, .string ⟨#[]⟩, .slice none 0 0, .string ⟨#[]⟩], .int .i64 (-1)]) (rcell2 (p := 4) (q := 5) rfl _ _ _ _ #[.int .u8 0, .string ⟨#[]⟩, .slice none 0 0, .string ⟨#[]⟩] _ _ rfl (setRow_heap _ _ _ #[.int .u8 0, .string ⟨#[]⟩, .slice none 0 0, .string ⟨#[]⟩] _ _ (kept_heap HG1.out (stpA (Below.refl w1.heap.size w1) _))) Tryz.underlying32 rfl sizeTk) rfl ⟨below_setRowV (stpA HB1.out _) (Nat.le_refl _) _, .inl ⟨HN.out, rfl⟩⟩
  · have hA : a + 1 < s.size := by
      have h1 := HP0.out
      have h2 := HPS.out
      omega
    have dA : decide ((a : Int) + 1 < (s.size : Int)) = true := decide_eq_true (by omega)
    have bA : (0 : Int) ≤ (a : Int) + 1 ∧ (a : Int) + 1 < (s.size : Int) := by omega
    obtain ⟨c, hc⟩ : ∃ c, s[a + 1]'hA = c := ⟨_, rfl⟩
    have hca : ∀ h, s[a + 1]'h = c := fun _ => hc
    have f47 : ((c.toNat : Int) == 47) = false := by have := H47.out hA; rw [hc] at this; simp; omega
    rw [decide_eq_false h0] at hte
    have hne : t.toList.isEmpty = false := hte
    have HW : Hid (wordL (s.data.toList.drop (a + 1)) ≠ []) := Lib.hid fun e => h0 (by rw [HWL.out, e]; rfl)
    have HL := Lib.hid (tagL_of HD47.out HW.out)
    clear hc h0
    go_enter Tryz.func47, Tryz.ntmps47
    go_wp2_with (first
      | (go_at_call 63; (with_reducible refine (rword9T s a _ HM.out HA1.out t HT.out).mono ?_); rintro e w1 ⟨rfl, hb1⟩; have HG1 := Lib.hid (kept_heap (heap_alloc_new w (.cells zTk 32)) hb1); have HB1 := Lib.hid (stp (stpA (Below.refl w.heap.size w) (.cells zTk 32)) hb1); have HR1 := Lib.hid (Nat.lt_of_lt_of_le (lt_heap (heap_alloc_new w (.cells zTk 32))) hb1.size); clear hb1)
      | (refine wpList_store_row rfl _ _ _ rfl w1.heap.size #[.int .u8 1, .string t, .slice none 0 0, .string ⟨#[]⟩] rfl rfl 32 zTk (heap_alloc_new _ _) sizeTk rfl (oneTk _ _ _ _) ?_; rw [World.setRow_alloc_new])
      | fail)
    have HST0 : Hid (TagSt t w.heap.size w1.heap.size w [] (.slice none 0 0) (w1.alloc (.cells #[.int .u8 1, .string t, .slice none 0 0, .string ⟨#[]⟩] 32))) := Lib.hid ⟨heap_alloc_new _ _, World.ownsRow_nil _ _ _ _, (kept_heap HG1.out (stpA (Below.refl w1.heap.size w1) _)), (stpA HB1.out _)⟩
    go_loopw [1] (fun i wr => ∃ (p : Nat) (L : List PB) (v : Value), i = .int .i64 p ∧ p ≤ s.size ∧ L.length ≤ p ∧ TagSt t w.heap.size w1.heap.size w L v wr ∧ tagG [] (s.data.toList.drop p0) = tagG (L.map prVal) (s.data.toList.drop p)) (fun i _ => s.size - (intOf i).toNat)
    case atStart => exact ⟨p0, [], .slice none 0 0, rfl, HPS.out, Nat.zero_le _, HST0.out, rfl⟩
    case round =>
      obtain ⟨p, L, v, rfl, hp, hLp, ⟨s1, s2, s3, s4⟩, hG⟩ := hrel
      obtain ⟨A, cp, rfl⟩ := own_form2 s2
      have hm9 := HM.out
      have c0 : wr.cell? ⟨w1.heap.size, 0, none⟩ = some (.int .u8 1) := by rw [cellV _ _ _ _ _ _ s1]; rfl
      have c1 : wr.cell? ⟨w1.heap.size, 1, none⟩ = some (.string t) := by rw [cellV _ _ _ _ _ _ s1]; rfl
      have c2 : wr.cell? ⟨w1.heap.size, 2, none⟩ = some (.slice A L.length cp) := by rw [cellV _ _ _ _ _ _ s1]; rfl
      have S1 := Lib.hid s1
      have S2 := Lib.hid s2
      have S3 := Lib.hid s3
      have S4 := Lib.hid s4
      have HP := Lib.hid hp
      obtain ⟨n, hn⟩ : ∃ n, ((s.data.toList.drop p).takeWhile blk).length = n := ⟨_, rfl⟩
      have HN1 := Lib.hid hn
      have hl1 : n + p ≤ s.size := by
        have := congrArg List.length (tw_split blk (s.data.toList.drop p)).1
        rw [List.length_append, hn, List.length_drop, ba_l] at this
        omega
      obtain ⟨q, hq⟩ : ∃ q, p + n = q := ⟨_, rfl⟩
      have e2 : (p : Int) + (n : Int) = (q : Int) := by omega
      have HQ : Hid (tagAt s.data.toList p = q) := Lib.hid (by unfold tagAt; rw [hn, hq])
      have HG := Lib.hid hG
      have HQN := Lib.hid hq
      clear s1 s2 s3 s4 hn hq hG
      by_cases hqs : q < s.size
      · obtain ⟨d, hd⟩ : ∃ d, s[q]'hqs = d := ⟨_, rfl⟩
        have hda : ∀ h, s[q]'h = d := fun _ => hd
        have bq : (0 : Int) ≤ (q : Int) ∧ (q : Int) < (s.size : Int) := by omega
        have hql : q < s.data.toList.length := by rw [ba_l]; exact hqs
        have hdk : s.data.toList[q]'hql = d := (at_l s q hqs).trans hd
        have HDK := Lib.hid hdk
        clear hd hdk
        by_cases h62 : d.toNat = 62
        · have f62 : ((d.toNat : Int) == 62) = true := by simp; omega
          have HS : Hid (tagL (s.data.toList.drop (a + 1)) = some (⟨1, t.data.toList, L.map prVal, []⟩, s.data.toList.drop (q + 1))) := Lib.hid (by
            rw [HL.out, ← HWL.out, HP0.out, HG.out, tagG_shut HQ.out hql (HDK.out.trans (UInt8.toNat_inj.1 h62)), HT.out]
            rfl)
          clear h62
          clear hqs
          go_wp2_with (first
            | (go_at_call 64; (with_reducible refine (rblanks9 s p _ HM.out HP.out n HN1.out).mono ?_); rintro e w2 ⟨rfl, rfl⟩)
            | (refine wpList_load_row rfl _ _ rfl w1.heap.size rfl 32 #[.int .u8 1, .string t, .slice A L.length cp, .string ⟨#[]⟩] (0, 0) _ S1.out Tryz.underlying32 rfl sizeTk ?_)
            | (refine wpList_store_row rfl _ _ _ rfl w.heap.size #[.int .u8 1, .string t, .slice A L.length cp, .string ⟨#[]⟩] rfl rfl 32 zTk S3.out sizeTk rfl (oneTk _ _ _ _) ?_)
            | fail)
          exact bodyPost_ret (v := .tuple #[.agg #[.int .u8 1, .string t, .slice A L.length cp, .string ⟨#[]⟩], .int .i64 ((q : Int) + 1)]) (rcell2 (p := 4) (q := 5) rfl _ _ _ _ #[.int .u8 1, .string t, .slice A L.length cp, .string ⟨#[]⟩] _ _ rfl (setRow_heap _ _ _ #[.int .u8 1, .string t, .slice A L.length cp, .string ⟨#[]⟩] _ _ S3.out) Tryz.underlying32 rfl sizeTk) rfl ⟨below_setRowV S4.out (Nat.le_refl _) _, .inr ⟨_, _, q + 1, HS.out, by omega, TkR_set S2.out HR1.out (Nat.le_refl _) 1 (by decide) t, rfl⟩⟩
        · have f62 : ((d.toNat : Int) == 62) = false := by simp; omega
          have hd62 : s.data.toList[q]'hql ≠ 62 := fun e => h62 (by rw [← HDK.out, e]; rfl)
          have HQS : Hid (q ≤ s.size) := Lib.hid (by omega)
          by_cases hq1 : q + 1 < s.size
          · have dB : decide ((q : Int) + 1 < (s.size : Int)) = true := decide_eq_true (by omega)
            have bB : (0 : Int) ≤ (q : Int) ∧ (q : Int) ≤ (q : Int) + 2 ∧ (q : Int) + 2 ≤ (s.size : Int) := by omega
            have hq1l : q + 1 < s.data.toList.length := by rw [ba_l]; exact hq1
            obtain ⟨x2, hx2⟩ : ∃ x2, s.extract q (q + 2) = x2 := ⟨_, rfl⟩
            have hx2l : x2.data.toList = [s.data.toList[q]'hql, s.data.toList[q + 1]'hq1l] := by
              rw [← hx2, extract_l s q (q + 2) (by omega), show q + 2 - q = 2 by omega, two_at hq1l]
            by_cases hB : x2.data.toList = [47, 62]
            · have fB : (x2.toList == [47, 62]) = true := by rw [ByteArray.toList_eq, hB]; rfl
              rw [hB] at hx2l
              injection hx2l with g1 g2
              injection g2 with g2 _
              have HS : Hid (tagL (s.data.toList.drop (a + 1)) = some (⟨3, t.data.toList, L.map prVal, []⟩, s.data.toList.drop (q + 2))) := Lib.hid (by
                rw [HL.out, ← HWL.out, HP0.out, HG.out, tagG_bare HQ.out hq1l g1.symm g2.symm, HT.out]
                rfl)
              have B1 : Hid ((wr.setCell ⟨w1.heap.size, 0, none⟩ (.int .u8 3)).heap[w1.heap.size]? = some (.cells #[.int .u8 3, .string t, .slice A L.length cp, .string ⟨#[]⟩] 32 (0, 0))) := Lib.hid (heap_setCell_same _ _ _ _ _ _ S1.out)
              have B2 := Lib.hid (own_setCell S2.out w1.heap.size 0 (Nat.lt_succ_self _) (.int .u8 3))
              have B3 : Hid ((wr.setCell ⟨w1.heap.size, 0, none⟩ (.int .u8 3)).heap[w.heap.size]? = some (.cells zTk 32 (0, 0))) := Lib.hid ((set_other _ _ _ _ _ (by have := HR1.out; omega)).trans S3.out)
              have B4 : Hid (Below w.heap.size w (wr.setCell ⟨w1.heap.size, 0, none⟩ (.int .u8 3))) := Lib.hid (S4.out.setCell (by have := HR1.out; simp; omega) _)
              have g0 : wr.frozen? ⟨w1.heap.size, 0, none⟩ = false := freeV _ _ _ _ _ S1.out
              clear h62 hd62 hqs g1 g2 hB hq1l
              go_wp2_with (first
                | (go_at_call 64; (with_reducible refine (rblanks9 s p _ HM.out HP.out n HN1.out).mono ?_); rintro e w2 ⟨rfl, rfl⟩)
                | (refine wpList_load_row rfl _ _ rfl w1.heap.size rfl 32 #[.int .u8 3, .string t, .slice A L.length cp, .string ⟨#[]⟩] (0, 0) _ B1.out Tryz.underlying32 rfl sizeTk ?_)
                | (refine wpList_store_row rfl _ _ _ rfl w.heap.size #[.int .u8 3, .string t, .slice A L.length cp, .string ⟨#[]⟩] rfl rfl 32 zTk B3.out sizeTk rfl (oneTk _ _ _ _) ?_)
                | fail)
              exact bodyPost_ret (v := .tuple #[.agg #[.int .u8 3, .string t, .slice A L.length cp, .string ⟨#[]⟩], .int .i64 ((q : Int) + 2)]) (rcell2 (p := 4) (q := 5) rfl _ _ _ _ #[.int .u8 3, .string t, .slice A L.length cp, .string ⟨#[]⟩] _ _ rfl (setRow_heap _ _ _ #[.int .u8 3, .string t, .slice A L.length cp, .string ⟨#[]⟩] _ _ B3.out) Tryz.underlying32 rfl sizeTk) rfl ⟨below_setRowV B4.out (Nat.le_refl _) _, .inr ⟨_, _, q + 2, HS.out, by omega, TkR_set B2.out HR1.out (Nat.le_refl _) 3 (by decide) t, rfl⟩⟩
            · have fB : (x2.toList == [47, 62]) = false := by rw [ByteArray.toList_eq]; simpa using hB
              have HE : Hid (noEnd s.data.toList q) := Lib.hid (noEnd_of (fun _ => hd62) (fun _ e1 e2 => hB (by rw [hx2l, e1, e2])))
              clear hd62 hx2l hB hq1l h62
              cases ha : attrL (s.data.toList.drop q) with
              | none =>
                have HA : Hid (attrL (s.data.toList.drop q) = none) := Lib.hid (ha)
                have HN : Hid (tagL (s.data.toList.drop (a + 1)) = none) := Lib.hid (by rw [HL.out, ← HWL.out, HP0.out, HG.out, tagG_none HQ.out HE.out HA.out]; rfl)
                by_cases hn0 : n = 0
                · have f0 : ((n : Int) == 0) = true := by simp; omega
                  clear hn0
                  go_wp2_with (first
                    | (go_at_call 64; (with_reducible refine (rblanks9 s p _ HM.out HP.out n HN1.out).mono ?_); rintro e w2 ⟨rfl, rfl⟩)
                    | (go_at_call 65; (with_reducible refine (rattr_none s q _ HM.out HQS.out HA.out).mono ?_); rintro e w3 ⟨rfl, hb3⟩; have T1 := Lib.hid (kept_heap S1.out hb3); have T2 := Lib.hid (own_belowK S2.out hb3 (Nat.le_refl _)); have T3 := Lib.hid (kept_heap S3.out hb3); have T4 := Lib.hid (stp S4.out hb3); clear hb3; have hl3 := lt_heap T1.out; have d2 : w3.cell? ⟨w1.heap.size, 2, none⟩ = some (.slice A L.length cp) := (by rw [cellV _ _ _ _ _ _ T1.out]; rfl); have K1 := Lib.hid (heap_alloc_new w3 (.cells #[.string ⟨#[]⟩, .string ⟨#[]⟩] 35)); have U1 := Lib.hid (kept_heap T1.out (stpA (Below.refl w3.heap.size w3) (.cells #[.string ⟨#[]⟩, .string ⟨#[]⟩] 35))); have U2 := Lib.hid (own_belowK T2.out (stpA (Below.refl w3.heap.size w3) (.cells #[.string ⟨#[]⟩, .string ⟨#[]⟩] 35)) (Nat.le_refl _)); have U3 := Lib.hid (kept_heap T3.out (stpA (Below.refl w3.heap.size w3) (.cells #[.string ⟨#[]⟩, .string ⟨#[]⟩] 35))); have U4 := Lib.hid (stpA T4.out (.cells #[.string ⟨#[]⟩, .string ⟨#[]⟩] 35)))
                    | (refine wpList_store_row rfl _ _ _ rfl w.heap.size #[.int .u8 0, .string ⟨#[]⟩, .slice none 0 0, .string ⟨#[]⟩] rfl rfl 32 zTk U3.out sizeTk rfl (oneTk _ _ _ _) ?_)
                    | fail)
                  exact bodyPost_ret (v := .tuple #[.agg #[.int .u8 0, .string ⟨#[]⟩, .slice none 0 0, .string ⟨#[]⟩], .int .i64 (-1)]) (rcell2 (p := 4) (q := 5) rfl _ _ _ _ #[.int .u8 0, .string ⟨#[]⟩, .slice none 0 0, .string ⟨#[]⟩] _ _ rfl (setRow_heap _ _ _ #[.int .u8 0, .string ⟨#[]⟩, .slice none 0 0, .string ⟨#[]⟩] _ _ U3.out) Tryz.underlying32 rfl sizeTk) rfl ⟨below_setRowV U4.out (Nat.le_refl _) _, .inl ⟨HN.out, rfl⟩⟩
                · have f0 : ((n : Int) == 0) = false := by simp; omega
                  clear hn0
                  go_wp2_with (first
                    | (go_at_call 64; (with_reducible refine (rblanks9 s p _ HM.out HP.out n HN1.out).mono ?_); rintro e w2 ⟨rfl, rfl⟩)
                    | (go_at_call 65; (with_reducible refine (rattr_none s q _ HM.out HQS.out HA.out).mono ?_); rintro e w3 ⟨rfl, hb3⟩; have T1 := Lib.hid (kept_heap S1.out hb3); have T2 := Lib.hid (own_belowK S2.out hb3 (Nat.le_refl _)); have T3 := Lib.hid (kept_heap S3.out hb3); have T4 := Lib.hid (stp S4.out hb3); clear hb3; have hl3 := lt_heap T1.out; have d2 : w3.cell? ⟨w1.heap.size, 2, none⟩ = some (.slice A L.length cp) := (by rw [cellV _ _ _ _ _ _ T1.out]; rfl); have K1 := Lib.hid (heap_alloc_new w3 (.cells #[.string ⟨#[]⟩, .string ⟨#[]⟩] 35)); have U1 := Lib.hid (kept_heap T1.out (stpA (Below.refl w3.heap.size w3) (.cells #[.string ⟨#[]⟩, .string ⟨#[]⟩] 35))); have U2 := Lib.hid (own_belowK T2.out (stpA (Below.refl w3.heap.size w3) (.cells #[.string ⟨#[]⟩, .string ⟨#[]⟩] 35)) (Nat.le_refl _)); have U3 := Lib.hid (kept_heap T3.out (stpA (Below.refl w3.heap.size w3) (.cells #[.string ⟨#[]⟩, .string ⟨#[]⟩] 35))); have U4 := Lib.hid (stpA T4.out (.cells #[.string ⟨#[]⟩, .string ⟨#[]⟩] 35)))
                    | (refine wpList_store_row rfl _ _ _ rfl w.heap.size #[.int .u8 0, .string ⟨#[]⟩, .slice none 0 0, .string ⟨#[]⟩] rfl rfl 32 zTk U3.out sizeTk rfl (oneTk _ _ _ _) ?_)
                    | fail)
                  exact bodyPost_ret (v := .tuple #[.agg #[.int .u8 0, .string ⟨#[]⟩, .slice none 0 0, .string ⟨#[]⟩], .int .i64 (-1)]) (rcell2 (p := 4) (q := 5) rfl _ _ _ _ #[.int .u8 0, .string ⟨#[]⟩, .slice none 0 0, .string ⟨#[]⟩] _ _ rfl (setRow_heap _ _ _ #[.int .u8 0, .string ⟨#[]⟩, .slice none 0 0, .string ⟨#[]⟩] _ _ U3.out) Tryz.underlying32 rfl sizeTk) rfl ⟨below_setRowV U4.out (Nat.le_refl _) _, .inl ⟨HN.out, rfl⟩⟩
              | some r =>
                obtain ⟨pr, r⟩ := r
                obtain ⟨m, hm1, hm2⟩ : ∃ m, m ≤ s.size ∧ r = s.data.toList.drop m := by
                  obtain ⟨k, hk, e⟩ := attrL_suffix ha
                  rw [List.length_drop, ba_l] at hk
                  exact ⟨q + k, by omega, by rw [e, List.drop_drop]⟩
                have hlen := attrL_len ha
                rw [hm2, List.length_drop, List.length_drop, ba_l] at hlen
                obtain ⟨x, hx⟩ : ∃ x : ByteArray, x.data.toList = pr.name := ⟨⟨pr.name.toArray⟩, rfl⟩
                obtain ⟨y, hy⟩ : ∃ y : ByteArray, y.data.toList = pr.value := ⟨⟨pr.value.toArray⟩, rfl⟩
                obtain ⟨pn, pv⟩ := pr
                dsimp only at hx hy hlen
                subst hx hy hm2
                have HA := Lib.hid ha
                have HMS := Lib.hid hm1
                have HMQ : Hid (p < m ∧ L.length < m) := Lib.hid (by omega)
                have HLM : Hid (L.length ≤ 1000000) := Lib.hid (by omega)
                have bm : decide ((m : Int) < 0) = false := decide_eq_false (by omega)
                clear ha hm1 hlen
                by_cases hn0 : n = 0
                · have f0 : ((n : Int) == 0) = true := by simp; omega
                  have HN : Hid (tagL (s.data.toList.drop (a + 1)) = none) := Lib.hid (by rw [HL.out, ← HWL.out, HP0.out, HG.out, tagG_bad HQ.out HE.out HA.out (.inl (by omega))]; rfl)
                  clear hn0
                  go_wp2_with (first
                    | (go_at_call 64; (with_reducible refine (rblanks9 s p _ HM.out HP.out n HN1.out).mono ?_); rintro e w2 ⟨rfl, rfl⟩)
                    | (go_at_call 65; (with_reducible refine (rattr_some s q _ HM.out HQS.out x y m HMS.out HA.out).mono ?_); rintro e w3 ⟨rfl, hb3⟩; have T1 := Lib.hid (kept_heap S1.out hb3); have T2 := Lib.hid (own_belowK S2.out hb3 (Nat.le_refl _)); have T3 := Lib.hid (kept_heap S3.out hb3); have T4 := Lib.hid (stp S4.out hb3); clear hb3; have hl3 := lt_heap T1.out; have d2 : w3.cell? ⟨w1.heap.size, 2, none⟩ = some (.slice A L.length cp) := (by rw [cellV _ _ _ _ _ _ T1.out]; rfl); have K1 := Lib.hid (heap_alloc_new w3 (.cells #[.string x, .string y] 35)); have U1 := Lib.hid (kept_heap T1.out (stpA (Below.refl w3.heap.size w3) (.cells #[.string x, .string y] 35))); have U2 := Lib.hid (own_belowK T2.out (stpA (Below.refl w3.heap.size w3) (.cells #[.string x, .string y] 35)) (Nat.le_refl _)); have U3 := Lib.hid (kept_heap T3.out (stpA (Below.refl w3.heap.size w3) (.cells #[.string x, .string y] 35))); have U4 := Lib.hid (stpA T4.out (.cells #[.string x, .string y] 35)))
                    | (refine wpList_store_row rfl _ _ _ rfl w.heap.size #[.int .u8 0, .string ⟨#[]⟩, .slice none 0 0, .string ⟨#[]⟩] rfl rfl 32 zTk U3.out sizeTk rfl (oneTk _ _ _ _) ?_)
                    | fail)
                  exact bodyPost_ret (v := .tuple #[.agg #[.int .u8 0, .string ⟨#[]⟩, .slice none 0 0, .string ⟨#[]⟩], .int .i64 (-1)]) (rcell2 (p := 4) (q := 5) rfl _ _ _ _ #[.int .u8 0, .string ⟨#[]⟩, .slice none 0 0, .string ⟨#[]⟩] _ _ rfl (setRow_heap _ _ _ #[.int .u8 0, .string ⟨#[]⟩, .slice none 0 0, .string ⟨#[]⟩] _ _ U3.out) Tryz.underlying32 rfl sizeTk) rfl ⟨below_setRowV U4.out (Nat.le_refl _) _, .inl ⟨HN.out, rfl⟩⟩
                · have f0 : ((n : Int) == 0) = false := by simp; omega
                  cases hh : hasL (L.map prVal) x.data.toList with
                  | true =>
                    have HH := Lib.hid hh
                    have HN : Hid (tagL (s.data.toList.drop (a + 1)) = none) := Lib.hid (by rw [HL.out, ← HWL.out, HP0.out, HG.out, tagG_bad HQ.out HE.out HA.out (.inr hh)]; rfl)
                    clear hn0 hh
                    go_wp2_with (first
                      | (go_at_call 64; (with_reducible refine (rblanks9 s p _ HM.out HP.out n HN1.out).mono ?_); rintro e w2 ⟨rfl, rfl⟩)
                      | (go_at_call 65; (with_reducible refine (rattr_some s q _ HM.out HQS.out x y m HMS.out HA.out).mono ?_); rintro e w3 ⟨rfl, hb3⟩; have T1 := Lib.hid (kept_heap S1.out hb3); have T2 := Lib.hid (own_belowK S2.out hb3 (Nat.le_refl _)); have T3 := Lib.hid (kept_heap S3.out hb3); have T4 := Lib.hid (stp S4.out hb3); clear hb3; have hl3 := lt_heap T1.out; have d2 : w3.cell? ⟨w1.heap.size, 2, none⟩ = some (.slice A L.length cp) := (by rw [cellV _ _ _ _ _ _ T1.out]; rfl); have K1 := Lib.hid (heap_alloc_new w3 (.cells #[.string x, .string y] 35)); have U1 := Lib.hid (kept_heap T1.out (stpA (Below.refl w3.heap.size w3) (.cells #[.string x, .string y] 35))); have U2 := Lib.hid (own_belowK T2.out (stpA (Below.refl w3.heap.size w3) (.cells #[.string x, .string y] 35)) (Nat.le_refl _)); have U3 := Lib.hid (kept_heap T3.out (stpA (Below.refl w3.heap.size w3) (.cells #[.string x, .string y] 35))); have U4 := Lib.hid (stpA T4.out (.cells #[.string x, .string y] 35)))
                      | (go_at_call 66; (with_reducible refine (rhas9 A L.length cp (L.map prVal) x _ (own_attrs U2.out).1 (by simp) HLM.out true HH.out).mono ?_); rintro e w4 ⟨rfl, rfl⟩)
                      | (refine wpList_store_row rfl _ _ _ rfl w.heap.size #[.int .u8 0, .string ⟨#[]⟩, .slice none 0 0, .string ⟨#[]⟩] rfl rfl 32 zTk U3.out sizeTk rfl (oneTk _ _ _ _) ?_)
                      | fail)
                    exact bodyPost_ret (v := .tuple #[.agg #[.int .u8 0, .string ⟨#[]⟩, .slice none 0 0, .string ⟨#[]⟩], .int .i64 (-1)]) (rcell2 (p := 4) (q := 5) rfl _ _ _ _ #[.int .u8 0, .string ⟨#[]⟩, .slice none 0 0, .string ⟨#[]⟩] _ _ rfl (setRow_heap _ _ _ #[.int .u8 0, .string ⟨#[]⟩, .slice none 0 0, .string ⟨#[]⟩] _ _ U3.out) Tryz.underlying32 rfl sizeTk) rfl ⟨below_setRowV U4.out (Nat.le_refl _) _, .inl ⟨HN.out, rfl⟩⟩
                  | false =>
                    have HH := Lib.hid hh
                    have HNX := Lib.hid (tagG_next HQ.out HE.out HA.out (by omega) hh)
                    clear hn0 hh
                    go_wp2_with (first
                      | (go_at_call 64; (with_reducible refine (rblanks9 s p _ HM.out HP.out n HN1.out).mono ?_); rintro e w2 ⟨rfl, rfl⟩)
                      | (go_at_call 65; (with_reducible refine (rattr_some s q _ HM.out HQS.out x y m HMS.out HA.out).mono ?_); rintro e w3 ⟨rfl, hb3⟩; have T1 := Lib.hid (kept_heap S1.out hb3); have T2 := Lib.hid (own_belowK S2.out hb3 (Nat.le_refl _)); have T3 := Lib.hid (kept_heap S3.out hb3); have T4 := Lib.hid (stp S4.out hb3); clear hb3; have hl3 := lt_heap T1.out; have d2 : w3.cell? ⟨w1.heap.size, 2, none⟩ = some (.slice A L.length cp) := (by rw [cellV _ _ _ _ _ _ T1.out]; rfl); have K1 := Lib.hid (heap_alloc_new w3 (.cells #[.string x, .string y] 35)); have U1 := Lib.hid (kept_heap T1.out (stpA (Below.refl w3.heap.size w3) (.cells #[.string x, .string y] 35))); have U2 := Lib.hid (own_belowK T2.out (stpA (Below.refl w3.heap.size w3) (.cells #[.string x, .string y] 35)) (Nat.le_refl _)); have U3 := Lib.hid (kept_heap T3.out (stpA (Below.refl w3.heap.size w3) (.cells #[.string x, .string y] 35))); have U4 := Lib.hid (stpA T4.out (.cells #[.string x, .string y] 35)))
                      | (go_at_call 66; (with_reducible refine (rhas9 A L.length cp (L.map prVal) x _ (own_attrs U2.out).1 (by simp) HLM.out false HH.out).mono ?_); rintro e w4 ⟨rfl, rfl⟩)
                      | (refine wpList_load_row rfl _ _ rfl w3.heap.size rfl 35 #[.string x, .string y] (0, 0) _ K1.out Tryz.underlying35 rfl sizePr ?_)
                      | (at_builtin; refine wpList_append_own _ rfl (.tmp 98) (.tmp 100) 30 rfl (w1.heap.size + 1) 35 i0 (.agg #[.string ⟨#[]⟩, .string ⟨#[]⟩]) 2 32 Tryz.underlying30 HI.out HZ0.out HZ1.out HZ2.out rfl (by decide) _ L.length _ rfl (own_belowK U2.out (stpA (Below.refl (w3.alloc (.cells #[.string x, .string y] 35)).heap.size (w3.alloc (.cells #[.string x, .string y] 35))) (.cells #[.string x, .string y] 35)) (Nat.le_refl _)) ⟨w3.heap.size + 1, 0, none⟩ 1 1 [.string x, .string y] rfl rfl (new_at (w3.alloc (.cells #[.string x, .string y] 35)) [.string x, .string y] 35 _ (World.size_alloc _ _)) (by simp [Value.oneCell']) (by have := HLM.out; unfold maxLen; omega) (by have := HLM.out; omega) (by rw [World.size_alloc]; have := lt_heap U1.out; omega) ?_; intro v4 w5 hown4 hgr4 _; obtain ⟨A4, c4, rfl⟩ := own_form2 hown4; have V1 := Lib.hid ((hgr4.block _ (by rw [World.size_alloc]; have := lt_heap U1.out; omega) (fun e => by have := (U2.out.lt _ e.symm).1; omega)).trans (kept_heap U1.out (stpA (Below.refl (w3.alloc (.cells #[.string x, .string y] 35)).heap.size (w3.alloc (.cells #[.string x, .string y] 35))) (.cells #[.string x, .string y] 35)))); have V2 := Lib.hid hown4; have V3 := Lib.hid ((hgr4.block _ (by rw [World.size_alloc]; have := lt_heap U3.out; omega) (fun e => by have := (U2.out.lt _ e.symm).1; have := HR1.out; omega)).trans (kept_heap U3.out (stpA (Below.refl (w3.alloc (.cells #[.string x, .string y] 35)).heap.size (w3.alloc (.cells #[.string x, .string y] 35))) (.cells #[.string x, .string y] 35)))); have V4 := Lib.hid ((stpA U4.out (.cells #[.string x, .string y] 35)).grown hgr4 (by rw [World.size_alloc]; have := lt_heap U3.out; omega) (fun k hk => by have := (U2.out.lt _ hk).1; have := HR1.out; omega)); have g2 : w5.cell? ⟨w1.heap.size, 2, none⟩ = some (.slice A L.length cp) := (by rw [cellV _ _ _ _ _ _ V1.out]; rfl); have g3 : w5.frozen? ⟨w1.heap.size, 2, none⟩ = false := freeV _ _ _ _ _ V1.out; clear hown4 hgr4)
                      | fail)
                    go_roundw
                    case rel =>
                      refine ⟨m, L ++ [(x, y)], .slice A4 (L.length + 1) c4, rfl, HMS.out, by have := HMQ.out; rw [List.length_append]; simp; omega, ⟨?_, ?_, ?_, V4.out.setCell (by have := HR1.out; simp; omega) _⟩, ?_⟩
                      · exact heap_setCell_same _ _ _ _ _ _ V1.out
                      · rw [List.length_append, List.flatMap_append]
                        exact own_setCell V2.out _ _ (Nat.lt_succ_self _) _
                      · exact (set_other _ _ _ _ _ (by have := HR1.out; omega)).trans V3.out
                      · rw [HG.out, HNX.out, List.map_append]
                        rfl
                    case measure =>
                      have := HMQ.out
                      have := HMS.out
                      simp [intOf]
                      omega
          · have dB : decide ((q : Int) + 1 < (s.size : Int)) = false := decide_eq_false (by omega)
            have HE : Hid (noEnd s.data.toList q) := Lib.hid (noEnd_of (fun _ => hd62) (fun h => absurd (by rw [ba_l] at h; exact h) hq1))
            clear hd62 h62
            have HA : Hid (attrL (s.data.toList.drop q) = none) := Lib.hid (attrL_few (by rw [List.length_drop, ba_l]; omega))
            have HN : Hid (tagL (s.data.toList.drop (a + 1)) = none) := Lib.hid (by rw [HL.out, ← HWL.out, HP0.out, HG.out, tagG_none HQ.out HE.out HA.out]; rfl)
            by_cases hn0 : n = 0
            · have f0 : ((n : Int) == 0) = true := by simp; omega
              clear hn0
              go_wp2_with (first
                | (go_at_call 64; (with_reducible refine (rblanks9 s p _ HM.out HP.out n HN1.out).mono ?_); rintro e w2 ⟨rfl, rfl⟩)
                | (go_at_call 65; (with_reducible refine (rattr_none s q _ HM.out HQS.out HA.out).mono ?_); rintro e w3 ⟨rfl, hb3⟩; have T1 := Lib.hid (kept_heap S1.out hb3); have T2 := Lib.hid (own_belowK S2.out hb3 (Nat.le_refl _)); have T3 := Lib.hid (kept_heap S3.out hb3); have T4 := Lib.hid (stp S4.out hb3); clear hb3; have hl3 := lt_heap T1.out; have d2 : w3.cell? ⟨w1.heap.size, 2, none⟩ = some (.slice A L.length cp) := (by rw [cellV _ _ _ _ _ _ T1.out]; rfl); have K1 := Lib.hid (heap_alloc_new w3 (.cells #[.string ⟨#[]⟩, .string ⟨#[]⟩] 35)); have U1 := Lib.hid (kept_heap T1.out (stpA (Below.refl w3.heap.size w3) (.cells #[.string ⟨#[]⟩, .string ⟨#[]⟩] 35))); have U2 := Lib.hid (own_belowK T2.out (stpA (Below.refl w3.heap.size w3) (.cells #[.string ⟨#[]⟩, .string ⟨#[]⟩] 35)) (Nat.le_refl _)); have U3 := Lib.hid (kept_heap T3.out (stpA (Below.refl w3.heap.size w3) (.cells #[.string ⟨#[]⟩, .string ⟨#[]⟩] 35))); have U4 := Lib.hid (stpA T4.out (.cells #[.string ⟨#[]⟩, .string ⟨#[]⟩] 35)))
                | (refine wpList_store_row rfl _ _ _ rfl w.heap.size #[.int .u8 0, .string ⟨#[]⟩, .slice none 0 0, .string ⟨#[]⟩] rfl rfl 32 zTk U3.out sizeTk rfl (oneTk _ _ _ _) ?_)
                | fail)
              exact bodyPost_ret (v := .tuple #[.agg #[.int .u8 0, .string ⟨#[]⟩, .slice none 0 0, .string ⟨#[]⟩], .int .i64 (-1)]) (rcell2 (p := 4) (q := 5) rfl _ _ _ _ #[.int .u8 0, .string ⟨#[]⟩, .slice none 0 0, .string ⟨#[]⟩] _ _ rfl (setRow_heap _ _ _ #[.int .u8 0, .string ⟨#[]⟩, .slice none 0 0, .string ⟨#[]⟩] _ _ U3.out) Tryz.underlying32 rfl sizeTk) rfl ⟨below_setRowV U4.out (Nat.le_refl _) _, .inl ⟨HN.out, rfl⟩⟩
            · have f0 : ((n : Int) == 0) = false := by simp; omega
              clear hn0
              go_wp2_with (first
                | (go_at_call 64; (with_reducible refine (rblanks9 s p _ HM.out HP.out n HN1.out).mono ?_); rintro e w2 ⟨rfl, rfl⟩)
                | (go_at_call 65; (with_reducible refine (rattr_none s q _ HM.out HQS.out HA.out).mono ?_); rintro e w3 ⟨rfl, hb3⟩; have T1 := Lib.hid (kept_heap S1.out hb3); have T2 := Lib.hid (own_belowK S2.out hb3 (Nat.le_refl _)); have T3 := Lib.hid (kept_heap S3.out hb3); have T4 := Lib.hid (stp S4.out hb3); clear hb3; have hl3 := lt_heap T1.out; have d2 : w3.cell? ⟨w1.heap.size, 2, none⟩ = some (.slice A L.length cp) := (by rw [cellV _ _ _ _ _ _ T1.out]; rfl); have K1 := Lib.hid (heap_alloc_new w3 (.cells #[.string ⟨#[]⟩, .string ⟨#[]⟩] 35)); have U1 := Lib.hid (kept_heap T1.out (stpA (Below.refl w3.heap.size w3) (.cells #[.string ⟨#[]⟩, .string ⟨#[]⟩] 35))); have U2 := Lib.hid (own_belowK T2.out (stpA (Below.refl w3.heap.size w3) (.cells #[.string ⟨#[]⟩, .string ⟨#[]⟩] 35)) (Nat.le_refl _)); have U3 := Lib.hid (kept_heap T3.out (stpA (Below.refl w3.heap.size w3) (.cells #[.string ⟨#[]⟩, .string ⟨#[]⟩] 35))); have U4 := Lib.hid (stpA T4.out (.cells #[.string ⟨#[]⟩, .string ⟨#[]⟩] 35)))
                | (refine wpList_store_row rfl _ _ _ rfl w.heap.size #[.int .u8 0, .string ⟨#[]⟩, .slice none 0 0, .string ⟨#[]⟩] rfl rfl 32 zTk U3.out sizeTk rfl (oneTk _ _ _ _) ?_)
                | fail)
              exact bodyPost_ret (v := .tuple #[.agg #[.int .u8 0, .string ⟨#[]⟩, .slice none 0 0, .string ⟨#[]⟩], .int .i64 (-1)]) (rcell2 (p := 4) (q := 5) rfl _ _ _ _ #[.int .u8 0, .string ⟨#[]⟩, .slice none 0 0, .string ⟨#[]⟩] _ _ rfl (setRow_heap _ _ _ #[.int .u8 0, .string ⟨#[]⟩, .slice none 0 0, .string ⟨#[]⟩] _ _ U3.out) Tryz.underlying32 rfl sizeTk) rfl ⟨below_setRowV U4.out (Nat.le_refl _) _, .inl ⟨HN.out, rfl⟩⟩
      · have dq : decide ((q : Int) < (s.size : Int)) = false := decide_eq_false (by omega)
        have dB : decide ((q : Int) + 1 < (s.size : Int)) = false := decide_eq_false (by omega)
        have HQS : Hid (q ≤ s.size) := Lib.hid (by omega)
        have HE : Hid (noEnd s.data.toList q) := Lib.hid (fun c x e => by rw [List.drop_of_length_le (by rw [ba_l]; omega)] at e; cases e)
        have HA : Hid (attrL (s.data.toList.drop q) = none) := Lib.hid (attrL_few (by rw [List.length_drop, ba_l]; omega))
        have HN : Hid (tagL (s.data.toList.drop (a + 1)) = none) := Lib.hid (by rw [HL.out, ← HWL.out, HP0.out, HG.out, tagG_none HQ.out HE.out HA.out]; rfl)
        by_cases hn0 : n = 0
        · have f0 : ((n : Int) == 0) = true := by simp; omega
          clear hn0
          go_wp2_with (first
            | (go_at_call 64; (with_reducible refine (rblanks9 s p _ HM.out HP.out n HN1.out).mono ?_); rintro e w2 ⟨rfl, rfl⟩)
            | (go_at_call 65; (with_reducible refine (rattr_none s q _ HM.out HQS.out HA.out).mono ?_); rintro e w3 ⟨rfl, hb3⟩; have T1 := Lib.hid (kept_heap S1.out hb3); have T2 := Lib.hid (own_belowK S2.out hb3 (Nat.le_refl _)); have T3 := Lib.hid (kept_heap S3.out hb3); have T4 := Lib.hid (stp S4.out hb3); clear hb3; have hl3 := lt_heap T1.out; have d2 : w3.cell? ⟨w1.heap.size, 2, none⟩ = some (.slice A L.length cp) := (by rw [cellV _ _ _ _ _ _ T1.out]; rfl); have K1 := Lib.hid (heap_alloc_new w3 (.cells #[.string ⟨#[]⟩, .string ⟨#[]⟩] 35)); have U1 := Lib.hid (kept_heap T1.out (stpA (Below.refl w3.heap.size w3) (.cells #[.string ⟨#[]⟩, .string ⟨#[]⟩] 35))); have U2 := Lib.hid (own_belowK T2.out (stpA (Below.refl w3.heap.size w3) (.cells #[.string ⟨#[]⟩, .string ⟨#[]⟩] 35)) (Nat.le_refl _)); have U3 := Lib.hid (kept_heap T3.out (stpA (Below.refl w3.heap.size w3) (.cells #[.string ⟨#[]⟩, .string ⟨#[]⟩] 35))); have U4 := Lib.hid (stpA T4.out (.cells #[.string ⟨#[]⟩, .string ⟨#[]⟩] 35)))
            | (refine wpList_store_row rfl _ _ _ rfl w.heap.size #[.int .u8 0, .string ⟨#[]⟩, .slice none 0 0, .string ⟨#[]⟩] rfl rfl 32 zTk U3.out sizeTk rfl (oneTk _ _ _ _) ?_)
            | fail)
          exact bodyPost_ret (v := .tuple #[.agg #[.int .u8 0, .string ⟨#[]⟩, .slice none 0 0, .string ⟨#[]⟩], .int .i64 (-1)]) (rcell2 (p := 4) (q := 5) rfl _ _ _ _ #[.int .u8 0, .string ⟨#[]⟩, .slice none 0 0, .string ⟨#[]⟩] _ _ rfl (setRow_heap _ _ _ #[.int .u8 0, .string ⟨#[]⟩, .slice none 0 0, .string ⟨#[]⟩] _ _ U3.out) Tryz.underlying32 rfl sizeTk) rfl ⟨below_setRowV U4.out (Nat.le_refl _) _, .inl ⟨HN.out, rfl⟩⟩
        · have f0 : ((n : Int) == 0) = false := by simp; omega
          clear hn0
          go_wp2_with (first
            | (go_at_call 64; (with_reducible refine (rblanks9 s p _ HM.out HP.out n HN1.out).mono ?_); rintro e w2 ⟨rfl, rfl⟩)
            | (go_at_call 65; (with_reducible refine (rattr_none s q _ HM.out HQS.out HA.out).mono ?_); rintro e w3 ⟨rfl, hb3⟩; have T1 := Lib.hid (kept_heap S1.out hb3); have T2 := Lib.hid (own_belowK S2.out hb3 (Nat.le_refl _)); have T3 := Lib.hid (kept_heap S3.out hb3); have T4 := Lib.hid (stp S4.out hb3); clear hb3; have hl3 := lt_heap T1.out; have d2 : w3.cell? ⟨w1.heap.size, 2, none⟩ = some (.slice A L.length cp) := (by rw [cellV _ _ _ _ _ _ T1.out]; rfl); have K1 := Lib.hid (heap_alloc_new w3 (.cells #[.string ⟨#[]⟩, .string ⟨#[]⟩] 35)); have U1 := Lib.hid (kept_heap T1.out (stpA (Below.refl w3.heap.size w3) (.cells #[.string ⟨#[]⟩, .string ⟨#[]⟩] 35))); have U2 := Lib.hid (own_belowK T2.out (stpA (Below.refl w3.heap.size w3) (.cells #[.string ⟨#[]⟩, .string ⟨#[]⟩] 35)) (Nat.le_refl _)); have U3 := Lib.hid (kept_heap T3.out (stpA (Below.refl w3.heap.size w3) (.cells #[.string ⟨#[]⟩, .string ⟨#[]⟩] 35))); have U4 := Lib.hid (stpA T4.out (.cells #[.string ⟨#[]⟩, .string ⟨#[]⟩] 35)))
            | (refine wpList_store_row rfl _ _ _ rfl w.heap.size #[.int .u8 0, .string ⟨#[]⟩, .slice none 0 0, .string ⟨#[]⟩] rfl rfl 32 zTk U3.out sizeTk rfl (oneTk _ _ _ _) ?_)
            | fail)
          exact bodyPost_ret (v := .tuple #[.agg #[.int .u8 0, .string ⟨#[]⟩, .slice none 0 0, .string ⟨#[]⟩], .int .i64 (-1)]) (rcell2 (p := 4) (q := 5) rfl _ _ _ _ #[.int .u8 0, .string ⟨#[]⟩, .slice none 0 0, .string ⟨#[]⟩] _ _ rfl (setRow_heap _ _ _ #[.int .u8 0, .string ⟨#[]⟩, .slice none 0 0, .string ⟨#[]⟩] _ _ U3.out) Tryz.underlying32 rfl sizeTk) rfl ⟨below_setRowV U4.out (Nat.le_refl _) _, .inl ⟨HN.out, rfl⟩⟩
end Hx
end Go.Proofs.YtichboamakgabaaGreatDoor
