/-
  Texts of one seat, put together: LexV.
-/
import Derived.Test.YtichboamakgabaaGreatDoorG06
namespace Go.Proofs.YtichboamakgabaaGreatDoor
open Go.RowKit
namespace Hx
open Lx Tx Nmb Es
set_option linter.unusedVariables false
def zTk : Array Value := #[.int .u8 0, .string ⟨#[]⟩, .slice none 0 0, .string ⟨#[]⟩]
theorem oneTk (k : Int) (x : ByteArray) (v : Value) (y : ByteArray) (hv : v.oneCell' = true := by rfl) : (#[Value.int .u8 k, Value.string x, v, Value.string y] : Array Value).all (·.oneCell') = true := by simp [Value.oneCell'] at hv ⊢; exact hv
theorem sizeTk : (Tryz.prog.info? 32).map (·.size) = some 4 := by kernel_rfl
/-- Where a closing tag's sign > is looked for. -/
theorem shutL_none0 {l : List UInt8} (h : wordL l = []) : shutL l = none := by unfold shutL; rw [if_pos h]
theorem shutL_at {l : List UInt8} {a : Nat} (h : wordL (l.drop a) ≠ []) : shutL (l.drop a) = match l.drop (eqAt l a) with
    | [] => none
    | c :: r => if c = 62 then some (⟨2, wordL (l.drop a), [], []⟩, r) else none := by
  unfold shutL
  rw [if_neg h, List.drop_drop, dw_drop]
  rfl
theorem shutL_end {l : List UInt8} {a : Nat} (h : wordL (l.drop a) ≠ []) (h1 : l.length ≤ eqAt l a) : shutL (l.drop a) = none := by rw [shutL_at h, List.drop_of_length_le h1]
theorem shutL_other {l : List UInt8} {a : Nat} (h : wordL (l.drop a) ≠ []) (h1 : eqAt l a < l.length) (h2 : l[eqAt l a]'h1 ≠ 62) : shutL (l.drop a) = none := by
  rw [shutL_at h, List.drop_eq_getElem_cons h1]
  dsimp only
  rw [if_neg h2]
theorem shutL_yes {l : List UInt8} {a : Nat} (h : wordL (l.drop a) ≠ []) (h1 : eqAt l a < l.length) (h2 : l[eqAt l a]'h1 = 62) : shutL (l.drop a) = some (⟨2, wordL (l.drop a), [], []⟩, l.drop (eqAt l a + 1)) := by
  rw [shutL_at h, List.drop_eq_getElem_cons h1]
  dsimp only
  rw [if_pos h2]
theorem rword9S (s : ByteArray) (a : Nat) (w : World) (hm : s.size ≤ 1000000) (ha : a + 2 ≤ s.size) (t : ByteArray) (h : t.data.toList = wordL (s.data.toList.drop (a + 2))) :
    Calls Tryz.prog 63 #[.string s, .int .i64 ((a : Int) + 2)] w fun e w' => e = .returned (.string t) ∧ Below w.heap.size w w' := rword9 s (a + 2) w hm ha t h
/-- What shut answers. -/
def ShutTo (s : ByteArray) (a : Nat) (w : World) (e : Ending) (w' : World) : Prop := Below w.heap.size w w' ∧
  ((shutL (s.data.toList.drop (a + 2)) = none ∧ e = .returned (.tuple #[.agg #[.int .u8 0, .string ⟨#[]⟩, .slice none 0 0, .string ⟨#[]⟩], .int .i64 (-1)])) ∨
   (∃ (x : ByteArray) (n : Nat), shutL (s.data.toList.drop (a + 2)) = some (⟨2, x.data.toList, [], []⟩, s.data.toList.drop n) ∧ n ≤ s.size ∧ e = .returned (.tuple #[.agg #[.int .u8 2, .string x, .slice none 0 0, .string ⟨#[]⟩], .int .i64 n])))
set_option maxHeartbeats 8000000 in
set_option maxRecDepth 100000 in
theorem rshut9 (s : ByteArray) (a : Nat) (w : World) (hm : s.size ≤ 1000000) (ha : a + 2 ≤ s.size) : Calls Tryz.prog 62 #[.string s, .int .i64 a] w (ShutTo s a w) := by
  have HM := Lib.hid hm
  have HA := Lib.hid ha
  obtain ⟨t, ht⟩ : ∃ t : ByteArray, t.data.toList = wordL (s.data.toList.drop (a + 2)) := ⟨⟨(wordL (s.data.toList.drop (a + 2))).toArray⟩, rfl⟩
  have HT := Lib.hid ht
  have hte := empty_l t
  have hsl := ba_l s
  have htl := ba_l t
  have hwl : t.size = (wordL (s.data.toList.drop (a + 2))).length := by rw [← ht, htl]
  have hwd2 : t.size ≤ s.size - (a + 2) := by
    by_cases hw : wordL (s.data.toList.drop (a + 2)) = []
    · rw [hwl, hw]; simp
    · have := congrArg List.length (wordL_ne hw).2.1
      rw [List.length_append, List.length_drop, ← hwl, hsl] at this
      omega
  obtain ⟨a1, ha1⟩ : ∃ a1, a + 2 + t.size = a1 := ⟨_, rfl⟩
  have e1 : (a : Int) + 2 + (t.size : Int) = (a1 : Int) := by omega
  have HA1 : Hid (a1 ≤ s.size) := Lib.hid (by omega)
  obtain ⟨n1, hn1⟩ : ∃ n1, ((s.data.toList.drop a1).takeWhile blk).length = n1 := ⟨_, rfl⟩
  have HN1 := Lib.hid hn1
  have hl1 : n1 + a1 ≤ s.size := by
    have := congrArg List.length (tw_split blk (s.data.toList.drop a1)).1
    rw [List.length_append, hn1, List.length_drop, hsl] at this
    have := HA1.out
    omega
  obtain ⟨E, hE⟩ : ∃ E, a1 + n1 = E := ⟨_, rfl⟩
  have e2 : (a1 : Int) + (n1 : Int) = (E : Int) := by omega
  have hEq : eqAt s.data.toList (a + 2) = E := by unfold eqAt; rw [← hwl, ha1, hn1, hE]
  by_cases h0 : t.size = 0
  · have HN : Hid (shutL (s.data.toList.drop (a + 2)) = none) := Lib.hid (shutL_none0 (by rw [← ht]; exact List.eq_nil_of_length_eq_zero (htl.trans h0)))
    rw [decide_eq_true h0] at hte
    clear ht hsl htl h0 hwl hwd2 ha1 hn1 hE hEq
    go_enter Tryz.func62, Tryz.ntmps62
    go_wp2_with (first
      | (go_at_call 63; (with_reducible refine (rword9S s a _ HM.out HA.out t HT.out).mono ?_); rintro e w1 ⟨rfl, hb1⟩; have HG1 := Lib.hid (kept_heap (heap_alloc_new w (.cells zTk 32)) hb1); have HB1 := Lib.hid (stp (stpA (Below.refl w.heap.size w) (.cells zTk 32)) hb1); clear hb1)
      | (go_at_call 64; (with_reducible refine (rblanks9 s a1 _ HM.out HA1.out n1 HN1.out).mono ?_); rintro e w2 ⟨rfl, rfl⟩)
      | (refine wpList_store_row rfl _ _ _ rfl w.heap.size #[.int .u8 0, .string ⟨#[]⟩, .slice none 0 0, .string ⟨#[]⟩] rfl rfl 32 zTk HG1.out sizeTk rfl (oneTk _ _ _ _) ?_)
      | fail)
    exact bodyPost_ret (v := .tuple #[.agg #[.int .u8 0, .string ⟨#[]⟩, .slice none 0 0, .string ⟨#[]⟩], .int .i64 (-1)]) (rcell2 (p := 4) (q := 5) rfl _ _ _ _ #[.int .u8 0, .string ⟨#[]⟩, .slice none 0 0, .string ⟨#[]⟩] _ _ rfl (setRow_heap _ _ _ #[.int .u8 0, .string ⟨#[]⟩, .slice none 0 0, .string ⟨#[]⟩] _ _ HG1.out) Tryz.underlying32 rfl sizeTk) rfl ⟨below_setRowV HB1.out (Nat.le_refl _) _, .inl ⟨HN.out, rfl⟩⟩
  · have HW : Hid (wordL (s.data.toList.drop (a + 2)) ≠ []) := Lib.hid fun e => by rw [← ht] at e; rw [e] at htl; exact h0 (by simpa using htl.symm)
    rw [decide_eq_false h0] at hte
    clear ht hsl htl h0 hwl hwd2 ha1 hn1 hE
    by_cases hEs : s.size ≤ E
    · have HN : Hid (shutL (s.data.toList.drop (a + 2)) = none) := Lib.hid (shutL_end HW.out (by rw [hEq, ba_l]; exact hEs))
      clear hEq
      go_enter Tryz.func62, Tryz.ntmps62
      go_wp2_with (first
        | (go_at_call 63; (with_reducible refine (rword9S s a _ HM.out HA.out t HT.out).mono ?_); rintro e w1 ⟨rfl, hb1⟩; have HG1 := Lib.hid (kept_heap (heap_alloc_new w (.cells zTk 32)) hb1); have HB1 := Lib.hid (stp (stpA (Below.refl w.heap.size w) (.cells zTk 32)) hb1); clear hb1)
        | (go_at_call 64; (with_reducible refine (rblanks9 s a1 _ HM.out HA1.out n1 HN1.out).mono ?_); rintro e w2 ⟨rfl, rfl⟩)
        | (refine wpList_store_row rfl _ _ _ rfl w.heap.size #[.int .u8 0, .string ⟨#[]⟩, .slice none 0 0, .string ⟨#[]⟩] rfl rfl 32 zTk HG1.out sizeTk rfl (oneTk _ _ _ _) ?_)
        | fail)
      exact bodyPost_ret (v := .tuple #[.agg #[.int .u8 0, .string ⟨#[]⟩, .slice none 0 0, .string ⟨#[]⟩], .int .i64 (-1)]) (rcell2 (p := 4) (q := 5) rfl _ _ _ _ #[.int .u8 0, .string ⟨#[]⟩, .slice none 0 0, .string ⟨#[]⟩] _ _ rfl (setRow_heap _ _ _ #[.int .u8 0, .string ⟨#[]⟩, .slice none 0 0, .string ⟨#[]⟩] _ _ HG1.out) Tryz.underlying32 rfl sizeTk) rfl ⟨below_setRowV HB1.out (Nat.le_refl _) _, .inl ⟨HN.out, rfl⟩⟩
    · have hElt : E < s.size := by omega
      have bE : (0 : Int) ≤ (E : Int) ∧ (E : Int) < (s.size : Int) := by omega
      obtain ⟨c, hc⟩ : ∃ c, s[E]'hElt = c := ⟨_, rfl⟩
      have hca : ∀ h, s[E]'h = c := fun _ => hc
      have hEl : E < s.data.toList.length := by rw [ba_l]; exact hElt
      have hck : s.data.toList[E]'hEl = c := (at_l s E hElt).trans hc
      have hcl := c.toNat_lt
      by_cases h62 : c.toNat = 62
      · have f62 : ((c.toNat : Int) != 62) = false := by simp; omega
        have e62 : c = 62 := UInt8.toNat_inj.1 h62
        have HS : Hid (shutL (s.data.toList.drop (a + 2)) = some (⟨2, t.data.toList, [], []⟩, s.data.toList.drop (E + 1))) := Lib.hid (by
          have := shutL_yes HW.out (by rw [hEq]; exact hEl) (by simp only [hEq]; rw [hck]; exact e62)
          rw [this, hEq, HT.out])
        clear hck hc hEq h62 e62
        go_enter Tryz.func62, Tryz.ntmps62
        go_wp2_with (first
          | (go_at_call 63; (with_reducible refine (rword9S s a _ HM.out HA.out t HT.out).mono ?_); rintro e w1 ⟨rfl, hb1⟩; have HG1 := Lib.hid (kept_heap (heap_alloc_new w (.cells zTk 32)) hb1); have HB1 := Lib.hid (stp (stpA (Below.refl w.heap.size w) (.cells zTk 32)) hb1); clear hb1)
          | (go_at_call 64; (with_reducible refine (rblanks9 s a1 _ HM.out HA1.out n1 HN1.out).mono ?_); rintro e w2 ⟨rfl, rfl⟩)
          | (refine wpList_store_row rfl _ _ _ rfl w.heap.size #[.int .u8 2, .string t, .slice none 0 0, .string ⟨#[]⟩] rfl rfl 32 zTk HG1.out sizeTk rfl (oneTk _ _ _ _) ?_)
          | fail)
        exact bodyPost_ret (v := .tuple #[.agg #[.int .u8 2, .string t, .slice none 0 0, .string ⟨#[]⟩], .int .i64 ((E : Int) + 1)]) (rcell2 (p := 4) (q := 5) rfl _ _ _ _ #[.int .u8 2, .string t, .slice none 0 0, .string ⟨#[]⟩] _ _ rfl (setRow_heap _ _ _ #[.int .u8 2, .string t, .slice none 0 0, .string ⟨#[]⟩] _ _ HG1.out) Tryz.underlying32 rfl sizeTk) rfl ⟨below_setRowV HB1.out (Nat.le_refl _) _, .inr ⟨t, E + 1, HS.out, by omega, rfl⟩⟩
      · have f62 : ((c.toNat : Int) != 62) = true := by simp; omega
        have HN : Hid (shutL (s.data.toList.drop (a + 2)) = none) := Lib.hid (shutL_other HW.out (by rw [hEq]; exact hEl) (by simp only [hEq]; rw [hck]; rintro rfl; exact h62 rfl))
        clear hck hc hEq h62
        go_enter Tryz.func62, Tryz.ntmps62
        go_wp2_with (first
          | (go_at_call 63; (with_reducible refine (rword9S s a _ HM.out HA.out t HT.out).mono ?_); rintro e w1 ⟨rfl, hb1⟩; have HG1 := Lib.hid (kept_heap (heap_alloc_new w (.cells zTk 32)) hb1); have HB1 := Lib.hid (stp (stpA (Below.refl w.heap.size w) (.cells zTk 32)) hb1); clear hb1)
          | (go_at_call 64; (with_reducible refine (rblanks9 s a1 _ HM.out HA1.out n1 HN1.out).mono ?_); rintro e w2 ⟨rfl, rfl⟩)
          | (refine wpList_store_row rfl _ _ _ rfl w.heap.size #[.int .u8 0, .string ⟨#[]⟩, .slice none 0 0, .string ⟨#[]⟩] rfl rfl 32 zTk HG1.out sizeTk rfl (oneTk _ _ _ _) ?_)
          | fail)
        exact bodyPost_ret (v := .tuple #[.agg #[.int .u8 0, .string ⟨#[]⟩, .slice none 0 0, .string ⟨#[]⟩], .int .i64 (-1)]) (rcell2 (p := 4) (q := 5) rfl _ _ _ _ #[.int .u8 0, .string ⟨#[]⟩, .slice none 0 0, .string ⟨#[]⟩] _ _ rfl (setRow_heap _ _ _ #[.int .u8 0, .string ⟨#[]⟩, .slice none 0 0, .string ⟨#[]⟩] _ _ HG1.out) Tryz.underlying32 rfl sizeTk) rfl ⟨below_setRowV HB1.out (Nat.le_refl _) _, .inl ⟨HN.out, rfl⟩⟩
end Hx
end Go.Proofs.YtichboamakgabaaGreatDoor
