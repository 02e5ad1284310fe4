/-
  Texts of one seat, put together: TextQ, EscB, LeaA, LeaB, LeaC.
-/
import Derived.Test.YtlhjcdkkmloamaaGreatDoorSp07
import Derived.Laws.RangeAny
import Derived.Lib.OthersKept
import Derived.Deep.LoopGhost
import Derived.Test.YtlhjcdkkmloamaaGreatDoorSp04
import Derived.Test.YtlhjcdkkmloamaaGreatDoorSp01
import Derived.Test.YtlhjcdkkmloamaaGreatDoorSp02
import Derived.Test.YtlhjcdkkmloamaaGreatDoorShelf
import Derived.Lib.IndexLaws
import Derived.RegionTactic
import Derived.Test.YtlhjcdkkmloamaaGreatDoorSp06
import Derived.Test.YtlhjcdkkmloamaaGreatDoorSp05
import Derived.Maps.OwnSet
import Derived.Maps.OwnOps
set_option linter.unusedSimpArgs false
namespace Go.Proofs.YtlhjcdkkmloamaaGreatDoor
open Go.RowKit
namespace Hx
open Tx
set_option maxRecDepth 100000
set_option maxHeartbeats 16000000
set_option linter.unusedVariables false
theorem drop_len (s : ByteArray) (a : Nat) : (s.data.toList.drop a).length = s.size - a := by rw [List.length_drop, ba_len5]
theorem step_some (s : ByteArray) (a p k : Nat) (ha : a < s.size) (ho : one (s.data.toList.drop a) = some (p, k)) :
    Utf8.decode s a = (p, k) ∧ runeL (s.data.toList.drop a) = p ∧ 1 ≤ k ∧ a + k ≤ s.size ∧ pts (s.data.toList.drop a) = (pts (s.data.toList.drop (a + k))).map (p :: ·) := by
  have hne : s.data.toList.drop a ≠ [] := by
    intro h
    have := drop_len s a
    rw [h] at this
    simp at this
    omega
  have hd : decL (s.data.toList.drop a) = some (p, k) := by
    unfold one at ho
    rw [Option.filter_eq_some_iff] at ho
    exact ho.1
  obtain ⟨h1, h2, _⟩ := one_le ho
  rw [drop_len] at h2
  refine ⟨?_, ?_, h1, by omega, ?_⟩
  · rw [decode_eq s a ha, hd]
  · rw [runeL, hd]
  · rw [pts_step _ hne, ho]
    show Option.map _ (pts (List.drop k (List.drop a s.data.toList))) = _
    rw [List.drop_drop]
theorem step_rune (s : ByteArray) (a : Nat) (ha : a < s.size) : (Utf8.decode s a).1 = runeL (s.data.toList.drop a) := by
  rw [decode_eq s a ha, runeL]
  cases decL (s.data.toList.drop a) <;> rfl
theorem step_none (s : ByteArray) (a : Nat) (ha : a < s.size) (ho : one (s.data.toList.drop a) = none) : pts (s.data.toList.drop a) = none := by
  have hne : s.data.toList.drop a ≠ [] := by
    intro h
    have := drop_len s a
    rw [h] at this
    simp at this
    omega
  rw [pts_step _ hne, ho]
theorem pts_end (s : ByteArray) (a : Nat) (h : ¬ a < s.size) : pts (s.data.toList.drop a) = some [] := by
  rw [List.drop_of_length_le (by rw [ba_len5]; omega)]
  rfl
theorem below_iter (w : World) (s : ByteArray) (p : Nat) : Below w.heap.size w (w.iter s p) := stpA (Below.refl _ _) _
theorem check5 (s : ByteArray) (w : World) (hm : s.size ≤ 1000000) (q : Int) (h : chkE s = q) : Calls Tryz.prog 42 #[.string s] w fun e w' => e = .returned (.int .i64 q) ∧ Below w.heap.size w w' := by
  unfold chkE at h
  by_cases h1 : 16384 < s.size
  · rw [if_pos h1] at h
    subst h
    have d0 : decide ((16384 : Int) < (s.size : Int)) = true := by simp; omega
    clear hm
    go_enter Tryz.func42, Tryz.ntmps42
    go_wp2_with fail
    go_ret
    exact ⟨rfl, Below.refl _ _⟩
  · rw [if_neg h1] at h
    have d0 : decide ((16384 : Int) < (s.size : Int)) = false := by simp; omega
    have d1 : ¬ (16384 < s.size) := h1
    have HQ := Lib.hid h
    clear h hm
    go_enter Tryz.func42, Tryz.ntmps42
    go_wp2_with fail
    go_loopg [3, 4] s.size (fun g x y wr => ∃ pos : Nat, s.size ≤ pos + g ∧ wr = w.iter s pos ∧ (pts (s.data.toList.drop pos)).isSome = (pts s.data.toList).isSome)
    case atStart => exact ⟨0, by omega, rfl, rfl⟩
    case round =>
      obtain ⟨pos, hg, rfl, hp⟩ := hrel
      have HP := Lib.hid hp
      clear hp
      by_cases hlt : pos < s.size
      · have hnx : ∀ ty, (Instr.next (.pointer (some ⟨w.heap.size, 0, none⟩)) true ty).run Tryz.prog (w.iter s pos) = _ := fun ty => run_next_any w s pos ty hlt
        have b0 : (0 : Int) ≤ (pos : Int) ∧ (pos : Int) ≤ (s.size : Int) := by omega
        have b1 : pos ≤ s.size := by omega
        obtain ⟨c, hc⟩ : ∃ c, runeL (s.data.toList.drop pos) = c := ⟨_, rfl⟩
        have HX := Lib.hid (extract_drop s pos)
        have HC := Lib.hid hc
        rw [step_rune s pos hlt, hc] at hnx
        cases ho : one (s.data.toList.drop pos) with
        | none =>
          have hq := HQ.out
          rw [← HP.out, step_none s pos hlt ho] at hq
          obtain rfl : (50 : Int) = q := hq
          have HO : Hid ((one (s.data.toList.drop pos)).isSome = false) := by show _ = _; rw [ho]; rfl
          clear hc ho
          go_wp2_with (go_at_call 60; (with_reducible refine (begins5 (s.data.toList.drop pos) _ c false _ HX.out HC.out HO.out).mono ?_); rintro e w1 ⟨rfl, rfl⟩)
          go_ret
          exact ⟨rfl, below_iter w s _⟩
        | some x =>
          obtain ⟨p, k⟩ := x
          obtain ⟨e1, e2, e3, e4, e5⟩ := step_some s pos p k hlt ho
          have HO : Hid ((one (s.data.toList.drop pos)).isSome = true) := by show _ = _; rw [ho]; rfl
          rw [e1] at hnx
          have HN : Hid ((pts (s.data.toList.drop (pos + k))).isSome = (pts s.data.toList).isSome) := by
            show _ = _
            rw [← HP.out, e5]
            simp
          clear hc ho e1 e2 e5
          go_wp2_with (go_at_call 60; (with_reducible refine (begins5 (s.data.toList.drop pos) _ c true _ HX.out HC.out HO.out).mono ?_); rintro e w1 ⟨rfl, rfl⟩)
          go_roundg (gk - 1)
          case rel => exact ⟨pos + k, by omega, rfl, HN.out⟩
          case measure => omega
      · have hnx : ∀ ty, (Instr.next (.pointer (some ⟨w.heap.size, 0, none⟩)) true ty).run Tryz.prog (w.iter s pos) = _ := fun ty => run_next_end w s pos ty hlt
        have hq := HQ.out
        rw [← HP.out, pts_end s pos hlt] at hq
        obtain rfl : (0 : Int) = q := hq
        go_wp2_with fail
        go_ret
        exact ⟨rfl, below_iter w s _⟩
end Hx
end Go.Proofs.YtlhjcdkkmloamaaGreatDoor
namespace Go.Proofs.YtlhjcdkkmloamaaGreatDoor
open Go.RowKit
namespace Hx
open Tx Nmb Es
set_option linter.unusedVariables false
end Hx
end Go.Proofs.YtlhjcdkkmloamaaGreatDoor
namespace Go.Proofs.YtlhjcdkkmloamaaGreatDoor
namespace Lx
open Tx Nmb Es
set_option linter.unusedVariables false
def fresh : List Pr → List Pr → Bool
  | _, [] => true
  | acc, p :: r => !hasL acc p.name && fresh (acc ++ [p]) r
def dis : List Pr → List Pr → Nat
  | _, [] => 0
  | acc, p :: r => (if hasL acc p.name then 0 else 1) + dis (acc ++ [p]) r
theorem dis_snoc : ∀ (l acc : List Pr) (p : Pr), dis acc (l ++ [p]) = dis acc l + (if hasL (acc ++ l) p.name then 0 else 1) := by
  intro l
  induction l with
  | nil => intro acc p; simp [dis]
  | cons q l ih =>
    intro acc p
    rw [List.cons_append]
    show (if hasL acc q.name then 0 else 1) + dis (acc ++ [q]) (l ++ [p]) = ((if hasL acc q.name then 0 else 1) + dis (acc ++ [q]) l) + _
    rw [ih, List.append_assoc, List.singleton_append, Nat.add_assoc]
theorem dis_le : ∀ (l acc : List Pr), dis acc l ≤ l.length ∧ (dis acc l = l.length ↔ fresh acc l = true) := by
  intro l
  induction l with
  | nil => intro acc; simp [dis, fresh]
  | cons q l ih =>
    intro acc
    obtain ⟨h1, h2⟩ := ih (acc ++ [q])
    unfold dis fresh
    rw [List.length_cons]
    cases hh : hasL acc q.name
    · simp
      refine ⟨by omega, ?_⟩
      rw [← h2]
      omega
    · simp
      omega
theorem attrsF_fresh : ∀ (l acc : List Pr), attrsF acc l = (fresh acc l && l.all fun p => fullL p.name && okT p.value) := by
  intro l
  induction l with
  | nil => intro acc; rfl
  | cons p l ih =>
    intro acc
    unfold attrsF fresh
    rw [ih, List.all_cons]
    cases fullL p.name <;> cases hasL acc p.name <;> cases okT p.value <;> simp
def tagN : Nat → List UInt8 → Option (Bool × List Pr × List UInt8)
  | 0, _ => none
  | f + 1, l => match l.dropWhile blk with
    | [] => none
    | c :: x => if c = 62 then some (false, [], x) else if c = 47 ∧ x.head? = some 62 then some (true, [], x.tail) else
      match attrL (c :: x) with
      | none => none
      | some (p, y) => if l.length = (c :: x).length then none else (tagN f y).map fun q => (q.1, p :: q.2.1, q.2.2)
theorem tagN_same : ∀ (f g : Nat) (l : List UInt8), l.length < f → l.length < g → tagN f l = tagN g l := by
  intro f
  induction f with
  | zero => intro g l h; omega
  | succ f ih =>
    intro g l h1 h2
    cases g with
    | zero => omega
    | succ g =>
      unfold tagN
      have hd := dropWhile_len blk l
      cases hb : l.dropWhile blk with
      | nil => rfl
      | cons c x =>
        dsimp only
        split
        · rfl
        split
        · rfl
        cases ha : attrL (c :: x) with
        | none => rfl
        | some q =>
          obtain ⟨p, y⟩ := q
          have hl := attrL_len ha
          rw [hb] at hd
          dsimp only
          split
          · rfl
          rw [ih g y (by omega) (by omega)]
theorem tagF_N : ∀ (f : Nat) (acc : List Pr) (l : List UInt8), tagF f acc l = match tagN f l with
    | none => none
    | some (b, m, x) => if fresh acc m = true then some (b, acc ++ m, x) else none := by
  intro f
  induction f with
  | zero => intro acc l; rfl
  | succ f ih =>
    intro acc l
    unfold tagF tagN
    cases hb : l.dropWhile blk with
    | nil => rfl
    | cons c x =>
      dsimp only
      by_cases h1 : c = 62
      · rw [if_pos h1, if_pos h1]
        simp [fresh]
      rw [if_neg h1, if_neg h1]
      by_cases h2 : c = 47 ∧ x.head? = some 62
      · rw [if_pos h2, if_pos h2]
        simp [fresh]
      rw [if_neg h2, if_neg h2]
      cases ha : attrL (c :: x) with
      | none => rfl
      | some q =>
        obtain ⟨p, y⟩ := q
        dsimp only
        by_cases h3 : l.length = (c :: x).length
        · rw [if_pos (.inl h3), if_pos h3]
        · rw [if_neg h3]
          by_cases h4 : hasL acc p.name = true
          · rw [if_pos (.inr h4)]
            cases tagN f y with
            | none => rfl
            | some r =>
              obtain ⟨b, m, z⟩ := r
              simp [fresh, h4]
          · rw [if_neg (by rintro (h | h); exact h3 h; exact h4 h), ih]
            cases tagN f y with
            | none => rfl
            | some r =>
              obtain ⟨b, m, z⟩ := r
              simp [fresh, h4]
def tagH (l : List UInt8) : Option (Bool × List Pr × List UInt8) := tagN (l.length + 1) l
theorem tagH_shut {l x : List UInt8} (h : l.dropWhile blk = 62 :: x) : tagH l = some (false, [], x) := by unfold tagH tagN; rw [h]; simp
theorem tagH_bare {l x : List UInt8} (h : l.dropWhile blk = 47 :: 62 :: x) : tagH l = some (true, [], x) := by unfold tagH tagN; rw [h]; simp
def noEnd9 (l : List UInt8) : Prop := l.head? ≠ some 62 ∧ l.take 2 ≠ [47, 62]
theorem noEnd9_cons {c : UInt8} {x : List UInt8} (h : noEnd9 (c :: x)) : c ≠ 62 ∧ ¬ (c = 47 ∧ x.head? = some 62) := by
  obtain ⟨h1, h2⟩ := h
  refine ⟨fun e => h1 (by rw [e]; rfl), ?_⟩
  rintro ⟨rfl, h4⟩
  cases x with
  | nil => cases h4
  | cons d x => injection h4 with h4; exact h2 (by rw [h4]; rfl)
theorem tagH_none {l : List UInt8} (h : noEnd9 (l.dropWhile blk)) (h2 : (l.dropWhile blk).length = l.length ∨ attrL (l.dropWhile blk) = none) : tagH l = none := by
  unfold tagH tagN
  cases hb : l.dropWhile blk with
  | nil => rfl
  | cons c x =>
    rw [hb] at h h2
    obtain ⟨h3, h4⟩ := noEnd9_cons h
    dsimp only
    rw [if_neg h3, if_neg h4]
    rcases h2 with h2 | h2
    · cases attrL (c :: x) with
      | none => rfl
      | some q => dsimp only; rw [if_pos h2.symm]
    · rw [h2]
theorem tagH_next {l y : List UInt8} {p : Pr} (h : noEnd9 (l.dropWhile blk)) (h2 : (l.dropWhile blk).length ≠ l.length) (ha : attrL (l.dropWhile blk) = some (p, y)) : tagH l = (tagH y).map fun q => (q.1, p :: q.2.1, q.2.2) := by
  have hd := dropWhile_len blk l
  have hl := attrL_len ha
  unfold tagH
  conv => lhs; unfold tagN
  cases hb : l.dropWhile blk with
  | nil => rw [hb] at ha; cases ha
  | cons c x =>
    rw [hb] at h h2 ha hd hl
    obtain ⟨h3, h4⟩ := noEnd9_cons h
    dsimp only
    rw [if_neg h3, if_neg h4, ha]
    dsimp only
    rw [if_neg (fun e => h2 e.symm), tagN_same l.length (y.length + 1) y (by omega) (by omega)]
theorem tagL_H {l : List UInt8} (h47 : l.head? ≠ some 47) (hw : wordL l ≠ []) : tagL l = match tagH (l.drop (wordL l).length) with
    | none => none
    | some (b, m, x) => if fresh [] m = true then some (⟨if b then 3 else 1, wordL l, m, []⟩, x) else none := by
  unfold tagL tagH
  rw [if_neg h47, if_neg hw, tagF_N, tagN_same (l.length + 1) ((l.drop (wordL l).length).length + 1) _ (by rw [List.length_drop]; omega) (by omega)]
  cases tagN ((l.drop (wordL l).length).length + 1) (l.drop (wordL l).length) with
  | none => rfl
  | some r =>
    obtain ⟨b, m, x⟩ := r
    dsimp only
    by_cases hf : fresh [] m = true
    · rw [if_pos hf, if_pos hf]
      simp
    · rw [if_neg hf, if_neg hf]
      rfl
theorem tagL_no {l : List UInt8} (h47 : l.head? ≠ some 47) (hw : wordL l = []) : tagL l = none := by unfold tagL; rw [if_neg h47, if_pos hw]
theorem tagL_47 {l : List UInt8} : tagL (47 :: l) = shutL l := by unfold tagL; simp
theorem tw_len (p : UInt8 → Bool) (l : List UInt8) : l.drop (l.takeWhile p).length = l.dropWhile p ∧ l.take (l.takeWhile p).length = l.takeWhile p := by
  induction l with
  | nil => simp
  | cons c l ih =>
    by_cases h : p c = true
    · rw [List.takeWhile_cons_of_pos h, List.dropWhile_cons_of_pos h, List.length_cons, List.drop_succ_cons, List.take_succ_cons, ih.1, ih.2]
      exact ⟨rfl, rfl⟩
    · rw [List.takeWhile_cons_of_neg h, List.dropWhile_cons_of_neg h]
      exact ⟨rfl, rfl⟩
theorem wordL_of (l : List UInt8) : (fullL (l.takeWhile wch) = true → wordL l = l.takeWhile wch ∧ wordL l ≠ [] ∧ l.drop (wordL l).length = l.dropWhile wch) ∧ (fullL (l.takeWhile wch) = false → wordL l = []) := by
  refine ⟨fun h => ?_, fun h => ?_⟩
  · have e : wordL l = l.takeWhile wch := by unfold wordL; rw [if_pos h]
    refine ⟨e, by rw [e]; exact fullL_ne h, ?_⟩
    rw [e]
    exact (tw_len wch l).1
  · unfold wordL
    rw [if_neg (by rw [h]; decide)]
def ne (q c : UInt8) : Bool := c != q
theorem ne_iff (q c : UInt8) : ne q c = true ↔ c ≠ q := by unfold ne; simp
theorem cutQ_ne (q : UInt8) (l : List UInt8) : cutQ q l = match l.dropWhile (ne q) with | [] => none | _ :: y => some (l.takeWhile (ne q), y) := by
  obtain ⟨h1, h2, h3⟩ := tw_split (ne q) l
  cases hd : l.dropWhile (ne q) with
  | nil =>
    rw [hd, List.append_nil] at h1
    dsimp only
    refine cutQ_none fun hm => ?_
    rw [h1] at hm
    exact (ne_iff q q).1 (h2 q hm) rfl
  | cons c y =>
    have hc := h3 c y hd
    have : c = q := by unfold ne at hc; simpa using hc
    subst this
    rw [hd] at h1
    dsimp only
    conv => lhs; rw [h1]
    refine cutQ_of y fun hm => (ne_iff c c).1 (h2 c hm) rfl
theorem txt_ne : txt = ne 60 := rfl
end Lx
end Go.Proofs.YtlhjcdkkmloamaaGreatDoor
namespace Go.Proofs.YtlhjcdkkmloamaaGreatDoor
open Go.RowKit
namespace Hx
open Lx
set_option maxRecDepth 100000
set_option maxHeartbeats 16000000
set_option linter.unusedVariables false
theorem cut_uniq {c : UInt8} : ∀ {a a' b b' : List UInt8}, a ++ c :: b = a' ++ c :: b' → c ∉ a → c ∉ a' → a = a' ∧ b = b' := by
  intro a
  induction a with
  | nil =>
    intro a' b b' h _ h2
    cases a' with
    | nil => injection h with _ h; exact ⟨rfl, h⟩
    | cons d a' => injection h with h _; exact absurd (by rw [h]; simp) h2
  | cons d a ih =>
    intro a' b b' h h1 h2
    cases a' with
    | nil => injection h with h _; exact absurd (by rw [← h]; simp) h1
    | cons d' a' =>
      injection h with e h
      rw [List.mem_cons, not_or] at h1 h2
      obtain ⟨q1, q2⟩ := ih h h1.2 h2.2
      exact ⟨by rw [e, q1], q2⟩
theorem xix_cases (l : List UInt8) (c : UInt8) : (Lib.indexByte l c = -1 ∧ c ∉ l) ∨ ∃ i : Nat, Lib.indexByte l c = (i : Int) ∧ i < l.length ∧ l = l.take i ++ c :: l.drop (i + 1) ∧ c ∉ l.take i := by
  have hge := Lib.indexByte_ge l c
  by_cases h : Lib.indexByte l c = -1
  · left
    refine ⟨h, fun hc => ?_⟩
    obtain ⟨k, hk⟩ := List.mem_iff_getElem?.1 hc
    exact Lib.indexByte_none h k hk
  · right
    obtain ⟨i, hi⟩ : ∃ i : Nat, Lib.indexByte l c = (i : Int) := ⟨(Lib.indexByte l c).toNat, by omega⟩
    obtain ⟨h1, h2⟩ := Lib.indexByte_some hi
    obtain ⟨hlt, hc⟩ := List.getElem?_eq_some_iff.1 h1
    refine ⟨i, hi, hlt, ?_, fun hm => ?_⟩
    · conv => lhs; rw [← List.take_append_drop i l]
      rw [List.drop_eq_getElem_cons hlt, hc]
    · obtain ⟨k, hk⟩ := List.mem_iff_getElem?.1 hm
      rw [List.getElem?_take] at hk
      split at hk
      · exact h2 k (by assumption) hk
      · cases hk
theorem cutC_some9 {l : List UInt8} (h : (58 : UInt8) ∈ l) : (cutC l).isSome = true := by
  induction l with
  | nil => cases h
  | cons c l ih =>
    show (if c = 58 then _ else _ : Option _).isSome = true
    split
    · rfl
    · rename_i hc
      rcases List.mem_cons.1 h with e | e
      · exact absurd e.symm hc
      · show (Option.map _ (cutC l)).isSome = true
        rw [Option.isSome_map]
        exact ih e
def XCutAt (p r : ByteArray) (b : Bool) (w : World) (e : Ending) (w' : World) : Prop := e = .returned (.tuple #[.string p, .string r, .bool b]) ∧ Below w.heap.size w w'
theorem xib_58 (s : ByteArray) (q : Int) (w : World) (h : Lib.indexByte s.data.toList 58 = q) :
    Calls Tryz.prog 80 #[.string s, .int .u8 ↑((⟨#[58]⟩ : ByteArray)[0]'(by decide)).toNat] w fun e w' => e = .returned (.int .i64 q) ∧ w = w' := by
  refine (Tryz.stringslite_IndexByte s _ w).mono fun e w' ⟨h1, h2⟩ => ⟨?_, h2.symm⟩
  rw [h1, ← h]
  rfl
theorem xindex_58 (s : ByteArray) (q : Int) (w : World) (h : Lib.indexByte s.data.toList 58 = q) :
    Calls Tryz.prog 68 #[.string s, .string ⟨#[58]⟩] w fun e w' => e = .returned (.int .i64 q) ∧ w = w' := by
  have H := Lib.hid h
  cases hq : ([58] == s.toList) with
  | true =>
    obtain rfl : (0 : Int) = q := by
      have e : s.data.toList = [58] := by
        rw [beq_iff_eq, ByteArray.toList_eq] at hq
        exact hq.symm
      rw [← h, e]
      rfl
    clear h
    go_enter Tryz.func68, Tryz.ntmps68
    go_wp2_with fail
    go_ret
    exact ⟨rfl, rfl⟩
  | false =>
    clear h
    go_enter Tryz.func68, Tryz.ntmps68
    go_wp2_with (first
      | (go_at_call 80; (with_reducible refine (xib_58 s q w H.out).mono ?_); rintro e w1 ⟨rfl, rfl⟩)
      | fail)
    go_ret
    exact ⟨rfl, rfl⟩
theorem xslcut_no_58 (s : ByteArray) (w : World) (h : Lib.indexByte s.data.toList 58 = -1) :
    Calls Tryz.prog 50 #[.string s, .string ⟨#[58]⟩] w (XCutAt s ⟨#[]⟩ false w) := by
  have H := Lib.hid h
  clear h
  go_enter Tryz.func50, Tryz.ntmps50
  go_wp2_with (first
    | (go_at_call 68; (with_reducible refine (xindex_58 s (-1) w H.out).mono ?_); rintro e w1 ⟨rfl, rfl⟩)
    | fail)
  go_ret3
  exact ⟨rfl, Below.refl _ _⟩
theorem xslcut_yes_58 (s p r : ByteArray) (i j n : Nat) (w : World) (hm : s.size ≤ 1000000) (h : Lib.indexByte s.data.toList 58 = (i : Int)) (hi : i < s.size) (hj : i + 1 = j) (hn : s.size = n) (hp : s.extract 0 i = p) (hr : s.extract j n = r) :
    Calls Tryz.prog 50 #[.string s, .string ⟨#[58]⟩] w (XCutAt p r true w) := by
  have H := Lib.hid h
  have b1 : (0 : Int) ≤ (i : Int) ∧ (i : Int) ≤ (s.size : Int) := by omega
  have b2 : (0 : Int) ≤ (j : Int) ∧ (j : Int) ≤ (s.size : Int) := by omega
  have s1 : IntKind.i64.wrap ((i : Int) + 1) = (j : Int) := by rw [IntWalk.i64_in _ (by omega)]; omega
  have d1 : decide ((0 : Int) ≤ (i : Int)) = true := by simp
  rw [← hn] at hr
  clear h hm hi hj hn
  go_enter Tryz.func50, Tryz.ntmps50
  go_wp2_with (first
    | (go_at_call 68; (with_reducible refine (xindex_58 s (i : Int) w H.out).mono ?_); rintro e w1 ⟨rfl, rfl⟩)
    | fail)
  go_region
  go_wp2_with fail
  go_ret3
  exact ⟨rfl, (show Below w.heap.size w w.drew from ⟨rfl, rfl, rfl, Nat.le_refl _, fun _ _ => rfl⟩)⟩
theorem xcut_no_58 (s : ByteArray) (w : World) (h : Lib.indexByte s.data.toList 58 = -1) :
    Calls Tryz.prog 33 #[.string s, .string ⟨#[58]⟩] w (XCutAt s ⟨#[]⟩ false w) := by
  have H := Lib.hid h
  clear h
  go_enter Tryz.func33, Tryz.ntmps33
  go_wp2_with (first
    | (go_at_call 50; (with_reducible refine (xslcut_no_58 s w H.out).mono ?_); rintro e w1 ⟨rfl, hb1⟩)
    | fail)
  go_ret3
  exact ⟨rfl, hb1⟩
theorem xcut_yes_58 (s p r : ByteArray) (i j n : Nat) (w : World) (hm : s.size ≤ 1000000) (h : Lib.indexByte s.data.toList 58 = (i : Int)) (hi : i < s.size) (hj : i + 1 = j) (hn : s.size = n) (hp : s.extract 0 i = p) (hr : s.extract j n = r) :
    Calls Tryz.prog 33 #[.string s, .string ⟨#[58]⟩] w (XCutAt p r true w) := by
  have H : Hid (Calls Tryz.prog 50 #[.string s, .string ⟨#[58]⟩] w (XCutAt p r true w)) := xslcut_yes_58 s p r i j n w hm h hi hj hn hp hr
  clear hm h hi hj hn hp hr
  go_enter Tryz.func33, Tryz.ntmps33
  go_wp2_with (first
    | (go_at_call 50; (with_reducible refine (H.out).mono ?_); rintro e w1 ⟨rfl, hb1⟩)
    | fail)
  go_ret3
  exact ⟨rfl, hb1⟩
theorem xcut_58_none (s : ByteArray) (w : World) (h : (58 : UInt8) ∉ s.data.toList) :
    Calls Tryz.prog 33 #[.string s, .string ⟨#[58]⟩] w (XCutAt s ⟨#[]⟩ false w) := by
  rcases xix_cases s.data.toList 58 with ⟨h1, _⟩ | ⟨i, _, hi, e, _⟩
  · exact xcut_no_58 s w h1
  · exfalso; apply h; rw [e]; simp
theorem xcut_58_some (s p r : ByteArray) (w : World) (hm : s.size ≤ 1000000) (h : s.data.toList = p.data.toList ++ 58 :: r.data.toList) (hp : (58 : UInt8) ∉ p.data.toList) :
    Calls Tryz.prog 33 #[.string s, .string ⟨#[58]⟩] w (XCutAt p r true w) := by
  rcases xix_cases s.data.toList 58 with ⟨_, h1⟩ | ⟨i, h1, hi, e, hn⟩
  · exfalso; apply h1; rw [h]; simp
  · have hsz := ba_l s
    obtain ⟨e1, e2⟩ := cut_uniq (e.symm.trans h) hn hp
    refine xcut_yes_58 s p r i (i + 1) s.size w hm h1 (by rw [← hsz]; exact hi) rfl rfl ?_ ?_
    · apply ba_x
      rw [extract_l s 0 i (by rw [← hsz]; omega), List.drop_zero, Nat.sub_zero, e1]
    · apply ba_x
      rw [extract_l s (i + 1) s.size (Nat.le_refl _), List.take_of_length_le (by rw [List.length_drop, hsz]; omega), e2]
theorem xib_60 (s : ByteArray) (q : Int) (w : World) (h : Lib.indexByte s.data.toList 60 = q) :
    Calls Tryz.prog 80 #[.string s, .int .u8 ↑((⟨#[60]⟩ : ByteArray)[0]'(by decide)).toNat] w fun e w' => e = .returned (.int .i64 q) ∧ w = w' := by
  refine (Tryz.stringslite_IndexByte s _ w).mono fun e w' ⟨h1, h2⟩ => ⟨?_, h2.symm⟩
  rw [h1, ← h]
  rfl
theorem xindex_60 (s : ByteArray) (q : Int) (w : World) (h : Lib.indexByte s.data.toList 60 = q) :
    Calls Tryz.prog 68 #[.string s, .string ⟨#[60]⟩] w fun e w' => e = .returned (.int .i64 q) ∧ w = w' := by
  have H := Lib.hid h
  cases hq : ([60] == s.toList) with
  | true =>
    obtain rfl : (0 : Int) = q := by
      have e : s.data.toList = [60] := by
        rw [beq_iff_eq, ByteArray.toList_eq] at hq
        exact hq.symm
      rw [← h, e]
      rfl
    clear h
    go_enter Tryz.func68, Tryz.ntmps68
    go_wp2_with fail
    go_ret
    exact ⟨rfl, rfl⟩
  | false =>
    clear h
    go_enter Tryz.func68, Tryz.ntmps68
    go_wp2_with (first
      | (go_at_call 80; (with_reducible refine (xib_60 s q w H.out).mono ?_); rintro e w1 ⟨rfl, rfl⟩)
      | fail)
    go_ret
    exact ⟨rfl, rfl⟩
theorem xslcut_no_60 (s : ByteArray) (w : World) (h : Lib.indexByte s.data.toList 60 = -1) :
    Calls Tryz.prog 50 #[.string s, .string ⟨#[60]⟩] w (XCutAt s ⟨#[]⟩ false w) := by
  have H := Lib.hid h
  clear h
  go_enter Tryz.func50, Tryz.ntmps50
  go_wp2_with (first
    | (go_at_call 68; (with_reducible refine (xindex_60 s (-1) w H.out).mono ?_); rintro e w1 ⟨rfl, rfl⟩)
    | fail)
  go_ret3
  exact ⟨rfl, Below.refl _ _⟩
theorem xslcut_yes_60 (s p r : ByteArray) (i j n : Nat) (w : World) (hm : s.size ≤ 1000000) (h : Lib.indexByte s.data.toList 60 = (i : Int)) (hi : i < s.size) (hj : i + 1 = j) (hn : s.size = n) (hp : s.extract 0 i = p) (hr : s.extract j n = r) :
    Calls Tryz.prog 50 #[.string s, .string ⟨#[60]⟩] w (XCutAt p r true w) := by
  have H := Lib.hid h
  have b1 : (0 : Int) ≤ (i : Int) ∧ (i : Int) ≤ (s.size : Int) := by omega
  have b2 : (0 : Int) ≤ (j : Int) ∧ (j : Int) ≤ (s.size : Int) := by omega
  have s1 : IntKind.i64.wrap ((i : Int) + 1) = (j : Int) := by rw [IntWalk.i64_in _ (by omega)]; omega
  have d1 : decide ((0 : Int) ≤ (i : Int)) = true := by simp
  rw [← hn] at hr
  clear h hm hi hj hn
  go_enter Tryz.func50, Tryz.ntmps50
  go_wp2_with (first
    | (go_at_call 68; (with_reducible refine (xindex_60 s (i : Int) w H.out).mono ?_); rintro e w1 ⟨rfl, rfl⟩)
    | fail)
  go_region
  go_wp2_with fail
  go_ret3
  exact ⟨rfl, (show Below w.heap.size w w.drew from ⟨rfl, rfl, rfl, Nat.le_refl _, fun _ _ => rfl⟩)⟩
theorem xcut_no_60 (s : ByteArray) (w : World) (h : Lib.indexByte s.data.toList 60 = -1) :
    Calls Tryz.prog 33 #[.string s, .string ⟨#[60]⟩] w (XCutAt s ⟨#[]⟩ false w) := by
  have H := Lib.hid h
  clear h
  go_enter Tryz.func33, Tryz.ntmps33
  go_wp2_with (first
    | (go_at_call 50; (with_reducible refine (xslcut_no_60 s w H.out).mono ?_); rintro e w1 ⟨rfl, hb1⟩)
    | fail)
  go_ret3
  exact ⟨rfl, hb1⟩
theorem xcut_yes_60 (s p r : ByteArray) (i j n : Nat) (w : World) (hm : s.size ≤ 1000000) (h : Lib.indexByte s.data.toList 60 = (i : Int)) (hi : i < s.size) (hj : i + 1 = j) (hn : s.size = n) (hp : s.extract 0 i = p) (hr : s.extract j n = r) :
    Calls Tryz.prog 33 #[.string s, .string ⟨#[60]⟩] w (XCutAt p r true w) := by
  have H : Hid (Calls Tryz.prog 50 #[.string s, .string ⟨#[60]⟩] w (XCutAt p r true w)) := xslcut_yes_60 s p r i j n w hm h hi hj hn hp hr
  clear hm h hi hj hn hp hr
  go_enter Tryz.func33, Tryz.ntmps33
  go_wp2_with (first
    | (go_at_call 50; (with_reducible refine (H.out).mono ?_); rintro e w1 ⟨rfl, hb1⟩)
    | fail)
  go_ret3
  exact ⟨rfl, hb1⟩
theorem xcut_60_none (s : ByteArray) (w : World) (h : (60 : UInt8) ∉ s.data.toList) :
    Calls Tryz.prog 33 #[.string s, .string ⟨#[60]⟩] w (XCutAt s ⟨#[]⟩ false w) := by
  rcases xix_cases s.data.toList 60 with ⟨h1, _⟩ | ⟨i, _, hi, e, _⟩
  · exact xcut_no_60 s w h1
  · exfalso; apply h; rw [e]; simp
theorem xcut_60_some (s p r : ByteArray) (w : World) (hm : s.size ≤ 1000000) (h : s.data.toList = p.data.toList ++ 60 :: r.data.toList) (hp : (60 : UInt8) ∉ p.data.toList) :
    Calls Tryz.prog 33 #[.string s, .string ⟨#[60]⟩] w (XCutAt p r true w) := by
  rcases xix_cases s.data.toList 60 with ⟨_, h1⟩ | ⟨i, h1, hi, e, hn⟩
  · exfalso; apply h1; rw [h]; simp
  · have hsz := ba_l s
    obtain ⟨e1, e2⟩ := cut_uniq (e.symm.trans h) hn hp
    refine xcut_yes_60 s p r i (i + 1) s.size w hm h1 (by rw [← hsz]; exact hi) rfl rfl ?_ ?_
    · apply ba_x
      rw [extract_l s 0 i (by rw [← hsz]; omega), List.drop_zero, Nat.sub_zero, e1]
    · apply ba_x
      rw [extract_l s (i + 1) s.size (Nat.le_refl _), List.take_of_length_le (by rw [List.length_drop, hsz]; omega), e2]
theorem xib_34 (s : ByteArray) (q : Int) (w : World) (h : Lib.indexByte s.data.toList 34 = q) :
    Calls Tryz.prog 80 #[.string s, .int .u8 ↑((⟨#[34]⟩ : ByteArray)[0]'(by decide)).toNat] w fun e w' => e = .returned (.int .i64 q) ∧ w = w' := by
  refine (Tryz.stringslite_IndexByte s _ w).mono fun e w' ⟨h1, h2⟩ => ⟨?_, h2.symm⟩
  rw [h1, ← h]
  rfl
theorem xindex_34 (s : ByteArray) (q : Int) (w : World) (h : Lib.indexByte s.data.toList 34 = q) :
    Calls Tryz.prog 68 #[.string s, .string ⟨#[34]⟩] w fun e w' => e = .returned (.int .i64 q) ∧ w = w' := by
  have H := Lib.hid h
  cases hq : ([34] == s.toList) with
  | true =>
    obtain rfl : (0 : Int) = q := by
      have e : s.data.toList = [34] := by
        rw [beq_iff_eq, ByteArray.toList_eq] at hq
        exact hq.symm
      rw [← h, e]
      rfl
    clear h
    go_enter Tryz.func68, Tryz.ntmps68
    go_wp2_with fail
    go_ret
    exact ⟨rfl, rfl⟩
  | false =>
    clear h
    go_enter Tryz.func68, Tryz.ntmps68
    go_wp2_with (first
      | (go_at_call 80; (with_reducible refine (xib_34 s q w H.out).mono ?_); rintro e w1 ⟨rfl, rfl⟩)
      | fail)
    go_ret
    exact ⟨rfl, rfl⟩
theorem xslcut_no_34 (s : ByteArray) (w : World) (h : Lib.indexByte s.data.toList 34 = -1) :
    Calls Tryz.prog 50 #[.string s, .string ⟨#[34]⟩] w (XCutAt s ⟨#[]⟩ false w) := by
  have H := Lib.hid h
  clear h
  go_enter Tryz.func50, Tryz.ntmps50
  go_wp2_with (first
    | (go_at_call 68; (with_reducible refine (xindex_34 s (-1) w H.out).mono ?_); rintro e w1 ⟨rfl, rfl⟩)
    | fail)
  go_ret3
  exact ⟨rfl, Below.refl _ _⟩
theorem xslcut_yes_34 (s p r : ByteArray) (i j n : Nat) (w : World) (hm : s.size ≤ 1000000) (h : Lib.indexByte s.data.toList 34 = (i : Int)) (hi : i < s.size) (hj : i + 1 = j) (hn : s.size = n) (hp : s.extract 0 i = p) (hr : s.extract j n = r) :
    Calls Tryz.prog 50 #[.string s, .string ⟨#[34]⟩] w (XCutAt p r true w) := by
  have H := Lib.hid h
  have b1 : (0 : Int) ≤ (i : Int) ∧ (i : Int) ≤ (s.size : Int) := by omega
  have b2 : (0 : Int) ≤ (j : Int) ∧ (j : Int) ≤ (s.size : Int) := by omega
  have s1 : IntKind.i64.wrap ((i : Int) + 1) = (j : Int) := by rw [IntWalk.i64_in _ (by omega)]; omega
  have d1 : decide ((0 : Int) ≤ (i : Int)) = true := by simp
  rw [← hn] at hr
  clear h hm hi hj hn
  go_enter Tryz.func50, Tryz.ntmps50
  go_wp2_with (first
    | (go_at_call 68; (with_reducible refine (xindex_34 s (i : Int) w H.out).mono ?_); rintro e w1 ⟨rfl, rfl⟩)
    | fail)
  go_region
  go_wp2_with fail
  go_ret3
  exact ⟨rfl, (show Below w.heap.size w w.drew from ⟨rfl, rfl, rfl, Nat.le_refl _, fun _ _ => rfl⟩)⟩
theorem xcut_no_34 (s : ByteArray) (w : World) (h : Lib.indexByte s.data.toList 34 = -1) :
    Calls Tryz.prog 33 #[.string s, .string ⟨#[34]⟩] w (XCutAt s ⟨#[]⟩ false w) := by
  have H := Lib.hid h
  clear h
  go_enter Tryz.func33, Tryz.ntmps33
  go_wp2_with (first
    | (go_at_call 50; (with_reducible refine (xslcut_no_34 s w H.out).mono ?_); rintro e w1 ⟨rfl, hb1⟩)
    | fail)
  go_ret3
  exact ⟨rfl, hb1⟩
theorem xcut_yes_34 (s p r : ByteArray) (i j n : Nat) (w : World) (hm : s.size ≤ 1000000) (h : Lib.indexByte s.data.toList 34 = (i : Int)) (hi : i < s.size) (hj : i + 1 = j) (hn : s.size = n) (hp : s.extract 0 i = p) (hr : s.extract j n = r) :
    Calls Tryz.prog 33 #[.string s, .string ⟨#[34]⟩] w (XCutAt p r true w) := by
  have H : Hid (Calls Tryz.prog 50 #[.string s, .string ⟨#[34]⟩] w (XCutAt p r true w)) := xslcut_yes_34 s p r i j n w hm h hi hj hn hp hr
  clear hm h hi hj hn hp hr
  go_enter Tryz.func33, Tryz.ntmps33
  go_wp2_with (first
    | (go_at_call 50; (with_reducible refine (H.out).mono ?_); rintro e w1 ⟨rfl, hb1⟩)
    | fail)
  go_ret3
  exact ⟨rfl, hb1⟩
theorem xcut_34_none (s : ByteArray) (w : World) (h : (34 : UInt8) ∉ s.data.toList) :
    Calls Tryz.prog 33 #[.string s, .string ⟨#[34]⟩] w (XCutAt s ⟨#[]⟩ false w) := by
  rcases xix_cases s.data.toList 34 with ⟨h1, _⟩ | ⟨i, _, hi, e, _⟩
  · exact xcut_no_34 s w h1
  · exfalso; apply h; rw [e]; simp
theorem xcut_34_some (s p r : ByteArray) (w : World) (hm : s.size ≤ 1000000) (h : s.data.toList = p.data.toList ++ 34 :: r.data.toList) (hp : (34 : UInt8) ∉ p.data.toList) :
    Calls Tryz.prog 33 #[.string s, .string ⟨#[34]⟩] w (XCutAt p r true w) := by
  rcases xix_cases s.data.toList 34 with ⟨_, h1⟩ | ⟨i, h1, hi, e, hn⟩
  · exfalso; apply h1; rw [h]; simp
  · have hsz := ba_l s
    obtain ⟨e1, e2⟩ := cut_uniq (e.symm.trans h) hn hp
    refine xcut_yes_34 s p r i (i + 1) s.size w hm h1 (by rw [← hsz]; exact hi) rfl rfl ?_ ?_
    · apply ba_x
      rw [extract_l s 0 i (by rw [← hsz]; omega), List.drop_zero, Nat.sub_zero, e1]
    · apply ba_x
      rw [extract_l s (i + 1) s.size (Nat.le_refl _), List.take_of_length_le (by rw [List.length_drop, hsz]; omega), e2]
theorem xib_39 (s : ByteArray) (q : Int) (w : World) (h : Lib.indexByte s.data.toList 39 = q) :
    Calls Tryz.prog 80 #[.string s, .int .u8 ↑((⟨#[39]⟩ : ByteArray)[0]'(by decide)).toNat] w fun e w' => e = .returned (.int .i64 q) ∧ w = w' := by
  refine (Tryz.stringslite_IndexByte s _ w).mono fun e w' ⟨h1, h2⟩ => ⟨?_, h2.symm⟩
  rw [h1, ← h]
  rfl
theorem xindex_39 (s : ByteArray) (q : Int) (w : World) (h : Lib.indexByte s.data.toList 39 = q) :
    Calls Tryz.prog 68 #[.string s, .string ⟨#[39]⟩] w fun e w' => e = .returned (.int .i64 q) ∧ w = w' := by
  have H := Lib.hid h
  cases hq : ([39] == s.toList) with
  | true =>
    obtain rfl : (0 : Int) = q := by
      have e : s.data.toList = [39] := by
        rw [beq_iff_eq, ByteArray.toList_eq] at hq
        exact hq.symm
      rw [← h, e]
      rfl
    clear h
    go_enter Tryz.func68, Tryz.ntmps68
    go_wp2_with fail
    go_ret
    exact ⟨rfl, rfl⟩
  | false =>
    clear h
    go_enter Tryz.func68, Tryz.ntmps68
    go_wp2_with (first
      | (go_at_call 80; (with_reducible refine (xib_39 s q w H.out).mono ?_); rintro e w1 ⟨rfl, rfl⟩)
      | fail)
    go_ret
    exact ⟨rfl, rfl⟩
theorem xslcut_no_39 (s : ByteArray) (w : World) (h : Lib.indexByte s.data.toList 39 = -1) :
    Calls Tryz.prog 50 #[.string s, .string ⟨#[39]⟩] w (XCutAt s ⟨#[]⟩ false w) := by
  have H := Lib.hid h
  clear h
  go_enter Tryz.func50, Tryz.ntmps50
  go_wp2_with (first
    | (go_at_call 68; (with_reducible refine (xindex_39 s (-1) w H.out).mono ?_); rintro e w1 ⟨rfl, rfl⟩)
    | fail)
  go_ret3
  exact ⟨rfl, Below.refl _ _⟩
theorem xslcut_yes_39 (s p r : ByteArray) (i j n : Nat) (w : World) (hm : s.size ≤ 1000000) (h : Lib.indexByte s.data.toList 39 = (i : Int)) (hi : i < s.size) (hj : i + 1 = j) (hn : s.size = n) (hp : s.extract 0 i = p) (hr : s.extract j n = r) :
    Calls Tryz.prog 50 #[.string s, .string ⟨#[39]⟩] w (XCutAt p r true w) := by
  have H := Lib.hid h
  have b1 : (0 : Int) ≤ (i : Int) ∧ (i : Int) ≤ (s.size : Int) := by omega
  have b2 : (0 : Int) ≤ (j : Int) ∧ (j : Int) ≤ (s.size : Int) := by omega
  have s1 : IntKind.i64.wrap ((i : Int) + 1) = (j : Int) := by rw [IntWalk.i64_in _ (by omega)]; omega
  have d1 : decide ((0 : Int) ≤ (i : Int)) = true := by simp
  rw [← hn] at hr
  clear h hm hi hj hn
  go_enter Tryz.func50, Tryz.ntmps50
  go_wp2_with (first
    | (go_at_call 68; (with_reducible refine (xindex_39 s (i : Int) w H.out).mono ?_); rintro e w1 ⟨rfl, rfl⟩)
    | fail)
  go_region
  go_wp2_with fail
  go_ret3
  exact ⟨rfl, (show Below w.heap.size w w.drew from ⟨rfl, rfl, rfl, Nat.le_refl _, fun _ _ => rfl⟩)⟩
theorem xcut_no_39 (s : ByteArray) (w : World) (h : Lib.indexByte s.data.toList 39 = -1) :
    Calls Tryz.prog 33 #[.string s, .string ⟨#[39]⟩] w (XCutAt s ⟨#[]⟩ false w) := by
  have H := Lib.hid h
  clear h
  go_enter Tryz.func33, Tryz.ntmps33
  go_wp2_with (first
    | (go_at_call 50; (with_reducible refine (xslcut_no_39 s w H.out).mono ?_); rintro e w1 ⟨rfl, hb1⟩)
    | fail)
  go_ret3
  exact ⟨rfl, hb1⟩
theorem xcut_yes_39 (s p r : ByteArray) (i j n : Nat) (w : World) (hm : s.size ≤ 1000000) (h : Lib.indexByte s.data.toList 39 = (i : Int)) (hi : i < s.size) (hj : i + 1 = j) (hn : s.size = n) (hp : s.extract 0 i = p) (hr : s.extract j n = r) :
    Calls Tryz.prog 33 #[.string s, .string ⟨#[39]⟩] w (XCutAt p r true w) := by
  have H : Hid (Calls Tryz.prog 50 #[.string s, .string ⟨#[39]⟩] w (XCutAt p r true w)) := xslcut_yes_39 s p r i j n w hm h hi hj hn hp hr
  clear hm h hi hj hn hp hr
  go_enter Tryz.func33, Tryz.ntmps33
  go_wp2_with (first
    | (go_at_call 50; (with_reducible refine (H.out).mono ?_); rintro e w1 ⟨rfl, hb1⟩)
    | fail)
  go_ret3
  exact ⟨rfl, hb1⟩
theorem xcut_39_none (s : ByteArray) (w : World) (h : (39 : UInt8) ∉ s.data.toList) :
    Calls Tryz.prog 33 #[.string s, .string ⟨#[39]⟩] w (XCutAt s ⟨#[]⟩ false w) := by
  rcases xix_cases s.data.toList 39 with ⟨h1, _⟩ | ⟨i, _, hi, e, _⟩
  · exact xcut_no_39 s w h1
  · exfalso; apply h; rw [e]; simp
theorem xcut_39_some (s p r : ByteArray) (w : World) (hm : s.size ≤ 1000000) (h : s.data.toList = p.data.toList ++ 39 :: r.data.toList) (hp : (39 : UInt8) ∉ p.data.toList) :
    Calls Tryz.prog 33 #[.string s, .string ⟨#[39]⟩] w (XCutAt p r true w) := by
  rcases xix_cases s.data.toList 39 with ⟨_, h1⟩ | ⟨i, h1, hi, e, hn⟩
  · exfalso; apply h1; rw [h]; simp
  · have hsz := ba_l s
    obtain ⟨e1, e2⟩ := cut_uniq (e.symm.trans h) hn hp
    refine xcut_yes_39 s p r i (i + 1) s.size w hm h1 (by rw [← hsz]; exact hi) rfl rfl ?_ ?_
    · apply ba_x
      rw [extract_l s 0 i (by rw [← hsz]; omega), List.drop_zero, Nat.sub_zero, e1]
    · apply ba_x
      rw [extract_l s (i + 1) s.size (Nat.le_refl _), List.take_of_length_le (by rw [List.length_drop, hsz]; omega), e2]
theorem begins9 (c : UInt8) (w : World) (b : Bool) (h : ltr c = b) :
    Calls Tryz.prog 10 #[.int .u8 c.toNat] w fun e w' => e = .returned (.bool b) ∧ w = w' := by
  have hlim := c.toNat_lt
  rcases (show (0 ≤ c.toNat ∧ c.toNat ≤ 64) ∨ (65 ≤ c.toNat ∧ c.toNat ≤ 90) ∨ (91 ≤ c.toNat ∧ c.toNat ≤ 94) ∨ (95 ≤ c.toNat ∧ c.toNat ≤ 95) ∨ (96 ≤ c.toNat ∧ c.toNat ≤ 96) ∨ (97 ≤ c.toNat ∧ c.toNat ≤ 122) ∨ (123 ≤ c.toNat ∧ c.toNat ≤ 255) by omega) with ⟨q1, q2⟩ | ⟨q1, q2⟩ | ⟨q1, q2⟩ | ⟨q1, q2⟩ | ⟨q1, q2⟩ | ⟨q1, q2⟩ | ⟨q1, q2⟩
  · obtain rfl : false = b := by
      rw [← h]
      unfold ltr
      have e95 : (c == 95) = false := by rw [Bool.eq_iff_iff]; simp [← UInt8.toNat_inj]; omega
      rw [e95]
      simp <;> omega
    clear h
    have feq95 : ((c.toNat : Int) == 95) = false := by simp; omega
    have fge97 : decide ((97 : Int) ≤ (c.toNat : Int)) = false := decide_eq_false (by omega)
    have fle122 : decide ((c.toNat : Int) ≤ 122) = true := decide_eq_true (by omega)
    have fge65 : decide ((65 : Int) ≤ (c.toNat : Int)) = false := decide_eq_false (by omega)
    have fle90 : decide ((c.toNat : Int) ≤ 90) = true := decide_eq_true (by omega)
    go_enter Tryz.func10, Tryz.ntmps10
    go_wp2_with fail
    go_ret
    exact ⟨rfl, rfl⟩
  · obtain rfl : true = b := by
      rw [← h]
      unfold ltr
      have e95 : (c == 95) = false := by rw [Bool.eq_iff_iff]; simp [← UInt8.toNat_inj]; omega
      rw [e95]
      simp <;> omega
    clear h
    have feq95 : ((c.toNat : Int) == 95) = false := by simp; omega
    have fge97 : decide ((97 : Int) ≤ (c.toNat : Int)) = false := decide_eq_false (by omega)
    have fle122 : decide ((c.toNat : Int) ≤ 122) = true := decide_eq_true (by omega)
    have fge65 : decide ((65 : Int) ≤ (c.toNat : Int)) = true := decide_eq_true (by omega)
    have fle90 : decide ((c.toNat : Int) ≤ 90) = true := decide_eq_true (by omega)
    go_enter Tryz.func10, Tryz.ntmps10
    go_wp2_with fail
    go_ret
    exact ⟨rfl, rfl⟩
  · obtain rfl : false = b := by
      rw [← h]
      unfold ltr
      have e95 : (c == 95) = false := by rw [Bool.eq_iff_iff]; simp [← UInt8.toNat_inj]; omega
      rw [e95]
      simp <;> omega
    clear h
    have feq95 : ((c.toNat : Int) == 95) = false := by simp; omega
    have fge97 : decide ((97 : Int) ≤ (c.toNat : Int)) = false := decide_eq_false (by omega)
    have fle122 : decide ((c.toNat : Int) ≤ 122) = true := decide_eq_true (by omega)
    have fge65 : decide ((65 : Int) ≤ (c.toNat : Int)) = true := decide_eq_true (by omega)
    have fle90 : decide ((c.toNat : Int) ≤ 90) = false := decide_eq_false (by omega)
    go_enter Tryz.func10, Tryz.ntmps10
    go_wp2_with fail
    go_ret
    exact ⟨rfl, rfl⟩
  · obtain rfl : true = b := by
      rw [← h]
      unfold ltr
      have e95 : (c == 95) = true := by rw [Bool.eq_iff_iff]; simp [← UInt8.toNat_inj]; omega
      rw [e95]
      simp <;> omega
    clear h
    have feq95 : ((c.toNat : Int) == 95) = true := by simp; omega
    have fge97 : decide ((97 : Int) ≤ (c.toNat : Int)) = false := decide_eq_false (by omega)
    have fle122 : decide ((c.toNat : Int) ≤ 122) = true := decide_eq_true (by omega)
    have fge65 : decide ((65 : Int) ≤ (c.toNat : Int)) = true := decide_eq_true (by omega)
    have fle90 : decide ((c.toNat : Int) ≤ 90) = false := decide_eq_false (by omega)
    go_enter Tryz.func10, Tryz.ntmps10
    go_wp2_with fail
    go_ret
    exact ⟨rfl, rfl⟩
  · obtain rfl : false = b := by
      rw [← h]
      unfold ltr
      have e95 : (c == 95) = false := by rw [Bool.eq_iff_iff]; simp [← UInt8.toNat_inj]; omega
      rw [e95]
      simp <;> omega
    clear h
    have feq95 : ((c.toNat : Int) == 95) = false := by simp; omega
    have fge97 : decide ((97 : Int) ≤ (c.toNat : Int)) = false := decide_eq_false (by omega)
    have fle122 : decide ((c.toNat : Int) ≤ 122) = true := decide_eq_true (by omega)
    have fge65 : decide ((65 : Int) ≤ (c.toNat : Int)) = true := decide_eq_true (by omega)
    have fle90 : decide ((c.toNat : Int) ≤ 90) = false := decide_eq_false (by omega)
    go_enter Tryz.func10, Tryz.ntmps10
    go_wp2_with fail
    go_ret
    exact ⟨rfl, rfl⟩
  · obtain rfl : true = b := by
      rw [← h]
      unfold ltr
      have e95 : (c == 95) = false := by rw [Bool.eq_iff_iff]; simp [← UInt8.toNat_inj]; omega
      rw [e95]
      simp <;> omega
    clear h
    have feq95 : ((c.toNat : Int) == 95) = false := by simp; omega
    have fge97 : decide ((97 : Int) ≤ (c.toNat : Int)) = true := decide_eq_true (by omega)
    have fle122 : decide ((c.toNat : Int) ≤ 122) = true := decide_eq_true (by omega)
    have fge65 : decide ((65 : Int) ≤ (c.toNat : Int)) = true := decide_eq_true (by omega)
    have fle90 : decide ((c.toNat : Int) ≤ 90) = false := decide_eq_false (by omega)
    go_enter Tryz.func10, Tryz.ntmps10
    go_wp2_with fail
    go_ret
    exact ⟨rfl, rfl⟩
  · obtain rfl : false = b := by
      rw [← h]
      unfold ltr
      have e95 : (c == 95) = false := by rw [Bool.eq_iff_iff]; simp [← UInt8.toNat_inj]; omega
      rw [e95]
      simp <;> omega
    clear h
    have feq95 : ((c.toNat : Int) == 95) = false := by simp; omega
    have fge97 : decide ((97 : Int) ≤ (c.toNat : Int)) = true := decide_eq_true (by omega)
    have fle122 : decide ((c.toNat : Int) ≤ 122) = false := decide_eq_false (by omega)
    have fge65 : decide ((65 : Int) ≤ (c.toNat : Int)) = true := decide_eq_true (by omega)
    have fle90 : decide ((c.toNat : Int) ≤ 90) = false := decide_eq_false (by omega)
    go_enter Tryz.func10, Tryz.ntmps10
    go_wp2_with fail
    go_ret
    exact ⟨rfl, rfl⟩
theorem nch_not9 {c : UInt8} (h : ltr c = false) : nch c = (decide (48 ≤ c.toNat) && decide (c.toNat ≤ 57) || c == 46 || c == 45) := by unfold nch; rw [h]; simp
theorem goesOn9 (c : UInt8) (w : World) (b : Bool) (h : nch c = b) :
    Calls Tryz.prog 11 #[.int .u8 c.toNat] w fun e w' => e = .returned (.bool b) ∧ w = w' := by
  cases hl : ltr c with
  | true =>
    have HL := Lib.hid hl
    obtain rfl : true = b := by rw [← h, nch_of_ltr hl]
    clear h hl
    go_enter Tryz.func11, Tryz.ntmps11
    go_wp2_with (first
      | (go_at_call 10; (with_reducible refine (begins9 c _ true HL.out).mono ?_); rintro e1 w1 ⟨rfl, rfl⟩)
      | fail)
    go_ret
    exact ⟨rfl, rfl⟩
  | false =>
    have HL := Lib.hid hl
    rw [nch_not9 hl] at h
    clear hl
    have hlim := c.toNat_lt
    rcases (show (0 ≤ c.toNat ∧ c.toNat ≤ 44) ∨ (45 ≤ c.toNat ∧ c.toNat ≤ 45) ∨ (46 ≤ c.toNat ∧ c.toNat ≤ 46) ∨ (47 ≤ c.toNat ∧ c.toNat ≤ 47) ∨ (48 ≤ c.toNat ∧ c.toNat ≤ 57) ∨ (58 ≤ c.toNat ∧ c.toNat ≤ 255) by omega) with ⟨q1, q2⟩ | ⟨q1, q2⟩ | ⟨q1, q2⟩ | ⟨q1, q2⟩ | ⟨q1, q2⟩ | ⟨q1, q2⟩
    · obtain rfl : false = b := by
        rw [← h]
        have e45 : (c == 45) = false := by rw [Bool.eq_iff_iff]; simp [← UInt8.toNat_inj]; omega
        have e46 : (c == 46) = false := by rw [Bool.eq_iff_iff]; simp [← UInt8.toNat_inj]; omega
        rw [e45, e46]
        simp <;> omega
      clear h
      have feq46 : ((c.toNat : Int) == 46) = false := by simp; omega
      have feq45 : ((c.toNat : Int) == 45) = false := by simp; omega
      have fge48 : decide ((48 : Int) ≤ (c.toNat : Int)) = false := decide_eq_false (by omega)
      have fle57 : decide ((c.toNat : Int) ≤ 57) = true := decide_eq_true (by omega)
      go_enter Tryz.func11, Tryz.ntmps11
      go_wp2_with (first
        | (go_at_call 10; (with_reducible refine (begins9 c _ false HL.out).mono ?_); rintro e1 w1 ⟨rfl, rfl⟩)
        | fail)
      go_ret
      exact ⟨rfl, rfl⟩
    · obtain rfl : true = b := by
        rw [← h]
        have e45 : (c == 45) = true := by rw [Bool.eq_iff_iff]; simp [← UInt8.toNat_inj]; omega
        have e46 : (c == 46) = false := by rw [Bool.eq_iff_iff]; simp [← UInt8.toNat_inj]; omega
        rw [e45, e46]
        simp <;> omega
      clear h
      have feq46 : ((c.toNat : Int) == 46) = false := by simp; omega
      have feq45 : ((c.toNat : Int) == 45) = true := by simp; omega
      have fge48 : decide ((48 : Int) ≤ (c.toNat : Int)) = false := decide_eq_false (by omega)
      have fle57 : decide ((c.toNat : Int) ≤ 57) = true := decide_eq_true (by omega)
      go_enter Tryz.func11, Tryz.ntmps11
      go_wp2_with (first
        | (go_at_call 10; (with_reducible refine (begins9 c _ false HL.out).mono ?_); rintro e1 w1 ⟨rfl, rfl⟩)
        | fail)
      go_ret
      exact ⟨rfl, rfl⟩
    · obtain rfl : true = b := by
        rw [← h]
        have e45 : (c == 45) = false := by rw [Bool.eq_iff_iff]; simp [← UInt8.toNat_inj]; omega
        have e46 : (c == 46) = true := by rw [Bool.eq_iff_iff]; simp [← UInt8.toNat_inj]; omega
        rw [e45, e46]
        simp <;> omega
      clear h
      have feq46 : ((c.toNat : Int) == 46) = true := by simp; omega
      have feq45 : ((c.toNat : Int) == 45) = false := by simp; omega
      have fge48 : decide ((48 : Int) ≤ (c.toNat : Int)) = false := decide_eq_false (by omega)
      have fle57 : decide ((c.toNat : Int) ≤ 57) = true := decide_eq_true (by omega)
      go_enter Tryz.func11, Tryz.ntmps11
      go_wp2_with (first
        | (go_at_call 10; (with_reducible refine (begins9 c _ false HL.out).mono ?_); rintro e1 w1 ⟨rfl, rfl⟩)
        | fail)
      go_ret
      exact ⟨rfl, rfl⟩
    · obtain rfl : false = b := by
        rw [← h]
        have e45 : (c == 45) = false := by rw [Bool.eq_iff_iff]; simp [← UInt8.toNat_inj]; omega
        have e46 : (c == 46) = false := by rw [Bool.eq_iff_iff]; simp [← UInt8.toNat_inj]; omega
        rw [e45, e46]
        simp <;> omega
      clear h
      have feq46 : ((c.toNat : Int) == 46) = false := by simp; omega
      have feq45 : ((c.toNat : Int) == 45) = false := by simp; omega
      have fge48 : decide ((48 : Int) ≤ (c.toNat : Int)) = false := decide_eq_false (by omega)
      have fle57 : decide ((c.toNat : Int) ≤ 57) = true := decide_eq_true (by omega)
      go_enter Tryz.func11, Tryz.ntmps11
      go_wp2_with (first
        | (go_at_call 10; (with_reducible refine (begins9 c _ false HL.out).mono ?_); rintro e1 w1 ⟨rfl, rfl⟩)
        | fail)
      go_ret
      exact ⟨rfl, rfl⟩
    · obtain rfl : true = b := by
        rw [← h]
        have e45 : (c == 45) = false := by rw [Bool.eq_iff_iff]; simp [← UInt8.toNat_inj]; omega
        have e46 : (c == 46) = false := by rw [Bool.eq_iff_iff]; simp [← UInt8.toNat_inj]; omega
        rw [e45, e46]
        simp <;> omega
      clear h
      have feq46 : ((c.toNat : Int) == 46) = false := by simp; omega
      have feq45 : ((c.toNat : Int) == 45) = false := by simp; omega
      have fge48 : decide ((48 : Int) ≤ (c.toNat : Int)) = true := decide_eq_true (by omega)
      have fle57 : decide ((c.toNat : Int) ≤ 57) = true := decide_eq_true (by omega)
      go_enter Tryz.func11, Tryz.ntmps11
      go_wp2_with (first
        | (go_at_call 10; (with_reducible refine (begins9 c _ false HL.out).mono ?_); rintro e1 w1 ⟨rfl, rfl⟩)
        | fail)
      go_ret
      exact ⟨rfl, rfl⟩
    · obtain rfl : false = b := by
        rw [← h]
        have e45 : (c == 45) = false := by rw [Bool.eq_iff_iff]; simp [← UInt8.toNat_inj]; omega
        have e46 : (c == 46) = false := by rw [Bool.eq_iff_iff]; simp [← UInt8.toNat_inj]; omega
        rw [e45, e46]
        simp <;> omega
      clear h
      have feq46 : ((c.toNat : Int) == 46) = false := by simp; omega
      have feq45 : ((c.toNat : Int) == 45) = false := by simp; omega
      have fge48 : decide ((48 : Int) ≤ (c.toNat : Int)) = true := decide_eq_true (by omega)
      have fle57 : decide ((c.toNat : Int) ≤ 57) = false := decide_eq_false (by omega)
      go_enter Tryz.func11, Tryz.ntmps11
      go_wp2_with (first
        | (go_at_call 10; (with_reducible refine (begins9 c _ false HL.out).mono ?_); rintro e1 w1 ⟨rfl, rfl⟩)
        | fail)
      go_ret
      exact ⟨rfl, rfl⟩
theorem nameL_first {l : List UInt8} (h : 0 < l.length) : nameL l = (ltr (l[0]'h) && l.all nch) := by
  cases l with
  | nil => simp at h
  | cons c r =>
    show (ltr c && r.all nch) = (ltr c && (nch c && r.all nch))
    cases hc : ltr c
    · rfl
    · rw [nch_of_ltr hc]; rfl
theorem name9q (s : ByteArray) (w : World) (hm : s.size ≤ 1000000) (b : Bool) (h : nameL s.data.toList = b) :
    Calls Tryz.prog 5 #[.string s] w fun e w' => e = .returned (.bool b) ∧ w = w' := by
  have HM := Lib.hid hm
  by_cases h0 : s.size = 0
  · obtain rfl : false = b := by rw [← h, List.eq_nil_of_length_eq_zero ((ba_l s).trans h0)]; rfl
    have hem : s.toList.isEmpty = true := by rw [empty_l]; simp [h0]
    clear h hm h0
    go_enter Tryz.func5, Tryz.ntmps5
    go_wp2_with fail
    go_ret
    exact ⟨rfl, rfl⟩
  · have hem : s.toList.isEmpty = false := by rw [empty_l]; simp [h0]
    have hp : 0 < s.size := by omega
    have hpl : 0 < s.data.toList.length := by rw [ba_l]; exact hp
    have b0 : (0 : Int) < (s.size : Int) := by omega
    rw [nameL_first hpl, at_l s 0 hp] at h
    obtain ⟨c, hc⟩ : ∃ c, s[0]'hp = c := ⟨_, rfl⟩
    have hca : ∀ h, s[0]'h = c := fun _ => hc
    rw [hc] at h
    cases hl : ltr c with
    | false =>
      have HL := Lib.hid hl
      obtain rfl : false = b := by rw [← h, hl]; rfl
      clear h hm h0 hl hc hpl
      go_enter Tryz.func5, Tryz.ntmps5
      go_wp2_with (first
        | (go_at_call 10; (with_reducible refine (begins9 c _ false HL.out).mono ?_); rintro e1 w1 ⟨rfl, rfl⟩)
        | fail)
      go_ret
      exact ⟨rfl, rfl⟩
    | true =>
      have HL := Lib.hid hl
      have HB : Hid (s.data.toList.all nch = b) := Lib.hid (by rw [← h, hl]; rfl)
      clear h hm h0 hl hc hpl
      go_enter Tryz.func5, Tryz.ntmps5
      go_wp2_with (first
        | (go_at_call 10; (with_reducible refine (begins9 c _ true HL.out).mono ?_); rintro e1 w1 ⟨rfl, rfl⟩)
        | fail)
      go_loopw [14] (fun i wr => ∃ k : Nat, k ≤ s.size ∧ i = .int .i64 k ∧ (s.data.toList.take k).all nch = true ∧ w = wr) (fun i _ => s.size - (intOf i).toNat)
      case atStart => exact ⟨0, Nat.zero_le _, rfl, rfl, by first | rfl | trivial⟩
      case round =>
        obtain ⟨k, hk, rfl, hn, rfl⟩ := hrel
        have hs := HM.out
        by_cases hlt : k < s.size
        · obtain ⟨d, hd⟩ : ∃ d, s[k]'hlt = d := ⟨_, rfl⟩
          have hda : ∀ h, s[k]'h = d := fun _ => hd
          have hkl : k < s.data.toList.length := by rw [ba_l]; exact hlt
          have hdk : s.data.toList[k]'hkl = d := (at_l s k hlt).trans hd
          have bk : (0 : Int) ≤ (k : Int) ∧ (k : Int) < (s.size : Int) := by omega
          cases hg : nch d with
          | false =>
            have HD := Lib.hid hg
            obtain rfl : false = b := by
              rw [← HB.out]
              refine (List.all_eq_false.2 ⟨d, hdk ▸ List.getElem_mem hkl, ?_⟩).symm
              rw [hg]; decide
            clear hg hd hdk hn
            go_wp2_with (first
              | (go_at_call 11; (with_reducible refine (goesOn9 d _ false HD.out).mono ?_); rintro e2 w2 ⟨rfl, rfl⟩)
              | fail)
            go_ret
            exact ⟨rfl, rfl⟩
          | true =>
            have HD := Lib.hid hg
            have HV : Hid ((s.data.toList.take (k + 1)).all nch = true) := Lib.hid (by
              rw [List.take_succ_eq_append_getElem hkl, List.all_append, hn, hdk]
              simp [hg])
            clear hg hd hdk hn
            go_wp2_with (first
              | (go_at_call 11; (with_reducible refine (goesOn9 d _ true HD.out).mono ?_); rintro e2 w2 ⟨rfl, rfl⟩)
              | fail)
            go_roundw
            case rel => exact ⟨k + 1, hlt, by go_num, HV.out, by first | rfl | trivial⟩
            case measure => simp [intOf]; omega
        · obtain rfl : k = s.size := by omega
          obtain rfl : true = b := by
            rw [← HB.out]
            rw [List.take_of_length_le (by rw [ba_l]; omega)] at hn
            exact hn.symm
          clear hn
          go_wp2_with fail
          go_ret
          exact ⟨rfl, rfl⟩
theorem full9q (s : ByteArray) (w : World) (hm : s.size ≤ 1000000) (b : Bool) (h : fullL s.data.toList = b) :
    Calls Tryz.prog 65 #[.string s] w fun e w' => e = .returned (.bool b) ∧ Below w.heap.size w w' := by
  unfold fullL at h
  have HMs := Lib.hid hm
  cases hc : cutC s.data.toList with
  | none =>
    rw [hc] at h
    have HC : Hid (Calls Tryz.prog 33 #[.string s, .string ⟨#[58]⟩] w (XCutAt s ⟨#[]⟩ false w)) := Lib.hid (xcut_58_none s w fun hx => by
      have := cutC_some9 hx
      rw [hc] at this
      cases this)
    have Hs : Hid (nameL s.data.toList = b) := Lib.hid h
    clear hc h hm
    cases b with
    | false =>
      go_enter Tryz.func65, Tryz.ntmps65
      go_wp2_with (first
        | (go_at_call 33; (with_reducible refine (HC.out).mono ?_); rintro e1 w1 ⟨rfl, hb1⟩)
        | (go_at_call 5; (with_reducible refine (name9q s w1 HMs.out false Hs.out).mono ?_); rintro e2 w2 ⟨rfl, rfl⟩)
        | fail)
      go_ret
      exact ⟨rfl, hb1⟩
    | true =>
      go_enter Tryz.func65, Tryz.ntmps65
      go_wp2_with (first
        | (go_at_call 33; (with_reducible refine (HC.out).mono ?_); rintro e1 w1 ⟨rfl, hb1⟩)
        | (go_at_call 5; (with_reducible refine (name9q s w1 HMs.out true Hs.out).mono ?_); rintro e2 w2 ⟨rfl, rfl⟩)
        | fail)
      go_ret
      exact ⟨rfl, hb1⟩
  | some p =>
    obtain ⟨pa, pb⟩ := p
    rw [hc] at h
    dsimp only at h
    obtain ⟨e1, e2⟩ := cutC_some hc
    obtain ⟨x, hx⟩ : ∃ x : ByteArray, x.data.toList = pa := ⟨⟨pa.toArray⟩, by simp⟩
    obtain ⟨y, hy⟩ : ∃ y : ByteArray, y.data.toList = pb := ⟨⟨pb.toArray⟩, by simp⟩
    subst hx hy
    have hl := congrArg List.length e1
    rw [List.length_append, List.length_cons, ba_l, ba_l, ba_l] at hl
    have HMx : Hid (x.size ≤ 1000000) := Lib.hid (by omega)
    have HMy : Hid (y.size ≤ 1000000) := Lib.hid (by omega)
    have HC : Hid (Calls Tryz.prog 33 #[.string s, .string ⟨#[58]⟩] w (XCutAt x y true w)) := Lib.hid (xcut_58_some s x y w hm e1 e2)
    cases h1 : nameL x.data.toList with
    | false =>
      have Hx := Lib.hid h1
      obtain rfl : false = b := by rw [← h, h1]; simp
      clear hc h hm e1 e2 hl h1
      go_enter Tryz.func65, Tryz.ntmps65
      go_wp2_with (first
        | (go_at_call 33; (with_reducible refine (HC.out).mono ?_); rintro e1 w1 ⟨rfl, hb1⟩)
        | (go_at_call 5; (with_reducible refine (name9q x w1 HMx.out false Hx.out).mono ?_); rintro e2 w2 ⟨rfl, rfl⟩)
        | fail)
      go_ret
      exact ⟨rfl, hb1⟩
    | true =>
      have Hx := Lib.hid h1
      have Hy : Hid (nameL y.data.toList = b) := Lib.hid (by rw [← h, h1]; simp)
      clear hc h hm e1 e2 hl h1
      cases b with
      | false =>
        have tok1 : True := trivial
        go_enter Tryz.func65, Tryz.ntmps65
        go_wp2_with (first
          | (go_at_call 33; (with_reducible refine (HC.out).mono ?_); rintro e1 w1 ⟨rfl, hb1⟩)
          | (have _t := tok1; go_at_call 5; (with_reducible refine (name9q x w1 HMx.out true Hx.out).mono ?_); rintro e2 w2 ⟨rfl, rfl⟩; clear tok1)
          | (go_at_call 5; (with_reducible refine (name9q y w1 HMy.out false Hy.out).mono ?_); rintro e3 w3 ⟨rfl, rfl⟩)
          | fail)
        go_ret
        exact ⟨rfl, hb1⟩
      | true =>
        have tok1 : True := trivial
        go_enter Tryz.func65, Tryz.ntmps65
        go_wp2_with (first
          | (go_at_call 33; (with_reducible refine (HC.out).mono ?_); rintro e1 w1 ⟨rfl, hb1⟩)
          | (have _t := tok1; go_at_call 5; (with_reducible refine (name9q x w1 HMx.out true Hx.out).mono ?_); rintro e2 w2 ⟨rfl, rfl⟩; clear tok1)
          | (go_at_call 5; (with_reducible refine (name9q y w1 HMy.out true Hy.out).mono ?_); rintro e3 w3 ⟨rfl, rfl⟩)
          | fail)
        go_ret
        exact ⟨rfl, hb1⟩
end Hx
end Go.Proofs.YtlhjcdkkmloamaaGreatDoor
namespace Go.Proofs.YtlhjcdkkmloamaaGreatDoor
open Go.RowKit Go.Maps Go.WideMaps
namespace Hx
open Lx Tx Nmb Es
set_option maxRecDepth 100000
set_option maxHeartbeats 16000000
set_option linter.unusedVariables false
theorem law9 : Keyed Tryz.prog 9 := string_keyed Tryz.underlying9
theorem zero9 (w : World) : (zeroValue 3).run Tryz.prog w = .ok (.int .i64 0) w := by kernel_rfl
structure Seen (D : DataW Unit) (l : List Pr) : Prop where
  has : ∀ z : List UInt8, Maps.has D (.string z) = hasL l z
  size : Maps.size D = dis [] l
theorem Seen.nil : Seen (.map []) [] := ⟨fun _ => rfl, rfl⟩
theorem Seen.next {D : DataW Unit} {l : List Pr} (h : Seen D l) (ht : Maps.Tidy D) (p : Pr) (d : DataW Unit) : Seen (D.put (.string p.name) d) (l ++ [p]) := by
  refine ⟨fun z => ?_, ?_⟩
  · have e : hasL (l ++ [p]) z = (hasL l z || decide (p.name = z)) := by simp [hasL]
    rw [e]
    by_cases hz : p.name = z
    · subst hz
      rw [Maps.has_put_same ht.isMap (by simp [WideAt.IsKeyLit])]
      simp
    · rw [Maps.has_put_other (fun e => hz (by injection e with e; exact e.symm)), h.has]
      simp [hz]
  · rw [Maps.size_put ht, h.has, h.size, dis_snoc, List.nil_append]
    cases hasL l p.name <;> simp
theorem twice_dis (l : List Pr) : decide (dis [] l < l.length) = !fresh [] l := by
  obtain ⟨h1, h2⟩ := dis_le l []
  cases hf : fresh [] l with
  | true => have := h2.2 hf; exact decide_eq_false (by omega)
  | false =>
    refine decide_eq_true ?_
    rcases Nat.lt_or_eq_of_le h1 with h | h
    · omega
    · have := h2.1 h; rw [hf] at this; cases this
theorem box_cell9 {w w1 : World} {cs : Array Value} {T : TypeId} (hb : Below (w.alloc (.cells cs T)).heap.size (w.alloc (.cells cs T)) w1) (i : Nat) (v : Value) (h : cs[i]? = some v) : w1.cell? ⟨w.heap.size, i, none⟩ = some v ∧ w.heap.size < w1.heap.size := by
  have hs := hb.size
  simp at hs
  refine ⟨?_, by omega⟩
  rw [hb.cell (p := ⟨w.heap.size, i, none⟩) (by simp)]
  simp [h]
def zPr9 : Array Value := #[.string ⟨#[]⟩, .string ⟨#[]⟩]
theorem twice9 (A : Option Addr) (n cp : Nat) (l : List Pr) (w : World) (hr : RdC PrC w w.heap.size A l) (hn : l.length = n) (hcp : n ≤ cp) (hm : n ≤ 1000000) (hsz : ∀ p ∈ l, p.name.length ≤ 1000000) (q : Bool) (h : (!fresh [] l) = q) :
    Calls Tryz.prog 89 #[.slice A n cp] w fun e w' => e = .returned (.bool q) ∧ Below w.heap.size w w' := by
  have hmm := @run_makeMap Tryz.prog
  have HR := Lib.hid hr
  have HN := Lib.hid hn
  have HM := Lib.hid hm
  have HSZ := Lib.hid hsz
  have HQ : Hid (∀ D, Seen D l → decide (Maps.size D < n) = q) := Lib.hid fun D hD => by
    rw [hD.size, ← hn, twice_dis, h]
  clear hr hn h hsz
  go_enter Tryz.func89, Tryz.ntmps89
  go_wp2_with fail
  go_loopw [9] (fun i wr => ∃ (k : Nat) (D : DataW Unit), k ≤ n ∧ i = .int .i64 k ∧ wr.ownsMap Tryz.prog 9 (plainElem Tryz.prog 3) w.heap.size k D ∧ Seen D (l.take k) ∧ Below w.heap.size w wr) (fun i _ => n - (intOf i).toNat)
  case atStart => exact ⟨0, .map [], Nat.zero_le _, rfl, World.ownsMap_made _ _ _ _, Seen.nil, (Below.refl _ _).alloc (Nat.le_refl _) _⟩
  case round =>
    obtain ⟨k, D, hk, rfl, hown, hseen, hbw⟩ := hrel
    have hm := HM.out
    have HBW := Lib.hid hbw
    by_cases hlt : k < n
    · have hk1 : k < l.length := by rw [HN.out]; exact hlt
      obtain ⟨b0, off, rfl, hbB, hc⟩ := (HR.out.below hbw) (by omega)
      obtain ⟨cs, ⟨x, y, rfl, hx, hy⟩, hcell⟩ := hc k hk1
      have c0 : wr.cell? ⟨b0, off + k * 2, none⟩ = some (.string x) := hcell 0 (by simp)
      have c1 : wr.cell? ⟨b0, off + k * 2 + 1, none⟩ = some (.string y) := hcell 1 (by simp)
      have hz := HSZ.out _ (List.getElem_mem hk1)
      rw [← hx, ba_l] at hz
      have hkey : keyOf Tryz.prog 9 (.string x) = some (.string x.data.toList) := keyOf_string_mk Tryz.underlying9 (by unfold maxLen; omega)
      have bk : (0 : Int) ≤ (k : Int) ∧ (k : Int) < (n : Int) := by omega
      have bc : (k : Int) ≤ (cp : Int) := by omega
      have HNEW : Hid (∀ d, Seen (D.put (.string x.data.toList) d) (l.take (k + 1))) := Lib.hid fun d => by
        have := hseen.next (hown.tidy law9) (l[k]'hk1) d
        rw [← List.take_succ_eq_append_getElem hk1, ← hx] at this
        exact this
      have HOWN := Lib.hid hown
      have HKEY := Lib.hid hkey
      clear hbw hc hcell hx hy hz hk1 hseen hown hkey
      go_wp2_with (first
        | (refine wpList_store_row rfl _ _ _ rfl wr.heap.size #[.string x, .string y] rfl rfl 111 zPr9 (heap_alloc_new _ _) sizePr rfl (onePr x y) ?_; rw [World.setRow_alloc_new])
        | (at_lookup; refine wpList_lookup_own_int _ rfl _ _ 122 rfl 9 3 .i64 law9 Tryz.underlying122 Tryz.underlying3 (zero9 _) w.heap.size k D rfl (HOWN.out.alloc _) _ _ rfl HKEY.out ?_; intro c hat hwc; clear hat hwc)
        | (at_mapUpdate; refine wpList_mapUpdate_own _ rfl _ _ _ 122 rfl 9 3 law9 Tryz.underlying122 _ w.heap.size k _ rfl (HOWN.out.alloc _) (by unfold maxLen; omega) _ _ _ rfl rfl HKEY.out _ [] (plainElem_int Tryz.underlying3 (wrap64_wf _)) ?_; intro w2 hown2 hgr2; have HO2 := Lib.hid hown2; have HG2 := Lib.hid hgr2; clear hown2 hgr2)
        | fail)
      go_roundw
      case rel => exact ⟨k + 1, _, by omega, by go_num, HO2.out, HNEW.out _, (HBW.out.alloc HBW.out.size _).grown HG2.out (Nat.le_trans HBW.out.size (by simp)) (fun j hj => by cases hj; exact Nat.le_refl _)⟩
      case measure => simp [intOf]; omega
    · obtain rfl : k = n := by omega
      have hq := HQ.out D (by rwa [List.take_of_length_le (by rw [HN.out]; exact Nat.le_refl _)] at hseen)
      have HOWN := Lib.hid hown
      clear hseen hbw hown
      have tok1 : True := trivial
      go_wp2_with (first
        | (have _t := tok1; at_len; refine wpList_len_own _ rfl _ 122 rfl 9 3 Tryz.underlying122 _ w.heap.size k D rfl HOWN.out ?_; clear _t tok1)
        | fail)
      go_ret
      exact ⟨rfl, HBW.out⟩
theorem all_snoc9 {l : List Pr} {k : Nat} (h : k < l.length) (f : Pr → Bool) : (l.take (k + 1)).all f = ((l.take k).all f && f (l[k]'h)) := by
  rw [List.take_succ_eq_append_getElem h, List.all_append]
  simp
def goodP (p : Pr) : Bool := fullL p.name && okT p.value
theorem attrsOk_eq (l : List Pr) : attrsOk l = (fresh [] l && l.all goodP && decide (l.length ≤ 16)) := by unfold attrsOk; rw [attrsF_fresh]; rfl
theorem mayA9q (A : Option Addr) (n cp : Nat) (l : List Pr) (w : World) (hr : RdC PrC w w.heap.size A l) (hn : l.length = n) (hcp : n ≤ cp) (hm : n ≤ 1000000) (hsz : ∀ p ∈ l, p.name.length ≤ 1000000 ∧ p.value.length ≤ 1000000) (q : Bool) (h : attrsOk l = q) :
    Calls Tryz.prog 91 #[.slice A n cp] w fun e w' => e = .returned (.bool q) ∧ Below w.heap.size w w' := by
  rw [attrsOk_eq, hn] at h
  by_cases h16 : n ≤ 16
  · rw [decide_eq_true h16, Bool.and_true] at h
    have g16 : decide ((16 : Int) < (n : Int)) = false := decide_eq_false (by omega)
    cases hf : fresh [] l with
    | false =>
      obtain rfl : false = q := by rw [← h, hf]; rfl
      have HC : Hid (Calls Tryz.prog 89 #[.slice A n cp] w fun e w' => e = .returned (.bool true) ∧ Below w.heap.size w w') := Lib.hid (twice9 A n cp l w hr hn hcp hm (fun p hp => (hsz p hp).1) true (by rw [hf]; rfl))
      clear hr hn hcp hsz h hf
      go_enter Tryz.func91, Tryz.ntmps91
      go_wp2_with (first
        | (go_at_call 89; (with_reducible refine (HC.out).mono ?_); rintro e1 w1 ⟨rfl, hb1⟩)
        | fail)
      go_ret
      exact ⟨rfl, hb1⟩
    | true =>
      have HC : Hid (Calls Tryz.prog 89 #[.slice A n cp] w fun e w' => e = .returned (.bool false) ∧ Below w.heap.size w w') := Lib.hid (twice9 A n cp l w hr hn hcp hm (fun p hp => (hsz p hp).1) false (by rw [hf]; rfl))
      rw [hf, Bool.true_and] at h
      have HR := Lib.hid hr
      have HN := Lib.hid hn
      have HH := Lib.hid h
      have HSZ := Lib.hid hsz
      clear hr hn hsz h hf
      go_enter Tryz.func91, Tryz.ntmps91
      go_wp2_with (first
        | (go_at_call 89; (with_reducible refine (HC.out).mono ?_); rintro e1 w1 ⟨rfl, hb1⟩; have HB1 := Lib.hid hb1; clear hb1)
        | fail)
      go_loopw [14] (fun i wr => ∃ k : Nat, k ≤ n ∧ i = .int .i64 k ∧ (l.take k).all goodP = true ∧ Below w.heap.size w wr) (fun i _ => n - (intOf i).toNat)
      case atStart => exact ⟨0, Nat.zero_le _, rfl, rfl, HB1.out⟩
      case round =>
        obtain ⟨k, hk, rfl, hall, hbw⟩ := hrel
        have HBW := Lib.hid hbw
        by_cases hlt : k < n
        · have hk1 : k < l.length := by rw [HN.out]; exact hlt
          obtain ⟨b0, off, rfl, hbB, hc⟩ := (HR.out.below hbw) (by omega)
          obtain ⟨cs, ⟨x, y, rfl, hx, hy⟩, hcell⟩ := hc k hk1
          have c0 : wr.cell? ⟨b0, off + k * 2, none⟩ = some (.string x) := hcell 0 (by simp)
          have c1 : wr.cell? ⟨b0, off + k * 2 + 1, none⟩ = some (.string y) := hcell 1 (by simp)
          have hz := HSZ.out _ (List.getElem_mem hk1)
          rw [← hx, ← hy, ba_l, ba_l] at hz
          have HXS := Lib.hid hz.1
          have HYS := Lib.hid hz.2
          have bk : (0 : Int) ≤ (k : Int) ∧ (k : Int) < (n : Int) := by omega
          have bc : (k : Int) ≤ (cp : Int) := by omega
          have hg : goodP (l[k]'hk1) = (fullL x.data.toList && okT y.data.toList) := by unfold goodP; rw [← hx, ← hy]
          have hbad : goodP (l[k]'hk1) = false → l.all goodP = false := fun e => List.all_eq_false.2 ⟨_, List.getElem_mem hk1, by rw [e]; decide⟩
          have hnx : goodP (l[k]'hk1) = true → (l.take (k + 1)).all goodP = true := fun e => by rw [all_snoc9 hk1, hall, e]; rfl
          have HBO : Hid (∀ o, Below w.heap.size w (wr.alloc o)) := Lib.hid fun o => hbw.alloc hbw.size o
          cases hf : fullL x.data.toList with
          | false =>
            have HF := Lib.hid hf
            obtain rfl : false = q := by rw [← HH.out]; exact (hbad (by rw [hg, hf]; rfl)).symm
            clear hbw hc hcell hx hy hz hk1 hall hg hbad hnx hf
            go_wp2_with (first
              | (refine wpList_store_row rfl _ _ _ rfl wr.heap.size #[.string x, .string y] rfl rfl 111 zPr9 (heap_alloc_new _ _) sizePr rfl (onePr x y) ?_; rw [World.setRow_alloc_new])
              | (go_at_call 65; (with_reducible refine (full9q x _ HXS.out false HF.out).mono ?_); rintro e2 w2 ⟨rfl, hb2⟩)
              | fail)
            go_ret
            exact ⟨rfl, stp (HBO.out _) hb2⟩
          | true =>
            have HF := Lib.hid hf
            cases hv : okT y.data.toList with
            | false =>
              obtain ⟨er, her⟩ : ∃ er, chkE y = er := ⟨_, rfl⟩
              have HCK := Lib.hid her
              have g0 : (er != 0) = true := by rw [← her]; simpa using chk9_bad hv
              obtain rfl : false = q := by rw [← HH.out]; exact (hbad (by rw [hg, hf, hv]; rfl)).symm
              clear hbw hc hcell hx hy hz hk1 hall hg hbad hnx hf hv her
              go_wp2_with (first
                | (refine wpList_store_row rfl _ _ _ rfl wr.heap.size #[.string x, .string y] rfl rfl 111 zPr9 (heap_alloc_new _ _) sizePr rfl (onePr x y) ?_; rw [World.setRow_alloc_new])
                | (go_at_call 65; (with_reducible refine (full9q x _ HXS.out true HF.out).mono ?_); rintro e2 w2 ⟨rfl, hb2⟩; have d1 := (box_cell9 hb2 1 (.string y) rfl).1; have HB2 : Hid (Below w.heap.size w w2) := Lib.hid (stp (HBO.out _) hb2); clear hb2)
                | (go_at_call 42; (with_reducible refine (check5 y _ HYS.out er HCK.out).mono ?_); rintro e3 w3 ⟨rfl, hb3⟩)
                | fail)
              go_ret
              exact ⟨rfl, stp HB2.out hb3⟩
            | true =>
              have HCK : Hid (chkE y = 0) := Lib.hid (chk9_ok hv)
              have HV := Lib.hid (hnx (by rw [hg, hf, hv]; rfl))
              clear hbw hc hcell hx hy hz hk1 hall hg hbad hnx hf hv
              go_wp2_with (first
                | (refine wpList_store_row rfl _ _ _ rfl wr.heap.size #[.string x, .string y] rfl rfl 111 zPr9 (heap_alloc_new _ _) sizePr rfl (onePr x y) ?_; rw [World.setRow_alloc_new])
                | (go_at_call 65; (with_reducible refine (full9q x _ HXS.out true HF.out).mono ?_); rintro e2 w2 ⟨rfl, hb2⟩; have d1 := (box_cell9 hb2 1 (.string y) rfl).1; have HB2 : Hid (Below w.heap.size w w2) := Lib.hid (stp (HBO.out _) hb2); clear hb2)
                | (go_at_call 42; (with_reducible refine (check5 y _ HYS.out 0 HCK.out).mono ?_); rintro e3 w3 ⟨rfl, hb3⟩; have HB3 : Hid (Below w.heap.size w w3) := Lib.hid (stp HB2.out hb3); clear hb3)
                | fail)
              go_roundw
              case rel => exact ⟨k + 1, by omega, by go_num, HV.out, HB3.out⟩
              case measure => simp [intOf]; omega
        · obtain rfl : k = n := by omega
          obtain rfl : true = q := by
            rw [← HH.out]
            rwa [List.take_of_length_le (by rw [HN.out]; exact Nat.le_refl _), eq_comm] at hall
          clear hall hbw
          go_wp2_with fail
          go_ret
          exact ⟨rfl, HBW.out⟩
  · rw [decide_eq_false h16, Bool.and_false] at h
    obtain rfl : false = q := h
    have g16 : decide ((16 : Int) < (n : Int)) = true := decide_eq_true (by omega)
    clear hr hn hcp hsz
    go_enter Tryz.func91, Tryz.ntmps91
    go_wp2_with fail
    go_ret
    exact ⟨rfl, Below.refl _ _⟩
end Hx
end Go.Proofs.YtlhjcdkkmloamaaGreatDoor
