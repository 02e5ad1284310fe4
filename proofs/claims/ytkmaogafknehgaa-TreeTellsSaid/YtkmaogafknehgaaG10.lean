/-
  Texts of one seat, put together: BldA, EscB, EscH, EscV, LeaE.
-/
import Derived.Test.YtkmaogafknehgaaG00
import Derived.Test.YtkmaogafknehgaaShelf
import Derived.Lib.OthersKept
import Derived.Lib.FrozenHead2
import Derived.Laws.Externs
import Derived.Test.YtkmaogafknehgaaG08
import Derived.Test.YtkmaogafknehgaaG05
import Derived.Test.YtkmaogafknehgaaG09
import Derived.Test.YtkmaogafknehgaaG03
import Derived.Test.YtkmaogafknehgaaG06
import Derived.Maps.AppendAt
namespace Go.Proofs.Ytkmaogafknehgaa
open Go.RowKit
namespace Hx
set_option linter.unusedVariables false
/-- The builder in block b holds these bytes; it and its row lie from block B on. -/
def Bld (B b : Nat) (l : List UInt8) (w : World) : Prop := Lib.IsBuilderF 70 5 B b (Lib.byteCells l) w
theorem bcells_len (l : List UInt8) : (Lib.byteCells l).length = l.length := by simp [Lib.byteCells]
theorem bcells_app (a b : List UInt8) : Lib.byteCells (a ++ b) = Lib.byteCells a ++ Lib.byteCells b := by simp [Lib.byteCells]
theorem bcells_str (x : ByteArray) : Lib.strCells x = Lib.byteCells x.data.toList := rfl
theorem Bld.alloc {B b : Nat} {l : List UInt8} {w : World} (h : Bld B b l w) (o : Obj) : Bld B b l (w.alloc o) := Lib.IsBuilderF.alloc h o
theorem Bld.lt {B b : Nat} {l : List UInt8} {w : World} (h : Bld B b l w) : B ≤ b ∧ b < w.heap.size := by
  rcases h with h | h <;>
  · obtain ⟨h1, v, h2, _⟩ := h
    refine ⟨h1, ?_⟩
    rcases Nat.lt_or_ge b w.heap.size with h' | h'
    · exact h'
    · rw [Array.getElem?_eq_none h'] at h2; cases h2
theorem bldAt_below {T e : TypeId} {B b : Nat} {p : Value} {bs : List Value} {w w' : World} {n : Nat} (h : Lib.BuilderAtF T e B b p bs w) (hb : Below n w w') (hn : w.heap.size ≤ n) : Lib.BuilderAtF T e B b p bs w' := by
  obtain ⟨h1, v, h2, h3, h4⟩ := h
  have hlt : ∀ {k : Nat} {o : Obj}, w.heap[k]? = some o → w'.heap[k]? = some o := fun {k o} hk => by
    have : k < w.heap.size := by
      rcases Nat.lt_or_ge k w.heap.size with h' | h'
      · exact h'
      · rw [Array.getElem?_eq_none h'] at hk; cases hk
    rw [hb.block k (Nat.lt_of_lt_of_le this hn)]
    exact hk
  refine ⟨h1, v, hlt h2, ⟨h3.1, ?_⟩, h4⟩
  rcases h3.2 with h | ⟨g, cap, cur, fz, q1, q2, q3, q4⟩
  · exact .inl h
  · exact .inr ⟨g, cap, cur, fz, q1, q2, hlt q3, q4⟩
theorem Bld.below {B b : Nat} {l : List UInt8} {w w' : World} (h : Bld B b l w) (hb : Below w.heap.size w w') : Bld B b l w' :=
  h.elim (fun x => .inl (bldAt_below x hb (Nat.le_refl _))) (fun x => .inr (bldAt_below x hb (Nat.le_refl _)))
/-- A new one. -/
theorem bld_new (w : World) : Bld w.heap.size w.heap.size [] (w.alloc (.cells #[.pointer none, .slice none 0 0] 70)) := Lib.IsBuilderF.of (Lib.fresh_isBuilder _ _ _)
theorem cc_size : ∃ j, Try.prog.info? 70 = some j ∧ j.size = 2 := Option.map_eq_some_iff.1 (show (Try.prog.info? 70).map (·.size) = some 2 by kernel_rfl)
theorem cc_lies : liesAt Try.prog Try.prog.depth 70 (2 / Try.prog.cellsOf 70) 0 70 1 = true := by kernel_rfl
theorem bld_u8 : (Try.prog.info? 5).map (fun i => (i.zero, i.size, i.bytes)) = some (some (.int .u8 0), 1, 1) := by kernel_rfl
set_option maxHeartbeats 1000000 in
set_option maxRecDepth 100000 in
theorem cc_used (b : Nat) (w : World) (h0 : w.cell? ⟨b, 0, none⟩ = some (.pointer (some ⟨b, 0, none⟩))) :
    Calls Try.prog 50 #[.pointer (some ⟨b, 0, none⟩)] w fun e w' => e = .returned (.tuple #[]) ∧ w' = w := by
  obtain ⟨j, hj, _⟩ := cc_size
  go_enter Try.func50, Try.ntmps50
  go_wp2
  rw [Lib.run_neq_ptr_same w _ Try.underlying67 hj]
  go_wp2
  go_end0
  exact ⟨rfl, rfl⟩
set_option maxHeartbeats 1000000 in
set_option maxRecDepth 100000 in
theorem cc_fresh (b : Nat) (w : World) (h0 : w.cell? ⟨b, 0, none⟩ = some (.pointer none)) (hsh : w.shape? b = some (70, 2)) (hfz : w.frozen? ⟨b, 0, none⟩ = false) :
    Calls Try.prog 50 #[.pointer (some ⟨b, 0, none⟩)] w fun e w' => e = .returned (.tuple #[]) ∧ w' = w.setCell ⟨b, 0, none⟩ (.pointer (some ⟨b, 0, none⟩)) := by
  obtain ⟨j, hj, hjs⟩ := cc_size
  go_enter Try.func50, Try.ntmps50
  go_wp2
  rw [Lib.run_to_unsafe w ⟨b, 0, none⟩ Try.underlying67 Try.underlying91 hj (by rw [hjs]; decide) hsh (Nat.zero_lt_succ 1)]
  simp only [Result.andThen]
  rw [Oper.upon_value]
  go_wp2
  rw [run_callFunc_extern Try.func54 (by kernel_rfl) (by kernel_rfl) (by kernel_rfl) (e := Extern.AbiNoEscape.same) (by kernel_rfl)]
  rw [Lib.run_noEscape]
  simp only [Result.andThen]
  rw [Oper.upon_value]
  go_wp2
  rw [Lib.run_from_unsafe w ⟨b, 0, none⟩ Try.underlying91 Try.underlying67 hj hsh cc_lies]
  simp only [Result.andThen]
  rw [Oper.upon_value]
  go_wp2
  go_end0
  exact ⟨rfl, rfl⟩
theorem ccheck (B b : Nat) (bs : List Value) (w : World) (h : Lib.IsBuilderF 70 5 B b bs w) :
    Calls Try.prog 50 #[.pointer (some ⟨b, 0, none⟩)] w fun e w' => e = .returned (.tuple #[]) ∧ Lib.BuilderAtF 70 5 B b (.pointer (some ⟨b, 0, none⟩)) bs w' ∧ Below B w w' := by
  rcases h with h | h
  · refine (cc_fresh b w h.cell0 h.shape h.frozen0).mono ?_
    rintro e w' ⟨rfl, rfl⟩
    exact ⟨rfl, h.used _, (Below.refl B w).setCell (p := ⟨b, 0, none⟩) h.1 _⟩
  · refine (cc_used b w h.cell0).mono ?_
    rintro e w' ⟨rfl, rfl⟩
    exact ⟨rfl, h, Below.refl B _⟩
set_option maxHeartbeats 2000000 in
set_option maxRecDepth 100000 in
theorem bws (B b : Nat) (l : List UInt8) (x : ByteArray) (w : World) (h : Bld B b l w) (hl : l.length + x.size ≤ 1000000000) (hBw : B ≤ w.heap.size) :
    Calls Try.prog 35 #[.pointer (some ⟨b, 0, none⟩), .string x] w fun e w' => e = .returned (.tuple #[.int .i64 x.size, .nilIface]) ∧ Bld B b (l ++ x.data.toList) w' ∧ Below B w w' := by
  obtain ⟨i0, hi, hz0, hz1, hz2⟩ := info_parts bld_u8
  obtain ⟨bs, hbs⟩ : ∃ bs, Lib.byteCells l = bs := ⟨_, rfl⟩
  have hbl : bs.length = l.length := by rw [← hbs, bcells_len]
  have HE : Hid (Lib.byteCells (l ++ x.data.toList) = bs ++ Lib.strCells x) := Lib.hid (by rw [bcells_app, hbs]; rfl)
  have h' : Lib.IsBuilderF 70 5 B b bs w := hbs ▸ h
  have hl' : bs.length + x.size ≤ 1000000000 := by omega
  clear h hbs hbl hl
  go_enter Try.func35, Try.ntmps35
  go_wp2_with (go_at_call 50; (with_reducible refine (ccheck B b bs w h').mono ?_))
  rintro e w1 ⟨rfl, h1, hb1⟩
  obtain ⟨hB, v, hbk, hown, hne⟩ := h1
  have c0 : w1.cell? ⟨b, 0, none⟩ = some (.pointer (some ⟨b, 0, none⟩)) := by rw [Lib.cell_of_heap hbk]; rfl
  have c1 : w1.cell? ⟨b, 1, none⟩ = some v := by rw [Lib.cell_of_heap hbk]; rfl
  go_wp2_with (at_builtin; refine Lib.wpList_append_own_stringF _ rfl _ _ 68 9 rfl B 5 i0 Try.underlying68 Try.underlying9 hi hz0 hz1 hz2 _ _ _ rfl hown x rfl ?c3 ?c4 ?c5 ?_)
  case c3 => unfold maxLen; omega
  case c4 => omega
  case c5 => have := hb1.size; omega
  intro v' w2 hown' hgrow _
  have hlt : b < w1.heap.size := by
    rcases Nat.lt_or_ge b w1.heap.size with h' | h'
    · exact h'
    · simp [Array.getElem?_eq_none h'] at hbk
  have hb2 : w2.heap[b]? = some (.cells #[.pointer (some ⟨b, 0, none⟩), v] 70 (0, 0)) := by
    rw [hgrow.block b hlt (fun e => hne e.symm)]
    exact hbk
  have d0 : w2.cell? ⟨b, 0, none⟩ = some (.pointer (some ⟨b, 0, none⟩)) := by rw [Lib.cell_of_heap hb2]; rfl
  have d1 : w2.cell? ⟨b, 1, none⟩ = some v := by rw [Lib.cell_of_heap hb2]; rfl
  have f1 : w2.frozen? ⟨b, 1, none⟩ = false := Lib.frozen_of_heap hb2 1
  obtain ⟨ao, n', cap, rfl⟩ : ∃ ao n' cap, v' = .slice ao n' cap := by
    rcases hown'.2 with ⟨hv, _⟩ | ⟨g, cap, cur, fz, hv, _⟩
    · exact ⟨_, _, _, hv⟩
    · exact ⟨_, _, _, hv⟩
  go_wp2
  go_ret2
  refine ⟨rfl, ?_, ?_⟩
  · unfold Bld
    rw [HE.out]
    exact .inr (Lib.BuilderAtF.put (T := 70) (e := 5) hB hb2 (bs' := bs ++ Lib.strCells x) (by simpa [Lib.strCells_length] using hown') (by decide))
  · exact (hb1.grown hgrow (by have := hb1.size; omega) (fun k hk => (hown.lt k hk).1)).setCell (p := ⟨b, 1, none⟩) hB _
theorem bst (B b : Nat) (x : ByteArray) (w : World) (h : Bld B b x.data.toList w) (hB : B ≤ w.heap.size) :
    Calls Try.prog 36 #[.pointer (some ⟨b, 0, none⟩)] w fun e w' => e = .returned (.string x) ∧ Bld B b x.data.toList w' ∧ Below B w w' :=
  (Try.Builder_String_any_k B b _ w h hB).mono fun e w' ⟨h1, h2, h3, _⟩ => ⟨h1, h2, h3⟩
end Hx
end Go.Proofs.Ytkmaogafknehgaa
namespace Go.Proofs.Ytkmaogafknehgaa
open Go.RowKit
namespace Hx
open Tx Nmb Es
set_option linter.unusedVariables false
theorem putR_lits {s t : ByteArray} {q : Bool} {e : Int} (h : putR s q = (t, e)) : e = 0 ∨ e = 4 ∨ e = 50 := by
  unfold putR at h
  rcases chk_lits s with k | k | k
  · rw [if_neg (by simpa using k)] at h
    split at h <;> cases h
    · exact .inr (.inl rfl)
    · exact .inl rfl
  · rw [if_pos (by rw [k]; decide), k] at h; cases h; exact .inr (.inl rfl)
  · rw [if_pos (by rw [k]; decide), k] at h; cases h; exact .inr (.inr rfl)
end Hx
end Go.Proofs.Ytkmaogafknehgaa
namespace Go.Proofs.Ytkmaogafknehgaa
open Go.RowKit
namespace Hx
open Tx Nmb Es
set_option linter.unusedVariables false
theorem rd_self (p : List UInt8) (h : ∀ x ∈ p, x ≠ 60 ∧ x ≠ 38) : rd p = some p := by
  induction p with
  | nil => rfl
  | cons c p ih =>
    have hc := h c (by simp)
    rw [rd_byte c p hc.1 hc.2, ih (fun x hx => h x (by simp [hx]))]
    rfl
theorem rd_plain (p r : List UInt8) (h : ∀ x ∈ p, x ≠ 60 ∧ x ≠ 38) : rd (p ++ r) = (rd r).map (p ++ ·) := rd_append p r p (rd_self p h)
theorem dg_no60 (n : Nat) : (60 : UInt8) ∉ dg n := dg_not n 60 (by decide)
theorem hexV_no60 {l : List UInt8} {n : Nat} (h : hexV l = some n) : (60 : UInt8) ∉ l := by
  intro hm
  obtain ⟨k, hk⟩ := List.mem_iff_getElem?.1 hm
  have h0 : hxv 60 = none := by decide
  unfold hexV at h
  split at h
  · cases h
  · rw [hexF_stop hk h0] at h; cases h
theorem numL_no60 {l : List UInt8} {n : Nat} (h : numL l = some n) : (60 : UInt8) ∉ l := by
  by_cases hd : l.head? = some 120
  · cases l with
    | nil => cases hd
    | cons c r =>
      cases hd
      rw [numL_x] at h
      rw [Option.filter_eq_some_iff] at h
      intro hm
      rcases List.mem_cons.1 hm with e | e
      · cases e
      · exact hexV_no60 h.1 e
  · rw [numL_d hd, Option.filter_eq_some_iff] at h
    rw [((readN_iff l n).1 h.1).1]
    exact dg_no60 n
theorem meantL_no60 {l y : List UInt8} (h : meantL l = some y) : (60 : UInt8) ∉ l := by
  unfold meantL at h
  split at h
  · rename_i e; subst e; decide
  split at h
  · rename_i e; subst e; decide
  split at h
  · rename_i e; subst e; decide
  split at h
  · rename_i e; subst e; decide
  split at h
  · rename_i e; subst e; decide
  split at h
  · rename_i r _ _ _ _ _
    rw [Option.map_eq_some_iff] at h
    obtain ⟨n, hn, _⟩ := h
    intro hm
    rcases List.mem_cons.1 hm with e | e
    · cases e
    · exact numL_no60 hn e
  · cases h
theorem rd_lt : ∀ (n : Nat) (l : List UInt8), l.length ≤ n → (60 : UInt8) ∈ l → rd l = none
  | _, [], _, h => by simp at h
  | 0, c :: l, hn, _ => by simp at hn
  | n + 1, c :: l, hn, h => by
    simp only [List.length_cons] at hn
    by_cases h60 : c = 60
    · rw [h60]; exact rd_bad l
    · have hl : (60 : UInt8) ∈ l := (List.mem_cons.1 h).resolve_left (fun e => h60 e.symm)
      by_cases h38 : c = 38
      · subst h38
        rw [rd_amp]
        cases hs : semi l with
        | none => rfl
        | some p =>
          obtain ⟨x, t⟩ := p
          obtain ⟨e, hx⟩ := semi_some l x t hs
          simp only
          cases hm : meantL x with
          | none => rfl
          | some y =>
            simp only
            have ht : (60 : UInt8) ∈ t := by
              rw [e] at hl
              rcases List.mem_append.1 hl with q | q
              · exact absurd q (meantL_no60 hm)
              · rcases List.mem_cons.1 q with q | q
                · cases q
                · exact q
            have hlen := congrArg List.length e
            simp only [List.length_append, List.length_cons] at hlen
            rw [rd_lt n t (by omega) ht]
            rfl
      · rw [rd_byte c l h60 h38, rd_lt n l (by omega) hl]
        rfl
/-- What replace answers. -/
def repR (l : List UInt8) : ByteArray × Int := match rd l with | some y => (⟨y.toArray⟩, 0) | none => (⟨#[]⟩, 80)
theorem ext_take (s : ByteArray) (i : Nat) : (s.extract 0 i).data.toList = s.data.toList.take i := by rw [extract_mid8]; simp
theorem ext_drop (s : ByteArray) (j : Nat) : (s.extract j s.size).data.toList = s.data.toList.drop j := by
  rw [extract_mid8]
  show (s.data.toList.drop j).take (s.size - j) = _
  exact List.take_of_length_le (by rw [List.length_drop, ba_len5]; exact Nat.le_refl _)
theorem repR_none {l : List UInt8} (h : rd l = none) : repR l = (⟨#[]⟩, 80) := by unfold repR; rw [h]
theorem repR_some {l y : List UInt8} (h : rd l = some y) : repR l = (⟨y.toArray⟩, 0) := by unfold repR; rw [h]
theorem refR_none {l : List UInt8} {t : ByteArray} {e : Int} (h : refR l = (t, e)) : (e = 0 ∧ meantL l = some t.data.toList) ∨ (e = 80 ∧ meantL l = none) := by
  unfold refR at h
  cases hm : meantL l with
  | none => rw [hm] at h; cases h; exact .inr ⟨rfl, rfl⟩
  | some y => rw [hm] at h; cases h; exact .inl ⟨rfl, rfl⟩
end Hx
end Go.Proofs.Ytkmaogafknehgaa
namespace Go.Proofs.Ytkmaogafknehgaa
open Go.RowKit
namespace Hx
open Tx Nmb Es
set_option linter.unusedVariables false
theorem getR_lits {s t : ByteArray} {e : Int} (h : getR s = (t, e)) : e = 0 ∨ e = 4 ∨ e = 50 ∨ e = 80 := by
  unfold getR at h
  rcases chk_lits s with k | k | k
  · rw [if_neg (by simpa using k)] at h
    split at h <;> cases h
    · exact .inl rfl
    · exact .inr (.inr (.inr rfl))
  · rw [if_pos (by rw [k]; decide), k] at h; cases h; exact .inr (.inl rfl)
  · rw [if_pos (by rw [k]; decide), k] at h; cases h; exact .inr (.inr (.inl rfl))
end Hx
end Go.Proofs.Ytkmaogafknehgaa
namespace Go.Proofs.Ytkmaogafknehgaa
open Go.RowKit
namespace Hx
open Lx Tx Nmb Es
set_option linter.unusedVariables false
theorem grown_below {w w' : World} (h : Below w.heap.size w w') (row : Option Nat) : w.grownBy w' row := ⟨h.os, h.tape, h.output, h.size, fun k hk _ => h.block k hk⟩
theorem grown_set (w : World) (b : Nat) (v : Value) : w.grownBy (w.setCell ⟨b, 0, none⟩ v) (some b) := ⟨rfl, rfl, rfl, by simp [World.setCell], fun k _ hne => Below.heap_setCell _ _ _ _ (fun e => hne (by rw [e]))⟩
theorem below_grown {w w' : World} {b n : Nat} (h : w.grownBy w' (some b)) (hn : n ≤ b) (hs : b < w.heap.size) : Below n w w' := ⟨h.os, h.tape, h.output, h.size, fun k hk => h.block k (by omega) (fun e => by injection e; omega)⟩
/-- A panic with an error. -/
def Thrown (er : Int) : Ending := .panicked [{ v := .iface 26 (.int .i64 er), recovered := false }]
theorem ba_mk (l : List UInt8) : (⟨l.toArray⟩ : ByteArray).data.toList = l := by simp
theorem cut_parts (q : UInt8) (l : List UInt8) : (q ∉ l ∧ l.takeWhile (ne q) = l) ∨ ∃ y, l = l.takeWhile (ne q) ++ q :: y ∧ q ∉ l.takeWhile (ne q) := by
  obtain ⟨h1, h2, h3⟩ := tw_split (ne q) l
  have hn : q ∉ l.takeWhile (ne q) := fun hx => (ne_iff q q).1 (h2 _ hx) rfl
  cases hd : l.dropWhile (ne q) with
  | nil =>
    rw [hd, List.append_nil] at h1
    exact .inl ⟨by rw [h1]; exact hn, h1.symm⟩
  | cons d y =>
    have hdq : d = q := by have := h3 d y hd; unfold ne at this; simpa using this
    subst hdq
    rw [hd] at h1
    exact .inr ⟨y, h1, hn⟩
set_option maxRecDepth 100000 in
/-- strings.Clone. -/
theorem clone9 (s : ByteArray) (w : World) (h0 : s.size ≤ 1000000) :
    Calls Try.prog 24 #[.string s] w fun e w' => e = .returned (.string s) ∧ Below w.heap.size w w' := by
  have H0 : Hid (s.size ≤ 281474976710656) := Lib.hid (by omega)
  clear h0
  go_enter Try.func24, Try.ntmps24
  go_wp2_with (go_at_call 46; (with_reducible refine (Try.stringslite_Clone s w H0.out).mono ?_); rintro e w1 ⟨rfl, hb1⟩)
  go_ret
  exact ⟨rfl, hb1⟩
theorem pre_yes (p t : List UInt8) : Lib.hasPrefix (p ++ t) p = true ∧ Lib.trimPrefix (p ++ t) p = t := by
  refine ⟨?_, ?_⟩
  · simp [Lib.hasPrefix]
  · simp [Lib.trimPrefix, Lib.hasPrefix]
theorem pre_no {l p : List UInt8} (h : ¬ p <+: l) : Lib.hasPrefix l p = false ∧ Lib.trimPrefix l p = l := by
  have h1 : Lib.hasPrefix l p = false := by
    cases hb : Lib.hasPrefix l p with
    | false => rfl
    | true => exact absurd (by simpa [Lib.hasPrefix] using hb) h
  exact ⟨h1, by simp [Lib.trimPrefix, h1]⟩
theorem tw_at (p : UInt8 → Bool) : ∀ {l : List UInt8} {k : Nat}, k ≤ l.length → (∀ c ∈ l.take k, p c = true) → (∀ h : k < l.length, p (l[k]'h) = false) → l.takeWhile p = l.take k ∧ l.dropWhile p = l.drop k := by
  intro l k hk h1 h2
  have := tw_app (p := p) (a := l.take k) (b := l.drop k) h1 (fun c r e => by
    have hlt : k < l.length := by
      rcases Nat.lt_or_ge k l.length with h | h
      · exact h
      · rw [List.drop_of_length_le h] at e; cases e
    rw [List.drop_eq_getElem_cons hlt] at e
    injection e with e _
    rw [← e]
    exact h2 hlt)
  rwa [List.take_append_drop] at this
theorem all_step9 (p : UInt8 → Bool) {l : List UInt8} {k : Nat} (hk : k < l.length) (h : ∀ c ∈ l.take k, p c = true) (h1 : p (l[k]'hk) = true) : ∀ c ∈ l.take (k + 1), p c = true := by
  intro c hc
  rw [List.take_succ_eq_append_getElem hk, List.mem_append, List.mem_singleton] at hc
  rcases hc with hc | rfl
  · exact h c hc
  · exact h1
theorem blk_index (c : UInt8) : ∃ j : Int, Lib.indexByte [32, 9, 10, 13] c = j ∧ decide ((0 : Int) ≤ j) = blk c := by
  refine ⟨_, rfl, ?_⟩
  rcases xix_cases [32, 9, 10, 13] c with ⟨h1, h2⟩ | ⟨i, h1, _, h2, _⟩
  · rw [h1]
    simp only [List.mem_cons, List.not_mem_nil, or_false, not_or] at h2
    unfold blk
    simp [h2.1, h2.2.1, h2.2.2.1, h2.2.2.2]
  · rw [h1]
    have hm : c ∈ ([32, 9, 10, 13] : List UInt8) := by rw [h2]; simp
    simp only [List.mem_cons, List.not_mem_nil, or_false] at hm
    have : blk c = true := by rcases hm with rfl | rfl | rfl | rfl <;> decide
    rw [this]
    exact decide_eq_true (by omega)
theorem getR_told {s t : ByteArray} (hp : isP s.data.toList = true) (hs : s.size ≤ 16384) (h : rd s.data.toList = some t.data.toList) : getR s = (t, 0) := by
  unfold getR
  rw [if_neg (by unfold chkE; rw [if_neg (by omega), if_pos (show (pts s.data.toList).isSome = true from hp)]; decide), h]
theorem getR_none9 {s : ByteArray} (hp : isP s.data.toList = true) (hs : s.size ≤ 16384) (h : rd s.data.toList = none) : getR s = (⟨#[]⟩, 80) := by
  unfold getR
  rw [if_neg (by unfold chkE; rw [if_neg (by omega), if_pos (show (pts s.data.toList).isSome = true from hp)]; decide), h]
end Hx
end Go.Proofs.Ytkmaogafknehgaa
