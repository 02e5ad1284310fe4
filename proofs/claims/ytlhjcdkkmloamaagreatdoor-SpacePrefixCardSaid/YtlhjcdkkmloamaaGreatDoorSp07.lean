/-
  Texts of one seat, put together: LexF, LexH, BldA, BldK, EscA, TextP.
-/
import Derived.Test.YtlhjcdkkmloamaaGreatDoorSp06
import Derived.Deep.LoopGhost
import Derived.Test.YtlhjcdkkmloamaaGreatDoorSp05
import Derived.Deep.QuietTactic
import Derived.Test.YtlhjcdkkmloamaaGreatDoorSp00
import Derived.Test.YtlhjcdkkmloamaaGreatDoorShelf
import Derived.Lib.OthersKept
import Derived.Lib.FrozenHead2
import Derived.Laws.Externs
import Derived.Test.YtlhjcdkkmloamaaGreatDoorSp04
set_option linter.unusedSimpArgs false
namespace Go.Proofs.YtlhjcdkkmloamaaGreatDoor
open Go.RowKit
namespace Hx
open Lx Tx Nmb Es
set_option linter.unusedVariables false
def Small (t : Tk) : Prop := t.name.length ≤ 1000000 ∧ t.text.length ≤ 1000000 ∧ t.attrs.length ≤ 1000000 ∧ ∀ p ∈ t.attrs, p.name.length ≤ 1000000 ∧ p.value.length ≤ 1000000
end Hx
end Go.Proofs.YtlhjcdkkmloamaaGreatDoor
namespace Go.Proofs.YtlhjcdkkmloamaaGreatDoor
open Go.RowKit
namespace Hx
set_option maxRecDepth 100000
set_option maxHeartbeats 16000000
set_option linter.unusedVariables false
def Bld (B b : Nat) (l : List UInt8) (w : World) : Prop := Lib.IsBuilderF 140 5 B b (Lib.byteCells l) w
theorem bcells_len (l : List UInt8) : (Lib.byteCells l).length = l.length := by simp [Lib.byteCells]
theorem bcells_app (a b : List UInt8) : Lib.byteCells (a ++ b) = Lib.byteCells a ++ Lib.byteCells b := by simp [Lib.byteCells]
theorem Bld.alloc {B b : Nat} {l : List UInt8} {w : World} (h : Bld B b l w) (o : Obj) : Bld B b l (w.alloc o) := Lib.IsBuilderF.alloc h o
theorem Bld.lt {B b : Nat} {l : List UInt8} {w : World} (h : Bld B b l w) : B ≤ b ∧ b < w.heap.size := by
  rcases h with h | h <;>
  · obtain ⟨h1, v, h2, _⟩ := h
    refine ⟨h1, ?_⟩
    rcases Nat.lt_or_ge b w.heap.size with h' | h'
    · exact h'
    · rw [Array.getElem?_eq_none h'] at h2; cases h2
theorem bldAt_below {T e : TypeId} {B b : Nat} {p : Value} {bs : List Value} {w w' : World} {n : Nat} (h : Lib.BuilderAtF T e B b p bs w) (hb : Below n w w') (hn : w.heap.size ≤ n) : Lib.BuilderAtF T e B b p bs w' := by
  obtain ⟨h1, v, h2, h3, h4⟩ := h
  have hlt : ∀ {k : Nat} {o : Obj}, w.heap[k]? = some o → w'.heap[k]? = some o := fun {k o} hk => by
    have : k < w.heap.size := by
      rcases Nat.lt_or_ge k w.heap.size with h' | h'
      · exact h'
      · rw [Array.getElem?_eq_none h'] at hk; cases hk
    rw [hb.block k (Nat.lt_of_lt_of_le this hn)]
    exact hk
  refine ⟨h1, v, hlt h2, ⟨h3.1, ?_⟩, h4⟩
  rcases h3.2 with h | ⟨g, cap, cur, fz, q1, q2, q3, q4⟩
  · exact .inl h
  · exact .inr ⟨g, cap, cur, fz, q1, q2, hlt q3, q4⟩
theorem Bld.below {B b : Nat} {l : List UInt8} {w w' : World} (h : Bld B b l w) (hb : Below w.heap.size w w') : Bld B b l w' :=
  h.elim (fun x => .inl (bldAt_below x hb (Nat.le_refl _))) (fun x => .inr (bldAt_below x hb (Nat.le_refl _)))
theorem bld_new (w : World) : Bld w.heap.size w.heap.size [] (w.alloc (.cells #[.pointer none, .slice none 0 0] 140)) := Lib.IsBuilderF.of (Lib.fresh_isBuilder _ _ _)
theorem cc_size : ∃ j, Tryz.prog.info? 140 = some j ∧ j.size = 2 := Option.map_eq_some_iff.1 (show (Tryz.prog.info? 140).map (·.size) = some 2 by kernel_rfl)
theorem cc_lies : liesAt Tryz.prog Tryz.prog.depth 140 (2 / Tryz.prog.cellsOf 140) 0 140 1 = true := by kernel_rfl
theorem bld_u8 : (Tryz.prog.info? 5).map (fun i => (i.zero, i.size, i.bytes)) = some (some (.int .u8 0), 1, 1) := by kernel_rfl
theorem cc_used (b : Nat) (w : World) (h0 : w.cell? ⟨b, 0, none⟩ = some (.pointer (some ⟨b, 0, none⟩))) :
    Calls Tryz.prog 135 #[.pointer (some ⟨b, 0, none⟩)] w fun e w' => e = .returned (.tuple #[]) ∧ w' = w := by
  obtain ⟨j, hj, _⟩ := cc_size
  go_enter Tryz.func135, Tryz.ntmps135
  go_wp2
  rw [Lib.run_neq_ptr_same w _ Tryz.underlying138 hj]
  go_wp2
  go_end0
  exact ⟨rfl, rfl⟩
theorem cc_fresh (b : Nat) (w : World) (h0 : w.cell? ⟨b, 0, none⟩ = some (.pointer none)) (hsh : w.shape? b = some (140, 2)) (hfz : w.frozen? ⟨b, 0, none⟩ = false) :
    Calls Tryz.prog 135 #[.pointer (some ⟨b, 0, none⟩)] w fun e w' => e = .returned (.tuple #[]) ∧ w' = w.setCell ⟨b, 0, none⟩ (.pointer (some ⟨b, 0, none⟩)) := by
  obtain ⟨j, hj, hjs⟩ := cc_size
  go_enter Tryz.func135, Tryz.ntmps135
  go_wp2
  rw [Lib.run_to_unsafe w ⟨b, 0, none⟩ Tryz.underlying138 Tryz.underlying173 hj (by rw [hjs]; decide) hsh (Nat.zero_lt_succ 1)]
  simp only [Result.andThen]
  rw [Oper.upon_value]
  go_wp2
  rw [run_callFunc_extern Tryz.func149 (by kernel_rfl) (by kernel_rfl) (by kernel_rfl) (e := Extern.AbiNoEscape.same) (by kernel_rfl)]
  rw [Lib.run_noEscape]
  simp only [Result.andThen]
  rw [Oper.upon_value]
  go_wp2
  rw [Lib.run_from_unsafe w ⟨b, 0, none⟩ Tryz.underlying173 Tryz.underlying138 hj hsh cc_lies]
  simp only [Result.andThen]
  rw [Oper.upon_value]
  go_wp2
  go_end0
  exact ⟨rfl, rfl⟩
theorem ccheck (B b : Nat) (bs : List Value) (w : World) (h : Lib.IsBuilderF 140 5 B b bs w) :
    Calls Tryz.prog 135 #[.pointer (some ⟨b, 0, none⟩)] w fun e w' => e = .returned (.tuple #[]) ∧ Lib.BuilderAtF 140 5 B b (.pointer (some ⟨b, 0, none⟩)) bs w' ∧ Below B w w' := by
  rcases h with h | h
  · refine (cc_fresh b w h.cell0 h.shape h.frozen0).mono ?_
    rintro e w' ⟨rfl, rfl⟩
    exact ⟨rfl, h.used _, (Below.refl B w).setCell (p := ⟨b, 0, none⟩) h.1 _⟩
  · refine (cc_used b w h.cell0).mono ?_
    rintro e w' ⟨rfl, rfl⟩
    exact ⟨rfl, h, Below.refl B _⟩
theorem bws (B b : Nat) (l : List UInt8) (x : ByteArray) (w : World) (h : Bld B b l w) (hl : l.length + x.size ≤ 1000000000) (hBw : B ≤ w.heap.size) :
    Calls Tryz.prog 116 #[.pointer (some ⟨b, 0, none⟩), .string x] w fun e w' => e = .returned (.tuple #[.int .i64 x.size, .nilIface]) ∧ Bld B b (l ++ x.data.toList) w' ∧ Below B w w' := by
  obtain ⟨i0, hi, hz0, hz1, hz2⟩ := info_parts bld_u8
  obtain ⟨bs, hbs⟩ : ∃ bs, Lib.byteCells l = bs := ⟨_, rfl⟩
  have hbl : bs.length = l.length := by rw [← hbs, bcells_len]
  have HE : Hid (Lib.byteCells (l ++ x.data.toList) = bs ++ Lib.strCells x) := Lib.hid (by rw [bcells_app, hbs]; rfl)
  have h' : Lib.IsBuilderF 140 5 B b bs w := hbs ▸ h
  have hl' : bs.length + x.size ≤ 1000000000 := by omega
  clear h hbs hbl hl
  go_enter Tryz.func116, Tryz.ntmps116
  go_wp2_with (go_at_call 135; (with_reducible refine (ccheck B b bs w h').mono ?_))
  rintro e w1 ⟨rfl, h1, hb1⟩
  obtain ⟨hB, v, hbk, hown, hne⟩ := h1
  have c0 : w1.cell? ⟨b, 0, none⟩ = some (.pointer (some ⟨b, 0, none⟩)) := by rw [Lib.cell_of_heap hbk]; rfl
  have c1 : w1.cell? ⟨b, 1, none⟩ = some v := by rw [Lib.cell_of_heap hbk]; rfl
  go_wp2_with (at_builtin; refine Lib.wpList_append_own_stringF _ rfl _ _ 96 9 rfl B 5 i0 Tryz.underlying96 Tryz.underlying9 hi hz0 hz1 hz2 _ _ _ rfl hown x rfl ?c3 ?c4 ?c5 ?_)
  case c3 => unfold maxLen; omega
  case c4 => omega
  case c5 => have := hb1.size; omega
  intro v' w2 hown' hgrow _
  have hlt : b < w1.heap.size := by
    rcases Nat.lt_or_ge b w1.heap.size with h' | h'
    · exact h'
    · simp [Array.getElem?_eq_none h'] at hbk
  have hb2 : w2.heap[b]? = some (.cells #[.pointer (some ⟨b, 0, none⟩), v] 140 (0, 0)) := by
    rw [hgrow.block b hlt (fun e => hne e.symm)]
    exact hbk
  have d0 : w2.cell? ⟨b, 0, none⟩ = some (.pointer (some ⟨b, 0, none⟩)) := by rw [Lib.cell_of_heap hb2]; rfl
  have d1 : w2.cell? ⟨b, 1, none⟩ = some v := by rw [Lib.cell_of_heap hb2]; rfl
  have f1 : w2.frozen? ⟨b, 1, none⟩ = false := Lib.frozen_of_heap hb2 1
  obtain ⟨ao, n', cap, rfl⟩ : ∃ ao n' cap, v' = .slice ao n' cap := by
    rcases hown'.2 with ⟨hv, _⟩ | ⟨g, cap, cur, fz, hv, _⟩
    · exact ⟨_, _, _, hv⟩
    · exact ⟨_, _, _, hv⟩
  go_wp2
  go_ret2
  refine ⟨rfl, ?_, ?_⟩
  · unfold Bld
    rw [HE.out]
    exact .inr (Lib.BuilderAtF.put (T := 140) (e := 5) hB hb2 (bs' := bs ++ Lib.strCells x) (by simpa [Lib.strCells_length] using hown') (by decide))
  · exact (hb1.grown hgrow (by have := hb1.size; omega) (fun k hk => (hown.lt k hk).1)).setCell (p := ⟨b, 1, none⟩) hB _
theorem bst (B b : Nat) (x : ByteArray) (w : World) (h : Bld B b x.data.toList w) (hB : B ≤ w.heap.size) :
    Calls Tryz.prog 117 #[.pointer (some ⟨b, 0, none⟩)] w fun e w' => e = .returned (.string x) ∧ Bld B b x.data.toList w' ∧ Below B w w' :=
  (Tryz.Builder_String_any_k B b _ w h hB).mono fun e w' ⟨h1, h2, h3, _⟩ => ⟨h1, h2, h3⟩
end Hx
end Go.Proofs.YtlhjcdkkmloamaaGreatDoor
namespace Go.Proofs.YtlhjcdkkmloamaaGreatDoor
open Go.RowKit
namespace Hx
set_option linter.unusedVariables false
end Hx
end Go.Proofs.YtlhjcdkkmloamaaGreatDoor
namespace Go.Proofs.YtlhjcdkkmloamaaGreatDoor
open Go.RowKit
namespace Hx
open Tx Nmb Es
set_option linter.unusedVariables false
end Hx
end Go.Proofs.YtlhjcdkkmloamaaGreatDoor
namespace Go.Proofs.YtlhjcdkkmloamaaGreatDoor
open Go.RowKit
namespace Hx
open Tx
set_option maxRecDepth 100000
set_option maxHeartbeats 16000000
set_option linter.unusedVariables false
theorem may5w (n : Int) (b : Bool) (w : World) (hb : may n = b) :
    Calls Tryz.prog 78 #[.int .i64 n] w fun e w' => e = .returned (.bool b) ∧ w = w' := by
  by_cases a : n = 9
  · subst a
    obtain rfl : true = b := hb
    go_enter Tryz.func78, Tryz.ntmps78
    go_wp2
    go_ret
    exact ⟨rfl, rfl⟩
  have q1 : (n == 9) = false := by simpa using a
  by_cases a2 : n = 10
  · subst a2
    obtain rfl : true = b := hb
    go_enter Tryz.func78, Tryz.ntmps78
    go_wp2
    go_ret
    exact ⟨rfl, rfl⟩
  have q2 : (n == 10) = false := by simpa using a2
  by_cases a3 : n = 13
  · subst a3
    obtain rfl : true = b := hb
    go_enter Tryz.func78, Tryz.ntmps78
    go_wp2
    go_ret
    exact ⟨rfl, rfl⟩
  have q3 : (n == 13) = false := by simpa using a3
  by_cases a6 : n = 65534
  · subst a6
    obtain rfl : false = b := hb
    go_enter Tryz.func78, Tryz.ntmps78
    go_wp2
    go_ret
    exact ⟨rfl, rfl⟩
  have q6 : (n == 65534) = false := by simpa using a6
  by_cases a7 : n = 65535
  · subst a7
    obtain rfl : false = b := hb
    go_enter Tryz.func78, Tryz.ntmps78
    go_wp2
    go_ret
    exact ⟨rfl, rfl⟩
  have q7 : (n == 65535) = false := by simpa using a7
  by_cases a4 : 55296 ≤ n
  · have d4 : decide (55296 ≤ n) = true := by simpa using a4
    have d8 : decide (32 ≤ n) = true := by simp; omega
    by_cases a5 : n ≤ 57343
    · have d5 : decide (n ≤ 57343) = true := by simpa using a5
      obtain rfl : false = b := by
        rw [← hb, may_high (by omega)]
        have e1 : decide (n < 55296) = false := by simp; omega
        have e2 : decide (57343 < n) = false := by simp; omega
        rw [e1, e2]; simp
      clear hb a4 a5
      go_enter Tryz.func78, Tryz.ntmps78
      go_wp2
      go_ret
      exact ⟨rfl, rfl⟩
    · have d5 : decide (n ≤ 57343) = false := by simpa using a5
      have hb2 : decide (n ≤ 1114111) = b := by
        rw [← hb, may_high (by omega)]
        have e1 : decide (n < 55296) = false := by simp; omega
        have e2 : decide (57343 < n) = true := by simp; omega
        rw [e1, e2]; simp [a6, a7]
      clear hb a4 a5 a a2 a3 a6 a7
      go_enter Tryz.func78, Tryz.ntmps78
      go_wp2
      go_ret
      exact ⟨rfl, rfl⟩
  · have d4 : decide (55296 ≤ n) = false := by simpa using a4
    by_cases a8 : 32 ≤ n
    · have d8 : decide (32 ≤ n) = true := by simpa using a8
      have d9 : decide (n ≤ 1114111) = true := by simp; omega
      obtain rfl : true = b := by
        rw [← hb, may_high (by omega), d9]
        have e1 : decide (n < 55296) = true := by simp; omega
        rw [e1]; simp [a6, a7]
      clear hb a4 a8 a a2 a3 a6 a7
      go_enter Tryz.func78, Tryz.ntmps78
      go_wp2
      go_ret
      exact ⟨rfl, rfl⟩
    · have d8 : decide (32 ≤ n) = false := by simpa using a8
      obtain rfl : false = b := by
        rw [← hb, may_low (by omega)]
        simp [a, a2, a3]
      clear hb a4 a8 a a2 a3 a6 a7
      go_enter Tryz.func78, Tryz.ntmps78
      go_wp2
      go_ret
      exact ⟨rfl, rfl⟩
theorem slpre (s p : ByteArray) (q : Bool) (w : World) (hq : (decide (p.size ≤ s.size) && decide ((s.extract 0 p.size) = p)) = q) :
    Calls Tryz.prog 67 #[.string s, .string p] w fun e w' => e = .returned (.bool q) ∧ w = w' := by
  by_cases h : p.size ≤ s.size
  · have d0 : decide ((p.size : Int) ≤ (s.size : Int)) = true := by simp; omega
    have e : ((s.extract 0 p.size).toList == p.toList) = q := by rw [seq_b5, ← hq]; simp [h]
    clear hq
    go_enter Tryz.func67, Tryz.ntmps67
    go_wp2
    go_ret
    exact ⟨rfl, rfl⟩
  · have d0 : decide ((p.size : Int) ≤ (s.size : Int)) = false := by simp; omega
    obtain rfl : false = q := by rw [← hq]; simp [h]
    clear hq
    go_enter Tryz.func67, Tryz.ntmps67
    go_wp2
    go_ret
    exact ⟨rfl, rfl⟩
theorem pre5 (s p : ByteArray) (q : Bool) (w : World) (hq : (decide (p.size ≤ s.size) && decide ((s.extract 0 p.size) = p)) = q) :
    Calls Tryz.prog 49 #[.string s, .string p] w fun e w' => e = .returned (.bool q) ∧ w = w' := by
  have HQ := Lib.hid hq
  clear hq
  go_enter Tryz.func49, Tryz.ntmps49
  go_wp2_with (go_at_call 67; (with_reducible refine (slpre s p q w HQ.out).mono ?_); rintro e w1 ⟨rfl, rfl⟩)
  go_ret
  exact ⟨rfl, rfl⟩
def stnd : ByteArray := ⟨#[239, 191, 189]⟩
theorem enc_stnd : enc 65533 = [239, 191, 189] := by decide +kernel
theorem extract_take (s : ByteArray) (n : Nat) : s.extract 0 n = ⟨(s.data.toList.take n).toArray⟩ := by
  have := ByteArray.extract_mk s.data.toList 0 n
  rw [← ba_eq5] at this
  rw [this]
  simp
theorem stnd_pre (l : List UInt8) : (decide (stnd.size ≤ (⟨l.toArray⟩ : ByteArray).size) && decide (((⟨l.toArray⟩ : ByteArray).extract 0 stnd.size) = stnd)) = decide (l.take 3 = [239, 191, 189]) := by
  rw [extract_take]
  show (decide (3 ≤ l.length) && decide ((⟨(l.take 3).toArray⟩ : ByteArray) = ⟨#[239, 191, 189]⟩)) = _
  rw [Bool.eq_iff_iff]
  simp only [Bool.and_eq_true, decide_eq_true_eq]
  constructor
  · rintro ⟨_, h⟩
    have := congrArg (fun x : ByteArray => x.data.toList) h
    simpa using this
  · intro h
    refine ⟨?_, by rw [h]⟩
    have := congrArg List.length h
    rw [List.length_take] at this
    simp at this
    omega
def runeL (l : List UInt8) : Nat := match decL l with | some p => p.1 | none => 65533
theorem dec_stnd (l : List UInt8) : l.take 3 = [239, 191, 189] ↔ decL l = some (65533, 3) := by
  constructor
  · intro h
    have e : l = enc 65533 ++ l.drop 3 := by rw [enc_stnd, ← h, List.take_append_drop]
    rw [e, dec_enc 65533 (by decide), enc_stnd]
    rfl
  · intro h
    obtain ⟨_, _, r, e⟩ := dec_sound l _ _ h
    rw [e, enc_stnd]
    rfl
theorem runeL_le (l : List UInt8) : runeL l ≤ 1114111 := by
  unfold runeL
  cases h : decL l with
  | none => simp
  | some p =>
    obtain ⟨p, k⟩ := p
    exact sv_le (dec_sound l _ _ h).1
theorem one_rune (l : List UInt8) : (one l).isSome = if runeL l = 65533 then decide (l.take 3 = [239, 191, 189]) else may (runeL l) := by
  unfold runeL one
  cases h : decL l with
  | none =>
    have : ¬ l.take 3 = [239, 191, 189] := by rw [dec_stnd, h]; simp
    simp [this]
  | some p =>
    obtain ⟨p, k⟩ := p
    simp only
    by_cases hp : p = 65533
    · subst hp
      have hs := (dec_sound l _ _ h).2.1
      rw [enc_stnd] at hs
      obtain rfl : k = 3 := hs
      rw [if_pos rfl, decide_eq_true ((dec_stnd l).2 h)]
      decide
    · rw [if_neg hp]
      cases hm : may p <;> simp [hm]
theorem begins5 (l : List UInt8) (s : ByteArray) (c : Nat) (b : Bool) (w : World) (hs : s = ⟨l.toArray⟩) (hc : runeL l = c) (hb : (one l).isSome = b) :
    Calls Tryz.prog 60 #[.string s, .int .i32 c] w fun e w' => e = .returned (.bool b) ∧ w = w' := by
  have hle := runeL_le l
  rw [one_rune, hc] at hb
  rw [hc] at hle
  have g1 : IntKind.i64.wrap (c : Int) = (c : Int) := IntWalk.i64_in _ (by omega)
  have hpre := stnd_pre l
  rw [← hs] at hpre
  by_cases h : c = 65533
  · rw [if_pos h] at hb
    rw [hb] at hpre
    have HP : Hid (∀ W : World, Calls Tryz.prog 49 #[.string s, .string ⟨#[239, 191, 189]⟩] W fun e w' => e = .returned (.bool b) ∧ W = w') := fun W => pre5 s stnd b W hpre
    subst h
    clear hle hc hb hs hpre
    cases b
    · go_enter Tryz.func60, Tryz.ntmps60
      go_wp2_with (go_at_call 49; (with_reducible refine (HP.out _).mono ?_); rintro e w1 ⟨rfl, rfl⟩)
      go_ret
      exact ⟨rfl, rfl⟩
    · go_enter Tryz.func60, Tryz.ntmps60
      go_wp2_with (first
        | (go_at_call 49; (with_reducible refine (HP.out _).mono ?_); rintro e w1 ⟨rfl, rfl⟩)
        | (go_at_call 78; (with_reducible refine (may5w 65533 true w rfl).mono ?_); rintro e w1 ⟨rfl, rfl⟩)
        | fail)
      go_ret
      exact ⟨rfl, rfl⟩
  · rw [if_neg h] at hb
    have d0 : ((c : Int) == 65533) = false := by simp; omega
    have HB := Lib.hid hb
    clear hle hc hb hs hpre h
    go_enter Tryz.func60, Tryz.ntmps60
    go_wp2_with (first
      | (go_at_call 78; (with_reducible refine (may5w c b w HB.out).mono ?_); rintro e w1 ⟨rfl, rfl⟩)
      | fail)
    go_ret
    exact ⟨rfl, rfl⟩
theorem i64_and63 (n : Int) : bits .and .i64 n 63 = n % 64 := by
  have h63 : (BitVec.ofInt 64 63).toNat = 2 ^ 6 - 1 := by decide
  have key : (BitVec.ofInt 64 n &&& BitVec.ofInt 64 63).toNat = (n % ((2 ^ 64 : Nat) : Int)).toNat % 2 ^ 6 := by
    rw [BitVec.toNat_and, BitVec.toNat_ofInt, h63, Nat.and_two_pow_sub_one_eq_mod]
  show IntKind.i64.wrap ((BitVec.ofInt 64 n &&& BitVec.ofInt 64 63).toNat : Nat) = n % 64
  rw [key, IntKind.wrap_i64]
  omega
theorem sixT (n : Nat) (b : UInt8) (w : World) (hn : n ≤ 1114111) (hb : bt (128 + n % 64) = b) :
    Calls Tryz.prog 138 #[.int .i64 n] w fun e w' => e = .returned (.int .u8 b.toNat) ∧ w = w' := by
  have hbn : b.toNat = 128 + n % 64 := by rw [← hb, bt_nat _ (by omega)]
  have ha := i64_and63 (n : Int)
  obtain ⟨q, hq⟩ : ∃ q : Nat, n % 64 = q := ⟨_, rfl⟩
  have ha2 : bits .and .i64 (n : Int) 63 = (q : Int) := by rw [ha]; omega
  have g1 : IntKind.u8.wrap (q : Int) = (q : Int) := IntWalk.u8_in _ (by omega)
  have g2 : IntKind.u8.wrap (128 + (q : Int)) = (b.toNat : Int) := by rw [IntWalk.u8_in _ (by omega)]; omega
  clear ha hq hbn hb
  go_enter Tryz.func138, Tryz.ntmps138
  go_wp2
  go_ret
  exact ⟨rfl, rfl⟩
end Hx
end Go.Proofs.YtlhjcdkkmloamaaGreatDoor
