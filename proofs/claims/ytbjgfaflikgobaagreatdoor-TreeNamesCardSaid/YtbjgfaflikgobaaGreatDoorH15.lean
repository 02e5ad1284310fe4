/-
  Texts of one seat, put together: EscF, EscG.
-/
import Derived.Test.YtbjgfaflikgobaaGreatDoorH14
import Derived.Laws.EntriesVeiled
import Derived.Lib.IndexLaws
import Derived.RegionTactic
namespace Go.Proofs.YtbjgfaflikgobaaGreatDoor
open Go.RowKit
namespace Hx
open Tx Nmb Es
set_option linter.unusedVariables false
/-- What stands behind the mark; which mark. -/
def pxR (l p : List UInt8) : ByteArray := ⟨(Lib.trimPrefix l p).toArray⟩
theorem cutx (s r : ByteArray) (b : Bool) (w : World) (h : Lib.hasPrefix s.data.toList [35, 120] = b) (hr : pxR s.data.toList [35, 120] = r) :
    Calls Tryz.prog 140 #[.string s, .string ⟨#[35, 120]⟩] w fun e w' => e = .returned (.tuple #[.string r, .bool b]) ∧ w = w' :=
  (Tryz.strings_CutPrefix s ⟨#[35, 120]⟩ w).mono fun e w' ⟨h1, h2⟩ => ⟨by rw [h1, ← h, ← hr]; rfl, h2.symm⟩
theorem cutd (s r : ByteArray) (b : Bool) (w : World) (h : Lib.hasPrefix s.data.toList [35] = b) (hr : pxR s.data.toList [35] = r) :
    Calls Tryz.prog 140 #[.string s, .string ⟨#[35]⟩] w fun e w' => e = .returned (.tuple #[.string r, .bool b]) ∧ w = w' :=
  (Tryz.strings_CutPrefix s ⟨#[35]⟩ w).mono fun e w' ⟨h1, h2⟩ => ⟨by rw [h1, ← h, ← hr]; rfl, h2.symm⟩
/-- What point answers, by the two marks. -/
def ptR (l : List UInt8) : Int × Int :=
  match wdO l with
  | some n => (n, 0)
  | none => if Lib.hasPrefix l [35, 120] then hexI (pxR l [35, 120]).data.toList else if Lib.hasPrefix l [35] then readR (pxR l [35]).data.toList else (0, 80)
theorem px_size (s : ByteArray) (p : List UInt8) : (pxR s.data.toList p).size ≤ s.size := by
  have h : (pxR s.data.toList p).size = (Lib.trimPrefix s.data.toList p).length := rfl
  have h2 := ba_len5 s
  rw [h]
  unfold Lib.trimPrefix
  split
  · rw [List.length_drop]; omega
  · omega
set_option maxHeartbeats 1000000 in
set_option maxRecDepth 100000 in
theorem point_word (M G : Nat) (s : ByteArray) (n : Int) (w : World) (hr : Rdr M G w) (h : wdO s.data.toList = some n) :
    Calls Tryz.prog 188 #[RdV M G, .string s] w fun e w' => e = .returned (.tuple #[.int .i64 n, .int .i64 0]) ∧ Below w.heap.size w w' := by
  have HLk : Hid (∀ W, Below w.heap.size w W → (Instr.lookup 172 (.map (some M)) (.string s) true).run Tryz.prog W = .ok (.tuple #[.int .i64 n, .bool true]) W) := by
    intro W hW
    rw [lookw s W M (hr.to hW).1, h]
    rfl
  have HB : Hid (∀ o, Below w.heap.size w (w.alloc o)) := Lib.hid fun o => (Below.refl _ _).alloc (Nat.le_refl _) o
  clear h hr
  unfold RdV
  go_enter Tryz.func188, Tryz.ntmps188
  go_wp2_with (first
    | (refine wpList_look rfl _ _ _ rfl rfl rfl (HLk.out _ (HB.out _)) ?_)
    | fail)
  go_ret2
  exact ⟨rfl, HB.out _⟩
set_option maxHeartbeats 4000000 in
set_option maxRecDepth 100000 in
theorem point_mark (M G : Nat) (s : ByteArray) (a b : Int) (w : World) (hm : s.size ≤ 1000000) (hr : Rdr M G w) (hE : Ev w) (h : wdO s.data.toList = none) (hp : ptR s.data.toList = (a, b)) :
    Calls Tryz.prog 188 #[RdV M G, .string s] w fun e w' => e = .returned (.tuple #[.int .i64 a, .int .i64 b]) ∧ Below w.heap.size w w' := by
  have HLk : Hid (∀ W, Below w.heap.size w W → (Instr.lookup 172 (.map (some M)) (.string s) true).run Tryz.prog W = .ok (.tuple #[.int .i64 0, .bool false]) W) := by
    intro W hW
    rw [lookw s W M (hr.to hW).1, h]
    rfl
  have HB : Hid (∀ o, Below w.heap.size w (w.alloc o)) := Lib.hid fun o => (Below.refl _ _).alloc (Nat.le_refl _) o
  have HEv : Hid (∀ W, Below w.heap.size w W → Ev W) := Lib.hid fun W hW => hE.to hW
  have HG : Hid (∀ W, Below w.heap.size w W → W.heap[G]? = some (.cells BS 188)) := Lib.hid fun W hW => (hr.to hW).2
  obtain ⟨p1, hp1⟩ : ∃ p1, Lib.hasPrefix s.data.toList [35, 120] = p1 := ⟨_, rfl⟩
  obtain ⟨p2, hp2⟩ : ∃ p2, Lib.hasPrefix s.data.toList [35] = p2 := ⟨_, rfl⟩
  obtain ⟨r1, hr1⟩ : ∃ r1, pxR s.data.toList [35, 120] = r1 := ⟨_, rfl⟩
  obtain ⟨r2, hr2⟩ : ∃ r2, pxR s.data.toList [35] = r2 := ⟨_, rfl⟩
  have HM1 : Hid (r1.size ≤ 1000000) := by show _ ≤ _; rw [← hr1]; exact Nat.le_trans (px_size _ _) hm
  have HM2 : Hid (r2.size ≤ 1000000) := by show _ ≤ _; rw [← hr2]; exact Nat.le_trans (px_size _ _) hm
  have HP : Hid ((if p1 then hexI r1.data.toList else if p2 then readR r2.data.toList else (0, 80)) = (a, b)) := by
    show _ = _
    unfold ptR at hp
    rw [h, hp1, hp2, hr1, hr2] at hp
    exact hp
  have H1 := Lib.hid hp1
  have H2 := Lib.hid hp2
  have HR1 := Lib.hid hr1
  have HR2 := Lib.hid hr2
  clear h hr hE hp hp1 hp2 hr1 hr2 hm
  unfold RdV
  go_enter Tryz.func188, Tryz.ntmps188
  go_wp2_with (first
    | (refine wpList_look rfl _ _ _ rfl rfl rfl (HLk.out _ (HB.out _)) ?_)
    | fail)
  go_loopg [9, 10, 11, 24] 2 (fun gg x9 x10 x11 i wr => ∃ k : Nat, k + gg = 2 ∧ i = .int .i64 k ∧ Below w.heap.size w wr ∧ (1 ≤ k → p1 = false) ∧ (2 ≤ k → p2 = false))
  case atStart => exact ⟨0, by omega, rfl, HB.out _, fun h => absurd h (by decide), fun h => absurd h (by decide)⟩
  case round =>
    obtain ⟨k, hk, rfl, hbw, hk1, hk2⟩ := hrel
    have hgc := HG.out wr hbw
    have c0 : wr.cell? ⟨G, 0, none⟩ = some (.string ⟨#[35, 120]⟩) := by rw [Lib.cell_of_heap hgc]; rfl
    have c1 : wr.cell? ⟨G, 1, none⟩ = some (.func (.func 186) #[] #[]) := by rw [Lib.cell_of_heap hgc]; rfl
    have c2 : wr.cell? ⟨G, 2, none⟩ = some (.string ⟨#[35]⟩) := by rw [Lib.cell_of_heap hgc]; rfl
    have c3 : wr.cell? ⟨G, 3, none⟩ = some (.func (.func 187) #[] #[]) := by rw [Lib.cell_of_heap hgc]; rfl
    have HBW := Lib.hid hbw
    have hsz := hbw.size
    have HB2 : Hid (∀ o, Below w.heap.size w (wr.alloc o)) := Lib.hid fun o => hbw.alloc hsz o
    clear hgc hbw
    have hk3 : k = 0 ∨ k = 1 ∨ k = 2 := by omega
    rcases hk3 with rfl | rfl | rfl
    · cases p1 with
      | true =>
        have hx : hexI r1.data.toList = (a, b) := HP.out
        have HX := Lib.hid hx
        clear hx hk1 hk2
        go_wp2_with (first
          | (go_at_call 140; (with_reducible refine (cutx s r1 true _ H1.out HR1.out).mono ?_); rintro e1 w1 ⟨rfl, rfl⟩)
          | (go_at_call 186; (with_reducible refine (hex8 r1 a b _ HM1.out HX.out (HEv.out _ (HB2.out _))).mono ?_); rintro e2 w2 ⟨rfl, hb2⟩)
          | fail)
        go_ret2
        exact ⟨rfl, bel_in (HB2.out _) hb2 (HB2.out _).size⟩
      | false =>
        go_wp2_with (first
          | (go_at_call 140; (with_reducible refine (cutx s r1 false _ H1.out HR1.out).mono ?_); rintro e1 w1 ⟨rfl, rfl⟩)
          | fail)
        go_roundg (gk - 1)
        case rel => exact ⟨1, by omega, by go_num, HB2.out _, by simp, fun h => absurd h (by decide)⟩
        case measure => omega
    · obtain rfl : p1 = false := hk1 (by decide)
      cases p2 with
      | true =>
        have hx : readR r2.data.toList = (a, b) := HP.out
        have HX := Lib.hid hx
        clear hx hk1 hk2
        go_wp2_with (first
          | (go_at_call 140; (with_reducible refine (cutd s r2 true _ H2.out HR2.out).mono ?_); rintro e1 w1 ⟨rfl, rfl⟩)
          | (go_at_call 187; (with_reducible refine (read6 r2 _ HM2.out a b HX.out).mono ?_); rintro e2 w2 ⟨rfl, hb2⟩)
          | fail)
        go_ret2
        exact ⟨rfl, bel_in (HB2.out _) hb2 (HB2.out _).size⟩
      | false =>
        go_wp2_with (first
          | (go_at_call 140; (with_reducible refine (cutd s r2 false _ H2.out HR2.out).mono ?_); rintro e1 w1 ⟨rfl, rfl⟩)
          | fail)
        go_roundg (gk - 1)
        case rel => exact ⟨2, by omega, by go_num, HB2.out _, by simp, by simp⟩
        case measure => omega
    · obtain rfl : p1 = false := hk1 (by decide)
      obtain rfl : p2 = false := hk2 (by decide)
      obtain ⟨rfl, rfl⟩ : (0 : Int) = a ∧ (80 : Int) = b := by have hx : ((0 : Int), (80 : Int)) = (a, b) := HP.out; cases hx; exact ⟨rfl, rfl⟩
      clear hk1 hk2
      go_wp2_with fail
      go_ret2
      exact ⟨rfl, HBW.out⟩
theorem point8 (M G : Nat) (s : ByteArray) (a b : Int) (w : World) (hm : s.size ≤ 1000000) (hr : Rdr M G w) (hE : Ev w) (hp : ptR s.data.toList = (a, b)) :
    Calls Tryz.prog 188 #[RdV M G, .string s] w fun e w' => e = .returned (.tuple #[.int .i64 a, .int .i64 b]) ∧ Below w.heap.size w w' := by
  cases h : wdO s.data.toList with
  | none => exact point_mark M G s a b w hm hr hE h hp
  | some n =>
    unfold ptR at hp
    rw [h] at hp
    obtain ⟨rfl, rfl⟩ : n = a ∧ (0 : Int) = b := by cases hp; exact ⟨rfl, rfl⟩
    exact point_word M G s n w hr h
/-- What a reference tells. -/
def refR (l : List UInt8) : ByteArray × Int := match meantL l with | some y => (⟨y.toArray⟩, 0) | none => (⟨#[]⟩, 80)
theorem enc_le (n : Nat) : (enc n).length ≤ 4 := by
  unfold enc
  split
  · simp
  · split
    · simp
    · split <;> simp
theorem ofR_one (n : Nat) : ofR [(n : Int)] = if may (n : Int) = true then (⟨(enc n).toArray⟩, 0) else (⟨#[]⟩, 50) := by
  by_cases h : may (n : Int) = true
  · rw [if_pos h]
    have hb : byL [(n : Int)] = enc n := by simp [byL, encs_cons, encs_nil]
    have he := enc_le n
    rw [ofR_ok _ (by simpa using h) (by rw [hb]; omega), hb]
  · rw [if_neg h]
    exact ofR_no _ 0 (by simp) (by simpa using h)
def markL (l : List UInt8) : Option (List UInt8) := match l with | 35 :: r => (numL r).map enc | _ => none
theorem markL_no {l : List UInt8} (h : ∀ r, l ≠ 35 :: r) : markL l = none := by
  unfold markL
  split
  · exact absurd rfl (h _)
  · rfl
theorem meantL_mark (l : List UInt8) (h : wdO l = none) : meantL l = markL l := by
  unfold wdO at h
  unfold meantL
  by_cases h1 : l = [97, 109, 112]
  · rw [if_pos h1] at h; cases h
  rw [if_neg h1] at h ⊢
  by_cases h2 : l = [108, 116]
  · rw [if_pos h2] at h; cases h
  rw [if_neg h2] at h ⊢
  by_cases h3 : l = [103, 116]
  · rw [if_pos h3] at h; cases h
  rw [if_neg h3] at h ⊢
  by_cases h4 : l = [113, 117, 111, 116]
  · rw [if_pos h4] at h; cases h
  rw [if_neg h4] at h ⊢
  by_cases h5 : l = [97, 112, 111, 115]
  · rw [if_pos h5] at h; cases h
  rw [if_neg h5] at h ⊢
  rfl
theorem pre_x (l : List UInt8) : (∃ r, l = 35 :: 120 :: r ∧ Lib.hasPrefix l [35, 120] = true ∧ Lib.trimPrefix l [35, 120] = r) ∨ ((∀ r, l ≠ 35 :: 120 :: r) ∧ Lib.hasPrefix l [35, 120] = false) := by
  cases h : Lib.hasPrefix l [35, 120] with
  | true =>
    have h2 : [35, 120] <+: l := by unfold Lib.hasPrefix at h; exact List.isPrefixOf_iff_prefix.1 h
    obtain ⟨r, rfl⟩ := h2
    refine .inl ⟨r, rfl, rfl, ?_⟩
    unfold Lib.trimPrefix
    rw [if_pos h]
    rfl
  | false =>
    refine .inr ⟨fun r e => ?_, rfl⟩
    subst e
    have : Lib.hasPrefix (35 :: 120 :: r) [35, 120] = true := by unfold Lib.hasPrefix; exact List.isPrefixOf_iff_prefix.2 ⟨r, rfl⟩
    rw [this] at h
    cases h
theorem pre_d (l : List UInt8) : (∃ r, l = 35 :: r ∧ Lib.hasPrefix l [35] = true ∧ Lib.trimPrefix l [35] = r) ∨ ((∀ r, l ≠ 35 :: r) ∧ Lib.hasPrefix l [35] = false) := by
  cases h : Lib.hasPrefix l [35] with
  | true =>
    have h2 : [35] <+: l := by unfold Lib.hasPrefix at h; exact List.isPrefixOf_iff_prefix.1 h
    obtain ⟨r, rfl⟩ := h2
    refine .inl ⟨r, rfl, rfl, ?_⟩
    unfold Lib.trimPrefix
    rw [if_pos h]
    rfl
  | false =>
    refine .inr ⟨fun r e => ?_, rfl⟩
    subst e
    have : Lib.hasPrefix (35 :: r) [35] = true := by unfold Lib.hasPrefix; exact List.isPrefixOf_iff_prefix.2 ⟨r, rfl⟩
    rw [this] at h
    cases h
def numP (k : Int) (o : Option Nat) : Int × Int := match o with | some n => ((n : Int), 0) | none => (0, k)
/-- What of a number: the reference of it, or none. -/
def numA (n : Nat) : ByteArray × Int := if may (n : Int) = true then (⟨(enc n).toArray⟩, 0) else (⟨#[]⟩, 80)
theorem ref_num (l : List UInt8) (o : Option Nat) (k a b : Int) (hk : k ≠ 0) (hml : meantL l = (o.filter fun n : Nat => may (n : Int)).map enc) (hx : numP k o = (a, b)) :
    (b ≠ 0 ∧ refR l = (⟨#[]⟩, 80)) ∨ (b = 0 ∧ ∃ n : Nat, a = (n : Int) ∧ refR l = numA n) := by
  cases o with
  | none =>
    cases hx
    refine .inl ⟨hk, ?_⟩
    unfold refR
    rw [hml]
    rfl
  | some n =>
    cases hx
    refine .inr ⟨rfl, n, rfl, ?_⟩
    unfold refR numA
    rw [hml]
    by_cases hm : may (n : Int) = true
    · rw [if_pos hm, Option.filter_some, if_pos hm]
      rfl
    · rw [if_neg hm, Option.filter_some, if_neg hm]
      rfl
/-- By way of the number: the reference of it, or none. -/
theorem ref_steps (l : List UInt8) (a b : Int) (h : ptR l = (a, b)) : (b ≠ 0 ∧ refR l = (⟨#[]⟩, 80)) ∨ (b = 0 ∧ ∃ n : Nat, a = (n : Int) ∧ refR l = numA n) := by
  unfold ptR at h
  cases hw : wdO l with
  | some n =>
    rw [hw] at h
    obtain ⟨rfl, rfl⟩ : n = a ∧ (0 : Int) = b := by cases h; exact ⟨rfl, rfl⟩
    refine .inr ⟨rfl, ?_⟩
    unfold wdO at hw
    split at hw
    · rename_i e; subst e; cases hw; exact ⟨38, rfl, by decide +kernel⟩
    split at hw
    · rename_i e; subst e; cases hw; exact ⟨60, rfl, by decide +kernel⟩
    split at hw
    · rename_i e; subst e; cases hw; exact ⟨62, rfl, by decide +kernel⟩
    split at hw
    · rename_i e; subst e; cases hw; exact ⟨34, rfl, by decide +kernel⟩
    split at hw
    · rename_i e; subst e; cases hw; exact ⟨39, rfl, by decide +kernel⟩
    · cases hw
  | none =>
    rw [hw] at h
    have hml := meantL_mark l hw
    rcases pre_x l with ⟨r, rfl, e1, e2⟩ | ⟨e0, e1⟩
    · dsimp only at h
      rw [if_pos e1] at h
      have e3 : (pxR (35 :: 120 :: r) [35, 120]).data.toList = r := e2
      rw [e3] at h
      exact ref_num _ (hexV r) 80 a b (by decide) hml h
    · dsimp only at h
      rw [e1, if_neg (by decide)] at h
      rcases pre_d l with ⟨r, rfl, e4, e5⟩ | ⟨e3, e4⟩
      · rw [if_pos e4] at h
        have e6 : (pxR (35 :: r) [35]).data.toList = r := e5
        rw [e6] at h
        have hd : r.head? ≠ some 120 := by
          intro hh
          cases r with
          | nil => cases hh
          | cons c r =>
            cases hh
            exact e0 r rfl
        have hml2 : meantL (35 :: r) = (numL r).map enc := hml
        rw [numL_d hd] at hml2
        exact ref_num _ (readN r) 60 a b (by decide) hml2 h
      · rw [e4, if_neg (by decide)] at h
        obtain ⟨rfl, rfl⟩ : (0 : Int) = a ∧ (80 : Int) = b := by cases h; exact ⟨rfl, rfl⟩
        refine .inl ⟨by decide, ?_⟩
        unfold refR
        rw [hml, markL_no e3]
end Hx
end Go.Proofs.YtbjgfaflikgobaaGreatDoor
namespace Go.Proofs.YtbjgfaflikgobaaGreatDoor
open Go.RowKit
namespace Hx
open Tx Nmb Es
set_option linter.unusedVariables false
theorem ix_cases (l : List UInt8) (c : UInt8) : (Lib.indexByte l c = -1 ∧ c ∉ l) ∨ ∃ i : Nat, Lib.indexByte l c = (i : Int) ∧ i < l.length ∧ l = l.take i ++ c :: l.drop (i + 1) ∧ c ∉ l.take i := by
  have hge := Lib.indexByte_ge l c
  by_cases h : Lib.indexByte l c = -1
  · left
    refine ⟨h, fun hc => ?_⟩
    obtain ⟨k, hk⟩ := List.mem_iff_getElem?.1 hc
    exact Lib.indexByte_none h k hk
  · right
    obtain ⟨i, hi⟩ : ∃ i : Nat, Lib.indexByte l c = (i : Int) := ⟨(Lib.indexByte l c).toNat, by omega⟩
    obtain ⟨h1, h2⟩ := Lib.indexByte_some hi
    obtain ⟨hlt, hc⟩ := List.getElem?_eq_some_iff.1 h1
    refine ⟨i, hi, hlt, ?_, fun hm => ?_⟩
    · conv => lhs; rw [← List.take_append_drop i l]
      rw [List.drop_eq_getElem_cons hlt, hc]
    · obtain ⟨k, hk⟩ := List.mem_iff_getElem?.1 hm
      rw [List.getElem?_take] at hk
      split at hk
      · exact h2 k (by assumption) hk
      · cases hk
/-- What Cut answers. -/
def CutAt (p r : ByteArray) (b : Bool) (w : World) (e : Ending) (w' : World) : Prop := e = .returned (.tuple #[.string p, .string r, .bool b]) ∧ Below w.heap.size w w'
theorem ib_38 (s : ByteArray) (q : Int) (w : World) (h : Lib.indexByte s.data.toList 38 = q) :
    Calls Tryz.prog 177 #[.string s, .int .u8 ↑((⟨#[38]⟩ : ByteArray)[0]'(by decide)).toNat] w fun e w' => e = .returned (.int .i64 q) ∧ w = w' := by
  refine (Tryz.stringslite_IndexByte s _ w).mono fun e w' ⟨h1, h2⟩ => ⟨?_, h2.symm⟩
  rw [h1, ← h]
  rfl
set_option maxRecDepth 100000 in
theorem index_38 (s : ByteArray) (q : Int) (w : World) (h : Lib.indexByte s.data.toList 38 = q) :
    Calls Tryz.prog 156 #[.string s, .string ⟨#[38]⟩] w fun e w' => e = .returned (.int .i64 q) ∧ w = w' := by
  have H := Lib.hid h
  cases hq : ([38] == s.toList) with
  | true =>
    obtain rfl : (0 : Int) = q := by
      have e : s.data.toList = [38] := by
        rw [beq_iff_eq, ByteArray.toList_eq] at hq
        exact hq.symm
      rw [← h, e]
      rfl
    clear h
    go_enter Tryz.func156, Tryz.ntmps156
    go_wp2_with fail
    go_ret
    exact ⟨rfl, rfl⟩
  | false =>
    clear h
    go_enter Tryz.func156, Tryz.ntmps156
    go_wp2_with (first
      | (go_at_call 177; (with_reducible refine (ib_38 s q w H.out).mono ?_); rintro e w1 ⟨rfl, rfl⟩)
      | fail)
    go_ret
    exact ⟨rfl, rfl⟩
theorem ib_59 (s : ByteArray) (q : Int) (w : World) (h : Lib.indexByte s.data.toList 59 = q) :
    Calls Tryz.prog 177 #[.string s, .int .u8 ↑((⟨#[59]⟩ : ByteArray)[0]'(by decide)).toNat] w fun e w' => e = .returned (.int .i64 q) ∧ w = w' := by
  refine (Tryz.stringslite_IndexByte s _ w).mono fun e w' ⟨h1, h2⟩ => ⟨?_, h2.symm⟩
  rw [h1, ← h]
  rfl
set_option maxRecDepth 100000 in
theorem index_59 (s : ByteArray) (q : Int) (w : World) (h : Lib.indexByte s.data.toList 59 = q) :
    Calls Tryz.prog 156 #[.string s, .string ⟨#[59]⟩] w fun e w' => e = .returned (.int .i64 q) ∧ w = w' := by
  have H := Lib.hid h
  cases hq : ([59] == s.toList) with
  | true =>
    obtain rfl : (0 : Int) = q := by
      have e : s.data.toList = [59] := by
        rw [beq_iff_eq, ByteArray.toList_eq] at hq
        exact hq.symm
      rw [← h, e]
      rfl
    clear h
    go_enter Tryz.func156, Tryz.ntmps156
    go_wp2_with fail
    go_ret
    exact ⟨rfl, rfl⟩
  | false =>
    clear h
    go_enter Tryz.func156, Tryz.ntmps156
    go_wp2_with (first
      | (go_at_call 177; (with_reducible refine (ib_59 s q w H.out).mono ?_); rintro e w1 ⟨rfl, rfl⟩)
      | fail)
    go_ret
    exact ⟨rfl, rfl⟩
theorem ib_60 (s : ByteArray) (q : Int) (w : World) (h : Lib.indexByte s.data.toList 60 = q) :
    Calls Tryz.prog 177 #[.string s, .int .u8 ↑((⟨#[60]⟩ : ByteArray)[0]'(by decide)).toNat] w fun e w' => e = .returned (.int .i64 q) ∧ w = w' := by
  refine (Tryz.stringslite_IndexByte s _ w).mono fun e w' ⟨h1, h2⟩ => ⟨?_, h2.symm⟩
  rw [h1, ← h]
  rfl
set_option maxRecDepth 100000 in
theorem index_60 (s : ByteArray) (q : Int) (w : World) (h : Lib.indexByte s.data.toList 60 = q) :
    Calls Tryz.prog 156 #[.string s, .string ⟨#[60]⟩] w fun e w' => e = .returned (.int .i64 q) ∧ w = w' := by
  have H := Lib.hid h
  cases hq : ([60] == s.toList) with
  | true =>
    obtain rfl : (0 : Int) = q := by
      have e : s.data.toList = [60] := by
        rw [beq_iff_eq, ByteArray.toList_eq] at hq
        exact hq.symm
      rw [← h, e]
      rfl
    clear h
    go_enter Tryz.func156, Tryz.ntmps156
    go_wp2_with fail
    go_ret
    exact ⟨rfl, rfl⟩
  | false =>
    clear h
    go_enter Tryz.func156, Tryz.ntmps156
    go_wp2_with (first
      | (go_at_call 177; (with_reducible refine (ib_60 s q w H.out).mono ?_); rintro e w1 ⟨rfl, rfl⟩)
      | fail)
    go_ret
    exact ⟨rfl, rfl⟩
set_option maxRecDepth 100000 in
theorem slcut_no_38 (s : ByteArray) (w : World) (h : Lib.indexByte s.data.toList 38 = -1) :
    Calls Tryz.prog 128 #[.string s, .string ⟨#[38]⟩] w (CutAt s ⟨#[]⟩ false w) := by
  have H := Lib.hid h
  clear h
  go_enter Tryz.func128, Tryz.ntmps128
  go_wp2_with (first
    | (go_at_call 156; (with_reducible refine (index_38 s (-1) w H.out).mono ?_); rintro e w1 ⟨rfl, rfl⟩)
    | fail)
  go_ret3
  exact ⟨rfl, Below.refl _ _⟩
set_option maxRecDepth 100000 in
theorem slcut_yes_38 (s p r : ByteArray) (i j n : Nat) (w : World) (hm : s.size ≤ 1000000) (h : Lib.indexByte s.data.toList 38 = (i : Int)) (hi : i < s.size) (hj : i + 1 = j) (hn : s.size = n) (hp : s.extract 0 i = p) (hr : s.extract j n = r) :
    Calls Tryz.prog 128 #[.string s, .string ⟨#[38]⟩] w (CutAt p r true w) := by
  have H := Lib.hid h
  have b1 : (0 : Int) ≤ (i : Int) ∧ (i : Int) ≤ (s.size : Int) := by omega
  have b2 : (0 : Int) ≤ (j : Int) ∧ (j : Int) ≤ (s.size : Int) := by omega
  have s1 : IntKind.i64.wrap ((i : Int) + 1) = (j : Int) := by rw [IntWalk.i64_in _ (by omega)]; omega
  have d1 : decide ((0 : Int) ≤ (i : Int)) = true := by simp
  rw [← hn] at hr
  clear h hm hi hj hn
  go_enter Tryz.func128, Tryz.ntmps128
  go_wp2_with (first
    | (go_at_call 156; (with_reducible refine (index_38 s (i : Int) w H.out).mono ?_); rintro e w1 ⟨rfl, rfl⟩)
    | fail)
  go_region
  go_wp2_with fail
  go_ret3
  exact ⟨rfl, (show Below w.heap.size w w.drew from ⟨rfl, rfl, rfl, Nat.le_refl _, fun _ _ => rfl⟩)⟩
set_option maxRecDepth 100000 in
theorem cut_no_38 (s : ByteArray) (w : World) (h : Lib.indexByte s.data.toList 38 = -1) :
    Calls Tryz.prog 101 #[.string s, .string ⟨#[38]⟩] w (CutAt s ⟨#[]⟩ false w) := by
  have H := Lib.hid h
  clear h
  go_enter Tryz.func101, Tryz.ntmps101
  go_wp2_with (first
    | (go_at_call 128; (with_reducible refine (slcut_no_38 s w H.out).mono ?_); rintro e w1 ⟨rfl, hb1⟩)
    | fail)
  go_ret3
  exact ⟨rfl, hb1⟩
set_option maxRecDepth 100000 in
theorem cut_yes_38 (s p r : ByteArray) (i j n : Nat) (w : World) (hm : s.size ≤ 1000000) (h : Lib.indexByte s.data.toList 38 = (i : Int)) (hi : i < s.size) (hj : i + 1 = j) (hn : s.size = n) (hp : s.extract 0 i = p) (hr : s.extract j n = r) :
    Calls Tryz.prog 101 #[.string s, .string ⟨#[38]⟩] w (CutAt p r true w) := by
  have H : Hid (Calls Tryz.prog 128 #[.string s, .string ⟨#[38]⟩] w (CutAt p r true w)) := slcut_yes_38 s p r i j n w hm h hi hj hn hp hr
  clear hm h hi hj hn hp hr
  go_enter Tryz.func101, Tryz.ntmps101
  go_wp2_with (first
    | (go_at_call 128; (with_reducible refine (H.out).mono ?_); rintro e w1 ⟨rfl, hb1⟩)
    | fail)
  go_ret3
  exact ⟨rfl, hb1⟩
set_option maxRecDepth 100000 in
theorem slcut_no_59 (s : ByteArray) (w : World) (h : Lib.indexByte s.data.toList 59 = -1) :
    Calls Tryz.prog 128 #[.string s, .string ⟨#[59]⟩] w (CutAt s ⟨#[]⟩ false w) := by
  have H := Lib.hid h
  clear h
  go_enter Tryz.func128, Tryz.ntmps128
  go_wp2_with (first
    | (go_at_call 156; (with_reducible refine (index_59 s (-1) w H.out).mono ?_); rintro e w1 ⟨rfl, rfl⟩)
    | fail)
  go_ret3
  exact ⟨rfl, Below.refl _ _⟩
set_option maxRecDepth 100000 in
theorem slcut_yes_59 (s p r : ByteArray) (i j n : Nat) (w : World) (hm : s.size ≤ 1000000) (h : Lib.indexByte s.data.toList 59 = (i : Int)) (hi : i < s.size) (hj : i + 1 = j) (hn : s.size = n) (hp : s.extract 0 i = p) (hr : s.extract j n = r) :
    Calls Tryz.prog 128 #[.string s, .string ⟨#[59]⟩] w (CutAt p r true w) := by
  have H := Lib.hid h
  have b1 : (0 : Int) ≤ (i : Int) ∧ (i : Int) ≤ (s.size : Int) := by omega
  have b2 : (0 : Int) ≤ (j : Int) ∧ (j : Int) ≤ (s.size : Int) := by omega
  have s1 : IntKind.i64.wrap ((i : Int) + 1) = (j : Int) := by rw [IntWalk.i64_in _ (by omega)]; omega
  have d1 : decide ((0 : Int) ≤ (i : Int)) = true := by simp
  rw [← hn] at hr
  clear h hm hi hj hn
  go_enter Tryz.func128, Tryz.ntmps128
  go_wp2_with (first
    | (go_at_call 156; (with_reducible refine (index_59 s (i : Int) w H.out).mono ?_); rintro e w1 ⟨rfl, rfl⟩)
    | fail)
  go_region
  go_wp2_with fail
  go_ret3
  exact ⟨rfl, (show Below w.heap.size w w.drew from ⟨rfl, rfl, rfl, Nat.le_refl _, fun _ _ => rfl⟩)⟩
set_option maxRecDepth 100000 in
theorem cut_no_59 (s : ByteArray) (w : World) (h : Lib.indexByte s.data.toList 59 = -1) :
    Calls Tryz.prog 101 #[.string s, .string ⟨#[59]⟩] w (CutAt s ⟨#[]⟩ false w) := by
  have H := Lib.hid h
  clear h
  go_enter Tryz.func101, Tryz.ntmps101
  go_wp2_with (first
    | (go_at_call 128; (with_reducible refine (slcut_no_59 s w H.out).mono ?_); rintro e w1 ⟨rfl, hb1⟩)
    | fail)
  go_ret3
  exact ⟨rfl, hb1⟩
set_option maxRecDepth 100000 in
theorem cut_yes_59 (s p r : ByteArray) (i j n : Nat) (w : World) (hm : s.size ≤ 1000000) (h : Lib.indexByte s.data.toList 59 = (i : Int)) (hi : i < s.size) (hj : i + 1 = j) (hn : s.size = n) (hp : s.extract 0 i = p) (hr : s.extract j n = r) :
    Calls Tryz.prog 101 #[.string s, .string ⟨#[59]⟩] w (CutAt p r true w) := by
  have H : Hid (Calls Tryz.prog 128 #[.string s, .string ⟨#[59]⟩] w (CutAt p r true w)) := slcut_yes_59 s p r i j n w hm h hi hj hn hp hr
  clear hm h hi hj hn hp hr
  go_enter Tryz.func101, Tryz.ntmps101
  go_wp2_with (first
    | (go_at_call 128; (with_reducible refine (H.out).mono ?_); rintro e w1 ⟨rfl, hb1⟩)
    | fail)
  go_ret3
  exact ⟨rfl, hb1⟩
set_option maxRecDepth 100000 in
theorem sindex_60 (s : ByteArray) (q : Int) (w : World) (h : Lib.indexByte s.data.toList 60 = q) :
    Calls Tryz.prog 129 #[.string s, .string ⟨#[60]⟩] w fun e w' => e = .returned (.int .i64 q) ∧ w = w' := by
  have H := Lib.hid h
  clear h
  go_enter Tryz.func129, Tryz.ntmps129
  go_wp2_with (first
    | (go_at_call 156; (with_reducible refine (index_60 s q w H.out).mono ?_); rintro e w1 ⟨rfl, rfl⟩)
    | fail)
  go_ret
  exact ⟨rfl, rfl⟩
set_option maxRecDepth 100000 in
theorem has_60 (s : ByteArray) (b : Bool) (w : World) (h : decide ((60 : UInt8) ∈ s.data.toList) = b) :
    Calls Tryz.prog 104 #[.string s, .string ⟨#[60]⟩] w fun e w' => e = .returned (.bool b) ∧ w = w' := by
  obtain ⟨q, hq⟩ : ∃ q, Lib.indexByte s.data.toList 60 = q := ⟨_, rfl⟩
  have hb : decide ((0 : Int) ≤ q) = b := by
    rw [← h]
    rcases ix_cases s.data.toList 60 with ⟨h1, h2⟩ | ⟨i, h1, h2, h3, h4⟩
    · have h0 : ¬ (0 : Int) ≤ q := by omega
      rw [decide_eq_false h2, decide_eq_false h0]
    · have h0 : (0 : Int) ≤ q := by omega
      have hin : (60 : UInt8) ∈ s.data.toList := by rw [h3]; simp
      rw [decide_eq_true hin, decide_eq_true h0]
  have H := Lib.hid hq
  clear hq h
  go_enter Tryz.func104, Tryz.ntmps104
  go_wp2_with (first
    | (go_at_call 129; (with_reducible refine (sindex_60 s q w H.out).mono ?_); rintro e w1 ⟨rfl, rfl⟩)
    | fail)
  go_ret
  exact ⟨rfl, rfl⟩
theorem rdz_one (w : World) (n : Int) (T : TypeId) : RdZ (w.alloc (.cells #[.int .i64 n] T)) (w.alloc (.cells #[.int .i64 n] T)).heap.size (some ⟨w.heap.size, 0, none⟩) [n] := by
  intro _
  refine ⟨w.heap.size, 0, rfl, by simp, fun k hk => ?_⟩
  have : k = 0 := by simpa using hk
  subst this
  simp [encZ]
set_option maxHeartbeats 2000000 in
set_option maxRecDepth 100000 in
theorem ref8 (M G : Nat) (s t : ByteArray) (e : Int) (w : World) (hm : s.size ≤ 1000000) (hr : Rdr M G w) (hE : Ev w) (h : refR s.data.toList = (t, e)) :
    Calls Tryz.prog 171 #[RdV M G, .string s] w fun e' w' => e' = .returned (.tuple #[.string t, .int .i64 e]) ∧ Below w.heap.size w w' := by
  obtain ⟨a, b, hp⟩ : ∃ a b, ptR s.data.toList = (a, b) := ⟨_, _, rfl⟩
  have HB : Hid (∀ o, Below w.heap.size w (w.alloc o)) := Lib.hid fun o => (Below.refl _ _).alloc (Nat.le_refl _) o
  have HEv : Hid (∀ W, Below w.heap.size w W → Ev W) := Lib.hid fun W hW => hE.to hW
  have HR : Hid (∀ W, Below w.heap.size w W → Rdr M G W) := Lib.hid fun W hW => hr.to hW
  have HM := Lib.hid hm
  rcases ref_steps _ a b hp with ⟨h0, h1⟩ | ⟨rfl, n, rfl, h1⟩
  · rw [h1] at h
    obtain ⟨rfl, rfl⟩ : (⟨#[]⟩ : ByteArray) = t ∧ (80 : Int) = e := by cases h; exact ⟨rfl, rfl⟩
    have HP := Lib.hid hp
    have d0 : (b == 0) = false := by simpa using h0
    have d1 : (b != 0) = true := by simpa using h0
    clear h h1 hp hr hE hm
    unfold RdV
    go_enter Tryz.func171, Tryz.ntmps171
    go_wp2_with (first
      | (go_at_call 188; refine (point8 M G s a b _ HM.out (HR.out _ (HB.out _)) (HEv.out _ (HB.out _)) HP.out).mono ?_; rintro e1 w1 ⟨rfl, hb1⟩)
      | fail)
    go_ret2
    exact ⟨rfl, bel_in (HB.out _) hb1 (HB.out _).size⟩
  · rw [h1] at h
    have HP := Lib.hid hp
    have hL := ofR_one n
    unfold numA at h
    by_cases hmay : may (n : Int) = true
    · rw [if_pos hmay] at h hL
      rw [h] at hL
      obtain ⟨-, rfl⟩ : True ∧ (0 : Int) = e := by cases h; exact ⟨trivial, rfl⟩
      have HL := Lib.hid hL
      clear h h1 hp hr hE hm hL hmay
      unfold RdV
      go_enter Tryz.func171, Tryz.ntmps171
      go_wp2_with (first
        | (go_at_call 188; refine (point8 M G s (n : Int) 0 _ HM.out (HR.out _ (HB.out _)) (HEv.out _ (HB.out _)) HP.out).mono ?_; rintro e1 w1 ⟨rfl, hb1⟩)
        | (go_at_call 189; refine (of5 (some ⟨w1.heap.size, 0, none⟩) 1 1 [(n : Int)] _ (rdz_one w1 (n : Int) _) rfl (by decide) _ _ HL.out).mono ?_; rintro e2 w2 ⟨rfl, hb2⟩)
        | fail)
      go_ret2
      refine ⟨rfl, bel_in ((bel_in (HB.out _) hb1 (HB.out _).size).alloc ?_ _) hb2 ?_⟩
      · exact (bel_in (HB.out _) hb1 (HB.out _).size).size
      · exact ((bel_in (HB.out _) hb1 (HB.out _).size).alloc (bel_in (HB.out _) hb1 (HB.out _).size).size _).size
    · rw [if_neg hmay] at h hL
      obtain ⟨rfl, rfl⟩ : (⟨#[]⟩ : ByteArray) = t ∧ (80 : Int) = e := by cases h; exact ⟨rfl, rfl⟩
      have HL := Lib.hid hL
      clear h h1 hp hr hE hm hL hmay
      unfold RdV
      go_enter Tryz.func171, Tryz.ntmps171
      go_wp2_with (first
        | (go_at_call 188; refine (point8 M G s (n : Int) 0 _ HM.out (HR.out _ (HB.out _)) (HEv.out _ (HB.out _)) HP.out).mono ?_; rintro e1 w1 ⟨rfl, hb1⟩)
        | (go_at_call 189; refine (of5 (some ⟨w1.heap.size, 0, none⟩) 1 1 [(n : Int)] _ (rdz_one w1 (n : Int) _) rfl (by decide) _ _ HL.out).mono ?_; rintro e2 w2 ⟨rfl, hb2⟩)
        | fail)
      go_ret2
      refine ⟨rfl, bel_in ((bel_in (HB.out _) hb1 (HB.out _).size).alloc ?_ _) hb2 ?_⟩
      · exact (bel_in (HB.out _) hb1 (HB.out _).size).size
      · exact ((bel_in (HB.out _) hb1 (HB.out _).size).alloc (bel_in (HB.out _) hb1 (HB.out _).size).size _).size
end Hx
end Go.Proofs.YtbjgfaflikgobaaGreatDoor
