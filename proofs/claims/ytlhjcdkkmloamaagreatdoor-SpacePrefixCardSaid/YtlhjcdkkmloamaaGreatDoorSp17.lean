/-
  Texts of one seat, put together: EscF, EscG, EscH, EscV.
-/
import Derived.Test.YtlhjcdkkmloamaaGreatDoorSp16
import Derived.Laws.EntriesVeiled
import Derived.Lib.IndexLaws
import Derived.RegionTactic
import Derived.Test.YtlhjcdkkmloamaaGreatDoorSp05
import Derived.Test.YtlhjcdkkmloamaaGreatDoorSp08
set_option linter.unusedSimpArgs false
namespace Go.Proofs.YtlhjcdkkmloamaaGreatDoor
open Go.RowKit
namespace Hx
open Tx Nmb Es
set_option maxRecDepth 100000
set_option maxHeartbeats 16000000
set_option linter.unusedVariables false
def pxR (l p : List UInt8) : ByteArray := ⟨(Lib.trimPrefix l p).toArray⟩
theorem cutx (s r : ByteArray) (b : Bool) (w : World) (h : Lib.hasPrefix s.data.toList [35, 120] = b) (hr : pxR s.data.toList [35, 120] = r) :
    Calls Tryz.prog 84 #[.string s, .string ⟨#[35, 120]⟩] w fun e w' => e = .returned (.tuple #[.string r, .bool b]) ∧ w = w' :=
  (Tryz.strings_CutPrefix s ⟨#[35, 120]⟩ w).mono fun e w' ⟨h1, h2⟩ => ⟨by rw [h1, ← h, ← hr]; rfl, h2.symm⟩
theorem cutd (s r : ByteArray) (b : Bool) (w : World) (h : Lib.hasPrefix s.data.toList [35] = b) (hr : pxR s.data.toList [35] = r) :
    Calls Tryz.prog 84 #[.string s, .string ⟨#[35]⟩] w fun e w' => e = .returned (.tuple #[.string r, .bool b]) ∧ w = w' :=
  (Tryz.strings_CutPrefix s ⟨#[35]⟩ w).mono fun e w' ⟨h1, h2⟩ => ⟨by rw [h1, ← h, ← hr]; rfl, h2.symm⟩
def ptR (l : List UInt8) : Int × Int :=
  match wdO l with
  | some n => (n, 0)
  | none => if Lib.hasPrefix l [35, 120] then hexI (pxR l [35, 120]).data.toList else if Lib.hasPrefix l [35] then readR (pxR l [35]).data.toList else (0, 80)
theorem px_size (s : ByteArray) (p : List UInt8) : (pxR s.data.toList p).size ≤ s.size := by
  have h : (pxR s.data.toList p).size = (Lib.trimPrefix s.data.toList p).length := rfl
  have h2 := ba_len5 s
  rw [h]
  unfold Lib.trimPrefix
  split
  · rw [List.length_drop]; omega
  · omega
theorem point_word (M G : Nat) (s : ByteArray) (n : Int) (w : World) (hr : Rdr M G w) (h : wdO s.data.toList = some n) :
    Calls Tryz.prog 120 #[RdV M G, .string s] w fun e w' => e = .returned (.tuple #[.int .i64 n, .int .i64 0]) ∧ Below w.heap.size w w' := by
  have HLk : Hid (∀ W, Below w.heap.size w W → (Instr.lookup 122 (.map (some M)) (.string s) true).run Tryz.prog W = .ok (.tuple #[.int .i64 n, .bool true]) W) := by
    intro W hW
    rw [lookw s W M (hr.to hW).1, h]
    rfl
  have HB : Hid (∀ o, Below w.heap.size w (w.alloc o)) := Lib.hid fun o => (Below.refl _ _).alloc (Nat.le_refl _) o
  clear h hr
  unfold RdV
  go_enter Tryz.func120, Tryz.ntmps120
  go_wp2_with (first
    | (refine wpList_look rfl _ _ _ rfl rfl rfl (HLk.out _ (HB.out _)) ?_)
    | fail)
  go_ret2
  exact ⟨rfl, HB.out _⟩
theorem point_mark (M G : Nat) (s : ByteArray) (a b : Int) (w : World) (hm : s.size ≤ 1000000) (hr : Rdr M G w) (hE : Ev w) (h : wdO s.data.toList = none) (hp : ptR s.data.toList = (a, b)) :
    Calls Tryz.prog 120 #[RdV M G, .string s] w fun e w' => e = .returned (.tuple #[.int .i64 a, .int .i64 b]) ∧ Below w.heap.size w w' := by
  have HLk : Hid (∀ W, Below w.heap.size w W → (Instr.lookup 122 (.map (some M)) (.string s) true).run Tryz.prog W = .ok (.tuple #[.int .i64 0, .bool false]) W) := by
    intro W hW
    rw [lookw s W M (hr.to hW).1, h]
    rfl
  have HB : Hid (∀ o, Below w.heap.size w (w.alloc o)) := Lib.hid fun o => (Below.refl _ _).alloc (Nat.le_refl _) o
  have HEv : Hid (∀ W, Below w.heap.size w W → Ev W) := Lib.hid fun W hW => hE.to hW
  have HG : Hid (∀ W, Below w.heap.size w W → W.heap[G]? = some (.cells BS 147)) := Lib.hid fun W hW => (hr.to hW).2
  obtain ⟨p1, hp1⟩ : ∃ p1, Lib.hasPrefix s.data.toList [35, 120] = p1 := ⟨_, rfl⟩
  obtain ⟨p2, hp2⟩ : ∃ p2, Lib.hasPrefix s.data.toList [35] = p2 := ⟨_, rfl⟩
  obtain ⟨r1, hr1⟩ : ∃ r1, pxR s.data.toList [35, 120] = r1 := ⟨_, rfl⟩
  obtain ⟨r2, hr2⟩ : ∃ r2, pxR s.data.toList [35] = r2 := ⟨_, rfl⟩
  have HM1 : Hid (r1.size ≤ 1000000) := by show _ ≤ _; rw [← hr1]; exact Nat.le_trans (px_size _ _) hm
  have HM2 : Hid (r2.size ≤ 1000000) := by show _ ≤ _; rw [← hr2]; exact Nat.le_trans (px_size _ _) hm
  have HP : Hid ((if p1 then hexI r1.data.toList else if p2 then readR r2.data.toList else (0, 80)) = (a, b)) := by
    show _ = _
    unfold ptR at hp
    rw [h, hp1, hp2, hr1, hr2] at hp
    exact hp
  have H1 := Lib.hid hp1
  have H2 := Lib.hid hp2
  have HR1 := Lib.hid hr1
  have HR2 := Lib.hid hr2
  clear h hr hE hp hp1 hp2 hr1 hr2 hm
  unfold RdV
  go_enter Tryz.func120, Tryz.ntmps120
  go_wp2_with (first
    | (refine wpList_look rfl _ _ _ rfl rfl rfl (HLk.out _ (HB.out _)) ?_)
    | fail)
  go_loopg [9, 10, 11, 24] 2 (fun gg x9 x10 x11 i wr => ∃ k : Nat, k + gg = 2 ∧ i = .int .i64 k ∧ Below w.heap.size w wr ∧ (1 ≤ k → p1 = false) ∧ (2 ≤ k → p2 = false))
  case atStart => exact ⟨0, by omega, rfl, HB.out _, fun h => absurd h (by decide), fun h => absurd h (by decide)⟩
  case round =>
    obtain ⟨k, hk, rfl, hbw, hk1, hk2⟩ := hrel
    have hgc := HG.out wr hbw
    have c0 : wr.cell? ⟨G, 0, none⟩ = some (.string ⟨#[35, 120]⟩) := by rw [Lib.cell_of_heap hgc]; rfl
    have c1 : wr.cell? ⟨G, 1, none⟩ = some (.func (.func 118) #[] #[]) := by rw [Lib.cell_of_heap hgc]; rfl
    have c2 : wr.cell? ⟨G, 2, none⟩ = some (.string ⟨#[35]⟩) := by rw [Lib.cell_of_heap hgc]; rfl
    have c3 : wr.cell? ⟨G, 3, none⟩ = some (.func (.func 119) #[] #[]) := by rw [Lib.cell_of_heap hgc]; rfl
    have HBW := Lib.hid hbw
    have hsz := hbw.size
    have HB2 : Hid (∀ o, Below w.heap.size w (wr.alloc o)) := Lib.hid fun o => hbw.alloc hsz o
    clear hgc hbw
    have hk3 : k = 0 ∨ k = 1 ∨ k = 2 := by omega
    rcases hk3 with rfl | rfl | rfl
    · cases p1 with
      | true =>
        have hx : hexI r1.data.toList = (a, b) := HP.out
        have HX := Lib.hid hx
        clear hx hk1 hk2
        go_wp2_with (first
          | (go_at_call 84; (with_reducible refine (cutx s r1 true _ H1.out HR1.out).mono ?_); rintro e1 w1 ⟨rfl, rfl⟩)
          | (go_at_call 118; (with_reducible refine (hex8 r1 a b _ HM1.out HX.out (HEv.out _ (HB2.out _))).mono ?_); rintro e2 w2 ⟨rfl, hb2⟩)
          | fail)
        go_ret2
        exact ⟨rfl, bel_in (HB2.out _) hb2 (HB2.out _).size⟩
      | false =>
        go_wp2_with (first
          | (go_at_call 84; (with_reducible refine (cutx s r1 false _ H1.out HR1.out).mono ?_); rintro e1 w1 ⟨rfl, rfl⟩)
          | fail)
        go_roundg (gk - 1)
        case rel => exact ⟨1, by omega, by go_num, HB2.out _, by simp, fun h => absurd h (by decide)⟩
        case measure => omega
    · obtain rfl : p1 = false := hk1 (by decide)
      cases p2 with
      | true =>
        have hx : readR r2.data.toList = (a, b) := HP.out
        have HX := Lib.hid hx
        clear hx hk1 hk2
        go_wp2_with (first
          | (go_at_call 84; (with_reducible refine (cutd s r2 true _ H2.out HR2.out).mono ?_); rintro e1 w1 ⟨rfl, rfl⟩)
          | (go_at_call 119; (with_reducible refine (read6 r2 _ HM2.out a b HX.out).mono ?_); rintro e2 w2 ⟨rfl, hb2⟩)
          | fail)
        go_ret2
        exact ⟨rfl, bel_in (HB2.out _) hb2 (HB2.out _).size⟩
      | false =>
        go_wp2_with (first
          | (go_at_call 84; (with_reducible refine (cutd s r2 false _ H2.out HR2.out).mono ?_); rintro e1 w1 ⟨rfl, rfl⟩)
          | fail)
        go_roundg (gk - 1)
        case rel => exact ⟨2, by omega, by go_num, HB2.out _, by simp, by simp⟩
        case measure => omega
    · obtain rfl : p1 = false := hk1 (by decide)
      obtain rfl : p2 = false := hk2 (by decide)
      obtain ⟨rfl, rfl⟩ : (0 : Int) = a ∧ (80 : Int) = b := by have hx : ((0 : Int), (80 : Int)) = (a, b) := HP.out; cases hx; exact ⟨rfl, rfl⟩
      clear hk1 hk2
      go_wp2_with fail
      go_ret2
      exact ⟨rfl, HBW.out⟩
theorem point8 (M G : Nat) (s : ByteArray) (a b : Int) (w : World) (hm : s.size ≤ 1000000) (hr : Rdr M G w) (hE : Ev w) (hp : ptR s.data.toList = (a, b)) :
    Calls Tryz.prog 120 #[RdV M G, .string s] w fun e w' => e = .returned (.tuple #[.int .i64 a, .int .i64 b]) ∧ Below w.heap.size w w' := by
  cases h : wdO s.data.toList with
  | none => exact point_mark M G s a b w hm hr hE h hp
  | some n =>
    unfold ptR at hp
    rw [h] at hp
    obtain ⟨rfl, rfl⟩ : n = a ∧ (0 : Int) = b := by cases hp; exact ⟨rfl, rfl⟩
    exact point_word M G s n w hr h
def refR (l : List UInt8) : ByteArray × Int := match meantL l with | some y => (⟨y.toArray⟩, 0) | none => (⟨#[]⟩, 80)
theorem enc_le (n : Nat) : (enc n).length ≤ 4 := by
  unfold enc
  split
  · simp
  · split
    · simp
    · split <;> simp
theorem ofR_one (n : Nat) : ofR [(n : Int)] = if may (n : Int) = true then (⟨(enc n).toArray⟩, 0) else (⟨#[]⟩, 50) := by
  by_cases h : may (n : Int) = true
  · rw [if_pos h]
    have hb : byL [(n : Int)] = enc n := by simp [byL, encs_cons, encs_nil]
    have he := enc_le n
    rw [ofR_ok _ (by simpa using h) (by rw [hb]; omega), hb]
  · rw [if_neg h]
    exact ofR_no _ 0 (by simp) (by simpa using h)
def markL (l : List UInt8) : Option (List UInt8) := match l with | 35 :: r => (numL r).map enc | _ => none
theorem markL_no {l : List UInt8} (h : ∀ r, l ≠ 35 :: r) : markL l = none := by
  unfold markL
  split
  · exact absurd rfl (h _)
  · rfl
theorem meantL_mark (l : List UInt8) (h : wdO l = none) : meantL l = markL l := by
  unfold wdO at h
  unfold meantL
  by_cases h1 : l = [97, 109, 112]
  · rw [if_pos h1] at h; cases h
  rw [if_neg h1] at h ⊢
  by_cases h2 : l = [108, 116]
  · rw [if_pos h2] at h; cases h
  rw [if_neg h2] at h ⊢
  by_cases h3 : l = [103, 116]
  · rw [if_pos h3] at h; cases h
  rw [if_neg h3] at h ⊢
  by_cases h4 : l = [113, 117, 111, 116]
  · rw [if_pos h4] at h; cases h
  rw [if_neg h4] at h ⊢
  by_cases h5 : l = [97, 112, 111, 115]
  · rw [if_pos h5] at h; cases h
  rw [if_neg h5] at h ⊢
  rfl
theorem pre_x (l : List UInt8) : (∃ r, l = 35 :: 120 :: r ∧ Lib.hasPrefix l [35, 120] = true ∧ Lib.trimPrefix l [35, 120] = r) ∨ ((∀ r, l ≠ 35 :: 120 :: r) ∧ Lib.hasPrefix l [35, 120] = false) := by
  cases h : Lib.hasPrefix l [35, 120] with
  | true =>
    have h2 : [35, 120] <+: l := by unfold Lib.hasPrefix at h; exact List.isPrefixOf_iff_prefix.1 h
    obtain ⟨r, rfl⟩ := h2
    refine .inl ⟨r, rfl, rfl, ?_⟩
    unfold Lib.trimPrefix
    rw [if_pos h]
    rfl
  | false =>
    refine .inr ⟨fun r e => ?_, rfl⟩
    subst e
    have : Lib.hasPrefix (35 :: 120 :: r) [35, 120] = true := by unfold Lib.hasPrefix; exact List.isPrefixOf_iff_prefix.2 ⟨r, rfl⟩
    rw [this] at h
    cases h
theorem pre_d (l : List UInt8) : (∃ r, l = 35 :: r ∧ Lib.hasPrefix l [35] = true ∧ Lib.trimPrefix l [35] = r) ∨ ((∀ r, l ≠ 35 :: r) ∧ Lib.hasPrefix l [35] = false) := by
  cases h : Lib.hasPrefix l [35] with
  | true =>
    have h2 : [35] <+: l := by unfold Lib.hasPrefix at h; exact List.isPrefixOf_iff_prefix.1 h
    obtain ⟨r, rfl⟩ := h2
    refine .inl ⟨r, rfl, rfl, ?_⟩
    unfold Lib.trimPrefix
    rw [if_pos h]
    rfl
  | false =>
    refine .inr ⟨fun r e => ?_, rfl⟩
    subst e
    have : Lib.hasPrefix (35 :: r) [35] = true := by unfold Lib.hasPrefix; exact List.isPrefixOf_iff_prefix.2 ⟨r, rfl⟩
    rw [this] at h
    cases h
def numP (k : Int) (o : Option Nat) : Int × Int := match o with | some n => ((n : Int), 0) | none => (0, k)
def numA (n : Nat) : ByteArray × Int := if may (n : Int) = true then (⟨(enc n).toArray⟩, 0) else (⟨#[]⟩, 80)
theorem ref_num (l : List UInt8) (o : Option Nat) (k a b : Int) (hk : k ≠ 0) (hml : meantL l = (o.filter fun n : Nat => may (n : Int)).map enc) (hx : numP k o = (a, b)) :
    (b ≠ 0 ∧ refR l = (⟨#[]⟩, 80)) ∨ (b = 0 ∧ ∃ n : Nat, a = (n : Int) ∧ refR l = numA n) := by
  cases o with
  | none =>
    cases hx
    refine .inl ⟨hk, ?_⟩
    unfold refR
    rw [hml]
    rfl
  | some n =>
    cases hx
    refine .inr ⟨rfl, n, rfl, ?_⟩
    unfold refR numA
    rw [hml]
    by_cases hm : may (n : Int) = true
    · rw [if_pos hm, Option.filter_some, if_pos hm]
      rfl
    · rw [if_neg hm, Option.filter_some, if_neg hm]
      rfl
theorem ref_steps (l : List UInt8) (a b : Int) (h : ptR l = (a, b)) : (b ≠ 0 ∧ refR l = (⟨#[]⟩, 80)) ∨ (b = 0 ∧ ∃ n : Nat, a = (n : Int) ∧ refR l = numA n) := by
  unfold ptR at h
  cases hw : wdO l with
  | some n =>
    rw [hw] at h
    obtain ⟨rfl, rfl⟩ : n = a ∧ (0 : Int) = b := by cases h; exact ⟨rfl, rfl⟩
    refine .inr ⟨rfl, ?_⟩
    unfold wdO at hw
    split at hw
    · rename_i e; subst e; cases hw; exact ⟨38, rfl, by decide +kernel⟩
    split at hw
    · rename_i e; subst e; cases hw; exact ⟨60, rfl, by decide +kernel⟩
    split at hw
    · rename_i e; subst e; cases hw; exact ⟨62, rfl, by decide +kernel⟩
    split at hw
    · rename_i e; subst e; cases hw; exact ⟨34, rfl, by decide +kernel⟩
    split at hw
    · rename_i e; subst e; cases hw; exact ⟨39, rfl, by decide +kernel⟩
    · cases hw
  | none =>
    rw [hw] at h
    have hml := meantL_mark l hw
    rcases pre_x l with ⟨r, rfl, e1, e2⟩ | ⟨e0, e1⟩
    · dsimp only at h
      rw [if_pos e1] at h
      have e3 : (pxR (35 :: 120 :: r) [35, 120]).data.toList = r := e2
      rw [e3] at h
      exact ref_num _ (hexV r) 80 a b (by decide) hml h
    · dsimp only at h
      rw [e1, if_neg (by decide)] at h
      rcases pre_d l with ⟨r, rfl, e4, e5⟩ | ⟨e3, e4⟩
      · rw [if_pos e4] at h
        have e6 : (pxR (35 :: r) [35]).data.toList = r := e5
        rw [e6] at h
        have hd : r.head? ≠ some 120 := by
          intro hh
          cases r with
          | nil => cases hh
          | cons c r =>
            cases hh
            exact e0 r rfl
        have hml2 : meantL (35 :: r) = (numL r).map enc := hml
        rw [numL_d hd] at hml2
        exact ref_num _ (readN r) 60 a b (by decide) hml2 h
      · rw [e4, if_neg (by decide)] at h
        obtain ⟨rfl, rfl⟩ : (0 : Int) = a ∧ (80 : Int) = b := by cases h; exact ⟨rfl, rfl⟩
        refine .inl ⟨by decide, ?_⟩
        unfold refR
        rw [hml, markL_no e3]
theorem ix_cases (l : List UInt8) (c : UInt8) : (Lib.indexByte l c = -1 ∧ c ∉ l) ∨ ∃ i : Nat, Lib.indexByte l c = (i : Int) ∧ i < l.length ∧ l = l.take i ++ c :: l.drop (i + 1) ∧ c ∉ l.take i := by
  have hge := Lib.indexByte_ge l c
  by_cases h : Lib.indexByte l c = -1
  · left
    refine ⟨h, fun hc => ?_⟩
    obtain ⟨k, hk⟩ := List.mem_iff_getElem?.1 hc
    exact Lib.indexByte_none h k hk
  · right
    obtain ⟨i, hi⟩ : ∃ i : Nat, Lib.indexByte l c = (i : Int) := ⟨(Lib.indexByte l c).toNat, by omega⟩
    obtain ⟨h1, h2⟩ := Lib.indexByte_some hi
    obtain ⟨hlt, hc⟩ := List.getElem?_eq_some_iff.1 h1
    refine ⟨i, hi, hlt, ?_, fun hm => ?_⟩
    · conv => lhs; rw [← List.take_append_drop i l]
      rw [List.drop_eq_getElem_cons hlt, hc]
    · obtain ⟨k, hk⟩ := List.mem_iff_getElem?.1 hm
      rw [List.getElem?_take] at hk
      split at hk
      · exact h2 k (by assumption) hk
      · cases hk
def CutAt (p r : ByteArray) (b : Bool) (w : World) (e : Ending) (w' : World) : Prop := e = .returned (.tuple #[.string p, .string r, .bool b]) ∧ Below w.heap.size w w'
theorem ib_38 (s : ByteArray) (q : Int) (w : World) (h : Lib.indexByte s.data.toList 38 = q) :
    Calls Tryz.prog 80 #[.string s, .int .u8 ↑((⟨#[38]⟩ : ByteArray)[0]'(by decide)).toNat] w fun e w' => e = .returned (.int .i64 q) ∧ w = w' := by
  refine (Tryz.stringslite_IndexByte s _ w).mono fun e w' ⟨h1, h2⟩ => ⟨?_, h2.symm⟩
  rw [h1, ← h]
  rfl
theorem index_38 (s : ByteArray) (q : Int) (w : World) (h : Lib.indexByte s.data.toList 38 = q) :
    Calls Tryz.prog 68 #[.string s, .string ⟨#[38]⟩] w fun e w' => e = .returned (.int .i64 q) ∧ w = w' := by
  have H := Lib.hid h
  cases hq : ([38] == s.toList) with
  | true =>
    obtain rfl : (0 : Int) = q := by
      have e : s.data.toList = [38] := by
        rw [beq_iff_eq, ByteArray.toList_eq] at hq
        exact hq.symm
      rw [← h, e]
      rfl
    clear h
    go_enter Tryz.func68, Tryz.ntmps68
    go_wp2_with fail
    go_ret
    exact ⟨rfl, rfl⟩
  | false =>
    clear h
    go_enter Tryz.func68, Tryz.ntmps68
    go_wp2_with (first
      | (go_at_call 80; (with_reducible refine (ib_38 s q w H.out).mono ?_); rintro e w1 ⟨rfl, rfl⟩)
      | fail)
    go_ret
    exact ⟨rfl, rfl⟩
theorem ib_59 (s : ByteArray) (q : Int) (w : World) (h : Lib.indexByte s.data.toList 59 = q) :
    Calls Tryz.prog 80 #[.string s, .int .u8 ↑((⟨#[59]⟩ : ByteArray)[0]'(by decide)).toNat] w fun e w' => e = .returned (.int .i64 q) ∧ w = w' := by
  refine (Tryz.stringslite_IndexByte s _ w).mono fun e w' ⟨h1, h2⟩ => ⟨?_, h2.symm⟩
  rw [h1, ← h]
  rfl
theorem index_59 (s : ByteArray) (q : Int) (w : World) (h : Lib.indexByte s.data.toList 59 = q) :
    Calls Tryz.prog 68 #[.string s, .string ⟨#[59]⟩] w fun e w' => e = .returned (.int .i64 q) ∧ w = w' := by
  have H := Lib.hid h
  cases hq : ([59] == s.toList) with
  | true =>
    obtain rfl : (0 : Int) = q := by
      have e : s.data.toList = [59] := by
        rw [beq_iff_eq, ByteArray.toList_eq] at hq
        exact hq.symm
      rw [← h, e]
      rfl
    clear h
    go_enter Tryz.func68, Tryz.ntmps68
    go_wp2_with fail
    go_ret
    exact ⟨rfl, rfl⟩
  | false =>
    clear h
    go_enter Tryz.func68, Tryz.ntmps68
    go_wp2_with (first
      | (go_at_call 80; (with_reducible refine (ib_59 s q w H.out).mono ?_); rintro e w1 ⟨rfl, rfl⟩)
      | fail)
    go_ret
    exact ⟨rfl, rfl⟩
theorem ib_60 (s : ByteArray) (q : Int) (w : World) (h : Lib.indexByte s.data.toList 60 = q) :
    Calls Tryz.prog 80 #[.string s, .int .u8 ↑((⟨#[60]⟩ : ByteArray)[0]'(by decide)).toNat] w fun e w' => e = .returned (.int .i64 q) ∧ w = w' := by
  refine (Tryz.stringslite_IndexByte s _ w).mono fun e w' ⟨h1, h2⟩ => ⟨?_, h2.symm⟩
  rw [h1, ← h]
  rfl
theorem index_60 (s : ByteArray) (q : Int) (w : World) (h : Lib.indexByte s.data.toList 60 = q) :
    Calls Tryz.prog 68 #[.string s, .string ⟨#[60]⟩] w fun e w' => e = .returned (.int .i64 q) ∧ w = w' := by
  have H := Lib.hid h
  cases hq : ([60] == s.toList) with
  | true =>
    obtain rfl : (0 : Int) = q := by
      have e : s.data.toList = [60] := by
        rw [beq_iff_eq, ByteArray.toList_eq] at hq
        exact hq.symm
      rw [← h, e]
      rfl
    clear h
    go_enter Tryz.func68, Tryz.ntmps68
    go_wp2_with fail
    go_ret
    exact ⟨rfl, rfl⟩
  | false =>
    clear h
    go_enter Tryz.func68, Tryz.ntmps68
    go_wp2_with (first
      | (go_at_call 80; (with_reducible refine (ib_60 s q w H.out).mono ?_); rintro e w1 ⟨rfl, rfl⟩)
      | fail)
    go_ret
    exact ⟨rfl, rfl⟩
theorem slcut_no_38 (s : ByteArray) (w : World) (h : Lib.indexByte s.data.toList 38 = -1) :
    Calls Tryz.prog 50 #[.string s, .string ⟨#[38]⟩] w (CutAt s ⟨#[]⟩ false w) := by
  have H := Lib.hid h
  clear h
  go_enter Tryz.func50, Tryz.ntmps50
  go_wp2_with (first
    | (go_at_call 68; (with_reducible refine (index_38 s (-1) w H.out).mono ?_); rintro e w1 ⟨rfl, rfl⟩)
    | fail)
  go_ret3
  exact ⟨rfl, Below.refl _ _⟩
theorem slcut_yes_38 (s p r : ByteArray) (i j n : Nat) (w : World) (hm : s.size ≤ 1000000) (h : Lib.indexByte s.data.toList 38 = (i : Int)) (hi : i < s.size) (hj : i + 1 = j) (hn : s.size = n) (hp : s.extract 0 i = p) (hr : s.extract j n = r) :
    Calls Tryz.prog 50 #[.string s, .string ⟨#[38]⟩] w (CutAt p r true w) := by
  have H := Lib.hid h
  have b1 : (0 : Int) ≤ (i : Int) ∧ (i : Int) ≤ (s.size : Int) := by omega
  have b2 : (0 : Int) ≤ (j : Int) ∧ (j : Int) ≤ (s.size : Int) := by omega
  have s1 : IntKind.i64.wrap ((i : Int) + 1) = (j : Int) := by rw [IntWalk.i64_in _ (by omega)]; omega
  have d1 : decide ((0 : Int) ≤ (i : Int)) = true := by simp
  rw [← hn] at hr
  clear h hm hi hj hn
  go_enter Tryz.func50, Tryz.ntmps50
  go_wp2_with (first
    | (go_at_call 68; (with_reducible refine (index_38 s (i : Int) w H.out).mono ?_); rintro e w1 ⟨rfl, rfl⟩)
    | fail)
  go_region
  go_wp2_with fail
  go_ret3
  exact ⟨rfl, (show Below w.heap.size w w.drew from ⟨rfl, rfl, rfl, Nat.le_refl _, fun _ _ => rfl⟩)⟩
theorem cut_no_38 (s : ByteArray) (w : World) (h : Lib.indexByte s.data.toList 38 = -1) :
    Calls Tryz.prog 33 #[.string s, .string ⟨#[38]⟩] w (CutAt s ⟨#[]⟩ false w) := by
  have H := Lib.hid h
  clear h
  go_enter Tryz.func33, Tryz.ntmps33
  go_wp2_with (first
    | (go_at_call 50; (with_reducible refine (slcut_no_38 s w H.out).mono ?_); rintro e w1 ⟨rfl, hb1⟩)
    | fail)
  go_ret3
  exact ⟨rfl, hb1⟩
theorem cut_yes_38 (s p r : ByteArray) (i j n : Nat) (w : World) (hm : s.size ≤ 1000000) (h : Lib.indexByte s.data.toList 38 = (i : Int)) (hi : i < s.size) (hj : i + 1 = j) (hn : s.size = n) (hp : s.extract 0 i = p) (hr : s.extract j n = r) :
    Calls Tryz.prog 33 #[.string s, .string ⟨#[38]⟩] w (CutAt p r true w) := by
  have H : Hid (Calls Tryz.prog 50 #[.string s, .string ⟨#[38]⟩] w (CutAt p r true w)) := slcut_yes_38 s p r i j n w hm h hi hj hn hp hr
  clear hm h hi hj hn hp hr
  go_enter Tryz.func33, Tryz.ntmps33
  go_wp2_with (first
    | (go_at_call 50; (with_reducible refine (H.out).mono ?_); rintro e w1 ⟨rfl, hb1⟩)
    | fail)
  go_ret3
  exact ⟨rfl, hb1⟩
theorem slcut_no_59 (s : ByteArray) (w : World) (h : Lib.indexByte s.data.toList 59 = -1) :
    Calls Tryz.prog 50 #[.string s, .string ⟨#[59]⟩] w (CutAt s ⟨#[]⟩ false w) := by
  have H := Lib.hid h
  clear h
  go_enter Tryz.func50, Tryz.ntmps50
  go_wp2_with (first
    | (go_at_call 68; (with_reducible refine (index_59 s (-1) w H.out).mono ?_); rintro e w1 ⟨rfl, rfl⟩)
    | fail)
  go_ret3
  exact ⟨rfl, Below.refl _ _⟩
theorem slcut_yes_59 (s p r : ByteArray) (i j n : Nat) (w : World) (hm : s.size ≤ 1000000) (h : Lib.indexByte s.data.toList 59 = (i : Int)) (hi : i < s.size) (hj : i + 1 = j) (hn : s.size = n) (hp : s.extract 0 i = p) (hr : s.extract j n = r) :
    Calls Tryz.prog 50 #[.string s, .string ⟨#[59]⟩] w (CutAt p r true w) := by
  have H := Lib.hid h
  have b1 : (0 : Int) ≤ (i : Int) ∧ (i : Int) ≤ (s.size : Int) := by omega
  have b2 : (0 : Int) ≤ (j : Int) ∧ (j : Int) ≤ (s.size : Int) := by omega
  have s1 : IntKind.i64.wrap ((i : Int) + 1) = (j : Int) := by rw [IntWalk.i64_in _ (by omega)]; omega
  have d1 : decide ((0 : Int) ≤ (i : Int)) = true := by simp
  rw [← hn] at hr
  clear h hm hi hj hn
  go_enter Tryz.func50, Tryz.ntmps50
  go_wp2_with (first
    | (go_at_call 68; (with_reducible refine (index_59 s (i : Int) w H.out).mono ?_); rintro e w1 ⟨rfl, rfl⟩)
    | fail)
  go_region
  go_wp2_with fail
  go_ret3
  exact ⟨rfl, (show Below w.heap.size w w.drew from ⟨rfl, rfl, rfl, Nat.le_refl _, fun _ _ => rfl⟩)⟩
theorem cut_no_59 (s : ByteArray) (w : World) (h : Lib.indexByte s.data.toList 59 = -1) :
    Calls Tryz.prog 33 #[.string s, .string ⟨#[59]⟩] w (CutAt s ⟨#[]⟩ false w) := by
  have H := Lib.hid h
  clear h
  go_enter Tryz.func33, Tryz.ntmps33
  go_wp2_with (first
    | (go_at_call 50; (with_reducible refine (slcut_no_59 s w H.out).mono ?_); rintro e w1 ⟨rfl, hb1⟩)
    | fail)
  go_ret3
  exact ⟨rfl, hb1⟩
theorem cut_yes_59 (s p r : ByteArray) (i j n : Nat) (w : World) (hm : s.size ≤ 1000000) (h : Lib.indexByte s.data.toList 59 = (i : Int)) (hi : i < s.size) (hj : i + 1 = j) (hn : s.size = n) (hp : s.extract 0 i = p) (hr : s.extract j n = r) :
    Calls Tryz.prog 33 #[.string s, .string ⟨#[59]⟩] w (CutAt p r true w) := by
  have H : Hid (Calls Tryz.prog 50 #[.string s, .string ⟨#[59]⟩] w (CutAt p r true w)) := slcut_yes_59 s p r i j n w hm h hi hj hn hp hr
  clear hm h hi hj hn hp hr
  go_enter Tryz.func33, Tryz.ntmps33
  go_wp2_with (first
    | (go_at_call 50; (with_reducible refine (H.out).mono ?_); rintro e w1 ⟨rfl, hb1⟩)
    | fail)
  go_ret3
  exact ⟨rfl, hb1⟩
theorem sindex_60 (s : ByteArray) (q : Int) (w : World) (h : Lib.indexByte s.data.toList 60 = q) :
    Calls Tryz.prog 51 #[.string s, .string ⟨#[60]⟩] w fun e w' => e = .returned (.int .i64 q) ∧ w = w' := by
  have H := Lib.hid h
  clear h
  go_enter Tryz.func51, Tryz.ntmps51
  go_wp2_with (first
    | (go_at_call 68; (with_reducible refine (index_60 s q w H.out).mono ?_); rintro e w1 ⟨rfl, rfl⟩)
    | fail)
  go_ret
  exact ⟨rfl, rfl⟩
theorem has_60 (s : ByteArray) (b : Bool) (w : World) (h : decide ((60 : UInt8) ∈ s.data.toList) = b) :
    Calls Tryz.prog 36 #[.string s, .string ⟨#[60]⟩] w fun e w' => e = .returned (.bool b) ∧ w = w' := by
  obtain ⟨q, hq⟩ : ∃ q, Lib.indexByte s.data.toList 60 = q := ⟨_, rfl⟩
  have hb : decide ((0 : Int) ≤ q) = b := by
    rw [← h]
    rcases ix_cases s.data.toList 60 with ⟨h1, h2⟩ | ⟨i, h1, h2, h3, h4⟩
    · have h0 : ¬ (0 : Int) ≤ q := by omega
      rw [decide_eq_false h2, decide_eq_false h0]
    · have h0 : (0 : Int) ≤ q := by omega
      have hin : (60 : UInt8) ∈ s.data.toList := by rw [h3]; simp
      rw [decide_eq_true hin, decide_eq_true h0]
  have H := Lib.hid hq
  clear hq h
  go_enter Tryz.func36, Tryz.ntmps36
  go_wp2_with (first
    | (go_at_call 51; (with_reducible refine (sindex_60 s q w H.out).mono ?_); rintro e w1 ⟨rfl, rfl⟩)
    | fail)
  go_ret
  exact ⟨rfl, rfl⟩
theorem rdz_one (w : World) (n : Int) (T : TypeId) : RdZ (w.alloc (.cells #[.int .i64 n] T)) (w.alloc (.cells #[.int .i64 n] T)).heap.size (some ⟨w.heap.size, 0, none⟩) [n] := by
  intro _
  refine ⟨w.heap.size, 0, rfl, by simp, fun k hk => ?_⟩
  have : k = 0 := by simpa using hk
  subst this
  simp [encZ]
theorem ref8 (M G : Nat) (s t : ByteArray) (e : Int) (w : World) (hm : s.size ≤ 1000000) (hr : Rdr M G w) (hE : Ev w) (h : refR s.data.toList = (t, e)) :
    Calls Tryz.prog 105 #[RdV M G, .string s] w fun e' w' => e' = .returned (.tuple #[.string t, .int .i64 e]) ∧ Below w.heap.size w w' := by
  obtain ⟨a, b, hp⟩ : ∃ a b, ptR s.data.toList = (a, b) := ⟨_, _, rfl⟩
  have HB : Hid (∀ o, Below w.heap.size w (w.alloc o)) := Lib.hid fun o => (Below.refl _ _).alloc (Nat.le_refl _) o
  have HEv : Hid (∀ W, Below w.heap.size w W → Ev W) := Lib.hid fun W hW => hE.to hW
  have HR : Hid (∀ W, Below w.heap.size w W → Rdr M G W) := Lib.hid fun W hW => hr.to hW
  have HM := Lib.hid hm
  rcases ref_steps _ a b hp with ⟨h0, h1⟩ | ⟨rfl, n, rfl, h1⟩
  · rw [h1] at h
    obtain ⟨rfl, rfl⟩ : (⟨#[]⟩ : ByteArray) = t ∧ (80 : Int) = e := by cases h; exact ⟨rfl, rfl⟩
    have HP := Lib.hid hp
    have d0 : (b == 0) = false := by simpa using h0
    have d1 : (b != 0) = true := by simpa using h0
    clear h h1 hp hr hE hm
    unfold RdV
    go_enter Tryz.func105, Tryz.ntmps105
    go_wp2_with (first
      | (go_at_call 120; refine (point8 M G s a b _ HM.out (HR.out _ (HB.out _)) (HEv.out _ (HB.out _)) HP.out).mono ?_; rintro e1 w1 ⟨rfl, hb1⟩)
      | fail)
    go_ret2
    exact ⟨rfl, bel_in (HB.out _) hb1 (HB.out _).size⟩
  · rw [h1] at h
    have HP := Lib.hid hp
    have hL := ofR_one n
    unfold numA at h
    by_cases hmay : may (n : Int) = true
    · rw [if_pos hmay] at h hL
      rw [h] at hL
      obtain ⟨-, rfl⟩ : True ∧ (0 : Int) = e := by cases h; exact ⟨trivial, rfl⟩
      have HL := Lib.hid hL
      clear h h1 hp hr hE hm hL hmay
      unfold RdV
      go_enter Tryz.func105, Tryz.ntmps105
      go_wp2_with (first
        | (go_at_call 120; refine (point8 M G s (n : Int) 0 _ HM.out (HR.out _ (HB.out _)) (HEv.out _ (HB.out _)) HP.out).mono ?_; rintro e1 w1 ⟨rfl, hb1⟩)
        | (go_at_call 121; refine (of5 (some ⟨w1.heap.size, 0, none⟩) 1 1 [(n : Int)] _ (rdz_one w1 (n : Int) _) rfl (by decide) _ _ HL.out).mono ?_; rintro e2 w2 ⟨rfl, hb2⟩)
        | fail)
      go_ret2
      refine ⟨rfl, bel_in ((bel_in (HB.out _) hb1 (HB.out _).size).alloc ?_ _) hb2 ?_⟩
      · exact (bel_in (HB.out _) hb1 (HB.out _).size).size
      · exact ((bel_in (HB.out _) hb1 (HB.out _).size).alloc (bel_in (HB.out _) hb1 (HB.out _).size).size _).size
    · rw [if_neg hmay] at h hL
      obtain ⟨rfl, rfl⟩ : (⟨#[]⟩ : ByteArray) = t ∧ (80 : Int) = e := by cases h; exact ⟨rfl, rfl⟩
      have HL := Lib.hid hL
      clear h h1 hp hr hE hm hL hmay
      unfold RdV
      go_enter Tryz.func105, Tryz.ntmps105
      go_wp2_with (first
        | (go_at_call 120; refine (point8 M G s (n : Int) 0 _ HM.out (HR.out _ (HB.out _)) (HEv.out _ (HB.out _)) HP.out).mono ?_; rintro e1 w1 ⟨rfl, hb1⟩)
        | (go_at_call 121; refine (of5 (some ⟨w1.heap.size, 0, none⟩) 1 1 [(n : Int)] _ (rdz_one w1 (n : Int) _) rfl (by decide) _ _ HL.out).mono ?_; rintro e2 w2 ⟨rfl, hb2⟩)
        | fail)
      go_ret2
      refine ⟨rfl, bel_in ((bel_in (HB.out _) hb1 (HB.out _).size).alloc ?_ _) hb2 ?_⟩
      · exact (bel_in (HB.out _) hb1 (HB.out _).size).size
      · exact ((bel_in (HB.out _) hb1 (HB.out _).size).alloc (bel_in (HB.out _) hb1 (HB.out _).size).size _).size
theorem rd_self (p : List UInt8) (h : ∀ x ∈ p, x ≠ 60 ∧ x ≠ 38) : rd p = some p := by
  induction p with
  | nil => rfl
  | cons c p ih =>
    have hc := h c (by simp)
    rw [rd_byte c p hc.1 hc.2, ih (fun x hx => h x (by simp [hx]))]
    rfl
theorem rd_plain (p r : List UInt8) (h : ∀ x ∈ p, x ≠ 60 ∧ x ≠ 38) : rd (p ++ r) = (rd r).map (p ++ ·) := rd_append p r p (rd_self p h)
theorem dg_no60 (n : Nat) : (60 : UInt8) ∉ dg n := dg_not n 60 (by decide)
theorem hexV_no60 {l : List UInt8} {n : Nat} (h : hexV l = some n) : (60 : UInt8) ∉ l := by
  intro hm
  obtain ⟨k, hk⟩ := List.mem_iff_getElem?.1 hm
  have h0 : hxv 60 = none := by decide
  unfold hexV at h
  split at h
  · cases h
  · rw [hexF_stop hk h0] at h; cases h
theorem numL_no60 {l : List UInt8} {n : Nat} (h : numL l = some n) : (60 : UInt8) ∉ l := by
  by_cases hd : l.head? = some 120
  · cases l with
    | nil => cases hd
    | cons c r =>
      cases hd
      rw [numL_x] at h
      rw [Option.filter_eq_some_iff] at h
      intro hm
      rcases List.mem_cons.1 hm with e | e
      · cases e
      · exact hexV_no60 h.1 e
  · rw [numL_d hd, Option.filter_eq_some_iff] at h
    rw [((readN_iff l n).1 h.1).1]
    exact dg_no60 n
theorem meantL_no60 {l y : List UInt8} (h : meantL l = some y) : (60 : UInt8) ∉ l := by
  unfold meantL at h
  split at h
  · rename_i e; subst e; decide
  split at h
  · rename_i e; subst e; decide
  split at h
  · rename_i e; subst e; decide
  split at h
  · rename_i e; subst e; decide
  split at h
  · rename_i e; subst e; decide
  split at h
  · rename_i r _ _ _ _ _
    rw [Option.map_eq_some_iff] at h
    obtain ⟨n, hn, _⟩ := h
    intro hm
    rcases List.mem_cons.1 hm with e | e
    · cases e
    · exact numL_no60 hn e
  · cases h
theorem rd_lt : ∀ (n : Nat) (l : List UInt8), l.length ≤ n → (60 : UInt8) ∈ l → rd l = none
  | _, [], _, h => by simp at h
  | 0, c :: l, hn, _ => by simp at hn
  | n + 1, c :: l, hn, h => by
    simp only [List.length_cons] at hn
    by_cases h60 : c = 60
    · rw [h60]; exact rd_bad l
    · have hl : (60 : UInt8) ∈ l := (List.mem_cons.1 h).resolve_left (fun e => h60 e.symm)
      by_cases h38 : c = 38
      · subst h38
        rw [rd_amp]
        cases hs : semi l with
        | none => rfl
        | some p =>
          obtain ⟨x, t⟩ := p
          obtain ⟨e, hx⟩ := semi_some l x t hs
          simp only
          cases hm : meantL x with
          | none => rfl
          | some y =>
            simp only
            have ht : (60 : UInt8) ∈ t := by
              rw [e] at hl
              rcases List.mem_append.1 hl with q | q
              · exact absurd q (meantL_no60 hm)
              · rcases List.mem_cons.1 q with q | q
                · cases q
                · exact q
            have hlen := congrArg List.length e
            simp only [List.length_append, List.length_cons] at hlen
            rw [rd_lt n t (by omega) ht]
            rfl
      · rw [rd_byte c l h60 h38, rd_lt n l (by omega) hl]
        rfl
def repR (l : List UInt8) : ByteArray × Int := match rd l with | some y => (⟨y.toArray⟩, 0) | none => (⟨#[]⟩, 80)
theorem ext_take (s : ByteArray) (i : Nat) : (s.extract 0 i).data.toList = s.data.toList.take i := by rw [extract_mid8]; simp
theorem ext_drop (s : ByteArray) (j : Nat) : (s.extract j s.size).data.toList = s.data.toList.drop j := by
  rw [extract_mid8]
  show (s.data.toList.drop j).take (s.size - j) = _
  exact List.take_of_length_le (by rw [List.length_drop, ba_len5]; exact Nat.le_refl _)
theorem repR_none {l : List UInt8} (h : rd l = none) : repR l = (⟨#[]⟩, 80) := by unfold repR; rw [h]
theorem repR_some {l y : List UInt8} (h : rd l = some y) : repR l = (⟨y.toArray⟩, 0) := by unfold repR; rw [h]
theorem refR_none {l : List UInt8} {t : ByteArray} {e : Int} (h : refR l = (t, e)) : (e = 0 ∧ meantL l = some t.data.toList) ∨ (e = 80 ∧ meantL l = none) := by
  unfold refR at h
  cases hm : meantL l with
  | none => rw [hm] at h; cases h; exact .inr ⟨rfl, rfl⟩
  | some y => rw [hm] at h; cases h; exact .inl ⟨rfl, rfl⟩
theorem rep8 (M G : Nat) (s t : ByteArray) (e : Int) (w : World) (hm : s.size ≤ 1000000) (h60 : (60 : UInt8) ∉ s.data.toList) (hr : Rdr M G w) (hE : Ev w) (h : repR s.data.toList = (t, e)) :
    Calls Tryz.prog 103 #[.string s, .func (.func 105) #[RdV M G] #[]] w fun e' w' => e' = .returned (.tuple #[.string t, .int .i64 e]) ∧ Below w.heap.size w w' := by
  have HEv : Hid (∀ W, Below w.heap.size w W → Ev W) := Lib.hid fun W hW => hE.to hW
  have HR : Hid (∀ W, Below w.heap.size w W → Rdr M G W) := Lib.hid fun W hW => hr.to hW
  have HH := Lib.hid h
  have H60 := Lib.hid h60
  have HSM := Lib.hid hm
  clear hr hE h h60 hm
  unfold RdV
  go_enter Tryz.func103, Tryz.ntmps103
  go_wp2_with fail
  go_loopg [0, 7, 8, 9, 10, 11, 12, 13, 14] s.size (fun gg vs v7 v8 v9 v10 v11 v12 v13 v14 wr => ∃ (x : ByteArray) (l : List UInt8), vs = .string x ∧ gg = x.size ∧ Hid (rd s.data.toList = (rd x.data.toList).map (l ++ ·)) ∧ l.length + 4 * x.size ≤ 4000000 ∧ x.size ≤ 1000000 ∧ Hid ((60 : UInt8) ∉ x.data.toList) ∧ Bld w.heap.size w.heap.size l wr ∧ Below w.heap.size w wr)
  case atStart => exact ⟨s, [], rfl, rfl, Lib.hid (by cases rd s.data.toList <;> simp), by have := HSM.out; simp; omega, HSM.out, H60, bld_new w, (Below.refl _ _).alloc (Nat.le_refl _) _⟩
  case round =>
    obtain ⟨x, l, rfl, rfl, hrd, hlen, hxm, hx60, hbl, hbw⟩ := hrel
    have HBL := Lib.hid hbl
    have HBW := Lib.hid hbw
    have HL := Lib.hid hlen
    have HXM := Lib.hid hxm
    have hsz := hbw.size
    have hxl : x.data.toList.length = x.size := ba_len5 x
    clear hbl hbw
    rcases ix_cases x.data.toList 38 with ⟨hi, hno⟩ | ⟨i, hi, hil, hsp, hno⟩
    · -- no reference any more
      have hself : rd x.data.toList = some x.data.toList := rd_self _ (fun c hc => ⟨fun q => hx60.out (q ▸ hc), fun q => hno (q ▸ hc)⟩)
      have hall : rd s.data.toList = some (l ++ x.data.toList) := by rw [hrd.out, hself]; rfl
      obtain ⟨y, hy⟩ : ∃ y : ByteArray, (⟨(l ++ x.data.toList).toArray⟩ : ByteArray) = y := ⟨_, rfl⟩
      have hyl : y.data.toList = l ++ x.data.toList := by rw [← hy]
      have hh := HH.out
      rw [repR_some hall, hy] at hh
      obtain ⟨rfl, rfl⟩ : y = t ∧ (0 : Int) = e := by cases hh; exact ⟨rfl, rfl⟩
      have HI := Lib.hid hi
      have HYL := Lib.hid hyl
      clear hi hno hself hall hy hyl hh hlen hxl hxm HH
      go_wp2_with (first
        | (go_at_call 33; (with_reducible refine (cut_no_38 x wr HI.out).mono ?_); rintro e1 w1 ⟨rfl, hb1⟩; have HB1 := Lib.hid hb1; have HBL1 : Hid (Bld w.heap.size w.heap.size l w1) := Lib.hid (HBL.out.below hb1); clear hb1)
        | (go_at_call 116; (with_reducible refine (bws w.heap.size w.heap.size l x w1 HBL1.out (by have := HL.out; omega) (bel_in HBW.out HB1.out hsz).size).mono ?_); rintro e2 w2 ⟨rfl, hbl2, hb2⟩; have HB2 := Lib.hid hb2; have HBL2 : Hid (Bld w.heap.size w.heap.size y.data.toList w2) := Lib.hid (by rw [HYL.out]; exact hbl2); clear hb2 hbl2)
        | (go_at_call 117; (with_reducible refine (bst w.heap.size w.heap.size y w2 HBL2.out (bel_in (bel_in HBW.out HB1.out hsz) HB2.out (Nat.le_refl _)).size).mono ?_); rintro e3 w3 ⟨rfl, hbl3, hb3⟩)
        | fail)
      go_ret2
      exact ⟨rfl, bel_in (bel_in (bel_in HBW.out HB1.out hsz) HB2.out (Nat.le_refl _)) hb3 (Nat.le_refl _)⟩
    · obtain ⟨p, hp⟩ : ∃ p, x.extract 0 i = p := ⟨_, rfl⟩
      obtain ⟨bh, hbh⟩ : ∃ bh, x.extract (i + 1) x.size = bh := ⟨_, rfl⟩
      have hpl : p.data.toList = x.data.toList.take i := by rw [← hp]; exact ext_take _ _
      have hbl' : bh.data.toList = x.data.toList.drop (i + 1) := by rw [← hbh]; exact ext_drop _ _
      have hps : p.size + bh.size + 1 = x.size := by
        rw [← ba_len5 p, ← ba_len5 bh, hpl, hbl', List.length_take, List.length_drop]
        omega
      have hdec : rd x.data.toList = (rd (38 :: bh.data.toList)).map (p.data.toList ++ ·) := by
        conv => lhs; rw [hsp]
        rw [← hbl', ← hpl]
        refine rd_plain _ _ fun c hc => ⟨fun q => hx60.out ?_, fun q => hno ?_⟩
        · rw [hpl] at hc; rw [← q]; exact List.mem_of_mem_take hc
        · rw [hpl] at hc; rw [← q]; exact hc
      have hb60 : (60 : UInt8) ∉ bh.data.toList := fun q => hx60.out (by rw [hbl'] at q; exact List.mem_of_mem_drop q)
      have CU : Hid (Calls Tryz.prog 33 #[.string x, .string ⟨#[38]⟩] wr (CutAt p bh true wr)) := cut_yes_38 x p bh i (i + 1) x.size wr hxm hi (by omega) rfl rfl hp hbh
      clear hi hno hp hbh hpl hbl' hsp hil hxl
      rcases ix_cases bh.data.toList 59 with ⟨hj, hno2⟩ | ⟨j, hj, hjl, hsp2, hno2⟩
      · -- no semicolon
        have hall : rd s.data.toList = none := by rw [hrd.out, hdec, rd_amp, semi_none _ hno2]; rfl
        have hh := HH.out
        rw [repR_none hall] at hh
        obtain ⟨rfl, rfl⟩ : (⟨#[]⟩ : ByteArray) = t ∧ (80 : Int) = e := by cases hh; exact ⟨rfl, rfl⟩
        have HJ := Lib.hid hj
        clear hj hno2 hall hh HH hdec hb60
        go_wp2_with (first
          | (go_at_call 33; (with_reducible refine (CU.out).mono ?_); rintro e1 w1 ⟨rfl, hb1⟩; have HB1 := Lib.hid hb1; have HBL1 : Hid (Bld w.heap.size w.heap.size l w1) := Lib.hid (HBL.out.below hb1); clear hb1)
          | (go_at_call 116; (with_reducible refine (bws w.heap.size w.heap.size l p w1 HBL1.out (by have := HL.out; omega) (bel_in HBW.out HB1.out hsz).size).mono ?_); rintro e2 w2 ⟨rfl, hbl2, hb2⟩; have HB2 := Lib.hid hb2; clear hb2 hbl2)
          | (go_at_call 33; (with_reducible refine (cut_no_59 bh w2 HJ.out).mono ?_); rintro e3 w3 ⟨rfl, hb3⟩; have HB3 := Lib.hid hb3; clear hb3)
          | fail)
        go_ret2
        exact ⟨rfl, bel_in (bel_in (bel_in HBW.out HB1.out hsz) HB2.out (Nat.le_refl _)) HB3.out (bel_in (bel_in HBW.out HB1.out hsz) HB2.out (Nat.le_refl _)).size⟩
      · obtain ⟨nm, hnm⟩ : ∃ nm, bh.extract 0 j = nm := ⟨_, rfl⟩
        obtain ⟨rs, hrs⟩ : ∃ rs, bh.extract (j + 1) bh.size = rs := ⟨_, rfl⟩
        have hnl : nm.data.toList = bh.data.toList.take j := by rw [← hnm]; exact ext_take _ _
        have hrl : rs.data.toList = bh.data.toList.drop (j + 1) := by rw [← hrs]; exact ext_drop _ _
        have hbs := ba_len5 bh
        have hns : nm.size + rs.size + 1 = bh.size := by
          rw [← ba_len5 nm, ← ba_len5 rs, hnl, hrl, List.length_take, List.length_drop]
          omega
        have hsem : semi bh.data.toList = some (nm.data.toList, rs.data.toList) := by
          rw [hnl, hrl]
          conv => lhs; rw [hsp2]
          exact semi_of _ _ hno2
        have hr60 : (60 : UInt8) ∉ rs.data.toList := fun q => hb60 (by rw [hrl] at q; exact List.mem_of_mem_drop q)
        have CV : Hid (∀ W, Calls Tryz.prog 33 #[.string bh, .string ⟨#[59]⟩] W (CutAt nm rs true W)) := fun W => cut_yes_59 bh nm rs j (j + 1) bh.size W (by omega) hj (by omega) rfl rfl hnm hrs
        obtain ⟨tp, er, hre⟩ : ∃ tp er, refR nm.data.toList = (tp, er) := ⟨_, _, rfl⟩
        have HRE := Lib.hid hre
        have HNM : Hid (nm.size ≤ 1000000) := Lib.hid (by omega)
        have CRF : Hid (∀ W, Below w.heap.size w W → Calls Tryz.prog 105 #[.agg #[.map (some M), .slice (some ⟨G, 0, none⟩) 2 2], .string nm] W fun e' w' => e' = .returned (.tuple #[.string tp, .int .i64 er]) ∧ Below W.heap.size W w') := Lib.hid fun W hW => ref8 M G nm tp er W HNM.out (HR.out _ hW) (HEv.out _ hW) hre
        clear hj hno2 hnm hrs hnl hrl hsp2 hjl hb60 hbs
        rcases refR_none hre with ⟨rfl, hme⟩ | ⟨rfl, hme⟩
        · -- the reference is one
          have hrd2 : Hid (rd s.data.toList = (rd rs.data.toList).map ((l ++ p.data.toList ++ tp.data.toList) ++ ·)) := by
            show _ = _
            rw [hrd.out, hdec, rd_amp, hsem]
            simp only [hme, Option.map_map]
            cases rd rs.data.toList with
            | none => rfl
            | some y => simp
          have hty := meantL_len hme
          have htp : tp.size ≤ 4 := by rw [← ba_len5 tp]; exact hty
          have HTP := Lib.hid htp
          have HR60 := Lib.hid hr60
          have hLL := HL.out
          have HPS := Lib.hid hps
          have HNS := Lib.hid hns
          clear hme hre hsem hdec hty hr60
          go_wp2_with (first
            | (go_at_call 33; (with_reducible refine (CU.out).mono ?_); rintro e1 w1 ⟨rfl, hb1⟩; have HB1 := Lib.hid hb1; have HBL1 : Hid (Bld w.heap.size w.heap.size l w1) := Lib.hid (HBL.out.below hb1); clear hb1)
            | (go_at_call 116; (with_reducible refine (bws w.heap.size w.heap.size l p w1 HBL1.out (by have := HL.out; omega) (bel_in HBW.out HB1.out hsz).size).mono ?_); rintro e2 w2 ⟨rfl, hbl2, hb2⟩; have HB2 : Hid (Below w.heap.size w w2) := Lib.hid (bel_in (bel_in HBW.out HB1.out hsz) hb2 (Nat.le_refl _)); have HBL2 := Lib.hid hbl2; clear hb2 hbl2)
            | (go_at_call 33; (with_reducible refine (CV.out w2).mono ?_); rintro e3 w3 ⟨rfl, hb3⟩; have HB3 : Hid (Below w.heap.size w w3) := Lib.hid (bel_in HB2.out hb3 HB2.out.size); have HBL3 : Hid (Bld w.heap.size w.heap.size (l ++ p.data.toList) w3) := Lib.hid (HBL2.out.below hb3); clear hb3)
            | (go_at_call 105; (with_reducible refine (CRF.out w3 HB3.out).mono ?_); rintro e4 w4 ⟨rfl, hb4⟩; have HB4 : Hid (Below w.heap.size w w4) := Lib.hid (bel_in HB3.out hb4 HB3.out.size); have HBL4 : Hid (Bld w.heap.size w.heap.size (l ++ p.data.toList) w4) := Lib.hid (HBL3.out.below hb4); clear hb4)
            | (go_at_call 116; (with_reducible refine (bws w.heap.size w.heap.size (l ++ p.data.toList) tp w4 HBL4.out (by rw [List.length_append, ba_len5]; omega) HB4.out.size).mono ?_); rintro e5 w5 ⟨rfl, hbl5, hb5⟩; have HB5 : Hid (Below w.heap.size w w5) := Lib.hid (bel_in HB4.out hb5 (Nat.le_refl _)); have HBL5 := Lib.hid hbl5; clear hb5 hbl5)
            | fail)
          go_roundg rs.size
          case rel =>
            refine ⟨rs, l ++ p.data.toList ++ tp.data.toList, rfl, rfl, hrd2, ?_, by omega, HR60, HBL5.out, HB5.out⟩
            rw [List.length_append, List.length_append, ba_len5, ba_len5]
            omega
          case measure => omega
        · -- it is none
          have hall : rd s.data.toList = none := by
            rw [hrd.out, hdec, rd_amp, hsem]
            simp only [hme]
            rfl
          have hh := HH.out
          rw [repR_none hall] at hh
          obtain ⟨rfl, rfl⟩ : (⟨#[]⟩ : ByteArray) = t ∧ (80 : Int) = e := by cases hh; exact ⟨rfl, rfl⟩
          have hLL := HL.out
          clear hme hre hsem hdec hall hh HH hr60
          go_wp2_with (first
            | (go_at_call 33; (with_reducible refine (CU.out).mono ?_); rintro e1 w1 ⟨rfl, hb1⟩; have HB1 := Lib.hid hb1; have HBL1 : Hid (Bld w.heap.size w.heap.size l w1) := Lib.hid (HBL.out.below hb1); clear hb1)
            | (go_at_call 116; (with_reducible refine (bws w.heap.size w.heap.size l p w1 HBL1.out (by have := HL.out; omega) (bel_in HBW.out HB1.out hsz).size).mono ?_); rintro e2 w2 ⟨rfl, hbl2, hb2⟩; have HB2 : Hid (Below w.heap.size w w2) := Lib.hid (bel_in (bel_in HBW.out HB1.out hsz) hb2 (Nat.le_refl _)); clear hb2 hbl2)
            | (go_at_call 33; (with_reducible refine (CV.out w2).mono ?_); rintro e3 w3 ⟨rfl, hb3⟩; have HB3 : Hid (Below w.heap.size w w3) := Lib.hid (bel_in HB2.out hb3 HB2.out.size); clear hb3)
            | (go_at_call 105; (with_reducible refine (CRF.out w3 HB3.out).mono ?_); rintro e4 w4 ⟨rfl, hb4⟩; have HB4 : Hid (Below w.heap.size w w4) := Lib.hid (bel_in HB3.out hb4 HB3.out.size); clear hb4)
            | fail)
          go_ret2
          exact ⟨rfl, HB4.out⟩
theorem get8 (s t : ByteArray) (e : Int) (w : World) (hm : s.size ≤ 1000000) (h : getR s = (t, e)) (hE : Ev w := by first | assumption | exact Ev.to (by assumption) (by assumption)) :
    Calls Tryz.prog 90 #[.string s] w fun e' w' => e' = .returned (.tuple #[.string t, .int .i64 e]) ∧ Below w.heap.size w w' := by
  have hmf : ∀ (fn : Fn) (first cap : Array Value) (w : World), (Instr.makeFunc fn first cap).run Tryz.prog w = .ok (.func fn first cap) w := fun _ _ _ _ => rfl
  have HM := Lib.hid hm
  have HE := Lib.hid hE
  unfold getR at h
  by_cases h0 : chkE s = 0
  · rw [if_neg (by simpa using h0)] at h
    have HC := Lib.hid h0
    have hrep : repR s.data.toList = (t, e) := h
    by_cases h60 : (60 : UInt8) ∈ s.data.toList
    · rw [repR_none (rd_lt _ _ (Nat.le_refl _) h60)] at hrep
      obtain ⟨rfl, rfl⟩ : (⟨#[]⟩ : ByteArray) = t ∧ (80 : Int) = e := by cases hrep; exact ⟨rfl, rfl⟩
      have H6 : Hid (decide ((60 : UInt8) ∈ s.data.toList) = true) := Lib.hid (decide_eq_true h60)
      clear h h0 hrep h60 hm hE
      go_enter Tryz.func90, Tryz.ntmps90
      go_wp2_with (first
        | (go_at_call 42; (with_reducible refine (check5 s w HM.out 0 HC.out).mono ?_); rintro e1 w1 ⟨rfl, hb1⟩)
        | (go_at_call 36; (with_reducible refine (has_60 s true w1 H6.out).mono ?_); rintro e2 w2 ⟨rfl, rfl⟩)
        | fail)
      go_ret2
      exact ⟨rfl, hb1⟩
    · have H6 : Hid (decide ((60 : UInt8) ∈ s.data.toList) = false) := Lib.hid (decide_eq_false h60)
      have CR : Hid (∀ M G W, Rdr M G W → Ev W → Calls Tryz.prog 103 #[.string s, .func (.func 105) #[RdV M G] #[]] W fun e' w' => e' = .returned (.tuple #[.string t, .int .i64 e]) ∧ Below W.heap.size W w') := Lib.hid fun M G W h1 h2 => rep8 M G s t e W hm h60 h1 h2 hrep
      have hw : IntKind.i64.wrap e = e := by
        have : e = 0 ∨ e = 80 := by
          unfold repR at hrep
          split at hrep <;> cases hrep
          · exact .inl rfl
          · exact .inr rfl
        rcases this with rfl | rfl <;> rfl
      clear h h0 hrep h60 hm hE
      go_enter Tryz.func90, Tryz.ntmps90
      go_wp2_with (first
        | (go_at_call 42; (with_reducible refine (check5 s w HM.out 0 HC.out).mono ?_); rintro e1 w1 ⟨rfl, hb1⟩)
        | (go_at_call 36; (with_reducible refine (has_60 s false w1 H6.out).mono ?_); rintro e2 w2 ⟨rfl, rfl⟩)
        | (go_at_call 104; (with_reducible refine (reader8 w1).mono ?_); rintro e3 w3 ⟨M, G, rfl, hrd3, hb3⟩; have HRD := Lib.hid hrd3; have HB3 : Hid (Below w.heap.size w w3) := Lib.hid (bel_in hb1 hb3 hb1.size); clear hrd3 hb3)
        | (go_at_call 103; (with_reducible refine (CR.out M G w3 HRD.out (HE.out.to HB3.out)).mono ?_); rintro e4 w4 ⟨rfl, hb4⟩)
        | fail)
      go_ret2
      exact ⟨rfl, bel_in HB3.out hb4 HB3.out.size⟩
  · rw [if_pos h0] at h
    obtain ⟨rfl, he⟩ : (⟨#[]⟩ : ByteArray) = t ∧ chkE s = e := by cases h; exact ⟨rfl, rfl⟩
    have q0 : (e == 0) = false := by rw [← he]; simpa using h0
    have q1 : (e != 0) = true := by rw [← he]; simpa using h0
    have HC := Lib.hid he
    clear h h0 hm he hE
    go_enter Tryz.func90, Tryz.ntmps90
    go_wp2_with (first
      | (go_at_call 42; (with_reducible refine (check5 s w HM.out e HC.out).mono ?_); rintro e1 w1 ⟨rfl, hb1⟩)
      | fail)
    go_ret2
    exact ⟨rfl, hb1⟩
end Hx
end Go.Proofs.YtlhjcdkkmloamaaGreatDoor
