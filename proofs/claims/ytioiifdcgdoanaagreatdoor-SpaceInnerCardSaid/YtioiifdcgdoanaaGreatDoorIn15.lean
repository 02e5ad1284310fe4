/-
  Texts of one seat, put together: EscE, EscF, EscG, EscH, EscV, LeaE.
-/
import Derived.Test.YtioiifdcgdoanaaGreatDoorIn13
import Derived.Test.YtioiifdcgdoanaaGreatDoorIn07
import Derived.Test.YtioiifdcgdoanaaGreatDoorIn14
import Derived.Laws.EntriesVeiled
import Derived.Lib.IndexLaws
import Derived.RegionTactic
import Derived.Test.YtioiifdcgdoanaaGreatDoorIn05
import Derived.Test.YtioiifdcgdoanaaGreatDoorIn08
import Derived.Test.YtioiifdcgdoanaaGreatDoorShelf
import Derived.Maps.AppendAt
namespace Go.Proofs.YtioiifdcgdoanaaGreatDoor
open Go.RowKit
namespace Hx
open Tx Nmb Es
set_option maxRecDepth 100000
set_option maxHeartbeats 16000000
set_option linter.unusedVariables false
def wdK (l : List UInt8) : Value := .string ⟨l.toArray⟩
def WD : Array MapEntry := #[⟨wdK [97, 109, 112], .int .i64 38, 0⟩, ⟨wdK [108, 116], .int .i64 60, 1⟩, ⟨wdK [103, 116], .int .i64 62, 2⟩, ⟨wdK [113, 117, 111, 116], .int .i64 34, 3⟩, ⟨wdK [97, 112, 111, 115], .int .i64 39, 4⟩]
theorem str_key (s : ByteArray) : MapKept.IsKey .string (.string s) := by simp [MapKept.IsKey]
def RdV (M G : Nat) : Value := .agg #[.map (some M), .slice (some ⟨G, 0, none⟩) 2 2]
def BS : Array Value := #[.string ⟨#[35, 120]⟩, .func (.func 245) #[] #[], .string ⟨#[35]⟩, .func (.func 246) #[] #[]]
def Rdr (M G : Nat) (w : World) : Prop := w.heap[M]? = some (.map WD 5) ∧ w.heap[G]? = some (.cells BS 264)
theorem heap_lt {w : World} {k : Nat} {o : Obj} (h : w.heap[k]? = some o) : k < w.heap.size := by
  rcases Nat.lt_or_ge k w.heap.size with h' | h'
  · exact h'
  · rw [Array.getElem?_eq_none h'] at h; cases h
theorem Rdr.to {M G : Nat} {w w' : World} (h : Rdr M G w) (hb : Below w.heap.size w w') : Rdr M G w' :=
  ⟨kept_at h.1 hb (heap_lt h.1), kept_at h.2 hb (heap_lt h.2)⟩
theorem reader8 (w : World) :
    Calls Tryz.prog 222 #[] w fun e w' => ∃ M G, e = .returned (RdV M G) ∧ Rdr M G w' ∧ Below w.heap.size w w' := by
  have hmm := @run_makeMap Tryz.prog
  go_enter Tryz.func222, Tryz.ntmps222
  go_wp2_with (refine wpList_ins rfl _ _ _ _ rfl rfl rfl rfl (run_ins_at (w := w.alloc _) (by simp) Tryz.underlying230 Tryz.underlying9 (str_key _) rfl) ?_)
  refine bodyPost_ret (v := RdV (w.heap.size + 1) (w.heap.size + 1 + 1)) ?_ rfl ⟨w.heap.size + 1, w.heap.size + 1 + 1, rfl, ⟨?_, ?_⟩, ?_⟩
  · simp [results, Tryz.results222, go_sem, RdV]
  · rw [heap_alloc_old]
    · have := heap_alloc_new (w.alloc (.cells #[.map (some (w.heap.size + 1)), .slice (some ⟨w.heap.size + 1 + 1, 0, none⟩) 2 2] 234)) (.map WD 5)
      rw [show (w.alloc (.cells #[.map (some (w.heap.size + 1)), .slice (some ⟨w.heap.size + 1 + 1, 0, none⟩) 2 2] 234)).heap.size = w.heap.size + 1 by simp] at this
      exact this
    · simp
  · have := heap_alloc_new ((w.alloc (.cells #[.map (some (w.heap.size + 1)), .slice (some ⟨w.heap.size + 1 + 1, 0, none⟩) 2 2] 234)).alloc (.map WD 5)) (.cells BS 264)
    rw [show ((w.alloc (.cells #[.map (some (w.heap.size + 1)), .slice (some ⟨w.heap.size + 1 + 1, 0, none⟩) 2 2] 234)).alloc (.map WD 5)).heap.size = w.heap.size + 1 + 1 by simp] at this
    exact this
  · exact (((Below.refl _ _).alloc (Nat.le_refl _) _).alloc (by simp) _).alloc (by simp; omega) _
def wdO (l : List UInt8) : Option Int := if l = [97, 109, 112] then some 38 else if l = [108, 116] then some 60 else if l = [103, 116] then some 62 else if l = [113, 117, 111, 116] then some 34 else if l = [97, 112, 111, 115] then some 39 else none
def wdF (l : List UInt8) : Option (Nat × Value) := if l = [97, 109, 112] then some (0, .int .i64 38) else if l = [108, 116] then some (1, .int .i64 60) else if l = [103, 116] then some (2, .int .i64 62) else if l = [113, 117, 111, 116] then some (3, .int .i64 34) else if l = [97, 112, 111, 115] then some (4, .int .i64 39) else none
theorem bytes_same (s : ByteArray) (l : List UInt8) : (s == (⟨l.toArray⟩ : ByteArray)) = decide (s.data.toList = l) := by
  rw [Bool.eq_iff_iff, MapKept.bytes_beq, decide_eq_true_eq]
  constructor
  · intro h; rw [h]
  · intro h; rw [← h]
theorem wd_one (s : ByteArray) (k : List UInt8) (v : Value) (b : Nat) (l : List MapEntry) (i : Nat) :
    Instr.findNow .string (.string s) (⟨wdK k, v, b⟩ :: l) i = if s.data.toList = k then some (some (i, v)) else Instr.findNow .string (.string s) l (i + 1) := by
  rw [Instr.findNow]
  show (match some (s == (⟨k.toArray⟩ : ByteArray)) with | some true => _ | some false => _ | none => _) = _
  rw [bytes_same]
  by_cases h : s.data.toList = k
  · rw [if_pos h, decide_eq_true h]
  · rw [if_neg h, decide_eq_false h]
theorem wd_find (s : ByteArray) : Instr.findNow .string (.string s) WD.toList 0 = some (wdF s.data.toList) := by
  show Instr.findNow .string (.string s) [⟨wdK [97, 109, 112], _, 0⟩, ⟨wdK [108, 116], _, 1⟩, ⟨wdK [103, 116], _, 2⟩, ⟨wdK [113, 117, 111, 116], _, 3⟩, ⟨wdK [97, 112, 111, 115], _, 4⟩] 0 = _
  rw [wd_one, wd_one, wd_one, wd_one, wd_one]
  unfold wdF
  split
  · rfl
  split
  · rfl
  split
  · rfl
  split
  · rfl
  split
  · rfl
  · rfl
def wdV (o : Option Int) : Value := match o with | some n => .tuple #[.int .i64 n, .bool true] | none => .tuple #[.int .i64 0, .bool false]
theorem wdF_O (l : List UInt8) : lookV (.int .i64 0) (wdF l) = wdV (wdO l) := by
  unfold wdF wdO
  split
  · rfl
  split
  · rfl
  split
  · rfl
  split
  · rfl
  split
  · rfl
  · rfl
theorem zero_int (w : World) : (zeroValue 3).run Tryz.prog w = .ok (.int .i64 0) w := by kernel_rfl
theorem lookw (s : ByteArray) (w : World) (M : Nat) (hb : w.heap[M]? = some (.map WD 5)) :
    (Instr.lookup 230 (.map (some M)) (.string s) true).run Tryz.prog w = .ok (wdV (wdO s.data.toList)) w := by
  rw [run_look Tryz.underlying230 Tryz.underlying9 (str_key _) hb rfl (zero_int w) (wd_find s), wdF_O]
def pxR (l p : List UInt8) : ByteArray := ⟨(Lib.trimPrefix l p).toArray⟩
theorem cutx (s r : ByteArray) (b : Bool) (w : World) (h : Lib.hasPrefix s.data.toList [35, 120] = b) (hr : pxR s.data.toList [35, 120] = r) :
    Calls Tryz.prog 192 #[.string s, .string ⟨#[35, 120]⟩] w fun e w' => e = .returned (.tuple #[.string r, .bool b]) ∧ w = w' :=
  (Tryz.strings_CutPrefix s ⟨#[35, 120]⟩ w).mono fun e w' ⟨h1, h2⟩ => ⟨by rw [h1, ← h, ← hr]; rfl, h2.symm⟩
theorem cutd (s r : ByteArray) (b : Bool) (w : World) (h : Lib.hasPrefix s.data.toList [35] = b) (hr : pxR s.data.toList [35] = r) :
    Calls Tryz.prog 192 #[.string s, .string ⟨#[35]⟩] w fun e w' => e = .returned (.tuple #[.string r, .bool b]) ∧ w = w' :=
  (Tryz.strings_CutPrefix s ⟨#[35]⟩ w).mono fun e w' ⟨h1, h2⟩ => ⟨by rw [h1, ← h, ← hr]; rfl, h2.symm⟩
def ptR (l : List UInt8) : Int × Int :=
  match wdO l with
  | some n => (n, 0)
  | none => if Lib.hasPrefix l [35, 120] then hexI (pxR l [35, 120]).data.toList else if Lib.hasPrefix l [35] then readR (pxR l [35]).data.toList else (0, 80)
theorem px_size (s : ByteArray) (p : List UInt8) : (pxR s.data.toList p).size ≤ s.size := by
  have h : (pxR s.data.toList p).size = (Lib.trimPrefix s.data.toList p).length := rfl
  have h2 := ba_len5 s
  rw [h]
  unfold Lib.trimPrefix
  split
  · rw [List.length_drop]; omega
  · omega
theorem point_word (M G : Nat) (s : ByteArray) (n : Int) (w : World) (hr : Rdr M G w) (h : wdO s.data.toList = some n) :
    Calls Tryz.prog 247 #[RdV M G, .string s] w fun e w' => e = .returned (.tuple #[.int .i64 n, .int .i64 0]) ∧ Below w.heap.size w w' := by
  have HLk : Hid (∀ W, Below w.heap.size w W → (Instr.lookup 230 (.map (some M)) (.string s) true).run Tryz.prog W = .ok (.tuple #[.int .i64 n, .bool true]) W) := by
    intro W hW
    rw [lookw s W M (hr.to hW).1, h]
    rfl
  have HB : Hid (∀ o, Below w.heap.size w (w.alloc o)) := Lib.hid fun o => (Below.refl _ _).alloc (Nat.le_refl _) o
  clear h hr
  unfold RdV
  go_enter Tryz.func247, Tryz.ntmps247
  go_wp2_with (first
    | (refine wpList_look rfl _ _ _ rfl rfl rfl (HLk.out _ (HB.out _)) ?_)
    | fail)
  go_ret2
  exact ⟨rfl, HB.out _⟩
theorem point_mark (M G : Nat) (s : ByteArray) (a b : Int) (w : World) (hm : s.size ≤ 1000000) (hr : Rdr M G w) (hE : Ev w) (h : wdO s.data.toList = none) (hp : ptR s.data.toList = (a, b)) :
    Calls Tryz.prog 247 #[RdV M G, .string s] w fun e w' => e = .returned (.tuple #[.int .i64 a, .int .i64 b]) ∧ Below w.heap.size w w' := by
  have HLk : Hid (∀ W, Below w.heap.size w W → (Instr.lookup 230 (.map (some M)) (.string s) true).run Tryz.prog W = .ok (.tuple #[.int .i64 0, .bool false]) W) := by
    intro W hW
    rw [lookw s W M (hr.to hW).1, h]
    rfl
  have HB : Hid (∀ o, Below w.heap.size w (w.alloc o)) := Lib.hid fun o => (Below.refl _ _).alloc (Nat.le_refl _) o
  have HEv : Hid (∀ W, Below w.heap.size w W → Ev W) := Lib.hid fun W hW => hE.to hW
  have HG : Hid (∀ W, Below w.heap.size w W → W.heap[G]? = some (.cells BS 264)) := Lib.hid fun W hW => (hr.to hW).2
  obtain ⟨p1, hp1⟩ : ∃ p1, Lib.hasPrefix s.data.toList [35, 120] = p1 := ⟨_, rfl⟩
  obtain ⟨p2, hp2⟩ : ∃ p2, Lib.hasPrefix s.data.toList [35] = p2 := ⟨_, rfl⟩
  obtain ⟨r1, hr1⟩ : ∃ r1, pxR s.data.toList [35, 120] = r1 := ⟨_, rfl⟩
  obtain ⟨r2, hr2⟩ : ∃ r2, pxR s.data.toList [35] = r2 := ⟨_, rfl⟩
  have HM1 : Hid (r1.size ≤ 1000000) := by show _ ≤ _; rw [← hr1]; exact Nat.le_trans (px_size _ _) hm
  have HM2 : Hid (r2.size ≤ 1000000) := by show _ ≤ _; rw [← hr2]; exact Nat.le_trans (px_size _ _) hm
  have HP : Hid ((if p1 then hexI r1.data.toList else if p2 then readR r2.data.toList else (0, 80)) = (a, b)) := by
    show _ = _
    unfold ptR at hp
    rw [h, hp1, hp2, hr1, hr2] at hp
    exact hp
  have H1 := Lib.hid hp1
  have H2 := Lib.hid hp2
  have HR1 := Lib.hid hr1
  have HR2 := Lib.hid hr2
  clear h hr hE hp hp1 hp2 hr1 hr2 hm
  unfold RdV
  go_enter Tryz.func247, Tryz.ntmps247
  go_wp2_with (first
    | (refine wpList_look rfl _ _ _ rfl rfl rfl (HLk.out _ (HB.out _)) ?_)
    | fail)
  go_loopg [9, 10, 11, 24] 2 (fun gg x9 x10 x11 i wr => ∃ k : Nat, k + gg = 2 ∧ i = .int .i64 k ∧ Below w.heap.size w wr ∧ (1 ≤ k → p1 = false) ∧ (2 ≤ k → p2 = false))
  case atStart => exact ⟨0, by omega, rfl, HB.out _, fun h => absurd h (by decide), fun h => absurd h (by decide)⟩
  case round =>
    obtain ⟨k, hk, rfl, hbw, hk1, hk2⟩ := hrel
    have hgc := HG.out wr hbw
    have c0 : wr.cell? ⟨G, 0, none⟩ = some (.string ⟨#[35, 120]⟩) := by rw [Lib.cell_of_heap hgc]; rfl
    have c1 : wr.cell? ⟨G, 1, none⟩ = some (.func (.func 245) #[] #[]) := by rw [Lib.cell_of_heap hgc]; rfl
    have c2 : wr.cell? ⟨G, 2, none⟩ = some (.string ⟨#[35]⟩) := by rw [Lib.cell_of_heap hgc]; rfl
    have c3 : wr.cell? ⟨G, 3, none⟩ = some (.func (.func 246) #[] #[]) := by rw [Lib.cell_of_heap hgc]; rfl
    have HBW := Lib.hid hbw
    have hsz := hbw.size
    have HB2 : Hid (∀ o, Below w.heap.size w (wr.alloc o)) := Lib.hid fun o => hbw.alloc hsz o
    clear hgc hbw
    have hk3 : k = 0 ∨ k = 1 ∨ k = 2 := by omega
    rcases hk3 with rfl | rfl | rfl
    · cases p1 with
      | true =>
        have hx : hexI r1.data.toList = (a, b) := HP.out
        have HX := Lib.hid hx
        clear hx hk1 hk2
        go_wp2_with (first
          | (go_at_call 192; (with_reducible refine (cutx s r1 true _ H1.out HR1.out).mono ?_); rintro e1 w1 ⟨rfl, rfl⟩)
          | (go_at_call 245; (with_reducible refine (hex8 r1 a b _ HM1.out HX.out (HEv.out _ (HB2.out _))).mono ?_); rintro e2 w2 ⟨rfl, hb2⟩)
          | fail)
        go_ret2
        exact ⟨rfl, bel_in (HB2.out _) hb2 (HB2.out _).size⟩
      | false =>
        go_wp2_with (first
          | (go_at_call 192; (with_reducible refine (cutx s r1 false _ H1.out HR1.out).mono ?_); rintro e1 w1 ⟨rfl, rfl⟩)
          | fail)
        go_roundg (gk - 1)
        case rel => exact ⟨1, by omega, by go_num, HB2.out _, by simp, fun h => absurd h (by decide)⟩
        case measure => omega
    · obtain rfl : p1 = false := hk1 (by decide)
      cases p2 with
      | true =>
        have hx : readR r2.data.toList = (a, b) := HP.out
        have HX := Lib.hid hx
        clear hx hk1 hk2
        go_wp2_with (first
          | (go_at_call 192; (with_reducible refine (cutd s r2 true _ H2.out HR2.out).mono ?_); rintro e1 w1 ⟨rfl, rfl⟩)
          | (go_at_call 246; (with_reducible refine (read6 r2 _ HM2.out a b HX.out).mono ?_); rintro e2 w2 ⟨rfl, hb2⟩)
          | fail)
        go_ret2
        exact ⟨rfl, bel_in (HB2.out _) hb2 (HB2.out _).size⟩
      | false =>
        go_wp2_with (first
          | (go_at_call 192; (with_reducible refine (cutd s r2 false _ H2.out HR2.out).mono ?_); rintro e1 w1 ⟨rfl, rfl⟩)
          | fail)
        go_roundg (gk - 1)
        case rel => exact ⟨2, by omega, by go_num, HB2.out _, by simp, by simp⟩
        case measure => omega
    · obtain rfl : p1 = false := hk1 (by decide)
      obtain rfl : p2 = false := hk2 (by decide)
      obtain ⟨rfl, rfl⟩ : (0 : Int) = a ∧ (80 : Int) = b := by have hx : ((0 : Int), (80 : Int)) = (a, b) := HP.out; cases hx; exact ⟨rfl, rfl⟩
      clear hk1 hk2
      go_wp2_with fail
      go_ret2
      exact ⟨rfl, HBW.out⟩
theorem point8 (M G : Nat) (s : ByteArray) (a b : Int) (w : World) (hm : s.size ≤ 1000000) (hr : Rdr M G w) (hE : Ev w) (hp : ptR s.data.toList = (a, b)) :
    Calls Tryz.prog 247 #[RdV M G, .string s] w fun e w' => e = .returned (.tuple #[.int .i64 a, .int .i64 b]) ∧ Below w.heap.size w w' := by
  cases h : wdO s.data.toList with
  | none => exact point_mark M G s a b w hm hr hE h hp
  | some n =>
    unfold ptR at hp
    rw [h] at hp
    obtain ⟨rfl, rfl⟩ : n = a ∧ (0 : Int) = b := by cases hp; exact ⟨rfl, rfl⟩
    exact point_word M G s n w hr h
def refR (l : List UInt8) : ByteArray × Int := match meantL l with | some y => (⟨y.toArray⟩, 0) | none => (⟨#[]⟩, 80)
theorem enc_le (n : Nat) : (enc n).length ≤ 4 := by
  unfold enc
  split
  · simp
  · split
    · simp
    · split <;> simp
theorem ofR_one (n : Nat) : ofR [(n : Int)] = if may (n : Int) = true then (⟨(enc n).toArray⟩, 0) else (⟨#[]⟩, 50) := by
  by_cases h : may (n : Int) = true
  · rw [if_pos h]
    have hb : byL [(n : Int)] = enc n := by simp [byL, encs_cons, encs_nil]
    have he := enc_le n
    rw [ofR_ok _ (by simpa using h) (by rw [hb]; omega), hb]
  · rw [if_neg h]
    exact ofR_no _ 0 (by simp) (by simpa using h)
def markL (l : List UInt8) : Option (List UInt8) := match l with | 35 :: r => (numL r).map enc | _ => none
theorem markL_no {l : List UInt8} (h : ∀ r, l ≠ 35 :: r) : markL l = none := by
  unfold markL
  split
  · exact absurd rfl (h _)
  · rfl
theorem meantL_mark (l : List UInt8) (h : wdO l = none) : meantL l = markL l := by
  unfold wdO at h
  unfold meantL
  by_cases h1 : l = [97, 109, 112]
  · rw [if_pos h1] at h; cases h
  rw [if_neg h1] at h ⊢
  by_cases h2 : l = [108, 116]
  · rw [if_pos h2] at h; cases h
  rw [if_neg h2] at h ⊢
  by_cases h3 : l = [103, 116]
  · rw [if_pos h3] at h; cases h
  rw [if_neg h3] at h ⊢
  by_cases h4 : l = [113, 117, 111, 116]
  · rw [if_pos h4] at h; cases h
  rw [if_neg h4] at h ⊢
  by_cases h5 : l = [97, 112, 111, 115]
  · rw [if_pos h5] at h; cases h
  rw [if_neg h5] at h ⊢
  rfl
theorem pre_x (l : List UInt8) : (∃ r, l = 35 :: 120 :: r ∧ Lib.hasPrefix l [35, 120] = true ∧ Lib.trimPrefix l [35, 120] = r) ∨ ((∀ r, l ≠ 35 :: 120 :: r) ∧ Lib.hasPrefix l [35, 120] = false) := by
  cases h : Lib.hasPrefix l [35, 120] with
  | true =>
    have h2 : [35, 120] <+: l := by unfold Lib.hasPrefix at h; exact List.isPrefixOf_iff_prefix.1 h
    obtain ⟨r, rfl⟩ := h2
    refine .inl ⟨r, rfl, rfl, ?_⟩
    unfold Lib.trimPrefix
    rw [if_pos h]
    rfl
  | false =>
    refine .inr ⟨fun r e => ?_, rfl⟩
    subst e
    have : Lib.hasPrefix (35 :: 120 :: r) [35, 120] = true := by unfold Lib.hasPrefix; exact List.isPrefixOf_iff_prefix.2 ⟨r, rfl⟩
    rw [this] at h
    cases h
theorem pre_d (l : List UInt8) : (∃ r, l = 35 :: r ∧ Lib.hasPrefix l [35] = true ∧ Lib.trimPrefix l [35] = r) ∨ ((∀ r, l ≠ 35 :: r) ∧ Lib.hasPrefix l [35] = false) := by
  cases h : Lib.hasPrefix l [35] with
  | true =>
    have h2 : [35] <+: l := by unfold Lib.hasPrefix at h; exact List.isPrefixOf_iff_prefix.1 h
    obtain ⟨r, rfl⟩ := h2
    refine .inl ⟨r, rfl, rfl, ?_⟩
    unfold Lib.trimPrefix
    rw [if_pos h]
    rfl
  | false =>
    refine .inr ⟨fun r e => ?_, rfl⟩
    subst e
    have : Lib.hasPrefix (35 :: r) [35] = true := by unfold Lib.hasPrefix; exact List.isPrefixOf_iff_prefix.2 ⟨r, rfl⟩
    rw [this] at h
    cases h
def numP (k : Int) (o : Option Nat) : Int × Int := match o with | some n => ((n : Int), 0) | none => (0, k)
def numA (n : Nat) : ByteArray × Int := if may (n : Int) = true then (⟨(enc n).toArray⟩, 0) else (⟨#[]⟩, 80)
theorem ref_num (l : List UInt8) (o : Option Nat) (k a b : Int) (hk : k ≠ 0) (hml : meantL l = (o.filter fun n : Nat => may (n : Int)).map enc) (hx : numP k o = (a, b)) :
    (b ≠ 0 ∧ refR l = (⟨#[]⟩, 80)) ∨ (b = 0 ∧ ∃ n : Nat, a = (n : Int) ∧ refR l = numA n) := by
  cases o with
  | none =>
    cases hx
    refine .inl ⟨hk, ?_⟩
    unfold refR
    rw [hml]
    rfl
  | some n =>
    cases hx
    refine .inr ⟨rfl, n, rfl, ?_⟩
    unfold refR numA
    rw [hml]
    by_cases hm : may (n : Int) = true
    · rw [if_pos hm, Option.filter_some, if_pos hm]
      rfl
    · rw [if_neg hm, Option.filter_some, if_neg hm]
      rfl
theorem ref_steps (l : List UInt8) (a b : Int) (h : ptR l = (a, b)) : (b ≠ 0 ∧ refR l = (⟨#[]⟩, 80)) ∨ (b = 0 ∧ ∃ n : Nat, a = (n : Int) ∧ refR l = numA n) := by
  unfold ptR at h
  cases hw : wdO l with
  | some n =>
    rw [hw] at h
    obtain ⟨rfl, rfl⟩ : n = a ∧ (0 : Int) = b := by cases h; exact ⟨rfl, rfl⟩
    refine .inr ⟨rfl, ?_⟩
    unfold wdO at hw
    split at hw
    · rename_i e; subst e; cases hw; exact ⟨38, rfl, by decide +kernel⟩
    split at hw
    · rename_i e; subst e; cases hw; exact ⟨60, rfl, by decide +kernel⟩
    split at hw
    · rename_i e; subst e; cases hw; exact ⟨62, rfl, by decide +kernel⟩
    split at hw
    · rename_i e; subst e; cases hw; exact ⟨34, rfl, by decide +kernel⟩
    split at hw
    · rename_i e; subst e; cases hw; exact ⟨39, rfl, by decide +kernel⟩
    · cases hw
  | none =>
    rw [hw] at h
    have hml := meantL_mark l hw
    rcases pre_x l with ⟨r, rfl, e1, e2⟩ | ⟨e0, e1⟩
    · dsimp only at h
      rw [if_pos e1] at h
      have e3 : (pxR (35 :: 120 :: r) [35, 120]).data.toList = r := e2
      rw [e3] at h
      exact ref_num _ (hexV r) 80 a b (by decide) hml h
    · dsimp only at h
      rw [e1, if_neg (by decide)] at h
      rcases pre_d l with ⟨r, rfl, e4, e5⟩ | ⟨e3, e4⟩
      · rw [if_pos e4] at h
        have e6 : (pxR (35 :: r) [35]).data.toList = r := e5
        rw [e6] at h
        have hd : r.head? ≠ some 120 := by
          intro hh
          cases r with
          | nil => cases hh
          | cons c r =>
            cases hh
            exact e0 r rfl
        have hml2 : meantL (35 :: r) = (numL r).map enc := hml
        rw [numL_d hd] at hml2
        exact ref_num _ (readN r) 60 a b (by decide) hml2 h
      · rw [e4, if_neg (by decide)] at h
        obtain ⟨rfl, rfl⟩ : (0 : Int) = a ∧ (80 : Int) = b := by cases h; exact ⟨rfl, rfl⟩
        refine .inl ⟨by decide, ?_⟩
        unfold refR
        rw [hml, markL_no e3]
theorem ix_cases (l : List UInt8) (c : UInt8) : (Lib.indexByte l c = -1 ∧ c ∉ l) ∨ ∃ i : Nat, Lib.indexByte l c = (i : Int) ∧ i < l.length ∧ l = l.take i ++ c :: l.drop (i + 1) ∧ c ∉ l.take i := by
  have hge := Lib.indexByte_ge l c
  by_cases h : Lib.indexByte l c = -1
  · left
    refine ⟨h, fun hc => ?_⟩
    obtain ⟨k, hk⟩ := List.mem_iff_getElem?.1 hc
    exact Lib.indexByte_none h k hk
  · right
    obtain ⟨i, hi⟩ : ∃ i : Nat, Lib.indexByte l c = (i : Int) := ⟨(Lib.indexByte l c).toNat, by omega⟩
    obtain ⟨h1, h2⟩ := Lib.indexByte_some hi
    obtain ⟨hlt, hc⟩ := List.getElem?_eq_some_iff.1 h1
    refine ⟨i, hi, hlt, ?_, fun hm => ?_⟩
    · conv => lhs; rw [← List.take_append_drop i l]
      rw [List.drop_eq_getElem_cons hlt, hc]
    · obtain ⟨k, hk⟩ := List.mem_iff_getElem?.1 hm
      rw [List.getElem?_take] at hk
      split at hk
      · exact h2 k (by assumption) hk
      · cases hk
def CutAt (p r : ByteArray) (b : Bool) (w : World) (e : Ending) (w' : World) : Prop := e = .returned (.tuple #[.string p, .string r, .bool b]) ∧ Below w.heap.size w w'
theorem ib_38 (s : ByteArray) (q : Int) (w : World) (h : Lib.indexByte s.data.toList 38 = q) :
    Calls Tryz.prog 203 #[.string s, .int .u8 ↑((⟨#[38]⟩ : ByteArray)[0]'(by decide)).toNat] w fun e w' => e = .returned (.int .i64 q) ∧ w = w' := by
  refine (Tryz.stringslite_IndexByte s _ w).mono fun e w' ⟨h1, h2⟩ => ⟨?_, h2.symm⟩
  rw [h1, ← h]
  rfl
theorem index_38 (s : ByteArray) (q : Int) (w : World) (h : Lib.indexByte s.data.toList 38 = q) :
    Calls Tryz.prog 174 #[.string s, .string ⟨#[38]⟩] w fun e w' => e = .returned (.int .i64 q) ∧ w = w' := by
  have H := Lib.hid h
  cases hq : ([38] == s.toList) with
  | true =>
    obtain rfl : (0 : Int) = q := by
      have e : s.data.toList = [38] := by
        rw [beq_iff_eq, ByteArray.toList_eq] at hq
        exact hq.symm
      rw [← h, e]
      rfl
    clear h
    go_enter Tryz.func174, Tryz.ntmps174
    go_wp2_with fail
    go_ret
    exact ⟨rfl, rfl⟩
  | false =>
    clear h
    go_enter Tryz.func174, Tryz.ntmps174
    go_wp2_with (first
      | (go_at_call 203; (with_reducible refine (ib_38 s q w H.out).mono ?_); rintro e w1 ⟨rfl, rfl⟩)
      | fail)
    go_ret
    exact ⟨rfl, rfl⟩
theorem ib_59 (s : ByteArray) (q : Int) (w : World) (h : Lib.indexByte s.data.toList 59 = q) :
    Calls Tryz.prog 203 #[.string s, .int .u8 ↑((⟨#[59]⟩ : ByteArray)[0]'(by decide)).toNat] w fun e w' => e = .returned (.int .i64 q) ∧ w = w' := by
  refine (Tryz.stringslite_IndexByte s _ w).mono fun e w' ⟨h1, h2⟩ => ⟨?_, h2.symm⟩
  rw [h1, ← h]
  rfl
theorem index_59 (s : ByteArray) (q : Int) (w : World) (h : Lib.indexByte s.data.toList 59 = q) :
    Calls Tryz.prog 174 #[.string s, .string ⟨#[59]⟩] w fun e w' => e = .returned (.int .i64 q) ∧ w = w' := by
  have H := Lib.hid h
  cases hq : ([59] == s.toList) with
  | true =>
    obtain rfl : (0 : Int) = q := by
      have e : s.data.toList = [59] := by
        rw [beq_iff_eq, ByteArray.toList_eq] at hq
        exact hq.symm
      rw [← h, e]
      rfl
    clear h
    go_enter Tryz.func174, Tryz.ntmps174
    go_wp2_with fail
    go_ret
    exact ⟨rfl, rfl⟩
  | false =>
    clear h
    go_enter Tryz.func174, Tryz.ntmps174
    go_wp2_with (first
      | (go_at_call 203; (with_reducible refine (ib_59 s q w H.out).mono ?_); rintro e w1 ⟨rfl, rfl⟩)
      | fail)
    go_ret
    exact ⟨rfl, rfl⟩
theorem ib_60 (s : ByteArray) (q : Int) (w : World) (h : Lib.indexByte s.data.toList 60 = q) :
    Calls Tryz.prog 203 #[.string s, .int .u8 ↑((⟨#[60]⟩ : ByteArray)[0]'(by decide)).toNat] w fun e w' => e = .returned (.int .i64 q) ∧ w = w' := by
  refine (Tryz.stringslite_IndexByte s _ w).mono fun e w' ⟨h1, h2⟩ => ⟨?_, h2.symm⟩
  rw [h1, ← h]
  rfl
theorem index_60 (s : ByteArray) (q : Int) (w : World) (h : Lib.indexByte s.data.toList 60 = q) :
    Calls Tryz.prog 174 #[.string s, .string ⟨#[60]⟩] w fun e w' => e = .returned (.int .i64 q) ∧ w = w' := by
  have H := Lib.hid h
  cases hq : ([60] == s.toList) with
  | true =>
    obtain rfl : (0 : Int) = q := by
      have e : s.data.toList = [60] := by
        rw [beq_iff_eq, ByteArray.toList_eq] at hq
        exact hq.symm
      rw [← h, e]
      rfl
    clear h
    go_enter Tryz.func174, Tryz.ntmps174
    go_wp2_with fail
    go_ret
    exact ⟨rfl, rfl⟩
  | false =>
    clear h
    go_enter Tryz.func174, Tryz.ntmps174
    go_wp2_with (first
      | (go_at_call 203; (with_reducible refine (ib_60 s q w H.out).mono ?_); rintro e w1 ⟨rfl, rfl⟩)
      | fail)
    go_ret
    exact ⟨rfl, rfl⟩
theorem slcut_no_38 (s : ByteArray) (w : World) (h : Lib.indexByte s.data.toList 38 = -1) :
    Calls Tryz.prog 129 #[.string s, .string ⟨#[38]⟩] w (CutAt s ⟨#[]⟩ false w) := by
  have H := Lib.hid h
  clear h
  go_enter Tryz.func129, Tryz.ntmps129
  go_wp2_with (first
    | (go_at_call 174; (with_reducible refine (index_38 s (-1) w H.out).mono ?_); rintro e w1 ⟨rfl, rfl⟩)
    | fail)
  go_ret3
  exact ⟨rfl, Below.refl _ _⟩
theorem slcut_yes_38 (s p r : ByteArray) (i j n : Nat) (w : World) (hm : s.size ≤ 1000000) (h : Lib.indexByte s.data.toList 38 = (i : Int)) (hi : i < s.size) (hj : i + 1 = j) (hn : s.size = n) (hp : s.extract 0 i = p) (hr : s.extract j n = r) :
    Calls Tryz.prog 129 #[.string s, .string ⟨#[38]⟩] w (CutAt p r true w) := by
  have H := Lib.hid h
  have b1 : (0 : Int) ≤ (i : Int) ∧ (i : Int) ≤ (s.size : Int) := by omega
  have b2 : (0 : Int) ≤ (j : Int) ∧ (j : Int) ≤ (s.size : Int) := by omega
  have s1 : IntKind.i64.wrap ((i : Int) + 1) = (j : Int) := by rw [IntWalk.i64_in _ (by omega)]; omega
  have d1 : decide ((0 : Int) ≤ (i : Int)) = true := by simp
  rw [← hn] at hr
  clear h hm hi hj hn
  go_enter Tryz.func129, Tryz.ntmps129
  go_wp2_with (first
    | (go_at_call 174; (with_reducible refine (index_38 s (i : Int) w H.out).mono ?_); rintro e w1 ⟨rfl, rfl⟩)
    | fail)
  go_region
  go_wp2_with fail
  go_ret3
  exact ⟨rfl, (show Below w.heap.size w w.drew from ⟨rfl, rfl, rfl, Nat.le_refl _, fun _ _ => rfl⟩)⟩
theorem cut_no_38 (s : ByteArray) (w : World) (h : Lib.indexByte s.data.toList 38 = -1) :
    Calls Tryz.prog 95 #[.string s, .string ⟨#[38]⟩] w (CutAt s ⟨#[]⟩ false w) := by
  have H := Lib.hid h
  clear h
  go_enter Tryz.func95, Tryz.ntmps95
  go_wp2_with (first
    | (go_at_call 129; (with_reducible refine (slcut_no_38 s w H.out).mono ?_); rintro e w1 ⟨rfl, hb1⟩)
    | fail)
  go_ret3
  exact ⟨rfl, hb1⟩
theorem cut_yes_38 (s p r : ByteArray) (i j n : Nat) (w : World) (hm : s.size ≤ 1000000) (h : Lib.indexByte s.data.toList 38 = (i : Int)) (hi : i < s.size) (hj : i + 1 = j) (hn : s.size = n) (hp : s.extract 0 i = p) (hr : s.extract j n = r) :
    Calls Tryz.prog 95 #[.string s, .string ⟨#[38]⟩] w (CutAt p r true w) := by
  have H : Hid (Calls Tryz.prog 129 #[.string s, .string ⟨#[38]⟩] w (CutAt p r true w)) := slcut_yes_38 s p r i j n w hm h hi hj hn hp hr
  clear hm h hi hj hn hp hr
  go_enter Tryz.func95, Tryz.ntmps95
  go_wp2_with (first
    | (go_at_call 129; (with_reducible refine (H.out).mono ?_); rintro e w1 ⟨rfl, hb1⟩)
    | fail)
  go_ret3
  exact ⟨rfl, hb1⟩
theorem slcut_no_59 (s : ByteArray) (w : World) (h : Lib.indexByte s.data.toList 59 = -1) :
    Calls Tryz.prog 129 #[.string s, .string ⟨#[59]⟩] w (CutAt s ⟨#[]⟩ false w) := by
  have H := Lib.hid h
  clear h
  go_enter Tryz.func129, Tryz.ntmps129
  go_wp2_with (first
    | (go_at_call 174; (with_reducible refine (index_59 s (-1) w H.out).mono ?_); rintro e w1 ⟨rfl, rfl⟩)
    | fail)
  go_ret3
  exact ⟨rfl, Below.refl _ _⟩
theorem slcut_yes_59 (s p r : ByteArray) (i j n : Nat) (w : World) (hm : s.size ≤ 1000000) (h : Lib.indexByte s.data.toList 59 = (i : Int)) (hi : i < s.size) (hj : i + 1 = j) (hn : s.size = n) (hp : s.extract 0 i = p) (hr : s.extract j n = r) :
    Calls Tryz.prog 129 #[.string s, .string ⟨#[59]⟩] w (CutAt p r true w) := by
  have H := Lib.hid h
  have b1 : (0 : Int) ≤ (i : Int) ∧ (i : Int) ≤ (s.size : Int) := by omega
  have b2 : (0 : Int) ≤ (j : Int) ∧ (j : Int) ≤ (s.size : Int) := by omega
  have s1 : IntKind.i64.wrap ((i : Int) + 1) = (j : Int) := by rw [IntWalk.i64_in _ (by omega)]; omega
  have d1 : decide ((0 : Int) ≤ (i : Int)) = true := by simp
  rw [← hn] at hr
  clear h hm hi hj hn
  go_enter Tryz.func129, Tryz.ntmps129
  go_wp2_with (first
    | (go_at_call 174; (with_reducible refine (index_59 s (i : Int) w H.out).mono ?_); rintro e w1 ⟨rfl, rfl⟩)
    | fail)
  go_region
  go_wp2_with fail
  go_ret3
  exact ⟨rfl, (show Below w.heap.size w w.drew from ⟨rfl, rfl, rfl, Nat.le_refl _, fun _ _ => rfl⟩)⟩
theorem cut_no_59 (s : ByteArray) (w : World) (h : Lib.indexByte s.data.toList 59 = -1) :
    Calls Tryz.prog 95 #[.string s, .string ⟨#[59]⟩] w (CutAt s ⟨#[]⟩ false w) := by
  have H := Lib.hid h
  clear h
  go_enter Tryz.func95, Tryz.ntmps95
  go_wp2_with (first
    | (go_at_call 129; (with_reducible refine (slcut_no_59 s w H.out).mono ?_); rintro e w1 ⟨rfl, hb1⟩)
    | fail)
  go_ret3
  exact ⟨rfl, hb1⟩
theorem cut_yes_59 (s p r : ByteArray) (i j n : Nat) (w : World) (hm : s.size ≤ 1000000) (h : Lib.indexByte s.data.toList 59 = (i : Int)) (hi : i < s.size) (hj : i + 1 = j) (hn : s.size = n) (hp : s.extract 0 i = p) (hr : s.extract j n = r) :
    Calls Tryz.prog 95 #[.string s, .string ⟨#[59]⟩] w (CutAt p r true w) := by
  have H : Hid (Calls Tryz.prog 129 #[.string s, .string ⟨#[59]⟩] w (CutAt p r true w)) := slcut_yes_59 s p r i j n w hm h hi hj hn hp hr
  clear hm h hi hj hn hp hr
  go_enter Tryz.func95, Tryz.ntmps95
  go_wp2_with (first
    | (go_at_call 129; (with_reducible refine (H.out).mono ?_); rintro e w1 ⟨rfl, hb1⟩)
    | fail)
  go_ret3
  exact ⟨rfl, hb1⟩
theorem sindex_60 (s : ByteArray) (q : Int) (w : World) (h : Lib.indexByte s.data.toList 60 = q) :
    Calls Tryz.prog 130 #[.string s, .string ⟨#[60]⟩] w fun e w' => e = .returned (.int .i64 q) ∧ w = w' := by
  have H := Lib.hid h
  clear h
  go_enter Tryz.func130, Tryz.ntmps130
  go_wp2_with (first
    | (go_at_call 174; (with_reducible refine (index_60 s q w H.out).mono ?_); rintro e w1 ⟨rfl, rfl⟩)
    | fail)
  go_ret
  exact ⟨rfl, rfl⟩
theorem has_60 (s : ByteArray) (b : Bool) (w : World) (h : decide ((60 : UInt8) ∈ s.data.toList) = b) :
    Calls Tryz.prog 98 #[.string s, .string ⟨#[60]⟩] w fun e w' => e = .returned (.bool b) ∧ w = w' := by
  obtain ⟨q, hq⟩ : ∃ q, Lib.indexByte s.data.toList 60 = q := ⟨_, rfl⟩
  have hb : decide ((0 : Int) ≤ q) = b := by
    rw [← h]
    rcases ix_cases s.data.toList 60 with ⟨h1, h2⟩ | ⟨i, h1, h2, h3, h4⟩
    · have h0 : ¬ (0 : Int) ≤ q := by omega
      rw [decide_eq_false h2, decide_eq_false h0]
    · have h0 : (0 : Int) ≤ q := by omega
      have hin : (60 : UInt8) ∈ s.data.toList := by rw [h3]; simp
      rw [decide_eq_true hin, decide_eq_true h0]
  have H := Lib.hid hq
  clear hq h
  go_enter Tryz.func98, Tryz.ntmps98
  go_wp2_with (first
    | (go_at_call 130; (with_reducible refine (sindex_60 s q w H.out).mono ?_); rintro e w1 ⟨rfl, rfl⟩)
    | fail)
  go_ret
  exact ⟨rfl, rfl⟩
theorem rdz_one (w : World) (n : Int) (T : TypeId) : RdZ (w.alloc (.cells #[.int .i64 n] T)) (w.alloc (.cells #[.int .i64 n] T)).heap.size (some ⟨w.heap.size, 0, none⟩) [n] := by
  intro _
  refine ⟨w.heap.size, 0, rfl, by simp, fun k hk => ?_⟩
  have : k = 0 := by simpa using hk
  subst this
  simp [encZ]
theorem ref8 (M G : Nat) (s t : ByteArray) (e : Int) (w : World) (hm : s.size ≤ 1000000) (hr : Rdr M G w) (hE : Ev w) (h : refR s.data.toList = (t, e)) :
    Calls Tryz.prog 223 #[RdV M G, .string s] w fun e' w' => e' = .returned (.tuple #[.string t, .int .i64 e]) ∧ Below w.heap.size w w' := by
  obtain ⟨a, b, hp⟩ : ∃ a b, ptR s.data.toList = (a, b) := ⟨_, _, rfl⟩
  have HB : Hid (∀ o, Below w.heap.size w (w.alloc o)) := Lib.hid fun o => (Below.refl _ _).alloc (Nat.le_refl _) o
  have HEv : Hid (∀ W, Below w.heap.size w W → Ev W) := Lib.hid fun W hW => hE.to hW
  have HR : Hid (∀ W, Below w.heap.size w W → Rdr M G W) := Lib.hid fun W hW => hr.to hW
  have HM := Lib.hid hm
  rcases ref_steps _ a b hp with ⟨h0, h1⟩ | ⟨rfl, n, rfl, h1⟩
  · rw [h1] at h
    obtain ⟨rfl, rfl⟩ : (⟨#[]⟩ : ByteArray) = t ∧ (80 : Int) = e := by cases h; exact ⟨rfl, rfl⟩
    have HP := Lib.hid hp
    have d0 : (b == 0) = false := by simpa using h0
    have d1 : (b != 0) = true := by simpa using h0
    clear h h1 hp hr hE hm
    unfold RdV
    go_enter Tryz.func223, Tryz.ntmps223
    go_wp2_with (first
      | (go_at_call 247; refine (point8 M G s a b _ HM.out (HR.out _ (HB.out _)) (HEv.out _ (HB.out _)) HP.out).mono ?_; rintro e1 w1 ⟨rfl, hb1⟩)
      | fail)
    go_ret2
    exact ⟨rfl, bel_in (HB.out _) hb1 (HB.out _).size⟩
  · rw [h1] at h
    have HP := Lib.hid hp
    have hL := ofR_one n
    unfold numA at h
    by_cases hmay : may (n : Int) = true
    · rw [if_pos hmay] at h hL
      rw [h] at hL
      obtain ⟨-, rfl⟩ : True ∧ (0 : Int) = e := by cases h; exact ⟨trivial, rfl⟩
      have HL := Lib.hid hL
      clear h h1 hp hr hE hm hL hmay
      unfold RdV
      go_enter Tryz.func223, Tryz.ntmps223
      go_wp2_with (first
        | (go_at_call 247; refine (point8 M G s (n : Int) 0 _ HM.out (HR.out _ (HB.out _)) (HEv.out _ (HB.out _)) HP.out).mono ?_; rintro e1 w1 ⟨rfl, hb1⟩)
        | (go_at_call 248; refine (of5 (some ⟨w1.heap.size, 0, none⟩) 1 1 [(n : Int)] _ (rdz_one w1 (n : Int) _) rfl (by decide) _ _ HL.out).mono ?_; rintro e2 w2 ⟨rfl, hb2⟩)
        | fail)
      go_ret2
      refine ⟨rfl, bel_in ((bel_in (HB.out _) hb1 (HB.out _).size).alloc ?_ _) hb2 ?_⟩
      · exact (bel_in (HB.out _) hb1 (HB.out _).size).size
      · exact ((bel_in (HB.out _) hb1 (HB.out _).size).alloc (bel_in (HB.out _) hb1 (HB.out _).size).size _).size
    · rw [if_neg hmay] at h hL
      obtain ⟨rfl, rfl⟩ : (⟨#[]⟩ : ByteArray) = t ∧ (80 : Int) = e := by cases h; exact ⟨rfl, rfl⟩
      have HL := Lib.hid hL
      clear h h1 hp hr hE hm hL hmay
      unfold RdV
      go_enter Tryz.func223, Tryz.ntmps223
      go_wp2_with (first
        | (go_at_call 247; refine (point8 M G s (n : Int) 0 _ HM.out (HR.out _ (HB.out _)) (HEv.out _ (HB.out _)) HP.out).mono ?_; rintro e1 w1 ⟨rfl, hb1⟩)
        | (go_at_call 248; refine (of5 (some ⟨w1.heap.size, 0, none⟩) 1 1 [(n : Int)] _ (rdz_one w1 (n : Int) _) rfl (by decide) _ _ HL.out).mono ?_; rintro e2 w2 ⟨rfl, hb2⟩)
        | fail)
      go_ret2
      refine ⟨rfl, bel_in ((bel_in (HB.out _) hb1 (HB.out _).size).alloc ?_ _) hb2 ?_⟩
      · exact (bel_in (HB.out _) hb1 (HB.out _).size).size
      · exact ((bel_in (HB.out _) hb1 (HB.out _).size).alloc (bel_in (HB.out _) hb1 (HB.out _).size).size _).size
theorem rd_self (p : List UInt8) (h : ∀ x ∈ p, x ≠ 60 ∧ x ≠ 38) : rd p = some p := by
  induction p with
  | nil => rfl
  | cons c p ih =>
    have hc := h c (by simp)
    rw [rd_byte c p hc.1 hc.2, ih (fun x hx => h x (by simp [hx]))]
    rfl
theorem rd_plain (p r : List UInt8) (h : ∀ x ∈ p, x ≠ 60 ∧ x ≠ 38) : rd (p ++ r) = (rd r).map (p ++ ·) := rd_append p r p (rd_self p h)
theorem dg_no60 (n : Nat) : (60 : UInt8) ∉ dg n := dg_not n 60 (by decide)
theorem hexV_no60 {l : List UInt8} {n : Nat} (h : hexV l = some n) : (60 : UInt8) ∉ l := by
  intro hm
  obtain ⟨k, hk⟩ := List.mem_iff_getElem?.1 hm
  have h0 : hxv 60 = none := by decide
  unfold hexV at h
  split at h
  · cases h
  · rw [hexF_stop hk h0] at h; cases h
theorem numL_no60 {l : List UInt8} {n : Nat} (h : numL l = some n) : (60 : UInt8) ∉ l := by
  by_cases hd : l.head? = some 120
  · cases l with
    | nil => cases hd
    | cons c r =>
      cases hd
      rw [numL_x] at h
      rw [Option.filter_eq_some_iff] at h
      intro hm
      rcases List.mem_cons.1 hm with e | e
      · cases e
      · exact hexV_no60 h.1 e
  · rw [numL_d hd, Option.filter_eq_some_iff] at h
    rw [((readN_iff l n).1 h.1).1]
    exact dg_no60 n
theorem meantL_no60 {l y : List UInt8} (h : meantL l = some y) : (60 : UInt8) ∉ l := by
  unfold meantL at h
  split at h
  · rename_i e; subst e; decide
  split at h
  · rename_i e; subst e; decide
  split at h
  · rename_i e; subst e; decide
  split at h
  · rename_i e; subst e; decide
  split at h
  · rename_i e; subst e; decide
  split at h
  · rename_i r _ _ _ _ _
    rw [Option.map_eq_some_iff] at h
    obtain ⟨n, hn, _⟩ := h
    intro hm
    rcases List.mem_cons.1 hm with e | e
    · cases e
    · exact numL_no60 hn e
  · cases h
theorem rd_lt : ∀ (n : Nat) (l : List UInt8), l.length ≤ n → (60 : UInt8) ∈ l → rd l = none
  | _, [], _, h => by simp at h
  | 0, c :: l, hn, _ => by simp at hn
  | n + 1, c :: l, hn, h => by
    simp only [List.length_cons] at hn
    by_cases h60 : c = 60
    · rw [h60]; exact rd_bad l
    · have hl : (60 : UInt8) ∈ l := (List.mem_cons.1 h).resolve_left (fun e => h60 e.symm)
      by_cases h38 : c = 38
      · subst h38
        rw [rd_amp]
        cases hs : semi l with
        | none => rfl
        | some p =>
          obtain ⟨x, t⟩ := p
          obtain ⟨e, hx⟩ := semi_some l x t hs
          simp only
          cases hm : meantL x with
          | none => rfl
          | some y =>
            simp only
            have ht : (60 : UInt8) ∈ t := by
              rw [e] at hl
              rcases List.mem_append.1 hl with q | q
              · exact absurd q (meantL_no60 hm)
              · rcases List.mem_cons.1 q with q | q
                · cases q
                · exact q
            have hlen := congrArg List.length e
            simp only [List.length_append, List.length_cons] at hlen
            rw [rd_lt n t (by omega) ht]
            rfl
      · rw [rd_byte c l h60 h38, rd_lt n l (by omega) hl]
        rfl
def repR (l : List UInt8) : ByteArray × Int := match rd l with | some y => (⟨y.toArray⟩, 0) | none => (⟨#[]⟩, 80)
theorem ext_take (s : ByteArray) (i : Nat) : (s.extract 0 i).data.toList = s.data.toList.take i := by rw [extract_mid8]; simp
theorem ext_drop (s : ByteArray) (j : Nat) : (s.extract j s.size).data.toList = s.data.toList.drop j := by
  rw [extract_mid8]
  show (s.data.toList.drop j).take (s.size - j) = _
  exact List.take_of_length_le (by rw [List.length_drop, ba_len5]; exact Nat.le_refl _)
theorem repR_none {l : List UInt8} (h : rd l = none) : repR l = (⟨#[]⟩, 80) := by unfold repR; rw [h]
theorem repR_some {l y : List UInt8} (h : rd l = some y) : repR l = (⟨y.toArray⟩, 0) := by unfold repR; rw [h]
theorem refR_none {l : List UInt8} {t : ByteArray} {e : Int} (h : refR l = (t, e)) : (e = 0 ∧ meantL l = some t.data.toList) ∨ (e = 80 ∧ meantL l = none) := by
  unfold refR at h
  cases hm : meantL l with
  | none => rw [hm] at h; cases h; exact .inr ⟨rfl, rfl⟩
  | some y => rw [hm] at h; cases h; exact .inl ⟨rfl, rfl⟩
theorem rep8 (M G : Nat) (s t : ByteArray) (e : Int) (w : World) (hm : s.size ≤ 1000000) (h60 : (60 : UInt8) ∉ s.data.toList) (hr : Rdr M G w) (hE : Ev w) (h : repR s.data.toList = (t, e)) :
    Calls Tryz.prog 221 #[.string s, .func (.func 223) #[RdV M G] #[]] w fun e' w' => e' = .returned (.tuple #[.string t, .int .i64 e]) ∧ Below w.heap.size w w' := by
  have HEv : Hid (∀ W, Below w.heap.size w W → Ev W) := Lib.hid fun W hW => hE.to hW
  have HR : Hid (∀ W, Below w.heap.size w W → Rdr M G W) := Lib.hid fun W hW => hr.to hW
  have HH := Lib.hid h
  have H60 := Lib.hid h60
  have HSM := Lib.hid hm
  clear hr hE h h60 hm
  unfold RdV
  go_enter Tryz.func221, Tryz.ntmps221
  go_wp2_with fail
  go_loopg [0, 7, 8, 9, 10, 11, 12, 13, 14] s.size (fun gg vs v7 v8 v9 v10 v11 v12 v13 v14 wr => ∃ (x : ByteArray) (l : List UInt8), vs = .string x ∧ gg = x.size ∧ Hid (rd s.data.toList = (rd x.data.toList).map (l ++ ·)) ∧ l.length + 4 * x.size ≤ 4000000 ∧ x.size ≤ 1000000 ∧ Hid ((60 : UInt8) ∉ x.data.toList) ∧ Bld w.heap.size w.heap.size l wr ∧ Below w.heap.size w wr)
  case atStart => exact ⟨s, [], rfl, rfl, Lib.hid (by cases rd s.data.toList <;> simp), by have := HSM.out; simp; omega, HSM.out, H60, bld_new w, (Below.refl _ _).alloc (Nat.le_refl _) _⟩
  case round =>
    obtain ⟨x, l, rfl, rfl, hrd, hlen, hxm, hx60, hbl, hbw⟩ := hrel
    have HBL := Lib.hid hbl
    have HBW := Lib.hid hbw
    have HL := Lib.hid hlen
    have HXM := Lib.hid hxm
    have hsz := hbw.size
    have hxl : x.data.toList.length = x.size := ba_len5 x
    clear hbl hbw
    rcases ix_cases x.data.toList 38 with ⟨hi, hno⟩ | ⟨i, hi, hil, hsp, hno⟩
    · -- no reference any more
      have hself : rd x.data.toList = some x.data.toList := rd_self _ (fun c hc => ⟨fun q => hx60.out (q ▸ hc), fun q => hno (q ▸ hc)⟩)
      have hall : rd s.data.toList = some (l ++ x.data.toList) := by rw [hrd.out, hself]; rfl
      obtain ⟨y, hy⟩ : ∃ y : ByteArray, (⟨(l ++ x.data.toList).toArray⟩ : ByteArray) = y := ⟨_, rfl⟩
      have hyl : y.data.toList = l ++ x.data.toList := by rw [← hy]
      have hh := HH.out
      rw [repR_some hall, hy] at hh
      obtain ⟨rfl, rfl⟩ : y = t ∧ (0 : Int) = e := by cases hh; exact ⟨rfl, rfl⟩
      have HI := Lib.hid hi
      have HYL := Lib.hid hyl
      clear hi hno hself hall hy hyl hh hlen hxl hxm HH
      go_wp2_with (first
        | (go_at_call 95; (with_reducible refine (cut_no_38 x wr HI.out).mono ?_); rintro e1 w1 ⟨rfl, hb1⟩; have HB1 := Lib.hid hb1; have HBL1 : Hid (Bld w.heap.size w.heap.size l w1) := Lib.hid (HBL.out.below hb1); clear hb1)
        | (go_at_call 184; (with_reducible refine (bws w.heap.size w.heap.size l x w1 HBL1.out (by have := HL.out; omega) (bel_in HBW.out HB1.out hsz).size).mono ?_); rintro e2 w2 ⟨rfl, hbl2, hb2⟩; have HB2 := Lib.hid hb2; have HBL2 : Hid (Bld w.heap.size w.heap.size y.data.toList w2) := Lib.hid (by rw [HYL.out]; exact hbl2); clear hb2 hbl2)
        | (go_at_call 150; (with_reducible refine (bst w.heap.size w.heap.size y w2 HBL2.out (bel_in (bel_in HBW.out HB1.out hsz) HB2.out (Nat.le_refl _)).size).mono ?_); rintro e3 w3 ⟨rfl, hbl3, hb3⟩)
        | fail)
      go_ret2
      exact ⟨rfl, bel_in (bel_in (bel_in HBW.out HB1.out hsz) HB2.out (Nat.le_refl _)) hb3 (Nat.le_refl _)⟩
    · obtain ⟨p, hp⟩ : ∃ p, x.extract 0 i = p := ⟨_, rfl⟩
      obtain ⟨bh, hbh⟩ : ∃ bh, x.extract (i + 1) x.size = bh := ⟨_, rfl⟩
      have hpl : p.data.toList = x.data.toList.take i := by rw [← hp]; exact ext_take _ _
      have hbl' : bh.data.toList = x.data.toList.drop (i + 1) := by rw [← hbh]; exact ext_drop _ _
      have hps : p.size + bh.size + 1 = x.size := by
        rw [← ba_len5 p, ← ba_len5 bh, hpl, hbl', List.length_take, List.length_drop]
        omega
      have hdec : rd x.data.toList = (rd (38 :: bh.data.toList)).map (p.data.toList ++ ·) := by
        conv => lhs; rw [hsp]
        rw [← hbl', ← hpl]
        refine rd_plain _ _ fun c hc => ⟨fun q => hx60.out ?_, fun q => hno ?_⟩
        · rw [hpl] at hc; rw [← q]; exact List.mem_of_mem_take hc
        · rw [hpl] at hc; rw [← q]; exact hc
      have hb60 : (60 : UInt8) ∉ bh.data.toList := fun q => hx60.out (by rw [hbl'] at q; exact List.mem_of_mem_drop q)
      have CU : Hid (Calls Tryz.prog 95 #[.string x, .string ⟨#[38]⟩] wr (CutAt p bh true wr)) := cut_yes_38 x p bh i (i + 1) x.size wr hxm hi (by omega) rfl rfl hp hbh
      clear hi hno hp hbh hpl hbl' hsp hil hxl
      rcases ix_cases bh.data.toList 59 with ⟨hj, hno2⟩ | ⟨j, hj, hjl, hsp2, hno2⟩
      · -- no semicolon
        have hall : rd s.data.toList = none := by rw [hrd.out, hdec, rd_amp, semi_none _ hno2]; rfl
        have hh := HH.out
        rw [repR_none hall] at hh
        obtain ⟨rfl, rfl⟩ : (⟨#[]⟩ : ByteArray) = t ∧ (80 : Int) = e := by cases hh; exact ⟨rfl, rfl⟩
        have HJ := Lib.hid hj
        clear hj hno2 hall hh HH hdec hb60
        go_wp2_with (first
          | (go_at_call 95; (with_reducible refine (CU.out).mono ?_); rintro e1 w1 ⟨rfl, hb1⟩; have HB1 := Lib.hid hb1; have HBL1 : Hid (Bld w.heap.size w.heap.size l w1) := Lib.hid (HBL.out.below hb1); clear hb1)
          | (go_at_call 184; (with_reducible refine (bws w.heap.size w.heap.size l p w1 HBL1.out (by have := HL.out; omega) (bel_in HBW.out HB1.out hsz).size).mono ?_); rintro e2 w2 ⟨rfl, hbl2, hb2⟩; have HB2 := Lib.hid hb2; clear hb2 hbl2)
          | (go_at_call 95; (with_reducible refine (cut_no_59 bh w2 HJ.out).mono ?_); rintro e3 w3 ⟨rfl, hb3⟩; have HB3 := Lib.hid hb3; clear hb3)
          | fail)
        go_ret2
        exact ⟨rfl, bel_in (bel_in (bel_in HBW.out HB1.out hsz) HB2.out (Nat.le_refl _)) HB3.out (bel_in (bel_in HBW.out HB1.out hsz) HB2.out (Nat.le_refl _)).size⟩
      · obtain ⟨nm, hnm⟩ : ∃ nm, bh.extract 0 j = nm := ⟨_, rfl⟩
        obtain ⟨rs, hrs⟩ : ∃ rs, bh.extract (j + 1) bh.size = rs := ⟨_, rfl⟩
        have hnl : nm.data.toList = bh.data.toList.take j := by rw [← hnm]; exact ext_take _ _
        have hrl : rs.data.toList = bh.data.toList.drop (j + 1) := by rw [← hrs]; exact ext_drop _ _
        have hbs := ba_len5 bh
        have hns : nm.size + rs.size + 1 = bh.size := by
          rw [← ba_len5 nm, ← ba_len5 rs, hnl, hrl, List.length_take, List.length_drop]
          omega
        have hsem : semi bh.data.toList = some (nm.data.toList, rs.data.toList) := by
          rw [hnl, hrl]
          conv => lhs; rw [hsp2]
          exact semi_of _ _ hno2
        have hr60 : (60 : UInt8) ∉ rs.data.toList := fun q => hb60 (by rw [hrl] at q; exact List.mem_of_mem_drop q)
        have CV : Hid (∀ W, Calls Tryz.prog 95 #[.string bh, .string ⟨#[59]⟩] W (CutAt nm rs true W)) := fun W => cut_yes_59 bh nm rs j (j + 1) bh.size W (by omega) hj (by omega) rfl rfl hnm hrs
        obtain ⟨tp, er, hre⟩ : ∃ tp er, refR nm.data.toList = (tp, er) := ⟨_, _, rfl⟩
        have HRE := Lib.hid hre
        have HNM : Hid (nm.size ≤ 1000000) := Lib.hid (by omega)
        have CRF : Hid (∀ W, Below w.heap.size w W → Calls Tryz.prog 223 #[.agg #[.map (some M), .slice (some ⟨G, 0, none⟩) 2 2], .string nm] W fun e' w' => e' = .returned (.tuple #[.string tp, .int .i64 er]) ∧ Below W.heap.size W w') := Lib.hid fun W hW => ref8 M G nm tp er W HNM.out (HR.out _ hW) (HEv.out _ hW) hre
        clear hj hno2 hnm hrs hnl hrl hsp2 hjl hb60 hbs
        rcases refR_none hre with ⟨rfl, hme⟩ | ⟨rfl, hme⟩
        · -- the reference is one
          have hrd2 : Hid (rd s.data.toList = (rd rs.data.toList).map ((l ++ p.data.toList ++ tp.data.toList) ++ ·)) := by
            show _ = _
            rw [hrd.out, hdec, rd_amp, hsem]
            simp only [hme, Option.map_map]
            cases rd rs.data.toList with
            | none => rfl
            | some y => simp
          have hty := meantL_len hme
          have htp : tp.size ≤ 4 := by rw [← ba_len5 tp]; exact hty
          have HTP := Lib.hid htp
          have HR60 := Lib.hid hr60
          have hLL := HL.out
          have HPS := Lib.hid hps
          have HNS := Lib.hid hns
          clear hme hre hsem hdec hty hr60
          go_wp2_with (first
            | (go_at_call 95; (with_reducible refine (CU.out).mono ?_); rintro e1 w1 ⟨rfl, hb1⟩; have HB1 := Lib.hid hb1; have HBL1 : Hid (Bld w.heap.size w.heap.size l w1) := Lib.hid (HBL.out.below hb1); clear hb1)
            | (go_at_call 184; (with_reducible refine (bws w.heap.size w.heap.size l p w1 HBL1.out (by have := HL.out; omega) (bel_in HBW.out HB1.out hsz).size).mono ?_); rintro e2 w2 ⟨rfl, hbl2, hb2⟩; have HB2 : Hid (Below w.heap.size w w2) := Lib.hid (bel_in (bel_in HBW.out HB1.out hsz) hb2 (Nat.le_refl _)); have HBL2 := Lib.hid hbl2; clear hb2 hbl2)
            | (go_at_call 95; (with_reducible refine (CV.out w2).mono ?_); rintro e3 w3 ⟨rfl, hb3⟩; have HB3 : Hid (Below w.heap.size w w3) := Lib.hid (bel_in HB2.out hb3 HB2.out.size); have HBL3 : Hid (Bld w.heap.size w.heap.size (l ++ p.data.toList) w3) := Lib.hid (HBL2.out.below hb3); clear hb3)
            | (go_at_call 223; (with_reducible refine (CRF.out w3 HB3.out).mono ?_); rintro e4 w4 ⟨rfl, hb4⟩; have HB4 : Hid (Below w.heap.size w w4) := Lib.hid (bel_in HB3.out hb4 HB3.out.size); have HBL4 : Hid (Bld w.heap.size w.heap.size (l ++ p.data.toList) w4) := Lib.hid (HBL3.out.below hb4); clear hb4)
            | (go_at_call 184; (with_reducible refine (bws w.heap.size w.heap.size (l ++ p.data.toList) tp w4 HBL4.out (by rw [List.length_append, ba_len5]; omega) HB4.out.size).mono ?_); rintro e5 w5 ⟨rfl, hbl5, hb5⟩; have HB5 : Hid (Below w.heap.size w w5) := Lib.hid (bel_in HB4.out hb5 (Nat.le_refl _)); have HBL5 := Lib.hid hbl5; clear hb5 hbl5)
            | fail)
          go_roundg rs.size
          case rel =>
            refine ⟨rs, l ++ p.data.toList ++ tp.data.toList, rfl, rfl, hrd2, ?_, by omega, HR60, HBL5.out, HB5.out⟩
            rw [List.length_append, List.length_append, ba_len5, ba_len5]
            omega
          case measure => omega
        · -- it is none
          have hall : rd s.data.toList = none := by
            rw [hrd.out, hdec, rd_amp, hsem]
            simp only [hme]
            rfl
          have hh := HH.out
          rw [repR_none hall] at hh
          obtain ⟨rfl, rfl⟩ : (⟨#[]⟩ : ByteArray) = t ∧ (80 : Int) = e := by cases hh; exact ⟨rfl, rfl⟩
          have hLL := HL.out
          clear hme hre hsem hdec hall hh HH hr60
          go_wp2_with (first
            | (go_at_call 95; (with_reducible refine (CU.out).mono ?_); rintro e1 w1 ⟨rfl, hb1⟩; have HB1 := Lib.hid hb1; have HBL1 : Hid (Bld w.heap.size w.heap.size l w1) := Lib.hid (HBL.out.below hb1); clear hb1)
            | (go_at_call 184; (with_reducible refine (bws w.heap.size w.heap.size l p w1 HBL1.out (by have := HL.out; omega) (bel_in HBW.out HB1.out hsz).size).mono ?_); rintro e2 w2 ⟨rfl, hbl2, hb2⟩; have HB2 : Hid (Below w.heap.size w w2) := Lib.hid (bel_in (bel_in HBW.out HB1.out hsz) hb2 (Nat.le_refl _)); clear hb2 hbl2)
            | (go_at_call 95; (with_reducible refine (CV.out w2).mono ?_); rintro e3 w3 ⟨rfl, hb3⟩; have HB3 : Hid (Below w.heap.size w w3) := Lib.hid (bel_in HB2.out hb3 HB2.out.size); clear hb3)
            | (go_at_call 223; (with_reducible refine (CRF.out w3 HB3.out).mono ?_); rintro e4 w4 ⟨rfl, hb4⟩; have HB4 : Hid (Below w.heap.size w w4) := Lib.hid (bel_in HB3.out hb4 HB3.out.size); clear hb4)
            | fail)
          go_ret2
          exact ⟨rfl, HB4.out⟩
theorem get8 (s t : ByteArray) (e : Int) (w : World) (hm : s.size ≤ 1000000) (h : getR s = (t, e)) (hE : Ev w := by first | assumption | exact Ev.to (by assumption) (by assumption)) :
    Calls Tryz.prog 198 #[.string s] w fun e' w' => e' = .returned (.tuple #[.string t, .int .i64 e]) ∧ Below w.heap.size w w' := by
  have hmf : ∀ (fn : Fn) (first cap : Array Value) (w : World), (Instr.makeFunc fn first cap).run Tryz.prog w = .ok (.func fn first cap) w := fun _ _ _ _ => rfl
  have HM := Lib.hid hm
  have HE := Lib.hid hE
  unfold getR at h
  by_cases h0 : chkE s = 0
  · rw [if_neg (by simpa using h0)] at h
    have HC := Lib.hid h0
    have hrep : repR s.data.toList = (t, e) := h
    by_cases h60 : (60 : UInt8) ∈ s.data.toList
    · rw [repR_none (rd_lt _ _ (Nat.le_refl _) h60)] at hrep
      obtain ⟨rfl, rfl⟩ : (⟨#[]⟩ : ByteArray) = t ∧ (80 : Int) = e := by cases hrep; exact ⟨rfl, rfl⟩
      have H6 : Hid (decide ((60 : UInt8) ∈ s.data.toList) = true) := Lib.hid (decide_eq_true h60)
      clear h h0 hrep h60 hm hE
      go_enter Tryz.func198, Tryz.ntmps198
      go_wp2_with (first
        | (go_at_call 44; (with_reducible refine (check5 s w HM.out 0 HC.out).mono ?_); rintro e1 w1 ⟨rfl, hb1⟩)
        | (go_at_call 98; (with_reducible refine (has_60 s true w1 H6.out).mono ?_); rintro e2 w2 ⟨rfl, rfl⟩)
        | fail)
      go_ret2
      exact ⟨rfl, hb1⟩
    · have H6 : Hid (decide ((60 : UInt8) ∈ s.data.toList) = false) := Lib.hid (decide_eq_false h60)
      have CR : Hid (∀ M G W, Rdr M G W → Ev W → Calls Tryz.prog 221 #[.string s, .func (.func 223) #[RdV M G] #[]] W fun e' w' => e' = .returned (.tuple #[.string t, .int .i64 e]) ∧ Below W.heap.size W w') := Lib.hid fun M G W h1 h2 => rep8 M G s t e W hm h60 h1 h2 hrep
      have hw : IntKind.i64.wrap e = e := by
        have : e = 0 ∨ e = 80 := by
          unfold repR at hrep
          split at hrep <;> cases hrep
          · exact .inl rfl
          · exact .inr rfl
        rcases this with rfl | rfl <;> rfl
      clear h h0 hrep h60 hm hE
      go_enter Tryz.func198, Tryz.ntmps198
      go_wp2_with (first
        | (go_at_call 44; (with_reducible refine (check5 s w HM.out 0 HC.out).mono ?_); rintro e1 w1 ⟨rfl, hb1⟩)
        | (go_at_call 98; (with_reducible refine (has_60 s false w1 H6.out).mono ?_); rintro e2 w2 ⟨rfl, rfl⟩)
        | (go_at_call 222; (with_reducible refine (reader8 w1).mono ?_); rintro e3 w3 ⟨M, G, rfl, hrd3, hb3⟩; have HRD := Lib.hid hrd3; have HB3 : Hid (Below w.heap.size w w3) := Lib.hid (bel_in hb1 hb3 hb1.size); clear hrd3 hb3)
        | (go_at_call 221; (with_reducible refine (CR.out M G w3 HRD.out (HE.out.to HB3.out)).mono ?_); rintro e4 w4 ⟨rfl, hb4⟩)
        | fail)
      go_ret2
      exact ⟨rfl, bel_in HB3.out hb4 HB3.out.size⟩
  · rw [if_pos h0] at h
    obtain ⟨rfl, he⟩ : (⟨#[]⟩ : ByteArray) = t ∧ chkE s = e := by cases h; exact ⟨rfl, rfl⟩
    have q0 : (e == 0) = false := by rw [← he]; simpa using h0
    have q1 : (e != 0) = true := by rw [← he]; simpa using h0
    have HC := Lib.hid he
    clear h h0 hm he hE
    go_enter Tryz.func198, Tryz.ntmps198
    go_wp2_with (first
      | (go_at_call 44; (with_reducible refine (check5 s w HM.out e HC.out).mono ?_); rintro e1 w1 ⟨rfl, hb1⟩)
      | fail)
    go_ret2
    exact ⟨rfl, hb1⟩
end Hx
end Go.Proofs.YtioiifdcgdoanaaGreatDoor
namespace Go.Proofs.YtioiifdcgdoanaaGreatDoor
open Go.RowKit
namespace Hx
open Lx Tx Nmb Es
set_option maxRecDepth 100000
set_option maxHeartbeats 16000000
set_option linter.unusedVariables false
def Rd (b : Nat) (s : ByteArray) (w : World) : Prop := w.heap[b]? = some (.cells #[.string s] 146 (0, 0))
theorem Rd.lt {b : Nat} {s : ByteArray} {w : World} (h : Rd b s w) : b < w.heap.size := (Array.getElem?_eq_some_iff.1 h).1
theorem Rd.cell {b : Nat} {s : ByteArray} {w : World} (h : Rd b s w) : w.cell? ⟨b, 0, none⟩ = some (.string s) := by
  unfold Rd at h
  simp [World.cell?, h]
theorem Rd.free {b : Nat} {s : ByteArray} {w : World} (h : Rd b s w) : w.frozen? ⟨b, 0, none⟩ = false := by
  unfold Rd at h
  simp [World.frozen?, h]
theorem Rd.set {b : Nat} {s : ByteArray} {w : World} (h : Rd b s w) (t : ByteArray) : Rd b t (w.setCell ⟨b, 0, none⟩ (.string t)) := by
  unfold Rd at h ⊢
  simp [World.setCell, Array.getElem?_modify, h]
theorem Rd.grown {b : Nat} {s : ByteArray} {w w' : World} {row : Option Nat} (h : Rd b s w) (hg : w.grownBy w' row) (hne : some b ≠ row) : Rd b s w' := (hg.block b h.lt hne).trans h
theorem Rd.below {b : Nat} {s : ByteArray} {w w' : World} (h : Rd b s w) (hb : Below w.heap.size w w') : Rd b s w' := (hb.block b h.lt).trans h
theorem grown_below {w w' : World} (h : Below w.heap.size w w') (row : Option Nat) : w.grownBy w' row := ⟨h.os, h.tape, h.output, h.size, fun k hk _ => h.block k hk⟩
theorem grown_set (w : World) (b : Nat) (v : Value) : w.grownBy (w.setCell ⟨b, 0, none⟩ v) (some b) := ⟨rfl, rfl, rfl, by simp [World.setCell], fun k _ hne => Below.heap_setCell _ _ _ _ (fun e => hne (by rw [e]))⟩
theorem below_grown {w w' : World} {b n : Nat} (h : w.grownBy w' (some b)) (hn : n ≤ b) (hs : b < w.heap.size) : Below n w w' := ⟨h.os, h.tape, h.output, h.size, fun k hk => h.block k (by omega) (fun e => by injection e; omega)⟩
structure Went (b : Nat) (t : ByteArray) (w w' : World) : Prop where
  rd : Rd b t w'
  gr : w.grownBy w' (some b)
theorem Went.trans {b : Nat} {s t : ByteArray} {w w1 w2 : World} (h : Went b s w w1) (k : Went b t w1 w2) : Went b t w w2 := ⟨k.rd, h.gr.trans k.gr⟩
theorem Went.after {b : Nat} {t : ByteArray} {w w1 w2 : World} (h : Below w.heap.size w w1) (k : Went b t w1 w2) : Went b t w w2 := ⟨k.rd, (grown_below h _).trans k.gr⟩
theorem Went.then {b : Nat} {t : ByteArray} {w w1 w2 : World} (h : Went b t w w1) (k : Below w1.heap.size w1 w2) : Went b t w w2 := ⟨h.rd.below k, h.gr.trans (grown_below k _)⟩
theorem Went.refl {b : Nat} {t : ByteArray} {w : World} (h : Rd b t w) : Went b t w w := ⟨h, World.grownBy.refl _ _⟩
def Thrown (er : Int) : Ending := .panicked [{ v := .iface 30 (.int .i64 er), recovered := false }]
theorem take9 (b : Nat) (s t p : ByteArray) (is : Bool) (w : World) (h : Rd b s w) (h1 : Lib.hasPrefix s.data.toList p.data.toList = is) (h2 : Lib.trimPrefix s.data.toList p.data.toList = t.data.toList) :
    Calls Tryz.prog 160 #[.pointer (some ⟨b, 0, none⟩), .string p] w fun e w' => e = .returned (.bool is) ∧ Went b t w w' := by
  have HC : Hid (Calls Tryz.prog 192 #[.string s, .string p] w fun e w' => e = .returned (.tuple #[.string t, .bool is]) ∧ w = w') := Lib.hid ((Tryz.strings_CutPrefix s p w).mono fun e w' ⟨k1, k2⟩ => ⟨by rw [k1, h1, h2], k2.symm⟩)
  have hc := h.cell
  have hf := h.free
  have HR := Lib.hid h
  clear h h1 h2
  go_enter Tryz.func160, Tryz.ntmps160
  go_wp2_with (first
    | (go_at_call 192; (with_reducible refine (HC.out).mono ?_); rintro e1 w1 ⟨rfl, rfl⟩)
    | fail)
  go_ret
  exact ⟨rfl, HR.out.set _, grown_set _ _ _⟩
theorem ba_mk (l : List UInt8) : (⟨l.toArray⟩ : ByteArray).data.toList = l := by simp
theorem cut_parts (q : UInt8) (l : List UInt8) : (q ∉ l ∧ l.takeWhile (ne q) = l) ∨ ∃ y, l = l.takeWhile (ne q) ++ q :: y ∧ q ∉ l.takeWhile (ne q) := by
  obtain ⟨h1, h2, h3⟩ := tw_split (ne q) l
  have hn : q ∉ l.takeWhile (ne q) := fun hx => (ne_iff q q).1 (h2 _ hx) rfl
  cases hd : l.dropWhile (ne q) with
  | nil =>
    rw [hd, List.append_nil] at h1
    exact .inl ⟨by rw [h1]; exact hn, h1.symm⟩
  | cons d y =>
    have hdq : d = q := by have := h3 d y hd; unfold ne at this; simpa using this
    subst hdq
    rw [hd] at h1
    exact .inr ⟨y, h1, hn⟩
theorem clone9 (s : ByteArray) (w : World) (h0 : s.size ≤ 1000000) :
    Calls Tryz.prog 88 #[.string s] w fun e w' => e = .returned (.string s) ∧ Below w.heap.size w w' := by
  have H0 : Hid (s.size ≤ 281474976710656) := Lib.hid (by omega)
  clear h0
  go_enter Tryz.func88, Tryz.ntmps88
  go_wp2_with (go_at_call 125; (with_reducible refine (Tryz.stringslite_Clone s w H0.out).mono ?_); rintro e w1 ⟨rfl, hb1⟩)
  go_ret
  exact ⟨rfl, hb1⟩
theorem pre_yes (p t : List UInt8) : Lib.hasPrefix (p ++ t) p = true ∧ Lib.trimPrefix (p ++ t) p = t := by
  refine ⟨?_, ?_⟩
  · simp [Lib.hasPrefix]
  · simp [Lib.trimPrefix, Lib.hasPrefix]
theorem pre_no {l p : List UInt8} (h : ¬ p <+: l) : Lib.hasPrefix l p = false ∧ Lib.trimPrefix l p = l := by
  have h1 : Lib.hasPrefix l p = false := by
    cases hb : Lib.hasPrefix l p with
    | false => rfl
    | true => exact absurd (by simpa [Lib.hasPrefix] using hb) h
  exact ⟨h1, by simp [Lib.trimPrefix, h1]⟩
theorem take_yes (b : Nat) (s t p : ByteArray) (w : World) (h : Rd b s w) (h1 : s.data.toList = p.data.toList ++ t.data.toList) :
    Calls Tryz.prog 160 #[.pointer (some ⟨b, 0, none⟩), .string p] w fun e w' => e = .returned (.bool true) ∧ Went b t w w' :=
  take9 b s t p true w h (by rw [h1]; exact (pre_yes _ _).1) (by rw [h1]; exact (pre_yes _ _).2)
theorem take_no (b : Nat) (s p : ByteArray) (w : World) (h : Rd b s w) (h1 : ¬ p.data.toList <+: s.data.toList) :
    Calls Tryz.prog 160 #[.pointer (some ⟨b, 0, none⟩), .string p] w fun e w' => e = .returned (.bool false) ∧ Went b s w w' :=
  take9 b s s p false w h (pre_no h1).1 (pre_no h1).2
theorem must_yes (b : Nat) (s t p : ByteArray) (w : World) (h : Rd b s w) (h1 : s.data.toList = p.data.toList ++ t.data.toList) :
    Calls Tryz.prog 195 #[.pointer (some ⟨b, 0, none⟩), .string p] w fun e w' => e = .returned (.tuple #[]) ∧ Went b t w w' := by
  have HC := Lib.hid (take_yes b s t p w h h1)
  clear h h1
  go_enter Tryz.func195, Tryz.ntmps195
  go_wp2_with (first
    | (go_at_call 160; (with_reducible refine (HC.out).mono ?_); rintro e1 w1 ⟨rfl, hw1⟩)
    | fail)
  go_end0
  exact ⟨rfl, hw1⟩
theorem must_no (b : Nat) (s p : ByteArray) (w : World) (h : Rd b s w) (h1 : ¬ p.data.toList <+: s.data.toList) :
    Calls Tryz.prog 195 #[.pointer (some ⟨b, 0, none⟩), .string p] w fun e w' => e = Thrown 80 ∧ Went b s w w' := by
  have HC := Lib.hid (take_no b s p w h h1)
  unfold Thrown
  clear h h1
  go_enter Tryz.func195, Tryz.ntmps195
  go_wp2_with (first
    | (go_at_call 160; (with_reducible refine (HC.out).mono ?_); rintro e1 w1 ⟨rfl, hw1⟩)
    | fail)
  exact ⟨rfl, rfl, hw1⟩
theorem until_60 (b : Nat) (s t u : ByteArray) (w : World) (h : Rd b s w) (hm : s.size ≤ 1000000) (ht : t.data.toList = s.data.toList.takeWhile (ne 60)) (hu : u.data.toList = s.data.toList.dropWhile (ne 60)) :
    Calls Tryz.prog 164 #[.pointer (some ⟨b, 0, none⟩), .string ⟨#[60]⟩] w fun e w' => e = .returned (.string t) ∧ Went b u w w' := by
  obtain ⟨h1, h2, h3⟩ := tw_split (ne 60) s.data.toList
  have hc := h.cell
  have hf := h.free
  have HR := Lib.hid h
  have hl := congrArg List.length h1
  rw [List.length_append, ← ht, ← hu, ba_l, ba_l, ba_l] at hl
  have HC : Hid (∃ (r : ByteArray) (f : Bool), Calls Tryz.prog 95 #[.string s, .string ⟨#[60]⟩] w (XCutAt t r f w)) := Lib.hid (by
    rcases cut_parts 60 s.data.toList with ⟨k1, k2⟩ | ⟨y, k1, k2⟩
    · have e : t = s := ba_x (ht.trans k2)
      exact ⟨⟨#[]⟩, false, by rw [e]; exact xcut_60_none s w k1⟩
    · exact ⟨⟨y.toArray⟩, true, xcut_60_some s t ⟨y.toArray⟩ w hm (by rw [ht, ba_mk]; exact k1) (by rw [ht]; exact k2)⟩)
  obtain ⟨k, hk⟩ : ∃ k, t.size = k := ⟨_, rfl⟩
  have hex : s.extract k s.size = u := ba_x (by
    rw [extract_l s k s.size (Nat.le_refl _), hu, ← (tw_len (ne 60) s.data.toList).1, ← ht, ba_l, hk, List.take_of_length_le (by rw [List.length_drop, ba_l]; omega)])
  have bk : (0 : Int) ≤ (k : Int) ∧ (k : Int) ≤ (s.size : Int) := by omega
  obtain ⟨r, f, hcut⟩ := HC.out
  have HCUT := Lib.hid hcut
  clear h hm ht hu h1 h2 h3 hl hcut HC
  go_enter Tryz.func164, Tryz.ntmps164
  go_wp2_with (first
    | (go_at_call 95; (with_reducible refine (HCUT.out).mono ?_); rintro e1 w1 ⟨rfl, hb1⟩; have HR1 := Lib.hid (HR.out.below hb1); have hc1 := HR1.out.cell; have hf1 := HR1.out.free)
    | fail)
  go_ret
  exact ⟨rfl, Went.after hb1 ⟨HR1.out.set _, grown_set _ _ _⟩⟩
theorem until_34 (b : Nat) (s t u : ByteArray) (w : World) (h : Rd b s w) (hm : s.size ≤ 1000000) (ht : t.data.toList = s.data.toList.takeWhile (ne 34)) (hu : u.data.toList = s.data.toList.dropWhile (ne 34)) :
    Calls Tryz.prog 164 #[.pointer (some ⟨b, 0, none⟩), .string ⟨#[34]⟩] w fun e w' => e = .returned (.string t) ∧ Went b u w w' := by
  obtain ⟨h1, h2, h3⟩ := tw_split (ne 34) s.data.toList
  have hc := h.cell
  have hf := h.free
  have HR := Lib.hid h
  have hl := congrArg List.length h1
  rw [List.length_append, ← ht, ← hu, ba_l, ba_l, ba_l] at hl
  have HC : Hid (∃ (r : ByteArray) (f : Bool), Calls Tryz.prog 95 #[.string s, .string ⟨#[34]⟩] w (XCutAt t r f w)) := Lib.hid (by
    rcases cut_parts 34 s.data.toList with ⟨k1, k2⟩ | ⟨y, k1, k2⟩
    · have e : t = s := ba_x (ht.trans k2)
      exact ⟨⟨#[]⟩, false, by rw [e]; exact xcut_34_none s w k1⟩
    · exact ⟨⟨y.toArray⟩, true, xcut_34_some s t ⟨y.toArray⟩ w hm (by rw [ht, ba_mk]; exact k1) (by rw [ht]; exact k2)⟩)
  obtain ⟨k, hk⟩ : ∃ k, t.size = k := ⟨_, rfl⟩
  have hex : s.extract k s.size = u := ba_x (by
    rw [extract_l s k s.size (Nat.le_refl _), hu, ← (tw_len (ne 34) s.data.toList).1, ← ht, ba_l, hk, List.take_of_length_le (by rw [List.length_drop, ba_l]; omega)])
  have bk : (0 : Int) ≤ (k : Int) ∧ (k : Int) ≤ (s.size : Int) := by omega
  obtain ⟨r, f, hcut⟩ := HC.out
  have HCUT := Lib.hid hcut
  clear h hm ht hu h1 h2 h3 hl hcut HC
  go_enter Tryz.func164, Tryz.ntmps164
  go_wp2_with (first
    | (go_at_call 95; (with_reducible refine (HCUT.out).mono ?_); rintro e1 w1 ⟨rfl, hb1⟩; have HR1 := Lib.hid (HR.out.below hb1); have hc1 := HR1.out.cell; have hf1 := HR1.out.free)
    | fail)
  go_ret
  exact ⟨rfl, Went.after hb1 ⟨HR1.out.set _, grown_set _ _ _⟩⟩
theorem until_39 (b : Nat) (s t u : ByteArray) (w : World) (h : Rd b s w) (hm : s.size ≤ 1000000) (ht : t.data.toList = s.data.toList.takeWhile (ne 39)) (hu : u.data.toList = s.data.toList.dropWhile (ne 39)) :
    Calls Tryz.prog 164 #[.pointer (some ⟨b, 0, none⟩), .string ⟨#[39]⟩] w fun e w' => e = .returned (.string t) ∧ Went b u w w' := by
  obtain ⟨h1, h2, h3⟩ := tw_split (ne 39) s.data.toList
  have hc := h.cell
  have hf := h.free
  have HR := Lib.hid h
  have hl := congrArg List.length h1
  rw [List.length_append, ← ht, ← hu, ba_l, ba_l, ba_l] at hl
  have HC : Hid (∃ (r : ByteArray) (f : Bool), Calls Tryz.prog 95 #[.string s, .string ⟨#[39]⟩] w (XCutAt t r f w)) := Lib.hid (by
    rcases cut_parts 39 s.data.toList with ⟨k1, k2⟩ | ⟨y, k1, k2⟩
    · have e : t = s := ba_x (ht.trans k2)
      exact ⟨⟨#[]⟩, false, by rw [e]; exact xcut_39_none s w k1⟩
    · exact ⟨⟨y.toArray⟩, true, xcut_39_some s t ⟨y.toArray⟩ w hm (by rw [ht, ba_mk]; exact k1) (by rw [ht]; exact k2)⟩)
  obtain ⟨k, hk⟩ : ∃ k, t.size = k := ⟨_, rfl⟩
  have hex : s.extract k s.size = u := ba_x (by
    rw [extract_l s k s.size (Nat.le_refl _), hu, ← (tw_len (ne 39) s.data.toList).1, ← ht, ba_l, hk, List.take_of_length_le (by rw [List.length_drop, ba_l]; omega)])
  have bk : (0 : Int) ≤ (k : Int) ∧ (k : Int) ≤ (s.size : Int) := by omega
  obtain ⟨r, f, hcut⟩ := HC.out
  have HCUT := Lib.hid hcut
  clear h hm ht hu h1 h2 h3 hl hcut HC
  go_enter Tryz.func164, Tryz.ntmps164
  go_wp2_with (first
    | (go_at_call 95; (with_reducible refine (HCUT.out).mono ?_); rintro e1 w1 ⟨rfl, hb1⟩; have HR1 := Lib.hid (HR.out.below hb1); have hc1 := HR1.out.cell; have hf1 := HR1.out.free)
    | fail)
  go_ret
  exact ⟨rfl, Went.after hb1 ⟨HR1.out.set _, grown_set _ _ _⟩⟩
theorem tw_at (p : UInt8 → Bool) : ∀ {l : List UInt8} {k : Nat}, k ≤ l.length → (∀ c ∈ l.take k, p c = true) → (∀ h : k < l.length, p (l[k]'h) = false) → l.takeWhile p = l.take k ∧ l.dropWhile p = l.drop k := by
  intro l k hk h1 h2
  have := tw_app (p := p) (a := l.take k) (b := l.drop k) h1 (fun c r e => by
    have hlt : k < l.length := by
      rcases Nat.lt_or_ge k l.length with h | h
      · exact h
      · rw [List.drop_of_length_le h] at e; cases e
    rw [List.drop_eq_getElem_cons hlt] at e
    injection e with e _
    rw [← e]
    exact h2 hlt)
  rwa [List.take_append_drop] at this
theorem all_step9 (p : UInt8 → Bool) {l : List UInt8} {k : Nat} (hk : k < l.length) (h : ∀ c ∈ l.take k, p c = true) (h1 : p (l[k]'hk) = true) : ∀ c ∈ l.take (k + 1), p c = true := by
  intro c hc
  rw [List.take_succ_eq_append_getElem hk, List.mem_append, List.mem_singleton] at hc
  rcases hc with hc | rfl
  · exact h c hc
  · exact h1
theorem word1 (c : UInt8) (w : World) (q : Bool) (h : wch c = q) :
    Calls Tryz.prog 217 #[.int .u8 c.toNat] w fun e w' => e = .returned (.bool q) ∧ w = w' := by
  unfold wch at h
  by_cases h58 : c = 58
  · subst h58
    obtain rfl : true = q := by rw [← h]; decide
    clear h
    go_enter Tryz.func217, Tryz.ntmps217
    go_wp2_with fail
    go_ret
    exact ⟨rfl, rfl⟩
  · have h2 : nch c = q := by rw [← h, (by simpa using h58 : (c == 58) = false), Bool.or_false]
    have HN := Lib.hid h2
    have g58 : ((c.toNat : Int) == 58) = false := by
      have : c.toNat ≠ 58 := fun e => h58 (UInt8.toNat_inj.1 e)
      simp; omega
    clear h h2 h58
    cases q with
    | false =>
      go_enter Tryz.func217, Tryz.ntmps217
      go_wp2_with (first
        | (go_at_call 67; (with_reducible refine (goesOn9 c _ false HN.out).mono ?_); rintro e1 w1 ⟨rfl, rfl⟩)
        | fail)
      go_ret
      exact ⟨rfl, rfl⟩
    | true =>
      go_enter Tryz.func217, Tryz.ntmps217
      go_wp2_with (first
        | (go_at_call 67; (with_reducible refine (goesOn9 c _ true HN.out).mono ?_); rintro e1 w1 ⟨rfl, rfl⟩)
        | fail)
      go_ret
      exact ⟨rfl, rfl⟩
theorem blk_index (c : UInt8) : ∃ j : Int, Lib.indexByte [32, 9, 10, 13] c = j ∧ decide ((0 : Int) ≤ j) = blk c := by
  refine ⟨_, rfl, ?_⟩
  rcases xix_cases [32, 9, 10, 13] c with ⟨h1, h2⟩ | ⟨i, h1, _, h2, _⟩
  · rw [h1]
    simp only [List.mem_cons, List.not_mem_nil, or_false, not_or] at h2
    unfold blk
    simp [h2.1, h2.2.1, h2.2.2.1, h2.2.2.2]
  · rw [h1]
    have hm : c ∈ ([32, 9, 10, 13] : List UInt8) := by rw [h2]; simp
    simp only [List.mem_cons, List.not_mem_nil, or_false] at hm
    have : blk c = true := by rcases hm with rfl | rfl | rfl | rfl <;> decide
    rw [this]
    exact decide_eq_true (by omega)
theorem blank1 (c : UInt8) (w : World) (q : Bool) (h : blk c = q) :
    Calls Tryz.prog 218 #[.int .u8 c.toNat] w fun e w' => e = .returned (.bool q) ∧ w = w' := by
  obtain ⟨j, hj, hd⟩ := blk_index c
  rw [h] at hd
  have HC : Hid (Calls Tryz.prog 203 #[.string ⟨#[32, 9, 10, 13]⟩, .int .u8 c.toNat] w fun e w' => e = .returned (.int .i64 j) ∧ w = w') := Lib.hid ((Tryz.stringslite_IndexByte ⟨#[32, 9, 10, 13]⟩ _ w).mono fun e w' ⟨k1, k2⟩ => ⟨by rw [k1, ← hj]; simp, k2.symm⟩)
  clear h hj
  go_enter Tryz.func218, Tryz.ntmps218
  go_wp2_with (first
    | (go_at_call 203; (with_reducible refine (HC.out).mono ?_); rintro e1 w1 ⟨rfl, rfl⟩)
    | go_in)
  go_ret
  first
    | exact ⟨rfl, rfl⟩
    | exact ⟨ret_b hd, rfl⟩
theorem while_word (b : Nat) (s t u : ByteArray) (w : World) (h : Rd b s w) (hm : s.size ≤ 1000000) (ht : t.data.toList = s.data.toList.takeWhile wch) (hu : u.data.toList = s.data.toList.dropWhile wch) :
    Calls Tryz.prog 216 #[.pointer (some ⟨b, 0, none⟩), .func (.func 217) #[] #[]] w fun e w' => e = .returned (.string t) ∧ Went b u w w' := by
  have hc := h.cell
  have hf := h.free
  have HR := Lib.hid h
  have HM := Lib.hid hm
  have HEND : Hid (∀ k, k ≤ s.size → (∀ c ∈ s.data.toList.take k, wch c = true) → (∀ h : k < s.data.toList.length, wch (s.data.toList[k]'h) = false) → s.extract 0 k = t ∧ s.extract k s.size = u) := Lib.hid fun k hk h1 h2 => by
    obtain ⟨e1, e2⟩ := tw_at wch (by rw [ba_l]; exact hk) h1 h2
    refine ⟨ba_x ?_, ba_x ?_⟩
    · rw [extract_l s 0 k hk, ht, e1, List.drop_zero, Nat.sub_zero]
    · rw [extract_l s k s.size (Nat.le_refl _), hu, e2, List.take_of_length_le (by rw [List.length_drop, ba_l]; omega)]
  clear h ht hu hm
  go_enter Tryz.func216, Tryz.ntmps216
  go_wp2_with fail
  go_loopw [5] (fun i wr => ∃ k : Nat, k ≤ s.size ∧ i = .int .i64 k ∧ (∀ c ∈ s.data.toList.take k, wch c = true) ∧ w = wr) (fun i _ => s.size - (intOf i).toNat)
  case atStart => exact ⟨0, Nat.zero_le _, rfl, by simp, by first | rfl | trivial⟩
  case round =>
    obtain ⟨k, hk, rfl, hn, rfl⟩ := hrel
    have hs := HM.out
    by_cases hlt : k < s.size
    · obtain ⟨d, hd⟩ : ∃ d, s[k]'hlt = d := ⟨_, rfl⟩
      have hda : ∀ h, s[k]'h = d := fun _ => hd
      have hkl : k < s.data.toList.length := by rw [ba_l]; exact hlt
      have hdk : s.data.toList[k]'hkl = d := (at_l s k hlt).trans hd
      have bk : (0 : Int) ≤ (k : Int) ∧ (k : Int) < (s.size : Int) := by omega
      have bk2 : (0 : Int) ≤ (k : Int) ∧ (k : Int) ≤ (s.size : Int) := by omega
      cases hg : wch d with
      | false =>
        have HD := Lib.hid hg
        obtain ⟨e1, e2⟩ := HEND.out k hk hn (fun _ => by rw [hdk]; exact hg)
        clear hg hd hdk hn
        go_wp2_with (first
          | (go_at_call 217; (with_reducible refine (word1 d _ false HD.out).mono ?_); rintro e1 w1 ⟨rfl, rfl⟩)
          | fail)
        go_ret
        exact ⟨rfl, HR.out.set _, grown_set _ _ _⟩
      | true =>
        have HD := Lib.hid hg
        have HV := Lib.hid (all_step9 wch hkl hn (by rw [hdk]; exact hg))
        clear hg hd hdk hn
        go_wp2_with (first
          | (go_at_call 217; (with_reducible refine (word1 d _ true HD.out).mono ?_); rintro e1 w1 ⟨rfl, rfl⟩)
          | fail)
        go_roundw
        case rel => exact ⟨k + 1, hlt, by go_num, HV.out, by first | rfl | trivial⟩
        case measure => simp [intOf]; omega
    · obtain rfl : k = s.size := by omega
      obtain ⟨e1, e2⟩ := HEND.out s.size (Nat.le_refl _) hn (fun h => by rw [ba_l] at h; omega)
      obtain rfl : s = t := by rw [← e1]; exact (ba_x (by rw [extract_l s 0 s.size (Nat.le_refl _), List.drop_zero, Nat.sub_zero, List.take_of_length_le (by rw [ba_l]; exact Nat.le_refl _)])).symm
      obtain rfl : ByteArray.empty = u := by rw [← e2]; exact (ba_x (by rw [extract_l s s.size s.size (Nat.le_refl _), List.drop_of_length_le (by rw [ba_l]; exact Nat.le_refl _), List.take_nil]; rfl)).symm
      clear e1 e2
      have bk2 : (0 : Int) ≤ (s.size : Int) ∧ (s.size : Int) ≤ (s.size : Int) := by omega
      clear hn
      go_wp2_with fail
      go_ret
      exact ⟨rfl, HR.out.set _, grown_set _ _ _⟩
theorem while_blank (b : Nat) (s t u : ByteArray) (w : World) (h : Rd b s w) (hm : s.size ≤ 1000000) (ht : t.data.toList = s.data.toList.takeWhile blk) (hu : u.data.toList = s.data.toList.dropWhile blk) :
    Calls Tryz.prog 216 #[.pointer (some ⟨b, 0, none⟩), .func (.func 218) #[] #[]] w fun e w' => e = .returned (.string t) ∧ Went b u w w' := by
  have hc := h.cell
  have hf := h.free
  have HR := Lib.hid h
  have HM := Lib.hid hm
  have HEND : Hid (∀ k, k ≤ s.size → (∀ c ∈ s.data.toList.take k, blk c = true) → (∀ h : k < s.data.toList.length, blk (s.data.toList[k]'h) = false) → s.extract 0 k = t ∧ s.extract k s.size = u) := Lib.hid fun k hk h1 h2 => by
    obtain ⟨e1, e2⟩ := tw_at blk (by rw [ba_l]; exact hk) h1 h2
    refine ⟨ba_x ?_, ba_x ?_⟩
    · rw [extract_l s 0 k hk, ht, e1, List.drop_zero, Nat.sub_zero]
    · rw [extract_l s k s.size (Nat.le_refl _), hu, e2, List.take_of_length_le (by rw [List.length_drop, ba_l]; omega)]
  clear h ht hu hm
  go_enter Tryz.func216, Tryz.ntmps216
  go_wp2_with fail
  go_loopw [5] (fun i wr => ∃ k : Nat, k ≤ s.size ∧ i = .int .i64 k ∧ (∀ c ∈ s.data.toList.take k, blk c = true) ∧ w = wr) (fun i _ => s.size - (intOf i).toNat)
  case atStart => exact ⟨0, Nat.zero_le _, rfl, by simp, by first | rfl | trivial⟩
  case round =>
    obtain ⟨k, hk, rfl, hn, rfl⟩ := hrel
    have hs := HM.out
    by_cases hlt : k < s.size
    · obtain ⟨d, hd⟩ : ∃ d, s[k]'hlt = d := ⟨_, rfl⟩
      have hda : ∀ h, s[k]'h = d := fun _ => hd
      have hkl : k < s.data.toList.length := by rw [ba_l]; exact hlt
      have hdk : s.data.toList[k]'hkl = d := (at_l s k hlt).trans hd
      have bk : (0 : Int) ≤ (k : Int) ∧ (k : Int) < (s.size : Int) := by omega
      have bk2 : (0 : Int) ≤ (k : Int) ∧ (k : Int) ≤ (s.size : Int) := by omega
      cases hg : blk d with
      | false =>
        have HD := Lib.hid hg
        obtain ⟨e1, e2⟩ := HEND.out k hk hn (fun _ => by rw [hdk]; exact hg)
        clear hg hd hdk hn
        go_wp2_with (first
          | (go_at_call 218; (with_reducible refine (blank1 d _ false HD.out).mono ?_); rintro e1 w1 ⟨rfl, rfl⟩)
          | fail)
        go_ret
        exact ⟨rfl, HR.out.set _, grown_set _ _ _⟩
      | true =>
        have HD := Lib.hid hg
        have HV := Lib.hid (all_step9 blk hkl hn (by rw [hdk]; exact hg))
        clear hg hd hdk hn
        go_wp2_with (first
          | (go_at_call 218; (with_reducible refine (blank1 d _ true HD.out).mono ?_); rintro e1 w1 ⟨rfl, rfl⟩)
          | fail)
        go_roundw
        case rel => exact ⟨k + 1, hlt, by go_num, HV.out, by first | rfl | trivial⟩
        case measure => simp [intOf]; omega
    · obtain rfl : k = s.size := by omega
      obtain ⟨e1, e2⟩ := HEND.out s.size (Nat.le_refl _) hn (fun h => by rw [ba_l] at h; omega)
      obtain rfl : s = t := by rw [← e1]; exact (ba_x (by rw [extract_l s 0 s.size (Nat.le_refl _), List.drop_zero, Nat.sub_zero, List.take_of_length_le (by rw [ba_l]; exact Nat.le_refl _)])).symm
      obtain rfl : ByteArray.empty = u := by rw [← e2]; exact (ba_x (by rw [extract_l s s.size s.size (Nat.le_refl _), List.drop_of_length_le (by rw [ba_l]; exact Nat.le_refl _), List.take_nil]; rfl)).symm
      clear e1 e2
      have bk2 : (0 : Int) ≤ (s.size : Int) ∧ (s.size : Int) ≤ (s.size : Int) := by omega
      clear hn
      go_wp2_with fail
      go_ret
      exact ⟨rfl, HR.out.set _, grown_set _ _ _⟩
theorem blank9 (b : Nat) (s u : ByteArray) (q : Bool) (w : World) (h : Rd b s w) (hm : s.size ≤ 1000000) (hu : u.data.toList = s.data.toList.dropWhile blk) (hq : decide (s.size ≠ u.size) = q) :
    Calls Tryz.prog 194 #[.pointer (some ⟨b, 0, none⟩)] w fun e w' => e = .returned (.bool q) ∧ Went b u w w' := by
  obtain ⟨t, ht⟩ : ∃ t : ByteArray, t.data.toList = s.data.toList.takeWhile blk := ⟨⟨(s.data.toList.takeWhile blk).toArray⟩, by simp⟩
  have HC := Lib.hid (while_blank b s t u w h hm ht hu)
  have hl := congrArg List.length (tw_split blk s.data.toList).1
  rw [List.length_append, ← ht, ← hu, ba_l, ba_l, ba_l] at hl
  have hem : t.toList.isEmpty = !q := by
    rw [empty_l, ← hq]
    by_cases h0 : t.size = 0
    · rw [decide_eq_true h0, decide_eq_false (by omega)]; rfl
    · rw [decide_eq_false h0, decide_eq_true (by omega)]; rfl
  clear h hm hu hq ht hl
  cases q with
  | false =>
    go_enter Tryz.func194, Tryz.ntmps194
    go_wp2_with (first
      | (go_at_call 216; (with_reducible refine (HC.out).mono ?_); rintro e1 w1 ⟨rfl, hw1⟩)
      | fail)
    go_ret
    exact ⟨rfl, hw1⟩
  | true =>
    go_enter Tryz.func194, Tryz.ntmps194
    go_wp2_with (first
      | (go_at_call 216; (with_reducible refine (HC.out).mono ?_); rintro e1 w1 ⟨rfl, hw1⟩)
      | fail)
    go_ret
    exact ⟨rfl, hw1⟩
theorem blank9_ (b : Nat) (s u : ByteArray) (w : World) (h : Rd b s w) (hm : s.size ≤ 1000000) (hu : u.data.toList = s.data.toList.dropWhile blk) :
    Calls Tryz.prog 194 #[.pointer (some ⟨b, 0, none⟩)] w fun e w' => (∃ q, e = .returned (.bool q)) ∧ Went b u w w' :=
  (blank9 b s u _ w h hm hu rfl).mono fun e w' h => ⟨⟨_, h.1⟩, h.2⟩
theorem full_yes (b : Nat) (s t u : ByteArray) (w : World) (h : Rd b s w) (hm : s.size ≤ 1000000) (ht : t.data.toList = s.data.toList.takeWhile wch) (hu : u.data.toList = s.data.toList.dropWhile wch) (hf : fullL t.data.toList = true) :
    Calls Tryz.prog 193 #[.pointer (some ⟨b, 0, none⟩)] w fun e w' => e = .returned (.string t) ∧ Went b u w w' := by
  have HC := Lib.hid (while_word b s t u w h hm ht hu)
  have hl := congrArg List.length (tw_split wch s.data.toList).1
  rw [List.length_append, ← ht, ← hu, ba_l, ba_l, ba_l] at hl
  have HT : Hid (t.size ≤ 1000000) := Lib.hid (by omega)
  have HF := Lib.hid hf
  clear h hm hu ht hl hf
  go_enter Tryz.func193, Tryz.ntmps193
  go_wp2_with (first
    | (go_at_call 216; (with_reducible refine (HC.out).mono ?_); rintro e1 w1 ⟨rfl, hw1⟩; have HW1 := Lib.hid hw1; clear hw1)
    | (go_at_call 172; (with_reducible refine (full9q t _ HT.out true HF.out).mono ?_); rintro e2 w2 ⟨rfl, hb2⟩; have HW2 := Lib.hid (HW1.out.then hb2); clear hb2)
    | (go_at_call 88; (with_reducible refine (clone9 t _ HT.out).mono ?_); rintro e3 w3 ⟨rfl, hb3⟩)
    | fail)
  go_ret
  exact ⟨rfl, HW2.out.then hb3⟩
theorem full_no (b : Nat) (s : ByteArray) (w : World) (h : Rd b s w) (hm : s.size ≤ 1000000) (hf : fullL (s.data.toList.takeWhile wch) = false) :
    Calls Tryz.prog 193 #[.pointer (some ⟨b, 0, none⟩)] w fun e w' => e = Thrown 80 ∧ ∃ u, Went b u w w' := by
  obtain ⟨t, ht⟩ : ∃ t : ByteArray, t.data.toList = s.data.toList.takeWhile wch := ⟨⟨(s.data.toList.takeWhile wch).toArray⟩, by simp⟩
  obtain ⟨u, hu⟩ : ∃ u : ByteArray, u.data.toList = s.data.toList.dropWhile wch := ⟨⟨(s.data.toList.dropWhile wch).toArray⟩, by simp⟩
  rw [← ht] at hf
  have HC := Lib.hid (while_word b s t u w h hm ht hu)
  have hl := congrArg List.length (tw_split wch s.data.toList).1
  rw [List.length_append, ← ht, ← hu, ba_l, ba_l, ba_l] at hl
  have HT : Hid (t.size ≤ 1000000) := Lib.hid (by omega)
  have HF := Lib.hid hf
  unfold Thrown
  clear h hm hu ht hl hf
  go_enter Tryz.func193, Tryz.ntmps193
  go_wp2_with (first
    | (go_at_call 216; (with_reducible refine (HC.out).mono ?_); rintro e1 w1 ⟨rfl, hw1⟩; have HW1 := Lib.hid hw1; clear hw1)
    | (go_at_call 172; (with_reducible refine (full9q t _ HT.out false HF.out).mono ?_); rintro e2 w2 ⟨rfl, hb2⟩; have HW2 := Lib.hid (HW1.out.then hb2); clear hb2)
    | fail)
  exact ⟨rfl, rfl, _, HW2.out⟩
theorem getR_told {s t : ByteArray} (hp : isP s.data.toList = true) (hs : s.size ≤ 16384) (h : rd s.data.toList = some t.data.toList) : getR s = (t, 0) := by
  unfold getR
  rw [if_neg (by unfold chkE; rw [if_neg (by omega), if_pos (show (pts s.data.toList).isSome = true from hp)]; decide), h]
theorem getR_none9 {s : ByteArray} (hp : isP s.data.toList = true) (hs : s.size ≤ 16384) (h : rd s.data.toList = none) : getR s = (⟨#[]⟩, 80) := by
  unfold getR
  rw [if_neg (by unfold chkE; rw [if_neg (by omega), if_pos (show (pts s.data.toList).isSome = true from hp)]; decide), h]
theorem plain_yes (s t : ByteArray) (w : World) (hp : isP s.data.toList = true) (hs : s.size ≤ 16384) (h : rd s.data.toList = some t.data.toList) (hE : Ev w) :
    Calls Tryz.prog 163 #[.string s] w fun e w' => e = .returned (.string t) ∧ Below w.heap.size w w' := by
  have HC := Lib.hid (get8 s t 0 w (by omega) (getR_told hp hs h) hE)
  clear hp hs h hE
  go_enter Tryz.func163, Tryz.ntmps163
  go_wp2_with (first
    | (go_at_call 198; (with_reducible refine (HC.out).mono ?_); rintro e1 w1 ⟨rfl, hb1⟩)
    | fail)
  go_ret
  exact ⟨rfl, hb1⟩
theorem plain_no (s : ByteArray) (w : World) (hp : isP s.data.toList = true) (hs : s.size ≤ 16384) (h : rd s.data.toList = none) (hE : Ev w) :
    Calls Tryz.prog 163 #[.string s] w fun e w' => e = Thrown 80 ∧ Below w.heap.size w w' := by
  have HC := Lib.hid (get8 s ⟨#[]⟩ 80 w (by omega) (getR_none9 hp hs h) hE)
  unfold Thrown
  clear hp hs h hE
  go_enter Tryz.func163, Tryz.ntmps163
  go_wp2_with (first
    | (go_at_call 198; (with_reducible refine (HC.out).mono ?_); rintro e1 w1 ⟨rfl, hb1⟩)
    | fail)
  exact ⟨rfl, rfl, hb1⟩
end Hx
end Go.Proofs.YtioiifdcgdoanaaGreatDoor
