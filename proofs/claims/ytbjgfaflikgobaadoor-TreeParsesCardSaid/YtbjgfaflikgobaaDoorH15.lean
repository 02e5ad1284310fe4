/-
  Texts of one seat, put together: EscV, LeaE, PkC.
-/
import Derived.Test.YtbjgfaflikgobaaDoorH14
import Derived.Test.YtbjgfaflikgobaaDoorH10
import Derived.Test.YtbjgfaflikgobaaDoorH06
import Derived.Test.YtbjgfaflikgobaaDoorShelf
import Derived.Maps.AppendAt
import Derived.Test.YtbjgfaflikgobaaDoorH12
import Derived.Shelf.Strings.SlTrimAscii
import Derived.Deep.QuietTactic
namespace Go.Proofs.YtbjgfaflikgobaaDoor
open Go.RowKit
namespace Hx
open Tx Nmb Es
set_option linter.unusedVariables false
end Hx
end Go.Proofs.YtbjgfaflikgobaaDoor
namespace Go.Proofs.YtbjgfaflikgobaaDoor
open Go.RowKit
namespace Hx
open Lx Tx Nmb Es
set_option linter.unusedVariables false
/-- A panic with an error. -/
def Thrown (er : Int) : Ending := .panicked [{ v := .iface 28 (.int .i64 er), recovered := false }]
set_option maxRecDepth 100000 in
/-- strings.Clone. -/
theorem clone9 (s : ByteArray) (w : World) (h0 : s.size ≤ 1000000) :
    Calls Tryd.prog 29 #[.string s] w fun e w' => e = .returned (.string s) ∧ Below w.heap.size w w' := by
  have H0 : Hid (s.size ≤ 281474976710656) := Lib.hid (by omega)
  clear h0
  go_enter Tryd.func29, Tryd.ntmps29
  go_wp2_with (go_at_call 40; (with_reducible refine (Tryd.stringslite_Clone s w H0.out).mono ?_); rintro e w1 ⟨rfl, hb1⟩)
  go_ret
  exact ⟨rfl, hb1⟩
end Hx
end Go.Proofs.YtbjgfaflikgobaaDoor
namespace Go.Proofs.YtbjgfaflikgobaaDoor
open Go.RowKit
namespace Hx
open Lx Tr Tx Nmb Es
set_option linter.unusedVariables false
theorem pk_drewN (w : World) (q : Nat) : Below w.heap.size w (w.drewN q) := ⟨rfl, (Below.refl w.heap.size w).drew.tape, rfl, Nat.le_refl _, fun _ _ => rfl⟩
theorem strp_ne {a b : ByteArray} (h : ¬ a = b) : (a.toList == b.toList) = false := beq_eq_false_iff_ne.2 fun e => h (by rw [Lib.toList_data, Lib.toList_data] at e; rw [ba_eq5 a, ba_eq5 b, e])
theorem strp_some {x : ByteArray} (h : ¬ x = ⟨#[]⟩) : x.toList.isEmpty = false := by
  rw [Lib.toList_data]
  cases hx : x.data.toList with
  | nil => exact absurd (by rw [ba_eq5 x, hx]) h
  | cons _ _ => rfl
theorem StkSt.shutO {B gs base hi c m k : Nat} {L : List NB} {O : List Nat} {bb : Bool} {Vn : Value} {A : Option Addr} {wr : World} (h : StkSt B gs base hi L O bb Vn (.slice A m c) wr) (hm : O.length = m) (hk : k + 1 = m) :
    StkSt B gs base hi L O.dropLast bb Vn (.slice A k c) (wr.setCell ⟨gs, 1, none⟩ (.slice A k c)) ∧ Below B wr (wr.setCell ⟨gs, 1, none⟩ (.slice A k c)) := by
  have hlo := h.lo
  have hbz := h.gr.lo
  have hsz := h.gr.sz
  exact ⟨⟨heap_setCell_same wr gs 1 _ _ _ h.box, (h.gr.shut hm hk).keep (fun q hq _ => heap_setCell_other _ _ _ _ (by show q ≠ gs; omega)) (Nat.le_refl _) (by simp [World.setCell]; omega), h.lo⟩, (Below.refl B wr).setCell (p := ⟨gs, 1, none⟩) hlo.1 _⟩
set_option maxHeartbeats 16000000 in
set_option maxRecDepth 100000 in
theorem stkshut_none (B gs base hi : Nat) (L : List NB) (O : List Nat) (bb : Bool) (Vn Vo : Value) (u : ByteArray) (w : World) (h : StkSt B gs base hi L O bb Vn Vo w) (hl : L.length ≤ 100000) (hl2 : O.length ≤ 100000) (hO : O = []) :
    Calls Tryd.prog 17 #[.pointer (some ⟨gs, 0, none⟩), .string u] w fun e w' => e = .returned (.int .i64 80) ∧ Below w.heap.size w w' := by
  obtain ⟨Ao, co, rfl⟩ := own_form2 h.gr.op
  subst hO
  have k0 := cellV w _ 0 _ _ _ h.box
  have k1 : w.cell? ⟨gs, 1, none⟩ = some (.slice Ao 0 co) := cellV w _ 1 _ _ _ h.box
  clear h hl hl2
  go_enter Tryd.func17, Tryd.ntmps17
  go_wp2_with fail
  go_quiet (fail)
  go_wp2_with fail
  go_ret
  exact ⟨rfl, pk_drewN _ _⟩
set_option maxHeartbeats 16000000 in
set_option maxRecDepth 100000 in
theorem stkshut_some (B gs base hi : Nat) (L : List NB) (O : List Nat) (bb : Bool) (Vn Vo : Value) (u : ByteArray) (w : World) (h : StkSt B gs base hi L O bb Vn Vo w) (hl : L.length ≤ 100000) (hl2 : O.length ≤ 100000) (O1 : List Nat) (i : Nat) (hO : O = O1 ++ [i]) (hi' : i < L.length) (q : Bool) (hq : decide ((L[i]'hi').y = u) = q) :
    Calls Tryd.prog 17 #[.pointer (some ⟨gs, 0, none⟩), .string u] w fun e w' => if q = true then e = .returned (.int .i64 0) ∧ Below B w w' ∧ ∃ Vo', StkSt B gs base hi L O.dropLast bb Vn Vo' w' else e = .returned (.int .i64 80) ∧ Below w.heap.size w w' := by
  obtain ⟨Ao, co, rfl⟩ := own_form2 h.gr.op
  obtain ⟨An, cn, rfl⟩ := own_form2 h.gr.nd
  obtain ⟨n, hn⟩ : ∃ n, L.length = n := ⟨_, rfl⟩
  obtain ⟨m, hm⟩ : ∃ m, O.length = m := ⟨_, rfl⟩
  obtain ⟨k, hk⟩ : ∃ k, O1.length = k := ⟨_, rfl⟩
  have hmk : m = k + 1 := by rw [← hm, hO, List.length_append, hk]; rfl
  subst hmk
  obtain ⟨yy, hyv⟩ : ∃ yy, (L[i]'hi').y = yy := ⟨_, rfl⟩
  obtain ⟨go, _, rfl, _, _, _, hcO⟩ := ownp_row h.gr.op (by omega)
  obtain ⟨gn, curn, rfl, hgn, hgb, hgl0, hcN⟩ := ownp_row h.gr.nd (by omega)
  have hOk : O[k]? = some i := by rw [hO, List.getElem?_append_right (by omega), hk, Nat.sub_self]; rfl
  have kO := hcO k _ (zs_cell hOk)
  have kY := hcN (i * 6 + 2) _ (nb_cell2 hi')
  rw [hyv] at kY hq
  simp only [hn, hm] at h
  have hg0 := h.box
  have k0 := cellV w _ 0 _ _ _ hg0
  have k1 := cellV w _ 1 _ _ _ hg0
  have f1 := freeV w gs 1 _ _ hg0
  have bk : (0 : Int) ≤ (k : Int) ∧ (k : Int) ≤ 100000 := by omega
  have bi : (0 : Int) ≤ (i : Int) ∧ (i : Int) < (n : Int) ∧ (n : Int) ≤ 100000 := by omega
  have bkk : ¬ ((k : Int) + 1 ≤ (k : Int)) := by omega
  have bco : (k : Int) ≤ (co : Int) := by
    rcases h.gr.op.2 with ⟨e0, _⟩ | ⟨g', cap, cur, hv, _, _, h1, _⟩
    · cases e0
    · injection hv with _ _ e3
      omega
  have HST := Lib.hid h
  have HM := Lib.hid hm
  have HN := Lib.hid hn
  clear h hl hl2 hO hi' hcO hcN hgn hgb hgl0 hyv hn hm hk hOk
  cases q with
  | true =>
    have hyu : yy = u := of_decide_eq_true hq
    subst hyu
    clear hq
    go_enter Tryd.func17, Tryd.ntmps17
    go_wp2_with fail
    go_quiet (fail)
    go_wp2_with fail
    go_ret

    have hs := (HST.out.below (pk_drewN w nq) (Nat.le_refl _) HST.out.gr.sz).shutO HM.out rfl
    rw [HN.out]
    exact ⟨rfl, (Below.mono (pk_drewN w nq) (by have := HST.out.lo; have := HST.out.gr.lo; have := HST.out.gr.sz; omega)).trans hs.2, _, hs.1⟩
  | false =>
    have hyu : ¬ yy = u := of_decide_eq_false hq
    have hyt := strp_ne hyu
    clear hq
    go_enter Tryd.func17, Tryd.ntmps17
    go_wp2_with fail
    go_quiet (fail)
    go_wp2_with fail
    go_ret

    exact ⟨rfl, pk_drewN _ _⟩
theorem dropW_nil {α : Type} (p : α → Bool) : ∀ l : List α, (∀ x ∈ l.dropWhile p, p x = true) → l.dropWhile p = []
  | [], _ => rfl
  | a :: l, h => by
    by_cases hp : p a = true
    · rw [List.dropWhile_cons_of_pos hp] at h ⊢
      exact dropW_nil p l h
    · rw [List.dropWhile_cons_of_neg hp] at h
      exact absurd (h a List.mem_cons_self) hp
theorem dropW_iff {α : Type} (p : α → Bool) : ∀ l : List α, l.dropWhile p = [] ↔ ∀ x ∈ l, p x = true
  | [] => by simp
  | a :: l => by
    by_cases hp : p a = true
    · rw [List.dropWhile_cons_of_pos hp, dropW_iff p l]
      simp [hp]
    · rw [List.dropWhile_cons_of_neg hp]
      simp [hp]
theorem trimS_nil (l : List UInt8) : Lib.trimS l [32, 9, 10, 13] = [] ↔ l.all blk = true := by
  have hc : ∀ x : UInt8, List.contains [32, 9, 10, 13] x = blk x := fun x => by
    unfold blk
    simp [List.contains, List.elem, Bool.or_assoc]
    rcases (x == 32), (x == 9), (x == 10), (x == 13) with ⟨_ | _, _ | _, _ | _, _ | _⟩ <;> rfl
  unfold Lib.trimS Lib.trimLeftS Lib.trimRightS
  rw [List.all_eq_true]
  constructor
  · intro h x hx
    have h1 : ∀ x ∈ l.reverse.dropWhile (List.contains [32, 9, 10, 13] ·), List.contains [32, 9, 10, 13] x = true := fun x hx => (dropW_iff _ _).1 h x (List.mem_reverse.2 hx)
    have h2 := dropW_nil _ _ h1
    rw [← hc]
    exact (dropW_iff _ _).1 h2 x (List.mem_reverse.2 hx)
  · intro h
    have h2 : l.reverse.dropWhile (List.contains [32, 9, 10, 13] ·) = [] := (dropW_iff _ _).2 fun x hx => by rw [hc]; exact h x (List.mem_reverse.1 hx)
    rw [h2]
    rfl
theorem trim10 (u : ByteArray) (w : World) (hu : u.size ≤ 1000000) : Calls Tryd.prog 31 #[.string u, .string ⟨#[32, 9, 10, 13]⟩] w fun e w' => ∃ x : ByteArray, e = .returned (.string x) ∧ Below w.heap.size w w' ∧ (u.data.toList.all blk = true → x = ⟨#[]⟩) ∧ (u.data.toList.all blk = false → ¬ x = ⟨#[]⟩) :=
  (Any.strings_Trim_laid Tryd.lays160 (by kernel_rfl) u ⟨#[32, 9, 10, 13]⟩ w (by omega) (by decide) (ascii_of_all (by decide))).mono fun e w' h => ⟨_, h.1, h.2, fun hq => by rw [(trimS_nil _).2 hq], fun hq e => by
    have : Lib.trimS u.data.toList [32, 9, 10, 13] = [] := by
      have := congrArg (fun b : ByteArray => b.data.toList) e
      simpa using this
    rw [(trimS_nil _).1 this] at hq
    cases hq⟩
set_option maxHeartbeats 16000000 in
set_option maxRecDepth 100000 in
theorem stkwords_none (B gs base hi : Nat) (L : List NB) (O : List Nat) (bb : Bool) (Vn Vo : Value) (u : ByteArray) (w : World) (h : StkSt B gs base hi L O bb Vn Vo w) (hl : L.length ≤ 100000) (hl2 : O.length ≤ 100000) (hO : O = []) (hu : u.size ≤ 1000000) (q : Bool) (hq : u.data.toList.all blk = q) (r : Int) (hr : r = if q = true then 0 else 80) :
    Calls Tryd.prog 19 #[.pointer (some ⟨gs, 0, none⟩), .string u] w fun e w' => e = .returned (.int .i64 r) ∧ Below w.heap.size w w' := by
  obtain ⟨Ao, co, rfl⟩ := own_form2 h.gr.op
  subst hO
  have k1 : w.cell? ⟨gs, 1, none⟩ = some (.slice Ao 0 co) := cellV w _ 1 _ _ _ h.box
  have HT := Lib.hid (trim10 u w hu)
  clear h hl hl2
  cases q with
  | true =>
    obtain rfl : r = 0 := hr
    have HQ := Lib.hid hq
    clear hq
    go_enter Tryd.func19, Tryd.ntmps19
    go_wp2_with (first
      | (go_at_call 31; (with_reducible refine (HT.out).mono ?_); rintro e1 w1 ⟨x, rfl, hb1, hx1, hx2⟩; obtain rfl := hx1 HQ.out; clear hx1 hx2)
      | fail)
    go_ret
    exact ⟨rfl, hb1⟩
  | false =>
    obtain rfl : r = 80 := hr
    have HQ := Lib.hid hq
    clear hq
    go_enter Tryd.func19, Tryd.ntmps19
    go_wp2_with (first
      | (go_at_call 31; (with_reducible refine (HT.out).mono ?_); rintro e1 w1 ⟨x, rfl, hb1, hx1, hx2⟩; have hx := strp_some (hx2 HQ.out); clear hx1 hx2)
      | fail)
    go_ret
    exact ⟨rfl, hb1⟩
set_option maxHeartbeats 16000000 in
set_option maxRecDepth 100000 in
theorem stkwords_open (B gs base hi : Nat) (L : List NB) (O : List Nat) (bb : Bool) (Vn Vo : Value) (u : ByteArray) (w : World) (h : StkSt B gs base hi L O bb Vn Vo w) (hl : L.length ≤ 100000) (hl2 : O.length ≤ 100000) (hO0 : O ≠ []) (hu : u.size ≤ 1000000) (hO : ∀ i ∈ O, i < L.length) (hM : ∀ b ∈ L, 0 ≤ b.n.many ∧ b.n.many ≤ 1000000) :
    Calls Tryd.prog 19 #[.pointer (some ⟨gs, 0, none⟩), .string u] w fun e w' => e = .returned (.int .i64 0) ∧ Below B w w' ∧ ∃ Vn', StkSt B gs base hi (bumpL O L ++ [(⟨⟨2, [], [], [], u.data.toList, 0⟩, ⟨#[]⟩, ⟨#[]⟩, u, none, 0⟩ : NB)]) O bb Vn' Vo w' := by
  have HPT : Hid (∀ W, Below w.heap.size w W → Calls Tryd.prog 30 #[.pointer (some ⟨gs, 0, none⟩), .agg #[.int .u8 2, .string ⟨#[]⟩, .string ⟨#[]⟩, .slice none 0 0, .string u, .int .i64 0]] W fun e w' => e = .returned (.tuple #[]) ∧ ∃ Vn', StkSt B gs base hi (bumpL O L ++ [(⟨⟨2, [], [], [], u.data.toList, 0⟩, ⟨#[]⟩, ⟨#[]⟩, u, none, 0⟩ : NB)]) O bb Vn' Vo w' ∧ FrP B gs Vn Vo W Vn' Vo w') := Lib.hid fun W hW => stkput B gs base hi L O bb Vn Vo (⟨⟨2, [], [], [], u.data.toList, 0⟩, ⟨#[]⟩, ⟨#[]⟩, u, none, 0⟩ : NB) W (h.below hW (Nat.le_refl _) (Nat.le_trans h.gr.sz hW.size)) ⟨rfl, rfl, rfl, RdS.nil _ _ _, Nat.le_refl _, Nat.zero_le _, fun _ => rfl, (by show 2 < 256; decide), (by show (-9223372036854775808 : Int) ≤ 0; decide), (by show (0 : Int) ≤ 9223372036854775807; decide)⟩ hl hl2 hO hM
  have HBW : Hid (∀ W, Below w.heap.size w W → Below B w W) := Lib.hid fun W hW => hW.mono (by have := h.lo; have := h.gr.lo; have := h.gr.sz; omega)
  obtain ⟨Ao, co, rfl⟩ := own_form2 h.gr.op
  obtain ⟨m, hm⟩ : ∃ m, O.length = m := ⟨_, rfl⟩
  have k1 := cellV w _ 1 _ _ _ h.box
  rw [hm] at k1
  have bm : (0 : Int) < (m : Int) := by
    have := List.length_pos_iff.2 hO0
    omega
  have HU := Lib.hid hu
  clear h hl hl2 hO hM hO0 hu
  go_enter Tryd.func19, Tryd.ntmps19
  go_wp2_with (first
    | (go_at_call 29; (with_reducible refine (clone9 u _ HU.out).mono ?_); rintro e1 w1 ⟨rfl, hb1⟩; have HB1 := Lib.hid hb1; clear hb1)
    | (go_at_call 30; (with_reducible refine (HPT.out _ HB1.out).mono ?_); rintro e2 w2 ⟨rfl, Vn', hs2, hf2⟩; have HS2 := Lib.hid hs2; have HF2 := Lib.hid hf2; clear hs2 hf2)
    | fail)
  go_ret
  rw [← hm] at *
  exact ⟨rfl, (HBW.out _ HB1.out).trans HF2.out.bel, _, HS2.out⟩
end Hx
end Go.Proofs.YtbjgfaflikgobaaDoor
