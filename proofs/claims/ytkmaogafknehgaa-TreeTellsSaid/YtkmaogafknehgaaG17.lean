/-
  Texts of one seat, put together: LexF, LexH, BldK, LeaC, LeaM, LeaN.
-/
import Derived.Test.YtkmaogafknehgaaG07
import Derived.Deep.LoopGhost
import Derived.Test.YtkmaogafknehgaaG06
import Derived.Deep.QuietTactic
import Derived.Test.YtkmaogafknehgaaG10
import Derived.Test.YtkmaogafknehgaaG03
import Derived.Test.YtkmaogafknehgaaG05
import Derived.Maps.OwnSet
import Derived.Maps.OwnOps
namespace Go.Proofs.Ytkmaogafknehgaa
open Go.RowKit
namespace Hx
open Lx Tx Nmb Es
set_option linter.unusedVariables false
theorem apart_iff : ∀ (l : List Tk), apart l = true ↔ ∀ (i : Nat) (h : i + 1 < l.length), ¬ ((l[i]'(by omega)).kind = 4 ∧ (l[i + 1]'h).kind = 4)
  | [] => by simp [apart]
  | [a] => by simp [apart]
  | a :: b :: r => by
    rw [apart, Bool.and_eq_true, apart_iff (b :: r)]
    constructor
    · rintro ⟨h1, h2⟩ i hi
      cases i with
      | zero =>
        intro hh
        simp only [List.getElem_cons_zero, List.getElem_cons_succ] at hh
        simp [hh.1, hh.2] at h1
      | succ i => exact h2 i (by simpa using hi)
    · intro h
      refine ⟨?_, fun i hi => ?_⟩
      · have := h 0 (by simp)
        simp only [List.getElem_cons_zero, List.getElem_cons_succ] at this
        by_cases h1 : a.kind = 4
        · by_cases h2 : b.kind = 4
          · exact absurd ⟨h1, h2⟩ this
          · simp [h2]
        · simp [h1]
      · exact h (i + 1) (by simpa using hi)
theorem apart_bad {l : List Tk} {k : Nat} (h0 : 1 ≤ k) (h : k < l.length) (h1 : (l[k - 1]'(by omega)).kind = 4) (h2 : (l[k]'h).kind = 4) : apart l = false := by
  cases hb : apart l with
  | false => rfl
  | true =>
    have := (apart_iff l).1 hb (k - 1) (by omega)
    have e : k - 1 + 1 = k := by omega
    simp only [e] at this
    exact absurd ⟨h1, h2⟩ this
theorem apart_next {l : List Tk} {k : Nat} (h0 : 1 ≤ k) (h : k < l.length) (hp : apart (l.take k) = true) (hn : ¬ ((l[k - 1]'(by omega)).kind = 4 ∧ (l[k]'h).kind = 4)) : apart (l.take (k + 1)) = true := by
  rw [apart_iff] at hp ⊢
  intro i hi
  rw [List.length_take] at hi
  by_cases e : i + 1 = k
  · have e2 : i = k - 1 := by omega
    subst e2
    simp only [List.getElem_take, e]
    exact hn
  · have := hp i (by rw [List.length_take]; omega)
    simpa only [List.getElem_take] using this
/-- Bounds of a token. -/
def Small (t : Tk) : Prop := t.name.length ≤ 1000000 ∧ t.text.length ≤ 1000000 ∧ t.attrs.length ≤ 1000000 ∧ ∀ p ∈ t.attrs, p.name.length ≤ 1000000 ∧ p.value.length ≤ 1000000
theorem writeA_len (p : Pr) (h : p.name.length ≤ 1000000 ∧ p.value.length ≤ 1000000) : (writeA p).length ≤ 8000000 := by
  have := (escL_len true p.value).2
  unfold writeA
  simp only [List.length_cons, List.length_append, List.length_nil]
  omega
theorem flatA_len : ∀ (l : List Pr), (∀ p ∈ l, p.name.length ≤ 1000000 ∧ p.value.length ≤ 1000000) → (l.flatMap writeA).length ≤ l.length * 8000000
  | [], _ => by simp
  | p :: l, h => by
    have h1 := writeA_len p (h p (by simp))
    have h2 := flatA_len l (fun q hq => h q (by simp [hq]))
    rw [List.flatMap_cons, List.length_append, List.length_cons]
    omega
theorem writeT_len {t : Tk} (h : Small t) : (writeT t).length ≤ 8000009000000 := by
  obtain ⟨h1, h2, h3, h4⟩ := h
  have h5 := flatA_len t.attrs h4
  have h6 := (escL_len false t.text).2
  unfold writeT
  split
  · omega
  · split
    · simp only [List.length_cons, List.length_append, List.length_nil]
      omega
    · simp only [List.length_cons, List.length_append]
      split <;> simp only [List.length_cons, List.length_nil] <;> omega
/-- A token among some. -/
theorem tk_at {w : World} {A : Option Addr} {l : List Tk} {k : Nat} (hr : RdC TkC w w.heap.size A l) (hk : k < l.length) (hs : Small (l[k]'hk)) :
    ∃ (b off : Nat) (x u : ByteArray) (A1 : Option Addr) (p1 : Nat), A = some ⟨b, off, none⟩ ∧ b < w.heap.size ∧ w.cell? ⟨b, off + k * 4, none⟩ = some (.int .u8 ((l[k]'hk).kind : Int)) ∧ w.cell? ⟨b, off + k * 4 + 1, none⟩ = some (.string x) ∧
      w.cell? ⟨b, off + k * 4 + 2, none⟩ = some (.slice A1 (l[k]'hk).attrs.length p1) ∧ w.cell? ⟨b, off + k * 4 + 3, none⟩ = some (.string u) ∧ TkAt (l[k]'hk) x u A1 p1 w := by
  obtain ⟨b, off, e, hb, hc⟩ := hr (by omega)
  obtain ⟨cs, ⟨x, A1, p1, u, rfl, hkd, hx, hu, hle, hmx, hnl, hrd⟩, hcell⟩ := hc k hk
  obtain ⟨s1, s2, s3, s4⟩ := hs
  refine ⟨b, off, x, u, A1, p1, e, hb, hcell 0 (by simp), hcell 1 (by simp), hcell 2 (by simp), hcell 3 (by simp), ⟨hx, hu, hrd, hle, ?_, ?_, s3, s4⟩⟩
  · rw [← ba_l, hx]; exact s1
  · rw [← ba_l, hu]; exact s2
end Hx
end Go.Proofs.Ytkmaogafknehgaa
namespace Go.Proofs.Ytkmaogafknehgaa
open Go.RowKit
namespace Hx
open Lx Tx Nmb Es
set_option linter.unusedVariables false
/-- What an attribute counts, and a token. -/
def wPr (p : Pr) : Nat := min p.name.length 20000 + min p.value.length 20000
def wPrs (l : List Pr) : Nat := (l.map wPr).sum
def wTk (t : Tk) : Nat := min t.name.length 20000 + min t.text.length 20000 + wPrs (t.attrs.take 30)
def greatF (m : Nat) : Nat → List Tk → Bool
  | _, [] => false
  | n, t :: r => decide (30 < t.attrs.length) || decide (m < n + wTk t) || greatF m (n + wTk t) r
def greatT (m : Nat) (l : List Tk) : Bool := greatF m 0 (l.take 600) || decide (600 < l.length)
theorem wPr_le (p : Pr) : wPr p ≤ 40000 := by unfold wPr; omega
theorem wPrs_le : ∀ (l : List Pr) , wPrs l ≤ 40000 * l.length
  | [] => by simp [wPrs]
  | p :: l => by
    have := wPrs_le l
    have h2 := wPr_le p
    unfold wPrs at *
    rw [List.map_cons, List.sum_cons, List.length_cons]
    omega
theorem wPrs_snoc (l : List Pr) (p : Pr) : wPrs (l ++ [p]) = wPrs l + wPr p := by simp [wPrs]
theorem wPrs_next {l : List Pr} {k : Nat} (h : k < l.length) : wPrs (l.take (k + 1)) = wPrs (l.take k) + wPr (l[k]'h) := by
  rw [List.take_succ_eq_append_getElem h, wPrs_snoc]
theorem wTk_le (t : Tk) : wTk t ≤ 1240000 := by
  have h := wPrs_le (t.attrs.take 30)
  have h2 := List.length_take_le 30 t.attrs
  unfold wTk
  omega
theorem bel_in' {w w' w0 : World} (h0 : Below w0.heap.size w0 w) (h : Below w.heap.size w w') : Below w0.heap.size w0 w' := h0.trans (h.mono h0.size)
end Hx
end Go.Proofs.Ytkmaogafknehgaa
namespace Go.Proofs.Ytkmaogafknehgaa
open Go.RowKit
namespace Hx
set_option linter.unusedVariables false
abbrev OK9 (b : Nat) (w w' : World) : Prop := Lib.OthersKept 5 (some b) w w'
theorem OK9.of_below {b : Nat} {w w' : World} (h : Below w.heap.size w w') : OK9 b w w' := fun k o hk _ _ => (h.block k (Array.getElem?_eq_some_iff.1 hk).1).trans hk
theorem OK9.stay {b g : Nat} {w w' : World} {cs : Array Value} {T : TypeId} {fr : Nat × Nat} (h : OK9 b w w') (hg : w.heap[g]? = some (.cells cs T fr)) (hb : g ≠ b) (hT : T ≠ 5) : w'.heap[g]? = some (.cells cs T fr) :=
  h g _ hg (fun e => hb (Option.some.inj e)) (fun c fz e => by injection e with _ e _; exact hT e)
theorem OK9.iter {b g : Nat} {w w' : World} {s : ByteArray} {p : Nat} (h : OK9 b w w') (hg : w.heap[g]? = some (.stringIter s p)) (hb : g ≠ b) : w'.heap[g]? = some (.stringIter s p) :=
  h g _ hg (fun e => hb (Option.some.inj e)) (fun c fz e => by cases e)
theorem ccheckK (B b : Nat) (bs : List Value) (w : World) (h : Lib.IsBuilderF 70 5 B b bs w) :
    Calls Try.prog 50 #[.pointer (some ⟨b, 0, none⟩)] w fun e w' => e = .returned (.tuple #[]) ∧ Lib.BuilderAtF 70 5 B b (.pointer (some ⟨b, 0, none⟩)) bs w' ∧ Below B w w' ∧ OK9 b w w' := by
  rcases h with h | h
  · refine (cc_fresh b w h.cell0 h.shape h.frozen0).mono ?_
    rintro e w' ⟨rfl, rfl⟩
    exact ⟨rfl, h.used _, (Below.refl B w).setCell (p := ⟨b, 0, none⟩) h.1 _, (Lib.OthersKept.refl _ _ _).setCell ⟨b, 0, none⟩ rfl _⟩
  · refine (cc_used b w h.cell0).mono ?_
    rintro e w' ⟨rfl, rfl⟩
    exact ⟨rfl, h, Below.refl B _, Lib.OthersKept.refl _ _ _⟩
set_option maxHeartbeats 2000000 in
set_option maxRecDepth 100000 in
theorem bwsK (B b : Nat) (l : List UInt8) (x : ByteArray) (w : World) (h : Bld B b l w) (hl : l.length + x.size ≤ 1000000000) (hBw : B ≤ w.heap.size) :
    Calls Try.prog 35 #[.pointer (some ⟨b, 0, none⟩), .string x] w fun e w' => e = .returned (.tuple #[.int .i64 x.size, .nilIface]) ∧ Bld B b (l ++ x.data.toList) w' ∧ Below B w w' ∧ OK9 b w w' := by
  obtain ⟨i0, hi, hz0, hz1, hz2⟩ := info_parts bld_u8
  obtain ⟨bs, hbs⟩ : ∃ bs, Lib.byteCells l = bs := ⟨_, rfl⟩
  have hbl : bs.length = l.length := by rw [← hbs, bcells_len]
  have HE : Hid (Lib.byteCells (l ++ x.data.toList) = bs ++ Lib.strCells x) := Lib.hid (by rw [bcells_app, hbs]; rfl)
  have h' : Lib.IsBuilderF 70 5 B b bs w := hbs ▸ h
  have hl' : bs.length + x.size ≤ 1000000000 := by omega
  clear h hbs hbl hl
  go_enter Try.func35, Try.ntmps35
  go_wp2_with (go_at_call 50; (with_reducible refine (ccheckK B b bs w h').mono ?_))
  rintro e w1 ⟨rfl, h1, hb1, hk1⟩
  obtain ⟨hB, v, hbk, hown, hne⟩ := h1
  have c0 : w1.cell? ⟨b, 0, none⟩ = some (.pointer (some ⟨b, 0, none⟩)) := by rw [Lib.cell_of_heap hbk]; rfl
  have c1 : w1.cell? ⟨b, 1, none⟩ = some v := by rw [Lib.cell_of_heap hbk]; rfl
  go_wp2_with (at_builtin; refine Lib.wpList_append_own_stringF _ rfl _ _ 68 9 rfl B 5 i0 Try.underlying68 Try.underlying9 hi hz0 hz1 hz2 _ _ _ rfl hown x rfl ?c3 ?c4 ?c5 ?_)
  case c3 => unfold maxLen; omega
  case c4 => omega
  case c5 => have := hb1.size; omega
  intro v' w2 hown' hgrow _
  have hlt : b < w1.heap.size := by
    rcases Nat.lt_or_ge b w1.heap.size with h' | h'
    · exact h'
    · simp [Array.getElem?_eq_none h'] at hbk
  have hb2 : w2.heap[b]? = some (.cells #[.pointer (some ⟨b, 0, none⟩), v] 70 (0, 0)) := by
    rw [hgrow.block b hlt (fun e => hne e.symm)]
    exact hbk
  have d0 : w2.cell? ⟨b, 0, none⟩ = some (.pointer (some ⟨b, 0, none⟩)) := by rw [Lib.cell_of_heap hb2]; rfl
  have d1 : w2.cell? ⟨b, 1, none⟩ = some v := by rw [Lib.cell_of_heap hb2]; rfl
  have f1 : w2.frozen? ⟨b, 1, none⟩ = false := Lib.frozen_of_heap hb2 1
  obtain ⟨ao, n', cap, rfl⟩ : ∃ ao n' cap, v' = .slice ao n' cap := by
    rcases hown'.2 with ⟨hv, _⟩ | ⟨g, cap, cur, fz, hv, _⟩
    · exact ⟨_, _, _, hv⟩
    · exact ⟨_, _, _, hv⟩
  go_wp2
  go_ret2
  refine ⟨rfl, ?_, ?_, ?_⟩
  · unfold Bld
    rw [HE.out]
    exact .inr (Lib.BuilderAtF.put (T := 70) (e := 5) hB hb2 (bs' := bs ++ Lib.strCells x) (by simpa [Lib.strCells_length] using hown') (by decide))
  · exact (hb1.grown hgrow (by have := hb1.size; omega) (fun k hk => (hown.lt k hk).1)).setCell (p := ⟨b, 1, none⟩) hB _
  · exact (hk1.grown hgrow (Lib.ownsRowF_kind hown)).setCell ⟨b, 1, none⟩ rfl _
/-- What a writer leaves. -/
abbrev Wrote (B b : Nat) (l : List UInt8) (w w' : World) : Prop := Bld B b l w' ∧ Below B w w' ∧ OK9 b w w'
theorem Wrote.trans {B b : Nat} {l m : List UInt8} {w w1 w2 : World} (h : Wrote B b l w w1) (k : Wrote B b m w1 w2) : Wrote B b m w w2 := ⟨k.1, h.2.1.trans k.2.1, h.2.2.trans k.2.2⟩
theorem Wrote.size {B b : Nat} {l : List UInt8} {w w1 : World} (h : Wrote B b l w w1) : w.heap.size ≤ w1.heap.size := h.2.1.size
theorem Wrote.of_below {B b : Nat} {l : List UInt8} {w w1 w2 : World} (h : Wrote B b l w w1) (k : Below w1.heap.size w1 w2) (hB : B ≤ w.heap.size) : Wrote B b l w w2 :=
  ⟨h.1.below k, h.2.1.trans (k.mono (Nat.le_trans hB h.size)), h.2.2.trans (OK9.of_below k)⟩
theorem bwsL (B b : Nat) (l L : List UInt8) (x : ByteArray) (w : World) (h : Bld B b l w) (hL : l ++ x.data.toList = L) (hl : L.length ≤ 1000000000) (hBw : B ≤ w.heap.size) :
    Calls Try.prog 35 #[.pointer (some ⟨b, 0, none⟩), .string x] w fun e w' => (∃ n : Int, e = .returned (.tuple #[.int .i64 n, .nilIface])) ∧ Wrote B b L w w' := by
  subst hL
  refine (bwsK B b l x w h ?_ hBw).mono fun e w' ⟨h1, h2, h3, h4⟩ => ⟨⟨_, h1⟩, h2, h3, h4⟩
  rw [List.length_append] at hl
  have : x.data.toList.length = x.size := by cases x; simp [ByteArray.size]
  omega
end Hx
end Go.Proofs.Ytkmaogafknehgaa
namespace Go.Proofs.Ytkmaogafknehgaa
open Go.RowKit Go.Maps Go.WideMaps
namespace Hx
open Lx Tx Nmb Es
set_option linter.unusedVariables false
theorem law9 : Keyed Try.prog 9 := string_keyed Try.underlying9
theorem zero9 (w : World) : (zeroValue 3).run Try.prog w = .ok (.int .i64 0) w := by kernel_rfl
/-- What the map of names holds after some attributes. -/
structure Seen (D : DataW Unit) (l : List Pr) : Prop where
  has : ∀ z : List UInt8, Maps.has D (.string z) = hasL l z
  size : Maps.size D = dis [] l
theorem Seen.nil : Seen (.map []) [] := ⟨fun _ => rfl, rfl⟩
theorem Seen.next {D : DataW Unit} {l : List Pr} (h : Seen D l) (ht : Maps.Tidy D) (p : Pr) (d : DataW Unit) : Seen (D.put (.string p.name) d) (l ++ [p]) := by
  refine ⟨fun z => ?_, ?_⟩
  · have e : hasL (l ++ [p]) z = (hasL l z || decide (p.name = z)) := by simp [hasL]
    rw [e]
    by_cases hz : p.name = z
    · subst hz
      rw [Maps.has_put_same ht.isMap (by simp [WideAt.IsKeyLit])]
      simp
    · rw [Maps.has_put_other (fun e => hz (by injection e with e; exact e.symm)), h.has]
      simp [hz]
  · rw [Maps.size_put ht, h.has, h.size, dis_snoc, List.nil_append]
    cases hasL l p.name <;> simp
theorem twice_dis (l : List Pr) : decide (dis [] l < l.length) = !fresh [] l := by
  obtain ⟨h1, h2⟩ := dis_le l []
  cases hf : fresh [] l with
  | true => have := h2.2 hf; exact decide_eq_false (by omega)
  | false =>
    refine decide_eq_true ?_
    rcases Nat.lt_or_eq_of_le h1 with h | h
    · omega
    · have := h2.1 h; rw [hf] at this; cases this
theorem box_cell9 {w w1 : World} {cs : Array Value} {T : TypeId} (hb : Below (w.alloc (.cells cs T)).heap.size (w.alloc (.cells cs T)) w1) (i : Nat) (v : Value) (h : cs[i]? = some v) : w1.cell? ⟨w.heap.size, i, none⟩ = some v ∧ w.heap.size < w1.heap.size := by
  have hs := hb.size
  simp at hs
  refine ⟨?_, by omega⟩
  rw [hb.cell (p := ⟨w.heap.size, i, none⟩) (by simp)]
  simp [h]
def zPr9 : Array Value := #[.string ⟨#[]⟩, .string ⟨#[]⟩]
theorem all_snoc9 {l : List Pr} {k : Nat} (h : k < l.length) (f : Pr → Bool) : (l.take (k + 1)).all f = ((l.take k).all f && f (l[k]'h)) := by
  rw [List.take_succ_eq_append_getElem h, List.all_append]
  simp
def goodP (p : Pr) : Bool := fullL p.name && okT p.value
theorem attrsOk_eq (l : List Pr) : attrsOk l = (fresh [] l && l.all goodP && decide (l.length ≤ 16)) := by unfold attrsOk; rw [attrsF_fresh]; rfl
end Hx
end Go.Proofs.Ytkmaogafknehgaa
namespace Go.Proofs.Ytkmaogafknehgaa
open Go.RowKit
namespace Hx
open Lx Tx Nmb Es
set_option linter.unusedVariables false
end Hx
end Go.Proofs.Ytkmaogafknehgaa
namespace Go.Proofs.Ytkmaogafknehgaa
open Go.RowKit
namespace Hx
open Lx Tx Nmb Es
set_option linter.unusedVariables false
/-- Is what an attribute's value is written as short enough? A token's texts? -/
def fitP (p : Pr) : Bool := decide ((escL true p.value).length ≤ 16384)
def fitT (t : Tk) : Bool := if t.kind = 4 then decide ((escL false t.text).length ≤ 16384) else t.attrs.all fitP
theorem putR_ok {y : ByteArray} {q : Bool} (h : okT y.data.toList = true) : putR y q = if (escL q y.data.toList).length ≤ 16384 then (escS q y, 0) else (⟨#[]⟩, 4) := by
  unfold putR
  rw [if_neg (by rw [chk9_ok h]; decide)]
  have e : (escS q y).size = (escL q y.data.toList).length := by rw [← ba_l]; rfl
  rw [e]
  by_cases h2 : (escL q y.data.toList).length ≤ 16384
  · rw [if_neg (by omega), if_pos h2]
  · rw [if_pos (by omega), if_neg h2]
theorem escS_l (q : Bool) (y : ByteArray) : (escS q y).data.toList = escL q y.data.toList := rfl
/-- What may be known of a token that is to be written. -/
structure PutAt (t : Tk) (x u : ByteArray) (A : Option Addr) (cp : Nat) (B : Nat) (w : World) : Prop where
  name : x.data.toList = t.name
  text : u.data.toList = t.text
  attrs : RdC PrC w B A t.attrs
  le : t.attrs.length ≤ cp
  ns : x.size ≤ 1000000
  us : u.size ≤ 1000000
  sz : ∀ p ∈ t.attrs, p.name.length ≤ 1000000 ∧ p.value.length ≤ 1000000
  may : mayT t = true
theorem mayT_vals {t : Tk} (h : mayT t = true) (h4 : t.kind ≠ 4) : t.attrs.length ≤ 16 ∧ ∀ p ∈ t.attrs, okT p.value = true := by
  rcases mayT_cases h with ⟨b, _, _, h2, _⟩ | ⟨_, _, h2, _⟩ | ⟨h1, _⟩
  · rw [attrsOk_eq, Bool.and_eq_true, Bool.and_eq_true, decide_eq_true_eq] at h2
    refine ⟨h2.2, fun p hp => ?_⟩
    have := List.all_eq_true.1 h2.1.2 p hp
    unfold goodP at this
    rw [Bool.and_eq_true] at this
    exact this.2
  · rw [h2]; simp
  · exact absurd h1 h4
theorem mayT_okt {t : Tk} (h : mayT t = true) (h4 : t.kind = 4) : okT t.text = true := by
  unfold mayT at h
  rw [if_neg (by omega), if_neg (by omega), if_pos h4, Bool.and_eq_true] at h
  exact h.2
theorem flatA_fit : ∀ (l : List Pr), l.all fitP = true → (∀ p ∈ l, p.name.length ≤ 1000000 ∧ p.value.length ≤ 1000000) → (l.flatMap writeA).length ≤ l.length * 1100000
  | [], _, _ => by simp
  | p :: l, h, hs => by
    rw [List.all_cons, Bool.and_eq_true] at h
    have h2 := flatA_fit l h.2 (fun q hq => hs q (by simp [hq]))
    have h3 := (hs p (by simp)).1
    have h4 : (escL true p.value).length ≤ 16384 := by have := h.1; unfold fitP at this; simpa using this
    rw [List.flatMap_cons, List.length_append, List.length_cons]
    have h5 : (writeA p).length = p.name.length + (escL true p.value).length + 4 := by
      unfold writeA
      simp only [List.length_cons, List.length_append, List.length_nil]
      omega
    omega
end Hx
end Go.Proofs.Ytkmaogafknehgaa
