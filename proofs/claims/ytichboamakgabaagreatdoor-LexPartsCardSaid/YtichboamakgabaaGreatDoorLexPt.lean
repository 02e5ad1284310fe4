/-
  Plain facts of LexParts: tokens appended to an own row; the tags as they are made; a text of one byte.
-/
import Derived.Test.YtichboamakgabaaGreatDoorG25
import Derived.Test.YtichboamakgabaaGreatDoorG09
import Derived.Laws.AppendOwnNone
namespace Go.Proofs.YtichboamakgabaaGreatDoor
open Go.RowKit
namespace Hx
open Lx Tx Nmb Es
set_option linter.unusedVariables false
theorem wpList_guarded9 {P : Program} {ops : Array Oper} {Q : Exit → Act → World → Prop} {a : Act} {w : World} {rest : List Oper} {o : Oper} (hw : Region.wanted o (yielded ops a.tmps) = true) (h : wpList P ops Q ({ o with guard := none } :: rest) a w) : wpList P ops Q (o :: rest) a w := by
  rw [wpList] at h ⊢
  rw [if_pos hw]
  rw [if_pos (show Region.wanted { o with guard := none } (yielded ops a.tmps) = true from rfl)] at h
  exact h
theorem rdc_tbs {w : World} {B b : Nat} : ∀ (l : List Tk) (off : Nat) (hc : ∀ j (h : j < l.length), ∃ cs, TkC.R w B cs (l[j]'h) ∧ ∀ i (hi : i < cs.length), w.cell? ⟨b, off + j * 4 + i, none⟩ = some (cs[i]'hi)), ∃ L : List TB, L.map TB.t = l ∧ (∀ x ∈ L, TkC.R w B (tbCells x) x.t) ∧ ∀ (j : Nat) (u : Value), (L.flatMap tbCells)[j]? = some u → w.cell? ⟨b, off + j, none⟩ = some u
  | [], _, _ => ⟨[], rfl, (fun _ h => by cases h), fun j u h => by simp at h⟩
  | t :: l, off, hc => by
    obtain ⟨cs, ⟨s, A, c, u, rfl, r⟩, hcell⟩ := hc 0 (by simp)
    obtain ⟨L, h1, h2, h3⟩ := rdc_tbs l (off + 4) (fun j h => by
      obtain ⟨cs', k1, k2⟩ := hc (j + 1) (by simpa using h)
      exact ⟨cs', k1, fun i hi => by rw [show off + 4 + j * 4 + i = off + (j + 1) * 4 + i by omega]; exact k2 i hi⟩)
    refine ⟨⟨s, A, c, u, t⟩ :: L, by simp [h1], fun x hx => ?_, fun j v hj => ?_⟩
    · rcases List.mem_cons.1 hx with e | e
      · subst e; exact ⟨s, A, c, u, rfl, r⟩
      · exact h2 x e
    · rw [List.flatMap_cons] at hj
      have h4l : (tbCells ⟨s, A, c, u, t⟩).length = 4 := rfl
      by_cases h4 : j < 4
      · rw [List.getElem?_append_left (by rw [h4l]; exact h4)] at hj
        have hc0 := hcell j h4
        rw [show off + 0 * 4 + j = off + j by omega] at hc0
        rw [hc0, ← hj]
        exact (List.getElem?_eq_getElem (l := tbCells ⟨s, A, c, u, t⟩) h4).symm
      · rw [List.getElem?_append_right (by rw [h4l]; omega), h4l] at hj
        have := h3 (j - 4) v hj
        rwa [show off + 4 + (j - 4) = off + j by omega] at this
theorem tb_cells_one (L : List TB) : ∀ u ∈ L.flatMap tbCells, u.oneCell' = true := by
  intro u hu
  obtain ⟨b, _, h⟩ := List.mem_flatMap.1 hu
  exact tb_one _ _ _ _ _ _ u h
/-- append(own, tokens...). -/
theorem wpList_append_tk {P : Program} {w : World} {ops : Array Oper} {rest : List Oper} {o : Oper} {a : Act} {Q : Exit → Act → World → Prop} (hgd : o.guard = none) (s x : Operand) (t : TypeId)
    (ho : o.op = .call { callee := .builtin .append, args := #[s, x], argTypes := #[t, t] })
    (base : Nat) (e : TypeId) (i : TypeInfo) (z : Value) (ht : P.underlying t = some (.slice e)) (hi : P.info? e = some i) (hz : i.zero = some z) (hsize : i.size = 4) (hby : i.bytes = 64) (hzs : z.cells.size = 4)
    (v : Value) (n : Nat) (xs : List Value) (hs : a.eval s = v) (hown : w.ownsRow base e 4 v n xs)
    (B : Nat) (A : Option Addr) (m c : Nat) (l : List Tk) (hx : a.eval x = .slice A m c) (hr : RdC TkC w B A l) (hl : l.length = m) (hc0 : A = none → c = 0) (hb : n + m ≤ 1000000) (hbase : base ≤ w.heap.size)
    (h : ∀ v' w' (L : List TB), L.map TB.t = l → (∀ b ∈ L, TkC.R w B (tbCells b) b.t) → w'.ownsRow base e 4 v' (n + m) (xs ++ L.flatMap tbCells) → w.grownBy w' v.ownBlock → wpList P ops Q rest (a.put o.dst v') w') : wpList P ops Q (o :: rest) a w := by
  rcases A with _ | ad
  · have h0 : l = [] := by
      rcases Nat.eq_zero_or_pos l.length with h0 | h0
      · exact List.eq_nil_of_length_eq_zero h0
      · obtain ⟨_, _, he, _⟩ := hr h0
        cases he
    subst h0
    obtain rfl : 0 = m := hl
    rw [hc0 rfl] at hx
    exact wpList_append_own_none hgd s x t ho base e i 4 ht hi v n xs hs hown hx (h v w [] rfl (fun _ h => by cases h) (by simpa using hown) (World.grownBy.refl _ _))
  · obtain ⟨L, h1, h2, h3⟩ : ∃ L : List TB, L.map TB.t = l ∧ (∀ x ∈ L, TkC.R w B (tbCells x) x.t) ∧ ∀ (j : Nat) (u : Value), (L.flatMap tbCells)[j]? = some u → w.cell? (ad.add j) = some u := by
      rcases Nat.eq_zero_or_pos l.length with h0 | h0
      · rw [List.eq_nil_of_length_eq_zero h0]
        exact ⟨[], rfl, (fun _ h => by cases h), fun j u h => by simp at h⟩
      · obtain ⟨b, off, he, _, hc⟩ := hr h0
        injection he with he
        subst he
        obtain ⟨L, k1, k2, k3⟩ := rdc_tbs l off hc
        exact ⟨L, k1, k2, fun j u hj => by rw [addr_plain]; exact k3 j u hj⟩
    have hlen := flat_len tbCells 4 (fun _ => rfl) L
    have hLm : L.length = m := by rw [← hl, ← h1, List.length_map]
    rw [hLm] at hlen
    exact wpList_append_own w hgd s x t ho base e i z 4 64 ht hi hz hsize hby hzs (by decide) v n xs hs hown ad m c (L.flatMap tbCells) hx hlen h3 (tb_cells_one L) (by unfold maxLen; omega) (by omega) hbase (fun v' w' k1 k2 _ => h v' w' L h1 h2 k1 k2)
theorem own_none9 (w : World) (T : TypeId) (k : Nat) : (w.alloc (.cells #[] T)).ownsRow w.heap.size T k (.slice (some ⟨w.heap.size, 0, none⟩) 0 0) 0 [] :=
  ⟨by simp, .inr ⟨w.heap.size, 0, #[], rfl, Nat.le_refl _, heap_alloc_new _ _, Nat.le_refl _, Nat.zero_le _, by simp, by simp⟩⟩
/-- Two lists behind one another in an own row. -/
theorem two_lists {w7 w8 w9 : World} {base N c : Nat} {A : Option Addr} {T : TypeId} {L1 L2 : List TB} (h1 : ∀ b ∈ L1, TkC.R w7 base (tbCells b) b.t) (h2 : ∀ b ∈ L2, TkC.R w8 base (tbCells b) b.t) (hb1 : Below base w7 w9) (hb2 : Below base w8 w9) (hbase : base ≤ w9.heap.size)
    (hown : w9.ownsRow base T 4 (.slice A N c) N (L1.flatMap tbCells ++ L2.flatMap tbCells)) : RdC TkC w9 w9.heap.size A (L1.map TB.t ++ L2.map TB.t) := by
  rw [← List.map_append]
  refine (RdC.of_own (C := TkC) tbCells TB.t (fun _ => rfl) (by decide) (L1 ++ L2) (fun b hm => ?_) (e := T) (base := base) (n := N) (c := c) (by rw [List.flatMap_append]; exact hown)).1
  rcases List.mem_append.1 hm with h | h
  · exact TkC.keep (h1 b h) hbase fun bl o hlt => hb1.cell (p := ⟨bl, o, none⟩) hlt
  · exact TkC.keep (h2 b h) hbase fun bl o hlt => hb2.cell (p := ⟨bl, o, none⟩) hlt
theorem kind_at {w : World} {B : Nat} {A : Option Addr} {l : List Tk} {k : Nat} (hr : RdC TkC w B A l) (hk : k < l.length) : ∃ b off, A = some ⟨b, off, none⟩ ∧ b < B ∧ w.cell? ⟨b, off + k * 4, none⟩ = some (.int .u8 ((l[k]'hk).kind : Int)) := by
  obtain ⟨b, off, e, hb, hc⟩ := hr (by omega)
  obtain ⟨cs, ⟨x, A1, p1, u, rfl, _⟩, hcell⟩ := hc k hk
  exact ⟨b, off, e, hb, hcell 0 (by simp)⟩
theorem par_pair (w : World) (T : TypeId) (x : ByteArray) : RdC PrC (w.alloc (.cells #[.string x, .string ⟨#[118]⟩] T)) (w.alloc (.cells #[.string x, .string ⟨#[118]⟩] T)).heap.size (some ⟨w.heap.size, 0, none⟩) [⟨x.data.toList, [118]⟩] :=
  rdc_row (C := PrC) ([⟨x.data.toList, [118]⟩] : List Pr) fun j hj => match j, hj with
    | 0, _ => ⟨[.string x, .string ⟨#[118]⟩], ⟨_, _, rfl, rfl, rfl⟩, fun i hi => match i, hi with
      | 0, _ => rfl
      | 1, _ => rfl⟩
theorem par_tok (w : World) (A : Option Addr) (T : TypeId) (k : Nat) (hk : k < 256) (x : ByteArray) (h : RdC PrC w w.heap.size A [⟨x.data.toList, [118]⟩]) (hA : A ≠ none) :
    RdC TkC (w.alloc (.cells #[.int .u8 (k : Int), .string x, .slice A 1 1, .string ⟨#[]⟩] T)) (w.alloc (.cells #[.int .u8 (k : Int), .string x, .slice A 1 1, .string ⟨#[]⟩] T)).heap.size (some ⟨w.heap.size, 0, none⟩) [⟨k, x.data.toList, [⟨x.data.toList, [118]⟩], []⟩] :=
  rdc_row (C := TkC) ([⟨k, x.data.toList, [⟨x.data.toList, [118]⟩], []⟩] : List Tk) fun j hj => match j, hj with
    | 0, _ => ⟨[.int .u8 (k : Int), .string x, .slice A 1 1, .string ⟨#[]⟩], ⟨_, A, 1, _, rfl, hk, rfl, rfl, (show (1 : Nat) ≤ 1 by decide), by decide, fun e => absurd e hA, h.on ((Below.refl _ _).alloc (Nat.le_refl _) _)⟩, fun i hi => match i, hi with
      | 0, _ => rfl
      | 1, _ => rfl
      | 2, _ => rfl
      | 3, _ => rfl⟩
theorem par_tok0 (w : World) (T : TypeId) (x : ByteArray) :
    RdC TkC (w.alloc (.cells #[.int .u8 2, .string x, .slice none 0 0, .string ⟨#[]⟩] T)) (w.alloc (.cells #[.int .u8 2, .string x, .slice none 0 0, .string ⟨#[]⟩] T)).heap.size (some ⟨w.heap.size, 0, none⟩) [⟨2, x.data.toList, [], []⟩] :=
  rdc_row (C := TkC) ([⟨2, x.data.toList, [], []⟩] : List Tk) fun j hj => match j, hj with
    | 0, _ => ⟨[.int .u8 2, .string x, .slice none 0 0, .string ⟨#[]⟩], ⟨_, none, 0, _, rfl, (show (2 : Nat) < 256 by decide), rfl, rfl, (show (0 : Nat) ≤ 0 by decide), by decide, fun _ => rfl, RdC.nil _ _ _⟩, fun i hi => match i, hi with
      | 0, _ => rfl
      | 1, _ => rfl
      | 2, _ => rfl
      | 3, _ => rfl⟩
theorem par_tokG (w : World) (A : Option Addr) (T : TypeId) (k : Nat) (z : Int) (hz : (k : Int) = z) (hk : k < 256) (x : ByteArray) (g : Nat) (hg : w.heap.size = g) (h : RdC PrC w w.heap.size A [⟨x.data.toList, [118]⟩]) (hA : A ≠ none) :
    RdC TkC (w.alloc (.cells #[.int .u8 z, .string x, .slice A 1 1, .string ⟨#[]⟩] T)) (w.alloc (.cells #[.int .u8 z, .string x, .slice A 1 1, .string ⟨#[]⟩] T)).heap.size (some ⟨g, 0, none⟩) [⟨k, x.data.toList, [⟨x.data.toList, [118]⟩], []⟩] := by
  subst hz hg
  exact par_tok w A T k hk x h hA
theorem par_pairG (w : World) (T : TypeId) (x : ByteArray) (g : Nat) (hg : w.heap.size = g) : RdC PrC (w.alloc (.cells #[.string x, .string ⟨#[118]⟩] T)) (w.alloc (.cells #[.string x, .string ⟨#[118]⟩] T)).heap.size (some ⟨g, 0, none⟩) [⟨x.data.toList, [118]⟩] := by
  subst hg
  exact par_pair w T x
theorem last_first {xs ys : List Tk} (h : ∀ (h1 : 0 < xs.length) (h2 : 0 < ys.length), (xs[xs.length - 1]'(by omega)).kind ≠ 4 ∨ (ys[0]'h2).kind ≠ 4) : ∀ u v r s, xs = r ++ [u] → ys = v :: s → u.kind ≠ 4 ∨ v.kind ≠ 4 := by
  intro u v r s h1 h2
  subst h1 h2
  have := h (by simp) (by simp)
  simpa using this
/-- A text behind another. -/
theorem cat9 (a b : ByteArray) (n m : Nat) (ha : a.size = n) (hb : b.size = m) (h : n + m ≤ 100000) : ∃ s : ByteArray, s.data.toList = a.data.toList ++ b.data.toList ∧ s.size = n + m ∧ ∀ W, (Op.stringOp .add a b).run Tryz.prog W = .ok (.string s) W :=
  ⟨a ++ b, by simp, by rw [← ba_l, ← ha, ← hb, ← ba_l a, ← ba_l b]; simp, fun W => run_string_add_sum W a b (by omega)⟩
theorem conv_byte9 (W : World) (c : UInt8) (k : Int) (hk : (c.toNat : Int) = k) (T : TypeId) : (convert 27 9 (.slice (some ⟨W.heap.size, 0, none⟩) 1 1)).run Tryz.prog (W.alloc (.cells #[.int .u8 k] T)) = .ok (.string ⟨#[c]⟩) (W.alloc (.cells #[.int .u8 k] T)) := by
  have hr : RdA (W.alloc (.cells #[.int .u8 k] T)) (W.heap.size + 1) (some ⟨W.heap.size, 0, none⟩) [c] := by
    intro _
    refine ⟨W.heap.size, 0, rfl, by omega, fun j hj => ?_⟩
    obtain rfl : j = 0 := by simpa using hj
    rw [World.cell?_alloc_new]
    simp [hk]
  exact conv_str hr rfl Tryz.underlying27 Tryz.underlying5 Tryz.underlying9
end Hx
end Go.Proofs.YtichboamakgabaaGreatDoor
