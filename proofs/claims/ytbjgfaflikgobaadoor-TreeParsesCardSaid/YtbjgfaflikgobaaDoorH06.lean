/-
  Texts of one seat, put together: LexW, LexX, LexY, LexZ.
-/
import Derived.Test.YtbjgfaflikgobaaDoorH05
import Derived.Maps.AppendAt
namespace Go.Proofs.YtbjgfaflikgobaaDoor
open Go.RowKit
namespace Hx
open Lx Tx Nmb Es
set_option linter.unusedVariables false
/-- What stands behind a tag's name, from here on. -/
def tagG (acc : List Pr) (l : List UInt8) : Option (Bool × List Pr × List UInt8) := tagF (l.length + 1) acc l
def tagAt (l : List UInt8) (p : Nat) : Nat := p + ((l.drop p).takeWhile blk).length
/-- Neither of the two ends stands here. -/
def noEnd (l : List UInt8) (q : Nat) : Prop := ∀ c x, l.drop q = c :: x → c ≠ 62 ∧ ¬ (c = 47 ∧ x.head? = some 62)
/-- Attributes as the program holds them. -/
abbrev PB := ByteArray × ByteArray
def prCells (p : PB) : List Value := [.string p.1, .string p.2]
def prVal (p : PB) : Pr := ⟨p.1.data.toList, p.2.data.toList⟩
theorem prCells_R (w : World) (B : Nat) (p : PB) : PrC.R w B (prCells p) (prVal p) := ⟨p.1, p.2, rfl, rfl, rfl⟩
theorem own_attrs {w : World} {base : Nat} {A : Option Addr} {n c : Nat} {l : List PB} (h : w.ownsRow base 37 2 (.slice A n c) n (l.flatMap prCells)) : RdC PrC w w.heap.size A (l.map prVal) ∧ l.length = n ∧ n ≤ c ∧ c ≤ maxLen ∧ (A = none → c = 0) :=
  RdC.of_own (C := PrC) prCells prVal (fun _ => rfl) (by decide) l (fun b _ => prCells_R _ _ b) h
/-- A token whose attributes lie in new memory. -/
def TkR (B : Nat) (w : World) (cs : Array Value) (t : Tk) : Prop := TkC.R w w.heap.size cs.toList t ∧ ∀ A n c, cs[2]? = some (.slice A n c) → ∀ ad, A = some ad → B ≤ ad.block
/-- What tag answers. -/
def TagTo (s : ByteArray) (a : Nat) (w : World) (e : Ending) (w' : World) : Prop := Below w.heap.size w w' ∧
  ((tagL (s.data.toList.drop (a + 1)) = none ∧ e = .returned (.tuple #[.agg #[.int .u8 0, .string ⟨#[]⟩, .slice none 0 0, .string ⟨#[]⟩], .int .i64 (-1)])) ∨
   (∃ (cs : Array Value) (t : Tk) (n : Nat), tagL (s.data.toList.drop (a + 1)) = some (t, s.data.toList.drop n) ∧ n ≤ s.size ∧ TkR w.heap.size w' cs t ∧ e = .returned (.tuple #[.agg cs, .int .i64 n])))
/-- The tag as it is made: its variable, its attributes. -/
def TagSt (t : ByteArray) (R g : Nat) (w : World) (L : List PB) (v : Value) (wr : World) : Prop :=
  wr.heap[g]? = some (.cells #[.int .u8 1, .string t, v, .string ⟨#[]⟩] 26 (0, 0)) ∧ wr.ownsRow (g + 1) 37 2 v L.length (L.flatMap prCells) ∧ wr.heap[R]? = some (.cells zTk 26 (0, 0)) ∧ Below w.heap.size w wr
theorem cellV (w : World) (g k : Nat) (cs : Array Value) (t : TypeId) (fr : Nat × Nat) (h : w.heap[g]? = some (.cells cs t fr)) : w.cell? ⟨g, k, none⟩ = cs[k]? := by simp [World.cell?, h]
theorem freeV (w : World) (g k : Nat) (cs : Array Value) (t : TypeId) (h : w.heap[g]? = some (.cells cs t (0, 0))) : w.frozen? ⟨g, k, none⟩ = false := by simp [World.frozen?, h]
theorem infoPr : (Tryd.prog.info? 37).map (fun i => (i.zero, i.size, i.bytes)) = some (some (.agg #[.string ⟨#[]⟩, .string ⟨#[]⟩]), 2, 32) := by kernel_rfl
theorem own_form2 {w : World} {base : Nat} {e : TypeId} {size : Nat} {v : Value} {n : Nat} {xs : List Value} (h : w.ownsRow base e size v n xs) : ∃ A c, v = .slice A n c := by
  rcases h.2 with ⟨rfl, rfl⟩ | ⟨g, cap, cur, rfl, _⟩
  · exact ⟨none, 0, rfl⟩
  · exact ⟨_, cap, rfl⟩
theorem own_belowK {w w' : World} {B base : Nat} {e : TypeId} {size : Nat} {v : Value} {n : Nat} {xs : List Value} (h : w.ownsRow base e size v n xs) (hb : Below B w w') (hB : w.heap.size ≤ B) : w'.ownsRow base e size v n xs := by
  refine h.kept (row := none) ⟨hb.os, hb.tape, hb.output, hb.size, fun k hk _ => hb.block k (by omega)⟩ ?_
  cases v.ownBlock
  · exact .inl rfl
  · exact .inr (by simp)
theorem new_at (w : World) (cs : List Value) (t : TypeId) (B : Nat) (hB : w.heap.size = B) : ∀ (j : Nat) (u : Value), cs[j]? = some u → (w.alloc (.cells cs.toArray t)).cell? ((⟨B, 0, none⟩ : Addr).add j) = some u := fun j u h => by
  subst hB
  rw [addr_plain, World.cell?_alloc_new]
  simpa using h
theorem set_other (w : World) (g k b : Nat) (x : Value) (h : b ≠ g) : (w.setCell ⟨g, k, none⟩ x).heap[b]? = w.heap[b]? := by
  unfold World.setCell
  dsimp only
  rw [Array.getElem?_modify, if_neg (fun e => h e.symm)]
theorem own_setCell {w : World} {base : Nat} {e : TypeId} {size : Nat} {v : Value} {n : Nat} {xs : List Value} (h : w.ownsRow base e size v n xs) (R k : Nat) (hR : R < base) (x : Value) : (w.setCell ⟨R, k, none⟩ x).ownsRow base e size v n xs := by
  refine ⟨h.1, ?_⟩
  rcases h.2 with h0 | ⟨g, cap, cur, hv, hb, hg, rest⟩
  · exact .inl h0
  · exact .inr ⟨g, cap, cur, hv, hb, (set_other w R k g x (by omega)).trans hg, rest⟩
end Hx
end Go.Proofs.YtbjgfaflikgobaaDoor
namespace Go.Proofs.YtbjgfaflikgobaaDoor
open Go.RowKit
namespace Hx
open Lx Tx Nmb Es
set_option linter.unusedVariables false
/-- What one answers. -/
def OneTo (s : ByteArray) (a : Nat) (w : World) (e : Ending) (w' : World) : Prop := Below w.heap.size w w' ∧
  ((oneL (s.data.toList.drop a) = none ∧ e = .returned (.tuple #[.agg #[.int .u8 0, .string ⟨#[]⟩, .slice none 0 0, .string ⟨#[]⟩], .int .i64 (-1)])) ∨
   (∃ (cs : Array Value) (t : Tk) (n : Nat), oneL (s.data.toList.drop a) = some (t, s.data.toList.drop n) ∧ n ≤ s.size ∧ TkR w.heap.size w' cs t ∧ e = .returned (.tuple #[.agg cs, .int .i64 n])))
end Hx
end Go.Proofs.YtbjgfaflikgobaaDoor
namespace Go.Proofs.YtbjgfaflikgobaaDoor
open Go.RowKit
namespace Hx
open Lx Tx Nmb Es
set_option linter.unusedVariables false
/-- The tokens from here on. -/
def lexG (n : Nat) (l : List UInt8) : Except (Int × Nat) (List Tk) := lexE l.length n l
/-- A token as the program holds it. -/
structure TB where
  x : ByteArray
  A : Option Addr
  c : Nat
  u : ByteArray
  t : Tk
def tbCells (b : TB) : List Value := [.int .u8 (b.t.kind : Int), .string b.x, .slice b.A b.t.attrs.length b.c, .string b.u]
/-- The tokens so far: an own row; where their attributes lie. -/
def LexSt (w : World) (L : List TB) (v : Value) (wr : World) : Prop :=
  wr.ownsRow w.heap.size 26 4 v L.length (L.flatMap tbCells) ∧ (∀ b ∈ L, TkC.R wr wr.heap.size (tbCells b) b.t ∧ (0 < b.t.attrs.length → ∀ ad, b.A = some ad → some ad.block ≠ v.ownBlock)) ∧ Below w.heap.size w wr
theorem LexSt.below {w wr w' : World} {L : List TB} {v : Value} (h : LexSt w L v wr) (hb : Below wr.heap.size wr w') : LexSt w L v w' :=
  ⟨own_belowK h.1 hb (Nat.le_refl _), fun b hm => ⟨TkC.keep (h.2.1 b hm).1 hb.size (fun bl o hlt => hb.cell (p := ⟨bl, o, none⟩) hlt), (h.2.1 b hm).2⟩, stp h.2.2 hb⟩
/-- What Lex answers. -/
def LexTo (s : ByteArray) (w : World) (e : Ending) (w' : World) : Prop := Below w.heap.size w w' ∧
  ∃ (ts : List Tk) (n er : Int) (A : Option Addr) (c : Nat), lexR s.data.toList = (ts, n, er) ∧ e = .returned (.tuple #[.slice A ts.length c, .int .i64 n, .int .i64 er]) ∧ RdC TkC w' w'.heap.size A ts ∧ ts.length ≤ c ∧ c ≤ maxLen ∧ (A = none → c = 0)
theorem LexTo.bad {s : ByteArray} {w w' : World} {n er : Int} (hb : Below w.heap.size w w') (h : lexR s.data.toList = ([], n, er)) : LexTo s w (.returned (.tuple #[.slice none 0 0, .int .i64 n, .int .i64 er])) w' :=
  ⟨hb, [], n, er, none, 0, h, rfl, RdC.nil _ _ _, Nat.le_refl _, Nat.zero_le _, fun _ => rfl⟩
theorem LexTo.good {s : ByteArray} {w wr : World} {L : List TB} {A : Option Addr} {c : Nat} (h : LexSt w L (.slice A L.length c) wr) (hl : lexR s.data.toList = (L.map TB.t, 0, 0)) : LexTo s w (.returned (.tuple #[.slice A L.length c, .int .i64 0, .int .i64 0])) wr := by
  obtain ⟨h1, _, h3, h4, h5⟩ := RdC.of_own (C := TkC) tbCells TB.t (fun _ => rfl) (by decide) L (fun b hm => (h.2.1 b hm).1) h.1
  exact ⟨h.2.2, L.map TB.t, 0, 0, A, c, hl, by rw [List.length_map], h1, by rw [List.length_map]; exact h3, h4, h5⟩
theorem infoTk : (Tryd.prog.info? 26).map (fun i => (i.zero, i.size, i.bytes)) = some (some (.agg #[.int .u8 0, .string ⟨#[]⟩, .slice none 0 0, .string ⟨#[]⟩]), 4, 64) := by kernel_rfl
theorem tb_one (k : Int) (x : ByteArray) (A : Option Addr) (n c : Nat) (u : ByteArray) : ∀ v ∈ [Value.int .u8 k, .string x, .slice A n c, .string u], v.oneCell' = true := by simp [Value.oneCell']
theorem LexSt.next {w wr w1 w5 : World} {L : List TB} {A A4 A1 : Option Addr} {c c4 c1 : Nat} {x u : ByteArray} {t : Tk} {o1 o2 : Obj} (h : LexSt w L (.slice A L.length c) wr) (hb : Below wr.heap.size wr w1)
    (hR : TkR wr.heap.size w1 #[.int .u8 (t.kind : Int), .string x, .slice A1 t.attrs.length c1, .string u] t)
    (hown : w5.ownsRow w.heap.size 26 4 (.slice A4 (L.length + 1) c4) (L.length + 1) (L.flatMap tbCells ++ [.int .u8 (t.kind : Int), .string x, .slice A1 t.attrs.length c1, .string u]))
    (hgr : ((w1.alloc o1).alloc o2).grownBy w5 (Value.slice A L.length c).ownBlock)
    (hlie : (Value.slice A4 (L.length + 1) c4).ownBlock = (Value.slice A L.length c).ownBlock ∨ (Value.slice A4 (L.length + 1) c4).ownBlock = some ((w1.alloc o1).alloc o2).heap.size) :
    LexSt w (L ++ [⟨x, A1, c1, u, t⟩]) (.slice A4 (L.length + 1) c4) w5 := by
  have hb2 : Below w1.heap.size w1 ((w1.alloc o1).alloc o2) := stpA (stpA (Below.refl _ _) _) _
  have h1 := (h.below hb).below hb2
  have hlen : (L ++ [(⟨x, A1, c1, u, t⟩ : TB)]).length = L.length + 1 := by simp
  have hfar : ∀ (A' : Option Addr) (l : List Pr), RdC PrC ((w1.alloc o1).alloc o2) ((w1.alloc o1).alloc o2).heap.size A' l → (0 < l.length → ∀ ad, A' = some ad → some ad.block ≠ (Value.slice A L.length c).ownBlock) → RdC PrC w5 w5.heap.size A' l := by
    intro A' l hr hne hp
    obtain ⟨b, off, rfl, hlt, hc⟩ := hr hp
    refine ⟨b, off, rfl, Nat.lt_of_lt_of_le hlt hgr.size, fun j hj => ?_⟩
    obtain ⟨cs', k1, k2⟩ := hc j hj
    exact ⟨cs', k1, fun i hi => hgr.cell (k2 i hi) (hne hp ⟨b, off, none⟩ rfl)⟩
  have hw1 := hb.size
  have hown0 : ∀ k, (Value.slice A L.length c).ownBlock = some k → w.heap.size ≤ k ∧ k < wr.heap.size := fun k hk => h.1.lt k hk
  have hnew : ∀ (B : TB), (0 < B.t.attrs.length → ∀ ad, B.A = some ad → some ad.block ≠ (Value.slice A L.length c).ownBlock) → TkC.R ((w1.alloc o1).alloc o2) ((w1.alloc o1).alloc o2).heap.size (tbCells B) B.t → TkC.R w5 w5.heap.size (tbCells B) B.t ∧ ((0 < B.t.attrs.length → ∀ ad, B.A = some ad → some ad.block ≠ (Value.slice A4 (L.length + 1) c4).ownBlock)) := by
    intro B hne hk
    obtain ⟨x', A', c', u', e1, e2, e3, e4, e5, e6, e7, e8⟩ := hk
    have e1' := e1
    unfold tbCells at e1'
    injection e1' with _ e1'
    injection e1' with _ e1'
    injection e1' with e9 _
    injection e9 with e9 _ _
    subst e9
    refine ⟨⟨x', _, c', u', e1, e2, e3, e4, e5, e6, e7, hfar _ _ e8 hne⟩, fun hp ad e => ?_⟩
    rcases hlie with h6 | h6
    · rw [h6]; exact hne hp ad e
    · rw [h6]
      obtain ⟨b, off, e10, hlt, _⟩ := e8 hp
      rw [e] at e10
      injection e10 with e10
      subst e10
      intro e11
      injection e11 with e11
      dsimp only at e11 hlt
      omega
  refine ⟨by rw [hlen, List.flatMap_append]; simpa [tbCells] using hown, fun b hm => ?_, h1.2.2.grown hgr ?_ ?_⟩
  · rcases List.mem_append.1 hm with hm | hm
    · exact hnew b (h1.2.1 b hm).2 (h1.2.1 b hm).1
    · obtain rfl := List.mem_singleton.1 hm
      refine hnew _ (fun _ ad e => ?_) (TkC.keep hR.1 hb2.size fun bl o hlt => hb2.cell (p := ⟨bl, o, none⟩) hlt)
      intro e2
      have := hR.2 A1 _ c1 rfl ad e
      have := (hown0 _ e2.symm).2
      omega
  · rw [World.size_alloc, World.size_alloc]
    have := h.2.2.size
    omega
  · intro k hk
    exact (hown0 k hk).1
end Hx
end Go.Proofs.YtbjgfaflikgobaaDoor
namespace Go.Proofs.YtbjgfaflikgobaaDoor
open Go.RowKit
namespace Hx
open Lx Tx Nmb Es
set_option linter.unusedVariables false
deriving instance DecidableEq for Pr
deriving instance DecidableEq for Tk
theorem take_step {α : Type} {l m : List α} {k : Nat} (h1 : k < l.length) (h2 : k < m.length) (h : l.take k = m.take k) (he : l[k]'h1 = m[k]'h2) : l.take (k + 1) = m.take (k + 1) := by
  rw [List.take_succ_eq_append_getElem h1, List.take_succ_eq_append_getElem h2, h, he]
theorem pr_eq {a b : Pr} (h1 : a.name = b.name) (h2 : a.value = b.value) : a = b := by
  cases a; cases b
  dsimp only at h1 h2
  rw [h1, h2]
theorem ne_at {α : Type} {l m : List α} {k : Nat} (h1 : k < l.length) (h2 : k < m.length) (he : l[k]'h1 ≠ m[k]'h2) : l ≠ m := by
  rintro rfl
  exact he rfl
set_option maxHeartbeats 4000000 in
set_option maxRecDepth 100000 in
theorem rpairs9 (A A2 : Option Addr) (n cp n2 cp2 : Nat) (l l2 : List Pr) (w : World) (hr : RdC PrC w w.heap.size A l) (hn : l.length = n) (hr2 : RdC PrC w w.heap.size A2 l2) (hn2 : l2.length = n2) (hm : n ≤ 1000000) (hm2 : n2 ≤ 1000000) (q : Bool) (h : decide (l = l2) = q) :
    Calls Tryd.prog 15 #[.slice A n cp, .slice A2 n2 cp2] w fun e w' => e = .returned (.bool q) ∧ Below w.heap.size w w' := by
  have HR := Lib.hid hr
  have HN := Lib.hid hn
  have HR2 := Lib.hid hr2
  have HN2 := Lib.hid hn2
  have HM := Lib.hid hm
  have HH := Lib.hid h
  clear hr hn hr2 hn2 h
  by_cases hne : n = n2
  · subst hne
    have f0 : ((n : Int) != (n : Int)) = false := by simp
    go_enter Tryd.func15, Tryd.ntmps15
    go_wp2_with fail
    go_loopw [5] (fun i wr => ∃ k : Nat, k ≤ n ∧ i = .int .i64 k ∧ l.take k = l2.take k ∧ Below w.heap.size w wr) (fun i _ => n - (intOf i).toNat)
    case atStart => exact ⟨0, Nat.zero_le _, rfl, rfl, Below.refl _ _⟩
    case round =>
      obtain ⟨k, hk, rfl, hno, hbw⟩ := hrel
      have hm := HM.out
      have HBW := Lib.hid hbw
      by_cases hlt : k < n
      · have hk1 : k < l.length := by rw [HN.out]; exact hlt
        have hk2 : k < l2.length := by rw [HN2.out]; exact hlt
        obtain ⟨b0, off, rfl, hbB, hc⟩ := (HR.out.on hbw) (by omega)
        obtain ⟨cs, ⟨x, y, rfl, hx, hy⟩, hcell⟩ := hc k hk1
        obtain ⟨b1, of1, rfl, hbB1, hc1⟩ := (HR2.out.on hbw) (by omega)
        obtain ⟨cs1, ⟨x1, y1, rfl, hx1, hy1⟩, hcell1⟩ := hc1 k hk2
        have c0 : wr.cell? ⟨b0, off + k * 2, none⟩ = some (.string x) := hcell 0 (by simp)
        have c1 : wr.cell? ⟨b0, off + k * 2 + 1, none⟩ = some (.string y) := hcell 1 (by simp)
        have c2 : wr.cell? ⟨b1, of1 + k * 2, none⟩ = some (.string x1) := hcell1 0 (by simp)
        have c3 : wr.cell? ⟨b1, of1 + k * 2 + 1, none⟩ = some (.string y1) := hcell1 1 (by simp)
        clear hbw hc hc1 hcell hcell1
        have bk : (0 : Int) ≤ (k : Int) ∧ (k : Int) < (n : Int) := by omega
        by_cases hxy : x = x1 ∧ y = y1
        · obtain ⟨rfl, rfl⟩ := hxy
          go_wp2_with fail
          go_quiet (fail)
          go_wp2_with fail
          have HT : Hid (l.take (k + 1) = l2.take (k + 1)) := Lib.hid (take_step hk1 hk2 hno (pr_eq (hx.symm.trans hx1) (hy.symm.trans hy1)))
          clear hx hx1 hy hy1 hno
          go_roundw
          case rel => exact ⟨k + 1, by omega, by go_num, HT.out, below_drewN HBW.out _⟩
          case measure => simp [intOf]; omega
        · have hq : (x.toList == x1.toList && y.toList == y1.toList) = false := by
            rw [seq_l, seq_l]
            simp only [Bool.and_eq_false_iff, decide_eq_false_iff_not]
            by_cases h5 : x = x1
            · exact .inr fun e => hxy ⟨h5, ba_x e⟩
            · exact .inl fun e => h5 (ba_x e)
          obtain rfl : false = q := by
            rw [← HH.out, eq_comm, decide_eq_false_iff_not]
            refine ne_at hk1 hk2 fun e => hxy ⟨ba_x ?_, ba_x ?_⟩
            · rw [hx, hx1, e]
            · rw [hy, hy1, e]
          clear hx hx1 hy hy1 hno hxy
          rcases Bool.and_eq_false_iff.1 hq with q1 | q1
          · have q2 : ¬ x.toList = x1.toList := by simpa using q1
            go_wp2_with fail
            clear hq
            go_quiet (fail)
            go_wp2_with fail
            go_ret
            exact ⟨rfl, below_drewN HBW.out _⟩
          · have q2 : ¬ y.toList = y1.toList := by simpa using q1
            go_wp2_with fail
            clear hq
            go_quiet (fail)
            go_wp2_with fail
            go_ret
            exact ⟨rfl, below_drewN HBW.out _⟩
      · obtain rfl : k = n := by omega
        obtain rfl : true = q := by
          rw [← HH.out, eq_comm, decide_eq_true_eq]
          rwa [List.take_of_length_le (by rw [HN.out]; exact Nat.le_refl _), List.take_of_length_le (by rw [HN2.out]; exact Nat.le_refl _)] at hno
        clear hno
        go_wp2_with fail
        go_ret
        exact ⟨rfl, HBW.out⟩
  · have d0 : ((n : Int) != (n2 : Int)) = true := by simp; omega
    have d1 : (n != n2) = true := by simpa using hne
    have d2 : (n == n2) = false := by simpa using hne
    obtain rfl : false = q := by
      rw [← HH.out, eq_comm, decide_eq_false_iff_not]
      rintro rfl
      exact hne (HN.out.symm.trans HN2.out)
    clear hne
    go_enter Tryd.func15, Tryd.ntmps15
    go_wp2_with fail
    go_ret
    exact ⟨rfl, Below.refl _ _⟩
end Hx
end Go.Proofs.YtbjgfaflikgobaaDoor
