/-
  Texts of one seat, put together: LexWr, MemE, PkA, RegZ, PkB, EscC.
-/
import Derived.Test.YtbjgfaflikgobaaDoorH11
import Derived.Test.YtbjgfaflikgobaaDoorH06
import Derived.Laws.AppendOwnNone
import Derived.Test.YtbjgfaflikgobaaDoorH02
import Derived.Maps.AppendAt
import Derived.Deep.AppendLies
import Derived.Test.YtbjgfaflikgobaaDoorH04
import Derived.OrdersHeld
import Derived.Deep.RegionHeld3
import Derived.Test.YtbjgfaflikgobaaDoorH05
import Derived.Test.YtbjgfaflikgobaaDoorShelf
import Derived.Lib.ConvBytes
import Derived.Laws.Externs
namespace Go.Proofs.YtbjgfaflikgobaaDoor
open Go.RowKit
namespace Hx
open Lx Tx Nmb Es
set_option linter.unusedVariables false
theorem LexSt.next1 {w wr w1 w5 : World} {L : List TB} {A A4 A1 : Option Addr} {c c4 c1 : Nat} {x u : ByteArray} {t : Tk} {o2 : Obj} (h : LexSt w L (.slice A L.length c) wr) (hb : Below wr.heap.size wr w1)
    (hR : TkR wr.heap.size w1 #[.int .u8 (t.kind : Int), .string x, .slice A1 t.attrs.length c1, .string u] t)
    (hown : w5.ownsRow w.heap.size 26 4 (.slice A4 (L.length + 1) c4) (L.length + 1) (L.flatMap tbCells ++ [.int .u8 (t.kind : Int), .string x, .slice A1 t.attrs.length c1, .string u]))
    (hgr : (w1.alloc o2).grownBy w5 (Value.slice A L.length c).ownBlock)
    (hlie : (Value.slice A4 (L.length + 1) c4).ownBlock = (Value.slice A L.length c).ownBlock ∨ (Value.slice A4 (L.length + 1) c4).ownBlock = some (w1.alloc o2).heap.size) :
    LexSt w (L ++ [⟨x, A1, c1, u, t⟩]) (.slice A4 (L.length + 1) c4) w5 := by
  have hb2 : Below w1.heap.size w1 (w1.alloc o2) := stpA (Below.refl _ _) _
  have h1 := (h.below hb).below hb2
  have hlen : (L ++ [(⟨x, A1, c1, u, t⟩ : TB)]).length = L.length + 1 := by simp
  have hfar : ∀ (A' : Option Addr) (l : List Pr), RdC PrC (w1.alloc o2) (w1.alloc o2).heap.size A' l → (0 < l.length → ∀ ad, A' = some ad → some ad.block ≠ (Value.slice A L.length c).ownBlock) → RdC PrC w5 w5.heap.size A' l := by
    intro A' l hr hne hp
    obtain ⟨b, off, rfl, hlt, hc⟩ := hr hp
    refine ⟨b, off, rfl, Nat.lt_of_lt_of_le hlt hgr.size, fun j hj => ?_⟩
    obtain ⟨cs', k1, k2⟩ := hc j hj
    exact ⟨cs', k1, fun i hi => hgr.cell (k2 i hi) (hne hp ⟨b, off, none⟩ rfl)⟩
  have hw1 := hb.size
  have hown0 : ∀ k, (Value.slice A L.length c).ownBlock = some k → w.heap.size ≤ k ∧ k < wr.heap.size := fun k hk => h.1.lt k hk
  have hnew : ∀ (B : TB), (0 < B.t.attrs.length → ∀ ad, B.A = some ad → some ad.block ≠ (Value.slice A L.length c).ownBlock) → TkC.R (w1.alloc o2) (w1.alloc o2).heap.size (tbCells B) B.t → TkC.R w5 w5.heap.size (tbCells B) B.t ∧ ((0 < B.t.attrs.length → ∀ ad, B.A = some ad → some ad.block ≠ (Value.slice A4 (L.length + 1) c4).ownBlock)) := by
    intro B hne hk
    obtain ⟨x', A', c', u', e1, e2, e3, e4, e5, e6, e7, e8⟩ := hk
    have e1' := e1
    unfold tbCells at e1'
    injection e1' with _ e1'
    injection e1' with _ e1'
    injection e1' with e9 _
    injection e9 with e9 _ _
    subst e9
    refine ⟨⟨x', _, c', u', e1, e2, e3, e4, e5, e6, e7, hfar _ _ e8 hne⟩, fun hp ad e => ?_⟩
    rcases hlie with h6 | h6
    · rw [h6]; exact hne hp ad e
    · rw [h6]
      obtain ⟨b, off, e10, hlt, _⟩ := e8 hp
      rw [e] at e10
      injection e10 with e10
      subst e10
      intro e11
      injection e11 with e11
      dsimp only at e11 hlt
      omega
  refine ⟨by rw [hlen, List.flatMap_append]; simpa [tbCells] using hown, fun b hm => ?_, h1.2.2.grown hgr ?_ ?_⟩
  · rcases List.mem_append.1 hm with hm | hm
    · exact hnew b (h1.2.1 b hm).2 (h1.2.1 b hm).1
    · obtain rfl := List.mem_singleton.1 hm
      refine hnew _ (fun _ ad e => ?_) (TkC.keep hR.1 hb2.size fun bl o hlt => hb2.cell (p := ⟨bl, o, none⟩) hlt)
      intro e2
      have := hR.2 A1 _ c1 rfl ad e
      have := (hown0 _ e2.symm).2
      omega
  · rw [World.size_alloc]
    have := h.2.2.size
    omega
  · intro k hk
    exact (hown0 k hk).1
def pbOf (p : Pr) : PB := (⟨p.name.toArray⟩, ⟨p.value.toArray⟩)
theorem prVal_pbOf (p : Pr) : prVal (pbOf p) = p := by cases p; simp [prVal, pbOf]
theorem map_pbOf (l : List Pr) : (l.map pbOf).map prVal = l := by
  rw [List.map_map]
  exact (List.map_congr_left (g := id) fun p _ => prVal_pbOf p).trans (List.map_id _)
theorem rdc_news {w : World} {B : Nat} {ad : Addr} {l : List Pr} (h : RdC PrC w B (some ad) l) : ∀ (j : Nat) (u : Value), ((l.map pbOf).flatMap prCells)[j]? = some u → w.cell? (ad.add j) = some u := by
  intro j u hu
  have hlen := flat_len prCells 2 (fun _ => rfl) (l.map pbOf)
  rw [List.length_map] at hlen
  have hj := (List.getElem?_eq_some_iff.1 hu).1
  have hq : j / 2 < l.length := by omega
  obtain ⟨b, off, e, _, hc⟩ := h (by omega)
  injection e with e
  subst e
  obtain ⟨cs, ⟨s, t, rfl, hs, ht⟩, hcell⟩ := hc (j / 2) hq
  have hat := flat_at prCells 2 (fun _ => rfl) (l.map pbOf) (j / 2) (j % 2) (by rw [List.length_map]; exact hq) (by omega)
  rw [show j / 2 * 2 + j % 2 = j by omega, hu] at hat
  rw [addr_plain]
  rw [List.getElem_map] at hat
  have e1 : s = ⟨(l[j / 2]'hq).name.toArray⟩ := ba_x (by rw [hs])
  have e2 : t = ⟨(l[j / 2]'hq).value.toArray⟩ := ba_x (by rw [ht])
  rcases (show j % 2 = 0 ∨ j % 2 = 1 by omega) with h0 | h0
  · have := hcell 0 (by simp)
    rw [show off + j = off + j / 2 * 2 + 0 by omega]
    refine this.trans ?_
    rw [Option.some.inj hat]
    simp [h0, prCells, pbOf, e1]
  · have := hcell 1 (by simp)
    rw [show off + j = off + j / 2 * 2 + 1 by omega]
    refine this.trans ?_
    rw [Option.some.inj hat]
    simp [h0, prCells, pbOf, e2]
theorem news_one (l : List Pr) : ∀ u ∈ (l.map pbOf).flatMap prCells, u.oneCell' = true := by
  intro u hu
  obtain ⟨p, _, h⟩ := List.mem_flatMap.1 hu
  simp [prCells] at h
  rcases h with rfl | rfl <;> rfl
theorem own_empty (w : World) (T : TypeId) (k : Nat) : (w.alloc (.cells #[] T)).ownsRow w.heap.size T k (.slice (some ⟨w.heap.size, 0, none⟩) 0 0) 0 [] :=
  ⟨by simp, .inr ⟨w.heap.size, 0, #[], rfl, Nat.le_refl _, heap_alloc_new _ _, Nat.le_refl _, Nat.zero_le _, by simp, by simp⟩⟩
/-- append(own, attributes...) to a row of none. -/
theorem wpList_append_pr {P : Program} {w : World} {ops : Array Oper} {rest : List Oper} {o : Oper} {a : Act} {Q : Exit → Act → World → Prop} (hgd : o.guard = none) (s x : Operand) (t : TypeId)
    (ho : o.op = .call { callee := .builtin .append, args := #[s, x], argTypes := #[t, t] })
    (base : Nat) (e : TypeId) (i : TypeInfo) (z : Value) (ht : P.underlying t = some (.slice e)) (hi : P.info? e = some i) (hz : i.zero = some z) (hsize : i.size = 2) (hby : i.bytes = 32) (hzs : z.cells.size = 2)
    (v : Value) (hs : a.eval s = v) (hown : w.ownsRow base e 2 v 0 [])
    (B : Nat) (A : Option Addr) (m c : Nat) (l : List Pr) (hx : a.eval x = .slice A m c) (hr : RdC PrC w B A l) (hl : l.length = m) (hc0 : A = none → c = 0) (hb : m ≤ 1000000) (hbase : base ≤ w.heap.size)
    (h : ∀ v' w', w'.ownsRow base e 2 v' m ((l.map pbOf).flatMap prCells) → w.grownBy w' v.ownBlock → wpList P ops Q rest (a.put o.dst v') w') : wpList P ops Q (o :: rest) a w := by
  have hlen := flat_len prCells 2 (fun _ => rfl) (l.map pbOf)
  rw [List.length_map, hl] at hlen
  rcases A with _ | ad
  · have h0 : l = [] := by
      rcases Nat.eq_zero_or_pos l.length with h0 | h0
      · exact List.eq_nil_of_length_eq_zero h0
      · obtain ⟨_, _, he, _⟩ := hr h0
        cases he
    subst h0
    obtain rfl : 0 = m := hl
    rw [hc0 rfl] at hx
    exact wpList_append_own_none hgd s x t ho base e i 2 ht hi v 0 [] hs hown hx (h v w hown (World.grownBy.refl _ _))
  · refine wpList_append_own w hgd s x t ho base e i z 2 32 ht hi hz hsize hby hzs (by decide) v 0 [] hs hown ad m c ((l.map pbOf).flatMap prCells) hx hlen (rdc_news hr) (news_one l) (by unfold maxLen; omega) (by omega) hbase (fun v' w' h1 h2 _ => ?_)
    rw [Nat.zero_add, List.nil_append] at h1
    exact h v' w' h1 h2
theorem tk_at2 {w : World} {A : Option Addr} {l : List Tk} {k : Nat} (hr : RdC TkC w w.heap.size A l) (hk : k < l.length) (hs : Small (l[k]'hk)) :
    ∃ (b off : Nat) (x u : ByteArray) (A1 : Option Addr) (p1 : Nat), A = some ⟨b, off, none⟩ ∧ b < w.heap.size ∧ w.cell? ⟨b, off + k * 4, none⟩ = some (.int .u8 ((l[k]'hk).kind : Int)) ∧ w.cell? ⟨b, off + k * 4 + 1, none⟩ = some (.string x) ∧
      w.cell? ⟨b, off + k * 4 + 2, none⟩ = some (.slice A1 (l[k]'hk).attrs.length p1) ∧ w.cell? ⟨b, off + k * 4 + 3, none⟩ = some (.string u) ∧ TkAt (l[k]'hk) x u A1 p1 w ∧ (A1 = none → p1 = 0) ∧ (l[k]'hk).kind < 256 := by
  obtain ⟨b, off, e, hb, hc⟩ := hr (by omega)
  obtain ⟨cs, ⟨x, A1, p1, u, rfl, hkd, hx, hu, hle, hmx, hnl, hrd⟩, hcell⟩ := hc k hk
  obtain ⟨s1, s2, s3, s4⟩ := hs
  refine ⟨b, off, x, u, A1, p1, e, hb, hcell 0 (by simp), hcell 1 (by simp), hcell 2 (by simp), hcell 3 (by simp), ⟨hx, hu, hrd, hle, ?_, ?_, s3, s4⟩, hnl, hkd⟩
  · rw [← ba_l, hx]; exact s1
  · rw [← ba_l, hu]; exact s2
theorem own_emptyB (w : World) (o : Obj) (T : TypeId) (k : Nat) : ((w.alloc o).alloc (.cells #[] T)).ownsRow (w.heap.size + 1) T k (.slice (some ⟨w.heap.size + 1, 0, none⟩) 0 0) 0 [] := by
  have := own_empty (w.alloc o) T k
  rwa [World.size_alloc] at this
/-- Behind the append of the attributes: the box stands; what lay below it, too. -/
theorem copy_box (wr w3 : World) (cs : Array Value) (T : TypeId) {T2 : TypeId} (hgr : ((wr.alloc (.cells cs T)).alloc (.cells #[] T2)).grownBy w3 (Value.slice (some ⟨wr.heap.size + 1, 0, none⟩) 0 0).ownBlock) :
    w3.heap[wr.heap.size]? = some (.cells cs T (0, 0)) ∧ Below wr.heap.size wr w3 := by
  have h1 := kept_heap (heap_alloc_new wr (.cells cs T)) (stpA (Below.refl (wr.alloc (.cells cs T)).heap.size (wr.alloc (.cells cs T))) (.cells #[] T2))
  refine ⟨(hgr.block _ (Array.getElem?_eq_some_iff.1 h1).1 (fun e => by have e : some wr.heap.size = some (wr.heap.size + 1) := e; injection e with e; omega)).trans h1, ?_⟩
  refine (stpA (stpA (Below.refl wr.heap.size wr) (.cells cs T)) (.cells #[] T2)).grown hgr (by simp; omega) fun k hk => ?_
  have hk : some (wr.heap.size + 1) = some k := hk
  injection hk with hk
  omega
theorem copy_set (wr w3 : World) (z : Int) (x u : ByteArray) (v v' : Value) (h : w3.heap[wr.heap.size]? = some (.cells #[.int .u8 z, .string x, v, .string u] 26 (0, 0))) (hb : Below wr.heap.size wr w3) :
    (w3.setCell ⟨wr.heap.size, 2, none⟩ v').heap[wr.heap.size]? = some (.cells #[.int .u8 z, .string x, v', .string u] 26 (0, 0)) ∧ Below wr.heap.size wr (w3.setCell ⟨wr.heap.size, 2, none⟩ v') := by
  refine ⟨?_, hb.setCell (p := ⟨wr.heap.size, 2, none⟩) (Nat.le_refl _) _⟩
  simp [World.setCell, Array.getElem?_modify, h]
/-- Behind the append of the token. -/
theorem copy_fin {w wr w3 w5 : World} {L : List TB} {Ao A3 A5 : Option Addr} {co c3 c5 : Nat} {x u : ByteArray} {t : Tk} {o2 : Obj} (h : LexSt w L (.slice Ao L.length co) wr) (hbw : Below w.heap.size w wr)
    (ho3 : w3.ownsRow (wr.heap.size + 1) 37 2 (.slice A3 t.attrs.length c3) t.attrs.length ((t.attrs.map pbOf).flatMap prCells))
    (hs3 : (w3.setCell ⟨wr.heap.size, 2, none⟩ (.slice A3 t.attrs.length c3)).heap[wr.heap.size]? = some (.cells #[.int .u8 (t.kind : Int), .string x, .slice A3 t.attrs.length c3, .string u] 26 (0, 0)) ∧ Below wr.heap.size wr (w3.setCell ⟨wr.heap.size, 2, none⟩ (.slice A3 t.attrs.length c3)))
    (hx : x.data.toList = t.name) (hu : u.data.toList = t.text) (hkd : t.kind < 256)
    (hown : w5.ownsRow w.heap.size 26 4 (.slice A5 (L.length + 1) c5) (L.length + 1) (L.flatMap tbCells ++ [.int .u8 (t.kind : Int), .string x, .slice A3 t.attrs.length c3, .string u]))
    (hgr : ((w3.setCell ⟨wr.heap.size, 2, none⟩ (.slice A3 t.attrs.length c3)).alloc o2).grownBy w5 (Value.slice Ao L.length co).ownBlock)
    (hlie : (Value.slice A5 (L.length + 1) c5).ownBlock = (Value.slice Ao L.length co).ownBlock ∨ (Value.slice A5 (L.length + 1) c5).ownBlock = some ((w3.setCell ⟨wr.heap.size, 2, none⟩ (.slice A3 t.attrs.length c3)).alloc o2).heap.size) :
    LexSt w (L ++ [⟨x, A3, c3, u, t⟩]) (.slice A5 (L.length + 1) c5) w5 ∧ w5.heap[wr.heap.size]? = some (.cells #[.int .u8 (t.kind : Int), .string x, .slice A3 t.attrs.length c3, .string u] 26 (0, 0)) ∧ RdC PrC w5 w5.heap.size A3 t.attrs ∧ t.attrs.length ≤ c3 := by
  have hos := own_setCell ho3 wr.heap.size 2 (by omega) (.slice A3 t.attrs.length c3)
  obtain ⟨r1, _, r3, r4, r5⟩ := own_attrs hos
  rw [map_pbOf] at r1
  have hR : TkR wr.heap.size (w3.setCell ⟨wr.heap.size, 2, none⟩ (.slice A3 t.attrs.length c3)) #[.int .u8 (t.kind : Int), .string x, .slice A3 t.attrs.length c3, .string u] t := by
    refine ⟨⟨x, A3, c3, u, rfl, hkd, hx, hu, r3, r4, r5, r1⟩, fun A n c e ad ea => ?_⟩
    have e' : Value.slice A3 t.attrs.length c3 = .slice A n c := Option.some.inj e
    injection e' with e1 _ _
    subst e1
    rcases hos.2 with ⟨ev, _⟩ | ⟨g, cap, cur, ev, hg, _⟩
    · injection ev with ev _ _
      rw [ev] at ea
      cases ea
    · injection ev with ev _ _
      rw [ev] at ea
      injection ea with ea
      subst ea
      dsimp only
      omega
  have hst := LexSt.next1 h hs3.2 hR hown hgr hlie
  have hk0 := kept_heap hs3.1 (stpA (Below.refl (w3.setCell ⟨wr.heap.size, 2, none⟩ (.slice A3 t.attrs.length c3)).heap.size (w3.setCell ⟨wr.heap.size, 2, none⟩ (.slice A3 t.attrs.length c3))) o2)
  refine ⟨hst, (hgr.block _ (Array.getElem?_eq_some_iff.1 hk0).1 (fun e => by have := (h.1.lt _ e.symm).2; omega)).trans hk0, ?_, r3⟩
  obtain ⟨x', A', c', u', e1, _, _, _, _, _, _, e8⟩ := (hst.2.1 ⟨x, A3, c3, u, t⟩ (by simp)).1
  unfold tbCells at e1
  injection e1 with _ e1
  injection e1 with _ e1
  injection e1 with e9 _
  injection e9 with e9 _ _
  subst e9
  exact e8
end Hx
end Go.Proofs.YtbjgfaflikgobaaDoor
namespace Go.Proofs.YtbjgfaflikgobaaDoor
open Go.RowKit
namespace Hx
open Lx Tr
set_option linter.unusedVariables false
theorem RdS.of_own {α β : Type} {C : CodS α} {w : World} {S : Nat → Prop} {base : Nat} {e : TypeId} {A : Option Addr} {n c : Nat} (f : β → List Value) (val : β → α) (hk : ∀ b, (f b).length = C.k) (hk0 : 0 < C.k) (l : List β) (hR : ∀ b ∈ l, C.R w S (f b) (val b)) (hS : ∀ g, (Value.slice A n c).ownBlock = some g → S g)
    (h : w.ownsRow base e C.k (.slice A n c) n (l.flatMap f)) : RdS C w S A (l.map val) ∧ l.length = n ∧ n ≤ c ∧ c ≤ maxLen ∧ (A = none → c = 0) := by
  have hl : l.length = n := by
    have := h.1
    rw [flat_len f C.k hk] at this
    exact Nat.eq_of_mul_eq_mul_right hk0 this
  rcases h.2 with ⟨e1, h0⟩ | ⟨g, cap, cur, hv, hb, hg, hnc, hcm, _, _⟩
  · injection e1 with e1 e2 e3
    subst e1 e3
    have : l = [] := List.eq_nil_of_length_eq_zero (by omega)
    subst this
    exact ⟨RdS.nil _ _ _, hl, by omega, Nat.zero_le _, fun _ => rfl⟩
  · injection hv with e1 e2 e3
    subst e1 e3
    refine ⟨fun hp => ⟨g, 0, rfl, hS g rfl, fun j hj => ?_⟩, hl, hnc, hcm, fun h => by cases h⟩
    have hj' : j < l.length := by simpa using hj
    refine ⟨f (l[j]'hj'), by simpa using hR _ (List.getElem_mem hj'), fun i hi => ?_⟩
    have hi' : i < C.k := by rw [hk] at hi; exact hi
    have := h.cells (g := g) rfl (j * C.k + i) _ (flat_at f C.k hk l j i hj' hi')
    rw [addr_plain] at this
    rw [Nat.zero_add, ← this, Nat.zero_add]
/-- An attribute as the program holds it. -/
structure AB where
  x : ByteArray
  y : ByteArray
  z : ByteArray
def abCells (b : AB) : List Value := [.string b.x, .string b.y, .string b.z]
def abVal (b : AB) : At := ⟨b.x.data.toList, b.y.data.toList, b.z.data.toList⟩
def abOf (a : At) : AB := ⟨⟨a.space.toArray⟩, ⟨a.name.toArray⟩, ⟨a.value.toArray⟩⟩
theorem abVal_of (a : At) : abVal (abOf a) = a := by cases a; simp [abVal, abOf]
theorem map_abOf (l : List At) : (l.map abOf).map abVal = l := by
  rw [List.map_map]
  exact (List.map_congr_left (g := id) fun a _ => abVal_of a).trans (List.map_id _)
theorem ab_R (w : World) (S : Nat → Prop) (b : AB) : AtS.R w S (abCells b) (abVal b) := ⟨b.x, b.y, b.z, rfl, rfl, rfl, rfl⟩
/-- A node as the program holds it. -/
structure NB where
  n : Nd
  x : ByteArray
  y : ByteArray
  z : ByteArray
  A : Option Addr
  c : Nat
def nbCells (b : NB) : List Value := ndCells b.n b.x b.y b.z b.A b.c
/-- Where what nodes lead to lies: from a block on, elsewhere than in a row; of the call's own memory none is marked. -/
def Far (lo : Nat) (w0 wr : World) (row : Option Nat) (k : Nat) : Prop := lo ≤ k ∧ k < wr.heap.size ∧ some k ≠ row ∧ (w0.heap.size ≤ k → ∀ o, wr.frozen? ⟨k, o, none⟩ = false)
theorem Far.below {lo k : Nat} {w0 wr w' : World} {row : Option Nat} (h : Far lo w0 wr row k) (hb : Below wr.heap.size wr w') : Far lo w0 w' row k :=
  ⟨h.1, Nat.lt_of_lt_of_le h.2.1 hb.size, h.2.2.1, fun hk o => (hb.frozen (p := ⟨k, o, none⟩) h.2.1).trans (h.2.2.2 hk o)⟩
/-- The nodes so far: an own row; where what they lead to lies. -/
def NdSt (lo : Nat) (w0 : World) (L : List NB) (v : Value) (wr : World) : Prop :=
  wr.ownsRow w0.heap.size 50 6 v L.length (L.flatMap nbCells) ∧ (∀ b ∈ L, NdIn b.n b.x b.y b.z b.A b.c wr (Far lo w0 wr v.ownBlock)) ∧ Below w0.heap.size w0 wr
theorem NdSt.nil (lo : Nat) {w wr : World} (hb : Below w.heap.size w wr) : NdSt lo w [] (.slice none 0 0) wr := ⟨World.ownsRow_nil _ _ _ _, (fun b hb => by cases hb), hb⟩
theorem NdSt.below {lo : Nat} {w wr w' : World} {L : List NB} {v : Value} (h : NdSt lo w L v wr) (hb : Below wr.heap.size wr w') : NdSt lo w L v w' :=
  ⟨own_belowK h.1 hb (Nat.le_refl _), fun b hm => (h.2.1 b hm).keep (fun k hk => hk.below hb) fun b o hk => hb.cell (p := ⟨b, o, none⟩) hk.2.1, stp h.2.2 hb⟩
theorem NdSt.more {lo : Nat} {w wr w2 w5 : World} {L M : List NB} {v v5 : Value} (h : NdSt lo w L v wr) (hb : Below wr.heap.size wr w2) (hM : ∀ b ∈ M, NdIn b.n b.x b.y b.z b.A b.c w2 (Far lo w w2 v.ownBlock))
    (hown : w5.ownsRow w.heap.size 50 6 v5 (L.length + M.length) (L.flatMap nbCells ++ M.flatMap nbCells)) (hgr : w2.grownBy w5 v.ownBlock) (hlie : v5.ownBlock = v.ownBlock ∨ v5.ownBlock = some w2.heap.size) : NdSt lo w (L ++ M) v5 w5 := by
  have h2 := h.below hb
  refine ⟨by rw [List.length_append, List.flatMap_append]; exact hown, fun b hm => ?_, h2.2.2.grown hgr ?_ fun k hk => (h.1.lt k hk).1⟩
  · have hb0 : NdIn b.n b.x b.y b.z b.A b.c w2 (Far lo w w2 v.ownBlock) := by
      rcases List.mem_append.1 hm with hm | hm
      · exact h2.2.1 b hm
      · exact hM b hm
    refine hb0.keep (fun k hk => ⟨hk.1, Nat.lt_of_lt_of_le hk.2.1 hgr.size, ?_, fun hk2 o => (hgr.frozen_far ⟨k, o, none⟩ hk.2.1 hk.2.2.1).trans (hk.2.2.2 hk2 o)⟩) fun k o hk => hgr.cell_far ⟨k, o, none⟩ hk.2.1 hk.2.2.1
    rcases hlie with e | e
    · rw [e]; exact hk.2.2.1
    · rw [e]
      intro e2
      injection e2 with e2
      have := hk.2.1
      omega
  · have := h2.2.2.size
    omega
/-- Nodes that a call answers: where they lie. -/
structure NdOut (lo : Nat) (w0 : World) (v : List Nd) (A : Option Addr) (c : Nat) (w : World) : Prop where
  rd : RdS NdS w (Far lo w0 w none) A v
  le : v.length ≤ c
  cm : c ≤ maxLen
  nil : A = none → c = 0
theorem NdOut.below {lo : Nat} {w0 : World} {v : List Nd} {A : Option Addr} {c : Nat} {w w' : World} (h : NdOut lo w0 v A c w) (hb : Below w.heap.size w w') : NdOut lo w0 v A c w' :=
  ⟨h.rd.keep (fun k hk => hk.below hb) fun b o hk => hb.cell (p := ⟨b, o, none⟩) hk.2.1, h.le, h.cm, h.nil⟩
theorem NdOut.all {lo : Nat} {w0 : World} {v : List Nd} {A : Option Addr} {c : Nat} {w : World} (h : NdOut lo w0 v A c w) : RdB NdS w A v := h.rd.mono fun b hb => hb.2.1
theorem NdOut.none (lo : Nat) (w0 w : World) : NdOut lo w0 [] none 0 w := ⟨RdS.nil _ _ _, Nat.le_refl _, Nat.zero_le _, fun _ => rfl⟩
/-- What such a row reads as. -/
theorem NdSt.read {lo : Nat} {w wr : World} {L : List NB} {A : Option Addr} {n c : Nat} (h : NdSt lo w L (.slice A n c) wr) (hlo : lo ≤ w.heap.size) : NdOut lo w (L.map NB.n) A c wr ∧ L.length = n := by
  have hn : n = L.length := by
    have h1 := h.1
    rcases h1.2 with ⟨e, h0⟩ | ⟨g, cap, cur, hv, _⟩
    · injection e with _ e _; omega
    · injection hv with _ e _
  subst hn
  obtain ⟨r1, r2, r3, r4, r5⟩ := RdS.of_own (C := NdS) (S := Far lo w wr none) nbCells NB.n (fun _ => rfl) (by decide) L (fun b hm => ⟨b.x, b.y, b.z, b.A, b.c, rfl, (h.2.1 b hm).keep (fun k hk => ⟨hk.1, hk.2.1, by simp, hk.2.2.2⟩) fun _ _ _ => rfl⟩) (fun g hg => by
    have h3 := h.1.lt g hg
    refine ⟨by omega, h3.2, by simp, fun _ o => ?_⟩
    rcases h.1.2 with ⟨e, h0⟩ | ⟨g', cap, cur, hv, hb', hg', _⟩
    · rw [e] at hg; cases hg
    · rw [hv] at hg
      have : g' = g := by simpa [Value.ownBlock] using hg
      subst this
      exact freeV wr _ o _ _ hg') h.1
  exact ⟨⟨r1, by rw [List.length_map]; exact r3, r4, r5⟩, rfl⟩
theorem infoNd : (Tryd.prog.info? 50).map (fun i => (i.zero, i.size, i.bytes)) = some (some (.agg #[.int .u8 0, .string ⟨#[]⟩, .string ⟨#[]⟩, .slice none 0 0, .string ⟨#[]⟩, .int .i64 0]), 6, 88) := by kernel_rfl
theorem infoAt : (Tryd.prog.info? 61).map (fun i => (i.zero, i.size, i.bytes)) = some (some (.agg #[.string ⟨#[]⟩, .string ⟨#[]⟩, .string ⟨#[]⟩]), 3, 48) := by kernel_rfl
end Hx
end Go.Proofs.YtbjgfaflikgobaaDoor
namespace Go.Proofs.YtbjgfaflikgobaaDoor
open Go.RowKit
namespace Hx
open Lx Tr Tx Nmb Es
set_option linter.unusedVariables false
theorem cell_blkP {w w' : World} {b o : Nat} (h : w'.heap[b]? = w.heap[b]?) : w'.cell? ⟨b, o, none⟩ = w.cell? ⟨b, o, none⟩ := by simp [World.cell?, h]
/-- One cell of an own row is turned. -/
theorem ownp_set {w : World} {base : Nat} {e : TypeId} {size n c g j : Nat} {xs : List Value} (h : w.ownsRow base e size (.slice (some ⟨g, 0, none⟩) n c) n xs) (u : Value) (hj : j < n * size) :
    (w.setCell ⟨g, j, none⟩ u).ownsRow base e size (.slice (some ⟨g, 0, none⟩) n c) n (xs.set j u) := by
  refine ⟨by rw [List.length_set]; exact h.1, .inr ?_⟩
  rcases h.2 with ⟨e0, _⟩ | ⟨g', cap, cur, hv, hb, hg, h1, h2, h3, h4⟩
  · cases e0
  · injection hv with e1 _ e3
    injection e1 with e1
    injection e1 with e1 _ _
    subst e1 e3
    refine ⟨g, c, cur.setIfInBounds j u, rfl, hb, heap_setCell_same w g j cur e u hg, h1, h2, by rw [Array.size_setIfInBounds]; exact h3, ?_⟩
    rw [Array.toList_setIfInBounds, ← h4, List.take_set]
/-- An own row, cut off. -/
theorem ownp_cut {w : World} {base : Nat} {e : TypeId} {size n c m : Nat} {A : Option Addr} {xs : List Value} (h : w.ownsRow base e size (.slice A n c) n xs) (hm : m ≤ n) : w.ownsRow base e size (.slice A m c) m (xs.take (m * size)) := by
  have hms : m * size ≤ n * size := Nat.mul_le_mul_right _ hm
  refine ⟨by rw [List.length_take, h.1]; omega, ?_⟩
  rcases h.2 with ⟨e0, h0⟩ | ⟨g, cap, cur, hv, hb, hg, h1, h2, h3, h4⟩
  · injection e0 with e1 e2 e3
    subst e1 e2 e3
    obtain rfl : m = 0 := by omega
    exact .inl ⟨rfl, rfl⟩
  · injection hv with e1 _ e3
    subst e1 e3
    refine .inr ⟨g, c, cur, rfl, hb, hg, by omega, h2, h3, ?_⟩
    rw [← h4, List.take_take]
    congr 1
    omega
/-- The rows of a tree under way. -/
structure GrSt (base hi : Nat) (L : List NB) (O : List Nat) (Vn Vo : Value) (wr : World) : Prop where
  nd : wr.ownsRow base 50 6 Vn L.length (L.flatMap nbCells)
  op : wr.ownsRow base 3 1 Vo O.length ((zs O).map encZ)
  ne : ∀ q, Vn.ownBlock = some q → Vo.ownBlock ≠ some q
  inn : ∀ b ∈ L, NdIn b.n b.x b.y b.z b.A b.c wr (fun k => base ≤ k ∧ k < hi ∧ some k ≠ Vn.ownBlock ∧ some k ≠ Vo.ownBlock)
  lo : base ≤ hi
  sz : hi ≤ wr.heap.size
theorem ownp_keep {w w' : World} {base : Nat} {e : TypeId} {size : Nat} {v : Value} {n : Nat} {xs : List Value} (h : w.ownsRow base e size v n xs) (hk : ∀ q, v.ownBlock = some q → w'.heap[q]? = w.heap[q]?) : w'.ownsRow base e size v n xs := by
  refine ⟨h.1, ?_⟩
  rcases h.2 with h0 | ⟨g, cap, cur, hv, hb, hg, h1⟩
  · exact .inl h0
  · exact .inr ⟨g, cap, cur, hv, hb, (hk g (by rw [hv]; rfl)).trans hg, h1⟩
theorem GrSt.keep {base hi hi' : Nat} {L : List NB} {O : List Nat} {Vn Vo : Value} {wr w' : World} (h : GrSt base hi L O Vn Vo wr) (hk : ∀ q, base ≤ q → (q < hi ∨ Vn.ownBlock = some q ∨ Vo.ownBlock = some q) → w'.heap[q]? = wr.heap[q]?) (h1 : hi ≤ hi') (h2 : hi' ≤ w'.heap.size) : GrSt base hi' L O Vn Vo w' :=
  ⟨ownp_keep h.nd fun q hq => hk q (h.nd.lt q hq).1 (.inr (.inl hq)), ownp_keep h.op fun q hq => hk q (h.op.lt q hq).1 (.inr (.inr hq)), h.ne,
   fun b hb => (h.inn b hb).keep (fun k hk => ⟨hk.1, Nat.lt_of_lt_of_le hk.2.1 h1, hk.2.2⟩) fun b o hS => cell_blkP (hk b hS.1 (.inl hS.2.1)), Nat.le_trans h.lo h1, h2⟩
theorem GrSt.below {base hi hi' : Nat} {L : List NB} {O : List Nat} {Vn Vo : Value} {wr w' : World} (h : GrSt base hi L O Vn Vo wr) (hb : Below wr.heap.size wr w') (h1 : hi ≤ hi') (h2 : hi' ≤ w'.heap.size) : GrSt base hi' L O Vn Vo w' :=
  h.keep (fun q _ hq => hb.block q (by
    rcases hq with hq | hq | hq
    · exact Nat.lt_of_lt_of_le hq h.sz
    · exact (h.nd.lt q hq).2
    · exact (h.op.lt q hq).2)) h1 h2
/-- A node more. -/
theorem GrSt.push {base hi : Nat} {L : List NB} {O : List Nat} {Vn Vo V5 : Value} {w2 w5 : World} (h : GrSt base hi L O Vn Vo w2) (b : NB) (hb : NdIn b.n b.x b.y b.z b.A b.c w2 (fun k => base ≤ k ∧ k < hi ∧ some k ≠ Vn.ownBlock ∧ some k ≠ Vo.ownBlock))
    (hown : w5.ownsRow base 50 6 V5 (L.length + 1) (L.flatMap nbCells ++ nbCells b)) (hgr : w2.grownBy w5 Vn.ownBlock) (hlie : V5.ownBlock = Vn.ownBlock ∨ ∃ q, hi ≤ q ∧ V5.ownBlock = some q ∧ Vo.ownBlock ≠ some q) : GrSt base hi (L ++ [b]) O V5 Vo w5 := by
  have hne : ∀ q, V5.ownBlock = some q → Vo.ownBlock ≠ some q := fun q hq => by
    rcases hlie with e | ⟨q', _, e, e2⟩
    · exact h.ne q (by rw [← e]; exact hq)
    · rw [e] at hq
      injection hq with hq
      rw [← hq]
      exact e2
  have hS : ∀ k, (base ≤ k ∧ k < hi ∧ some k ≠ Vn.ownBlock ∧ some k ≠ Vo.ownBlock) → (base ≤ k ∧ k < hi ∧ some k ≠ V5.ownBlock ∧ some k ≠ Vo.ownBlock) := fun k hk => ⟨hk.1, hk.2.1, fun e => by
    rcases hlie with e1 | ⟨q', h1, e1, _⟩
    · exact hk.2.2.1 (by rw [← e1]; exact e)
    · rw [e1] at e
      injection e with e
      have := hk.2.1
      omega, hk.2.2.2⟩
  have hc : ∀ k o, (base ≤ k ∧ k < hi ∧ some k ≠ Vn.ownBlock ∧ some k ≠ Vo.ownBlock) → w5.cell? ⟨k, o, none⟩ = w2.cell? ⟨k, o, none⟩ := fun k o hk => cell_blkP (hgr.block k (Nat.lt_of_lt_of_le hk.2.1 h.sz) hk.2.2.1)
  refine ⟨by rw [List.length_append, List.flatMap_append]; simpa using hown, ownp_keep h.op fun q hq => hgr.block q (h.op.lt q hq).2 (fun e => h.ne q e.symm hq), hne, fun b' hb' => ?_, h.lo, Nat.le_trans h.sz hgr.size⟩
  rcases List.mem_append.1 hb' with hb' | hb'
  · exact (h.inn b' hb').keep hS hc
  · obtain rfl := List.mem_singleton.1 hb'
    exact hb.keep hS hc
/-- An open place more. -/
theorem GrSt.open {base hi : Nat} {L : List NB} {O : List Nat} {Vn Vo V5 : Value} {w2 w5 : World} (h : GrSt base hi L O Vn Vo w2) (i : Nat)
    (hown : w5.ownsRow base 3 1 V5 (O.length + 1) ((zs O).map encZ ++ [.int .i64 i])) (hgr : w2.grownBy w5 Vo.ownBlock) (hlie : V5.ownBlock = Vo.ownBlock ∨ ∃ q, hi ≤ q ∧ V5.ownBlock = some q ∧ Vn.ownBlock ≠ some q) : GrSt base hi L (O ++ [i]) Vn V5 w5 := by
  have hne : ∀ q, Vn.ownBlock = some q → V5.ownBlock ≠ some q := fun q hq => by
    rcases hlie with e | ⟨q', _, e, e2⟩
    · rw [e]; exact h.ne q hq
    · rw [e]
      intro e3
      injection e3 with e3
      rw [e3] at e2
      exact e2 hq
  have hS : ∀ k, (base ≤ k ∧ k < hi ∧ some k ≠ Vn.ownBlock ∧ some k ≠ Vo.ownBlock) → (base ≤ k ∧ k < hi ∧ some k ≠ Vn.ownBlock ∧ some k ≠ V5.ownBlock) := fun k hk => ⟨hk.1, hk.2.1, hk.2.2.1, fun e => by
    rcases hlie with e1 | ⟨q', h1, e1, _⟩
    · exact hk.2.2.2 (by rw [← e1]; exact e)
    · rw [e1] at e
      injection e with e
      have := hk.2.1
      omega⟩
  have hc : ∀ k o, (base ≤ k ∧ k < hi ∧ some k ≠ Vn.ownBlock ∧ some k ≠ Vo.ownBlock) → w5.cell? ⟨k, o, none⟩ = w2.cell? ⟨k, o, none⟩ := fun k o hk => cell_blkP (hgr.block k (Nat.lt_of_lt_of_le hk.2.1 h.sz) hk.2.2.2)
  refine ⟨ownp_keep h.nd fun q hq => hgr.block q (h.nd.lt q hq).2 (fun e => h.ne q hq e.symm), ?_, hne, fun b' hb' => (h.inn b' hb').keep hS hc, h.lo, Nat.le_trans h.sz hgr.size⟩
  have e : (zs (O ++ [i])).map encZ = (zs O).map encZ ++ [.int .i64 i] := by simp [zs, encZ]
  rw [e, List.length_append]
  exact hown
/-- The last open place shut. -/
theorem GrSt.shut {base hi : Nat} {L : List NB} {O : List Nat} {Vn : Value} {A : Option Addr} {n c m : Nat} {wr : World} (h : GrSt base hi L O Vn (.slice A n c) wr) (hn : O.length = n) (hm : m + 1 = n) : GrSt base hi L O.dropLast Vn (.slice A m c) wr := by
  subst hn
  have hl : O.dropLast.length = m := by rw [List.length_dropLast]; omega
  have ho : ∀ x y : Nat, (Value.slice A x c).ownBlock = (Value.slice A y c).ownBlock := fun _ _ => by cases A <;> rfl
  refine ⟨h.nd, ?_, fun q hq => by rw [ho m O.length]; exact h.ne q hq, fun b hb => (h.inn b hb).keep (fun k hk => ⟨hk.1, hk.2.1, hk.2.2.1, by rw [ho m O.length]; exact hk.2.2.2⟩) fun _ _ _ => rfl, h.lo, h.sz⟩
  have := ownp_cut h.op (m := m) (by omega)
  rw [hl]
  have e : ((zs O).map encZ).take (m * 1) = (zs O.dropLast).map encZ := by
    rw [← List.map_take, Nat.mul_one]
    congr 1
    unfold zs
    rw [← List.map_take, List.dropLast_eq_take]
    congr 2
    omega
  rw [e] at this
  exact this
def bumpB (b : NB) : NB := { b with n := bumpN b.n }
theorem flat_set6 : ∀ (L : List NB) (i : Nat) (hi : i < L.length) (u : Value), nbCells (bumpB (L[i]'hi)) = (nbCells (L[i]'hi)).set 5 u → (L.modify i bumpB).flatMap nbCells = (L.flatMap nbCells).set (i * 6 + 5) u
  | [], i, hi, _, _ => absurd hi (Nat.not_lt_zero _)
  | b :: L, 0, _, u, h => by
    have h : nbCells (bumpB b) = (nbCells b).set 5 u := h
    rw [List.modify_zero_cons, List.flatMap_cons, List.flatMap_cons, h]
    have hl : (nbCells b).length = 6 := rfl
    rw [List.set_append_left _ _ (by rw [hl]; decide)]
  | b :: L, i + 1, hi, u, h => by
    have h : nbCells (bumpB (L[i]'(by simpa using hi))) = (nbCells (L[i]'(by simpa using hi))).set 5 u := h
    rw [List.modify_succ_cons, List.flatMap_cons, List.flatMap_cons, flat_set6 L i (by simpa using hi) u h]
    have hl : (nbCells b).length = 6 := rfl
    rw [List.set_append_right _ _ (by rw [hl]; omega), hl]
    congr 2
    omega
/-- A node that holds one more. -/
theorem GrSt.bump {base hi : Nat} {L : List NB} {O : List Nat} {Vo : Value} {g c : Nat} {wr : World} (h : GrSt base hi L O (.slice (some ⟨g, 0, none⟩) L.length c) Vo wr) (i : Nat) (hi' : i < L.length) (hm : (L[i]'hi').n.many ≤ 1000000) :
    GrSt base hi (L.modify i bumpB) O (.slice (some ⟨g, 0, none⟩) L.length c) Vo (wr.setCell ⟨g, i * 6 + 5, none⟩ (.int .i64 ((L[i]'hi').n.many + 1))) := by
  have hl : (L.modify i bumpB).length = L.length := List.length_modify ..
  have hlt := h.nd.lt g rfl
  have hoth : ∀ q, q ≠ g → (wr.setCell ⟨g, i * 6 + 5, none⟩ (.int .i64 ((L[i]'hi').n.many + 1))).heap[q]? = wr.heap[q]? := fun q hq => heap_setCell_other _ _ _ _ hq
  refine ⟨?_, ownp_keep h.op fun q hq => hoth q (fun e => h.ne g rfl (by rw [← e]; exact hq)), h.ne, fun b hb => ?_, h.lo, by have := h.sz; simpa [World.setCell] using this⟩
  · rw [hl, flat_set6 L i hi' (.int .i64 ((L[i]'hi').n.many + 1)) rfl]
    exact ownp_set h.nd _ (by omega)
  · have hin : NdIn b.n b.x b.y b.z b.A b.c wr (fun k => base ≤ k ∧ k < hi ∧ some k ≠ (Value.slice (some ⟨g, 0, none⟩) L.length c).ownBlock ∧ some k ≠ Vo.ownBlock) := by
      obtain ⟨j, hj, e⟩ := List.getElem_of_mem hb
      rw [List.getElem_modify] at e
      have hj' : j < L.length := by rw [← hl]; exact hj
      have hold := h.inn _ (List.getElem_mem hj')
      by_cases hij : i = j
      · rw [if_pos hij] at e
        subst hij
        rw [← e]
        exact ⟨hold.space, hold.name, hold.text, hold.attrs, hold.le, hold.cm, hold.nil, hold.kd, by have := hold.lo; show _ ≤ _ + 1; omega, by show _ + 1 ≤ _; omega⟩
      · rw [if_neg hij] at e
        rw [← e]
        exact hold
    exact hin.keep (fun k hk => hk) fun k o hk => cell_blkP (hoth k (fun e => hk.2.2.1 (by rw [e]; rfl)))
theorem pk_map_bump (L : List NB) (i : Nat) : (L.modify i bumpB).map NB.n = (L.map NB.n).modify i bumpN := by
  induction L generalizing i with
  | nil => cases i <;> rfl
  | cons b L ih =>
    cases i with
    | zero => rfl
    | succ i => rw [List.modify_succ_cons, List.map_cons, ih, List.map_cons, List.modify_succ_cons]
end Hx
end Go.Proofs.YtbjgfaflikgobaaDoor
namespace Go.Proofs.YtbjgfaflikgobaaDoor
namespace Hx
open Go
section
variable {P : Program} {ops : Array Oper} {Q : Exit → Act → World → Prop} {md : Region.Mode} {S : World → Prop} {z : Nat}
/-- Whatever order is picked from here on; S holds behind every operation but number z. -/
def wpAnyZ (P : Program) (md : Region.Mode) (ops : Array Oper) (Q : Exit → Act → World → Prop) (S : World → Prop) (z : Nat) : Nat → Array Bool → Act → World → Prop
  | 0, listed, a, w => Region.ready md ops listed = [] ∧ Q .normal a w
  | fuel + 1, listed, a, w =>
    (Region.ready md ops listed = [] → Q .normal a w) ∧
    ∀ i ∈ Region.ready md ops listed, wpOp P ops Q i (fun a' w' => (i ≠ z → S w') ∧ wpAnyZ P md ops Q S z fuel (listed.setIfInBounds i true) a' w') a w
theorem wpAny_of_Z : ∀ (fuel : Nat) (listed : Array Bool) (a : Act) (w : World), wpAnyZ P md ops Q S z fuel listed a w → wpAny P md ops Q fuel listed a w
  | 0, _, _, _, h => h
  | fuel + 1, _, _, _, h => ⟨h.1, fun i hi => wpOp_mono (fun a' w' h' => wpAny_of_Z fuel _ a' w' h'.2) (h.2 i hi)⟩
theorem wpAnyZ_first {i : Nat} {oi : Oper} {v : Value} (hi : ops[i]? = some oi) (hsel : ∀ (j : Nat) (o : Oper) cs b, ops[j]? = some o → o.op ≠ .select cs b)
    (hQ : ∀ c a w, Q (.panic c) (a.put oi.dst v) w → Q (.panic c) a w) (hz : ∀ oz, ops[z]? = some oz → ∃ e ∈ oz.after, Region.binds md e = true ∧ e.on = i) :
    ∀ (fuel : Nat) (listed : Array Bool) (a : Act) (w : World),
      (∀ j oj, ops[j]? = some oj → j ≠ i → listed.getD j true = false → (∀ e ∈ oj.after, Region.binds md e = true → e.on ≠ i) → oi.apart ops oj = true) →
      i ∈ Region.ready md ops listed → YieldsIf P ops S oi v a → S w →
      wpAnyZ P md ops Q S z fuel (listed.setIfInBounds i true) (a.put oi.dst v) w → wpAnyZ P md ops Q S z (fuel + 1) listed a w := by
  intro fuel
  induction fuel with
  | zero =>
    intro listed a w _ hr hy hS H
    refine ⟨fun h => (by rw [h] at hr; cases hr), fun j hj => ?_⟩
    by_cases hji : j = i
    · subst hji; exact hy.wpOp hi hS ⟨fun _ => hS, H⟩
    · have := ready_mono hj hji
      rw [H.1] at this
      cases this
  | succ fuel ih =>
    intro listed a w hfree hr hy hS H
    refine ⟨fun h => (by rw [h] at hr; cases hr), fun j hj => ?_⟩
    by_cases hji : j = i
    · subst hji; exact hy.wpOp hi hS ⟨fun _ => hS, H⟩
    · have h1 := H.2 j (ready_mono hj hji)
      obtain ⟨hjun, oj, hoj, hall⟩ := mem_ready.1 hj
      have hnot : ∀ e ∈ oj.after, Region.binds md e = true → e.on ≠ i := fun e he hb heq => by
        have h1 := hall e he hb
        have h0 := (mem_ready.1 hr).1
        rw [heq] at h1
        rcases Nat.lt_or_ge i listed.size with h' | h'
        · simp [h'] at h0 h1; rw [h0] at h1; cases h1
        · simp [Array.getElem?_eq_none h'] at h1
      have hjz : j ≠ z := by
        rintro rfl
        obtain ⟨e, he, hb, heq⟩ := hz oj hoj
        exact hnot e he hb heq
      have h2 := wpOp_putIf hoj (hfree j oj hoj hji hjun hnot) (fun cs b => hsel i oi cs b hi) (fun cs b => hsel j oj cs b hoj) hQ hy h1
      have hfree' : ∀ k ok, ops[k]? = some ok → k ≠ i → (listed.setIfInBounds j true).getD k true = false →
          (∀ e ∈ ok.after, Region.binds md e = true → e.on ≠ i) → oi.apart ops ok = true := fun k ok hk hki hun hno => by
        refine hfree k ok hk hki ?_ hno
        by_cases hjk : j = k
        · subst hjk; exact hjun
        · rw [getD_set_ne true hjk] at hun; exact hun
      refine wpOp_mono (fun a' w' h3 => ⟨fun _ => h3.2.1 hjz, ih (listed.setIfInBounds j true) a' w' hfree' (ready_mono hr (Ne.symm hji)) h3.1 (h3.2.1 hjz) ?_⟩) h2
      rw [Array.setIfInBounds_comm _ _ hji]
      exact h3.2.2
/-- One operation that yields in every world that meets S, taken first; the operation written out. -/
theorem takeZ {i : Nat} {oi : Oper} {rest : List Oper} {v : Value} {fuel : Nat} {listed : Array Bool} {a : Act} {w : World} (hd : ops.toList.drop i = oi :: rest)
    (hs : Region.noSelect ops = true) (hf : Region.free md ops listed i = true) (hr : (Region.ready md ops listed).contains i = true)
    (hz : ((ops[z]?).map fun o => o.after.any fun e => Region.binds md e && e.on == i) = some true)
    (hQ : ∀ c a w, Q (.panic c) (a.put oi.dst v) w → Q (.panic c) a w) (hy : YieldsIf P ops S oi v a) (hS : S w)
    (h : wpAnyZ P md ops Q S z fuel (listed.setIfInBounds i true) (a.put oi.dst v) w) : wpAnyZ P md ops Q S z (fuel + 1) listed a w := by
  have hi : ops[i]? = some oi := by
    have e : (ops.toList.drop i)[0]? = some oi := by rw [hd]; rfl
    rw [List.getElem?_drop, Nat.add_zero] at e
    simpa using e
  refine wpAnyZ_first hi (Region.noSelect_spec hs) hQ (fun oz hoz => ?_) fuel listed a w (Region.free_spec hi hf) (by simpa using hr) hy hS h
  rw [hoz] at hz
  simp only [Option.map_some, Option.some.injEq, Array.any_eq_true] at hz
  obtain ⟨k, hk, he⟩ := hz
  rw [Bool.and_eq_true, beq_iff_eq] at he
  exact ⟨_, Array.getElem_mem hk, he.1, he.2⟩
/-- One operation that alone may come up; behind it S is shown anew, but behind the last one. -/
theorem stepZ {i : Nat} {oi : Oper} {rest : List Oper} {fuel : Nat} {listed : Array Bool} {a : Act} {w : World} (hr : Region.ready md ops listed = [i]) (hd : ops.toList.drop i = oi :: rest)
    (h : ∀ K' : Act → World → Prop, Shut (∀ a w, (i ≠ z → S w) → ((i ≠ z → S w) → wpAnyZ P md ops Q S z fuel (listed.setIfInBounds i true) a w) → K' a w) → if Region.wanted oi (yielded ops a.tmps) = true then Oper.wp P oi a w K' Q else K' (a.put oi.dst undef) w) :
    wpAnyZ P md ops Q S z (fuel + 1) listed a w := by
  have hi : ops[i]? = some oi := by
    have e : (ops.toList.drop i)[0]? = some oi := by rw [hd]; rfl
    rw [List.getElem?_drop, Nat.add_zero] at e
    simpa using e
  refine ⟨fun h0 => (by rw [hr] at h0; cases h0), fun j hj => ?_⟩
  rw [hr] at hj
  obtain rfl : j = i := by simpa using hj
  have := h (fun a' w' => (j ≠ z → S w') ∧ wpAnyZ P md ops Q S z fuel (listed.setIfInBounds j true) a' w') (fun a w hS hk => ⟨hS, hk hS⟩)
  unfold wpOp
  simp only [hi]
  by_cases hw : Region.wanted oi (yielded ops a.tmps) = true
  · rw [if_pos hw] at this ⊢
    exact .inl this
  · rw [if_neg hw] at this ⊢
    exact this
theorem doneZ {listed : Array Bool} {a : Act} {w : World} (hr : Region.ready md ops listed = []) (h : Q .normal a w) : ∀ fuel, wpAnyZ P md ops Q S z fuel listed a w
  | 0 => ⟨hr, h⟩
  | _ + 1 => ⟨fun _ => h, by rw [hr]; simp⟩
theorem wp_region_Z {id : Nat} {a : Act} {w : World} (S : World → Prop) (z : Nat) (hm : P.follows .mixedOrders = true)
    (h : wpAnyZ P .any ops Q S z ops.size (Array.replicate ops.size false) a w.drew) : (Code.region id ops true).wp P Q a w :=
  wp_region_any hm (wpAny_of_Z _ _ _ _ h)
end
end Hx
end Go.Proofs.YtbjgfaflikgobaaDoor
namespace Go.Proofs.YtbjgfaflikgobaaDoor
open Go.RowKit
namespace Hx
open Lx Tr Tx Nmb Es
set_option linter.unusedVariables false
/-- The stack of a tree under way. -/
structure StkSt (B gs base hi : Nat) (L : List NB) (O : List Nat) (bb : Bool) (Vn Vo : Value) (wr : World) : Prop where
  box : wr.heap[gs]? = some (.cells #[Vn, Vo, .bool bb] 42 (0, 0))
  gr : GrSt base hi L O Vn Vo wr
  lo : B ≤ gs ∧ gs < base
/-- What else stands, stands on. -/
structure FrP (B gs : Nat) (Vn Vo : Value) (w : World) (Vn' Vo' : Value) (w' : World) : Prop where
  bel : Below B w w'
  blk : ∀ k, k < w.heap.size → k ≠ gs → some k ≠ Vn.ownBlock → some k ≠ Vo.ownBlock → w'.heap[k]? = w.heap[k]?
  lieN : ∀ k, k < w.heap.size → Vn'.ownBlock = some k → Vn.ownBlock = some k
  lieO : ∀ k, k < w.heap.size → Vo'.ownBlock = some k → Vo.ownBlock = some k
theorem FrP.below {B gs : Nat} {Vn Vo : Value} {w w' : World} (h : Below w.heap.size w w') (hB : B ≤ w.heap.size) : FrP B gs Vn Vo w Vn Vo w' := ⟨h.mono hB, fun k hk _ _ _ => h.block k hk, fun _ _ e => e, fun _ _ e => e⟩
theorem FrP.trans {B gs : Nat} {Vn Vo Vn1 Vo1 Vn2 Vo2 : Value} {w w1 w2 : World} (h : FrP B gs Vn Vo w Vn1 Vo1 w1) (k : FrP B gs Vn1 Vo1 w1 Vn2 Vo2 w2) : FrP B gs Vn Vo w Vn2 Vo2 w2 :=
  ⟨h.bel.trans k.bel, fun q h1 h2 h3 h4 => (k.blk q (Nat.lt_of_lt_of_le h1 h.bel.size) h2 (fun e => h3 (h.lieN q h1 e.symm).symm) (fun e => h4 (h.lieO q h1 e.symm).symm)).trans (h.blk q h1 h2 h3 h4),
    fun q h1 h2 => h.lieN q h1 (k.lieN q (Nat.lt_of_lt_of_le h1 h.bel.size) h2), fun q h1 h2 => h.lieO q h1 (k.lieO q (Nat.lt_of_lt_of_le h1 h.bel.size) h2)⟩
def bumpL (O : List Nat) (L : List NB) : List NB := match O.getLast? with
  | none => L
  | some i => L.modify i bumpB
theorem bumpL_map (O : List Nat) (L : List NB) : (bumpL O L).map NB.n = bump O (L.map NB.n) := by
  unfold bumpL bump
  cases O.getLast? with
  | none => rfl
  | some i => exact pk_map_bump L i
theorem bumpL_len (O : List Nat) (L : List NB) : (bumpL O L).length = L.length := by
  unfold bumpL
  cases O.getLast? with
  | none => rfl
  | some i => exact List.length_modify ..
theorem ownp_row {w : World} {base : Nat} {e : TypeId} {size n c : Nat} {A : Option Addr} {xs : List Value} (h : w.ownsRow base e size (.slice A n c) n xs) (hn : 0 < n) : ∃ g cur, A = some ⟨g, 0, none⟩ ∧ w.heap[g]? = some (.cells cur e (0, 0)) ∧ base ≤ g ∧ g < w.heap.size ∧ ∀ j u, xs[j]? = some u → w.cell? ⟨g, j, none⟩ = some u := by
  have h9 := h
  rcases h.2 with ⟨e0, h0⟩ | ⟨g, cap, cur, hv, hb, hg, _⟩
  · injection e0 with _ e0 _
    omega
  · injection hv with e1 e2 e3
    subst e1
    refine ⟨g, cur, rfl, hg, hb, (h9.lt g rfl).2, fun j u hu => ?_⟩
    have := h9.cells (g := g) rfl j u hu
    rw [addr_plain, Nat.zero_add] at this
    exact this
theorem nb_cell5 {L : List NB} {i : Nat} (hi : i < L.length) : (L.flatMap nbCells)[i * 6 + 5]? = some (.int .i64 (L[i]'hi).n.many) := by
  rw [flat_at nbCells 6 (fun _ => rfl) L i 5 hi (by decide)]
  rfl
theorem nb_cell2 {L : List NB} {i : Nat} (hi : i < L.length) : (L.flatMap nbCells)[i * 6 + 2]? = some (.string (L[i]'hi).y) := by
  rw [flat_at nbCells 6 (fun _ => rfl) L i 2 hi (by decide)]
  rfl
theorem zs_cell {O : List Nat} {i k : Nat} (h : O[k]? = some i) : ((zs O).map encZ)[k]? = some (.int .i64 (i : Int)) := by
  simp [zs, h, encZ]
theorem StkSt.bump {B gs base hi n c go gn : Nat} {L : List NB} {O : List Nat} {bb : Bool} {Vo : Value} {wr : World} (h : StkSt B gs base hi L O bb (.slice (some ⟨gn, 0, none⟩) n c) Vo wr) (hn : L.length = n) (i : Nat) (hi' : i < L.length) (hm : (L[i]'hi').n.many ≤ 1000000) :
    StkSt B gs base hi (L.modify i bumpB) O bb (.slice (some ⟨gn, 0, none⟩) n c) Vo (wr.setCell ⟨gn, i * 6 + 5, none⟩ (.int .i64 ((L[i]'hi').n.many + 1))) ∧ FrP B gs (.slice (some ⟨gn, 0, none⟩) n c) Vo wr (.slice (some ⟨gn, 0, none⟩) n c) Vo (wr.setCell ⟨gn, i * 6 + 5, none⟩ (.int .i64 ((L[i]'hi').n.many + 1))) := by
  subst hn
  have hg := h.gr.nd.lt gn rfl
  have hlo := h.lo
  have hoth : ∀ q, q ≠ gn → (wr.setCell ⟨gn, i * 6 + 5, none⟩ (.int .i64 ((L[i]'hi').n.many + 1))).heap[q]? = wr.heap[q]? := fun q hq => heap_setCell_other _ _ _ _ hq
  exact ⟨⟨(hoth gs (by omega)).trans h.box, h.gr.bump i hi' hm, h.lo⟩, (Below.refl B wr).setCell (p := ⟨gn, i * 6 + 5, none⟩) (by show B ≤ gn; omega) _, fun k _ _ hk _ => hoth k (fun e => hk (by rw [e]; rfl)), fun _ _ e => e, fun _ _ e => e⟩
theorem lt_heapP {w : World} {k : Nat} {o : Obj} (h : w.heap[k]? = some o) : k < w.heap.size := (Array.getElem?_eq_some_iff.1 h).1
theorem StkSt.below {B gs base hi hi' : Nat} {L : List NB} {O : List Nat} {bb : Bool} {Vn Vo : Value} {wr w' : World} (h : StkSt B gs base hi L O bb Vn Vo wr) (hb : Below wr.heap.size wr w') (h1 : hi ≤ hi') (h2 : hi' ≤ w'.heap.size) : StkSt B gs base hi' L O bb Vn Vo w' :=
  ⟨kept_heap h.box hb, h.gr.below hb h1 h2, h.lo⟩
theorem StkSt.pushN {B gs base hi n c : Nat} {L : List NB} {O : List Nat} {bb : Bool} {A : Option Addr} {Vo : Value} {W : World} {b : NB} {g8 c8 : Nat} {w8 : World} {ob : Obj} (h : StkSt B gs base hi L O bb (.slice A n c) Vo W) (hn : L.length = n)
    (hb : NdIn b.n b.x b.y b.z b.A b.c W (fun k => base ≤ k ∧ k < hi ∧ some k ≠ (Value.slice A n c).ownBlock ∧ some k ≠ Vo.ownBlock)) (hown8 : w8.ownsRow base 50 6 (.slice (some ⟨g8, 0, none⟩) (n + 1) c8) (n + 1) (L.flatMap nbCells ++ nbCells b))
    (hgr : (W.alloc ob).grownBy w8 (Value.slice A n c).ownBlock) (hor : (Value.slice A n c).ownBlock = some g8 ∨ g8 = W.heap.size + 1) :
    StkSt B gs base hi (L ++ [b]) O bb (.slice (some ⟨g8, 0, none⟩) (n + 1) c8) Vo (w8.setCell ⟨gs, 0, none⟩ (.slice (some ⟨g8, 0, none⟩) (n + 1) c8)) ∧ FrP B gs (.slice A n c) Vo W (.slice (some ⟨g8, 0, none⟩) (n + 1) c8) Vo (w8.setCell ⟨gs, 0, none⟩ (.slice (some ⟨g8, 0, none⟩) (n + 1) c8)) := by
  subst hn
  have hlo := h.lo
  have hbz := h.gr.lo
  have hsz := h.gr.sz
  have ha : Below W.heap.size W (W.alloc ob) := stpA (Below.refl _ _) _
  have h2 := h.below ha (Nat.le_refl _) (by rw [World.size_alloc]; omega)
  have hgs : some gs ≠ (Value.slice A L.length c).ownBlock := fun e => by have := (h.gr.nd.lt gs e.symm).1; omega
  have hb2 : NdIn b.n b.x b.y b.z b.A b.c (W.alloc ob) (fun k => base ≤ k ∧ k < hi ∧ some k ≠ (Value.slice A L.length c).ownBlock ∧ some k ≠ Vo.ownBlock) := hb.keep (fun _ hk => hk) fun k o hk => cell_blkP (ha.block k (by have := hk.2.1; omega))
  have hp := h2.gr.push b hb2 hown8 hgr (by
    rcases hor with e | e
    · exact .inl e.symm
    · refine .inr ⟨g8, by omega, rfl, fun e2 => ?_⟩
      have := (h.gr.op.lt g8 e2).2
      omega)
  have hs8 := hgr.size
  rw [World.size_alloc] at hs8
  have hoth : ∀ q, q ≠ gs → (w8.setCell ⟨gs, 0, none⟩ (.slice (some ⟨g8, 0, none⟩) (L.length + 1) c8)).heap[q]? = w8.heap[q]? := fun q hq => heap_setCell_other _ _ _ _ hq
  have hbox : w8.heap[gs]? = some (.cells #[.slice A L.length c, Vo, .bool bb] 42 (0, 0)) := (hgr.block gs (by have := lt_heapP h2.box; omega) hgs).trans h2.box
  refine ⟨⟨?_, hp.keep (fun q hq _ => hoth q (by omega)) (Nat.le_refl _) (by simp [World.setCell]; omega), h.lo⟩, ⟨?_, fun k hk h1 h3 _ => (hoth k h1).trans ((hgr.block k (by rw [World.size_alloc]; omega) h3).trans (ha.block k hk)), fun k hk e => ?_, fun _ _ e => e⟩⟩
  · exact heap_setCell_same w8 gs 0 _ _ _ hbox
  · exact (((Below.refl B W).alloc (by omega) ob).grown hgr (by rw [World.size_alloc]; omega) (fun q hq => by have := (h.gr.nd.lt q hq).1; omega)).setCell (p := ⟨gs, 0, none⟩) hlo.1 _
  · have e3 : g8 = k := by simpa [Value.ownBlock] using e
    rcases hor with e4 | e4
    · rw [e4, e3]
    · omega
set_option maxHeartbeats 16000000 in
set_option maxRecDepth 100000 in
theorem stkput_none (B gs base hi : Nat) (L : List NB) (O : List Nat) (bb : Bool) (Vn Vo : Value) (b : NB) (w : World) (h : StkSt B gs base hi L O bb Vn Vo w) (hb : NdIn b.n b.x b.y b.z b.A b.c w (fun k => base ≤ k ∧ k < hi ∧ some k ≠ Vn.ownBlock ∧ some k ≠ Vo.ownBlock)) (hl : L.length ≤ 100000) (hl2 : O.length ≤ 100000) (hO : O = []) :
    Calls Tryd.prog 30 #[.pointer (some ⟨gs, 0, none⟩), .agg #[.int .u8 (b.n.kind : Int), .string b.x, .string b.y, .slice b.A b.n.attrs.length b.c, .string b.z, .int .i64 b.n.many]] w fun e w' => e = .returned (.tuple #[]) ∧ ∃ Vn', StkSt B gs base hi (bumpL O L ++ [b]) O bb Vn' Vo w' ∧ FrP B gs Vn Vo w Vn' Vo w' := by
  obtain ⟨i0, hi0, hz0, hz1, hz2⟩ := info_parts infoNd
  have HI := Lib.hid hi0
  have HZ0 := Lib.hid hz0
  have HZ1 := Lib.hid hz1
  have HZ2 := Lib.hid hz2
  obtain ⟨An, cn, rfl⟩ := own_form2 h.gr.nd
  obtain ⟨Ao, co, rfl⟩ := own_form2 h.gr.op
  obtain ⟨n, hn⟩ : ∃ n, L.length = n := ⟨_, rfl⟩
  obtain ⟨m, hm⟩ : ∃ m, O.length = m := ⟨_, rfl⟩
  subst hO
  obtain rfl : 0 = m := hm
  rw [show ([] : List Nat).length = 0 from rfl] at h
  rw [show ([] : List Nat).length = 0 from rfl] at hb ⊢
  simp only [hn] at h hb ⊢
  obtain ⟨W0, hW0⟩ : ∃ W0, w.alloc (.cells #[.int .u8 (b.n.kind : Int), .string b.x, .string b.y, .slice b.A b.n.attrs.length b.c, .string b.z, .int .i64 b.n.many] 50) = W0 := ⟨_, rfl⟩
  have HST := Lib.hid h
  have HB := Lib.hid hb
  have HL : Hid (n ≤ 100000) := Lib.hid (by omega)
  have HBE : Hid (Below w.heap.size w W0) := Lib.hid (by rw [← hW0]; exact stpA (Below.refl _ _) _)
  have HBX : Hid (W0.heap[w.heap.size]? = some (.cells #[.int .u8 (b.n.kind : Int), .string b.x, .string b.y, .slice b.A b.n.attrs.length b.c, .string b.z, .int .i64 b.n.many] 50 (0, 0))) := Lib.hid (by rw [← hW0]; exact heap_alloc_new _ _)
  have HS0 : Hid (W0.heap.size = w.heap.size + 1) := Lib.hid (by rw [← hW0, World.size_alloc])
  have hg0 := kept_heap h.box HBE.out
  have k1 := cellV W0 _ 1 _ _ _ hg0
  have HSTW := Lib.hid (h.below HBE.out (Nat.le_refl _) (Nat.le_trans h.gr.sz HBE.out.size))
  have HOWN : Hid (W0.drew.ownsRow base 50 6 (.slice An n cn) n (L.flatMap nbCells)) := Lib.hid (by have := own_belowK HSTW.out.gr.nd (Below.refl W0.heap.size W0).drew (Nat.le_refl _); rw [hn] at this; exact this)
  have HNL := Lib.hid hn
  have HB9 : Hid (NdIn b.n b.x b.y b.z b.A b.c W0.drew (fun k => base ≤ k ∧ k < hi ∧ some k ≠ (Value.slice An n cn).ownBlock ∧ some k ≠ (Value.slice Ao 0 co).ownBlock)) := Lib.hid ((hb : NdIn b.n b.x b.y b.z b.A b.c w (fun k => base ≤ k ∧ k < hi ∧ some k ≠ (Value.slice An n cn).ownBlock ∧ some k ≠ (Value.slice Ao 0 co).ownBlock)).keep (fun _ hk => hk) fun k o hk => cell_blkP ((HBE.out.drew).block k (by have := hk.2.1; have := h.gr.sz; omega)))
  have HNB : Hid (some w.heap.size ≠ (Value.slice An n cn).ownBlock) := Lib.hid fun e => by have := (h.gr.nd.lt _ e.symm).2; omega
  have HSZ : Hid (base ≤ W0.drew.heap.size) := Lib.hid (by have := HSTW.out.gr.lo; have := HSTW.out.gr.sz; exact Nat.le_trans (by assumption) (by assumption))
  clear h hb hl hl2 hi0 hz0 hz1 hz2 hg0
  go_enter Tryd.func30, Tryd.ntmps30
  go_wp2_with fail
  refine wp_region_noPanic ?_
  refine wp_region_Z (fun W => W.cell? ⟨gs, 0, none⟩ = some (.slice An n cn) ∧ W.cell? ⟨w.heap.size, 0, none⟩ = some (.int .u8 (b.n.kind : Int)) ∧ W.cell? ⟨w.heap.size, 1, none⟩ = some (.string b.x) ∧ W.cell? ⟨w.heap.size, 2, none⟩ = some (.string b.y) ∧ W.cell? ⟨w.heap.size, 3, none⟩ = some (.slice b.A b.n.attrs.length b.c) ∧ W.cell? ⟨w.heap.size, 4, none⟩ = some (.string b.z) ∧ W.cell? ⟨w.heap.size, 5, none⟩ = some (.int .i64 b.n.many)) 10 (by kernel_rfl) ?_
  have hS : W0.drew.cell? ⟨gs, 0, none⟩ = some (.slice An n cn) ∧ W0.drew.cell? ⟨w.heap.size, 0, none⟩ = some (.int .u8 (b.n.kind : Int)) ∧ W0.drew.cell? ⟨w.heap.size, 1, none⟩ = some (.string b.x) ∧ W0.drew.cell? ⟨w.heap.size, 2, none⟩ = some (.string b.y) ∧ W0.drew.cell? ⟨w.heap.size, 3, none⟩ = some (.slice b.A b.n.attrs.length b.c) ∧ W0.drew.cell? ⟨w.heap.size, 4, none⟩ = some (.string b.z) ∧ W0.drew.cell? ⟨w.heap.size, 5, none⟩ = some (.int .i64 b.n.many) := ⟨cellV W0.drew _ 0 _ _ _ HSTW.out.box, cellV W0.drew _ 0 _ _ _ HBX.out, cellV W0.drew _ 1 _ _ _ HBX.out, cellV W0.drew _ 2 _ _ _ HBX.out, cellV W0.drew _ 3 _ _ _ HBX.out, cellV W0.drew _ 4 _ _ _ HBX.out, cellV W0.drew _ 5 _ _ _ HBX.out⟩
  refine takeZ (i := 0) (v := .pointer (some ⟨gs, 0, none⟩)) rfl (by kernel_rfl) (by kernel_rfl) (by kernel_rfl) (by kernel_rfl) (fun _ _ _ h => h) (Or.inl ⟨by rfl, ?_⟩) hS ?_
  · intro w' hSw; (try dsimp only at hSw); go_simp
  try simp only [Act.put, List.setIfInBounds_toArray, List.set_cons_zero, List.set_cons_succ]
  refine takeZ (i := 1) (v := .pointer (some ⟨gs, 0, none⟩)) rfl (by kernel_rfl) (by kernel_rfl) (by kernel_rfl) (by kernel_rfl) (fun _ _ _ h => h) (Or.inl ⟨by rfl, ?_⟩) hS ?_
  · intro w' hSw; (try dsimp only at hSw); go_simp
  try simp only [Act.put, List.setIfInBounds_toArray, List.set_cons_zero, List.set_cons_succ]
  refine takeZ (i := 2) (v := .pointer (some ⟨gs, 0, none⟩)) rfl (by kernel_rfl) (by kernel_rfl) (by kernel_rfl) (by kernel_rfl) (fun _ _ _ h => h) (Or.inl ⟨by rfl, ?_⟩) hS ?_
  · intro w' hSw; (try dsimp only at hSw); go_simp
  try simp only [Act.put, List.setIfInBounds_toArray, List.set_cons_zero, List.set_cons_succ]
  refine takeZ (i := 3) (v := .pointer (some ⟨gs, 0, none⟩)) rfl (by kernel_rfl) (by kernel_rfl) (by kernel_rfl) (by kernel_rfl) (fun _ _ _ h => h) (Or.inl ⟨by rfl, ?_⟩) hS ?_
  · intro w' hSw; (try dsimp only at hSw); go_simp
  try simp only [Act.put, List.setIfInBounds_toArray, List.set_cons_zero, List.set_cons_succ]
  refine takeZ (i := 4) (v := .slice An n cn) rfl (by kernel_rfl) (by kernel_rfl) (by kernel_rfl) (by kernel_rfl) (fun _ _ _ h => h) (Or.inl ⟨by rfl, ?_⟩) hS ?_
  · intro w' hSw; (try dsimp only at hSw); go_simp
  try simp only [Act.put, List.setIfInBounds_toArray, List.set_cons_zero, List.set_cons_succ]
  refine takeZ (i := 5) (v := .agg #[.int .u8 (b.n.kind : Int), .string b.x, .string b.y, .slice b.A b.n.attrs.length b.c, .string b.z, .int .i64 b.n.many]) rfl (by kernel_rfl) (by kernel_rfl) (by kernel_rfl) (by kernel_rfl) (fun _ _ _ h => h) (Or.inl ⟨by rfl, ?_⟩) hS ?_
  · intro w' hSw; (try dsimp only at hSw); go_simp
  try simp only [Act.put, List.setIfInBounds_toArray, List.set_cons_zero, List.set_cons_succ]
  refine stepZ (i := 6) (by kernel_rfl) rfl (fun K hK => ?_)
  go_simp
  have HA1 := Lib.hid (kept_heap (a := W0.drew) HSTW.out.box (stpA (Below.refl W0.drew.heap.size W0.drew) (.cells #[.int .u8 (b.n.kind : Int), .string b.x, .string b.y, .slice b.A b.n.attrs.length b.c, .string b.z, .int .i64 b.n.many] 50)))
  have HA2 := Lib.hid (kept_heap (a := W0.drew) HBX.out (stpA (Below.refl W0.drew.heap.size W0.drew) (.cells #[.int .u8 (b.n.kind : Int), .string b.x, .string b.y, .slice b.A b.n.attrs.length b.c, .string b.z, .int .i64 b.n.many] 50)))
  have hS6 : (W0.drew.alloc (.cells #[.int .u8 (b.n.kind : Int), .string b.x, .string b.y, .slice b.A b.n.attrs.length b.c, .string b.z, .int .i64 b.n.many] 50)).cell? ⟨gs, 0, none⟩ = some (.slice An n cn) ∧ (W0.drew.alloc (.cells #[.int .u8 (b.n.kind : Int), .string b.x, .string b.y, .slice b.A b.n.attrs.length b.c, .string b.z, .int .i64 b.n.many] 50)).cell? ⟨w.heap.size, 0, none⟩ = some (.int .u8 (b.n.kind : Int)) ∧ (W0.drew.alloc (.cells #[.int .u8 (b.n.kind : Int), .string b.x, .string b.y, .slice b.A b.n.attrs.length b.c, .string b.z, .int .i64 b.n.many] 50)).cell? ⟨w.heap.size, 1, none⟩ = some (.string b.x) ∧ (W0.drew.alloc (.cells #[.int .u8 (b.n.kind : Int), .string b.x, .string b.y, .slice b.A b.n.attrs.length b.c, .string b.z, .int .i64 b.n.many] 50)).cell? ⟨w.heap.size, 2, none⟩ = some (.string b.y) ∧ (W0.drew.alloc (.cells #[.int .u8 (b.n.kind : Int), .string b.x, .string b.y, .slice b.A b.n.attrs.length b.c, .string b.z, .int .i64 b.n.many] 50)).cell? ⟨w.heap.size, 3, none⟩ = some (.slice b.A b.n.attrs.length b.c) ∧ (W0.drew.alloc (.cells #[.int .u8 (b.n.kind : Int), .string b.x, .string b.y, .slice b.A b.n.attrs.length b.c, .string b.z, .int .i64 b.n.many] 50)).cell? ⟨w.heap.size, 4, none⟩ = some (.string b.z) ∧ (W0.drew.alloc (.cells #[.int .u8 (b.n.kind : Int), .string b.x, .string b.y, .slice b.A b.n.attrs.length b.c, .string b.z, .int .i64 b.n.many] 50)).cell? ⟨w.heap.size, 5, none⟩ = some (.int .i64 b.n.many) := ⟨cellV (W0.drew.alloc (.cells #[.int .u8 (b.n.kind : Int), .string b.x, .string b.y, .slice b.A b.n.attrs.length b.c, .string b.z, .int .i64 b.n.many] 50)) _ 0 _ _ _ HA1.out, cellV (W0.drew.alloc (.cells #[.int .u8 (b.n.kind : Int), .string b.x, .string b.y, .slice b.A b.n.attrs.length b.c, .string b.z, .int .i64 b.n.many] 50)) _ 0 _ _ _ HA2.out, cellV (W0.drew.alloc (.cells #[.int .u8 (b.n.kind : Int), .string b.x, .string b.y, .slice b.A b.n.attrs.length b.c, .string b.z, .int .i64 b.n.many] 50)) _ 1 _ _ _ HA2.out, cellV (W0.drew.alloc (.cells #[.int .u8 (b.n.kind : Int), .string b.x, .string b.y, .slice b.A b.n.attrs.length b.c, .string b.z, .int .i64 b.n.many] 50)) _ 2 _ _ _ HA2.out, cellV (W0.drew.alloc (.cells #[.int .u8 (b.n.kind : Int), .string b.x, .string b.y, .slice b.A b.n.attrs.length b.c, .string b.z, .int .i64 b.n.many] 50)) _ 3 _ _ _ HA2.out, cellV (W0.drew.alloc (.cells #[.int .u8 (b.n.kind : Int), .string b.x, .string b.y, .slice b.A b.n.attrs.length b.c, .string b.z, .int .i64 b.n.many] 50)) _ 4 _ _ _ HA2.out, cellV (W0.drew.alloc (.cells #[.int .u8 (b.n.kind : Int), .string b.x, .string b.y, .slice b.A b.n.attrs.length b.c, .string b.z, .int .i64 b.n.many] 50)) _ 5 _ _ _ HA2.out⟩
  refine hK.out _ _ (fun _ => hS6) (fun _ => ?_)
  clear hK K hS
  try simp only [Act.put, List.setIfInBounds_toArray, List.set_cons_zero, List.set_cons_succ]
  refine stepZ (i := 7) (by kernel_rfl) rfl (fun K hK => ?_)
  refine step_append_lies _ rfl (.tmp 34) (.tmp 36) 27 rfl base 50 i0 (.agg #[.int .u8 0, .string ⟨#[]⟩, .string ⟨#[]⟩, .slice none 0 0, .string ⟨#[]⟩, .int .i64 0]) 6 88 Tryd.underlying27 HI.out HZ0.out HZ1.out HZ2.out rfl (by decide) _ n _ rfl (own_belowK HOWN.out (stpA (Below.refl _ _) _) (Nat.le_refl _)) ⟨W0.heap.size, 0, none⟩ 1 1 [.int .u8 (b.n.kind : Int), .string b.x, .string b.y, .slice b.A b.n.attrs.length b.c, .string b.z, .int .i64 b.n.many] rfl rfl (new_at W0.drew [.int .u8 (b.n.kind : Int), .string b.x, .string b.y, .slice b.A b.n.attrs.length b.c, .string b.z, .int .i64 b.n.many] 50 _ rfl) (by simp [Value.oneCell']) (by decide) (by have := HL.out; unfold maxLen; omega) (by have := HL.out; omega) (by have := HSZ.out; show base ≤ (World.alloc W0 _).heap.size; rw [World.size_alloc]; exact Nat.le_succ_of_le this) (W0.heap.size + 1) (by show (World.alloc W0 _).heap.size = _; rw [World.size_alloc]) ?_
  intro g8 c8 w8 hown8 hgr8 hor hlt8
  have hpush := (HSTW.out.below (Below.refl W0.heap.size W0).drew (Nat.le_refl _) (HSTW.out.gr.sz)).pushN (b := b) HNL.out HB9.out hown8 hgr8 hor
  have HP8 := Lib.hid hpush.1
  have HF8 := Lib.hid hpush.2
  have st8 : ∀ (q : Nat) (o : Obj), W0.heap[q]? = some o → some q ≠ (Value.slice An n cn).ownBlock → w8.heap[q]? = some o := fun q o ho hne => by
    have h1 := kept_heap (a := W0.drew) ho (stpA (Below.refl W0.drew.heap.size W0.drew) (.cells #[.int .u8 (b.n.kind : Int), .string b.x, .string b.y, .slice b.A b.n.attrs.length b.c, .string b.z, .int .i64 b.n.many] 50))
    exact (hgr8.block _ (Array.getElem?_eq_some_iff.1 h1).1 hne).trans h1
  have hgl := st8 gs _ HSTW.out.box (fun e => by have := (HSTW.out.gr.nd.lt _ e.symm).1; have := HSTW.out.lo; omega)
  have hbx := st8 w.heap.size _ HBX.out (fun e => HNB.out e)
  have k8 : w8.cell? ⟨gs, 0, none⟩ = some (.slice An n cn) ∧ w8.cell? ⟨w.heap.size, 0, none⟩ = some (.int .u8 (b.n.kind : Int)) ∧ w8.cell? ⟨w.heap.size, 1, none⟩ = some (.string b.x) ∧ w8.cell? ⟨w.heap.size, 2, none⟩ = some (.string b.y) ∧ w8.cell? ⟨w.heap.size, 3, none⟩ = some (.slice b.A b.n.attrs.length b.c) ∧ w8.cell? ⟨w.heap.size, 4, none⟩ = some (.string b.z) ∧ w8.cell? ⟨w.heap.size, 5, none⟩ = some (.int .i64 b.n.many) := ⟨cellV w8 _ 0 _ _ _ hgl, cellV w8 _ 0 _ _ _ hbx, cellV w8 _ 1 _ _ _ hbx, cellV w8 _ 2 _ _ _ hbx, cellV w8 _ 3 _ _ _ hbx, cellV w8 _ 4 _ _ _ hbx, cellV w8 _ 5 _ _ _ hbx⟩
  have f8 : w8.frozen? ⟨gs, 0, none⟩ = false := freeV w8 _ 0 _ _ hgl
  have k81 := k8.1
  clear hown8 hgr8 hor hgl hbx st8 hpush
  refine hK.out _ _ (fun _ => k8) (fun _ => ?_)
  clear hK K
  try simp only [Act.put, List.setIfInBounds_toArray, List.set_cons_zero, List.set_cons_succ]
  refine stepZ (i := 8) (by kernel_rfl) rfl (fun K hK => ?_)
  go_simp
  refine hK.out _ _ (fun _ => k8) (fun _ => ?_)
  clear hK K
  try simp only [Act.put, List.setIfInBounds_toArray, List.set_cons_zero, List.set_cons_succ]
  refine takeZ (i := 9) (v := .pointer (some ⟨gs, 0, none⟩)) rfl (by kernel_rfl) (by kernel_rfl) (by kernel_rfl) (by kernel_rfl) (fun _ _ _ h => h) (Or.inl ⟨by rfl, ?_⟩) k8 ?_
  · intro w' hSw; (try dsimp only at hSw); go_simp
  try simp only [Act.put, List.setIfInBounds_toArray, List.set_cons_zero, List.set_cons_succ]
  refine stepZ (i := 10) (by kernel_rfl) rfl (fun K hK => ?_)
  go_simp
  refine hK.out _ _ (fun h => absurd rfl h) (fun _ => ?_)
  clear hK K
  try simp only [Act.put, List.setIfInBounds_toArray, List.set_cons_zero, List.set_cons_succ]
  refine doneZ (by kernel_rfl) ?_ _
  refine NoPanic.normal ?_
  go_wp2_with fail
  (try simp only [Exit.inBlock, Exit.then, Exit.noGoto])
  go_end0
  exact ⟨rfl, _, HP8.out, (FrP.below HBE.out (by have := HST.out.gr.sz; have := HST.out.gr.lo; have := HST.out.lo; omega)).trans ((FrP.below (Below.refl _ _).drew (by have := HSTW.out.gr.sz; have := HSTW.out.gr.lo; have := HSTW.out.lo; omega)).trans HF8.out)⟩
set_option maxHeartbeats 16000000 in
set_option maxRecDepth 100000 in
theorem stkput_some (B gs base hi : Nat) (L : List NB) (O : List Nat) (bb : Bool) (Vn Vo : Value) (b : NB) (w : World) (h : StkSt B gs base hi L O bb Vn Vo w) (hb : NdIn b.n b.x b.y b.z b.A b.c w (fun k => base ≤ k ∧ k < hi ∧ some k ≠ Vn.ownBlock ∧ some k ≠ Vo.ownBlock)) (hl : L.length ≤ 100000) (hl2 : O.length ≤ 100000) (O1 : List Nat) (i : Nat) (hO : O = O1 ++ [i]) (hi' : i < L.length) (hmm : 0 ≤ (L[i]'hi').n.many ∧ (L[i]'hi').n.many ≤ 1000000) :
    Calls Tryd.prog 30 #[.pointer (some ⟨gs, 0, none⟩), .agg #[.int .u8 (b.n.kind : Int), .string b.x, .string b.y, .slice b.A b.n.attrs.length b.c, .string b.z, .int .i64 b.n.many]] w fun e w' => e = .returned (.tuple #[]) ∧ ∃ Vn', StkSt B gs base hi (bumpL O L ++ [b]) O bb Vn' Vo w' ∧ FrP B gs Vn Vo w Vn' Vo w' := by
  obtain ⟨i0, hi0, hz0, hz1, hz2⟩ := info_parts infoNd
  have HI := Lib.hid hi0
  have HZ0 := Lib.hid hz0
  have HZ1 := Lib.hid hz1
  have HZ2 := Lib.hid hz2
  obtain ⟨An, cn, rfl⟩ := own_form2 h.gr.nd
  obtain ⟨Ao, co, rfl⟩ := own_form2 h.gr.op
  obtain ⟨n, hn⟩ : ∃ n, L.length = n := ⟨_, rfl⟩
  obtain ⟨m, hm⟩ : ∃ m, O.length = m := ⟨_, rfl⟩
  obtain ⟨k, hk⟩ : ∃ k, O1.length = k := ⟨_, rfl⟩
  have hmk : m = k + 1 := by rw [← hm, hO, List.length_append, hk]; rfl
  subst hmk
  obtain ⟨mm, hmv⟩ : ∃ mm, (L[i]'hi').n.many = mm := ⟨_, rfl⟩
  rw [hmv] at hmm
  have hbl : bumpL O L = L.modify i bumpB := by unfold bumpL; rw [hO, List.getLast?_concat]
  obtain ⟨go, _, rfl, _, _, _, hcO⟩ := ownp_row h.gr.op (by omega)
  obtain ⟨gn, curn, rfl, hgn, hgb, hgl0, hcN⟩ := ownp_row h.gr.nd (by omega)
  have hOk : O[k]? = some i := by rw [hO, List.getElem?_append_right (by omega), hk, Nat.sub_self]; rfl
  have hc1 := hcO k _ (zs_cell hOk)
  have hc2 := hcN (i * 6 + 5) _ (nb_cell5 hi')
  rw [hmv] at hc2
  rw [hbl]
  have HHI := Lib.hid hi'
  simp only [hn, hm] at h hb ⊢
  obtain ⟨W0, hW0⟩ : ∃ W0, w.alloc (.cells #[.int .u8 (b.n.kind : Int), .string b.x, .string b.y, .slice b.A b.n.attrs.length b.c, .string b.z, .int .i64 b.n.many] 50) = W0 := ⟨_, rfl⟩
  have HST := Lib.hid h
  have HB := Lib.hid hb
  have HL : Hid (n ≤ 100000) := Lib.hid (by omega)
  have HBE : Hid (Below w.heap.size w W0) := Lib.hid (by rw [← hW0]; exact stpA (Below.refl _ _) _)
  have HBX : Hid (W0.heap[w.heap.size]? = some (.cells #[.int .u8 (b.n.kind : Int), .string b.x, .string b.y, .slice b.A b.n.attrs.length b.c, .string b.z, .int .i64 b.n.many] 50 (0, 0))) := Lib.hid (by rw [← hW0]; exact heap_alloc_new _ _)
  have HS0 : Hid (W0.heap.size = w.heap.size + 1) := Lib.hid (by rw [← hW0, World.size_alloc])
  have hg0 := kept_heap h.box HBE.out
  have k0 := cellV W0 _ 0 _ _ _ hg0
  have k1 := cellV W0 _ 1 _ _ _ hg0
  have kO : W0.cell? ⟨go, k, none⟩ = some (.int .i64 (i : Int)) := (cell_blkP (HBE.out.block go (by have := (h.gr.op.lt go rfl).2; omega))).trans hc1
  have kM : W0.cell? ⟨gn, i * 6 + 5, none⟩ = some (.int .i64 mm) := (cell_blkP (HBE.out.block gn hgl0)).trans hc2
  have fM : W0.frozen? ⟨gn, i * 6 + 5, none⟩ = false := freeV W0 gn _ _ _ ((HBE.out.block gn hgl0).trans hgn)
  have HSTW := Lib.hid (h.below HBE.out (Nat.le_refl _) (Nat.le_trans h.gr.sz HBE.out.size))
  have HSTD := Lib.hid (HSTW.out.below (Below.refl W0.heap.size W0).drew (Nat.le_refl _) HSTW.out.gr.sz)
  have HGN : Hid (gn < w.heap.size) := Lib.hid hgl0
  have bk : (0 : Int) ≤ (k : Int) ∧ (k : Int) ≤ 100000 := by omega
  have bi : (0 : Int) ≤ (i : Int) ∧ (i : Int) < (n : Int) ∧ (n : Int) ≤ 100000 := by omega
  have bmm : (0 : Int) ≤ mm ∧ mm ≤ 1000000 := hmm
  have wmm : IntKind.i64.wrap (mm + 1) = mm + 1 := IntWalk.i64_in _ (by omega)
  have bkk : ¬ ((k : Int) + 1 ≤ (k : Int)) := by omega
  have HNL := Lib.hid hn
  have HMV := Lib.hid hmv
  have HML := Lib.hid hm
  have HNB : Hid (some w.heap.size ≠ (Value.slice (some ⟨gn, 0, none⟩) n cn).ownBlock) := Lib.hid fun e => by have := (h.gr.nd.lt _ e.symm).2; omega
  clear h hb hl hl2 hi0 hz0 hz1 hz2 hg0 hO hOk hc1 hc2 hcO hcN hmm hbl hk hn hm hgn hgb hgl0 hmv
  go_enter Tryd.func30, Tryd.ntmps30
  go_wp2_with fail
  refine wp_region_noPanic ?_
  refine wp_region_Z (fun W => W.cell? ⟨gs, 0, none⟩ = some (.slice (some ⟨gn, 0, none⟩) n cn) ∧ W.cell? ⟨gs, 1, none⟩ = some (.slice (some ⟨go, 0, none⟩) (k + 1) co) ∧ W.cell? ⟨go, k, none⟩ = some (.int .i64 (i : Int)) ∧ W.cell? ⟨gn, i * 6 + 5, none⟩ = some (.int .i64 mm)) 17 (by kernel_rfl) ?_
  have hS : W0.drew.cell? ⟨gs, 0, none⟩ = some (.slice (some ⟨gn, 0, none⟩) n cn) ∧ W0.drew.cell? ⟨gs, 1, none⟩ = some (.slice (some ⟨go, 0, none⟩) (k + 1) co) ∧ W0.drew.cell? ⟨go, k, none⟩ = some (.int .i64 (i : Int)) ∧ W0.drew.cell? ⟨gn, i * 6 + 5, none⟩ = some (.int .i64 mm) := ⟨k0, k1, kO, kM⟩
  refine takeZ (i := 0) (v := .pointer (some ⟨gs, 0, none⟩)) rfl (by kernel_rfl) (by kernel_rfl) (by kernel_rfl) (by kernel_rfl) (fun _ _ _ h => h) (Or.inl ⟨by rfl, ?_⟩) hS ?_
  · intro w' hSw; (try dsimp only at hSw); go_simp
  try simp only [Act.put, List.setIfInBounds_toArray, List.set_cons_zero, List.set_cons_succ]
  refine takeZ (i := 1) (v := .pointer (some ⟨gs, 0, none⟩)) rfl (by kernel_rfl) (by kernel_rfl) (by kernel_rfl) (by kernel_rfl) (fun _ _ _ h => h) (Or.inl ⟨by rfl, ?_⟩) hS ?_
  · intro w' hSw; (try dsimp only at hSw); go_simp
  try simp only [Act.put, List.setIfInBounds_toArray, List.set_cons_zero, List.set_cons_succ]
  refine takeZ (i := 2) (v := .pointer (some ⟨gs, 0, none⟩)) rfl (by kernel_rfl) (by kernel_rfl) (by kernel_rfl) (by kernel_rfl) (fun _ _ _ h => h) (Or.inl ⟨by rfl, ?_⟩) hS ?_
  · intro w' hSw; (try dsimp only at hSw); go_simp
  try simp only [Act.put, List.setIfInBounds_toArray, List.set_cons_zero, List.set_cons_succ]
  refine takeZ (i := 3) (v := .slice (some ⟨gn, 0, none⟩) n cn) rfl (by kernel_rfl) (by kernel_rfl) (by kernel_rfl) (by kernel_rfl) (fun _ _ _ h => h) (Or.inl ⟨by rfl, ?_⟩) hS ?_
  · intro w' hSw; (try dsimp only at hSw); go_simp
  try simp only [Act.put, List.setIfInBounds_toArray, List.set_cons_zero, List.set_cons_succ]
  refine takeZ (i := 4) (v := .pointer (some ⟨gs, 0, none⟩)) rfl (by kernel_rfl) (by kernel_rfl) (by kernel_rfl) (by kernel_rfl) (fun _ _ _ h => h) (Or.inl ⟨by rfl, ?_⟩) hS ?_
  · intro w' hSw; (try dsimp only at hSw); go_simp
  try simp only [Act.put, List.setIfInBounds_toArray, List.set_cons_zero, List.set_cons_succ]
  refine takeZ (i := 5) (v := .pointer (some ⟨gs, 0, none⟩)) rfl (by kernel_rfl) (by kernel_rfl) (by kernel_rfl) (by kernel_rfl) (fun _ _ _ h => h) (Or.inl ⟨by rfl, ?_⟩) hS ?_
  · intro w' hSw; (try dsimp only at hSw); go_simp
  try simp only [Act.put, List.setIfInBounds_toArray, List.set_cons_zero, List.set_cons_succ]
  refine takeZ (i := 6) (v := .pointer (some ⟨gs, 1, none⟩)) rfl (by kernel_rfl) (by kernel_rfl) (by kernel_rfl) (by kernel_rfl) (fun _ _ _ h => h) (Or.inl ⟨by rfl, ?_⟩) hS ?_
  · intro w' hSw; (try dsimp only at hSw); go_simp
  try simp only [Act.put, List.setIfInBounds_toArray, List.set_cons_zero, List.set_cons_succ]
  refine takeZ (i := 7) (v := .slice (some ⟨go, 0, none⟩) (k + 1) co) rfl (by kernel_rfl) (by kernel_rfl) (by kernel_rfl) (by kernel_rfl) (fun _ _ _ h => h) (Or.inl ⟨by rfl, ?_⟩) hS ?_
  · intro w' hSw; (try dsimp only at hSw); go_simp
  try simp only [Act.put, List.setIfInBounds_toArray, List.set_cons_zero, List.set_cons_succ]
  refine takeZ (i := 8) (v := .int .i64 (k : Int)) rfl (by kernel_rfl) (by kernel_rfl) (by kernel_rfl) (by kernel_rfl) (fun _ _ _ h => h) (Or.inl ⟨by rfl, ?_⟩) hS ?_
  · intro w' hSw; (try dsimp only at hSw); go_simp
  try simp only [Act.put, List.setIfInBounds_toArray, List.set_cons_zero, List.set_cons_succ]
  refine takeZ (i := 9) (v := .pointer (some ⟨go, k, none⟩)) rfl (by kernel_rfl) (by kernel_rfl) (by kernel_rfl) (by kernel_rfl) (fun _ _ _ h => h) (Or.inl ⟨by rfl, ?_⟩) hS ?_
  · intro w' hSw; (try dsimp only at hSw); go_simp
  try simp only [Act.put, List.setIfInBounds_toArray, List.set_cons_zero, List.set_cons_succ]
  refine takeZ (i := 10) (v := .int .i64 (i : Int)) rfl (by kernel_rfl) (by kernel_rfl) (by kernel_rfl) (by kernel_rfl) (fun _ _ _ h => h) (Or.inl ⟨by rfl, ?_⟩) hS ?_
  · intro w' hSw; (try dsimp only at hSw); go_simp
  try simp only [Act.put, List.setIfInBounds_toArray, List.set_cons_zero, List.set_cons_succ]
  refine takeZ (i := 11) (v := .pointer (some ⟨gn, i * 6, none⟩)) rfl (by kernel_rfl) (by kernel_rfl) (by kernel_rfl) (by kernel_rfl) (fun _ _ _ h => h) (Or.inl ⟨by rfl, ?_⟩) hS ?_
  · intro w' hSw; (try dsimp only at hSw); go_simp
  try simp only [Act.put, List.setIfInBounds_toArray, List.set_cons_zero, List.set_cons_succ]
  refine takeZ (i := 12) (v := .pointer (some ⟨gn, i * 6 + 5, none⟩)) rfl (by kernel_rfl) (by kernel_rfl) (by kernel_rfl) (by kernel_rfl) (fun _ _ _ h => h) (Or.inl ⟨by rfl, ?_⟩) hS ?_
  · intro w' hSw; (try dsimp only at hSw); go_simp
  try simp only [Act.put, List.setIfInBounds_toArray, List.set_cons_zero, List.set_cons_succ]
  refine takeZ (i := 13) (v := .int .i64 mm) rfl (by kernel_rfl) (by kernel_rfl) (by kernel_rfl) (by kernel_rfl) (fun _ _ _ h => h) (Or.inl ⟨by rfl, ?_⟩) hS ?_
  · intro w' hSw; (try dsimp only at hSw); go_simp
  try simp only [Act.put, List.setIfInBounds_toArray, List.set_cons_zero, List.set_cons_succ]
  refine takeZ (i := 14) (v := .int .i64 (mm + 1)) rfl (by kernel_rfl) (by kernel_rfl) (by kernel_rfl) (by kernel_rfl) (fun _ _ _ h => h) (Or.inl ⟨by rfl, ?_⟩) hS ?_
  · intro w' hSw; (try dsimp only at hSw); go_simp
  try simp only [Act.put, List.setIfInBounds_toArray, List.set_cons_zero, List.set_cons_succ]
  refine stepZ (i := 15) (by kernel_rfl) rfl (fun K hK => ?_)
  go_simp
  refine hK.out _ _ (fun _ => hS) (fun _ => ?_)
  clear hK K
  try simp only [Act.put, List.setIfInBounds_toArray, List.set_cons_zero, List.set_cons_succ]
  refine takeZ (i := 16) (v := .pointer (some ⟨gn, i * 6 + 5, none⟩)) rfl (by kernel_rfl) (by kernel_rfl) (by kernel_rfl) (by kernel_rfl) (fun _ _ _ h => h) (Or.inl ⟨by rfl, ?_⟩) hS ?_
  · intro w' hSw; (try dsimp only at hSw); go_simp
  try simp only [Act.put, List.setIfInBounds_toArray, List.set_cons_zero, List.set_cons_succ]
  refine stepZ (i := 17) (by kernel_rfl) rfl (fun K hK => ?_)
  go_simp
  refine hK.out _ _ (fun h => absurd rfl h) (fun _ => ?_)
  clear hK K
  try simp only [Act.put, List.setIfInBounds_toArray, List.set_cons_zero, List.set_cons_succ]
  refine doneZ (by kernel_rfl) ?_ _
  refine NoPanic.normal ?_
  have hmod := HSTD.out.bump (go := go) HNL.out i HHI.out (by rw [HMV.out]; exact bmm.2)
  rw [HMV.out] at hmod
  rw [show W0.drew.setCell ⟨gn, i * 6 + 5, none⟩ (.int .i64 (mm + 1)) = (W0.setCell ⟨gn, i * 6 + 5, none⟩ (.int .i64 (mm + 1))).drew from rfl] at hmod
  obtain ⟨W1, hW1⟩ : ∃ W1, (W0.setCell ⟨gn, i * 6 + 5, none⟩ (.int .i64 (mm + 1))).drew = W1 := ⟨_, rfl⟩
  have hbx1 : W1.heap[w.heap.size]? = some (.cells #[.int .u8 (b.n.kind : Int), .string b.x, .string b.y, .slice b.A b.n.attrs.length b.c, .string b.z, .int .i64 b.n.many] 50 (0, 0)) := by rw [← hW1]; exact (heap_setCell_other _ _ _ _ (by have := HGN.out; show w.heap.size ≠ gn; omega)).trans HBX.out
  rw [hW1] at hmod
  rw [hW1]
  have HST1 := Lib.hid hmod.1
  have HFR1 := Lib.hid hmod.2
  have HBX1 := Lib.hid hbx1
  have HLM : Hid ((L.modify i bumpB).length = n) := Lib.hid (by rw [List.length_modify]; exact HNL.out)
  clear hmod hbx1 hW1 k0 k1 kO kM fM HNL
  have HNL := HLM
  have HOWN : Hid (W1.drew.ownsRow base 50 6 (.slice (some ⟨gn, 0, none⟩) n cn) n ((L.modify i bumpB).flatMap nbCells)) := Lib.hid (by have := own_belowK HST1.out.gr.nd (Below.refl W1.heap.size W1).drew (Nat.le_refl _); rw [HNL.out] at this; exact this)
  have HB9 : Hid (NdIn b.n b.x b.y b.z b.A b.c W1.drew (fun k => base ≤ k ∧ k < hi ∧ some k ≠ (Value.slice (some ⟨gn, 0, none⟩) n cn).ownBlock ∧ some k ≠ (Value.slice (some ⟨go, 0, none⟩) (O1.length + 1) co).ownBlock)) := Lib.hid (HB.out.keep (fun _ hk => hk) fun k o hk => (cell_blkP (HFR1.out.blk k (by have := hk.2.1; have := HST1.out.gr.sz; have := HSTW.out.gr.sz; show k < W0.heap.size; omega) (by have := hk.1; have := HST1.out.lo; omega) hk.2.2.1 hk.2.2.2) : W1.cell? ⟨k, o, none⟩ = W0.drew.cell? ⟨k, o, none⟩).trans (cell_blkP (HBE.out.block k (by have := hk.2.1; have := HST.out.gr.sz; omega))))
  have HSZ : Hid (base ≤ W1.drew.heap.size) := Lib.hid (by have := HST1.out.gr.lo; have := HST1.out.gr.sz; exact Nat.le_trans (by assumption) (by assumption))
  have k1 := cellV W1 _ 1 _ _ _ HST1.out.box
  go_wp2_with fail
  refine wp_region_noPanic ?_
  refine wp_region_Z (fun W => W.cell? ⟨gs, 0, none⟩ = some (.slice (some ⟨gn, 0, none⟩) n cn) ∧ W.cell? ⟨w.heap.size, 0, none⟩ = some (.int .u8 (b.n.kind : Int)) ∧ W.cell? ⟨w.heap.size, 1, none⟩ = some (.string b.x) ∧ W.cell? ⟨w.heap.size, 2, none⟩ = some (.string b.y) ∧ W.cell? ⟨w.heap.size, 3, none⟩ = some (.slice b.A b.n.attrs.length b.c) ∧ W.cell? ⟨w.heap.size, 4, none⟩ = some (.string b.z) ∧ W.cell? ⟨w.heap.size, 5, none⟩ = some (.int .i64 b.n.many)) 10 (by kernel_rfl) ?_
  have hS : W1.drew.cell? ⟨gs, 0, none⟩ = some (.slice (some ⟨gn, 0, none⟩) n cn) ∧ W1.drew.cell? ⟨w.heap.size, 0, none⟩ = some (.int .u8 (b.n.kind : Int)) ∧ W1.drew.cell? ⟨w.heap.size, 1, none⟩ = some (.string b.x) ∧ W1.drew.cell? ⟨w.heap.size, 2, none⟩ = some (.string b.y) ∧ W1.drew.cell? ⟨w.heap.size, 3, none⟩ = some (.slice b.A b.n.attrs.length b.c) ∧ W1.drew.cell? ⟨w.heap.size, 4, none⟩ = some (.string b.z) ∧ W1.drew.cell? ⟨w.heap.size, 5, none⟩ = some (.int .i64 b.n.many) := ⟨cellV W1.drew _ 0 _ _ _ HST1.out.box, cellV W1.drew _ 0 _ _ _ HBX1.out, cellV W1.drew _ 1 _ _ _ HBX1.out, cellV W1.drew _ 2 _ _ _ HBX1.out, cellV W1.drew _ 3 _ _ _ HBX1.out, cellV W1.drew _ 4 _ _ _ HBX1.out, cellV W1.drew _ 5 _ _ _ HBX1.out⟩
  refine takeZ (i := 0) (v := .pointer (some ⟨gs, 0, none⟩)) rfl (by kernel_rfl) (by kernel_rfl) (by kernel_rfl) (by kernel_rfl) (fun _ _ _ h => h) (Or.inl ⟨by rfl, ?_⟩) hS ?_
  · intro w' hSw; (try dsimp only at hSw); go_simp
  try simp only [Act.put, List.setIfInBounds_toArray, List.set_cons_zero, List.set_cons_succ]
  refine takeZ (i := 1) (v := .pointer (some ⟨gs, 0, none⟩)) rfl (by kernel_rfl) (by kernel_rfl) (by kernel_rfl) (by kernel_rfl) (fun _ _ _ h => h) (Or.inl ⟨by rfl, ?_⟩) hS ?_
  · intro w' hSw; (try dsimp only at hSw); go_simp
  try simp only [Act.put, List.setIfInBounds_toArray, List.set_cons_zero, List.set_cons_succ]
  refine takeZ (i := 2) (v := .pointer (some ⟨gs, 0, none⟩)) rfl (by kernel_rfl) (by kernel_rfl) (by kernel_rfl) (by kernel_rfl) (fun _ _ _ h => h) (Or.inl ⟨by rfl, ?_⟩) hS ?_
  · intro w' hSw; (try dsimp only at hSw); go_simp
  try simp only [Act.put, List.setIfInBounds_toArray, List.set_cons_zero, List.set_cons_succ]
  refine takeZ (i := 3) (v := .pointer (some ⟨gs, 0, none⟩)) rfl (by kernel_rfl) (by kernel_rfl) (by kernel_rfl) (by kernel_rfl) (fun _ _ _ h => h) (Or.inl ⟨by rfl, ?_⟩) hS ?_
  · intro w' hSw; (try dsimp only at hSw); go_simp
  try simp only [Act.put, List.setIfInBounds_toArray, List.set_cons_zero, List.set_cons_succ]
  refine takeZ (i := 4) (v := .slice (some ⟨gn, 0, none⟩) n cn) rfl (by kernel_rfl) (by kernel_rfl) (by kernel_rfl) (by kernel_rfl) (fun _ _ _ h => h) (Or.inl ⟨by rfl, ?_⟩) hS ?_
  · intro w' hSw; (try dsimp only at hSw); go_simp
  try simp only [Act.put, List.setIfInBounds_toArray, List.set_cons_zero, List.set_cons_succ]
  refine takeZ (i := 5) (v := .agg #[.int .u8 (b.n.kind : Int), .string b.x, .string b.y, .slice b.A b.n.attrs.length b.c, .string b.z, .int .i64 b.n.many]) rfl (by kernel_rfl) (by kernel_rfl) (by kernel_rfl) (by kernel_rfl) (fun _ _ _ h => h) (Or.inl ⟨by rfl, ?_⟩) hS ?_
  · intro w' hSw; (try dsimp only at hSw); go_simp
  try simp only [Act.put, List.setIfInBounds_toArray, List.set_cons_zero, List.set_cons_succ]
  refine stepZ (i := 6) (by kernel_rfl) rfl (fun K hK => ?_)
  go_simp
  have HA1 := Lib.hid (kept_heap (a := W1.drew) HST1.out.box (stpA (Below.refl W1.drew.heap.size W1.drew) (.cells #[.int .u8 (b.n.kind : Int), .string b.x, .string b.y, .slice b.A b.n.attrs.length b.c, .string b.z, .int .i64 b.n.many] 50)))
  have HA2 := Lib.hid (kept_heap (a := W1.drew) HBX1.out (stpA (Below.refl W1.drew.heap.size W1.drew) (.cells #[.int .u8 (b.n.kind : Int), .string b.x, .string b.y, .slice b.A b.n.attrs.length b.c, .string b.z, .int .i64 b.n.many] 50)))
  have hS6 : (W1.drew.alloc (.cells #[.int .u8 (b.n.kind : Int), .string b.x, .string b.y, .slice b.A b.n.attrs.length b.c, .string b.z, .int .i64 b.n.many] 50)).cell? ⟨gs, 0, none⟩ = some (.slice (some ⟨gn, 0, none⟩) n cn) ∧ (W1.drew.alloc (.cells #[.int .u8 (b.n.kind : Int), .string b.x, .string b.y, .slice b.A b.n.attrs.length b.c, .string b.z, .int .i64 b.n.many] 50)).cell? ⟨w.heap.size, 0, none⟩ = some (.int .u8 (b.n.kind : Int)) ∧ (W1.drew.alloc (.cells #[.int .u8 (b.n.kind : Int), .string b.x, .string b.y, .slice b.A b.n.attrs.length b.c, .string b.z, .int .i64 b.n.many] 50)).cell? ⟨w.heap.size, 1, none⟩ = some (.string b.x) ∧ (W1.drew.alloc (.cells #[.int .u8 (b.n.kind : Int), .string b.x, .string b.y, .slice b.A b.n.attrs.length b.c, .string b.z, .int .i64 b.n.many] 50)).cell? ⟨w.heap.size, 2, none⟩ = some (.string b.y) ∧ (W1.drew.alloc (.cells #[.int .u8 (b.n.kind : Int), .string b.x, .string b.y, .slice b.A b.n.attrs.length b.c, .string b.z, .int .i64 b.n.many] 50)).cell? ⟨w.heap.size, 3, none⟩ = some (.slice b.A b.n.attrs.length b.c) ∧ (W1.drew.alloc (.cells #[.int .u8 (b.n.kind : Int), .string b.x, .string b.y, .slice b.A b.n.attrs.length b.c, .string b.z, .int .i64 b.n.many] 50)).cell? ⟨w.heap.size, 4, none⟩ = some (.string b.z) ∧ (W1.drew.alloc (.cells #[.int .u8 (b.n.kind : Int), .string b.x, .string b.y, .slice b.A b.n.attrs.length b.c, .string b.z, .int .i64 b.n.many] 50)).cell? ⟨w.heap.size, 5, none⟩ = some (.int .i64 b.n.many) := ⟨cellV (W1.drew.alloc (.cells #[.int .u8 (b.n.kind : Int), .string b.x, .string b.y, .slice b.A b.n.attrs.length b.c, .string b.z, .int .i64 b.n.many] 50)) _ 0 _ _ _ HA1.out, cellV (W1.drew.alloc (.cells #[.int .u8 (b.n.kind : Int), .string b.x, .string b.y, .slice b.A b.n.attrs.length b.c, .string b.z, .int .i64 b.n.many] 50)) _ 0 _ _ _ HA2.out, cellV (W1.drew.alloc (.cells #[.int .u8 (b.n.kind : Int), .string b.x, .string b.y, .slice b.A b.n.attrs.length b.c, .string b.z, .int .i64 b.n.many] 50)) _ 1 _ _ _ HA2.out, cellV (W1.drew.alloc (.cells #[.int .u8 (b.n.kind : Int), .string b.x, .string b.y, .slice b.A b.n.attrs.length b.c, .string b.z, .int .i64 b.n.many] 50)) _ 2 _ _ _ HA2.out, cellV (W1.drew.alloc (.cells #[.int .u8 (b.n.kind : Int), .string b.x, .string b.y, .slice b.A b.n.attrs.length b.c, .string b.z, .int .i64 b.n.many] 50)) _ 3 _ _ _ HA2.out, cellV (W1.drew.alloc (.cells #[.int .u8 (b.n.kind : Int), .string b.x, .string b.y, .slice b.A b.n.attrs.length b.c, .string b.z, .int .i64 b.n.many] 50)) _ 4 _ _ _ HA2.out, cellV (W1.drew.alloc (.cells #[.int .u8 (b.n.kind : Int), .string b.x, .string b.y, .slice b.A b.n.attrs.length b.c, .string b.z, .int .i64 b.n.many] 50)) _ 5 _ _ _ HA2.out⟩
  refine hK.out _ _ (fun _ => hS6) (fun _ => ?_)
  clear hK K hS
  try simp only [Act.put, List.setIfInBounds_toArray, List.set_cons_zero, List.set_cons_succ]
  refine stepZ (i := 7) (by kernel_rfl) rfl (fun K hK => ?_)
  refine step_append_lies _ rfl (.tmp 34) (.tmp 36) 27 rfl base 50 i0 (.agg #[.int .u8 0, .string ⟨#[]⟩, .string ⟨#[]⟩, .slice none 0 0, .string ⟨#[]⟩, .int .i64 0]) 6 88 Tryd.underlying27 HI.out HZ0.out HZ1.out HZ2.out rfl (by decide) _ n _ rfl (own_belowK HOWN.out (stpA (Below.refl _ _) _) (Nat.le_refl _)) ⟨W1.heap.size, 0, none⟩ 1 1 [.int .u8 (b.n.kind : Int), .string b.x, .string b.y, .slice b.A b.n.attrs.length b.c, .string b.z, .int .i64 b.n.many] rfl rfl (new_at W1.drew [.int .u8 (b.n.kind : Int), .string b.x, .string b.y, .slice b.A b.n.attrs.length b.c, .string b.z, .int .i64 b.n.many] 50 _ rfl) (by simp [Value.oneCell']) (by decide) (by have := HL.out; unfold maxLen; omega) (by have := HL.out; omega) (by have := HSZ.out; show base ≤ (World.alloc W1 _).heap.size; rw [World.size_alloc]; exact Nat.le_succ_of_le this) (W1.heap.size + 1) (by show (World.alloc W1 _).heap.size = _; rw [World.size_alloc]) ?_
  intro g8 c8 w8 hown8 hgr8 hor hlt8
  have hpush := (HST1.out.below (Below.refl W1.heap.size W1).drew (Nat.le_refl _) (HST1.out.gr.sz)).pushN (b := b) HNL.out HB9.out hown8 hgr8 hor
  have HP8 := Lib.hid hpush.1
  have HF8 := Lib.hid hpush.2
  have st8 : ∀ (q : Nat) (o : Obj), W1.heap[q]? = some o → some q ≠ (Value.slice (some ⟨gn, 0, none⟩) n cn).ownBlock → w8.heap[q]? = some o := fun q o ho hne => by
    have h1 := kept_heap (a := W1.drew) ho (stpA (Below.refl W1.drew.heap.size W1.drew) (.cells #[.int .u8 (b.n.kind : Int), .string b.x, .string b.y, .slice b.A b.n.attrs.length b.c, .string b.z, .int .i64 b.n.many] 50))
    exact (hgr8.block _ (Array.getElem?_eq_some_iff.1 h1).1 hne).trans h1
  have hgl := st8 gs _ HST1.out.box (fun e => by have := (HST1.out.gr.nd.lt _ e.symm).1; have := HST1.out.lo; omega)
  have hbx := st8 w.heap.size _ HBX1.out (fun e => HNB.out e)
  have k8 : w8.cell? ⟨gs, 0, none⟩ = some (.slice (some ⟨gn, 0, none⟩) n cn) ∧ w8.cell? ⟨w.heap.size, 0, none⟩ = some (.int .u8 (b.n.kind : Int)) ∧ w8.cell? ⟨w.heap.size, 1, none⟩ = some (.string b.x) ∧ w8.cell? ⟨w.heap.size, 2, none⟩ = some (.string b.y) ∧ w8.cell? ⟨w.heap.size, 3, none⟩ = some (.slice b.A b.n.attrs.length b.c) ∧ w8.cell? ⟨w.heap.size, 4, none⟩ = some (.string b.z) ∧ w8.cell? ⟨w.heap.size, 5, none⟩ = some (.int .i64 b.n.many) := ⟨cellV w8 _ 0 _ _ _ hgl, cellV w8 _ 0 _ _ _ hbx, cellV w8 _ 1 _ _ _ hbx, cellV w8 _ 2 _ _ _ hbx, cellV w8 _ 3 _ _ _ hbx, cellV w8 _ 4 _ _ _ hbx, cellV w8 _ 5 _ _ _ hbx⟩
  have f8 : w8.frozen? ⟨gs, 0, none⟩ = false := freeV w8 _ 0 _ _ hgl
  have k81 := k8.1
  clear hown8 hgr8 hor hgl hbx st8 hpush
  refine hK.out _ _ (fun _ => k8) (fun _ => ?_)
  clear hK K
  try simp only [Act.put, List.setIfInBounds_toArray, List.set_cons_zero, List.set_cons_succ]
  refine stepZ (i := 8) (by kernel_rfl) rfl (fun K hK => ?_)
  go_simp
  refine hK.out _ _ (fun _ => k8) (fun _ => ?_)
  clear hK K
  try simp only [Act.put, List.setIfInBounds_toArray, List.set_cons_zero, List.set_cons_succ]
  refine takeZ (i := 9) (v := .pointer (some ⟨gs, 0, none⟩)) rfl (by kernel_rfl) (by kernel_rfl) (by kernel_rfl) (by kernel_rfl) (fun _ _ _ h => h) (Or.inl ⟨by rfl, ?_⟩) k8 ?_
  · intro w' hSw; (try dsimp only at hSw); go_simp
  try simp only [Act.put, List.setIfInBounds_toArray, List.set_cons_zero, List.set_cons_succ]
  refine stepZ (i := 10) (by kernel_rfl) rfl (fun K hK => ?_)
  go_simp
  refine hK.out _ _ (fun h => absurd rfl h) (fun _ => ?_)
  clear hK K
  try simp only [Act.put, List.setIfInBounds_toArray, List.set_cons_zero, List.set_cons_succ]
  refine doneZ (by kernel_rfl) ?_ _
  refine NoPanic.normal ?_
  go_wp2_with fail
  (try simp only [Exit.inBlock, Exit.then, Exit.noGoto])
  go_end0
  exact ⟨rfl, _, HP8.out, (((FrP.below HBE.out (by have := HST.out.gr.sz; have := HST.out.gr.lo; have := HST.out.lo; omega)).trans (FrP.below (Below.refl _ _).drew (by have := HSTW.out.gr.sz; have := HSTW.out.gr.lo; have := HSTW.out.lo; omega))).trans HFR1.out).trans ((FrP.below (Below.refl _ _).drew (by have := HST1.out.gr.sz; have := HST1.out.gr.lo; have := HST1.out.lo; omega)).trans HF8.out)⟩
theorem stkput (B gs base hi : Nat) (L : List NB) (O : List Nat) (bb : Bool) (Vn Vo : Value) (b : NB) (w : World) (h : StkSt B gs base hi L O bb Vn Vo w) (hb : NdIn b.n b.x b.y b.z b.A b.c w (fun k => base ≤ k ∧ k < hi ∧ some k ≠ Vn.ownBlock ∧ some k ≠ Vo.ownBlock)) (hl : L.length ≤ 100000) (hl2 : O.length ≤ 100000) (hO : ∀ i ∈ O, i < L.length) (hM : ∀ b ∈ L, 0 ≤ b.n.many ∧ b.n.many ≤ 1000000) :
    Calls Tryd.prog 30 #[.pointer (some ⟨gs, 0, none⟩), .agg #[.int .u8 (b.n.kind : Int), .string b.x, .string b.y, .slice b.A b.n.attrs.length b.c, .string b.z, .int .i64 b.n.many]] w fun e w' => e = .returned (.tuple #[]) ∧ ∃ Vn', StkSt B gs base hi (bumpL O L ++ [b]) O bb Vn' Vo w' ∧ FrP B gs Vn Vo w Vn' Vo w' := by
  rcases List.eq_nil_or_concat O with h0 | ⟨O1, i, h0⟩
  · exact stkput_none B gs base hi L O bb Vn Vo b w h hb hl hl2 h0
  · exact stkput_some B gs base hi L O bb Vn Vo b w h hb hl hl2 O1 i (by rw [h0, List.concat_eq_append]) (hO i (by rw [h0]; simp)) (hM _ (List.getElem_mem _))
end Hx
end Go.Proofs.YtbjgfaflikgobaaDoor
namespace Go.Proofs.YtbjgfaflikgobaaDoor
open Go.RowKit
namespace Hx
open Tx Nmb Es
set_option linter.unusedVariables false
def lowv (c : UInt8) : Nat := (c ||| 32).toNat
/-- What ParseUint answers at the base of 16, of six bytes at most. -/
def puV (o : Option Nat) (ev : Value) : Value := match o with | some n => .tuple #[.int .u64 (n : Int), .nilIface] | none => .tuple #[.int .u64 0, ev]
theorem u8_in {x : Int} (h0 : 0 ≤ x) (h1 : x ≤ 255) : IntKind.u8.wrap x = x := by rw [IntKind.wrap_u8]; omega
end Hx
end Go.Proofs.YtbjgfaflikgobaaDoor
