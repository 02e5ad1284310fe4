/-
  Texts of one seat, put together: LexWr, MemE, TreU.
-/
import Derived.Test.YtlfmjnocfkamaaaG21
import Derived.Test.YtlfmjnocfkamaaaG18
import Derived.Laws.AppendOwnNone
import Derived.Test.YtlfmjnocfkamaaaG03
import Derived.Maps.AppendAt
import Derived.Deep.AppendLies
namespace Go.Proofs.Ytlfmjnocfkamaaa
open Go.RowKit
namespace Hx
open Lx Tx Nmb Es
set_option linter.unusedVariables false
theorem LexSt.next1 {w wr w1 w5 : World} {L : List TB} {A A4 A1 : Option Addr} {c c4 c1 : Nat} {x u : ByteArray} {t : Tk} {o2 : Obj} (h : LexSt w L (.slice A L.length c) wr) (hb : Below wr.heap.size wr w1)
    (hR : TkR wr.heap.size w1 #[.int .u8 (t.kind : Int), .string x, .slice A1 t.attrs.length c1, .string u] t)
    (hown : w5.ownsRow w.heap.size 64 4 (.slice A4 (L.length + 1) c4) (L.length + 1) (L.flatMap tbCells ++ [.int .u8 (t.kind : Int), .string x, .slice A1 t.attrs.length c1, .string u]))
    (hgr : (w1.alloc o2).grownBy w5 (Value.slice A L.length c).ownBlock)
    (hlie : (Value.slice A4 (L.length + 1) c4).ownBlock = (Value.slice A L.length c).ownBlock ∨ (Value.slice A4 (L.length + 1) c4).ownBlock = some (w1.alloc o2).heap.size) :
    LexSt w (L ++ [⟨x, A1, c1, u, t⟩]) (.slice A4 (L.length + 1) c4) w5 := by
  have hb2 : Below w1.heap.size w1 (w1.alloc o2) := stpA (Below.refl _ _) _
  have h1 := (h.below hb).below hb2
  have hlen : (L ++ [(⟨x, A1, c1, u, t⟩ : TB)]).length = L.length + 1 := by simp
  have hfar : ∀ (A' : Option Addr) (l : List Pr), RdC PrC (w1.alloc o2) (w1.alloc o2).heap.size A' l → (0 < l.length → ∀ ad, A' = some ad → some ad.block ≠ (Value.slice A L.length c).ownBlock) → RdC PrC w5 w5.heap.size A' l := by
    intro A' l hr hne hp
    obtain ⟨b, off, rfl, hlt, hc⟩ := hr hp
    refine ⟨b, off, rfl, Nat.lt_of_lt_of_le hlt hgr.size, fun j hj => ?_⟩
    obtain ⟨cs', k1, k2⟩ := hc j hj
    exact ⟨cs', k1, fun i hi => hgr.cell (k2 i hi) (hne hp ⟨b, off, none⟩ rfl)⟩
  have hw1 := hb.size
  have hown0 : ∀ k, (Value.slice A L.length c).ownBlock = some k → w.heap.size ≤ k ∧ k < wr.heap.size := fun k hk => h.1.lt k hk
  have hnew : ∀ (B : TB), (0 < B.t.attrs.length → ∀ ad, B.A = some ad → some ad.block ≠ (Value.slice A L.length c).ownBlock) → TkC.R (w1.alloc o2) (w1.alloc o2).heap.size (tbCells B) B.t → TkC.R w5 w5.heap.size (tbCells B) B.t ∧ ((0 < B.t.attrs.length → ∀ ad, B.A = some ad → some ad.block ≠ (Value.slice A4 (L.length + 1) c4).ownBlock)) := by
    intro B hne hk
    obtain ⟨x', A', c', u', e1, e2, e3, e4, e5, e6, e7, e8⟩ := hk
    have e1' := e1
    unfold tbCells at e1'
    injection e1' with _ e1'
    injection e1' with _ e1'
    injection e1' with e9 _
    injection e9 with e9 _ _
    subst e9
    refine ⟨⟨x', _, c', u', e1, e2, e3, e4, e5, e6, e7, hfar _ _ e8 hne⟩, fun hp ad e => ?_⟩
    rcases hlie with h6 | h6
    · rw [h6]; exact hne hp ad e
    · rw [h6]
      obtain ⟨b, off, e10, hlt, _⟩ := e8 hp
      rw [e] at e10
      injection e10 with e10
      subst e10
      intro e11
      injection e11 with e11
      dsimp only at e11 hlt
      omega
  refine ⟨by rw [hlen, List.flatMap_append]; simpa [tbCells] using hown, fun b hm => ?_, h1.2.2.grown hgr ?_ ?_⟩
  · rcases List.mem_append.1 hm with hm | hm
    · exact hnew b (h1.2.1 b hm).2 (h1.2.1 b hm).1
    · obtain rfl := List.mem_singleton.1 hm
      refine hnew _ (fun _ ad e => ?_) (TkC.keep hR.1 hb2.size fun bl o hlt => hb2.cell (p := ⟨bl, o, none⟩) hlt)
      intro e2
      have := hR.2 A1 _ c1 rfl ad e
      have := (hown0 _ e2.symm).2
      omega
  · rw [World.size_alloc]
    have := h.2.2.size
    omega
  · intro k hk
    exact (hown0 k hk).1
def pbOf (p : Pr) : PB := (⟨p.name.toArray⟩, ⟨p.value.toArray⟩)
theorem prVal_pbOf (p : Pr) : prVal (pbOf p) = p := by cases p; simp [prVal, pbOf]
theorem map_pbOf (l : List Pr) : (l.map pbOf).map prVal = l := by
  rw [List.map_map]
  exact (List.map_congr_left (g := id) fun p _ => prVal_pbOf p).trans (List.map_id _)
theorem rdc_news {w : World} {B : Nat} {ad : Addr} {l : List Pr} (h : RdC PrC w B (some ad) l) : ∀ (j : Nat) (u : Value), ((l.map pbOf).flatMap prCells)[j]? = some u → w.cell? (ad.add j) = some u := by
  intro j u hu
  have hlen := flat_len prCells 2 (fun _ => rfl) (l.map pbOf)
  rw [List.length_map] at hlen
  have hj := (List.getElem?_eq_some_iff.1 hu).1
  have hq : j / 2 < l.length := by omega
  obtain ⟨b, off, e, _, hc⟩ := h (by omega)
  injection e with e
  subst e
  obtain ⟨cs, ⟨s, t, rfl, hs, ht⟩, hcell⟩ := hc (j / 2) hq
  have hat := flat_at prCells 2 (fun _ => rfl) (l.map pbOf) (j / 2) (j % 2) (by rw [List.length_map]; exact hq) (by omega)
  rw [show j / 2 * 2 + j % 2 = j by omega, hu] at hat
  rw [addr_plain]
  rw [List.getElem_map] at hat
  have e1 : s = ⟨(l[j / 2]'hq).name.toArray⟩ := ba_x (by rw [hs])
  have e2 : t = ⟨(l[j / 2]'hq).value.toArray⟩ := ba_x (by rw [ht])
  rcases (show j % 2 = 0 ∨ j % 2 = 1 by omega) with h0 | h0
  · have := hcell 0 (by simp)
    rw [show off + j = off + j / 2 * 2 + 0 by omega]
    refine this.trans ?_
    rw [Option.some.inj hat]
    simp [h0, prCells, pbOf, e1]
  · have := hcell 1 (by simp)
    rw [show off + j = off + j / 2 * 2 + 1 by omega]
    refine this.trans ?_
    rw [Option.some.inj hat]
    simp [h0, prCells, pbOf, e2]
theorem news_one (l : List Pr) : ∀ u ∈ (l.map pbOf).flatMap prCells, u.oneCell' = true := by
  intro u hu
  obtain ⟨p, _, h⟩ := List.mem_flatMap.1 hu
  simp [prCells] at h
  rcases h with rfl | rfl <;> rfl
theorem own_empty (w : World) (T : TypeId) (k : Nat) : (w.alloc (.cells #[] T)).ownsRow w.heap.size T k (.slice (some ⟨w.heap.size, 0, none⟩) 0 0) 0 [] :=
  ⟨by simp, .inr ⟨w.heap.size, 0, #[], rfl, Nat.le_refl _, heap_alloc_new _ _, Nat.le_refl _, Nat.zero_le _, by simp, by simp⟩⟩
/-- append(own, attributes...) to a row of none. -/
theorem wpList_append_pr {P : Program} {w : World} {ops : Array Oper} {rest : List Oper} {o : Oper} {a : Act} {Q : Exit → Act → World → Prop} (hgd : o.guard = none) (s x : Operand) (t : TypeId)
    (ho : o.op = .call { callee := .builtin .append, args := #[s, x], argTypes := #[t, t] })
    (base : Nat) (e : TypeId) (i : TypeInfo) (z : Value) (ht : P.underlying t = some (.slice e)) (hi : P.info? e = some i) (hz : i.zero = some z) (hsize : i.size = 2) (hby : i.bytes = 32) (hzs : z.cells.size = 2)
    (v : Value) (hs : a.eval s = v) (hown : w.ownsRow base e 2 v 0 [])
    (B : Nat) (A : Option Addr) (m c : Nat) (l : List Pr) (hx : a.eval x = .slice A m c) (hr : RdC PrC w B A l) (hl : l.length = m) (hc0 : A = none → c = 0) (hb : m ≤ 1000000) (hbase : base ≤ w.heap.size)
    (h : ∀ v' w', w'.ownsRow base e 2 v' m ((l.map pbOf).flatMap prCells) → w.grownBy w' v.ownBlock → wpList P ops Q rest (a.put o.dst v') w') : wpList P ops Q (o :: rest) a w := by
  have hlen := flat_len prCells 2 (fun _ => rfl) (l.map pbOf)
  rw [List.length_map, hl] at hlen
  rcases A with _ | ad
  · have h0 : l = [] := by
      rcases Nat.eq_zero_or_pos l.length with h0 | h0
      · exact List.eq_nil_of_length_eq_zero h0
      · obtain ⟨_, _, he, _⟩ := hr h0
        cases he
    subst h0
    obtain rfl : 0 = m := hl
    rw [hc0 rfl] at hx
    exact wpList_append_own_none hgd s x t ho base e i 2 ht hi v 0 [] hs hown hx (h v w hown (World.grownBy.refl _ _))
  · refine wpList_append_own w hgd s x t ho base e i z 2 32 ht hi hz hsize hby hzs (by decide) v 0 [] hs hown ad m c ((l.map pbOf).flatMap prCells) hx hlen (rdc_news hr) (news_one l) (by unfold maxLen; omega) (by omega) hbase (fun v' w' h1 h2 _ => ?_)
    rw [Nat.zero_add, List.nil_append] at h1
    exact h v' w' h1 h2
theorem tk_at2 {w : World} {A : Option Addr} {l : List Tk} {k : Nat} (hr : RdC TkC w w.heap.size A l) (hk : k < l.length) (hs : Small (l[k]'hk)) :
    ∃ (b off : Nat) (x u : ByteArray) (A1 : Option Addr) (p1 : Nat), A = some ⟨b, off, none⟩ ∧ b < w.heap.size ∧ w.cell? ⟨b, off + k * 4, none⟩ = some (.int .u8 ((l[k]'hk).kind : Int)) ∧ w.cell? ⟨b, off + k * 4 + 1, none⟩ = some (.string x) ∧
      w.cell? ⟨b, off + k * 4 + 2, none⟩ = some (.slice A1 (l[k]'hk).attrs.length p1) ∧ w.cell? ⟨b, off + k * 4 + 3, none⟩ = some (.string u) ∧ TkAt (l[k]'hk) x u A1 p1 w ∧ (A1 = none → p1 = 0) ∧ (l[k]'hk).kind < 256 := by
  obtain ⟨b, off, e, hb, hc⟩ := hr (by omega)
  obtain ⟨cs, ⟨x, A1, p1, u, rfl, hkd, hx, hu, hle, hmx, hnl, hrd⟩, hcell⟩ := hc k hk
  obtain ⟨s1, s2, s3, s4⟩ := hs
  refine ⟨b, off, x, u, A1, p1, e, hb, hcell 0 (by simp), hcell 1 (by simp), hcell 2 (by simp), hcell 3 (by simp), ⟨hx, hu, hrd, hle, ?_, ?_, s3, s4⟩, hnl, hkd⟩
  · rw [← ba_l, hx]; exact s1
  · rw [← ba_l, hu]; exact s2
theorem own_emptyB (w : World) (o : Obj) (T : TypeId) (k : Nat) : ((w.alloc o).alloc (.cells #[] T)).ownsRow (w.heap.size + 1) T k (.slice (some ⟨w.heap.size + 1, 0, none⟩) 0 0) 0 [] := by
  have := own_empty (w.alloc o) T k
  rwa [World.size_alloc] at this
/-- Behind the append of the attributes: the box stands; what lay below it, too. -/
theorem copy_box (wr w3 : World) (cs : Array Value) (T : TypeId) {T2 : TypeId} (hgr : ((wr.alloc (.cells cs T)).alloc (.cells #[] T2)).grownBy w3 (Value.slice (some ⟨wr.heap.size + 1, 0, none⟩) 0 0).ownBlock) :
    w3.heap[wr.heap.size]? = some (.cells cs T (0, 0)) ∧ Below wr.heap.size wr w3 := by
  have h1 := kept_heap (heap_alloc_new wr (.cells cs T)) (stpA (Below.refl (wr.alloc (.cells cs T)).heap.size (wr.alloc (.cells cs T))) (.cells #[] T2))
  refine ⟨(hgr.block _ (Array.getElem?_eq_some_iff.1 h1).1 (fun e => by have e : some wr.heap.size = some (wr.heap.size + 1) := e; injection e with e; omega)).trans h1, ?_⟩
  refine (stpA (stpA (Below.refl wr.heap.size wr) (.cells cs T)) (.cells #[] T2)).grown hgr (by simp; omega) fun k hk => ?_
  have hk : some (wr.heap.size + 1) = some k := hk
  injection hk with hk
  omega
theorem copy_set (wr w3 : World) (z : Int) (x u : ByteArray) (v v' : Value) (h : w3.heap[wr.heap.size]? = some (.cells #[.int .u8 z, .string x, v, .string u] 64 (0, 0))) (hb : Below wr.heap.size wr w3) :
    (w3.setCell ⟨wr.heap.size, 2, none⟩ v').heap[wr.heap.size]? = some (.cells #[.int .u8 z, .string x, v', .string u] 64 (0, 0)) ∧ Below wr.heap.size wr (w3.setCell ⟨wr.heap.size, 2, none⟩ v') := by
  refine ⟨?_, hb.setCell (p := ⟨wr.heap.size, 2, none⟩) (Nat.le_refl _) _⟩
  simp [World.setCell, Array.getElem?_modify, h]
/-- Behind the append of the token. -/
theorem copy_fin {w wr w3 w5 : World} {L : List TB} {Ao A3 A5 : Option Addr} {co c3 c5 : Nat} {x u : ByteArray} {t : Tk} {o2 : Obj} (h : LexSt w L (.slice Ao L.length co) wr) (hbw : Below w.heap.size w wr)
    (ho3 : w3.ownsRow (wr.heap.size + 1) 90 2 (.slice A3 t.attrs.length c3) t.attrs.length ((t.attrs.map pbOf).flatMap prCells))
    (hs3 : (w3.setCell ⟨wr.heap.size, 2, none⟩ (.slice A3 t.attrs.length c3)).heap[wr.heap.size]? = some (.cells #[.int .u8 (t.kind : Int), .string x, .slice A3 t.attrs.length c3, .string u] 64 (0, 0)) ∧ Below wr.heap.size wr (w3.setCell ⟨wr.heap.size, 2, none⟩ (.slice A3 t.attrs.length c3)))
    (hx : x.data.toList = t.name) (hu : u.data.toList = t.text) (hkd : t.kind < 256)
    (hown : w5.ownsRow w.heap.size 64 4 (.slice A5 (L.length + 1) c5) (L.length + 1) (L.flatMap tbCells ++ [.int .u8 (t.kind : Int), .string x, .slice A3 t.attrs.length c3, .string u]))
    (hgr : ((w3.setCell ⟨wr.heap.size, 2, none⟩ (.slice A3 t.attrs.length c3)).alloc o2).grownBy w5 (Value.slice Ao L.length co).ownBlock)
    (hlie : (Value.slice A5 (L.length + 1) c5).ownBlock = (Value.slice Ao L.length co).ownBlock ∨ (Value.slice A5 (L.length + 1) c5).ownBlock = some ((w3.setCell ⟨wr.heap.size, 2, none⟩ (.slice A3 t.attrs.length c3)).alloc o2).heap.size) :
    LexSt w (L ++ [⟨x, A3, c3, u, t⟩]) (.slice A5 (L.length + 1) c5) w5 ∧ w5.heap[wr.heap.size]? = some (.cells #[.int .u8 (t.kind : Int), .string x, .slice A3 t.attrs.length c3, .string u] 64 (0, 0)) ∧ RdC PrC w5 w5.heap.size A3 t.attrs ∧ t.attrs.length ≤ c3 := by
  have hos := own_setCell ho3 wr.heap.size 2 (by omega) (.slice A3 t.attrs.length c3)
  obtain ⟨r1, _, r3, r4, r5⟩ := own_attrs hos
  rw [map_pbOf] at r1
  have hR : TkR wr.heap.size (w3.setCell ⟨wr.heap.size, 2, none⟩ (.slice A3 t.attrs.length c3)) #[.int .u8 (t.kind : Int), .string x, .slice A3 t.attrs.length c3, .string u] t := by
    refine ⟨⟨x, A3, c3, u, rfl, hkd, hx, hu, r3, r4, r5, r1⟩, fun A n c e ad ea => ?_⟩
    have e' : Value.slice A3 t.attrs.length c3 = .slice A n c := Option.some.inj e
    injection e' with e1 _ _
    subst e1
    rcases hos.2 with ⟨ev, _⟩ | ⟨g, cap, cur, ev, hg, _⟩
    · injection ev with ev _ _
      rw [ev] at ea
      cases ea
    · injection ev with ev _ _
      rw [ev] at ea
      injection ea with ea
      subst ea
      dsimp only
      omega
  have hst := LexSt.next1 h hs3.2 hR hown hgr hlie
  have hk0 := kept_heap hs3.1 (stpA (Below.refl (w3.setCell ⟨wr.heap.size, 2, none⟩ (.slice A3 t.attrs.length c3)).heap.size (w3.setCell ⟨wr.heap.size, 2, none⟩ (.slice A3 t.attrs.length c3))) o2)
  refine ⟨hst, (hgr.block _ (Array.getElem?_eq_some_iff.1 hk0).1 (fun e => by have := (h.1.lt _ e.symm).2; omega)).trans hk0, ?_, r3⟩
  obtain ⟨x', A', c', u', e1, _, _, _, _, _, _, e8⟩ := (hst.2.1 ⟨x, A3, c3, u, t⟩ (by simp)).1
  unfold tbCells at e1
  injection e1 with _ e1
  injection e1 with _ e1
  injection e1 with e9 _
  injection e9 with e9 _ _
  subst e9
  exact e8
end Hx
end Go.Proofs.Ytlfmjnocfkamaaa
namespace Go.Proofs.Ytlfmjnocfkamaaa
open Go.RowKit
namespace Hx
open Lx Tr
set_option linter.unusedVariables false
theorem RdS.of_own {α β : Type} {C : CodS α} {w : World} {S : Nat → Prop} {base : Nat} {e : TypeId} {A : Option Addr} {n c : Nat} (f : β → List Value) (val : β → α) (hk : ∀ b, (f b).length = C.k) (hk0 : 0 < C.k) (l : List β) (hR : ∀ b ∈ l, C.R w S (f b) (val b)) (hS : ∀ g, (Value.slice A n c).ownBlock = some g → S g)
    (h : w.ownsRow base e C.k (.slice A n c) n (l.flatMap f)) : RdS C w S A (l.map val) ∧ l.length = n ∧ n ≤ c ∧ c ≤ maxLen ∧ (A = none → c = 0) := by
  have hl : l.length = n := by
    have := h.1
    rw [flat_len f C.k hk] at this
    exact Nat.eq_of_mul_eq_mul_right hk0 this
  rcases h.2 with ⟨e1, h0⟩ | ⟨g, cap, cur, hv, hb, hg, hnc, hcm, _, _⟩
  · injection e1 with e1 e2 e3
    subst e1 e3
    have : l = [] := List.eq_nil_of_length_eq_zero (by omega)
    subst this
    exact ⟨RdS.nil _ _ _, hl, by omega, Nat.zero_le _, fun _ => rfl⟩
  · injection hv with e1 e2 e3
    subst e1 e3
    refine ⟨fun hp => ⟨g, 0, rfl, hS g rfl, fun j hj => ?_⟩, hl, hnc, hcm, fun h => by cases h⟩
    have hj' : j < l.length := by simpa using hj
    refine ⟨f (l[j]'hj'), by simpa using hR _ (List.getElem_mem hj'), fun i hi => ?_⟩
    have hi' : i < C.k := by rw [hk] at hi; exact hi
    have := h.cells (g := g) rfl (j * C.k + i) _ (flat_at f C.k hk l j i hj' hi')
    rw [addr_plain] at this
    rw [Nat.zero_add, ← this, Nat.zero_add]
/-- An attribute as the program holds it. -/
structure AB where
  x : ByteArray
  y : ByteArray
  z : ByteArray
def abCells (b : AB) : List Value := [.string b.x, .string b.y, .string b.z]
def abVal (b : AB) : At := ⟨b.x.data.toList, b.y.data.toList, b.z.data.toList⟩
def abOf (a : At) : AB := ⟨⟨a.space.toArray⟩, ⟨a.name.toArray⟩, ⟨a.value.toArray⟩⟩
theorem abVal_of (a : At) : abVal (abOf a) = a := by cases a; simp [abVal, abOf]
theorem map_abOf (l : List At) : (l.map abOf).map abVal = l := by
  rw [List.map_map]
  exact (List.map_congr_left (g := id) fun a _ => abVal_of a).trans (List.map_id _)
theorem ab_R (w : World) (S : Nat → Prop) (b : AB) : AtS.R w S (abCells b) (abVal b) := ⟨b.x, b.y, b.z, rfl, rfl, rfl, rfl⟩
theorem ats_news {w : World} {S : Nat → Prop} {ad : Addr} {l : List At} (h : RdS AtS w S (some ad) l) : ∀ (j : Nat) (u : Value), ((l.map abOf).flatMap abCells)[j]? = some u → w.cell? (ad.add j) = some u := by
  intro j u hu
  have hlen := flat_len abCells 3 (fun _ => rfl) (l.map abOf)
  rw [List.length_map] at hlen
  have hj := (List.getElem?_eq_some_iff.1 hu).1
  have hq : j / 3 < l.length := by omega
  obtain ⟨b, off, x, y, z, e, _, hx, hy, hz, c0, c1, c2⟩ := at_at h hq
  injection e with e
  subst e
  have hat := flat_at abCells 3 (fun _ => rfl) (l.map abOf) (j / 3) (j % 3) (by rw [List.length_map]; exact hq) (by omega)
  rw [show j / 3 * 3 + j % 3 = j by omega, hu] at hat
  rw [addr_plain]
  have ex : x = ⟨(l[j / 3]'hq).space.toArray⟩ := ba_x (by rw [hx])
  have ey : y = ⟨(l[j / 3]'hq).name.toArray⟩ := ba_x (by rw [hy])
  have ez : z = ⟨(l[j / 3]'hq).value.toArray⟩ := ba_x (by rw [hz])
  rcases (show j % 3 = 0 ∨ j % 3 = 1 ∨ j % 3 = 2 by omega) with h0 | h0 | h0
  · rw [show off + j = off + j / 3 * 3 by omega, Option.some.inj hat, c0]
    simp [h0, abCells, abOf, ex]
  · rw [show off + j = off + j / 3 * 3 + 1 by omega, Option.some.inj hat, c1]
    simp [h0, abCells, abOf, ey]
  · rw [show off + j = off + j / 3 * 3 + 2 by omega, Option.some.inj hat, c2]
    simp [h0, abCells, abOf, ez]
theorem ab_one (l : List AB) : ∀ u ∈ l.flatMap abCells, u.oneCell' = true := by
  intro u hu
  obtain ⟨p, _, h⟩ := List.mem_flatMap.1 hu
  simp [abCells] at h
  rcases h with rfl | rfl | rfl <;> rfl
/-- append(own, attributes...) to a row of none. -/
theorem wpList_append_ats {P : Program} {w : World} {ops : Array Oper} {rest : List Oper} {o : Oper} {a : Act} {Q : Exit → Act → World → Prop} (hgd : o.guard = none) (s x : Operand) (t : TypeId)
    (ho : o.op = .call { callee := .builtin .append, args := #[s, x], argTypes := #[t, t] })
    (base : Nat) (e : TypeId) (i : TypeInfo) (z : Value) (ht : P.underlying t = some (.slice e)) (hi : P.info? e = some i) (hz : i.zero = some z) (hsize : i.size = 3) (hby : i.bytes = 48) (hzs : z.cells.size = 3)
    (v : Value) (hs : a.eval s = v) (hown : w.ownsRow base e 3 v 0 [])
    (S : Nat → Prop) (A : Option Addr) (m c : Nat) (l : List At) (hx : a.eval x = .slice A m c) (hr : RdS AtS w S A l) (hl : l.length = m) (hc0 : A = none → c = 0) (hb : m ≤ 1000000) (hbase : base ≤ w.heap.size)
    (h : ∀ v' w', w'.ownsRow base e 3 v' m ((l.map abOf).flatMap abCells) → w.grownBy w' v.ownBlock → wpList P ops Q rest (a.put o.dst v') w') : wpList P ops Q (o :: rest) a w := by
  have hlen := flat_len abCells 3 (fun _ => rfl) (l.map abOf)
  rw [List.length_map, hl] at hlen
  rcases A with _ | ad
  · have h0 : l = [] := by
      rcases Nat.eq_zero_or_pos l.length with h0 | h0
      · exact List.eq_nil_of_length_eq_zero h0
      · obtain ⟨_, _, he, _⟩ := hr h0
        cases he
    subst h0
    obtain rfl : 0 = m := hl
    rw [hc0 rfl] at hx
    exact wpList_append_own_none hgd s x t ho base e i 3 ht hi v 0 [] hs hown hx (h v w hown (World.grownBy.refl _ _))
  · refine wpList_append_own w hgd s x t ho base e i z 3 48 ht hi hz hsize hby hzs (by decide) v 0 [] hs hown ad m c ((l.map abOf).flatMap abCells) hx hlen (ats_news hr) (ab_one _) (by unfold maxLen; omega) (by omega) hbase (fun v' w' h1 h2 _ => ?_)
    rw [Nat.zero_add, List.nil_append] at h1
    exact h v' w' h1 h2
/-- A node as the program holds it. -/
structure NB where
  n : Nd
  x : ByteArray
  y : ByteArray
  z : ByteArray
  A : Option Addr
  c : Nat
def nbCells (b : NB) : List Value := ndCells b.n b.x b.y b.z b.A b.c
theorem nb_one (l : List NB) : ∀ u ∈ l.flatMap nbCells, u.oneCell' = true := by
  intro u hu
  obtain ⟨p, _, h⟩ := List.mem_flatMap.1 hu
  simp [nbCells, ndCells] at h
  rcases h with rfl | rfl | rfl | rfl | rfl | rfl <;> rfl
/-- The nodes of a slice, as the program holds them. -/
theorem nodes_of {w : World} {S : Nat → Prop} {ad : Addr} {l : List Nd} (h : RdS NdS w S (some ad) l) :
    ∃ M : List NB, M.map NB.n = l ∧ (∀ b ∈ M, NdIn b.n b.x b.y b.z b.A b.c w S) ∧ ∀ (j : Nat) (u : Value), (M.flatMap nbCells)[j]? = some u → w.cell? (ad.add j) = some u := by
  have each : ∀ i : Fin l.length, ∃ b : NB, b.n = l[i.1]'i.2 ∧ NdIn b.n b.x b.y b.z b.A b.c w S ∧ ∀ (k : Nat) (hk : k < (nbCells b).length), w.cell? (ad.add (i.1 * 6 + k)) = some ((nbCells b)[k]'hk) := by
    intro i
    obtain ⟨b, off, cs, e, hb, ⟨x, y, z, A, c, rfl, hin⟩, hc⟩ := h.at i.2
    injection e with e
    subst e
    refine ⟨⟨l[i.1]'i.2, x, y, z, A, c⟩, rfl, hin, fun k hk => ?_⟩
    rw [addr_plain, ← Nat.add_assoc]
    exact hc k hk
  let f : Fin l.length → NB := fun i => Classical.choose (each i)
  have hf : ∀ i, (f i).n = l[i.1]'i.2 ∧ NdIn (f i).n (f i).x (f i).y (f i).z (f i).A (f i).c w S ∧ ∀ (k : Nat) (hk : k < (nbCells (f i)).length), w.cell? (ad.add (i.1 * 6 + k)) = some ((nbCells (f i))[k]'hk) := fun i => Classical.choose_spec (each i)
  refine ⟨List.ofFn f, ?_, ?_, ?_⟩
  · apply List.ext_getElem
    · simp
    · intro i h1 h2
      rw [List.getElem_map, List.getElem_ofFn]
      exact (hf _).1
  · intro b hb
    obtain ⟨i, rfl⟩ := List.mem_ofFn.1 hb
    exact (hf i).2.1
  · intro j u hu
    have hlen := flat_len nbCells 6 (fun _ => rfl) (List.ofFn f)
    rw [List.length_ofFn] at hlen
    have hj := (List.getElem?_eq_some_iff.1 hu).1
    have hq : j / 6 < l.length := by omega
    have hat := flat_at nbCells 6 (fun _ => rfl) (List.ofFn f) (j / 6) (j % 6) (by rw [List.length_ofFn]; exact hq) (by omega)
    rw [show j / 6 * 6 + j % 6 = j by omega, hu] at hat
    have h3 := (hf ⟨j / 6, hq⟩).2.2 (j % 6) (by show _ < 6; omega)
    rw [show j / 6 * 6 + j % 6 = j by omega] at h3
    rw [h3, Option.some.inj hat]
    congr 1
    simp
/-- Where what nodes lead to lies: from a block on, elsewhere than in a row; of the call's own memory none is marked. -/
def Far (lo : Nat) (w0 wr : World) (row : Option Nat) (k : Nat) : Prop := lo ≤ k ∧ k < wr.heap.size ∧ some k ≠ row ∧ (w0.heap.size ≤ k → ∀ o, wr.frozen? ⟨k, o, none⟩ = false)
theorem Far.below {lo k : Nat} {w0 wr w' : World} {row : Option Nat} (h : Far lo w0 wr row k) (hb : Below wr.heap.size wr w') : Far lo w0 w' row k :=
  ⟨h.1, Nat.lt_of_lt_of_le h.2.1 hb.size, h.2.2.1, fun hk o => (hb.frozen (p := ⟨k, o, none⟩) h.2.1).trans (h.2.2.2 hk o)⟩
/-- The nodes so far: an own row; where what they lead to lies. -/
def NdSt (lo : Nat) (w0 : World) (L : List NB) (v : Value) (wr : World) : Prop :=
  wr.ownsRow w0.heap.size 53 6 v L.length (L.flatMap nbCells) ∧ (∀ b ∈ L, NdIn b.n b.x b.y b.z b.A b.c wr (Far lo w0 wr v.ownBlock)) ∧ Below w0.heap.size w0 wr
theorem NdSt.nil (lo : Nat) {w wr : World} (hb : Below w.heap.size w wr) : NdSt lo w [] (.slice none 0 0) wr := ⟨World.ownsRow_nil _ _ _ _, (fun b hb => by cases hb), hb⟩
theorem NdSt.below {lo : Nat} {w wr w' : World} {L : List NB} {v : Value} (h : NdSt lo w L v wr) (hb : Below wr.heap.size wr w') : NdSt lo w L v w' :=
  ⟨own_belowK h.1 hb (Nat.le_refl _), fun b hm => (h.2.1 b hm).keep (fun k hk => hk.below hb) fun b o hk => hb.cell (p := ⟨b, o, none⟩) hk.2.1, stp h.2.2 hb⟩
theorem NdSt.more {lo : Nat} {w wr w2 w5 : World} {L M : List NB} {v v5 : Value} (h : NdSt lo w L v wr) (hb : Below wr.heap.size wr w2) (hM : ∀ b ∈ M, NdIn b.n b.x b.y b.z b.A b.c w2 (Far lo w w2 v.ownBlock))
    (hown : w5.ownsRow w.heap.size 53 6 v5 (L.length + M.length) (L.flatMap nbCells ++ M.flatMap nbCells)) (hgr : w2.grownBy w5 v.ownBlock) (hlie : v5.ownBlock = v.ownBlock ∨ v5.ownBlock = some w2.heap.size) : NdSt lo w (L ++ M) v5 w5 := by
  have h2 := h.below hb
  refine ⟨by rw [List.length_append, List.flatMap_append]; exact hown, fun b hm => ?_, h2.2.2.grown hgr ?_ fun k hk => (h.1.lt k hk).1⟩
  · have hb0 : NdIn b.n b.x b.y b.z b.A b.c w2 (Far lo w w2 v.ownBlock) := by
      rcases List.mem_append.1 hm with hm | hm
      · exact h2.2.1 b hm
      · exact hM b hm
    refine hb0.keep (fun k hk => ⟨hk.1, Nat.lt_of_lt_of_le hk.2.1 hgr.size, ?_, fun hk2 o => (hgr.frozen_far ⟨k, o, none⟩ hk.2.1 hk.2.2.1).trans (hk.2.2.2 hk2 o)⟩) fun k o hk => hgr.cell_far ⟨k, o, none⟩ hk.2.1 hk.2.2.1
    rcases hlie with e | e
    · rw [e]; exact hk.2.2.1
    · rw [e]
      intro e2
      injection e2 with e2
      have := hk.2.1
      omega
  · have := h2.2.2.size
    omega
/-- Nodes that a call answers: where they lie. -/
structure NdOut (lo : Nat) (w0 : World) (v : List Nd) (A : Option Addr) (c : Nat) (w : World) : Prop where
  rd : RdS NdS w (Far lo w0 w none) A v
  le : v.length ≤ c
  cm : c ≤ maxLen
  nil : A = none → c = 0
theorem NdOut.below {lo : Nat} {w0 : World} {v : List Nd} {A : Option Addr} {c : Nat} {w w' : World} (h : NdOut lo w0 v A c w) (hb : Below w.heap.size w w') : NdOut lo w0 v A c w' :=
  ⟨h.rd.keep (fun k hk => hk.below hb) fun b o hk => hb.cell (p := ⟨b, o, none⟩) hk.2.1, h.le, h.cm, h.nil⟩
theorem NdOut.all {lo : Nat} {w0 : World} {v : List Nd} {A : Option Addr} {c : Nat} {w : World} (h : NdOut lo w0 v A c w) : RdB NdS w A v := h.rd.mono fun b hb => hb.2.1
theorem NdOut.none (lo : Nat) (w0 w : World) : NdOut lo w0 [] none 0 w := ⟨RdS.nil _ _ _, Nat.le_refl _, Nat.zero_le _, fun _ => rfl⟩
/-- What such a row reads as. -/
theorem NdSt.read {lo : Nat} {w wr : World} {L : List NB} {A : Option Addr} {n c : Nat} (h : NdSt lo w L (.slice A n c) wr) (hlo : lo ≤ w.heap.size) : NdOut lo w (L.map NB.n) A c wr ∧ L.length = n := by
  have hn : n = L.length := by
    have h1 := h.1
    rcases h1.2 with ⟨e, h0⟩ | ⟨g, cap, cur, hv, _⟩
    · injection e with _ e _; omega
    · injection hv with _ e _
  subst hn
  obtain ⟨r1, r2, r3, r4, r5⟩ := RdS.of_own (C := NdS) (S := Far lo w wr none) nbCells NB.n (fun _ => rfl) (by decide) L (fun b hm => ⟨b.x, b.y, b.z, b.A, b.c, rfl, (h.2.1 b hm).keep (fun k hk => ⟨hk.1, hk.2.1, by simp, hk.2.2.2⟩) fun _ _ _ => rfl⟩) (fun g hg => by
    have h3 := h.1.lt g hg
    refine ⟨by omega, h3.2, by simp, fun _ o => ?_⟩
    rcases h.1.2 with ⟨e, h0⟩ | ⟨g', cap, cur, hv, hb', hg', _⟩
    · rw [e] at hg; cases hg
    · rw [hv] at hg
      have : g' = g := by simpa [Value.ownBlock] using hg
      subst this
      exact freeV wr _ o _ _ hg') h.1
  exact ⟨⟨r1, by rw [List.length_map]; exact r3, r4, r5⟩, rfl⟩
/-- An attributes' row of the call's own. -/
theorem ats_own {lo base : Nat} {w0 w : World} {A : Option Addr} {n c : Nat} {row : Option Nat} {l : List At} (h : w.ownsRow base 59 3 (.slice A n c) n ((l.map abOf).flatMap abCells)) (hlo : lo ≤ base) (hrow : ∀ k, row = some k → k < base) :
    RdS AtS w (Far lo w0 w row) A l ∧ l.length = n ∧ n ≤ c ∧ c ≤ maxLen ∧ (A = none → c = 0) := by
  obtain ⟨r1, r2, r3, r4, r5⟩ := RdS.of_own (C := AtS) (S := Far lo w0 w row) abCells abVal (fun _ => rfl) (by decide) (l.map abOf) (fun b _ => ab_R _ _ b) (fun g hg => by
    have h3 := h.lt g hg
    refine ⟨by omega, h3.2, fun e => ?_, fun _ o => ?_⟩
    · have := hrow g e.symm
      omega
    · rcases h.2 with ⟨e, h0⟩ | ⟨g', cap, cur, hv, hb', hg', _⟩
      · rw [e] at hg; cases hg
      · rw [hv] at hg
        have : g' = g := by simpa [Value.ownBlock] using hg
        subst this
        exact freeV w _ o _ _ hg') h
  rw [map_abOf] at r1
  rw [List.length_map] at r2
  exact ⟨r1, r2, r3, r4, r5⟩
theorem infoNd : (Try.prog.info? 53).map (fun i => (i.zero, i.size, i.bytes)) = some (some (.agg #[.int .u8 0, .string ⟨#[]⟩, .string ⟨#[]⟩, .slice none 0 0, .string ⟨#[]⟩, .int .i64 0]), 6, 88) := by kernel_rfl
theorem infoAt : (Try.prog.info? 59).map (fun i => (i.zero, i.size, i.bytes)) = some (some (.agg #[.string ⟨#[]⟩, .string ⟨#[]⟩, .string ⟨#[]⟩]), 3, 48) := by kernel_rfl
theorem zNd : ([Value.int .u8 0, .string ⟨#[]⟩, .string ⟨#[]⟩, .slice none 0 0, .string ⟨#[]⟩, .int .i64 0] : List Value).length = 6 := rfl
theorem sizeNd : (Try.prog.info? 53).map (·.size) = some 6 := by kernel_rfl
theorem sizeAt : (Try.prog.info? 59).map (·.size) = some 3 := by kernel_rfl
end Hx
end Go.Proofs.Ytlfmjnocfkamaaa
namespace Go.Proofs.Ytlfmjnocfkamaaa
open Go.RowKit
namespace Hx
open Lx Tr Tx Nmb Es
set_option linter.unusedVariables false
/-- A slice, as an element. -/
def SlS {α : Type} (C : CodS α) : CodS (List α) where
  k := 1
  R w S cs l := ∃ A c, cs = [.slice A l.length c] ∧ l.length ≤ c ∧ c ≤ maxLen ∧ (A = none → c = 0) ∧ RdS C w S A l
  len := by rintro _ _ _ _ ⟨A, c, rfl, _⟩; rfl
  one := by
    rintro _ _ _ _ ⟨A, c, rfl, _⟩ v hv
    simp at hv
    subst hv
    rfl
  keep := fun ⟨A, c, h1, h2, h3, h4, h5⟩ hS hk => ⟨A, c, h1, h2, h3, h4, h5.keep hS hk⟩
theorem sl_at {w : World} {A : Option Addr} {ls : List (List Nd)} {k : Nat} (hr : RdB (SlS NdS) w A ls) (hk : k < ls.length) :
    ∃ (b off : Nat) (A1 : Option Addr) (c1 : Nat), A = some ⟨b, off, none⟩ ∧ b < w.heap.size ∧ w.cell? ⟨b, off + k, none⟩ = some (.slice A1 (ls[k]'hk).length c1) ∧ (ls[k]'hk).length ≤ c1 ∧ c1 ≤ maxLen ∧ (A1 = none → c1 = 0) ∧ RdB NdS w A1 (ls[k]'hk) := by
  obtain ⟨b, off, cs, e, hb, ⟨A1, c1, rfl, h1, h2, h3, h4⟩, hc⟩ := RdS.at hr hk
  have := hc 0 (by simp)
  simp only [SlS, Nat.mul_one, Nat.add_zero] at this
  exact ⟨b, off, A1, c1, e, hb, this, h1, h2, h3, h4⟩
/-- May that stand within an element? -/
def partOk (l : List Nd) : Bool := (match l with | [m] => decide (m.kind = 2) && ndOk m | _ => false) || mayV l
def partE (l : List Nd) : Int := if partOk l = true then 0 else 8
theorem mayV_len {v : List Nd} (h : mayV v = true) : 0 < v.length ∧ v.length ≤ 512 := by
  obtain ⟨h1, ⟨n, l, rfl, _⟩, _⟩ := mayV_iff.1 h
  exact ⟨by simp, h1⟩
theorem partOk_len {l : List Nd} (h : partOk l = true) : 0 < l.length ∧ l.length ≤ 512 := by
  unfold partOk at h
  rw [Bool.or_eq_true] at h
  rcases h with h | h
  · split at h
    · exact ⟨by simp, by simp⟩
    · cases h
  · exact mayV_len h
theorem partOk_not1 {l : List Nd} (h : l.length ≠ 1) : partOk l = mayV l := by
  unfold partOk
  split
  · exact absurd rfl h
  · rfl
theorem partOk_one {l : List Nd} (h : l.length = 1) : partOk l = (decide ((l[0]'(by omega)).kind = 2) && ndOk (l[0]'(by omega)) || mayV l) := by
  match l, h with
  | [m], _ => rfl
theorem mayV_kind {l : List Nd} (h0 : 0 < l.length) (h : (l[0]'h0).kind ≠ 1) : mayV l = false := mayV_no (by
  rintro ⟨_, m, x, rfl, hk⟩
  exact h hk)
set_option maxHeartbeats 8000000 in
set_option maxRecDepth 100000 in
theorem chkpart (A : Option Addr) (n c : Nat) (v : List Nd) (w : World) (hr : RdB NdS w A v) (hn : v.length = n) (hmax : n ≤ 9223372036854775807) (hsm : ∀ m ∈ v, SmallN m) (q : Int) (hq : partE v = q) :
    Calls Try.prog 50 #[.slice A n c] w fun e w' => e = .returned (.int .i64 q) ∧ Below w.heap.size w w' := by
  by_cases h1 : n = 1
  · subst h1
    obtain ⟨b0, off, x, y, t, A1, c1, hA, hbB, hin, q0, q1, q2, q3, q4, q5⟩ := nd_at hr (k := 0) (by omega)
    rw [Nat.zero_mul, Nat.add_zero] at q0 q1 q2 q3 q4 q5
    obtain ⟨nd, hnd⟩ : ∃ nd, v[0]'(by omega) = nd := ⟨_, rfl⟩
    have hs := hsm _ (List.getElem_mem (show 0 < v.length by omega))
    have hp1 := partOk_one hn
    rw [hnd] at hin q0 q3 q5 hs hp1
    have f1 : ((1 : Int) == 1) = true := rfl
    by_cases hk : nd.kind = 2
    · cases hh : holdB nd with
      | true =>
        have hok : ndOk nd = true := by unfold holdB at hh; simp at hh; exact hh.1
        obtain rfl : q = 0 := by rw [← hq]; unfold partE; rw [hp1, decide_eq_true hk, hok]; rfl
        have HC := Lib.hid (hold10 nd x y t A1 c1 w hin hs true hh)
        unfold NdV at HC
        rw [hk, show ((2 : Nat) : Int) = 2 from rfl] at HC q0
        subst hA
        clear hr hn hsm hin hs hh hok hq hp1 hnd hk hmax
        go_enter Try.func50, Try.ntmps50
        go_wp2_with (first
          | (go_at_call 58; (with_reducible refine (HC.out).mono ?_); rintro e1 w1 ⟨rfl, hb1⟩)
          | fail)
        go_ret
        exact ⟨rfl, hb1⟩
      | false =>
        have hmv := mayV_kind (l := v) (by omega) (by rw [hnd, hk]; decide)
        have hok : ndOk nd = false := by
          cases ho : ndOk nd with
          | false => rfl
          | true =>
            have := (ndOk_two ho hk).1
            unfold holdB at hh
            rw [ho, decide_eq_true (by omega : 0 ≤ nd.many)] at hh
            cases hh
        obtain rfl : q = 8 := by rw [← hq]; unfold partE; rw [hp1, hok, hmv, Bool.and_false]; rfl
        have HC := Lib.hid (hold10 nd x y t A1 c1 w hin hs false hh)
        have HV : Hid (∀ W, Below w.heap.size w W → Calls Try.prog 19 #[.slice A 1 c] W fun e w' => e = .returned (.int .i64 8) ∧ Below W.heap.size W w') := Lib.hid fun W hW => checkv A 1 c v W (hr.on hW) hn hmax (fun _ => hsm) 8 (by unfold checkV; rw [hmv]; rfl)
        unfold NdV at HC
        rw [hk, show ((2 : Nat) : Int) = 2 from rfl] at HC q0
        subst hA
        clear hr hn hsm hin hs hh hok hq hp1 hnd hk hmv hmax
        go_enter Try.func50, Try.ntmps50
        go_wp2_with (first
          | (go_at_call 58; (with_reducible refine (HC.out).mono ?_); rintro e1 w1 ⟨rfl, hb1⟩; have HB1 := Lib.hid hb1; clear hb1)
          | (go_at_call 19; (with_reducible refine (HV.out _ HB1.out).mono ?_); rintro e2 w2 ⟨rfl, hb2⟩)
          | fail)
        go_ret
        exact ⟨rfl, stp HB1.out hb2⟩
    · obtain ⟨kd, hkd⟩ : ∃ kd, nd.kind = kd := ⟨_, rfl⟩
      have f2 : ((kd : Int) == 2) = false := by simp; omega
      have HV := Lib.hid (checkv A 1 c v w hr hn hmax (fun _ => hsm) q (by rw [← hq]; unfold partE checkV; rw [hp1, decide_eq_false hk]; rfl))
      rw [hkd] at q0
      subst hA
      clear hr hn hsm hin hs hq hp1 hnd hk hkd hmax
      go_enter Try.func50, Try.ntmps50
      go_wp2_with (first
        | (go_at_call 19; (with_reducible refine (HV.out).mono ?_); rintro e2 w2 ⟨rfl, hb2⟩)
        | fail)
      go_ret
      exact ⟨rfl, hb2⟩
  · have f1 : ((n : Int) == 1) = false := by simp; omega
    have HV := Lib.hid (checkv A n c v w hr hn hmax (fun _ => hsm) q (by rw [← hq]; unfold partE checkV; rw [partOk_not1 (by omega)]))
    clear hr hn hsm hq hmax h1
    go_enter Try.func50, Try.ntmps50
    go_wp2_with (first
      | (go_at_call 19; (with_reducible refine (HV.out).mono ?_); rintro e2 w2 ⟨rfl, hb2⟩)
      | fail)
    go_ret
    exact ⟨rfl, hb2⟩
/-- The first error of parts. -/
def partsE (ls : List (List Nd)) : Int := if ls.all partOk = true then 0 else 8
theorem all_no {ls : List (List Nd)} {k : Nat} (hk : k < ls.length) (h : partOk (ls[k]'hk) = false) : ls.all partOk = false := by
  rw [List.all_eq_false]
  exact ⟨_, List.getElem_mem hk, by rw [h]; decide⟩
set_option maxHeartbeats 8000000 in
set_option maxRecDepth 100000 in
theorem each_parts (A : Option Addr) (n c : Nat) (ls : List (List Nd)) (w : World) (hr : RdB (SlS NdS) w A ls) (hn : ls.length = n) (hmax : n ≤ 100000) (hsm : ∀ v ∈ ls, v.length ≤ 100000 ∧ ∀ m ∈ v, SmallN m) (q : Int) (hq : partsE ls = q) :
    Calls Try.prog 49 #[.slice A n c, .func (.func 50) #[] #[]] w fun e w' => e = .returned (.int .i64 q) ∧ Below w.heap.size w w' := by
  have HR := Lib.hid hr
  have HN := Lib.hid hn
  have HM := Lib.hid hmax
  have HSM := Lib.hid hsm
  have HQ := Lib.hid hq
  clear hr hn hmax hsm hq
  go_enter Try.func49, Try.ntmps49
  go_wp2_with fail
  go_loopg [10] n (fun gg i wr => ∃ k : Nat, k + gg = n ∧ i = .int .i64 k ∧ (ls.take k).all partOk = true ∧ Below w.heap.size w wr)
  case atStart => exact ⟨0, by omega, rfl, rfl, Below.refl _ _⟩
  case round =>
    obtain ⟨k, hk, rfl, hall, hbw⟩ := hrel
    have HBW := Lib.hid hbw
    have HALL := Lib.hid hall
    have hm := HM.out
    by_cases hlt : k < n
    · have hk1 : k < ls.length := by rw [HN.out]; exact hlt
      obtain ⟨b0, off, A1, c1, hA, hbB, hc, -, -, -, hrd⟩ := sl_at (HR.out.on hbw) hk1
      obtain ⟨v, hv⟩ : ∃ v, ls[k]'hk1 = v := ⟨_, rfl⟩
      have hsv := HSM.out _ (List.getElem_mem hk1)
      rw [hv] at hc hrd hsv
      have bk : (0 : Int) ≤ (k : Int) ∧ (k : Int) < (n : Int) := by omega
      obtain ⟨m, hmv⟩ : ∃ m, v.length = m := ⟨_, rfl⟩
      rw [hmv] at hc
      subst hA
      cases hp : partOk v with
      | true =>
        have HC := Lib.hid (chkpart A1 m c1 v wr hrd hmv (by omega) hsv.2 0 (by unfold partE; rw [hp]; rfl))
        have HA2 : Hid ((ls.take (k + 1)).all partOk = true) := Lib.hid (by rw [List.take_succ_eq_append_getElem hk1, List.all_append, hall, hv]; simp [hp])
        clear hbw hall hrd hsv hv hk1 hp hmv
        go_wp2_with (first
          | (go_at_call 50; (with_reducible refine (HC.out).mono ?_); rintro e1 w1 ⟨rfl, hb1⟩; have HB1 := Lib.hid hb1; clear hb1)
          | fail)
        go_roundg (gk - 1)
        case rel => exact ⟨k + 1, by omega, by go_num, HA2.out, stp HBW.out HB1.out⟩
        case measure => omega
      | false =>
        have HC := Lib.hid (chkpart A1 m c1 v wr hrd hmv (by omega) hsv.2 8 (by unfold partE; rw [hp]; rfl))
        obtain rfl : q = 8 := by rw [← HQ.out]; unfold partsE; rw [all_no hk1 (by rw [hv]; exact hp)]; rfl
        clear hbw hall hrd hsv hv hk1 hp hmv
        go_wp2_with (first
          | (go_at_call 50; (with_reducible refine (HC.out).mono ?_); rintro e1 w1 ⟨rfl, hb1⟩; have HB1 := Lib.hid hb1; clear hb1)
          | fail)
        go_ret
        exact ⟨rfl, stp HBW.out HB1.out⟩
    · obtain rfl : k = n := by omega
      obtain rfl : q = 0 := by
        rw [← HQ.out]
        unfold partsE
        rw [← HN.out, List.take_length] at hall
        rw [if_pos hall]
      clear hall hbw
      go_wp2_with fail
      go_ret
      exact ⟨rfl, HBW.out⟩
end Hx
end Go.Proofs.Ytlfmjnocfkamaaa
