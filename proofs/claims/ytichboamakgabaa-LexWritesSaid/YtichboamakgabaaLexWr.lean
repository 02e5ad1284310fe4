/-
  Plain facts of LexWrites: a token copied, its attributes copied.
-/
import Derived.Test.YtichboamakgabaaLexB
import Derived.Test.YtichboamakgabaaLexY
import Derived.Laws.AppendOwnNone
namespace Go.Proofs.Ytichboamakgabaa
open Go.RowKit
namespace Hx
open Lx Tx Nmb Es
set_option linter.unusedVariables false
theorem LexSt.next1 {w wr w1 w5 : World} {L : List TB} {A A4 A1 : Option Addr} {c c4 c1 : Nat} {x u : ByteArray} {t : Tk} {o2 : Obj} (h : LexSt w L (.slice A L.length c) wr) (hb : Below wr.heap.size wr w1)
    (hR : TkR wr.heap.size w1 #[.int .u8 (t.kind : Int), .string x, .slice A1 t.attrs.length c1, .string u] t)
    (hown : w5.ownsRow w.heap.size 26 4 (.slice A4 (L.length + 1) c4) (L.length + 1) (L.flatMap tbCells ++ [.int .u8 (t.kind : Int), .string x, .slice A1 t.attrs.length c1, .string u]))
    (hgr : (w1.alloc o2).grownBy w5 (Value.slice A L.length c).ownBlock)
    (hlie : (Value.slice A4 (L.length + 1) c4).ownBlock = (Value.slice A L.length c).ownBlock ∨ (Value.slice A4 (L.length + 1) c4).ownBlock = some (w1.alloc o2).heap.size) :
    LexSt w (L ++ [⟨x, A1, c1, u, t⟩]) (.slice A4 (L.length + 1) c4) w5 := by
  have hb2 : Below w1.heap.size w1 (w1.alloc o2) := stpA (Below.refl _ _) _
  have h1 := (h.below hb).below hb2
  have hlen : (L ++ [(⟨x, A1, c1, u, t⟩ : TB)]).length = L.length + 1 := by simp
  have hfar : ∀ (A' : Option Addr) (l : List Pr), RdC PrC (w1.alloc o2) (w1.alloc o2).heap.size A' l → (0 < l.length → ∀ ad, A' = some ad → some ad.block ≠ (Value.slice A L.length c).ownBlock) → RdC PrC w5 w5.heap.size A' l := by
    intro A' l hr hne hp
    obtain ⟨b, off, rfl, hlt, hc⟩ := hr hp
    refine ⟨b, off, rfl, Nat.lt_of_lt_of_le hlt hgr.size, fun j hj => ?_⟩
    obtain ⟨cs', k1, k2⟩ := hc j hj
    exact ⟨cs', k1, fun i hi => hgr.cell (k2 i hi) (hne hp ⟨b, off, none⟩ rfl)⟩
  have hw1 := hb.size
  have hown0 : ∀ k, (Value.slice A L.length c).ownBlock = some k → w.heap.size ≤ k ∧ k < wr.heap.size := fun k hk => h.1.lt k hk
  have hnew : ∀ (B : TB), (0 < B.t.attrs.length → ∀ ad, B.A = some ad → some ad.block ≠ (Value.slice A L.length c).ownBlock) → TkC.R (w1.alloc o2) (w1.alloc o2).heap.size (tbCells B) B.t → TkC.R w5 w5.heap.size (tbCells B) B.t ∧ ((0 < B.t.attrs.length → ∀ ad, B.A = some ad → some ad.block ≠ (Value.slice A4 (L.length + 1) c4).ownBlock)) := by
    intro B hne hk
    obtain ⟨x', A', c', u', e1, e2, e3, e4, e5, e6, e7, e8⟩ := hk
    have e1' := e1
    unfold tbCells at e1'
    injection e1' with _ e1'
    injection e1' with _ e1'
    injection e1' with e9 _
    injection e9 with e9 _ _
    subst e9
    refine ⟨⟨x', _, c', u', e1, e2, e3, e4, e5, e6, e7, hfar _ _ e8 hne⟩, fun hp ad e => ?_⟩
    rcases hlie with h6 | h6
    · rw [h6]; exact hne hp ad e
    · rw [h6]
      obtain ⟨b, off, e10, hlt, _⟩ := e8 hp
      rw [e] at e10
      injection e10 with e10
      subst e10
      intro e11
      injection e11 with e11
      dsimp only at e11 hlt
      omega
  refine ⟨by rw [hlen, List.flatMap_append]; simpa [tbCells] using hown, fun b hm => ?_, h1.2.2.grown hgr ?_ ?_⟩
  · rcases List.mem_append.1 hm with hm | hm
    · exact hnew b (h1.2.1 b hm).2 (h1.2.1 b hm).1
    · obtain rfl := List.mem_singleton.1 hm
      refine hnew _ (fun _ ad e => ?_) (TkC.keep hR.1 hb2.size fun bl o hlt => hb2.cell (p := ⟨bl, o, none⟩) hlt)
      intro e2
      have := hR.2 A1 _ c1 rfl ad e
      have := (hown0 _ e2.symm).2
      omega
  · rw [World.size_alloc]
    have := h.2.2.size
    omega
  · intro k hk
    exact (hown0 k hk).1
def pbOf (p : Pr) : PB := (⟨p.name.toArray⟩, ⟨p.value.toArray⟩)
theorem prVal_pbOf (p : Pr) : prVal (pbOf p) = p := by cases p; simp [prVal, pbOf]
theorem map_pbOf (l : List Pr) : (l.map pbOf).map prVal = l := by
  rw [List.map_map]
  exact (List.map_congr_left (g := id) fun p _ => prVal_pbOf p).trans (List.map_id _)
theorem rdc_news {w : World} {B : Nat} {ad : Addr} {l : List Pr} (h : RdC PrC w B (some ad) l) : ∀ (j : Nat) (u : Value), ((l.map pbOf).flatMap prCells)[j]? = some u → w.cell? (ad.add j) = some u := by
  intro j u hu
  have hlen := flat_len prCells 2 (fun _ => rfl) (l.map pbOf)
  rw [List.length_map] at hlen
  have hj := (List.getElem?_eq_some_iff.1 hu).1
  have hq : j / 2 < l.length := by omega
  obtain ⟨b, off, e, _, hc⟩ := h (by omega)
  injection e with e
  subst e
  obtain ⟨cs, ⟨s, t, rfl, hs, ht⟩, hcell⟩ := hc (j / 2) hq
  have hat := flat_at prCells 2 (fun _ => rfl) (l.map pbOf) (j / 2) (j % 2) (by rw [List.length_map]; exact hq) (by omega)
  rw [show j / 2 * 2 + j % 2 = j by omega, hu] at hat
  rw [addr_plain]
  rw [List.getElem_map] at hat
  have e1 : s = ⟨(l[j / 2]'hq).name.toArray⟩ := ba_x (by rw [hs])
  have e2 : t = ⟨(l[j / 2]'hq).value.toArray⟩ := ba_x (by rw [ht])
  rcases (show j % 2 = 0 ∨ j % 2 = 1 by omega) with h0 | h0
  · have := hcell 0 (by simp)
    rw [show off + j = off + j / 2 * 2 + 0 by omega]
    refine this.trans ?_
    rw [Option.some.inj hat]
    simp [h0, prCells, pbOf, e1]
  · have := hcell 1 (by simp)
    rw [show off + j = off + j / 2 * 2 + 1 by omega]
    refine this.trans ?_
    rw [Option.some.inj hat]
    simp [h0, prCells, pbOf, e2]
theorem news_one (l : List Pr) : ∀ u ∈ (l.map pbOf).flatMap prCells, u.oneCell' = true := by
  intro u hu
  obtain ⟨p, _, h⟩ := List.mem_flatMap.1 hu
  simp [prCells] at h
  rcases h with rfl | rfl <;> rfl
theorem own_empty (w : World) (T : TypeId) (k : Nat) : (w.alloc (.cells #[] T)).ownsRow w.heap.size T k (.slice (some ⟨w.heap.size, 0, none⟩) 0 0) 0 [] :=
  ⟨by simp, .inr ⟨w.heap.size, 0, #[], rfl, Nat.le_refl _, heap_alloc_new _ _, Nat.le_refl _, Nat.zero_le _, by simp, by simp⟩⟩
/-- append(own, attributes...) to a row of none. -/
theorem wpList_append_pr {P : Program} {w : World} {ops : Array Oper} {rest : List Oper} {o : Oper} {a : Act} {Q : Exit → Act → World → Prop} (hgd : o.guard = none) (s x : Operand) (t : TypeId)
    (ho : o.op = .call { callee := .builtin .append, args := #[s, x], argTypes := #[t, t] })
    (base : Nat) (e : TypeId) (i : TypeInfo) (z : Value) (ht : P.underlying t = some (.slice e)) (hi : P.info? e = some i) (hz : i.zero = some z) (hsize : i.size = 2) (hby : i.bytes = 32) (hzs : z.cells.size = 2)
    (v : Value) (hs : a.eval s = v) (hown : w.ownsRow base e 2 v 0 [])
    (B : Nat) (A : Option Addr) (m c : Nat) (l : List Pr) (hx : a.eval x = .slice A m c) (hr : RdC PrC w B A l) (hl : l.length = m) (hc0 : A = none → c = 0) (hb : m ≤ 1000000) (hbase : base ≤ w.heap.size)
    (h : ∀ v' w', w'.ownsRow base e 2 v' m ((l.map pbOf).flatMap prCells) → w.grownBy w' v.ownBlock → wpList P ops Q rest (a.put o.dst v') w') : wpList P ops Q (o :: rest) a w := by
  have hlen := flat_len prCells 2 (fun _ => rfl) (l.map pbOf)
  rw [List.length_map, hl] at hlen
  rcases A with _ | ad
  · have h0 : l = [] := by
      rcases Nat.eq_zero_or_pos l.length with h0 | h0
      · exact List.eq_nil_of_length_eq_zero h0
      · obtain ⟨_, _, he, _⟩ := hr h0
        cases he
    subst h0
    obtain rfl : 0 = m := hl
    rw [hc0 rfl] at hx
    exact wpList_append_own_none hgd s x t ho base e i 2 ht hi v 0 [] hs hown hx (h v w hown (World.grownBy.refl _ _))
  · refine wpList_append_own w hgd s x t ho base e i z 2 32 ht hi hz hsize hby hzs (by decide) v 0 [] hs hown ad m c ((l.map pbOf).flatMap prCells) hx hlen (rdc_news hr) (news_one l) (by unfold maxLen; omega) (by omega) hbase (fun v' w' h1 h2 _ => ?_)
    rw [Nat.zero_add, List.nil_append] at h1
    exact h v' w' h1 h2
theorem tk_at2 {w : World} {A : Option Addr} {l : List Tk} {k : Nat} (hr : RdC TkC w w.heap.size A l) (hk : k < l.length) (hs : Small (l[k]'hk)) :
    ∃ (b off : Nat) (x u : ByteArray) (A1 : Option Addr) (p1 : Nat), A = some ⟨b, off, none⟩ ∧ b < w.heap.size ∧ w.cell? ⟨b, off + k * 4, none⟩ = some (.int .u8 ((l[k]'hk).kind : Int)) ∧ w.cell? ⟨b, off + k * 4 + 1, none⟩ = some (.string x) ∧
      w.cell? ⟨b, off + k * 4 + 2, none⟩ = some (.slice A1 (l[k]'hk).attrs.length p1) ∧ w.cell? ⟨b, off + k * 4 + 3, none⟩ = some (.string u) ∧ TkAt (l[k]'hk) x u A1 p1 w ∧ (A1 = none → p1 = 0) ∧ (l[k]'hk).kind < 256 := by
  obtain ⟨b, off, e, hb, hc⟩ := hr (by omega)
  obtain ⟨cs, ⟨x, A1, p1, u, rfl, hkd, hx, hu, hle, hmx, hnl, hrd⟩, hcell⟩ := hc k hk
  obtain ⟨s1, s2, s3, s4⟩ := hs
  refine ⟨b, off, x, u, A1, p1, e, hb, hcell 0 (by simp), hcell 1 (by simp), hcell 2 (by simp), hcell 3 (by simp), ⟨hx, hu, hrd, hle, ?_, ?_, s3, s4⟩, hnl, hkd⟩
  · rw [← ba_l, hx]; exact s1
  · rw [← ba_l, hu]; exact s2
theorem own_emptyB (w : World) (o : Obj) (T : TypeId) (k : Nat) : ((w.alloc o).alloc (.cells #[] T)).ownsRow (w.heap.size + 1) T k (.slice (some ⟨w.heap.size + 1, 0, none⟩) 0 0) 0 [] := by
  have := own_empty (w.alloc o) T k
  rwa [World.size_alloc] at this
/-- Behind the append of the attributes: the box stands; what lay below it, too. -/
theorem copy_box (wr w3 : World) (cs : Array Value) (T : TypeId) {T2 : TypeId} (hgr : ((wr.alloc (.cells cs T)).alloc (.cells #[] T2)).grownBy w3 (Value.slice (some ⟨wr.heap.size + 1, 0, none⟩) 0 0).ownBlock) :
    w3.heap[wr.heap.size]? = some (.cells cs T (0, 0)) ∧ Below wr.heap.size wr w3 := by
  have h1 := kept_heap (heap_alloc_new wr (.cells cs T)) (stpA (Below.refl (wr.alloc (.cells cs T)).heap.size (wr.alloc (.cells cs T))) (.cells #[] T2))
  refine ⟨(hgr.block _ (Array.getElem?_eq_some_iff.1 h1).1 (fun e => by have e : some wr.heap.size = some (wr.heap.size + 1) := e; injection e with e; omega)).trans h1, ?_⟩
  refine (stpA (stpA (Below.refl wr.heap.size wr) (.cells cs T)) (.cells #[] T2)).grown hgr (by simp; omega) fun k hk => ?_
  have hk : some (wr.heap.size + 1) = some k := hk
  injection hk with hk
  omega
theorem copy_set (wr w3 : World) (z : Int) (x u : ByteArray) (v v' : Value) (h : w3.heap[wr.heap.size]? = some (.cells #[.int .u8 z, .string x, v, .string u] 26 (0, 0))) (hb : Below wr.heap.size wr w3) :
    (w3.setCell ⟨wr.heap.size, 2, none⟩ v').heap[wr.heap.size]? = some (.cells #[.int .u8 z, .string x, v', .string u] 26 (0, 0)) ∧ Below wr.heap.size wr (w3.setCell ⟨wr.heap.size, 2, none⟩ v') := by
  refine ⟨?_, hb.setCell (p := ⟨wr.heap.size, 2, none⟩) (Nat.le_refl _) _⟩
  simp [World.setCell, Array.getElem?_modify, h]
/-- Behind the append of the token. -/
theorem copy_fin {w wr w3 w5 : World} {L : List TB} {Ao A3 A5 : Option Addr} {co c3 c5 : Nat} {x u : ByteArray} {t : Tk} {o2 : Obj} (h : LexSt w L (.slice Ao L.length co) wr) (hbw : Below w.heap.size w wr)
    (ho3 : w3.ownsRow (wr.heap.size + 1) 37 2 (.slice A3 t.attrs.length c3) t.attrs.length ((t.attrs.map pbOf).flatMap prCells))
    (hs3 : (w3.setCell ⟨wr.heap.size, 2, none⟩ (.slice A3 t.attrs.length c3)).heap[wr.heap.size]? = some (.cells #[.int .u8 (t.kind : Int), .string x, .slice A3 t.attrs.length c3, .string u] 26 (0, 0)) ∧ Below wr.heap.size wr (w3.setCell ⟨wr.heap.size, 2, none⟩ (.slice A3 t.attrs.length c3)))
    (hx : x.data.toList = t.name) (hu : u.data.toList = t.text) (hkd : t.kind < 256)
    (hown : w5.ownsRow w.heap.size 26 4 (.slice A5 (L.length + 1) c5) (L.length + 1) (L.flatMap tbCells ++ [.int .u8 (t.kind : Int), .string x, .slice A3 t.attrs.length c3, .string u]))
    (hgr : ((w3.setCell ⟨wr.heap.size, 2, none⟩ (.slice A3 t.attrs.length c3)).alloc o2).grownBy w5 (Value.slice Ao L.length co).ownBlock)
    (hlie : (Value.slice A5 (L.length + 1) c5).ownBlock = (Value.slice Ao L.length co).ownBlock ∨ (Value.slice A5 (L.length + 1) c5).ownBlock = some ((w3.setCell ⟨wr.heap.size, 2, none⟩ (.slice A3 t.attrs.length c3)).alloc o2).heap.size) :
    LexSt w (L ++ [⟨x, A3, c3, u, t⟩]) (.slice A5 (L.length + 1) c5) w5 ∧ w5.heap[wr.heap.size]? = some (.cells #[.int .u8 (t.kind : Int), .string x, .slice A3 t.attrs.length c3, .string u] 26 (0, 0)) ∧ RdC PrC w5 w5.heap.size A3 t.attrs ∧ t.attrs.length ≤ c3 := by
  have hos := own_setCell ho3 wr.heap.size 2 (by omega) (.slice A3 t.attrs.length c3)
  obtain ⟨r1, _, r3, r4, r5⟩ := own_attrs hos
  rw [map_pbOf] at r1
  have hR : TkR wr.heap.size (w3.setCell ⟨wr.heap.size, 2, none⟩ (.slice A3 t.attrs.length c3)) #[.int .u8 (t.kind : Int), .string x, .slice A3 t.attrs.length c3, .string u] t := by
    refine ⟨⟨x, A3, c3, u, rfl, hkd, hx, hu, r3, r4, r5, r1⟩, fun A n c e ad ea => ?_⟩
    have e' : Value.slice A3 t.attrs.length c3 = .slice A n c := Option.some.inj e
    injection e' with e1 _ _
    subst e1
    rcases hos.2 with ⟨ev, _⟩ | ⟨g, cap, cur, ev, hg, _⟩
    · injection ev with ev _ _
      rw [ev] at ea
      cases ea
    · injection ev with ev _ _
      rw [ev] at ea
      injection ea with ea
      subst ea
      dsimp only
      omega
  have hst := LexSt.next1 h hs3.2 hR hown hgr hlie
  have hk0 := kept_heap hs3.1 (stpA (Below.refl (w3.setCell ⟨wr.heap.size, 2, none⟩ (.slice A3 t.attrs.length c3)).heap.size (w3.setCell ⟨wr.heap.size, 2, none⟩ (.slice A3 t.attrs.length c3))) o2)
  refine ⟨hst, (hgr.block _ (Array.getElem?_eq_some_iff.1 hk0).1 (fun e => by have := (h.1.lt _ e.symm).2; omega)).trans hk0, ?_, r3⟩
  obtain ⟨x', A', c', u', e1, _, _, _, _, _, _, e8⟩ := (hst.2.1 ⟨x, A3, c3, u, t⟩ (by simp)).1
  unfold tbCells at e1
  injection e1 with _ e1
  injection e1 with _ e1
  injection e1 with e9 _
  injection e9 with e9 _ _
  subst e9
  exact e8
end Hx
end Go.Proofs.Ytichboamakgabaa
