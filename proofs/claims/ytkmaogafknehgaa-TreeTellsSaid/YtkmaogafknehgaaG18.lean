/-
  Texts of one seat, put together: LeaO, LexB, LexWr, MemE, TreU, TreT.
-/
import Derived.Test.YtkmaogafknehgaaG17
import Derived.Test.YtkmaogafknehgaaG06
import Derived.Test.YtkmaogafknehgaaG16
import Derived.Test.YtkmaogafknehgaaG15
import Derived.Laws.AppendOwnNone
import Derived.Test.YtkmaogafknehgaaG02
import Derived.Maps.AppendAt
import Derived.Deep.AppendLies
import Derived.Test.YtkmaogafknehgaaG12
namespace Go.Proofs.Ytkmaogafknehgaa
open Go.RowKit
namespace Hx
open Lx Tx Nmb Es
set_option linter.unusedVariables false
/-- Was the token ahead of place k a text? -/
def wasT (l : List Tk) : Nat → Bool
  | 0 => false
  | k + 1 => match l[k]? with | some t => decide (t.kind = 4) | none => false
theorem wasT_succ {l : List Tk} {k : Nat} (h : k < l.length) : wasT l (k + 1) = decide ((l[k]'h).kind = 4) := by
  show (match l[k]? with | some t => decide (t.kind = 4) | none => false) = _
  rw [List.getElem?_eq_getElem h]
theorem apart_on {l : List Tk} {k : Nat} (h : k < l.length) (hp : apart (l.take k) = true) (hb : (decide ((l[k]'h).kind = 4) && wasT l k) = false) : apart (l.take (k + 1)) = true := by
  cases k with
  | zero =>
    cases l with
    | nil => rfl
    | cons a r => rfl
  | succ k =>
    refine apart_next (by omega) h hp ?_
    rw [wasT_succ (by omega)] at hb
    rintro ⟨h1, h2⟩
    have h1' : (l[k]'(by omega)).kind = 4 := by simpa using h1
    simp [h1', h2] at hb
theorem apart_off {l : List Tk} {k : Nat} (h : k < l.length) (hb : (decide ((l[k]'h).kind = 4) && wasT l k) = true) : apart l = false := by
  cases k with
  | zero => simp [wasT] at hb
  | succ k =>
    rw [wasT_succ (by omega), Bool.and_eq_true, decide_eq_true_eq, decide_eq_true_eq] at hb
    exact apart_bad (by omega) h (by simpa using hb.2) hb.1
theorem flatT_le (l : List Tk) (k : Nat) : ((l.take k).flatMap writeT).length ≤ (l.flatMap writeT).length := by
  conv => rhs; rw [← List.take_append_drop k l]
  rw [List.flatMap_append, List.length_append]
  omega
theorem flatT_snoc {l : List Tk} {k : Nat} (h : k < l.length) : (l.take (k + 1)).flatMap writeT = (l.take k).flatMap writeT ++ writeT (l[k]'h) := by
  rw [List.take_succ_eq_append_getElem h, List.flatMap_append]
  simp [-List.take_append_getElem]
theorem flatA_ge : ∀ (l : List Pr), l.all fitP = false → 16384 < (l.flatMap writeA).length
  | [], h => by cases h
  | p :: l, h => by
    rw [List.flatMap_cons, List.length_append]
    rw [List.all_cons] at h
    cases hf : fitP p with
    | true =>
      rw [hf, Bool.true_and] at h
      have := flatA_ge l h
      omega
    | false =>
      have h4 : 16384 < (escL true p.value).length := by unfold fitP at hf; simpa using hf
      have h5 : (writeA p).length = p.name.length + (escL true p.value).length + 4 := by
        unfold writeA
        simp only [List.length_cons, List.length_append, List.length_nil]
        omega
      omega
theorem fitT_no {t : Tk} (hm : mayT t = true) (h : fitT t = false) : 16384 < (writeT t).length := by
  unfold fitT at h
  unfold writeT
  by_cases h4 : t.kind = 4
  · rw [if_pos h4] at h ⊢
    simpa using h
  · rw [if_neg h4] at h ⊢
    have := flatA_ge t.attrs h
    by_cases h2 : t.kind = 2
    · rcases mayT_cases hm with ⟨b, h1, _⟩ | ⟨_, _, h3, _⟩ | ⟨h1, _⟩
      · rw [h2] at h1; cases b <;> simp at h1
      · rw [h3] at h; cases h
      · exact absurd h1 h4
    · rw [if_neg h2]
      simp only [List.length_cons, List.length_append]
      omega
theorem writeT_fit {t : Tk} (hm : mayT t = true) (h : fitT t = true) (hs : Small t) : (writeT t).length ≤ 30000000 := by
  obtain ⟨s1, s2, s3, s4⟩ := hs
  unfold fitT at h
  unfold writeT
  by_cases h4 : t.kind = 4
  · rw [if_pos h4] at h ⊢
    simp at h
    omega
  · rw [if_neg h4] at h ⊢
    by_cases h2 : t.kind = 2
    · rw [if_pos h2]
      simp only [List.length_cons, List.length_append, List.length_nil]
      omega
    · rw [if_neg h2]
      have h5 := flatA_fit t.attrs h s4
      have h6 := (mayT_vals hm h4).1
      simp only [List.length_cons, List.length_append]
      split <;> simp only [List.length_cons, List.length_nil] <;> omega
theorem ba_mk9 (l : List UInt8) : (⟨l.toArray⟩ : ByteArray).data.toList = l := by simp
end Hx
end Go.Proofs.Ytkmaogafknehgaa
namespace Go.Proofs.Ytkmaogafknehgaa
open Go.RowKit
namespace Hx
open Lx Tx Nmb Es
set_option linter.unusedVariables false
theorem lexR_er {l : List UInt8} {ts : List Tk} {n er : Int} (h : lexR l = (ts, n, er)) : er = 0 ∨ er = 4 ∨ er = 50 ∨ er = 80 := by
  by_cases h0 : er = 0
  · exact .inl h0
  · exact .inr (lexR_bad h h0).2.1
theorem lexR_small {l : List UInt8} {ts : List Tk} {n er : Int} (h : lexR l = (ts, n, er)) : ts.length ≤ 512 ∧ ∀ t ∈ ts, t.attrs.length ≤ 16 := by
  by_cases h0 : er = 0
  · subst h0
    obtain ⟨_, _, _, _, h1, h2⟩ := lexR_ok h
    exact ⟨h1, h2⟩
  · rw [(lexR_bad h h0).1]
    exact ⟨by simp, by simp⟩
/-- Tokens that a call answers: where they lie. -/
def TkIn (ts : List Tk) (A : Option Addr) (c : Nat) (w : World) : Prop := RdC TkC w w.heap.size A ts ∧ ts.length ≤ c ∧ c ≤ maxLen ∧ (A = none → c = 0)
theorem TkIn.on {ts : List Tk} {A : Option Addr} {c : Nat} {w w' : World} (h : TkIn ts A c w) (hb : Below w.heap.size w w') : TkIn ts A c w' := ⟨h.1.on hb, h.2⟩
theorem name9 (s : ByteArray) (w : World) (hm : s.size ≤ 1000000) (b : Bool) (h : nameL s.data.toList = b) :
    Calls Try.prog 63 #[.string s] w fun e w' => e = .returned (.bool b) ∧ Below w.heap.size w w' :=
  (name9q s w hm b h).mono fun e w' ⟨h1, h2⟩ => ⟨h1, h2 ▸ Below.refl _ _⟩
theorem full9 (s : ByteArray) (w : World) (hm : s.size ≤ 1000000) (b : Bool) (h : fullL s.data.toList = b) :
    Calls Try.prog 56 #[.string s] w fun e w' => e = .returned (.bool b) ∧ Below w.heap.size w w' := full9q s w hm b h
end Hx
end Go.Proofs.Ytkmaogafknehgaa
namespace Go.Proofs.Ytkmaogafknehgaa
open Go.RowKit
namespace Hx
open Lx Tx Nmb Es
set_option linter.unusedVariables false
theorem LexSt.next1 {w wr w1 w5 : World} {L : List TB} {A A4 A1 : Option Addr} {c c4 c1 : Nat} {x u : ByteArray} {t : Tk} {o2 : Obj} (h : LexSt w L (.slice A L.length c) wr) (hb : Below wr.heap.size wr w1)
    (hR : TkR wr.heap.size w1 #[.int .u8 (t.kind : Int), .string x, .slice A1 t.attrs.length c1, .string u] t)
    (hown : w5.ownsRow w.heap.size 60 4 (.slice A4 (L.length + 1) c4) (L.length + 1) (L.flatMap tbCells ++ [.int .u8 (t.kind : Int), .string x, .slice A1 t.attrs.length c1, .string u]))
    (hgr : (w1.alloc o2).grownBy w5 (Value.slice A L.length c).ownBlock)
    (hlie : (Value.slice A4 (L.length + 1) c4).ownBlock = (Value.slice A L.length c).ownBlock ∨ (Value.slice A4 (L.length + 1) c4).ownBlock = some (w1.alloc o2).heap.size) :
    LexSt w (L ++ [⟨x, A1, c1, u, t⟩]) (.slice A4 (L.length + 1) c4) w5 := by
  have hb2 : Below w1.heap.size w1 (w1.alloc o2) := stpA (Below.refl _ _) _
  have h1 := (h.below hb).below hb2
  have hlen : (L ++ [(⟨x, A1, c1, u, t⟩ : TB)]).length = L.length + 1 := by simp
  have hfar : ∀ (A' : Option Addr) (l : List Pr), RdC PrC (w1.alloc o2) (w1.alloc o2).heap.size A' l → (0 < l.length → ∀ ad, A' = some ad → some ad.block ≠ (Value.slice A L.length c).ownBlock) → RdC PrC w5 w5.heap.size A' l := by
    intro A' l hr hne hp
    obtain ⟨b, off, rfl, hlt, hc⟩ := hr hp
    refine ⟨b, off, rfl, Nat.lt_of_lt_of_le hlt hgr.size, fun j hj => ?_⟩
    obtain ⟨cs', k1, k2⟩ := hc j hj
    exact ⟨cs', k1, fun i hi => hgr.cell (k2 i hi) (hne hp ⟨b, off, none⟩ rfl)⟩
  have hw1 := hb.size
  have hown0 : ∀ k, (Value.slice A L.length c).ownBlock = some k → w.heap.size ≤ k ∧ k < wr.heap.size := fun k hk => h.1.lt k hk
  have hnew : ∀ (B : TB), (0 < B.t.attrs.length → ∀ ad, B.A = some ad → some ad.block ≠ (Value.slice A L.length c).ownBlock) → TkC.R (w1.alloc o2) (w1.alloc o2).heap.size (tbCells B) B.t → TkC.R w5 w5.heap.size (tbCells B) B.t ∧ ((0 < B.t.attrs.length → ∀ ad, B.A = some ad → some ad.block ≠ (Value.slice A4 (L.length + 1) c4).ownBlock)) := by
    intro B hne hk
    obtain ⟨x', A', c', u', e1, e2, e3, e4, e5, e6, e7, e8⟩ := hk
    have e1' := e1
    unfold tbCells at e1'
    injection e1' with _ e1'
    injection e1' with _ e1'
    injection e1' with e9 _
    injection e9 with e9 _ _
    subst e9
    refine ⟨⟨x', _, c', u', e1, e2, e3, e4, e5, e6, e7, hfar _ _ e8 hne⟩, fun hp ad e => ?_⟩
    rcases hlie with h6 | h6
    · rw [h6]; exact hne hp ad e
    · rw [h6]
      obtain ⟨b, off, e10, hlt, _⟩ := e8 hp
      rw [e] at e10
      injection e10 with e10
      subst e10
      intro e11
      injection e11 with e11
      dsimp only at e11 hlt
      omega
  refine ⟨by rw [hlen, List.flatMap_append]; simpa [tbCells] using hown, fun b hm => ?_, h1.2.2.grown hgr ?_ ?_⟩
  · rcases List.mem_append.1 hm with hm | hm
    · exact hnew b (h1.2.1 b hm).2 (h1.2.1 b hm).1
    · obtain rfl := List.mem_singleton.1 hm
      refine hnew _ (fun _ ad e => ?_) (TkC.keep hR.1 hb2.size fun bl o hlt => hb2.cell (p := ⟨bl, o, none⟩) hlt)
      intro e2
      have := hR.2 A1 _ c1 rfl ad e
      have := (hown0 _ e2.symm).2
      omega
  · rw [World.size_alloc]
    have := h.2.2.size
    omega
  · intro k hk
    exact (hown0 k hk).1
def pbOf (p : Pr) : PB := (⟨p.name.toArray⟩, ⟨p.value.toArray⟩)
theorem prVal_pbOf (p : Pr) : prVal (pbOf p) = p := by cases p; simp [prVal, pbOf]
theorem map_pbOf (l : List Pr) : (l.map pbOf).map prVal = l := by
  rw [List.map_map]
  exact (List.map_congr_left (g := id) fun p _ => prVal_pbOf p).trans (List.map_id _)
theorem rdc_news {w : World} {B : Nat} {ad : Addr} {l : List Pr} (h : RdC PrC w B (some ad) l) : ∀ (j : Nat) (u : Value), ((l.map pbOf).flatMap prCells)[j]? = some u → w.cell? (ad.add j) = some u := by
  intro j u hu
  have hlen := flat_len prCells 2 (fun _ => rfl) (l.map pbOf)
  rw [List.length_map] at hlen
  have hj := (List.getElem?_eq_some_iff.1 hu).1
  have hq : j / 2 < l.length := by omega
  obtain ⟨b, off, e, _, hc⟩ := h (by omega)
  injection e with e
  subst e
  obtain ⟨cs, ⟨s, t, rfl, hs, ht⟩, hcell⟩ := hc (j / 2) hq
  have hat := flat_at prCells 2 (fun _ => rfl) (l.map pbOf) (j / 2) (j % 2) (by rw [List.length_map]; exact hq) (by omega)
  rw [show j / 2 * 2 + j % 2 = j by omega, hu] at hat
  rw [addr_plain]
  rw [List.getElem_map] at hat
  have e1 : s = ⟨(l[j / 2]'hq).name.toArray⟩ := ba_x (by rw [hs])
  have e2 : t = ⟨(l[j / 2]'hq).value.toArray⟩ := ba_x (by rw [ht])
  rcases (show j % 2 = 0 ∨ j % 2 = 1 by omega) with h0 | h0
  · have := hcell 0 (by simp)
    rw [show off + j = off + j / 2 * 2 + 0 by omega]
    refine this.trans ?_
    rw [Option.some.inj hat]
    simp [h0, prCells, pbOf, e1]
  · have := hcell 1 (by simp)
    rw [show off + j = off + j / 2 * 2 + 1 by omega]
    refine this.trans ?_
    rw [Option.some.inj hat]
    simp [h0, prCells, pbOf, e2]
theorem news_one (l : List Pr) : ∀ u ∈ (l.map pbOf).flatMap prCells, u.oneCell' = true := by
  intro u hu
  obtain ⟨p, _, h⟩ := List.mem_flatMap.1 hu
  simp [prCells] at h
  rcases h with rfl | rfl <;> rfl
theorem own_empty (w : World) (T : TypeId) (k : Nat) : (w.alloc (.cells #[] T)).ownsRow w.heap.size T k (.slice (some ⟨w.heap.size, 0, none⟩) 0 0) 0 [] :=
  ⟨by simp, .inr ⟨w.heap.size, 0, #[], rfl, Nat.le_refl _, heap_alloc_new _ _, Nat.le_refl _, Nat.zero_le _, by simp, by simp⟩⟩
/-- append(own, attributes...) to a row of none. -/
theorem wpList_append_pr {P : Program} {w : World} {ops : Array Oper} {rest : List Oper} {o : Oper} {a : Act} {Q : Exit → Act → World → Prop} (hgd : o.guard = none) (s x : Operand) (t : TypeId)
    (ho : o.op = .call { callee := .builtin .append, args := #[s, x], argTypes := #[t, t] })
    (base : Nat) (e : TypeId) (i : TypeInfo) (z : Value) (ht : P.underlying t = some (.slice e)) (hi : P.info? e = some i) (hz : i.zero = some z) (hsize : i.size = 2) (hby : i.bytes = 32) (hzs : z.cells.size = 2)
    (v : Value) (hs : a.eval s = v) (hown : w.ownsRow base e 2 v 0 [])
    (B : Nat) (A : Option Addr) (m c : Nat) (l : List Pr) (hx : a.eval x = .slice A m c) (hr : RdC PrC w B A l) (hl : l.length = m) (hc0 : A = none → c = 0) (hb : m ≤ 1000000) (hbase : base ≤ w.heap.size)
    (h : ∀ v' w', w'.ownsRow base e 2 v' m ((l.map pbOf).flatMap prCells) → w.grownBy w' v.ownBlock → wpList P ops Q rest (a.put o.dst v') w') : wpList P ops Q (o :: rest) a w := by
  have hlen := flat_len prCells 2 (fun _ => rfl) (l.map pbOf)
  rw [List.length_map, hl] at hlen
  rcases A with _ | ad
  · have h0 : l = [] := by
      rcases Nat.eq_zero_or_pos l.length with h0 | h0
      · exact List.eq_nil_of_length_eq_zero h0
      · obtain ⟨_, _, he, _⟩ := hr h0
        cases he
    subst h0
    obtain rfl : 0 = m := hl
    rw [hc0 rfl] at hx
    exact wpList_append_own_none hgd s x t ho base e i 2 ht hi v 0 [] hs hown hx (h v w hown (World.grownBy.refl _ _))
  · refine wpList_append_own w hgd s x t ho base e i z 2 32 ht hi hz hsize hby hzs (by decide) v 0 [] hs hown ad m c ((l.map pbOf).flatMap prCells) hx hlen (rdc_news hr) (news_one l) (by unfold maxLen; omega) (by omega) hbase (fun v' w' h1 h2 _ => ?_)
    rw [Nat.zero_add, List.nil_append] at h1
    exact h v' w' h1 h2
theorem tk_at2 {w : World} {A : Option Addr} {l : List Tk} {k : Nat} (hr : RdC TkC w w.heap.size A l) (hk : k < l.length) (hs : Small (l[k]'hk)) :
    ∃ (b off : Nat) (x u : ByteArray) (A1 : Option Addr) (p1 : Nat), A = some ⟨b, off, none⟩ ∧ b < w.heap.size ∧ w.cell? ⟨b, off + k * 4, none⟩ = some (.int .u8 ((l[k]'hk).kind : Int)) ∧ w.cell? ⟨b, off + k * 4 + 1, none⟩ = some (.string x) ∧
      w.cell? ⟨b, off + k * 4 + 2, none⟩ = some (.slice A1 (l[k]'hk).attrs.length p1) ∧ w.cell? ⟨b, off + k * 4 + 3, none⟩ = some (.string u) ∧ TkAt (l[k]'hk) x u A1 p1 w ∧ (A1 = none → p1 = 0) ∧ (l[k]'hk).kind < 256 := by
  obtain ⟨b, off, e, hb, hc⟩ := hr (by omega)
  obtain ⟨cs, ⟨x, A1, p1, u, rfl, hkd, hx, hu, hle, hmx, hnl, hrd⟩, hcell⟩ := hc k hk
  obtain ⟨s1, s2, s3, s4⟩ := hs
  refine ⟨b, off, x, u, A1, p1, e, hb, hcell 0 (by simp), hcell 1 (by simp), hcell 2 (by simp), hcell 3 (by simp), ⟨hx, hu, hrd, hle, ?_, ?_, s3, s4⟩, hnl, hkd⟩
  · rw [← ba_l, hx]; exact s1
  · rw [← ba_l, hu]; exact s2
theorem own_emptyB (w : World) (o : Obj) (T : TypeId) (k : Nat) : ((w.alloc o).alloc (.cells #[] T)).ownsRow (w.heap.size + 1) T k (.slice (some ⟨w.heap.size + 1, 0, none⟩) 0 0) 0 [] := by
  have := own_empty (w.alloc o) T k
  rwa [World.size_alloc] at this
/-- Behind the append of the attributes: the box stands; what lay below it, too. -/
theorem copy_box (wr w3 : World) (cs : Array Value) (T : TypeId) {T2 : TypeId} (hgr : ((wr.alloc (.cells cs T)).alloc (.cells #[] T2)).grownBy w3 (Value.slice (some ⟨wr.heap.size + 1, 0, none⟩) 0 0).ownBlock) :
    w3.heap[wr.heap.size]? = some (.cells cs T (0, 0)) ∧ Below wr.heap.size wr w3 := by
  have h1 := kept_heap (heap_alloc_new wr (.cells cs T)) (stpA (Below.refl (wr.alloc (.cells cs T)).heap.size (wr.alloc (.cells cs T))) (.cells #[] T2))
  refine ⟨(hgr.block _ (Array.getElem?_eq_some_iff.1 h1).1 (fun e => by have e : some wr.heap.size = some (wr.heap.size + 1) := e; injection e with e; omega)).trans h1, ?_⟩
  refine (stpA (stpA (Below.refl wr.heap.size wr) (.cells cs T)) (.cells #[] T2)).grown hgr (by simp; omega) fun k hk => ?_
  have hk : some (wr.heap.size + 1) = some k := hk
  injection hk with hk
  omega
theorem copy_set (wr w3 : World) (z : Int) (x u : ByteArray) (v v' : Value) (h : w3.heap[wr.heap.size]? = some (.cells #[.int .u8 z, .string x, v, .string u] 60 (0, 0))) (hb : Below wr.heap.size wr w3) :
    (w3.setCell ⟨wr.heap.size, 2, none⟩ v').heap[wr.heap.size]? = some (.cells #[.int .u8 z, .string x, v', .string u] 60 (0, 0)) ∧ Below wr.heap.size wr (w3.setCell ⟨wr.heap.size, 2, none⟩ v') := by
  refine ⟨?_, hb.setCell (p := ⟨wr.heap.size, 2, none⟩) (Nat.le_refl _) _⟩
  simp [World.setCell, Array.getElem?_modify, h]
/-- Behind the append of the token. -/
theorem copy_fin {w wr w3 w5 : World} {L : List TB} {Ao A3 A5 : Option Addr} {co c3 c5 : Nat} {x u : ByteArray} {t : Tk} {o2 : Obj} (h : LexSt w L (.slice Ao L.length co) wr) (hbw : Below w.heap.size w wr)
    (ho3 : w3.ownsRow (wr.heap.size + 1) 84 2 (.slice A3 t.attrs.length c3) t.attrs.length ((t.attrs.map pbOf).flatMap prCells))
    (hs3 : (w3.setCell ⟨wr.heap.size, 2, none⟩ (.slice A3 t.attrs.length c3)).heap[wr.heap.size]? = some (.cells #[.int .u8 (t.kind : Int), .string x, .slice A3 t.attrs.length c3, .string u] 60 (0, 0)) ∧ Below wr.heap.size wr (w3.setCell ⟨wr.heap.size, 2, none⟩ (.slice A3 t.attrs.length c3)))
    (hx : x.data.toList = t.name) (hu : u.data.toList = t.text) (hkd : t.kind < 256)
    (hown : w5.ownsRow w.heap.size 60 4 (.slice A5 (L.length + 1) c5) (L.length + 1) (L.flatMap tbCells ++ [.int .u8 (t.kind : Int), .string x, .slice A3 t.attrs.length c3, .string u]))
    (hgr : ((w3.setCell ⟨wr.heap.size, 2, none⟩ (.slice A3 t.attrs.length c3)).alloc o2).grownBy w5 (Value.slice Ao L.length co).ownBlock)
    (hlie : (Value.slice A5 (L.length + 1) c5).ownBlock = (Value.slice Ao L.length co).ownBlock ∨ (Value.slice A5 (L.length + 1) c5).ownBlock = some ((w3.setCell ⟨wr.heap.size, 2, none⟩ (.slice A3 t.attrs.length c3)).alloc o2).heap.size) :
    LexSt w (L ++ [⟨x, A3, c3, u, t⟩]) (.slice A5 (L.length + 1) c5) w5 ∧ w5.heap[wr.heap.size]? = some (.cells #[.int .u8 (t.kind : Int), .string x, .slice A3 t.attrs.length c3, .string u] 60 (0, 0)) ∧ RdC PrC w5 w5.heap.size A3 t.attrs ∧ t.attrs.length ≤ c3 := by
  have hos := own_setCell ho3 wr.heap.size 2 (by omega) (.slice A3 t.attrs.length c3)
  obtain ⟨r1, _, r3, r4, r5⟩ := own_attrs hos
  rw [map_pbOf] at r1
  have hR : TkR wr.heap.size (w3.setCell ⟨wr.heap.size, 2, none⟩ (.slice A3 t.attrs.length c3)) #[.int .u8 (t.kind : Int), .string x, .slice A3 t.attrs.length c3, .string u] t := by
    refine ⟨⟨x, A3, c3, u, rfl, hkd, hx, hu, r3, r4, r5, r1⟩, fun A n c e ad ea => ?_⟩
    have e' : Value.slice A3 t.attrs.length c3 = .slice A n c := Option.some.inj e
    injection e' with e1 _ _
    subst e1
    rcases hos.2 with ⟨ev, _⟩ | ⟨g, cap, cur, ev, hg, _⟩
    · injection ev with ev _ _
      rw [ev] at ea
      cases ea
    · injection ev with ev _ _
      rw [ev] at ea
      injection ea with ea
      subst ea
      dsimp only
      omega
  have hst := LexSt.next1 h hs3.2 hR hown hgr hlie
  have hk0 := kept_heap hs3.1 (stpA (Below.refl (w3.setCell ⟨wr.heap.size, 2, none⟩ (.slice A3 t.attrs.length c3)).heap.size (w3.setCell ⟨wr.heap.size, 2, none⟩ (.slice A3 t.attrs.length c3))) o2)
  refine ⟨hst, (hgr.block _ (Array.getElem?_eq_some_iff.1 hk0).1 (fun e => by have := (h.1.lt _ e.symm).2; omega)).trans hk0, ?_, r3⟩
  obtain ⟨x', A', c', u', e1, _, _, _, _, _, _, e8⟩ := (hst.2.1 ⟨x, A3, c3, u, t⟩ (by simp)).1
  unfold tbCells at e1
  injection e1 with _ e1
  injection e1 with _ e1
  injection e1 with e9 _
  injection e9 with e9 _ _
  subst e9
  exact e8
end Hx
end Go.Proofs.Ytkmaogafknehgaa
namespace Go.Proofs.Ytkmaogafknehgaa
open Go.RowKit
namespace Hx
open Lx Tr
set_option linter.unusedVariables false
theorem RdS.of_own {α β : Type} {C : CodS α} {w : World} {S : Nat → Prop} {base : Nat} {e : TypeId} {A : Option Addr} {n c : Nat} (f : β → List Value) (val : β → α) (hk : ∀ b, (f b).length = C.k) (hk0 : 0 < C.k) (l : List β) (hR : ∀ b ∈ l, C.R w S (f b) (val b)) (hS : ∀ g, (Value.slice A n c).ownBlock = some g → S g)
    (h : w.ownsRow base e C.k (.slice A n c) n (l.flatMap f)) : RdS C w S A (l.map val) ∧ l.length = n ∧ n ≤ c ∧ c ≤ maxLen ∧ (A = none → c = 0) := by
  have hl : l.length = n := by
    have := h.1
    rw [flat_len f C.k hk] at this
    exact Nat.eq_of_mul_eq_mul_right hk0 this
  rcases h.2 with ⟨e1, h0⟩ | ⟨g, cap, cur, hv, hb, hg, hnc, hcm, _, _⟩
  · injection e1 with e1 e2 e3
    subst e1 e3
    have : l = [] := List.eq_nil_of_length_eq_zero (by omega)
    subst this
    exact ⟨RdS.nil _ _ _, hl, by omega, Nat.zero_le _, fun _ => rfl⟩
  · injection hv with e1 e2 e3
    subst e1 e3
    refine ⟨fun hp => ⟨g, 0, rfl, hS g rfl, fun j hj => ?_⟩, hl, hnc, hcm, fun h => by cases h⟩
    have hj' : j < l.length := by simpa using hj
    refine ⟨f (l[j]'hj'), by simpa using hR _ (List.getElem_mem hj'), fun i hi => ?_⟩
    have hi' : i < C.k := by rw [hk] at hi; exact hi
    have := h.cells (g := g) rfl (j * C.k + i) _ (flat_at f C.k hk l j i hj' hi')
    rw [addr_plain] at this
    rw [Nat.zero_add, ← this, Nat.zero_add]
/-- An attribute as the program holds it. -/
structure AB where
  x : ByteArray
  y : ByteArray
  z : ByteArray
def abCells (b : AB) : List Value := [.string b.x, .string b.y, .string b.z]
def abVal (b : AB) : At := ⟨b.x.data.toList, b.y.data.toList, b.z.data.toList⟩
def abOf (a : At) : AB := ⟨⟨a.space.toArray⟩, ⟨a.name.toArray⟩, ⟨a.value.toArray⟩⟩
theorem abVal_of (a : At) : abVal (abOf a) = a := by cases a; simp [abVal, abOf]
theorem map_abOf (l : List At) : (l.map abOf).map abVal = l := by
  rw [List.map_map]
  exact (List.map_congr_left (g := id) fun a _ => abVal_of a).trans (List.map_id _)
theorem ab_R (w : World) (S : Nat → Prop) (b : AB) : AtS.R w S (abCells b) (abVal b) := ⟨b.x, b.y, b.z, rfl, rfl, rfl, rfl⟩
theorem ats_news {w : World} {S : Nat → Prop} {ad : Addr} {l : List At} (h : RdS AtS w S (some ad) l) : ∀ (j : Nat) (u : Value), ((l.map abOf).flatMap abCells)[j]? = some u → w.cell? (ad.add j) = some u := by
  intro j u hu
  have hlen := flat_len abCells 3 (fun _ => rfl) (l.map abOf)
  rw [List.length_map] at hlen
  have hj := (List.getElem?_eq_some_iff.1 hu).1
  have hq : j / 3 < l.length := by omega
  obtain ⟨b, off, x, y, z, e, _, hx, hy, hz, c0, c1, c2⟩ := at_at h hq
  injection e with e
  subst e
  have hat := flat_at abCells 3 (fun _ => rfl) (l.map abOf) (j / 3) (j % 3) (by rw [List.length_map]; exact hq) (by omega)
  rw [show j / 3 * 3 + j % 3 = j by omega, hu] at hat
  rw [addr_plain]
  have ex : x = ⟨(l[j / 3]'hq).space.toArray⟩ := ba_x (by rw [hx])
  have ey : y = ⟨(l[j / 3]'hq).name.toArray⟩ := ba_x (by rw [hy])
  have ez : z = ⟨(l[j / 3]'hq).value.toArray⟩ := ba_x (by rw [hz])
  rcases (show j % 3 = 0 ∨ j % 3 = 1 ∨ j % 3 = 2 by omega) with h0 | h0 | h0
  · rw [show off + j = off + j / 3 * 3 by omega, Option.some.inj hat, c0]
    simp [h0, abCells, abOf, ex]
  · rw [show off + j = off + j / 3 * 3 + 1 by omega, Option.some.inj hat, c1]
    simp [h0, abCells, abOf, ey]
  · rw [show off + j = off + j / 3 * 3 + 2 by omega, Option.some.inj hat, c2]
    simp [h0, abCells, abOf, ez]
theorem ab_one (l : List AB) : ∀ u ∈ l.flatMap abCells, u.oneCell' = true := by
  intro u hu
  obtain ⟨p, _, h⟩ := List.mem_flatMap.1 hu
  simp [abCells] at h
  rcases h with rfl | rfl | rfl <;> rfl
/-- append(own, attributes...) to a row of none. -/
theorem wpList_append_ats {P : Program} {w : World} {ops : Array Oper} {rest : List Oper} {o : Oper} {a : Act} {Q : Exit → Act → World → Prop} (hgd : o.guard = none) (s x : Operand) (t : TypeId)
    (ho : o.op = .call { callee := .builtin .append, args := #[s, x], argTypes := #[t, t] })
    (base : Nat) (e : TypeId) (i : TypeInfo) (z : Value) (ht : P.underlying t = some (.slice e)) (hi : P.info? e = some i) (hz : i.zero = some z) (hsize : i.size = 3) (hby : i.bytes = 48) (hzs : z.cells.size = 3)
    (v : Value) (hs : a.eval s = v) (hown : w.ownsRow base e 3 v 0 [])
    (S : Nat → Prop) (A : Option Addr) (m c : Nat) (l : List At) (hx : a.eval x = .slice A m c) (hr : RdS AtS w S A l) (hl : l.length = m) (hc0 : A = none → c = 0) (hb : m ≤ 1000000) (hbase : base ≤ w.heap.size)
    (h : ∀ v' w', w'.ownsRow base e 3 v' m ((l.map abOf).flatMap abCells) → w.grownBy w' v.ownBlock → wpList P ops Q rest (a.put o.dst v') w') : wpList P ops Q (o :: rest) a w := by
  have hlen := flat_len abCells 3 (fun _ => rfl) (l.map abOf)
  rw [List.length_map, hl] at hlen
  rcases A with _ | ad
  · have h0 : l = [] := by
      rcases Nat.eq_zero_or_pos l.length with h0 | h0
      · exact List.eq_nil_of_length_eq_zero h0
      · obtain ⟨_, _, he, _⟩ := hr h0
        cases he
    subst h0
    obtain rfl : 0 = m := hl
    rw [hc0 rfl] at hx
    exact wpList_append_own_none hgd s x t ho base e i 3 ht hi v 0 [] hs hown hx (h v w hown (World.grownBy.refl _ _))
  · refine wpList_append_own w hgd s x t ho base e i z 3 48 ht hi hz hsize hby hzs (by decide) v 0 [] hs hown ad m c ((l.map abOf).flatMap abCells) hx hlen (ats_news hr) (ab_one _) (by unfold maxLen; omega) (by omega) hbase (fun v' w' h1 h2 _ => ?_)
    rw [Nat.zero_add, List.nil_append] at h1
    exact h v' w' h1 h2
/-- A node as the program holds it. -/
structure NB where
  n : Nd
  x : ByteArray
  y : ByteArray
  z : ByteArray
  A : Option Addr
  c : Nat
def nbCells (b : NB) : List Value := ndCells b.n b.x b.y b.z b.A b.c
theorem nb_one (l : List NB) : ∀ u ∈ l.flatMap nbCells, u.oneCell' = true := by
  intro u hu
  obtain ⟨p, _, h⟩ := List.mem_flatMap.1 hu
  simp [nbCells, ndCells] at h
  rcases h with rfl | rfl | rfl | rfl | rfl | rfl <;> rfl
/-- The nodes of a slice, as the program holds them. -/
theorem nodes_of {w : World} {S : Nat → Prop} {ad : Addr} {l : List Nd} (h : RdS NdS w S (some ad) l) :
    ∃ M : List NB, M.map NB.n = l ∧ (∀ b ∈ M, NdIn b.n b.x b.y b.z b.A b.c w S) ∧ ∀ (j : Nat) (u : Value), (M.flatMap nbCells)[j]? = some u → w.cell? (ad.add j) = some u := by
  have each : ∀ i : Fin l.length, ∃ b : NB, b.n = l[i.1]'i.2 ∧ NdIn b.n b.x b.y b.z b.A b.c w S ∧ ∀ (k : Nat) (hk : k < (nbCells b).length), w.cell? (ad.add (i.1 * 6 + k)) = some ((nbCells b)[k]'hk) := by
    intro i
    obtain ⟨b, off, cs, e, hb, ⟨x, y, z, A, c, rfl, hin⟩, hc⟩ := h.at i.2
    injection e with e
    subst e
    refine ⟨⟨l[i.1]'i.2, x, y, z, A, c⟩, rfl, hin, fun k hk => ?_⟩
    rw [addr_plain, ← Nat.add_assoc]
    exact hc k hk
  let f : Fin l.length → NB := fun i => Classical.choose (each i)
  have hf : ∀ i, (f i).n = l[i.1]'i.2 ∧ NdIn (f i).n (f i).x (f i).y (f i).z (f i).A (f i).c w S ∧ ∀ (k : Nat) (hk : k < (nbCells (f i)).length), w.cell? (ad.add (i.1 * 6 + k)) = some ((nbCells (f i))[k]'hk) := fun i => Classical.choose_spec (each i)
  refine ⟨List.ofFn f, ?_, ?_, ?_⟩
  · apply List.ext_getElem
    · simp
    · intro i h1 h2
      rw [List.getElem_map, List.getElem_ofFn]
      exact (hf _).1
  · intro b hb
    obtain ⟨i, rfl⟩ := List.mem_ofFn.1 hb
    exact (hf i).2.1
  · intro j u hu
    have hlen := flat_len nbCells 6 (fun _ => rfl) (List.ofFn f)
    rw [List.length_ofFn] at hlen
    have hj := (List.getElem?_eq_some_iff.1 hu).1
    have hq : j / 6 < l.length := by omega
    have hat := flat_at nbCells 6 (fun _ => rfl) (List.ofFn f) (j / 6) (j % 6) (by rw [List.length_ofFn]; exact hq) (by omega)
    rw [show j / 6 * 6 + j % 6 = j by omega, hu] at hat
    have h3 := (hf ⟨j / 6, hq⟩).2.2 (j % 6) (by show _ < 6; omega)
    rw [show j / 6 * 6 + j % 6 = j by omega] at h3
    rw [h3, Option.some.inj hat]
    congr 1
    simp
/-- Where what nodes lead to lies: from a block on, elsewhere than in a row; of the call's own memory none is marked. -/
def Far (lo : Nat) (w0 wr : World) (row : Option Nat) (k : Nat) : Prop := lo ≤ k ∧ k < wr.heap.size ∧ some k ≠ row ∧ (w0.heap.size ≤ k → ∀ o, wr.frozen? ⟨k, o, none⟩ = false)
theorem Far.below {lo k : Nat} {w0 wr w' : World} {row : Option Nat} (h : Far lo w0 wr row k) (hb : Below wr.heap.size wr w') : Far lo w0 w' row k :=
  ⟨h.1, Nat.lt_of_lt_of_le h.2.1 hb.size, h.2.2.1, fun hk o => (hb.frozen (p := ⟨k, o, none⟩) h.2.1).trans (h.2.2.2 hk o)⟩
/-- The nodes so far: an own row; where what they lead to lies. -/
def NdSt (lo : Nat) (w0 : World) (L : List NB) (v : Value) (wr : World) : Prop :=
  wr.ownsRow w0.heap.size 53 6 v L.length (L.flatMap nbCells) ∧ (∀ b ∈ L, NdIn b.n b.x b.y b.z b.A b.c wr (Far lo w0 wr v.ownBlock)) ∧ Below w0.heap.size w0 wr
theorem NdSt.nil (lo : Nat) {w wr : World} (hb : Below w.heap.size w wr) : NdSt lo w [] (.slice none 0 0) wr := ⟨World.ownsRow_nil _ _ _ _, (fun b hb => by cases hb), hb⟩
theorem NdSt.below {lo : Nat} {w wr w' : World} {L : List NB} {v : Value} (h : NdSt lo w L v wr) (hb : Below wr.heap.size wr w') : NdSt lo w L v w' :=
  ⟨own_belowK h.1 hb (Nat.le_refl _), fun b hm => (h.2.1 b hm).keep (fun k hk => hk.below hb) fun b o hk => hb.cell (p := ⟨b, o, none⟩) hk.2.1, stp h.2.2 hb⟩
theorem NdSt.more {lo : Nat} {w wr w2 w5 : World} {L M : List NB} {v v5 : Value} (h : NdSt lo w L v wr) (hb : Below wr.heap.size wr w2) (hM : ∀ b ∈ M, NdIn b.n b.x b.y b.z b.A b.c w2 (Far lo w w2 v.ownBlock))
    (hown : w5.ownsRow w.heap.size 53 6 v5 (L.length + M.length) (L.flatMap nbCells ++ M.flatMap nbCells)) (hgr : w2.grownBy w5 v.ownBlock) (hlie : v5.ownBlock = v.ownBlock ∨ v5.ownBlock = some w2.heap.size) : NdSt lo w (L ++ M) v5 w5 := by
  have h2 := h.below hb
  refine ⟨by rw [List.length_append, List.flatMap_append]; exact hown, fun b hm => ?_, h2.2.2.grown hgr ?_ fun k hk => (h.1.lt k hk).1⟩
  · have hb0 : NdIn b.n b.x b.y b.z b.A b.c w2 (Far lo w w2 v.ownBlock) := by
      rcases List.mem_append.1 hm with hm | hm
      · exact h2.2.1 b hm
      · exact hM b hm
    refine hb0.keep (fun k hk => ⟨hk.1, Nat.lt_of_lt_of_le hk.2.1 hgr.size, ?_, fun hk2 o => (hgr.frozen_far ⟨k, o, none⟩ hk.2.1 hk.2.2.1).trans (hk.2.2.2 hk2 o)⟩) fun k o hk => hgr.cell_far ⟨k, o, none⟩ hk.2.1 hk.2.2.1
    rcases hlie with e | e
    · rw [e]; exact hk.2.2.1
    · rw [e]
      intro e2
      injection e2 with e2
      have := hk.2.1
      omega
  · have := h2.2.2.size
    omega
/-- Nodes that a call answers: where they lie. -/
structure NdOut (lo : Nat) (w0 : World) (v : List Nd) (A : Option Addr) (c : Nat) (w : World) : Prop where
  rd : RdS NdS w (Far lo w0 w none) A v
  le : v.length ≤ c
  cm : c ≤ maxLen
  nil : A = none → c = 0
theorem NdOut.below {lo : Nat} {w0 : World} {v : List Nd} {A : Option Addr} {c : Nat} {w w' : World} (h : NdOut lo w0 v A c w) (hb : Below w.heap.size w w') : NdOut lo w0 v A c w' :=
  ⟨h.rd.keep (fun k hk => hk.below hb) fun b o hk => hb.cell (p := ⟨b, o, none⟩) hk.2.1, h.le, h.cm, h.nil⟩
theorem NdOut.all {lo : Nat} {w0 : World} {v : List Nd} {A : Option Addr} {c : Nat} {w : World} (h : NdOut lo w0 v A c w) : RdB NdS w A v := h.rd.mono fun b hb => hb.2.1
theorem NdOut.none (lo : Nat) (w0 w : World) : NdOut lo w0 [] none 0 w := ⟨RdS.nil _ _ _, Nat.le_refl _, Nat.zero_le _, fun _ => rfl⟩
/-- What such a row reads as. -/
theorem NdSt.read {lo : Nat} {w wr : World} {L : List NB} {A : Option Addr} {n c : Nat} (h : NdSt lo w L (.slice A n c) wr) (hlo : lo ≤ w.heap.size) : NdOut lo w (L.map NB.n) A c wr ∧ L.length = n := by
  have hn : n = L.length := by
    have h1 := h.1
    rcases h1.2 with ⟨e, h0⟩ | ⟨g, cap, cur, hv, _⟩
    · injection e with _ e _; omega
    · injection hv with _ e _
  subst hn
  obtain ⟨r1, r2, r3, r4, r5⟩ := RdS.of_own (C := NdS) (S := Far lo w wr none) nbCells NB.n (fun _ => rfl) (by decide) L (fun b hm => ⟨b.x, b.y, b.z, b.A, b.c, rfl, (h.2.1 b hm).keep (fun k hk => ⟨hk.1, hk.2.1, by simp, hk.2.2.2⟩) fun _ _ _ => rfl⟩) (fun g hg => by
    have h3 := h.1.lt g hg
    refine ⟨by omega, h3.2, by simp, fun _ o => ?_⟩
    rcases h.1.2 with ⟨e, h0⟩ | ⟨g', cap, cur, hv, hb', hg', _⟩
    · rw [e] at hg; cases hg
    · rw [hv] at hg
      have : g' = g := by simpa [Value.ownBlock] using hg
      subst this
      exact freeV wr _ o _ _ hg') h.1
  exact ⟨⟨r1, by rw [List.length_map]; exact r3, r4, r5⟩, rfl⟩
/-- An attributes' row of the call's own. -/
theorem ats_own {lo base : Nat} {w0 w : World} {A : Option Addr} {n c : Nat} {row : Option Nat} {l : List At} (h : w.ownsRow base 55 3 (.slice A n c) n ((l.map abOf).flatMap abCells)) (hlo : lo ≤ base) (hrow : ∀ k, row = some k → k < base) :
    RdS AtS w (Far lo w0 w row) A l ∧ l.length = n ∧ n ≤ c ∧ c ≤ maxLen ∧ (A = none → c = 0) := by
  obtain ⟨r1, r2, r3, r4, r5⟩ := RdS.of_own (C := AtS) (S := Far lo w0 w row) abCells abVal (fun _ => rfl) (by decide) (l.map abOf) (fun b _ => ab_R _ _ b) (fun g hg => by
    have h3 := h.lt g hg
    refine ⟨by omega, h3.2, fun e => ?_, fun _ o => ?_⟩
    · have := hrow g e.symm
      omega
    · rcases h.2 with ⟨e, h0⟩ | ⟨g', cap, cur, hv, hb', hg', _⟩
      · rw [e] at hg; cases hg
      · rw [hv] at hg
        have : g' = g := by simpa [Value.ownBlock] using hg
        subst this
        exact freeV w _ o _ _ hg') h
  rw [map_abOf] at r1
  rw [List.length_map] at r2
  exact ⟨r1, r2, r3, r4, r5⟩
theorem infoNd : (Try.prog.info? 53).map (fun i => (i.zero, i.size, i.bytes)) = some (some (.agg #[.int .u8 0, .string ⟨#[]⟩, .string ⟨#[]⟩, .slice none 0 0, .string ⟨#[]⟩, .int .i64 0]), 6, 88) := by kernel_rfl
theorem infoAt : (Try.prog.info? 55).map (fun i => (i.zero, i.size, i.bytes)) = some (some (.agg #[.string ⟨#[]⟩, .string ⟨#[]⟩, .string ⟨#[]⟩]), 3, 48) := by kernel_rfl
theorem zNd : ([Value.int .u8 0, .string ⟨#[]⟩, .string ⟨#[]⟩, .slice none 0 0, .string ⟨#[]⟩, .int .i64 0] : List Value).length = 6 := rfl
theorem sizeNd : (Try.prog.info? 53).map (·.size) = some 6 := by kernel_rfl
theorem sizeAt : (Try.prog.info? 55).map (·.size) = some 3 := by kernel_rfl
end Hx
end Go.Proofs.Ytkmaogafknehgaa
namespace Go.Proofs.Ytkmaogafknehgaa
open Go.RowKit
namespace Hx
open Lx Tr Tx Nmb Es
set_option linter.unusedVariables false
/-- A slice, as an element. -/
def SlS {α : Type} (C : CodS α) : CodS (List α) where
  k := 1
  R w S cs l := ∃ A c, cs = [.slice A l.length c] ∧ l.length ≤ c ∧ c ≤ maxLen ∧ (A = none → c = 0) ∧ RdS C w S A l
  len := by rintro _ _ _ _ ⟨A, c, rfl, _⟩; rfl
  one := by
    rintro _ _ _ _ ⟨A, c, rfl, _⟩ v hv
    simp at hv
    subst hv
    rfl
  keep := fun ⟨A, c, h1, h2, h3, h4, h5⟩ hS hk => ⟨A, c, h1, h2, h3, h4, h5.keep hS hk⟩
theorem sl_at {w : World} {A : Option Addr} {ls : List (List Nd)} {k : Nat} (hr : RdB (SlS NdS) w A ls) (hk : k < ls.length) :
    ∃ (b off : Nat) (A1 : Option Addr) (c1 : Nat), A = some ⟨b, off, none⟩ ∧ b < w.heap.size ∧ w.cell? ⟨b, off + k, none⟩ = some (.slice A1 (ls[k]'hk).length c1) ∧ (ls[k]'hk).length ≤ c1 ∧ c1 ≤ maxLen ∧ (A1 = none → c1 = 0) ∧ RdB NdS w A1 (ls[k]'hk) := by
  obtain ⟨b, off, cs, e, hb, ⟨A1, c1, rfl, h1, h2, h3, h4⟩, hc⟩ := RdS.at hr hk
  have := hc 0 (by simp)
  simp only [SlS, Nat.mul_one, Nat.add_zero] at this
  exact ⟨b, off, A1, c1, e, hb, this, h1, h2, h3, h4⟩
/-- May that stand within an element? -/
def partOk (l : List Nd) : Bool := (match l with | [m] => decide (m.kind = 2) && ndOk m | _ => false) || mayV l
def partE (l : List Nd) : Int := if partOk l = true then 0 else 8
theorem mayV_len {v : List Nd} (h : mayV v = true) : 0 < v.length ∧ v.length ≤ 512 := by
  obtain ⟨h1, ⟨n, l, rfl, _⟩, _⟩ := mayV_iff.1 h
  exact ⟨by simp, h1⟩
theorem partOk_len {l : List Nd} (h : partOk l = true) : 0 < l.length ∧ l.length ≤ 512 := by
  unfold partOk at h
  rw [Bool.or_eq_true] at h
  rcases h with h | h
  · split at h
    · exact ⟨by simp, by simp⟩
    · cases h
  · exact mayV_len h
theorem partOk_not1 {l : List Nd} (h : l.length ≠ 1) : partOk l = mayV l := by
  unfold partOk
  split
  · exact absurd rfl h
  · rfl
theorem partOk_one {l : List Nd} (h : l.length = 1) : partOk l = (decide ((l[0]'(by omega)).kind = 2) && ndOk (l[0]'(by omega)) || mayV l) := by
  match l, h with
  | [m], _ => rfl
theorem mayV_kind {l : List Nd} (h0 : 0 < l.length) (h : (l[0]'h0).kind ≠ 1) : mayV l = false := mayV_no (by
  rintro ⟨_, m, x, rfl, hk⟩
  exact h hk)
/-- The first error of parts. -/
def partsE (ls : List (List Nd)) : Int := if ls.all partOk = true then 0 else 8
theorem all_no {ls : List (List Nd)} {k : Nat} (hk : k < ls.length) (h : partOk (ls[k]'hk) = false) : ls.all partOk = false := by
  rw [List.all_eq_false]
  exact ⟨_, List.getElem_mem hk, by rw [h]; decide⟩
end Hx
end Go.Proofs.Ytkmaogafknehgaa
namespace Go.Proofs.Ytkmaogafknehgaa
open Go.RowKit
namespace Hx
open Lx Tr Tx Nmb Es
set_option linter.unusedVariables false
theorem infoNdS : (Try.prog.info? 53).map (·.size) = some 6 := by kernel_rfl
theorem nd_ones (k : Int) (x y z : ByteArray) (A : Option Addr) (n c : Nat) (m : Int) : ∀ v ∈ [Value.int .u8 k, .string x, .string y, .slice A n c, .string z, .int .i64 m], v.oneCell' = true := by simp [Value.oneCell']
/-- A node put behind those so far: its attributes lie in a row of their own. -/
theorem twin_fin {lo : Nat} {w wr w2 w5 : World} {L : List NB} {v v5 : Value} {n : Nd} {x y z : ByteArray} {A3 : Option Addr} {c3 : Nat} (h : NdSt lo w L v wr) (hb : Below wr.heap.size wr w2) (hlo : lo ≤ w.heap.size)
    (hx : x.data.toList = n.space) (hy : y.data.toList = n.name) (hz : z.data.toList = n.text) (hkd : n.kind < 256) (hlo2 : -9223372036854775808 ≤ n.many) (hhi : n.many ≤ 9223372036854775807)
    (ho3 : w2.ownsRow (wr.heap.size + 1) 55 3 (.slice A3 n.attrs.length c3) n.attrs.length ((n.attrs.map abOf).flatMap abCells))
    (hown : w5.ownsRow w.heap.size 53 6 v5 (L.length + 1) (L.flatMap nbCells ++ [.int .u8 (n.kind : Int), .string x, .string y, .slice A3 n.attrs.length c3, .string z, .int .i64 n.many]))
    (hgr : w2.grownBy w5 v.ownBlock) (hlie : v5.ownBlock = v.ownBlock ∨ v5.ownBlock = some w2.heap.size) : NdSt lo w (L ++ [⟨n, x, y, z, A3, c3⟩]) v5 w5 := by
  have hw := h.2.2.size
  obtain ⟨r1, r2, r3, r4, r5⟩ := ats_own (lo := lo) (w0 := w) (row := v.ownBlock) ho3 (by omega) (fun k hk => by have := (h.1.lt k hk).2; omega)
  refine h.more hb (M := [⟨n, x, y, z, A3, c3⟩]) (fun b hm => ?_) ?_ hgr hlie
  · rw [List.mem_singleton] at hm
    subst hm
    exact ⟨hx, hy, hz, r1, r3, r4, r5, hkd, hlo2, hhi⟩
  · simpa [nbCells, ndCells] using hown
def TwinTo (v : List Nd) (w : World) (e : Ending) (w' : World) : Prop := ∃ A c, e = .returned (.slice A v.length c) ∧ NdOut w.heap.size w v A c w' ∧ Below w.heap.size w w'
set_option maxHeartbeats 16000000 in
set_option maxRecDepth 100000 in
theorem rtwin10 (A : Option Addr) (n c : Nat) (v : List Nd) (w : World) (hr : RdB NdS w A v) (hn : v.length = n) (hm : n ≤ 100000) (hat : ∀ x ∈ v, x.attrs.length ≤ 1000000) :
    Calls Try.prog 5 #[.slice A n c] w (TwinTo v w) := by
  obtain ⟨i0, hi, hz0, hz1, hz2⟩ := info_parts infoNd
  obtain ⟨j0, hj, hy0, hy1, hy2⟩ := info_parts infoAt
  have HI := Lib.hid hi
  have HZ0 := Lib.hid hz0
  have HZ1 := Lib.hid hz1
  have HZ2 := Lib.hid hz2
  have HJ := Lib.hid hj
  have HY0 := Lib.hid hy0
  have HY1 := Lib.hid hy1
  have HY2 := Lib.hid hy2
  have HR := Lib.hid hr
  have HN := Lib.hid hn
  have HM := Lib.hid hm
  have HAT := Lib.hid hat
  clear hi hz0 hz1 hz2 hj hy0 hy1 hy2 hr hn hm hat
  go_enter Try.func5, Try.ntmps5
  go_wp2_with fail
  go_loopg [3, 4] n (fun gg x3 i wr => ∃ L : List NB, L.length + gg = n ∧ i = .int .i64 L.length ∧ L.map NB.n = v.take L.length ∧ NdSt w.heap.size w L x3 wr)
  case atStart => exact ⟨[], by simp, rfl, rfl, NdSt.nil _ (Below.refl _ _)⟩
  case round =>
    obtain ⟨L, hk, rfl, hmap, hst⟩ := hrel
    obtain ⟨Ao, co, rfl⟩ := own_form2 hst.1
    have HST := Lib.hid hst
    have h6 := HM.out
    by_cases hlt : L.length < n
    · have hk1 : L.length < v.length := by rw [HN.out]; exact hlt
      have hbw := hst.2.2
      obtain ⟨b0, off, x, y, z, a1, p1, hA, hbB, hin, c0w, c1w, c2w, c3w, c4w, c5w⟩ := nd_at HR.out hk1
      obtain ⟨t, ht⟩ : ∃ t, v[L.length]'hk1 = t := ⟨_, rfl⟩
      have hal := HAT.out _ (List.getElem_mem hk1)
      rw [ht] at hin c0w c3w c5w hal
      have HM2 : Hid ((L.map NB.n) ++ [t] = v.take (L.length + 1)) := Lib.hid (by rw [hmap, List.take_succ_eq_append_getElem hk1, ht])
      have c0 := (hbw.cell (p := ⟨b0, _, none⟩) hbB).trans c0w
      have c1 := (hbw.cell (p := ⟨b0, _, none⟩) hbB).trans c1w
      have c2 := (hbw.cell (p := ⟨b0, _, none⟩) hbB).trans c2w
      have c3 := (hbw.cell (p := ⟨b0, _, none⟩) hbB).trans c3w
      have c4 := (hbw.cell (p := ⟨b0, _, none⟩) hbB).trans c4w
      have c5 := (hbw.cell (p := ⟨b0, _, none⟩) hbB).trans c5w
      have HIN := Lib.hid hin
      have HRP : Hid (∀ W, Below w.heap.size w W → RdB AtS W a1 t.attrs) := Lib.hid fun W hW => RdB.on hin.attrs hW
      have HAL := Lib.hid hal
      have HBW0 := Lib.hid hbw
      have bk : (0 : Int) ≤ (L.length : Int) ∧ (L.length : Int) < (n : Int) := by omega
      subst hA
      clear hst ht hbw hmap hk1 hin hal c0w c1w c2w c3w c4w c5w hbB
      go_wp2_with (first
        | (at_builtin; refine wpList_append_ats rfl (.tmp 16) (.tmp 18) 51 rfl (wr.heap.size + 1) 55 j0 (.agg #[.string ⟨#[]⟩, .string ⟨#[]⟩, .string ⟨#[]⟩]) Try.underlying51 HJ.out HY0.out HY1.out HY2.out rfl (.slice (some ⟨wr.heap.size + 1, 0, none⟩) 0 0) rfl (own_emptyB wr _ 55 3) _ a1 t.attrs.length p1 t.attrs rfl (HRP.out _ (HBW0.out.trans ((stpA (stpA (Below.refl _ _) _) _).mono HBW0.out.size))) rfl HIN.out.nil HAL.out (by simp) ?_; intro v3 w3 hown3 hgr3; obtain ⟨A3, c3', rfl⟩ := own_form2 hown3; have HO3 := Lib.hid hown3; have HW3 := Lib.hid (copy_box wr w3 _ _ hgr3); have k2 := cellV w3 _ 3 _ _ _ HW3.out.1; have f2 := freeV w3 _ 3 _ _ HW3.out.1; have HS3 := Lib.hid (And.intro (heap_setCell_same w3 wr.heap.size 3 _ _ (.slice A3 t.attrs.length c3') HW3.out.1) (HW3.out.2.setCell (p := ⟨wr.heap.size, 3, none⟩) (Nat.le_refl _) (.slice A3 t.attrs.length c3'))); clear hown3 hgr3)
        | (refine wpList_load_row rfl _ _ rfl wr.heap.size rfl 53 #[.int .u8 (t.kind : Int), .string x, .string y, .slice A3 t.attrs.length c3', .string z, .int .i64 t.many] (0, 0) _ HS3.out.1 Try.underlying53 rfl infoNdS ?_)
        | (at_builtin; refine wpList_append_own_at _ rfl (.tmp 21) (.tmp 23) 22 rfl w.heap.size 53 i0 (.agg #[.int .u8 0, .string ⟨#[]⟩, .string ⟨#[]⟩, .slice none 0 0, .string ⟨#[]⟩, .int .i64 0]) 6 88 Try.underlying22 HI.out HZ0.out HZ1.out HZ2.out rfl (by decide) _ L.length _ rfl ((HST.out.below HS3.out.2).below (stpA (Below.refl _ _) _)).1 ⟨w3.heap.size, 0, none⟩ 1 1 [.int .u8 (t.kind : Int), .string x, .string y, .slice A3 t.attrs.length c3', .string z, .int .i64 t.many] rfl rfl (new_at (w3.setCell ⟨wr.heap.size, 3, none⟩ (.slice A3 t.attrs.length c3')) [.int .u8 (t.kind : Int), .string x, .string y, .slice A3 t.attrs.length c3', .string z, .int .i64 t.many] 53 w3.heap.size (World.size_setCell _ _ _)) (nd_ones _ _ _ _ _ _ _ _) (by unfold maxLen; omega) (by omega) (by have := HST.out.2.2.size; have := HS3.out.2.size; simp at this ⊢; omega) ?_; intro v5 w5 hown5 hgr5 _ hlie; obtain ⟨A5, c5', rfl⟩ := own_form2 hown5; have HX5 := Lib.hid (twin_fin HST.out (stpA HS3.out.2 (.cells #[.int .u8 (t.kind : Int), .string x, .string y, .slice A3 t.attrs.length c3', .string z, .int .i64 t.many] 53)) (Nat.le_refl _) HIN.out.space HIN.out.name HIN.out.text HIN.out.kd HIN.out.lo HIN.out.hi (own_belowK (own_setCell HO3.out wr.heap.size 3 (by omega) (.slice A3 t.attrs.length c3')) (stpA (Below.refl _ _) _) (Nat.le_refl _)) hown5 hgr5 hlie); clear hown5 hgr5 hlie)
        | fail)
      go_roundg (gk - 1)
      case rel => exact ⟨_, by rw [List.length_append]; simp; omega, by simp, by rw [List.map_append, List.length_append]; exact HM2.out, HX5.out⟩
      case measure => omega
    · obtain hLn : L.length = n := by omega
      have hall : L.map NB.n = v := by rw [hmap, hLn, ← HN.out]; exact List.take_length
      have HO : Hid (TwinTo v w (.returned (.slice Ao L.length co)) wr) := Lib.hid (by
        have h1 := hst.read (Nat.le_refl _)
        rw [hall] at h1
        exact ⟨Ao, co, by rw [hLn, HN.out], h1.1, hst.2.2⟩)
      subst hLn
      clear hst hmap hall
      go_wp2_with fail
      go_ret
      exact HO.out
end Hx
end Go.Proofs.Ytkmaogafknehgaa
