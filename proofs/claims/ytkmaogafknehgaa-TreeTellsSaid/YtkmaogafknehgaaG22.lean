/-
  Texts of one seat, put together: TrhM, TrhN, TrhO, TrhP, TrhQ, TrhR.
-/
import Derived.Test.YtkmaogafknehgaaG21
import Derived.Test.YtkmaogafknehgaaG15
import Derived.Test.YtkmaogafknehgaaG14
import Derived.Test.YtkmaogafknehgaaG04
namespace Go.Proofs.Ytkmaogafknehgaa
open Go.RowKit
namespace Hx
open Lx Tr Tx Nmb Es
set_option linter.unusedVariables false
/-- The closure of Tokens, as a value. -/
def tellF (gv gn gl gt : Nat) : Value := .func (.func 23) #[] #[.pointer (some ⟨gv, 0, none⟩), .pointer (some ⟨gn, 0, none⟩), .pointer (some ⟨gl, 0, none⟩), .pointer (some ⟨gt, 0, none⟩)]
/-- A token's attributes lie off a row. -/
def OffT (base : Nat) (V : Value) (b : TB) : Prop := 0 < b.t.attrs.length → ∀ ad, b.A = some ad → some ad.block ≠ V.ownBlock ∧ base ≤ ad.block
structure TlSt (B base gv gn gl gt : Nat) (A : Option Addr) (c : Nat) (v : List Nd) (p : Nat) (L : List TB) (V : Value) (wr : World) : Prop where
  hv : wr.heap[gv]? = some (.cells #[.slice A v.length c] 22 (0, 0))
  hn : wr.heap[gn]? = some (.cells #[.int .i64 (p : Int)] 3 (0, 0))
  hl : wr.heap[gl]? = some (.cells #[V] 25 (0, 0))
  ht : wr.heap[gt]? = some (.cells #[tellF gv gn gl gt] 1 (0, 0))
  rd : RdS NdS wr (fun b => b < B) A v
  own : wr.ownsRow base 60 4 V L.length (L.flatMap tbCells)
  tk : ∀ b ∈ L, TkC.R wr wr.heap.size (tbCells b) b.t ∧ OffT base V b
  ord : B ≤ gv ∧ gv < gl ∧ gl < gn ∧ gn < gt ∧ gt < base
  sz : base ≤ wr.heap.size
/-- What else stands, stands on. -/
structure Fr10 (B gn gl : Nat) (V : Value) (w : World) (V' : Value) (w' : World) : Prop where
  bel : Below B w w'
  blk : ∀ k, k < w.heap.size → k ≠ gn → k ≠ gl → some k ≠ V.ownBlock → w'.heap[k]? = w.heap[k]?
  lie : ∀ k, k < w.heap.size → V'.ownBlock = some k → V.ownBlock = some k
theorem Fr10.refl (B gn gl : Nat) (V : Value) (w : World) : Fr10 B gn gl V w V w := ⟨Below.refl _ _, fun _ _ _ _ _ => rfl, fun _ _ h => h⟩
theorem Fr10.trans {B gn gl : Nat} {V V1 V2 : Value} {w w1 w2 : World} (h : Fr10 B gn gl V w V1 w1) (k : Fr10 B gn gl V1 w1 V2 w2) : Fr10 B gn gl V w V2 w2 :=
  ⟨h.bel.trans k.bel, fun q h1 h2 h3 h4 => (k.blk q (Nat.lt_of_lt_of_le h1 h.bel.size) h2 h3 (fun e => h4 (h.lie q h1 e.symm).symm)).trans (h.blk q h1 h2 h3 h4), fun q h1 h2 => h.lie q h1 (k.lie q (Nat.lt_of_lt_of_le h1 h.bel.size) h2)⟩
theorem Fr10.of_below {B gn gl : Nat} {V : Value} {w w' : World} (h : Below w.heap.size w w') (hB : B ≤ w.heap.size) : Fr10 B gn gl V w V w' := ⟨h.mono hB, fun k hk _ _ _ => h.block k hk, fun _ _ e => e⟩
theorem tk_far {w w' : World} {b : TB} (h : TkC.R w w.heap.size (tbCells b) b.t) (hs : w.heap.size ≤ w'.heap.size) (hk : 0 < b.t.attrs.length → ∀ ad, b.A = some ad → ad.block < w.heap.size → w'.heap[ad.block]? = w.heap[ad.block]?) : TkC.R w' w'.heap.size (tbCells b) b.t := by
  obtain ⟨x', A', c', u', e1, e2, e3, e4, e5, e6, e7, e8⟩ := h
  have e1' := e1
  unfold tbCells at e1'
  injection e1' with _ e1'
  injection e1' with _ e1'
  injection e1' with e9 _
  injection e9 with e9 _ _
  subst e9
  refine ⟨x', _, c', u', e1, e2, e3, e4, e5, e6, e7, fun hp => ?_⟩
  obtain ⟨bb, off, e, hlt, hc⟩ := e8 hp
  refine ⟨bb, off, e, Nat.lt_of_lt_of_le hlt hs, fun j hj => ?_⟩
  obtain ⟨cs, k1, k2⟩ := hc j hj
  exact ⟨cs, k1, fun i hi => (cell_blk (hk hp _ e hlt)).trans (k2 i hi)⟩
theorem tk_lt {w : World} {b : TB} (h : TkC.R w w.heap.size (tbCells b) b.t) (hp : 0 < b.t.attrs.length) (ad : Addr) (e : b.A = some ad) : ad.block < w.heap.size := by
  obtain ⟨x', A', c', u', e1, e2, e3, e4, e5, e6, e7, e8⟩ := h
  have e1' := e1
  unfold tbCells at e1'
  injection e1' with _ e1'
  injection e1' with _ e1'
  injection e1' with e9 _
  injection e9 with e9 _ _
  obtain ⟨bb, off, e10, hlt, _⟩ := e8 hp
  rw [e9] at e
  rw [e] at e10
  injection e10 with e10
  rw [e10]
  exact hlt
section
variable {B base gv gn gl gt : Nat} {A : Option Addr} {c : Nat} {v : List Nd} {p : Nat} {L : List TB} {V : Value} {wr : World}
theorem TlSt.below (h : TlSt B base gv gn gl gt A c v p L V wr) {w' : World} (k : Below wr.heap.size wr w') : TlSt B base gv gn gl gt A c v p L V w' :=
  ⟨kept_heap h.hv k, kept_heap h.hn k, kept_heap h.hl k, kept_heap h.ht k, h.rd.keep (fun _ hb => hb) fun b o hb => k.cell (p := ⟨b, o, none⟩) (by have := h.ord.1; have := lt_heap h.hv; show b < _; omega), own_belowK h.own k (Nat.le_refl _),
   fun b hb => ⟨tk_far (h.tk b hb).1 k.size fun _ ad _ hlt => k.block _ hlt, (h.tk b hb).2⟩, h.ord, Nat.le_trans h.sz k.size⟩
theorem TlSt.setn (h : TlSt B base gv gn gl gt A c v p L V wr) (p' : Nat) : TlSt B base gv gn gl gt A c v p' L V (wr.setCell ⟨gn, 0, none⟩ (.int .i64 (p' : Int))) ∧ Fr10 B gn gl V wr V (wr.setCell ⟨gn, 0, none⟩ (.int .i64 (p' : Int))) := by
  have ho := h.ord
  have other : ∀ q, q ≠ gn → (wr.setCell ⟨gn, 0, none⟩ (.int .i64 (p' : Int))).heap[q]? = wr.heap[q]? := fun q hq => set_other wr gn 0 q _ hq
  refine ⟨⟨(other gv (by omega)).trans h.hv, one_setCell h.hn, (other gl (by omega)).trans h.hl, (other gt (by omega)).trans h.ht, h.rd.keep (fun _ hb => hb) fun b o hb => cell_blk (other b (by omega)), own_setCell h.own gn 0 (by omega) _,
    fun b hb => ⟨tk_far (h.tk b hb).1 (by simp [World.setCell]) fun hp ad e _ => other _ (by have := ((h.tk b hb).2 hp ad e).2; omega), (h.tk b hb).2⟩, h.ord, by have := h.sz; simpa [World.setCell] using this⟩,
    (Below.refl B wr).setCell (p := ⟨gn, 0, none⟩) (by show B ≤ gn; omega) _, fun k _ hk _ _ => other k hk, fun _ _ e => e⟩
theorem TlSt.push (h : TlSt B base gv gn gl gt A c v p L V wr) {b : TB} {ob : Obj} {w6 : World} {g4 c4 : Nat} (hR : TkC.R wr wr.heap.size (tbCells b) b.t) (hO : OffT base V b)
    (hown : w6.ownsRow base 60 4 (.slice (some ⟨g4, 0, none⟩) (L.length + 1) c4) (L.length + 1) (L.flatMap tbCells ++ tbCells b)) (hgr : (wr.alloc ob).grownBy w6 V.ownBlock) (hlie : V.ownBlock = some g4 ∨ g4 = wr.heap.size + 1) :
    TlSt B base gv gn gl gt A c v p (L ++ [b]) (.slice (some ⟨g4, 0, none⟩) (L.length + 1) c4) (w6.setCell ⟨gl, 0, none⟩ (.slice (some ⟨g4, 0, none⟩) (L.length + 1) c4)) ∧
    Fr10 B gn gl V wr (.slice (some ⟨g4, 0, none⟩) (L.length + 1) c4) (w6.setCell ⟨gl, 0, none⟩ (.slice (some ⟨g4, 0, none⟩) (L.length + 1) c4)) := by
  have ho := h.ord
  have hsz := h.sz
  have hs6 := hgr.size
  rw [World.size_alloc] at hs6
  have hV : ∀ q, V.ownBlock = some q → base ≤ q ∧ q < wr.heap.size := fun q hq => h.own.lt q hq
  have stay : ∀ q, q < wr.heap.size → some q ≠ V.ownBlock → w6.heap[q]? = wr.heap[q]? := fun q hq hne => by
    rw [hgr.block q (by rw [World.size_alloc]; omega) hne, Below.heap_alloc _ _ _ hq]
  have low : ∀ q, q < base → some q ≠ V.ownBlock := fun q hq e => by have := (hV q e.symm).1; omega
  have all : ∀ q, q < wr.heap.size → q ≠ gl → some q ≠ V.ownBlock → (w6.setCell ⟨gl, 0, none⟩ (.slice (some ⟨g4, 0, none⟩) (L.length + 1) c4)).heap[q]? = wr.heap[q]? := fun q hq hne hne2 => (set_other w6 gl 0 q _ hne).trans (stay q hq hne2)
  have hlen : (L ++ [b]).length = L.length + 1 := by simp
  have new : ∀ (b' : TB), TkC.R wr wr.heap.size (tbCells b') b'.t → OffT base V b' → TkC.R (w6.setCell ⟨gl, 0, none⟩ (.slice (some ⟨g4, 0, none⟩) (L.length + 1) c4)) (w6.setCell ⟨gl, 0, none⟩ (.slice (some ⟨g4, 0, none⟩) (L.length + 1) c4)).heap.size (tbCells b') b'.t ∧ OffT base (.slice (some ⟨g4, 0, none⟩) (L.length + 1) c4) b' := fun b' h1 h2 =>
    ⟨tk_far h1 (by simp [World.setCell]; omega) fun hp ad e hlt => all _ hlt (by have := (h2 hp ad e).2; omega) (h2 hp ad e).1, fun hp ad e => ⟨fun e2 => by
      have e3 : ad.block = g4 := by simpa [Value.ownBlock] using e2
      rcases hlie with e4 | e4
      · exact (h2 hp ad e).1 (by rw [e4, e3])
      · have := tk_lt h1 hp ad e; omega, (h2 hp ad e).2⟩⟩
  refine ⟨⟨(all gv (by omega) (by omega) (low _ (by omega))).trans h.hv, (all gn (by omega) (by omega) (low _ (by omega))).trans h.hn, one_setCell ((stay gl (by omega) (low _ (by omega))).trans h.hl), (all gt (by omega) (by omega) (low _ (by omega))).trans h.ht,
    h.rd.keep (fun _ hb => hb) fun q o hb => cell_blk (all q (by omega) (by omega) (low _ (by omega))), ?_, fun b' hb => ?_, h.ord, by simp [World.setCell]; omega⟩, ?_, fun k hk _ h2 h3 => all k hk h2 h3, fun k hk e => ?_⟩
  · have := own_setCell hown gl 0 (by omega) (.slice (some ⟨g4, 0, none⟩) (L.length + 1) c4)
    rw [hlen, List.flatMap_append]
    simpa [tbCells] using this
  · rcases List.mem_append.1 hb with hb | hb
    · exact new b' (h.tk b' hb).1 (h.tk b' hb).2
    · obtain rfl := List.mem_singleton.1 hb
      exact new _ hR hO
  · exact (((Below.refl B wr).alloc (by omega) ob).grown hgr (by rw [World.size_alloc]; omega) (fun q hq => by have := (hV q hq).1; omega)).setCell (p := ⟨gl, 0, none⟩) (by show B ≤ gl; omega) _
  · have e3 : g4 = k := by simpa [Value.ownBlock] using e
    rcases hlie with e4 | e4
    · rw [e4, e3]
    · omega
end
theorem toldK_snoc {g : List Nd → List Tk × List Nd} : ∀ (j : Nat) (l : List Nd), toldK g (j + 1) l = ((toldK g j l).1 ++ (g (toldK g j l).2).1, (g (toldK g j l).2).2) := by
  intro j
  induction j with
  | zero => intro l; simp [toldK]
  | succ j ih =>
    intro l
    have h1 : ∀ k, toldK g (k + 1) l = ((g l).1 ++ (toldK g k (g l).2).1, (toldK g k (g l).2).2) := fun k => by simp [toldK]
    rw [h1 (j + 1), ih, h1 j]
    simp
/-- A token without attributes; one of a tag. -/
theorem tk_plain (w : World) (k : Nat) (hk : k < 256) (x u : ByteArray) : TkC.R w w.heap.size (tbCells ⟨x, none, 0, u, ⟨k, x.data.toList, [], u.data.toList⟩⟩) ⟨k, x.data.toList, [], u.data.toList⟩ :=
  ⟨x, none, 0, u, rfl, hk, rfl, rfl, Nat.le_refl _, Nat.zero_le _, fun _ => rfl, RdC.nil _ _ _⟩
theorem off_plain (base : Nat) (V : Value) (k : Nat) (x u : ByteArray) : OffT base V ⟨x, none, 0, u, ⟨k, x.data.toList, [], u.data.toList⟩⟩ := fun h => absurd h (by simp)
end Hx
end Go.Proofs.Ytkmaogafknehgaa
namespace Go.Proofs.Ytkmaogafknehgaa
open Go.RowKit
namespace Hx
open Lx Tr Tx Nmb Es
set_option linter.unusedVariables false
/-- What it does. -/
def Told10 (B base gv gn gl gt : Nat) (A : Option Addr) (c : Nat) (v : List Nd) (p' : Nat) (L : List TB) (V : Value) (T : List Tk) (w : World) (e : Ending) (w' : World) : Prop :=
  e = .returned (.tuple #[]) ∧ ∃ (M : List TB) (V' : Value), M.map TB.t = T ∧ TlSt B base gv gn gl gt A c v p' (L ++ M) V' w' ∧ Fr10 B gn gl V w V' w'
theorem toldD_text {d : Nat} {n : Nd} {l : List Nd} {r : List Nd} (h : restD d (n :: l) = some r) (hk : n.kind = 2) : toldD d (n :: l) = ([⟨4, [], [], n.text⟩], l) ∧ r = l := by
  have hok := (restD_ok h).1
  have hr := restD_text (d := d) (l := l) hok hk
  rw [hr] at h
  refine ⟨?_, (Option.some.inj h).symm⟩
  cases d with
  | zero => rw [toldD]
  | succ d => rw [toldD, if_pos hk]
/-- Behind the node's box and the next place. -/
theorem TlSt.step {B base gv gn gl gt : Nat} {A : Option Addr} {c : Nat} {v : List Nd} {p : Nat} {L : List TB} {V : Value} {w : World} (h : TlSt B base gv gn gl gt A c v p L V w) (cs : Array Value) (T : TypeId) (W : World) (hW : (w.setCell ⟨gn, 0, none⟩ (.int .i64 ((p : Int) + 1))).alloc (.cells cs T) = W) :
    TlSt B base gv gn gl gt A c v (p + 1) L V W ∧ Fr10 B gn gl V w V W ∧ W.heap[w.heap.size]? = some (.cells cs T (0, 0)) ∧ base ≤ w.heap.size ∧ W.heap.size = w.heap.size + 1 := by
  obtain ⟨h1, h2⟩ := h.setn (p + 1)
  have e : ((p + 1 : Nat) : Int) = (p : Int) + 1 := by omega
  rw [e] at h1 h2
  have hs : (w.setCell ⟨gn, 0, none⟩ (.int .i64 ((p : Int) + 1))).heap.size = w.heap.size := by simp [World.setCell]
  have hb := stpA (Below.refl (w.setCell ⟨gn, 0, none⟩ (.int .i64 ((p : Int) + 1))).heap.size (w.setCell ⟨gn, 0, none⟩ (.int .i64 ((p : Int) + 1)))) (.cells cs T)
  have hB : B ≤ w.heap.size := by have := h.ord; have := h.sz; omega
  rw [← hW]
  refine ⟨h1.below hb, h2.trans (Fr10.of_below hb (by rw [hs]; exact hB)), ?_, h.sz, by rw [World.size_alloc, hs]⟩
  have := heap_alloc_new (w.setCell ⟨gn, 0, none⟩ (.int .i64 ((p : Int) + 1))) (.cells cs T)
  rwa [hs] at this
set_option maxHeartbeats 16000000 in
set_option maxRecDepth 100000 in
theorem tell_text (B base gv gn gl gt : Nat) (A : Option Addr) (c : Nat) (v : List Nd) (hl : v.length ≤ 512) (hsm : ∀ n ∈ v, SmallN n) (d p : Nat) (L : List TB) (V : Value) (r : List Nd) (w : World) (hp : p < v.length) (hr : restD d (v.drop p) = some r) (hL : L.length ≤ 100000) (h : TlSt B base gv gn gl gt A c v p L V w) (HKIND : (v[p]'hp).kind = 2) :
    Calls Try.prog 23 #[.pointer (some ⟨gv, 0, none⟩), .pointer (some ⟨gn, 0, none⟩), .pointer (some ⟨gl, 0, none⟩), .pointer (some ⟨gt, 0, none⟩)] w (Told10 B base gv gn gl gt A c v (v.length - r.length) L V (toldD d (v.drop p)).1 w) := by
  obtain ⟨i0, hi, hz0, hz1, hz2⟩ := info_parts infoTk
  have HI := Lib.hid hi
  have HZ0 := Lib.hid hz0
  have HZ1 := Lib.hid hz1
  have HZ2 := Lib.hid hz2
  obtain ⟨Va, Vc, rfl⟩ := own_form2 h.own
  obtain ⟨b0, off, x, y, t, A1, c1, hA, hbB, hin, q0, q1, q2, q3, q4, q5⟩ := nd_at h.rd hp
  have hs := hsm _ (List.getElem_mem hp)
  have hBw : B ≤ w.heap.size := by have := h.ord; have := h.sz; omega
  have hAt : NdAt (v[p]'hp) x y t A1 c1 w := hin.keep (fun b hb => Nat.lt_of_lt_of_le hb hBw) fun _ _ _ => rfl
  have hdr := List.drop_eq_getElem_cons hp
  rw [hdr] at hr
  obtain ⟨nd, hnd⟩ : ∃ nd, v[p]'hp = nd := ⟨_, rfl⟩
  rw [hnd] at hs hAt hr hdr q0 q3 q5 HKIND
  obtain ⟨htd, hrl⟩ := toldD_text hr HKIND
  rw [hdr, htd]
  rw [HKIND, show ((2 : Nat) : Int) = 2 from rfl] at q0
  have hrp : v.length - r.length = p + 1 := by rw [hrl, List.length_drop]; omega
  rw [hrp]
  obtain ⟨n, hn⟩ : ∃ n, v.length = n := ⟨_, rfl⟩
  have HLN := Lib.hid hn
  obtain ⟨n1, hn1⟩ : ∃ n1, nd.attrs.length = n1 := ⟨_, rfl⟩
  obtain ⟨mm, hmm⟩ : ∃ mm, nd.many = mm := ⟨_, rfl⟩
  have bp : (0 : Int) ≤ (p : Int) ∧ (p : Int) < (n : Int) := by omega
  have bn : (n : Int) ≤ 512 := by omega
  have kv := cell_of_one h.hv
  have kn := cell_of_one h.hn
  have fn := free_of_one h.hn
  have HST := Lib.hid h
  have HL := Lib.hid hL
  have hglt : gn < w.heap.size := lt_of_block h.hn
  have HN1 := Lib.hid hn1
  have HMM := Lib.hid hmm
  rw [hn] at kv
  rw [hn1] at q3
  rw [hmm] at q5
  have hts : t.size ≤ 1000000 := by rw [← ba_len5, hAt.text]; exact hs.text
  have HTS := Lib.hid hts
  have HTX := Lib.hid hAt.text
  obtain ⟨W0, hW0⟩ : ∃ W0, ((w.setCell ⟨gn, 0, none⟩ (.int .i64 ((p : Int) + 1))).alloc (.cells #[.int .u8 2, .string x, .string y, .slice A1 n1 c1, .string t, .int .i64 mm] 53)) = W0 := ⟨_, rfl⟩
  have HW := Lib.hid (h.step _ _ _ hW0)
  have k0 := cellV W0 _ 0 _ _ _ HW.out.2.2.1
  have k2 := cellV W0 _ 2 _ _ _ HW.out.2.2.1
  have k4 := cellV W0 _ 4 _ _ _ HW.out.2.2.1
  have k5 := cellV W0 _ 5 _ _ _ HW.out.2.2.1
  subst hA
  clear hr hs hAt hnd hin htd hrl hrp hdr h hl hsm hts hBw hbB hn1 hmm hi hz0 hz1 hz2 hL hn
  clear hp
  go_enter Try.func23, Try.ntmps23
  go_wp2_with fail
  have HBX := Lib.hid HW.out.2.2.1
  clear k0 k2 k4 k5 q0 q1 q2 q3 q4 q5 kv kn fn
  refine wp_region_noPanic ?_
  refine wp_region_Z (fun W => W.cell? ⟨gl, 0, none⟩ = some (.slice Va L.length Vc) ∧ W.cell? ⟨w.heap.size, 4, none⟩ = some (.string t)) 7 (by kernel_rfl) ?_
  have hS : W0.drew.cell? ⟨gl, 0, none⟩ = some (.slice Va L.length Vc) ∧ W0.drew.cell? ⟨w.heap.size, 4, none⟩ = some (.string t) := ⟨cellV W0 _ 0 _ _ _ HW.out.1.hl, cellV W0 _ 4 _ _ _ HBX.out⟩
  refine takeZ (i := 0) (v := .slice Va L.length Vc) rfl (by kernel_rfl) (by kernel_rfl) (by kernel_rfl) (by kernel_rfl) (fun _ _ _ h => h) (Or.inl ⟨by rfl, ?_⟩) hS ?_
  · intro w' hSw; (try dsimp only at hSw); go_simp
  try simp only [Act.put, List.setIfInBounds_toArray, List.set_cons_zero, List.set_cons_succ]
  refine takeZ (i := 1) (v := .pointer (some ⟨w.heap.size, 4, none⟩)) rfl (by kernel_rfl) (by kernel_rfl) (by kernel_rfl) (by kernel_rfl) (fun _ _ _ h => h) (Or.inl ⟨by rfl, ?_⟩) hS ?_
  · intro w' hSw; (try dsimp only at hSw); go_simp
  try simp only [Act.put, List.setIfInBounds_toArray, List.set_cons_zero, List.set_cons_succ]
  refine takeZ (i := 2) (v := .string t) rfl (by kernel_rfl) (by kernel_rfl) (by kernel_rfl) (by kernel_rfl) (fun _ _ _ h => h) (Or.inl ⟨by rfl, ?_⟩) hS ?_
  · intro w' hSw; (try dsimp only at hSw); go_simp
  try simp only [Act.put, List.setIfInBounds_toArray, List.set_cons_zero, List.set_cons_succ]
  refine stepZ (i := 3) (by kernel_rfl) rfl (fun K hK => ?_)
  go_simp
  go_at_call 24; (with_reducible refine (clone9 t _ HTS.out).mono ?_); rintro e5 w5 ⟨rfl, hb5⟩; have HB5 := Lib.hid hb5; clear hb5
  have HS5 : Hid (TlSt B base gv gn gl gt (some ⟨b0, off, none⟩) c v (p + 1) L (.slice Va L.length Vc) w5) := Lib.hid (HW.out.1.below (stp (Below.refl _ _).drew HB5.out))
  have HX5 : Hid (w5.heap[w.heap.size]? = some (.cells #[.int .u8 2, .string x, .string y, .slice A1 n1 c1, .string t, .int .i64 mm] 53 (0, 0))) := Lib.hid (kept_heap HBX.out (stp (Below.refl _ _).drew HB5.out))
  have hS5 : w5.cell? ⟨gl, 0, none⟩ = some (.slice Va L.length Vc) ∧ w5.cell? ⟨w.heap.size, 4, none⟩ = some (.string t) := ⟨cellV w5 _ 0 _ _ _ HS5.out.hl, cellV w5 _ 4 _ _ _ HX5.out⟩
  go_wp2_with fail
  refine hK.out _ _ (fun _ => hS5) (fun _ => ?_)
  clear hK K hS
  try simp only [Act.put, List.setIfInBounds_toArray, List.set_cons_zero, List.set_cons_succ]
  refine takeZ (i := 4) (v := .agg #[.int .u8 4, .string ⟨#[]⟩, .slice none 0 0, .string t]) rfl (by kernel_rfl) (by kernel_rfl) (by kernel_rfl) (by kernel_rfl) (fun _ _ _ h => h) (Or.inl ⟨by rfl, ?_⟩) hS5 ?_
  · intro w' hSw; (try dsimp only at hSw); go_simp
  try simp only [Act.put, List.setIfInBounds_toArray, List.set_cons_zero, List.set_cons_succ]
  refine stepZ (i := 5) (by kernel_rfl) rfl (fun K hK => ?_)
  go_simp
  have HS6 := Lib.hid (HS5.out.below (stpA (Below.refl w5.heap.size w5) (.cells #[.int .u8 4, .string ⟨#[]⟩, .slice none 0 0, .string t] 60)))
  have HX6 := Lib.hid (kept_heap HX5.out (stpA (Below.refl w5.heap.size w5) (.cells #[.int .u8 4, .string ⟨#[]⟩, .slice none 0 0, .string t] 60)))
  have hS6 : (w5.alloc (.cells #[.int .u8 4, .string ⟨#[]⟩, .slice none 0 0, .string t] 60)).cell? ⟨gl, 0, none⟩ = some (.slice Va L.length Vc) ∧ (w5.alloc (.cells #[.int .u8 4, .string ⟨#[]⟩, .slice none 0 0, .string t] 60)).cell? ⟨w.heap.size, 4, none⟩ = some (.string t) := ⟨cellV (w5.alloc (.cells #[.int .u8 4, .string ⟨#[]⟩, .slice none 0 0, .string t] 60)) _ 0 _ _ _ HS6.out.hl, cellV (w5.alloc (.cells #[.int .u8 4, .string ⟨#[]⟩, .slice none 0 0, .string t] 60)) _ 4 _ _ _ HX6.out⟩
  refine hK.out _ _ (fun _ => hS6) (fun _ => ?_)
  clear hK K hS5
  try simp only [Act.put, List.setIfInBounds_toArray, List.set_cons_zero, List.set_cons_succ]
  refine stepZ (i := 6) (by kernel_rfl) rfl (fun K hK => ?_)
  have HSZ : Hid (base ≤ w5.heap.size) := Lib.hid HS5.out.sz
  refine step_append_lies _ rfl (.tmp 34) (.tmp 39) 25 rfl base 60 i0 (.agg #[.int .u8 0, .string ⟨#[]⟩, .slice none 0 0, .string ⟨#[]⟩]) 4 64 Try.underlying25 HI.out HZ0.out HZ1.out HZ2.out rfl (by decide) _ L.length _ rfl (own_belowK HS5.out.own (stpA (Below.refl _ _) _) (Nat.le_refl _)) ⟨w5.heap.size, 0, none⟩ 1 1 [.int .u8 4, .string ⟨#[]⟩, .slice none 0 0, .string t] rfl rfl (new_at w5 [.int .u8 4, .string ⟨#[]⟩, .slice none 0 0, .string t] 60 _ rfl) (tb_one _ _ _ _ _ _) (by decide) (by have := HL.out; unfold maxLen; omega) (by have := HL.out; omega) (by have := HSZ.out; rw [World.size_alloc]; omega) (w5.heap.size + 1) (by rw [World.size_alloc]) ?_
  intro g8 c8 w8 hown8 hgr8 hor hlt8
  have hpush := HS5.out.push (b := ⟨⟨#[]⟩, none, 0, t, ⟨4, (⟨#[]⟩ : ByteArray).data.toList, [], t.data.toList⟩⟩) (tk_plain _ 4 (by decide) ⟨#[]⟩ t) (off_plain _ _ 4 ⟨#[]⟩ t) hown8 hgr8 hor
  have HP8 := Lib.hid hpush.1
  have HF8 := Lib.hid hpush.2
  have st8 : ∀ (q : Nat) (o : Obj), w5.heap[q]? = some o → some q ≠ (Value.slice Va L.length Vc).ownBlock → w8.heap[q]? = some o := fun q o ho hne => by
    have h1 := kept_heap ho (stpA (Below.refl w5.heap.size w5) (.cells #[.int .u8 4, .string ⟨#[]⟩, .slice none 0 0, .string t] 60))
    exact (hgr8.block _ (Array.getElem?_eq_some_iff.1 h1).1 hne).trans h1
  have hgl := st8 gl _ HS5.out.hl (fun e => by have := (HS5.out.own.lt _ e.symm).1; have := HS5.out.ord; omega)
  have hbx := st8 w.heap.size _ HX5.out (fun e => by have := (HST.out.own.lt _ e.symm).2; omega)
  have k8 : w8.cell? ⟨gl, 0, none⟩ = some (.slice Va L.length Vc) ∧ w8.cell? ⟨w.heap.size, 4, none⟩ = some (.string t) := ⟨cellV w8 _ 0 _ _ _ hgl, cellV w8 _ 4 _ _ _ hbx⟩
  have f8 : w8.frozen? ⟨gl, 0, none⟩ = false := freeV w8 _ 0 _ _ hgl
  have k81 := k8.1
  clear hown8 hgr8 hor hgl st8 hpush
  refine hK.out _ _ (fun _ => k8) (fun _ => ?_)
  clear hK K
  try simp only [Act.put, List.setIfInBounds_toArray, List.set_cons_zero, List.set_cons_succ]
  refine stepZ (i := 7) (by kernel_rfl) rfl (fun K hK => ?_)
  go_simp
  refine hK.out _ _ (fun h => absurd rfl h) (fun _ => ?_)
  clear hK K
  try simp only [Act.put, List.setIfInBounds_toArray, List.set_cons_zero, List.set_cons_succ]
  refine doneZ (by kernel_rfl) ?_ _
  refine NoPanic.normal ?_
  go_wp2_with fail
  (try simp only [Exit.inBlock, Exit.then, Exit.noGoto])
  go_end0
  refine ⟨rfl, [⟨⟨#[]⟩, none, 0, t, ⟨4, (⟨#[]⟩ : ByteArray).data.toList, [], t.data.toList⟩⟩], _, ?_, HP8.out, (HW.out.2.1.trans (Fr10.of_below (stp (Below.refl _ _).drew HB5.out) (by have := HST.out.ord; have := HW.out.2.2.2; omega))).trans HF8.out⟩
  show [_] = [_]
  rw [← HTX.out]
theorem tag_tk {w0 w5 : World} {k : Nat} (hk : k < 256) {y : ByteArray} {A5 : Option Addr} {c5 : Nat} {l : List At} {V : Value} {base : Nat} (h : w5.ownsRow w0.heap.size 84 2 (.slice A5 l.length c5) l.length ((l.map pbA).flatMap prCells)) (hV : ∀ q, V.ownBlock = some q → q < w0.heap.size) (hb : base ≤ w0.heap.size) :
    TkC.R w5 w5.heap.size (tbCells ⟨y, A5, c5, ⟨#[]⟩, ⟨k, y.data.toList, pairsN l, []⟩⟩) ⟨k, y.data.toList, pairsN l, []⟩ ∧ OffT base V ⟨y, A5, c5, ⟨#[]⟩, ⟨k, y.data.toList, pairsN l, []⟩⟩ := by
  obtain ⟨h1, h2, h3, h4, h5⟩ := own_attrs h
  rw [pbA_val] at h1
  have hl : (pairsN l).length = l.length := by unfold pairsN; rw [List.length_map]
  refine ⟨⟨y, A5, c5, ⟨#[]⟩, rfl, hk, rfl, rfl, by rw [hl]; exact h3, h4, h5, h1⟩, fun _ ad e => ?_⟩
  have e : A5 = some ad := e
  subst e
  have h6 := (h.lt ad.block rfl).1
  exact ⟨fun e2 => by have := hV _ e2.symm; omega, by omega⟩
theorem toldD_bare {d : Nat} {n : Nd} {l : List Nd} {r : List Nd} (h : restD d (n :: l) = some r) (hk : n.kind = 1) (hm : n.many = 0) : toldD d (n :: l) = ([⟨3, n.name, pairsN n.attrs, []⟩], l) ∧ r = l := by
  obtain ⟨_, _, b, hb⟩ := restD_ok h
  rw [hm] at hb
  have hb : (some (false, l) : Option (Bool × List Nd)) = some (b, r) := by
    rw [← hb]
    rfl
  injection hb with hb
  injection hb with _ hb
  refine ⟨?_, hb.symm⟩
  cases d with
  | zero => rw [restD, if_neg (by omega)] at h; cases h
  | succ d => rw [toldD, if_neg (by omega), if_pos hm]
set_option maxHeartbeats 16000000 in
set_option maxRecDepth 100000 in
theorem tell_bare (B base gv gn gl gt : Nat) (A : Option Addr) (c : Nat) (v : List Nd) (hl : v.length ≤ 512) (hsm : ∀ n ∈ v, SmallN n) (d p : Nat) (L : List TB) (V : Value) (r : List Nd) (w : World) (hp : p < v.length) (hr : restD d (v.drop p) = some r) (hL : L.length ≤ 100000) (h : TlSt B base gv gn gl gt A c v p L V w) (HKIND : (v[p]'hp).kind = 1) (HM0 : (v[p]'hp).many = 0) :
    Calls Try.prog 23 #[.pointer (some ⟨gv, 0, none⟩), .pointer (some ⟨gn, 0, none⟩), .pointer (some ⟨gl, 0, none⟩), .pointer (some ⟨gt, 0, none⟩)] w (Told10 B base gv gn gl gt A c v (v.length - r.length) L V (toldD d (v.drop p)).1 w) := by
  obtain ⟨i0, hi, hz0, hz1, hz2⟩ := info_parts infoTk
  have HI := Lib.hid hi
  have HZ0 := Lib.hid hz0
  have HZ1 := Lib.hid hz1
  have HZ2 := Lib.hid hz2
  obtain ⟨Va, Vc, rfl⟩ := own_form2 h.own
  obtain ⟨b0, off, x, y, t, A1, c1, hA, hbB, hin, q0, q1, q2, q3, q4, q5⟩ := nd_at h.rd hp
  have hs := hsm _ (List.getElem_mem hp)
  have hBw : B ≤ w.heap.size := by have := h.ord; have := h.sz; omega
  have hAt : NdAt (v[p]'hp) x y t A1 c1 w := hin.keep (fun b hb => Nat.lt_of_lt_of_le hb hBw) fun _ _ _ => rfl
  have hdr := List.drop_eq_getElem_cons hp
  rw [hdr] at hr
  obtain ⟨nd, hnd⟩ : ∃ nd, v[p]'hp = nd := ⟨_, rfl⟩
  rw [hnd] at hs hAt hr hdr q0 q3 q5 HKIND HM0
  obtain ⟨htd, hrl⟩ := toldD_bare hr HKIND HM0
  rw [hdr, htd]
  rw [HKIND, show ((1 : Nat) : Int) = 1 from rfl] at q0
  have hrp : v.length - r.length = p + 1 := by rw [hrl, List.length_drop]; omega
  rw [hrp]
  have hin2 := hin
  rw [hnd] at hin2
  have htag : ∀ W, Below B w W → Calls Try.prog 25 #[.int .u8 3, NdV nd x y t A1 c1] W (TgTo10 3 y nd.attrs W) := fun W hW => tag10 3 nd x y t A1 c1 W (hin2.keep (fun b hb => Nat.lt_of_lt_of_le (Nat.lt_of_lt_of_le hb hBw) hW.size) fun b o hb => hW.cell (p := ⟨b, o, none⟩) hb) hs
  unfold NdV TgTo10 at htag
  rw [HKIND, HM0, show ((1 : Nat) : Int) = 1 from rfl] at htag
  obtain ⟨n, hn⟩ : ∃ n, v.length = n := ⟨_, rfl⟩
  have HLN := Lib.hid hn
  obtain ⟨n1, hn1⟩ : ∃ n1, nd.attrs.length = n1 := ⟨_, rfl⟩
  obtain ⟨mm, hmm⟩ : ∃ mm, nd.many = mm := ⟨_, rfl⟩
  have bp : (0 : Int) ≤ (p : Int) ∧ (p : Int) < (n : Int) := by omega
  have bn : (n : Int) ≤ 512 := by omega
  have kv := cell_of_one h.hv
  have kn := cell_of_one h.hn
  have fn := free_of_one h.hn
  have HST := Lib.hid h
  have HL := Lib.hid hL
  have hglt : gn < w.heap.size := lt_of_block h.hn
  have HN1 := Lib.hid hn1
  have HMM := Lib.hid hmm
  rw [hn] at kv
  rw [hn1] at q3
  rw [hmm] at q5
  rw [HM0] at hmm
  subst hmm
  rw [hn1] at htag
  have HTG := Lib.hid htag
  have HNM := Lib.hid hAt.name
  have HPL : Hid ((pairsN nd.attrs).length = n1) := Lib.hid (by unfold pairsN; rw [List.length_map, hn1])
  obtain ⟨W0, hW0⟩ : ∃ W0, ((w.setCell ⟨gn, 0, none⟩ (.int .i64 ((p : Int) + 1))).alloc (.cells #[.int .u8 1, .string x, .string y, .slice A1 n1 c1, .string t, .int .i64 0] 53)) = W0 := ⟨_, rfl⟩
  have HW := Lib.hid (h.step _ _ _ hW0)
  have k0 := cellV W0 _ 0 _ _ _ HW.out.2.2.1
  have k2 := cellV W0 _ 2 _ _ _ HW.out.2.2.1
  have k4 := cellV W0 _ 4 _ _ _ HW.out.2.2.1
  have k5 := cellV W0 _ 5 _ _ _ HW.out.2.2.1
  subst hA
  clear htag hin2 hr hs hAt hnd hin htd hrl hrp hdr h hl hsm hBw hbB hn1 hi hz0 hz1 hz2 hL hn
  clear hp
  go_enter Try.func23, Try.ntmps23
  go_wp2_with fail
  have HBX := Lib.hid HW.out.2.2.1
  clear k0 k2 k4 k5 q0 q1 q2 q3 q4 q5 kv kn fn
  refine wp_region_noPanic ?_
  refine wp_region_Z (fun W => W.cell? ⟨gl, 0, none⟩ = some (.slice Va L.length Vc) ∧ W.cell? ⟨w.heap.size, 0, none⟩ = some (.int .u8 1) ∧ W.cell? ⟨w.heap.size, 1, none⟩ = some (.string x) ∧ W.cell? ⟨w.heap.size, 2, none⟩ = some (.string y) ∧ W.cell? ⟨w.heap.size, 3, none⟩ = some (.slice A1 n1 c1) ∧ W.cell? ⟨w.heap.size, 4, none⟩ = some (.string t) ∧ W.cell? ⟨w.heap.size, 5, none⟩ = some (.int .i64 0)) 5 (by kernel_rfl) ?_
  have hS : W0.drew.cell? ⟨gl, 0, none⟩ = some (.slice Va L.length Vc) ∧ W0.drew.cell? ⟨w.heap.size, 0, none⟩ = some (.int .u8 1) ∧ W0.drew.cell? ⟨w.heap.size, 1, none⟩ = some (.string x) ∧ W0.drew.cell? ⟨w.heap.size, 2, none⟩ = some (.string y) ∧ W0.drew.cell? ⟨w.heap.size, 3, none⟩ = some (.slice A1 n1 c1) ∧ W0.drew.cell? ⟨w.heap.size, 4, none⟩ = some (.string t) ∧ W0.drew.cell? ⟨w.heap.size, 5, none⟩ = some (.int .i64 0) := ⟨cellV W0 _ 0 _ _ _ HW.out.1.hl, cellV W0 _ 0 _ _ _ HBX.out, cellV W0 _ 1 _ _ _ HBX.out, cellV W0 _ 2 _ _ _ HBX.out, cellV W0 _ 3 _ _ _ HBX.out, cellV W0 _ 4 _ _ _ HBX.out, cellV W0 _ 5 _ _ _ HBX.out⟩
  refine takeZ (i := 0) (v := .slice Va L.length Vc) rfl (by kernel_rfl) (by kernel_rfl) (by kernel_rfl) (by kernel_rfl) (fun _ _ _ h => h) (Or.inl ⟨by rfl, ?_⟩) hS ?_
  · intro w' hSw; (try dsimp only at hSw); go_simp
  try simp only [Act.put, List.setIfInBounds_toArray, List.set_cons_zero, List.set_cons_succ]
  refine takeZ (i := 1) (v := .agg #[.int .u8 1, .string x, .string y, .slice A1 n1 c1, .string t, .int .i64 0]) rfl (by kernel_rfl) (by kernel_rfl) (by kernel_rfl) (by kernel_rfl) (fun _ _ _ h => h) (Or.inl ⟨by rfl, ?_⟩) hS ?_
  · intro w' hSw; (try dsimp only at hSw); go_simp
  try simp only [Act.put, List.setIfInBounds_toArray, List.set_cons_zero, List.set_cons_succ]
  refine stepZ (i := 2) (by kernel_rfl) rfl (fun K hK => ?_)
  go_simp
  go_at_call 25; (with_reducible refine (HTG.out _ HW.out.2.1.bel.drew).mono ?_); rintro e5 w5 ⟨hb5, A5, c5, rfl, hown5⟩; have HB5 : Hid (Below W0.drew.heap.size W0.drew w5) := Lib.hid hb5; have HTK := Lib.hid (tag_tk (k := 3) (by decide) (y := y) (V := .slice Va L.length Vc) (base := base) (by rw [HN1.out]; exact hown5) (fun q hq => by have := (HW.out.1.own.lt q hq).2; exact this) HW.out.1.sz); have HCS : Hid (tbCells ⟨y, A5, c5, ⟨#[]⟩, ⟨3, y.data.toList, pairsN nd.attrs, []⟩⟩ = [.int .u8 3, .string y, .slice A5 n1 c5, .string ⟨#[]⟩]) := Lib.hid (by unfold tbCells; rw [HPL.out]; rfl); clear hb5 hown5
  have HS5 : Hid (TlSt B base gv gn gl gt (some ⟨b0, off, none⟩) c v (p + 1) L (.slice Va L.length Vc) w5) := Lib.hid (HW.out.1.below (stp (Below.refl _ _).drew HB5.out))
  have HX5 : Hid (w5.heap[w.heap.size]? = some (.cells #[.int .u8 1, .string x, .string y, .slice A1 n1 c1, .string t, .int .i64 0] 53 (0, 0))) := Lib.hid (kept_heap HBX.out (stp (Below.refl _ _).drew HB5.out))
  have hS5 : w5.cell? ⟨gl, 0, none⟩ = some (.slice Va L.length Vc) ∧ w5.cell? ⟨w.heap.size, 0, none⟩ = some (.int .u8 1) ∧ w5.cell? ⟨w.heap.size, 1, none⟩ = some (.string x) ∧ w5.cell? ⟨w.heap.size, 2, none⟩ = some (.string y) ∧ w5.cell? ⟨w.heap.size, 3, none⟩ = some (.slice A1 n1 c1) ∧ w5.cell? ⟨w.heap.size, 4, none⟩ = some (.string t) ∧ w5.cell? ⟨w.heap.size, 5, none⟩ = some (.int .i64 0) := ⟨cellV w5 _ 0 _ _ _ HS5.out.hl, cellV w5 _ 0 _ _ _ HX5.out, cellV w5 _ 1 _ _ _ HX5.out, cellV w5 _ 2 _ _ _ HX5.out, cellV w5 _ 3 _ _ _ HX5.out, cellV w5 _ 4 _ _ _ HX5.out, cellV w5 _ 5 _ _ _ HX5.out⟩
  go_wp2_with fail
  refine hK.out _ _ (fun _ => hS5) (fun _ => ?_)
  clear hK K hS
  try simp only [Act.put, List.setIfInBounds_toArray, List.set_cons_zero, List.set_cons_succ]
  refine stepZ (i := 3) (by kernel_rfl) rfl (fun K hK => ?_)
  go_simp
  have HS6 := Lib.hid (HS5.out.below (stpA (Below.refl w5.heap.size w5) (.cells #[.int .u8 3, .string y, .slice A5 n1 c5, .string ⟨#[]⟩] 60)))
  have HX6 := Lib.hid (kept_heap HX5.out (stpA (Below.refl w5.heap.size w5) (.cells #[.int .u8 3, .string y, .slice A5 n1 c5, .string ⟨#[]⟩] 60)))
  have hS6 : (w5.alloc (.cells #[.int .u8 3, .string y, .slice A5 n1 c5, .string ⟨#[]⟩] 60)).cell? ⟨gl, 0, none⟩ = some (.slice Va L.length Vc) ∧ (w5.alloc (.cells #[.int .u8 3, .string y, .slice A5 n1 c5, .string ⟨#[]⟩] 60)).cell? ⟨w.heap.size, 0, none⟩ = some (.int .u8 1) ∧ (w5.alloc (.cells #[.int .u8 3, .string y, .slice A5 n1 c5, .string ⟨#[]⟩] 60)).cell? ⟨w.heap.size, 1, none⟩ = some (.string x) ∧ (w5.alloc (.cells #[.int .u8 3, .string y, .slice A5 n1 c5, .string ⟨#[]⟩] 60)).cell? ⟨w.heap.size, 2, none⟩ = some (.string y) ∧ (w5.alloc (.cells #[.int .u8 3, .string y, .slice A5 n1 c5, .string ⟨#[]⟩] 60)).cell? ⟨w.heap.size, 3, none⟩ = some (.slice A1 n1 c1) ∧ (w5.alloc (.cells #[.int .u8 3, .string y, .slice A5 n1 c5, .string ⟨#[]⟩] 60)).cell? ⟨w.heap.size, 4, none⟩ = some (.string t) ∧ (w5.alloc (.cells #[.int .u8 3, .string y, .slice A5 n1 c5, .string ⟨#[]⟩] 60)).cell? ⟨w.heap.size, 5, none⟩ = some (.int .i64 0) := ⟨cellV (w5.alloc (.cells #[.int .u8 3, .string y, .slice A5 n1 c5, .string ⟨#[]⟩] 60)) _ 0 _ _ _ HS6.out.hl, cellV (w5.alloc (.cells #[.int .u8 3, .string y, .slice A5 n1 c5, .string ⟨#[]⟩] 60)) _ 0 _ _ _ HX6.out, cellV (w5.alloc (.cells #[.int .u8 3, .string y, .slice A5 n1 c5, .string ⟨#[]⟩] 60)) _ 1 _ _ _ HX6.out, cellV (w5.alloc (.cells #[.int .u8 3, .string y, .slice A5 n1 c5, .string ⟨#[]⟩] 60)) _ 2 _ _ _ HX6.out, cellV (w5.alloc (.cells #[.int .u8 3, .string y, .slice A5 n1 c5, .string ⟨#[]⟩] 60)) _ 3 _ _ _ HX6.out, cellV (w5.alloc (.cells #[.int .u8 3, .string y, .slice A5 n1 c5, .string ⟨#[]⟩] 60)) _ 4 _ _ _ HX6.out, cellV (w5.alloc (.cells #[.int .u8 3, .string y, .slice A5 n1 c5, .string ⟨#[]⟩] 60)) _ 5 _ _ _ HX6.out⟩
  refine hK.out _ _ (fun _ => hS6) (fun _ => ?_)
  clear hK K hS5
  try simp only [Act.put, List.setIfInBounds_toArray, List.set_cons_zero, List.set_cons_succ]
  refine stepZ (i := 4) (by kernel_rfl) rfl (fun K hK => ?_)
  have HSZ : Hid (base ≤ w5.heap.size) := Lib.hid HS5.out.sz
  refine step_append_lies _ rfl (.tmp 45) (.tmp 48) 25 rfl base 60 i0 (.agg #[.int .u8 0, .string ⟨#[]⟩, .slice none 0 0, .string ⟨#[]⟩]) 4 64 Try.underlying25 HI.out HZ0.out HZ1.out HZ2.out rfl (by decide) _ L.length _ rfl (own_belowK HS5.out.own (stpA (Below.refl _ _) _) (Nat.le_refl _)) ⟨w5.heap.size, 0, none⟩ 1 1 [.int .u8 3, .string y, .slice A5 n1 c5, .string ⟨#[]⟩] rfl rfl (new_at w5 [.int .u8 3, .string y, .slice A5 n1 c5, .string ⟨#[]⟩] 60 _ rfl) (tb_one _ _ _ _ _ _) (by decide) (by have := HL.out; unfold maxLen; omega) (by have := HL.out; omega) (by have := HSZ.out; rw [World.size_alloc]; omega) (w5.heap.size + 1) (by rw [World.size_alloc]) ?_
  intro g8 c8 w8 hown8 hgr8 hor hlt8
  have hpush := HS5.out.push (b := ⟨y, A5, c5, ⟨#[]⟩, ⟨3, y.data.toList, pairsN nd.attrs, []⟩⟩) HTK.out.1 HTK.out.2 (by rw [HCS.out]; exact hown8) hgr8 hor
  have HP8 := Lib.hid hpush.1
  have HF8 := Lib.hid hpush.2
  have st8 : ∀ (q : Nat) (o : Obj), w5.heap[q]? = some o → some q ≠ (Value.slice Va L.length Vc).ownBlock → w8.heap[q]? = some o := fun q o ho hne => by
    have h1 := kept_heap ho (stpA (Below.refl w5.heap.size w5) (.cells #[.int .u8 3, .string y, .slice A5 n1 c5, .string ⟨#[]⟩] 60))
    exact (hgr8.block _ (Array.getElem?_eq_some_iff.1 h1).1 hne).trans h1
  have hgl := st8 gl _ HS5.out.hl (fun e => by have := (HS5.out.own.lt _ e.symm).1; have := HS5.out.ord; omega)
  have hbx := st8 w.heap.size _ HX5.out (fun e => by have := (HST.out.own.lt _ e.symm).2; omega)
  have k8 : w8.cell? ⟨gl, 0, none⟩ = some (.slice Va L.length Vc) ∧ w8.cell? ⟨w.heap.size, 0, none⟩ = some (.int .u8 1) ∧ w8.cell? ⟨w.heap.size, 1, none⟩ = some (.string x) ∧ w8.cell? ⟨w.heap.size, 2, none⟩ = some (.string y) ∧ w8.cell? ⟨w.heap.size, 3, none⟩ = some (.slice A1 n1 c1) ∧ w8.cell? ⟨w.heap.size, 4, none⟩ = some (.string t) ∧ w8.cell? ⟨w.heap.size, 5, none⟩ = some (.int .i64 0) := ⟨cellV w8 _ 0 _ _ _ hgl, cellV w8 _ 0 _ _ _ hbx, cellV w8 _ 1 _ _ _ hbx, cellV w8 _ 2 _ _ _ hbx, cellV w8 _ 3 _ _ _ hbx, cellV w8 _ 4 _ _ _ hbx, cellV w8 _ 5 _ _ _ hbx⟩
  have f8 : w8.frozen? ⟨gl, 0, none⟩ = false := freeV w8 _ 0 _ _ hgl
  have k81 := k8.1
  clear hown8 hgr8 hor hgl st8 hpush
  refine hK.out _ _ (fun _ => k8) (fun _ => ?_)
  clear hK K
  try simp only [Act.put, List.setIfInBounds_toArray, List.set_cons_zero, List.set_cons_succ]
  refine stepZ (i := 5) (by kernel_rfl) rfl (fun K hK => ?_)
  go_simp
  refine hK.out _ _ (fun h => absurd rfl h) (fun _ => ?_)
  clear hK K
  try simp only [Act.put, List.setIfInBounds_toArray, List.set_cons_zero, List.set_cons_succ]
  refine doneZ (by kernel_rfl) ?_ _
  refine NoPanic.normal ?_
  go_wp2_with fail
  (try simp only [Exit.inBlock, Exit.then, Exit.noGoto])
  go_end0
  refine ⟨rfl, [⟨y, A5, c5, ⟨#[]⟩, ⟨3, y.data.toList, pairsN nd.attrs, []⟩⟩], _, ?_, HP8.out, (HW.out.2.1.trans (Fr10.of_below (stp (Below.refl _ _).drew HB5.out) (by have := HST.out.ord; have := HW.out.2.2.2; omega))).trans HF8.out⟩
  show [_] = [_]
  rw [← HNM.out]
def Tells10 (B base gv gn gl gt : Nat) (A : Option Addr) (c : Nat) (v : List Nd) (d : Nat) : Prop := ∀ (p : Nat) (L : List TB) (V : Value) (r : List Nd) (w : World), p < v.length → restD d (v.drop p) = some r → L.length + cnt (v.drop p) ≤ 3000 → TlSt B base gv gn gl gt A c v p L V w →
  Calls Try.prog 23 #[.pointer (some ⟨gv, 0, none⟩), .pointer (some ⟨gn, 0, none⟩), .pointer (some ⟨gl, 0, none⟩), .pointer (some ⟨gt, 0, none⟩)] w (Told10 B base gv gn gl gt A c v (v.length - r.length) L V (toldD d (v.drop p)).1 w)
theorem toldD_open {d : Nat} {n : Nd} {l : List Nd} (hk : n.kind = 1) (hm : n.many ≠ 0) : toldD (d + 1) (n :: l) = (⟨1, n.name, pairsN n.attrs, []⟩ :: ((toldK (toldD d) n.many.toNat l).1 ++ [⟨2, n.name, [], []⟩]), (toldK (toldD d) n.many.toNat l).2) := by
  rw [toldD, if_neg (by omega), if_neg hm]
theorem cnt_cons {n : Nd} {l : List Nd} (hm : 0 < n.many) : cnt (n :: l) = cnt l + 2 := by
  unfold cnt
  rw [List.length_cons, List.countP_cons, if_pos (by simpa using hm)]
  omega
set_option maxHeartbeats 16000000 in
set_option maxRecDepth 100000 in
theorem tell_open (B base gv gn gl gt : Nat) (A : Option Addr) (c : Nat) (v : List Nd) (hl : v.length ≤ 512) (hsm : ∀ n ∈ v, SmallN n) (d p : Nat) (L : List TB) (V : Value) (r : List Nd) (w : World) (hp : p < v.length) (hr : restD (d + 1) (v.drop p) = some r) (hL : L.length ≤ 100000) (h : TlSt B base gv gn gl gt A c v p L V w) (hcn : L.length + cnt (v.drop p) ≤ 3000) (HKIND : (v[p]'hp).kind = 1) (HM0 : 0 < (v[p]'hp).many) (ih : Tells10 B base gv gn gl gt A c v d) :
    Calls Try.prog 23 #[.pointer (some ⟨gv, 0, none⟩), .pointer (some ⟨gn, 0, none⟩), .pointer (some ⟨gl, 0, none⟩), .pointer (some ⟨gt, 0, none⟩)] w (Told10 B base gv gn gl gt A c v (v.length - r.length) L V (toldD (d + 1) (v.drop p)).1 w) := by
  obtain ⟨i0, hi, hz0, hz1, hz2⟩ := info_parts infoTk
  have HI := Lib.hid hi
  have HZ0 := Lib.hid hz0
  have HZ1 := Lib.hid hz1
  have HZ2 := Lib.hid hz2
  obtain ⟨Va, Vc, rfl⟩ := own_form2 h.own
  obtain ⟨b0, off, x, y, t, A1, c1, hA, hbB, hin, q0, q1, q2, q3, q4, q5⟩ := nd_at h.rd hp
  have hs := hsm _ (List.getElem_mem hp)
  have hBw : B ≤ w.heap.size := by have := h.ord; have := h.sz; omega
  have hAt : NdAt (v[p]'hp) x y t A1 c1 w := hin.keep (fun b hb => Nat.lt_of_lt_of_le hb hBw) fun _ _ _ => rfl
  have hdr := List.drop_eq_getElem_cons hp
  rw [hdr] at hr
  obtain ⟨nd, hnd⟩ : ∃ nd, v[p]'hp = nd := ⟨_, rfl⟩
  rw [hnd] at hs hAt hr hdr q0 q3 q5 HKIND HM0
  have htd := toldD_open (d := d) (l := v.drop (p + 1)) HKIND (by omega : nd.many ≠ 0)
  have hct := cnt_cons (l := v.drop (p + 1)) HM0
  obtain ⟨hok, _, bb, hk⟩ := restD_ok hr
  rw [Nat.add_sub_cancel] at hk
  rw [hdr] at hcn
  rw [hct] at hcn
  rw [hdr, htd]
  rw [HKIND, show ((1 : Nat) : Int) = 1 from rfl] at q0
  have hin2 := hin
  rw [hnd] at hin2
  have htag : ∀ W, Below B w W → Calls Try.prog 25 #[.int .u8 1, NdV nd x y t A1 c1] W (TgTo10 1 y nd.attrs W) := fun W hW => tag10 1 nd x y t A1 c1 W (hin2.keep (fun b hb => Nat.lt_of_lt_of_le (Nat.lt_of_lt_of_le hb hBw) hW.size) fun b o hb => hW.cell (p := ⟨b, o, none⟩) hb) hs
  unfold NdV TgTo10 at htag
  obtain ⟨m, hmn⟩ : ∃ m : Nat, nd.many = (m : Int) := ⟨nd.many.toNat, by omega⟩
  rw [HKIND, show ((1 : Nat) : Int) = 1 from rfl] at htag
  rw [hmn, Int.toNat_natCast] at hk
  have hkl := kidsD_len hk
  rw [List.length_drop] at hkl
  obtain ⟨n, hn⟩ : ∃ n, v.length = n := ⟨_, rfl⟩
  have HLN := Lib.hid hn
  obtain ⟨n1, hn1⟩ : ∃ n1, nd.attrs.length = n1 := ⟨_, rfl⟩
  obtain ⟨mm, hmm⟩ : ∃ mm, nd.many = mm := ⟨_, rfl⟩
  have bp : (0 : Int) ≤ (p : Int) ∧ (p : Int) < (n : Int) := by omega
  have bn : (n : Int) ≤ 512 := by omega
  have kv := cell_of_one h.hv
  have kn := cell_of_one h.hn
  have fn := free_of_one h.hn
  have HST := Lib.hid h
  have HL := Lib.hid hL
  have hglt : gn < w.heap.size := lt_of_block h.hn
  have HN1 := Lib.hid hn1
  have HMM := Lib.hid hmm
  rw [hn] at kv
  rw [hn1] at q3
  rw [hmm] at q5
  rw [hmn] at hmm
  subst hmm
  rw [hmn, Int.toNat_natCast]
  rw [hn1, hmn] at htag
  have f0 : ((m : Int) == 0) = false := by simp; omega
  have f1 : ¬ (m : Int) = 0 := by omega
  have HTG := Lib.hid htag
  have HNM := Lib.hid hAt.name
  have hys : y.size ≤ 1000000 := by rw [← ba_len5, hAt.name]; exact hs.name
  have HYS := Lib.hid hys
  have HK := Lib.hid hk
  have HIH := Lib.hid ih
  have HCN := Lib.hid hcn
  have HPLT := Lib.hid hp
  have bm : (0 : Int) < (m : Int) ∧ (m : Int) ≤ 512 := by omega
  have HRL : Hid (r.length + m + p < n) := Lib.hid (by omega)
  obtain ⟨q9, hq9⟩ : ∃ q9, v.length - r.length = q9 := ⟨_, rfl⟩
  have HQ9 := Lib.hid hq9
  rw [hq9]
  have HPL : Hid ((pairsN nd.attrs).length = n1) := Lib.hid (by unfold pairsN; rw [List.length_map, hn1])
  obtain ⟨W0, hW0⟩ : ∃ W0, ((w.setCell ⟨gn, 0, none⟩ (.int .i64 ((p : Int) + 1))).alloc (.cells #[.int .u8 1, .string x, .string y, .slice A1 n1 c1, .string t, .int .i64 (m : Int)] 53)) = W0 := ⟨_, rfl⟩
  have HW := Lib.hid (h.step _ _ _ hW0)
  have k0 := cellV W0 _ 0 _ _ _ HW.out.2.2.1
  have k2 := cellV W0 _ 2 _ _ _ HW.out.2.2.1
  have k4 := cellV W0 _ 4 _ _ _ HW.out.2.2.1
  have k5 := cellV W0 _ 5 _ _ _ HW.out.2.2.1
  subst hA
  clear htag hin2 hr hs hAt hnd hin htd hdr h hl hsm hBw hbB hn1 hi hz0 hz1 hz2 hL hn hct hok hk hkl hcn hmn hys ih hq9 HM0
  clear hp
  go_enter Try.func23, Try.ntmps23
  go_wp2_with fail
  have HBX := Lib.hid HW.out.2.2.1
  clear k0 k2 k4 k5 q0 q1 q2 q3 q4 q5 kv kn fn
  refine wp_region_noPanic ?_
  refine wp_region_Z (fun W => W.cell? ⟨gl, 0, none⟩ = some (.slice Va L.length Vc) ∧ W.cell? ⟨w.heap.size, 0, none⟩ = some (.int .u8 1) ∧ W.cell? ⟨w.heap.size, 1, none⟩ = some (.string x) ∧ W.cell? ⟨w.heap.size, 2, none⟩ = some (.string y) ∧ W.cell? ⟨w.heap.size, 3, none⟩ = some (.slice A1 n1 c1) ∧ W.cell? ⟨w.heap.size, 4, none⟩ = some (.string t) ∧ W.cell? ⟨w.heap.size, 5, none⟩ = some (.int .i64 (m : Int))) 5 (by kernel_rfl) ?_
  have hS : W0.drew.cell? ⟨gl, 0, none⟩ = some (.slice Va L.length Vc) ∧ W0.drew.cell? ⟨w.heap.size, 0, none⟩ = some (.int .u8 1) ∧ W0.drew.cell? ⟨w.heap.size, 1, none⟩ = some (.string x) ∧ W0.drew.cell? ⟨w.heap.size, 2, none⟩ = some (.string y) ∧ W0.drew.cell? ⟨w.heap.size, 3, none⟩ = some (.slice A1 n1 c1) ∧ W0.drew.cell? ⟨w.heap.size, 4, none⟩ = some (.string t) ∧ W0.drew.cell? ⟨w.heap.size, 5, none⟩ = some (.int .i64 (m : Int)) := ⟨cellV W0 _ 0 _ _ _ HW.out.1.hl, cellV W0 _ 0 _ _ _ HBX.out, cellV W0 _ 1 _ _ _ HBX.out, cellV W0 _ 2 _ _ _ HBX.out, cellV W0 _ 3 _ _ _ HBX.out, cellV W0 _ 4 _ _ _ HBX.out, cellV W0 _ 5 _ _ _ HBX.out⟩
  refine takeZ (i := 0) (v := .slice Va L.length Vc) rfl (by kernel_rfl) (by kernel_rfl) (by kernel_rfl) (by kernel_rfl) (fun _ _ _ h => h) (Or.inl ⟨by rfl, ?_⟩) hS ?_
  · intro w' hSw; (try dsimp only at hSw); go_simp
  try simp only [Act.put, List.setIfInBounds_toArray, List.set_cons_zero, List.set_cons_succ]
  refine takeZ (i := 1) (v := .agg #[.int .u8 1, .string x, .string y, .slice A1 n1 c1, .string t, .int .i64 (m : Int)]) rfl (by kernel_rfl) (by kernel_rfl) (by kernel_rfl) (by kernel_rfl) (fun _ _ _ h => h) (Or.inl ⟨by rfl, ?_⟩) hS ?_
  · intro w' hSw; (try dsimp only at hSw); go_simp
  try simp only [Act.put, List.setIfInBounds_toArray, List.set_cons_zero, List.set_cons_succ]
  refine stepZ (i := 2) (by kernel_rfl) rfl (fun K hK => ?_)
  go_simp
  go_at_call 25; (with_reducible refine (HTG.out _ HW.out.2.1.bel.drew).mono ?_); rintro e5 w5 ⟨hb5, A5, c5, rfl, hown5⟩; have HB5 : Hid (Below W0.drew.heap.size W0.drew w5) := Lib.hid hb5; have HTK := Lib.hid (tag_tk (k := 1) (by decide) (y := y) (V := .slice Va L.length Vc) (base := base) (by rw [HN1.out]; exact hown5) (fun q hq => by have := (HW.out.1.own.lt q hq).2; exact this) HW.out.1.sz); have HCS : Hid (tbCells ⟨y, A5, c5, ⟨#[]⟩, ⟨1, y.data.toList, pairsN nd.attrs, []⟩⟩ = [.int .u8 1, .string y, .slice A5 n1 c5, .string ⟨#[]⟩]) := Lib.hid (by unfold tbCells; rw [HPL.out]; rfl); clear hb5 hown5
  have HS5 : Hid (TlSt B base gv gn gl gt (some ⟨b0, off, none⟩) c v (p + 1) L (.slice Va L.length Vc) w5) := Lib.hid (HW.out.1.below (stp (Below.refl _ _).drew HB5.out))
  have HX5 : Hid (w5.heap[w.heap.size]? = some (.cells #[.int .u8 1, .string x, .string y, .slice A1 n1 c1, .string t, .int .i64 (m : Int)] 53 (0, 0))) := Lib.hid (kept_heap HBX.out (stp (Below.refl _ _).drew HB5.out))
  have hS5 : w5.cell? ⟨gl, 0, none⟩ = some (.slice Va L.length Vc) ∧ w5.cell? ⟨w.heap.size, 0, none⟩ = some (.int .u8 1) ∧ w5.cell? ⟨w.heap.size, 1, none⟩ = some (.string x) ∧ w5.cell? ⟨w.heap.size, 2, none⟩ = some (.string y) ∧ w5.cell? ⟨w.heap.size, 3, none⟩ = some (.slice A1 n1 c1) ∧ w5.cell? ⟨w.heap.size, 4, none⟩ = some (.string t) ∧ w5.cell? ⟨w.heap.size, 5, none⟩ = some (.int .i64 (m : Int)) := ⟨cellV w5 _ 0 _ _ _ HS5.out.hl, cellV w5 _ 0 _ _ _ HX5.out, cellV w5 _ 1 _ _ _ HX5.out, cellV w5 _ 2 _ _ _ HX5.out, cellV w5 _ 3 _ _ _ HX5.out, cellV w5 _ 4 _ _ _ HX5.out, cellV w5 _ 5 _ _ _ HX5.out⟩
  go_wp2_with fail
  refine hK.out _ _ (fun _ => hS5) (fun _ => ?_)
  clear hK K hS
  try simp only [Act.put, List.setIfInBounds_toArray, List.set_cons_zero, List.set_cons_succ]
  refine stepZ (i := 3) (by kernel_rfl) rfl (fun K hK => ?_)
  go_simp
  have HS6 := Lib.hid (HS5.out.below (stpA (Below.refl w5.heap.size w5) (.cells #[.int .u8 1, .string y, .slice A5 n1 c5, .string ⟨#[]⟩] 60)))
  have HX6 := Lib.hid (kept_heap HX5.out (stpA (Below.refl w5.heap.size w5) (.cells #[.int .u8 1, .string y, .slice A5 n1 c5, .string ⟨#[]⟩] 60)))
  have hS6 : (w5.alloc (.cells #[.int .u8 1, .string y, .slice A5 n1 c5, .string ⟨#[]⟩] 60)).cell? ⟨gl, 0, none⟩ = some (.slice Va L.length Vc) ∧ (w5.alloc (.cells #[.int .u8 1, .string y, .slice A5 n1 c5, .string ⟨#[]⟩] 60)).cell? ⟨w.heap.size, 0, none⟩ = some (.int .u8 1) ∧ (w5.alloc (.cells #[.int .u8 1, .string y, .slice A5 n1 c5, .string ⟨#[]⟩] 60)).cell? ⟨w.heap.size, 1, none⟩ = some (.string x) ∧ (w5.alloc (.cells #[.int .u8 1, .string y, .slice A5 n1 c5, .string ⟨#[]⟩] 60)).cell? ⟨w.heap.size, 2, none⟩ = some (.string y) ∧ (w5.alloc (.cells #[.int .u8 1, .string y, .slice A5 n1 c5, .string ⟨#[]⟩] 60)).cell? ⟨w.heap.size, 3, none⟩ = some (.slice A1 n1 c1) ∧ (w5.alloc (.cells #[.int .u8 1, .string y, .slice A5 n1 c5, .string ⟨#[]⟩] 60)).cell? ⟨w.heap.size, 4, none⟩ = some (.string t) ∧ (w5.alloc (.cells #[.int .u8 1, .string y, .slice A5 n1 c5, .string ⟨#[]⟩] 60)).cell? ⟨w.heap.size, 5, none⟩ = some (.int .i64 (m : Int)) := ⟨cellV (w5.alloc (.cells #[.int .u8 1, .string y, .slice A5 n1 c5, .string ⟨#[]⟩] 60)) _ 0 _ _ _ HS6.out.hl, cellV (w5.alloc (.cells #[.int .u8 1, .string y, .slice A5 n1 c5, .string ⟨#[]⟩] 60)) _ 0 _ _ _ HX6.out, cellV (w5.alloc (.cells #[.int .u8 1, .string y, .slice A5 n1 c5, .string ⟨#[]⟩] 60)) _ 1 _ _ _ HX6.out, cellV (w5.alloc (.cells #[.int .u8 1, .string y, .slice A5 n1 c5, .string ⟨#[]⟩] 60)) _ 2 _ _ _ HX6.out, cellV (w5.alloc (.cells #[.int .u8 1, .string y, .slice A5 n1 c5, .string ⟨#[]⟩] 60)) _ 3 _ _ _ HX6.out, cellV (w5.alloc (.cells #[.int .u8 1, .string y, .slice A5 n1 c5, .string ⟨#[]⟩] 60)) _ 4 _ _ _ HX6.out, cellV (w5.alloc (.cells #[.int .u8 1, .string y, .slice A5 n1 c5, .string ⟨#[]⟩] 60)) _ 5 _ _ _ HX6.out⟩
  refine hK.out _ _ (fun _ => hS6) (fun _ => ?_)
  clear hK K hS5
  try simp only [Act.put, List.setIfInBounds_toArray, List.set_cons_zero, List.set_cons_succ]
  refine stepZ (i := 4) (by kernel_rfl) rfl (fun K hK => ?_)
  have HSZ : Hid (base ≤ w5.heap.size) := Lib.hid HS5.out.sz
  refine step_append_lies _ rfl (.tmp 11) (.tmp 14) 25 rfl base 60 i0 (.agg #[.int .u8 0, .string ⟨#[]⟩, .slice none 0 0, .string ⟨#[]⟩]) 4 64 Try.underlying25 HI.out HZ0.out HZ1.out HZ2.out rfl (by decide) _ L.length _ rfl (own_belowK HS5.out.own (stpA (Below.refl _ _) _) (Nat.le_refl _)) ⟨w5.heap.size, 0, none⟩ 1 1 [.int .u8 1, .string y, .slice A5 n1 c5, .string ⟨#[]⟩] rfl rfl (new_at w5 [.int .u8 1, .string y, .slice A5 n1 c5, .string ⟨#[]⟩] 60 _ rfl) (tb_one _ _ _ _ _ _) (by decide) (by have := HL.out; unfold maxLen; omega) (by have := HL.out; omega) (by have := HSZ.out; rw [World.size_alloc]; omega) (w5.heap.size + 1) (by rw [World.size_alloc]) ?_
  intro g8 c8 w8 hown8 hgr8 hor hlt8
  have hpush := HS5.out.push (b := ⟨y, A5, c5, ⟨#[]⟩, ⟨1, y.data.toList, pairsN nd.attrs, []⟩⟩) HTK.out.1 HTK.out.2 (by rw [HCS.out]; exact hown8) hgr8 hor
  have HP8 := Lib.hid hpush.1
  have HF8 := Lib.hid hpush.2
  have st8 : ∀ (q : Nat) (o : Obj), w5.heap[q]? = some o → some q ≠ (Value.slice Va L.length Vc).ownBlock → w8.heap[q]? = some o := fun q o ho hne => by
    have h1 := kept_heap ho (stpA (Below.refl w5.heap.size w5) (.cells #[.int .u8 1, .string y, .slice A5 n1 c5, .string ⟨#[]⟩] 60))
    exact (hgr8.block _ (Array.getElem?_eq_some_iff.1 h1).1 hne).trans h1
  have hgl := st8 gl _ HS5.out.hl (fun e => by have := (HS5.out.own.lt _ e.symm).1; have := HS5.out.ord; omega)
  have hbx := st8 w.heap.size _ HX5.out (fun e => by have := (HST.out.own.lt _ e.symm).2; omega)
  have k8 : w8.cell? ⟨gl, 0, none⟩ = some (.slice Va L.length Vc) ∧ w8.cell? ⟨w.heap.size, 0, none⟩ = some (.int .u8 1) ∧ w8.cell? ⟨w.heap.size, 1, none⟩ = some (.string x) ∧ w8.cell? ⟨w.heap.size, 2, none⟩ = some (.string y) ∧ w8.cell? ⟨w.heap.size, 3, none⟩ = some (.slice A1 n1 c1) ∧ w8.cell? ⟨w.heap.size, 4, none⟩ = some (.string t) ∧ w8.cell? ⟨w.heap.size, 5, none⟩ = some (.int .i64 (m : Int)) := ⟨cellV w8 _ 0 _ _ _ hgl, cellV w8 _ 0 _ _ _ hbx, cellV w8 _ 1 _ _ _ hbx, cellV w8 _ 2 _ _ _ hbx, cellV w8 _ 3 _ _ _ hbx, cellV w8 _ 4 _ _ _ hbx, cellV w8 _ 5 _ _ _ hbx⟩
  have f8 : w8.frozen? ⟨gl, 0, none⟩ = false := freeV w8 _ 0 _ _ hgl
  have k81 := k8.1
  have HG8 : Hid (g8 ≠ w.heap.size) := Lib.hid (fun e => by rcases hor with h | h; (have := (HST.out.own.lt _ h).2; omega); (have := HB5.out.size; have h2 := HW.out.2.2.2.2; have h3 : W0.heap.size ≤ w5.heap.size := this; omega))
  have HBX8 : Hid ((w8.setCell ⟨gl, 0, none⟩ (.slice (some ⟨g8, 0, none⟩) (L.length + 1) c8)).heap[w.heap.size]? = some (.cells #[.int .u8 1, .string x, .string y, .slice A1 n1 c1, .string t, .int .i64 (m : Int)] 53 (0, 0))) := Lib.hid ((set_other w8 gl 0 w.heap.size _ (by have := HST.out.ord; have := HST.out.sz; omega)).trans hbx)
  clear hown8 hgr8 hor hgl st8 hpush
  refine hK.out _ _ (fun _ => k8) (fun _ => ?_)
  clear hK K
  try simp only [Act.put, List.setIfInBounds_toArray, List.set_cons_zero, List.set_cons_succ]
  refine stepZ (i := 5) (by kernel_rfl) rfl (fun K hK => ?_)
  go_simp
  refine hK.out _ _ (fun h => absurd rfl h) (fun _ => ?_)
  clear hK K
  try simp only [Act.put, List.setIfInBounds_toArray, List.set_cons_zero, List.set_cons_succ]
  refine doneZ (by kernel_rfl) ?_ _
  refine NoPanic.normal ?_
  have HFR0 : Hid (Fr10 B gn gl (.slice Va L.length Vc) w (.slice (some ⟨g8, 0, none⟩) (L.length + 1) c8) (w8.setCell ⟨gl, 0, none⟩ (.slice (some ⟨g8, 0, none⟩) (L.length + 1) c8))) := Lib.hid ((HW.out.2.1.trans (Fr10.of_below (stp (Below.refl _ _).drew HB5.out) (by have := HST.out.ord; have := HW.out.2.2.2; omega))).trans HF8.out)
  obtain ⟨W8, hW8⟩ : ∃ W8, w8.setCell ⟨gl, 0, none⟩ (.slice (some ⟨g8, 0, none⟩) (L.length + 1) c8) = W8 := ⟨_, rfl⟩
  rw [hW8] at HP8 HF8 HFR0 HBX8
  rw [hW8]
  have kb5 := cellV W8 _ 5 _ _ _ HBX8.out
  have HBS : Hid (w.heap.size < W8.heap.size) := Lib.hid (lt_heap HBX8.out)
  clear k8 f8 k81 hbx hW8 hS6
  go_wp2_with fail
  go_loopg [18] m (fun gg i wr => ∃ (j : Nat) (b' : Bool) (p' : Nat) (M : List TB) (V' : Value), j + gg = m ∧ i = .int .i64 j ∧ kidsD (restD d) j false (v.drop (p + 1)) = some (b', v.drop p') ∧ p' ≤ n ∧ TlSt B base gv gn gl gt (some ⟨b0, off, none⟩) c v p' (L ++ [⟨y, A5, c5, ⟨#[]⟩, ⟨1, y.data.toList, pairsN nd.attrs, []⟩⟩] ++ M) V' wr ∧ M.map TB.t = (toldK (toldD d) j (v.drop (p + 1))).1 ∧ Fr10 B gn gl (.slice (some ⟨g8, 0, none⟩) (L.length + 1) c8) W8 V' wr)
  case atStart => exact ⟨0, false, p + 1, [], _, by omega, rfl, by rw [kidsD], by have := HPLT.out; have := HLN.out; omega, by rw [List.append_nil]; exact HP8.out, by simp [toldK], Fr10.refl _ _ _ _ _⟩
  case round =>
    obtain ⟨j, b', p', M, V', hjg, rfl, hkd, hpn, hst, hM, hfr⟩ := hrel
    have HS := Lib.hid hst
    have HFR := Lib.hid hfr
    have HMM2 := Lib.hid hM
    have hrest := toldK_rest (fun l r h => toldD_rest d l r h) j false _ b' _ hkd
    have hcnt := toldK_cnt (fun l r h => toldD_cnt d l r h) j false _ b' _ hkd
    have hMl : M.length = (toldK (toldD d) j (v.drop (p + 1))).1.length := by rw [← hM, List.length_map]
    by_cases hlt : j < m
    · have hlt2 : (j : Int) < (m : Int) := by omega
      obtain ⟨hp2, r2, h1, h2, h3⟩ := kids_more HK.out hkd hlt
      have hcall := HIH.out p' _ V' r2 wr hp2 h1 (by
        have := HCN.out
        rw [List.length_append, List.length_append, List.length_singleton, hMl]
        omega) hst
      have HC := Lib.hid hcall
      have kt := cell_of_one hst.ht
      unfold tellF at kt
      obtain ⟨p3, hp3⟩ : ∃ p3, v.length - r2.length = p3 := ⟨_, rfl⟩
      rw [hp3] at HC h2
      have H2 := Lib.hid h2
      have HP3 : Hid (p3 ≤ n) := Lib.hid (by have := HLN.out; omega)
      have HSN : Hid ((toldK (toldD d) (j + 1) (v.drop (p + 1))).1 = (toldK (toldD d) j (v.drop (p + 1))).1 ++ (toldD d (v.drop p')).1) := Lib.hid (by rw [toldK_snoc, hrest])
      clear hcall hkd h1 h2 h3 hp3 hst hfr hM hrest hcnt hMl
      clear kb5
      go_wp2_with (first
        | (go_at_call 23; (with_reducible refine (HC.out).mono ?_); rintro e2 w2 ⟨rfl, M2, V2, hM2, hst2, hfr2⟩; have HM2' := Lib.hid hM2; have HS2 := Lib.hid hst2; have HF2 := Lib.hid hfr2; clear hM2 hst2 hfr2)
        | fail)
      go_roundg (gk - 1)
      case measure => omega
      case rel => exact ⟨j + 1, _, p3, M ++ M2, V2, by omega, by go_num, H2.out, HP3.out, by rw [← List.append_assoc]; exact HS2.out, by rw [List.map_append, HMM2.out, HM2'.out, HSN.out], HFR.out.trans HF2.out⟩
    · obtain rfl : j = m := by omega
      have hjj : ¬ ((j : Int) < (j : Int)) := by omega
      obtain ⟨L2, hL2⟩ : ∃ L2, L ++ [⟨y, A5, c5, ⟨#[]⟩, ⟨1, y.data.toList, pairsN nd.attrs, []⟩⟩] ++ M = L2 := ⟨_, rfl⟩
      rw [hL2] at HS hst
      obtain ⟨Va2, Vc2, rfl⟩ := own_form2 hst.own
      have HPQ : Hid (p' = q9) := Lib.hid (by
        have h9 := HK.out
        rw [hkd] at h9
        injection h9 with h9
        injection h9 with _ h9
        have h8 := congrArg List.length h9
        rw [List.length_drop, HLN.out] at h8
        have := HRL.out
        have := HQ9.out
        have := HLN.out
        omega)
      have HL2b : Hid (L2.length ≤ 100000) := Lib.hid (by
        rw [← hL2, List.length_append, List.length_append, List.length_singleton, hMl]
        have := HCN.out
        omega)
      have HBW : Hid (wr.heap[w.heap.size]? = some (.cells #[.int .u8 1, .string x, .string y, .slice A1 n1 c1, .string t, .int .i64 (j : Int)] 53 (0, 0))) := Lib.hid ((hfr.blk w.heap.size HBS.out (by have := HST.out.ord; have := HST.out.sz; omega) (by have := HST.out.ord; have := HST.out.sz; omega) (fun e => HG8.out (by simpa [Value.ownBlock] using e.symm))).trans HBX8.out)
      have HVN : Hid (∀ e, (Value.slice Va2 L2.length Vc2).ownBlock = some e → e ≠ w.heap.size) := Lib.hid fun e he h => HG8.out (by
        have := hfr.lie w.heap.size HBS.out (by rw [← h]; exact he)
        simpa [Value.ownBlock] using this)
      have HL2E := Lib.hid hL2
      clear hkd hst hfr hM hrest hcnt hMl hL2
      clear kb5
      go_wp2_with fail
      refine wp_region_noPanic ?_
      refine wp_region_Z (fun W => W.cell? ⟨gl, 0, none⟩ = some (.slice Va2 L2.length Vc2) ∧ W.cell? ⟨w.heap.size, 2, none⟩ = some (.string y)) 7 (by kernel_rfl) ?_
      have hS : wr.drew.cell? ⟨gl, 0, none⟩ = some (.slice Va2 L2.length Vc2) ∧ wr.drew.cell? ⟨w.heap.size, 2, none⟩ = some (.string y) := ⟨cellV wr _ 0 _ _ _ HS.out.hl, cellV wr _ 2 _ _ _ HBW.out⟩
      refine takeZ (i := 0) (v := .slice Va2 L2.length Vc2) rfl (by kernel_rfl) (by kernel_rfl) (by kernel_rfl) (by kernel_rfl) (fun _ _ _ h => h) (Or.inl ⟨by rfl, ?_⟩) hS ?_
      · intro w' hSw; (try dsimp only at hSw); go_simp
      try simp only [Act.put, List.setIfInBounds_toArray, List.set_cons_zero, List.set_cons_succ]
      refine takeZ (i := 1) (v := .pointer (some ⟨w.heap.size, 2, none⟩)) rfl (by kernel_rfl) (by kernel_rfl) (by kernel_rfl) (by kernel_rfl) (fun _ _ _ h => h) (Or.inl ⟨by rfl, ?_⟩) hS ?_
      · intro w' hSw; (try dsimp only at hSw); go_simp
      try simp only [Act.put, List.setIfInBounds_toArray, List.set_cons_zero, List.set_cons_succ]
      refine takeZ (i := 2) (v := .string y) rfl (by kernel_rfl) (by kernel_rfl) (by kernel_rfl) (by kernel_rfl) (fun _ _ _ h => h) (Or.inl ⟨by rfl, ?_⟩) hS ?_
      · intro w' hSw; (try dsimp only at hSw); go_simp
      try simp only [Act.put, List.setIfInBounds_toArray, List.set_cons_zero, List.set_cons_succ]
      refine stepZ (i := 3) (by kernel_rfl) rfl (fun K hK => ?_)
      go_simp
      go_at_call 24; (with_reducible refine (clone9 y _ HYS.out).mono ?_); rintro e15 w15 ⟨rfl, hb15⟩; have HB15 : Hid (Below wr.drew.heap.size wr.drew w15) := Lib.hid hb15; clear hb15
      have HS15 : Hid (TlSt B base gv gn gl gt (some ⟨b0, off, none⟩) c v p' L2 (.slice Va2 L2.length Vc2) w15) := Lib.hid (HS.out.below (stp (Below.refl _ _).drew HB15.out))
      have HX15 : Hid (w15.heap[w.heap.size]? = some (.cells #[.int .u8 1, .string x, .string y, .slice A1 n1 c1, .string t, .int .i64 (j : Int)] 53 (0, 0))) := Lib.hid (kept_heap HBW.out (stp (Below.refl _ _).drew HB15.out))
      have hS15 : w15.cell? ⟨gl, 0, none⟩ = some (.slice Va2 L2.length Vc2) ∧ w15.cell? ⟨w.heap.size, 2, none⟩ = some (.string y) := ⟨cellV w15 _ 0 _ _ _ HS15.out.hl, cellV w15 _ 2 _ _ _ HX15.out⟩
      go_wp2_with fail
      refine hK.out _ _ (fun _ => hS15) (fun _ => ?_)
      clear hK K hS
      try simp only [Act.put, List.setIfInBounds_toArray, List.set_cons_zero, List.set_cons_succ]
      refine takeZ (i := 4) (v := .agg #[.int .u8 2, .string y, .slice none 0 0, .string ⟨#[]⟩]) rfl (by kernel_rfl) (by kernel_rfl) (by kernel_rfl) (by kernel_rfl) (fun _ _ _ h => h) (Or.inl ⟨by rfl, ?_⟩) hS15 ?_
      · intro w' hSw; (try dsimp only at hSw); go_simp
      try simp only [Act.put, List.setIfInBounds_toArray, List.set_cons_zero, List.set_cons_succ]
      refine stepZ (i := 5) (by kernel_rfl) rfl (fun K hK => ?_)
      go_simp
      have HS16 := Lib.hid (HS15.out.below (stpA (Below.refl w15.heap.size w15) (.cells #[.int .u8 2, .string y, .slice none 0 0, .string ⟨#[]⟩] 60)))
      have HX16 := Lib.hid (kept_heap HX15.out (stpA (Below.refl w15.heap.size w15) (.cells #[.int .u8 2, .string y, .slice none 0 0, .string ⟨#[]⟩] 60)))
      have hS16 : (w15.alloc (.cells #[.int .u8 2, .string y, .slice none 0 0, .string ⟨#[]⟩] 60)).cell? ⟨gl, 0, none⟩ = some (.slice Va2 L2.length Vc2) ∧ (w15.alloc (.cells #[.int .u8 2, .string y, .slice none 0 0, .string ⟨#[]⟩] 60)).cell? ⟨w.heap.size, 2, none⟩ = some (.string y) := ⟨cellV (w15.alloc (.cells #[.int .u8 2, .string y, .slice none 0 0, .string ⟨#[]⟩] 60)) _ 0 _ _ _ HS16.out.hl, cellV (w15.alloc (.cells #[.int .u8 2, .string y, .slice none 0 0, .string ⟨#[]⟩] 60)) _ 2 _ _ _ HX16.out⟩
      refine hK.out _ _ (fun _ => hS16) (fun _ => ?_)
      clear hK K hS15
      try simp only [Act.put, List.setIfInBounds_toArray, List.set_cons_zero, List.set_cons_succ]
      refine stepZ (i := 6) (by kernel_rfl) rfl (fun K hK => ?_)
      have HSZ18 : Hid (base ≤ w15.heap.size) := Lib.hid HS15.out.sz
      refine step_append_lies _ rfl (.tmp 23) (.tmp 28) 25 rfl base 60 i0 (.agg #[.int .u8 0, .string ⟨#[]⟩, .slice none 0 0, .string ⟨#[]⟩]) 4 64 Try.underlying25 HI.out HZ0.out HZ1.out HZ2.out rfl (by decide) _ L2.length _ rfl (own_belowK HS15.out.own (stpA (Below.refl _ _) _) (Nat.le_refl _)) ⟨w15.heap.size, 0, none⟩ 1 1 [.int .u8 2, .string y, .slice none 0 0, .string ⟨#[]⟩] rfl rfl (new_at w15 [.int .u8 2, .string y, .slice none 0 0, .string ⟨#[]⟩] 60 _ rfl) (tb_one _ _ _ _ _ _) (by decide) (by have := HL2b.out; unfold maxLen; omega) (by have := HL2b.out; omega) (by have := HSZ18.out; rw [World.size_alloc]; omega) (w15.heap.size + 1) (by rw [World.size_alloc]) ?_
      intro g18 c18 w18 hown18 hgr18 hor18 hlt18
      have hpush := HS15.out.push (b := ⟨y, none, 0, ⟨#[]⟩, ⟨2, y.data.toList, [], (⟨#[]⟩ : ByteArray).data.toList⟩⟩) (tk_plain _ 2 (by decide) y ⟨#[]⟩) (off_plain _ _ 2 y ⟨#[]⟩) hown18 hgr18 hor18
      have HP18 := Lib.hid hpush.1
      have HF18 := Lib.hid hpush.2
      have st18 : ∀ (q : Nat) (o : Obj), w15.heap[q]? = some o → some q ≠ (Value.slice Va2 L2.length Vc2).ownBlock → w18.heap[q]? = some o := fun q o ho hne => by
        have h1 := kept_heap ho (stpA (Below.refl w15.heap.size w15) (.cells #[.int .u8 2, .string y, .slice none 0 0, .string ⟨#[]⟩] 60))
        exact (hgr18.block _ (Array.getElem?_eq_some_iff.1 h1).1 hne).trans h1
      have hgl := st18 gl _ HS15.out.hl (fun e => by have := (HS15.out.own.lt _ e.symm).1; have := HS15.out.ord; omega)
      have hbx := st18 w.heap.size _ HX15.out (fun e => HVN.out _ e.symm rfl)
      have k18 : w18.cell? ⟨gl, 0, none⟩ = some (.slice Va2 L2.length Vc2) ∧ w18.cell? ⟨w.heap.size, 2, none⟩ = some (.string y) := ⟨cellV w18 _ 0 _ _ _ hgl, cellV w18 _ 2 _ _ _ hbx⟩
      have f18 : w18.frozen? ⟨gl, 0, none⟩ = false := freeV w18 _ 0 _ _ hgl
      have k181 := k18.1
      clear hown18 hgr18 hor18 hgl st18 hpush
      refine hK.out _ _ (fun _ => k18) (fun _ => ?_)
      clear hK K
      try simp only [Act.put, List.setIfInBounds_toArray, List.set_cons_zero, List.set_cons_succ]
      refine stepZ (i := 7) (by kernel_rfl) rfl (fun K hK => ?_)
      go_simp
      refine hK.out _ _ (fun h => absurd rfl h) (fun _ => ?_)
      clear hK K
      try simp only [Act.put, List.setIfInBounds_toArray, List.set_cons_zero, List.set_cons_succ]
      refine doneZ (by kernel_rfl) ?_ _
      refine NoPanic.normal ?_
      go_wp2_with fail
      (try simp only [Exit.inBlock, Exit.then, Exit.noGoto])
      go_end0
      refine ⟨rfl, [⟨y, A5, c5, ⟨#[]⟩, ⟨1, y.data.toList, pairsN nd.attrs, []⟩⟩] ++ M ++ [⟨y, none, 0, ⟨#[]⟩, ⟨2, y.data.toList, [], (⟨#[]⟩ : ByteArray).data.toList⟩⟩], _, ?_, ?_, (HFR0.out.trans (HFR.out.trans (Fr10.of_below (stp (Below.refl _ _).drew HB15.out) (by have := HS.out.ord; have := HS.out.sz; omega)))).trans HF18.out⟩
      · rw [List.map_append, List.map_append, HMM2.out]
        show (_ :: _) ++ [_] = _ :: (_ ++ [_])
        rw [HNM.out]
        rfl
      · rw [← HPQ.out, ← List.append_assoc, ← List.append_assoc, HL2E.out]
        exact HP18.out
/-- The closure of Tokens. -/
theorem tell_all (B base gv gn gl gt : Nat) (A : Option Addr) (c : Nat) (v : List Nd) (hl : v.length ≤ 512) (hsm : ∀ n ∈ v, SmallN n) : ∀ d, Tells10 B base gv gn gl gt A c v d := by
  intro d
  induction d with
  | zero =>
    intro p L V r w hp hr hcn h
    have hk : (v[p]'hp).kind = 2 := by
      have h' := hr
      rw [List.drop_eq_getElem_cons hp, restD] at h'
      by_cases hn : ndOk (v[p]'hp) = true ∧ (v[p]'hp).kind = 2
      · exact hn.2
      · rw [if_neg hn] at h'; cases h'
    exact tell_text B base gv gn gl gt A c v hl hsm 0 p L V r w hp hr (by omega) h hk
  | succ d ih =>
    intro p L V r w hp hr hcn h
    have hok : ndOk (v[p]'hp) = true ∧ 0 ≤ (v[p]'hp).many := by
      have h' := hr
      rw [List.drop_eq_getElem_cons hp] at h'
      exact ⟨(restD_ok h').1, (restD_ok h').2.1⟩
    by_cases hk : (v[p]'hp).kind = 1
    · by_cases hm : (v[p]'hp).many = 0
      · exact tell_bare B base gv gn gl gt A c v hl hsm (d + 1) p L V r w hp hr (by omega) h hk hm
      · exact tell_open B base gv gn gl gt A c v hl hsm d p L V r w hp hr (by omega) h hcn hk (by omega) ih
    · exact tell_text B base gv gn gl gt A c v hl hsm (d + 1) p L V r w hp hr (by omega) h ((ndOk_kind hok.1).resolve_left hk)
end Hx
end Go.Proofs.Ytkmaogafknehgaa
namespace Go.Proofs.Ytkmaogafknehgaa
open Go.RowKit
namespace Hx
open Lx Tr Tx Nmb Es
set_option linter.unusedVariables false
/-- What Tokens answers. -/
def TokTo (v : List Nd) (w : World) (e : Ending) (w' : World) : Prop := ∃ (ts : List Tk) (q : Int) (A : Option Addr) (c : Nat), tokensR v = (ts, q) ∧ e = .returned (.tuple #[.slice A ts.length c, .int .i64 q]) ∧ RdC TkC w' w'.heap.size A ts ∧ ts.length ≤ c ∧ c ≤ maxLen ∧ (A = none → c = 0) ∧ Below w.heap.size w w'
theorem TokTo.bad {v : List Nd} {w w' : World} {q : Int} (h : tokensR v = ([], q)) (hb : Below w.heap.size w w') : TokTo v w (.returned (.tuple #[.slice none 0 0, .int .i64 q])) w' := ⟨[], q, none, 0, h, rfl, RdC.nil _ _ _, Nat.le_refl _, Nat.zero_le _, fun _ => rfl, hb⟩
theorem tokensR_bad {v : List Nd} (h : mayV v = false ∨ rawV v = false) : tokensR v = ([], 8) := by
  unfold tokensR
  rw [if_neg]
  rintro ⟨h1, h2⟩
  rcases h with h | h
  · rw [h] at h1; cases h1
  · rw [h] at h2; cases h2
theorem tl_made {w w2 : World} {A : Option Addr} {c : Nat} {v : List Nd} (hr : RdB NdS w A v) (hb : Below w.heap.size w w2) (hv : w2.heap[w.heap.size]? = some (.cells #[.slice A v.length c] 22 (0, 0))) :
    TlSt w.heap.size (w2.heap.size + 3) w.heap.size (w2.heap.size + 1) w2.heap.size (w2.heap.size + 1 + 1) A c v 0 [] (.slice none 0 0) (((w2.alloc (.cells #[.slice none 0 0] 25)).alloc (.cells #[.int .i64 0] 3)).alloc (.cells #[tellF w.heap.size (w2.heap.size + 1) w2.heap.size (w2.heap.size + 1 + 1)] 1)) := by
  have h0 := heap_alloc_new w2 (.cells #[.slice none 0 0] 25)
  have h1 := heap_alloc_new (w2.alloc (.cells #[.slice none 0 0] 25)) (.cells #[.int .i64 0] 3)
  rw [World.size_alloc] at h1
  have h2 := heap_alloc_new ((w2.alloc (.cells #[.slice none 0 0] 25)).alloc (.cells #[.int .i64 0] 3)) (.cells #[tellF w.heap.size (w2.heap.size + 1) w2.heap.size (w2.heap.size + 1 + 1)] 1)
  rw [World.size_alloc, World.size_alloc] at h2
  have hb3 : Below w2.heap.size w2 (((w2.alloc (.cells #[.slice none 0 0] 25)).alloc (.cells #[.int .i64 0] 3)).alloc (.cells #[tellF w.heap.size (w2.heap.size + 1) w2.heap.size (w2.heap.size + 1 + 1)] 1)) := stpA (stpA (stpA (Below.refl _ _) _) _) _
  have hlt := lt_heap hv
  refine ⟨kept_heap hv hb3, kept_heap h1 (stpA (Below.refl _ _) _), kept_heap (kept_heap h0 (stpA (Below.refl _ _) _)) (stpA (Below.refl _ _) _), h2, ?_, World.ownsRow_nil _ _ _ _, (fun b hb => by cases hb), by omega, by simp⟩
  exact hr.keep (fun _ hb => hb) fun b o hlt2 => (stp hb hb3).cell (p := ⟨b, o, none⟩) hlt2
set_option maxHeartbeats 16000000 in
set_option maxRecDepth 100000 in
theorem tokens10 (A : Option Addr) (n c : Nat) (v : List Nd) (w : World) (hr : RdB NdS w A v) (hn : v.length = n) (hmax : n ≤ 9223372036854775807) (hsm : n ≤ 512 → ∀ m ∈ v, SmallN m) :
    Calls Try.prog 6 #[.slice A n c] w (TokTo v w) := by
  have hmf : ∀ (fn : Fn) (first cap : Array Value) (w : World), (Instr.makeFunc fn first cap).run Try.prog w = .ok (.func fn first cap) w := fun _ _ _ _ => rfl
  have HB0 : Hid (Below w.heap.size w (w.alloc (.cells #[.slice A n c] 22))) := Lib.hid (stpA (Below.refl _ _) _)
  have HBX : Hid (∀ w1, Below (w.alloc (.cells #[.slice A n c] 22)).heap.size (w.alloc (.cells #[.slice A n c] 22)) w1 → w1.heap[w.heap.size]? = some (.cells #[.slice A n c] 22 (0, 0))) := Lib.hid fun w1 hb => kept_heap (heap_alloc_new w _) hb
  cases hm : mayV v with
  | false =>
    have HC : Hid (∀ W, Below w.heap.size w W → Calls Try.prog 18 #[.slice A n c] W fun e w' => e = .returned (.int .i64 8) ∧ Below W.heap.size W w') := Lib.hid fun W hW => checkv A n c v W (hr.on hW) hn hmax hsm 8 (checkV_no hm)
    have HT := Lib.hid (tokensR_bad (v := v) (.inl hm))
    clear hr hn hmax hsm hm
    go_enter Try.func6, Try.ntmps6
    go_wp2_with (first
      | (go_at_call 18; (with_reducible refine (HC.out _ HB0.out).mono ?_); rintro e1 w1 ⟨rfl, hb1⟩; have HB1 := Lib.hid hb1; clear hb1)
      | fail)
    go_ret2
    exact TokTo.bad HT.out (stp HB0.out HB1.out)
  | true =>
    have h5 := (mayV_iff.1 hm).1
    have hrest := (mayV_iff.1 hm).2.2
    have hs := hsm (by omega)
    have HC : Hid (∀ W, Below w.heap.size w W → Calls Try.prog 18 #[.slice A n c] W fun e w' => e = .returned (.int .i64 0) ∧ Below W.heap.size W w') := Lib.hid fun W hW => checkv A n c v W (hr.on hW) hn hmax hsm 0 (checkV_yes hm)
    have hraw : ∀ q, rawV v = q → ∀ W, Below w.heap.size w W → Calls Try.prog 22 #[.slice A n c] W fun e w' => e = .returned (.bool q) ∧ Below W.heap.size W w' := fun q hq W hW => raw10 A n c v W (hr.on hW) hn (by omega) hs q hq
    cases hq : rawV v with
    | false =>
      have HR := Lib.hid (hraw false hq)
      have HT := Lib.hid (tokensR_bad (v := v) (.inr hq))
      clear hr hn hmax hsm hm h5 hrest hs hraw hq
      go_enter Try.func6, Try.ntmps6
      go_wp2_with (first
        | (go_at_call 18; (with_reducible refine (HC.out _ HB0.out).mono ?_); rintro e1 w1 ⟨rfl, hb1⟩; have HB1 := Lib.hid hb1; have kv1 := cell_of_one (HBX.out w1 hb1); clear hb1)
        | (go_at_call 22; (with_reducible refine (HR.out _ (stp HB0.out HB1.out)).mono ?_); rintro e2 w2 ⟨rfl, hb2⟩; have HB2 := Lib.hid hb2; clear hb2)
        | fail)
      go_ret2
      exact TokTo.bad HT.out (stp (stp HB0.out HB1.out) HB2.out)
    | true =>
      have HR := Lib.hid (hraw true hq)
      obtain ⟨ts, hts⟩ : ∃ ts, (toldD 12 v).1 = ts := ⟨_, rfl⟩
      have hlen := toldD_cnt 12 v [] hrest
      have hTR : tokensR v = if 512 < ts.length then ([], 4) else (ts, 0) := by
        unfold tokensR
        rw [if_pos ⟨hm, hq⟩, hts]
      have hcv : cnt v ≤ 1024 := by
        unfold cnt
        have := List.countP_le_length (p := fun n : Nd => decide (0 < n.many)) (l := v)
        omega
      have hp0 : 0 < v.length := by
        obtain ⟨_, ⟨m, l, rfl, _⟩, _⟩ := mayV_iff.1 hm
        simp
      have htell : ∀ w2, Below w.heap.size w w2 → w2.heap[w.heap.size]? = some (.cells #[.slice A n c] 22 (0, 0)) → Calls Try.prog 23 #[.pointer (some ⟨w.heap.size, 0, none⟩), .pointer (some ⟨w2.heap.size + 1, 0, none⟩), .pointer (some ⟨w2.heap.size, 0, none⟩), .pointer (some ⟨w2.heap.size + 1 + 1, 0, none⟩)] (((w2.alloc (.cells #[.slice none 0 0] 25)).alloc (.cells #[.int .i64 0] 3)).alloc (.cells #[.func (.func 23) #[] #[.pointer (some ⟨w.heap.size, 0, none⟩), .pointer (some ⟨w2.heap.size + 1, 0, none⟩), .pointer (some ⟨w2.heap.size, 0, none⟩), .pointer (some ⟨w2.heap.size + 1 + 1, 0, none⟩)]] 1))
          (fun e w' => e = .returned (.tuple #[]) ∧ ∃ (Ao : Option Addr) (co : Nat), w'.heap[w2.heap.size]? = some (.cells #[.slice Ao ts.length co] 25 (0, 0)) ∧ RdC TkC w' w'.heap.size Ao ts ∧ ts.length ≤ co ∧ co ≤ maxLen ∧ (Ao = none → co = 0) ∧ Below w.heap.size w w') := fun w2 hb hv => by
        have hst := tl_made (c := c) hr hb (by rw [hn]; exact hv)
        refine (tell_all _ _ _ _ _ _ A c v h5 hs 12 0 [] (.slice none 0 0) [] _ hp0 hrest (by simp; omega) hst).mono ?_
        rintro e w' ⟨rfl, M, V', hM, hs2, hf⟩
        rw [List.nil_append] at hs2
        rw [List.drop_zero, hts] at hM
        obtain ⟨Ao, co, rfl⟩ := own_form2 hs2.own
        obtain ⟨r1, r2, r3, r4, r5⟩ := RdC.of_own (C := TkC) tbCells TB.t (fun _ => rfl) (by decide) M (fun b hm => (hs2.tk b hm).1) hs2.own
        have hMl : M.length = ts.length := by rw [← hM, List.length_map]
        have hgl := hs2.hl
        rw [hM] at r1
        rw [hMl] at r3 hgl
        exact ⟨rfl, Ao, co, hgl, r1, r3, r4, r5, (hb.trans ((stpA (stpA (stpA (Below.refl w2.heap.size w2) _) _) _).mono hb.size)).trans hf.bel⟩
      have HTL := Lib.hid htell
      have hb : ∀ k : Nat, (k : Int) = k := fun _ => rfl
      have btl : (ts.length : Int) ≤ 3000 := by
        have : cnt ([] : List Nd) = 0 := rfl
        rw [hts] at hlen
        omega
      by_cases hlong : 512 < ts.length
      · rw [if_pos hlong] at hTR
        have HT := Lib.hid hTR
        have f9 : decide ((512 : Int) < (ts.length : Int)) = true := decide_eq_true (by omega)
        clear hr hn hmax hsm hm h5 hrest hs hraw hq hlen hTR hcv hp0 htell hb hts
        go_enter Try.func6, Try.ntmps6
        go_wp2_with (first
          | (go_at_call 18; (with_reducible refine (HC.out _ HB0.out).mono ?_); rintro e1 w1 ⟨rfl, hb1⟩; have HB1 := Lib.hid hb1; have kv1 := cell_of_one (HBX.out w1 hb1); clear hb1)
          | (go_at_call 22; (with_reducible refine (HR.out _ (stp HB0.out HB1.out)).mono ?_); rintro e2 w2 ⟨rfl, hb2⟩; have HB2 := Lib.hid hb2; clear hb2)
          | (go_at_call 23; (with_reducible refine (HTL.out w2 (stp (stp HB0.out HB1.out) HB2.out) (HBX.out w2 (stp HB1.out HB2.out))).mono ?_); rintro e3 w3 ⟨rfl, Ao, co, hgl, hrd, hle, hcm, hnl, hbw⟩; have kl := cell_of_one hgl; have HBW := Lib.hid hbw; clear hgl hrd hbw)
          | fail)
        go_ret2
        exact TokTo.bad HT.out HBW.out
      · rw [if_neg hlong] at hTR
        have HT := Lib.hid hTR
        have f9 : decide ((512 : Int) < (ts.length : Int)) = false := decide_eq_false (by omega)
        clear hr hn hmax hsm hm h5 hrest hs hraw hq hlen hTR hcv hp0 htell hb hts
        go_enter Try.func6, Try.ntmps6
        go_wp2_with (first
          | (go_at_call 18; (with_reducible refine (HC.out _ HB0.out).mono ?_); rintro e1 w1 ⟨rfl, hb1⟩; have HB1 := Lib.hid hb1; have kv1 := cell_of_one (HBX.out w1 hb1); clear hb1)
          | (go_at_call 22; (with_reducible refine (HR.out _ (stp HB0.out HB1.out)).mono ?_); rintro e2 w2 ⟨rfl, hb2⟩; have HB2 := Lib.hid hb2; clear hb2)
          | (go_at_call 23; (with_reducible refine (HTL.out w2 (stp (stp HB0.out HB1.out) HB2.out) (HBX.out w2 (stp HB1.out HB2.out))).mono ?_); rintro e3 w3 ⟨rfl, Ao, co, hgl, hrd, hle, hcm, hnl, hbw⟩; have kl := cell_of_one hgl; have HBW := Lib.hid hbw; have HRD := Lib.hid hrd; have HRE := Lib.hid (And.intro hle (And.intro hcm hnl)); clear hgl hrd hbw hle hcm hnl)
          | fail)
        go_ret2
        exact ⟨ts, 0, Ao, co, HT.out, rfl, HRD.out, HRE.out.1, HRE.out.2.1, HRE.out.2.2, HBW.out⟩
end Hx
end Go.Proofs.Ytkmaogafknehgaa
namespace Go.Proofs.Ytkmaogafknehgaa
open Go.RowKit
namespace Hx
open Lx Tr Tx Nmb Es
set_option linter.unusedVariables false
set_option maxHeartbeats 1000000 in
set_option maxRecDepth 100000 in
theorem rsints10 (A B : Option Addr) (n c d : Nat) (l : List Int) (w : World) (ha : RdZ w w.heap.size A l) (hb : RdZ w w.heap.size B l) (hn : l.length = n) (hm : n ≤ 1000000) :
    Calls Try.prog 16 #[.slice A n c, .slice B n d] w fun e w' => e = .returned (.bool true) ∧ Below w.heap.size w w' := by
  have HC := Lib.hid (rsame5_yes A B n c d l w ha hb hn hm)
  clear ha hb hn hm
  go_enter Try.func16, Try.ntmps16
  go_wp2_with (first
    | (go_at_call 39; (with_reducible refine (HC.out).mono ?_); rintro e1 w1 ⟨rfl, hb1⟩)
    | fail)
  go_ret
  exact ⟨rfl, hb1⟩
/-- The first places are the places of the first nodes. -/
theorem places_take {g : List Nd → Option (List Nd)} : ∀ (m k p : Nat) (l : List Nd), k ≤ m → (places g m p l).take k = (places g k p l).take k := by
  intro m
  induction m with
  | zero =>
    intro k p l hk
    obtain rfl : k = 0 := by omega
    rfl
  | succ m ih =>
    intro k p l hk
    cases k with
    | zero => rfl
    | succ k =>
      rw [places, places, List.take_succ_cons, List.take_succ_cons]
      cases g l with
      | none => rfl
      | some r => exact congrArg _ (ih k _ r (by omega))
/-- The place right within a node that comes next. -/
theorem under_at {v : List Nd} {p j m : Nat} {b b0 : Bool} {r : List Nd} {p' : Nat} (hp : p < v.length) (hm : (v[p]'hp).many.toNat = m) (hall : kidsD (restD 12) m false (v.drop (p + 1)) = some (b0, r)) (hj : j < m) (h : kidsD (restD 12) j false (v.drop (p + 1)) = some (b, v.drop p')) (hp' : p' ≤ v.length) :
    (under v p).length = m ∧ (under v p)[j]? = some p' := by
  have hU : under v p = places (restD 12) m (p + 1) (v.drop (p + 1)) := by unfold under; rw [List.getElem?_eq_getElem hp, ← hm]
  obtain ⟨h1, _⟩ := places_lt (restD_loc 12) m (p + 1) _ _ _ _ hall
  have h2 := places_next (restD_loc 12) j (p + 1) false b _ _ h
  obtain ⟨h3, _⟩ := places_lt (restD_loc 12) j (p + 1) _ _ _ _ h
  have hl := kidsD_len h
  rw [List.length_drop, List.length_drop] at hl
  rw [List.length_drop, List.length_drop, show p + 1 + (v.length - (p + 1) - (v.length - p')) = p' by omega] at h2
  refine ⟨by rw [hU, h1], ?_⟩
  have h4 := places_take (g := restD 12) m (j + 1) (p + 1) (v.drop (p + 1)) (by omega)
  have h5 : ((places (restD 12) m (p + 1) (v.drop (p + 1))).take (j + 1))[j]? = (places (restD 12) m (p + 1) (v.drop (p + 1)))[j]? := by
    rw [List.getElem?_take]
    simp
  rw [hU, ← h5, h4, h2, List.getElem?_take, if_pos (by omega), List.getElem?_append_right (by omega), h3]
  simp
end Hx
end Go.Proofs.Ytkmaogafknehgaa
namespace Go.Proofs.Ytkmaogafknehgaa
open Go.RowKit
namespace Hx
open Lx Tr Tx Nmb Es
set_option linter.unusedVariables false
/-- Tokens in an own row. -/
structure ToldSt (w : World) (L : List TB) (V : Value) (wr : World) : Prop where
  own : wr.ownsRow w.heap.size 60 4 V L.length (L.flatMap tbCells)
  tk : ∀ b ∈ L, TkC.R wr wr.heap.size (tbCells b) b.t ∧ OffT w.heap.size V b
  bel : Below w.heap.size w wr
theorem ToldSt.below {w : World} {L : List TB} {V : Value} {wr w' : World} (h : ToldSt w L V wr) (k : Below wr.heap.size wr w') : ToldSt w L V w' :=
  ⟨own_belowK h.own k (Nat.le_refl _), fun b hb => ⟨tk_far (h.tk b hb).1 k.size fun _ ad _ hlt => k.block _ hlt, (h.tk b hb).2⟩, stp h.bel k⟩
/-- A row made of one token. -/
theorem ToldSt.one {w W : World} {b : TB} (hb : Below w.heap.size w W) (hR : TkC.R W W.heap.size (tbCells b) b.t) (hO : 0 < b.t.attrs.length → ∀ ad, b.A = some ad → w.heap.size ≤ ad.block) (W' : World) (hW : W' = W.alloc (.cells (tbCells b).toArray 60)) :
    ToldSt w [b] (.slice (some ⟨W.heap.size, 0, none⟩) 1 1) W' := by
  subst hW
  have hk := stpA (Below.refl W.heap.size W) (.cells (tbCells b).toArray 60)
  refine ⟨⟨by simp [tbCells], .inr ⟨W.heap.size, 1, (tbCells b).toArray, rfl, hb.size, heap_alloc_new _ _, Nat.le_refl _, by decide, by simp [tbCells], by simp [tbCells]⟩⟩, fun b' hb' => ?_, stp hb hk⟩
  obtain rfl := List.mem_singleton.1 hb'
  refine ⟨tk_far hR hk.size fun _ ad _ hlt => hk.block _ hlt, fun hp ad e => ⟨fun e2 => ?_, hO hp ad e⟩⟩
  have e3 : ad.block = W.heap.size := by simpa [Value.ownBlock] using e2
  have := tk_lt hR hp ad e
  omega
/-- Tokens more. -/
theorem ToldSt.more {w : World} {L M : List TB} {V V5 : Value} {wr w2 w5 : World} (h : ToldSt w L V wr) (hb : Below wr.heap.size wr w2) (hM : ∀ b ∈ M, TkC.R w2 w2.heap.size (tbCells b) b.t ∧ (0 < b.t.attrs.length → ∀ ad, b.A = some ad → wr.heap.size ≤ ad.block))
    (hown : w5.ownsRow w.heap.size 60 4 V5 (L.length + M.length) (L.flatMap tbCells ++ M.flatMap tbCells)) (hgr : w2.grownBy w5 V.ownBlock) (hlie : V5.ownBlock = V.ownBlock ∨ V5.ownBlock = some w2.heap.size) : ToldSt w (L ++ M) V5 w5 := by
  have h2 := h.below hb
  have hsz := h.bel.size
  have hV : ∀ q, V.ownBlock = some q → w.heap.size ≤ q ∧ q < wr.heap.size := fun q hq => h.own.lt q hq
  have new : ∀ b, TkC.R w2 w2.heap.size (tbCells b) b.t → OffT w.heap.size V b → TkC.R w5 w5.heap.size (tbCells b) b.t ∧ OffT w.heap.size V5 b := fun b h1 h3 =>
    ⟨tk_far h1 hgr.size fun hp ad e hlt => hgr.block _ hlt (h3 hp ad e).1, fun hp ad e => ⟨fun e2 => by
      rcases hlie with e4 | e4
      · exact (h3 hp ad e).1 (by rw [← e4]; exact e2)
      · rw [e4] at e2
        injection e2 with e2
        have := tk_lt h1 hp ad e
        omega, (h3 hp ad e).2⟩⟩
  refine ⟨by rw [List.length_append, List.flatMap_append]; exact hown, fun b hm => ?_, h2.bel.grown hgr (by have := h2.bel.size; omega) (fun q hq => (hV q hq).1)⟩
  rcases List.mem_append.1 hm with hm | hm
  · exact new b (h2.tk b hm).1 (h2.tk b hm).2
  · exact new b (hM b hm).1 fun hp ad e => ⟨fun e2 => by have := (hV _ e2.symm).2; have := (hM b hm).2 hp ad e; omega, by have := (hM b hm).2 hp ad e; omega⟩
/-- What Told answers. -/
def RToldTo (T : List Tk) (w : World) (e : Ending) (w' : World) : Prop := ∃ (L : List TB) (A : Option Addr) (c : Nat), e = .returned (.slice A L.length c) ∧ L.map TB.t = T ∧ ToldSt w L (.slice A L.length c) w'
/-- A tag's token, of what pairs answered. -/
theorem pairs_tk {w0 w5 : World} {k : Nat} (hk : k < 256) {y : ByteArray} {A5 : Option Addr} {c5 : Nat} {l : List At} (h : w5.ownsRow w0.heap.size 84 2 (.slice A5 l.length c5) l.length ((l.map pbA).flatMap prCells)) :
    TkC.R w5 w5.heap.size (tbCells ⟨y, A5, c5, ⟨#[]⟩, ⟨k, y.data.toList, pairsN l, []⟩⟩) ⟨k, y.data.toList, pairsN l, []⟩ ∧ (0 < (pairsN l).length → ∀ ad, A5 = some ad → w0.heap.size ≤ ad.block) := by
  obtain ⟨h1, h2⟩ := tag_tk (V := .slice none 0 0) (base := w0.heap.size) hk (y := y) h (fun q hq => by cases hq) (Nat.le_refl _)
  exact ⟨h1, fun hp ad e => (h2 hp ad e).2⟩
end Hx
end Go.Proofs.Ytkmaogafknehgaa
namespace Go.Proofs.Ytkmaogafknehgaa
open Go.RowKit
namespace Hx
open Lx Tr Tx Nmb Es
set_option linter.unusedVariables false
set_option maxHeartbeats 16000000 in
set_option maxRecDepth 100000 in
theorem rtold_text (A : Option Addr) (n c : Nat) (v : List Nd) (hn : v.length = n) (hl : n ≤ 512) (hsm : ∀ n ∈ v, SmallN n) (d p : Nat) (r : List Nd) (w : World) (hp : p < v.length) (hr : restD d (v.drop p) = some r) (hrd : RdB NdS w A v) (HKIND : (v[p]'hp).kind = 2) :
    Calls Try.prog 28 #[.slice A n c, .int .i64 p] w (RToldTo (toldD d (v.drop p)).1 w) := by
  obtain ⟨b0, off, x, y, t, A1, c1, hA, hbB, hin, q0, q1, q2, q3, q4, q5⟩ := nd_at hrd hp
  have hs := hsm _ (List.getElem_mem hp)
  have hdr := List.drop_eq_getElem_cons hp
  rw [hdr] at hr
  obtain ⟨nd, hnd⟩ : ∃ nd, v[p]'hp = nd := ⟨_, rfl⟩
  rw [hnd] at hs hin hr hdr q0 q3 q5 HKIND
  obtain ⟨htd, hrl⟩ := toldD_text hr HKIND
  rw [hdr, htd]
  rw [HKIND, show ((2 : Nat) : Int) = 2 from rfl] at q0
  have bp : (0 : Int) ≤ (p : Int) ∧ (p : Int) < (n : Int) := by omega
  have bn : (n : Int) ≤ 512 := by omega
  obtain ⟨n1, hn1⟩ : ∃ n1, nd.attrs.length = n1 := ⟨_, rfl⟩
  obtain ⟨mm, hmm⟩ : ∃ mm, nd.many = mm := ⟨_, rfl⟩
  have HN1 := Lib.hid hn1
  have HTX := Lib.hid hin.text
  have HNM := Lib.hid hin.name
  rw [hn1] at q3
  rw [hmm] at q5
  subst hA
  clear hr hs hnd hin htd hrl hdr hl hsm hbB hn1 hmm hn hrd
  clear hp
  go_enter Try.func28, Try.ntmps28
  go_wp2_with fail
  go_ret
  exact ⟨[⟨⟨#[]⟩, none, 0, t, ⟨4, (⟨#[]⟩ : ByteArray).data.toList, [], t.data.toList⟩⟩], some ⟨w.heap.size + 1, 0, none⟩, 1, rfl, by show [_] = [_]; rw [← HTX.out], by
    have := ToldSt.one (stpA (Below.refl w.heap.size w) (.cells #[.int .u8 2, .string x, .string y, .slice A1 n1 c1, .string t, .int .i64 mm] 53)) (tk_plain _ 4 (by decide) ⟨#[]⟩ t) (fun h => absurd h (by simp)) _ rfl
    rw [World.size_alloc] at this
    exact this⟩
set_option maxHeartbeats 16000000 in
set_option maxRecDepth 100000 in
theorem rtold_bare (A : Option Addr) (n c : Nat) (v : List Nd) (hn : v.length = n) (hl : n ≤ 512) (hsm : ∀ n ∈ v, SmallN n) (d p : Nat) (r : List Nd) (w : World) (hp : p < v.length) (hr : restD d (v.drop p) = some r) (hrd : RdB NdS w A v) (HKIND : (v[p]'hp).kind = 1) (HM0 : (v[p]'hp).many = 0) :
    Calls Try.prog 28 #[.slice A n c, .int .i64 p] w (RToldTo (toldD d (v.drop p)).1 w) := by
  obtain ⟨b0, off, x, y, t, A1, c1, hA, hbB, hin, q0, q1, q2, q3, q4, q5⟩ := nd_at hrd hp
  have hs := hsm _ (List.getElem_mem hp)
  have hdr := List.drop_eq_getElem_cons hp
  rw [hdr] at hr
  obtain ⟨nd, hnd⟩ : ∃ nd, v[p]'hp = nd := ⟨_, rfl⟩
  rw [hnd] at hs hin hr hdr q0 q3 q5 HKIND HM0
  obtain ⟨htd, hrl⟩ := toldD_bare hr HKIND HM0
  rw [hdr, htd]
  rw [HKIND, show ((1 : Nat) : Int) = 1 from rfl] at q0
  have bp : (0 : Int) ≤ (p : Int) ∧ (p : Int) < (n : Int) := by omega
  have bn : (n : Int) ≤ 512 := by omega
  obtain ⟨n1, hn1⟩ : ∃ n1, nd.attrs.length = n1 := ⟨_, rfl⟩
  obtain ⟨mm, hmm⟩ : ∃ mm, nd.many = mm := ⟨_, rfl⟩
  have HN1 := Lib.hid hn1
  have HTX := Lib.hid hin.text
  have HNM := Lib.hid hin.name
  rw [hn1] at q3
  rw [hmm] at q5
  rw [HM0] at hmm
  subst hmm
  have hpr : ∀ W, Below w.heap.size w W → Calls Try.prog 48 #[.slice A1 n1 c1] W (PairsTo nd.attrs W) := fun W hW => rpairs10 A1 n1 c1 nd.attrs W (RdB.on (w := w) hin.attrs hW) hn1 (by have := hs.attrs; omega)
  unfold PairsTo at hpr
  rw [hn1] at hpr
  have HPR := Lib.hid hpr
  have HPL : Hid ((pairsN nd.attrs).length = n1) := Lib.hid (by unfold pairsN; rw [List.length_map, hn1])
  subst hA
  clear hpr hr hs hnd hin htd hrl hdr hl hsm hbB hn1 hn hrd
  clear hp
  go_enter Try.func28, Try.ntmps28
  go_wp2_with fail
  obtain ⟨W0, hW0⟩ : ∃ W0, w.alloc (.cells #[.int .u8 1, .string x, .string y, .slice A1 n1 c1, .string t, .int .i64 0] 53) = W0 := ⟨_, rfl⟩
  have hx0 : W0.heap[w.heap.size]? = some (.cells #[.int .u8 1, .string x, .string y, .slice A1 n1 c1, .string t, .int .i64 0] 53 (0, 0)) := by rw [← hW0]; exact heap_alloc_new w _
  have HX0 := Lib.hid hx0
  have HB0 : Hid (Below w.heap.size w W0) := Lib.hid (by rw [← hW0]; exact stpA (Below.refl _ _) _)
  rw [hW0]
  clear hx0 hW0
  have HKP : Hid (∀ W, Below W0.heap.size W0 W → W.cell? ⟨w.heap.size, 2, none⟩ = some (.string y) ∧ W.cell? ⟨w.heap.size, 3, none⟩ = some (.slice A1 n1 c1)) := Lib.hid fun W hW => ⟨cellV W _ 2 _ _ _ (kept_heap HX0.out hW), cellV W _ 3 _ _ _ (kept_heap HX0.out hW)⟩
  go_region_held3 (fun W => W.cell? ⟨w.heap.size, 2, none⟩ = some (.string y) ∧ W.cell? ⟨w.heap.size, 3, none⟩ = some (.slice A1 n1 c1))
    (first | exact HKP.out _ (Below.refl _ _).drew | exact HKP.out _ (stp (Below.refl _ _).drew hb5) | exact HKP.out _ (stpA (stp (Below.refl _ _).drew hb5) _))
    ((go_at_call 48; (with_reducible refine (HPR.out _ HB0.out.drew).mono ?_); rintro e5 w5 ⟨hb5, A5, c5, rfl, hown5⟩))
  go_wp2_with fail
  go_ret
  have htk := pairs_tk (k := 3) (by decide) (y := y) (w0 := W0.drew) (l := nd.attrs) (by rw [HN1.out]; exact hown5)
  exact ⟨[⟨y, A5, c5, ⟨#[]⟩, ⟨3, y.data.toList, pairsN nd.attrs, []⟩⟩], some ⟨w5.heap.size, 0, none⟩, 1, rfl, by show [_] = [_]; rw [← HNM.out],
    ToldSt.one (stp HB0.out.drew hb5) htk.1 (fun h ad e => by have h1 := htk.2 h ad e; have h2 := HB0.out.size; have h3 : W0.heap.size ≤ ad.block := h1; omega) _ (by unfold tbCells; rw [HPL.out]; rfl)⟩
end Hx
end Go.Proofs.Ytkmaogafknehgaa
