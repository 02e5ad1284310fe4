/-
  Texts of one seat, put together: PkD.
-/
import Derived.Test.YtlhjcdkkmloamaaGreatDoorSp28
import Derived.Deep.Cut
set_option linter.unusedSimpArgs false
namespace Go.Proofs.YtlhjcdkkmloamaaGreatDoor
open Go.RowKit
namespace Hx
open Lx Tr Tx Nmb Es
set_option maxRecDepth 100000
set_option maxHeartbeats 16000000
set_option linter.unusedVariables false
theorem StkSt.openO {B gs base hi m c : Nat} {L : List NB} {O : List Nat} {bb : Bool} {A : Option Addr} {Vn : Value} {W : World} {i : Nat} {g8 c8 : Nat} {w8 : World} {ob : Obj} (h : StkSt B gs base hi L O bb Vn (.slice A m c) W) (hm : O.length = m)
    (hown8 : w8.ownsRow base 3 1 (.slice (some ⟨g8, 0, none⟩) (m + 1) c8) (m + 1) ((zs O).map encZ ++ [.int .i64 i]))
    (hgr : (W.alloc ob).grownBy w8 (Value.slice A m c).ownBlock) (hor : (Value.slice A m c).ownBlock = some g8 ∨ g8 = W.heap.size + 1) :
    StkSt B gs base hi L (O ++ [i]) bb Vn (.slice (some ⟨g8, 0, none⟩) (m + 1) c8) (w8.setCell ⟨gs, 1, none⟩ (.slice (some ⟨g8, 0, none⟩) (m + 1) c8)) ∧ Below B W (w8.setCell ⟨gs, 1, none⟩ (.slice (some ⟨g8, 0, none⟩) (m + 1) c8)) := by
  subst hm
  have hlo := h.lo
  have hbz := h.gr.lo
  have hsz := h.gr.sz
  have ha : Below W.heap.size W (W.alloc ob) := stpA (Below.refl _ _) _
  have h2 := h.below ha (Nat.le_refl _) (by rw [World.size_alloc]; omega)
  have hgs : some gs ≠ (Value.slice A O.length c).ownBlock := fun e => by have := (h.gr.op.lt gs e.symm).1; omega
  have hp := h2.gr.open i hown8 hgr (by
    rcases hor with e | e
    · exact .inl e.symm
    · refine .inr ⟨g8, by omega, rfl, fun e2 => ?_⟩
      have := (h.gr.nd.lt g8 e2).2
      omega)
  have hs8 := hgr.size
  rw [World.size_alloc] at hs8
  have hoth : ∀ q, q ≠ gs → (w8.setCell ⟨gs, 1, none⟩ (.slice (some ⟨g8, 0, none⟩) (O.length + 1) c8)).heap[q]? = w8.heap[q]? := fun q hq => heap_setCell_other _ _ _ _ hq
  have hbox : w8.heap[gs]? = some (.cells #[Vn, .slice A O.length c, .bool bb] 90 (0, 0)) := (hgr.block gs (by have := lt_heapP h2.box; omega) hgs).trans h2.box
  refine ⟨⟨heap_setCell_same w8 gs 1 _ _ _ hbox, hp.keep (fun q hq _ => hoth q (by omega)) (Nat.le_refl _) (by simp [World.setCell]; omega), h.lo⟩, ?_⟩
  exact (((Below.refl B W).alloc (by omega) ob).grown hgr (by rw [World.size_alloc]; omega) (fun q hq => by have := (h.gr.op.lt q hq).1; omega)).setCell (p := ⟨gs, 1, none⟩) hlo.1 _
theorem StkSt.far {B gs base hi hi' : Nat} {L : List NB} {O : List Nat} {bb : Bool} {Vn Vo : Value} {w w' : World} (h : StkSt B gs base hi L O bb Vn Vo w) (hk : ∀ q, q < w.heap.size → w'.heap[q]? = w.heap[q]?) (h1 : hi ≤ hi') (h2 : hi' ≤ w'.heap.size) : StkSt B gs base hi' L O bb Vn Vo w' :=
  ⟨(hk gs (lt_heapP h.box)).trans h.box, h.gr.keep (fun q _ hq => hk q (by
    rcases hq with hq | hq | hq
    · exact Nat.lt_of_lt_of_le hq h.gr.sz
    · exact (h.gr.nd.lt q hq).2
    · exact (h.gr.op.lt q hq).2)) h1 h2, h.lo⟩
theorem pr_atP {w : World} {B : Nat} {A : Option Addr} {l : List Pr} {k : Nat} (hr : RdC PrC w B A l) (hk : k < l.length) : ∃ (b off : Nat) (s v : ByteArray), A = some ⟨b, off, none⟩ ∧ b < B ∧ w.cell? ⟨b, off + k * 2, none⟩ = some (.string s) ∧ w.cell? ⟨b, off + k * 2 + 1, none⟩ = some (.string v) ∧ s.data.toList = (l[k]'hk).name ∧ v.data.toList = (l[k]'hk).value := by
  obtain ⟨b, off, e, hb, hc⟩ := hr (by omega)
  obtain ⟨cs, ⟨s, v, rfl, h1, h2⟩, hcell⟩ := hc k hk
  exact ⟨b, off, s, v, e, hb, hcell 0 (by simp), hcell 1 (by simp), h1, h2⟩
theorem StkSt.above {B gs base hi : Nat} {L : List NB} {O : List Nat} {bb : Bool} {Vn Vo : Value} {w : World} (h : StkSt B gs base hi L O bb Vn Vo w) : B ≤ w.heap.size ∧ gs < w.heap.size ∧ base ≤ w.heap.size ∧ (∀ q, Vn.ownBlock = some q → base ≤ q ∧ q < w.heap.size) ∧ ∀ q, Vo.ownBlock = some q → base ≤ q ∧ q < w.heap.size := by
  have h1 := h.lo
  have h2 := h.gr.lo
  have h3 := h.gr.sz
  exact ⟨by omega, by omega, by omega, h.gr.nd.lt, h.gr.op.lt⟩
structure AtrSt (base2 bn : Nat) (x : ByteArray) (ps : List Pr) (j : Nat) (V : Value) (W1 wr : World) : Prop where
  box : wr.heap[bn]? = some (.cells #[.int .u8 1, .string ⟨#[]⟩, .string x, V, .string ⟨#[]⟩, .int .i64 0] 32 (0, 0))
  own : wr.ownsRow base2 34 3 V j (((givenN (ps.take j)).map abOf).flatMap abCells)
  oth : ∀ k, k < base2 → k ≠ bn → wr.heap[k]? = W1.heap[k]?
  lt : bn < base2 ∧ base2 ≤ W1.heap.size
  bel : Below bn W1 wr
theorem AtrSt.below {base2 bn : Nat} {x : ByteArray} {ps : List Pr} {j : Nat} {V : Value} {W1 wr w' : World} (h : AtrSt base2 bn x ps j V W1 wr) (hb : Below wr.heap.size wr w') : AtrSt base2 bn x ps j V W1 w' :=
  ⟨kept_heap h.box hb, own_belowK h.own hb (Nat.le_refl _), fun k hk hne => (hb.block k (by have := h.lt.2; have := h.bel.size; omega)).trans (h.oth k hk hne), h.lt, h.bel.trans (hb.mono (by have := h.lt; have := h.bel.size; omega))⟩
theorem AtrSt.push {base2 bn j c : Nat} {x : ByteArray} {ps : List Pr} {A : Option Addr} {W1 wr : World} {s v : ByteArray} {g8 c8 : Nat} {w8 : World} {ob : Obj} (h : AtrSt base2 bn x ps j (.slice A j c) W1 wr) (hj : j < ps.length) (hs : s.data.toList = (ps[j]'hj).name) (hv : v.data.toList = (ps[j]'hj).value)
    (hown8 : w8.ownsRow base2 34 3 (.slice (some ⟨g8, 0, none⟩) (j + 1) c8) (j + 1) (((givenN (ps.take j)).map abOf).flatMap abCells ++ [.string ⟨#[]⟩, .string s, .string v]))
    (hgr : (wr.alloc ob).grownBy w8 (Value.slice A j c).ownBlock) : AtrSt base2 bn x ps (j + 1) (.slice (some ⟨g8, 0, none⟩) (j + 1) c8) W1 (w8.setCell ⟨bn, 3, none⟩ (.slice (some ⟨g8, 0, none⟩) (j + 1) c8)) := by
  have hlt := h.lt
  have hsz := h.bel.size
  have ha : Below wr.heap.size wr (wr.alloc ob) := stpA (Below.refl _ _) _
  have hlo : ∀ q, (Value.slice A j c).ownBlock = some q → base2 ≤ q := fun q hq => (h.own.lt q hq).1
  have hs8 := hgr.size
  rw [World.size_alloc] at hs8
  have hoth : ∀ q, q ≠ bn → (w8.setCell ⟨bn, 3, none⟩ (.slice (some ⟨g8, 0, none⟩) (j + 1) c8)).heap[q]? = w8.heap[q]? := fun q hq => heap_setCell_other _ _ _ _ hq
  have hst : ∀ q, q < base2 → w8.heap[q]? = wr.heap[q]? := fun q hq => (hgr.block q (by rw [World.size_alloc]; omega) (fun e => by have := hlo q e.symm; omega)).trans (ha.block q (by omega))
  refine ⟨heap_setCell_same w8 bn 3 _ _ _ ((hst bn hlt.1).trans h.box), ?_, fun k hk hne => (hoth k hne).trans ((hst k hk).trans (h.oth k hk hne)), h.lt, ?_⟩
  · refine ownp_keep (w := w8) ?_ fun q hq => hoth q (by have := (hown8.lt q hq).1; omega)
    rw [List.take_succ_eq_append_getElem hj]
    have e1 : s = ⟨(ps[j]'hj).name.toArray⟩ := ba_x (by rw [hs])
    have e2 : v = ⟨(ps[j]'hj).value.toArray⟩ := ba_x (by rw [hv])
    have e : ((givenN (ps.take j ++ [ps[j]'hj])).map abOf).flatMap abCells = ((givenN (ps.take j)).map abOf).flatMap abCells ++ [.string ⟨#[]⟩, .string s, .string v] := by
      rw [e1, e2]
      unfold givenN
      rw [List.map_append, List.map_append, List.flatMap_append]
      rfl
    rw [e]
    exact hown8
  · exact ((h.bel.alloc (by omega) ob).grown hgr (by rw [World.size_alloc]; omega) (fun q hq => by have := hlo q hq; omega)).setCell (p := ⟨bn, 3, none⟩) (Nat.le_refl _) _
theorem AtrSt.node {bn : Nat} {x : ByteArray} {ps : List Pr} {na c : Nat} {A : Option Addr} {W1 wr : World} {nm : List UInt8} {S : Nat → Prop} (h : AtrSt (bn + 1) bn x ps na (.slice A na c) W1 wr) (hn : ps.length = na) (hx : x.data.toList = nm) (hS : ∀ q, bn + 1 ≤ q → q < wr.heap.size → S q) : NdIn ⟨1, [], nm, givenN ps, [], 0⟩ ⟨#[]⟩ x ⟨#[]⟩ A c wr S := by
  have ho := h.own
  rw [← hn, List.take_length, hn] at ho
  obtain ⟨r1, r2, r3, r4, r5⟩ := RdS.of_own (C := AtS) (S := S) abCells abVal (fun _ => rfl) (by decide) _ (fun b _ => ab_R wr S b) (fun g hg => hS g (ho.lt g hg).1 (ho.lt g hg).2) ho
  rw [map_abOf] at r1
  have hl : (givenN ps).length = na := by unfold givenN; rw [List.length_map, hn]
  exact ⟨rfl, hx, rfl, r1, by show (givenN ps).length ≤ c; omega, r4, r5, by show 1 < 256; decide, by show (-9223372036854775808 : Int) ≤ 0; decide, by show (0 : Int) ≤ 9223372036854775807; decide⟩
def BgOut (B gs base : Nat) (L : List NB) (O : List Nat) (bb : Bool) (t : Tk) (w' : World) : Prop := ∃ (hi2 : Nat) (b : NB) (Vn2 Vo2 : Value), b.n = nodeT t ∧ StkSt B gs base hi2 (bumpL O L ++ [b]) (if t.kind = 3 then O else O ++ [L.length]) bb Vn2 Vo2 w'
theorem infoNdP : (Tryz.prog.info? 32).map (·.size) = some 6 := by kernel_rfl
theorem stkbegin_xml (B gs base hi : Nat) (L : List NB) (O : List Nat) (bb : Bool) (Vn Vo : Value) (t : Tk) (x u : ByteArray) (A : Option Addr) (cp : Nat) (w : World) (h : StkSt B gs base hi L O bb Vn Vo w) (ht : TkAt t x u A cp w) (hO : O = []) (hL : L ≠ []) (hl : L.length ≤ 100000) :
    Calls Tryz.prog 76 #[.pointer (some ⟨gs, 0, none⟩), TkV t x u A cp] w fun e w' => e = .returned (.int .i64 80) ∧ Below w.heap.size w w' := by
  obtain ⟨Ao, co, rfl⟩ := own_form2 h.gr.op
  obtain ⟨An, cn, rfl⟩ := own_form2 h.gr.nd
  subst hO
  obtain ⟨n, hn⟩ : ∃ n, L.length = n := ⟨_, rfl⟩
  have bn : (0 : Int) < (n : Int) := by have := List.length_pos_iff.2 hL; omega
  unfold TkV
  have HBA : Hid (∀ o, Below w.heap.size w (w.alloc o)) := Lib.hid fun o => stpA (Below.refl _ _) o
  have HBX : Hid (∀ o, (w.alloc o).heap[gs]? = some (.cells #[.slice An n cn, .slice Ao 0 co, .bool bb] 90 (0, 0))) := Lib.hid fun o => by have := kept_heap h.box (HBA.out o); rw [hn] at this; exact this
  obtain ⟨W0, hW0⟩ : ∃ W0, w.alloc (.cells #[.int .u8 (t.kind : Int), .string x, .slice A t.attrs.length cp, .string u] 84) = W0 := ⟨_, rfl⟩
  have hg0 := HBX.out (.cells #[.int .u8 (t.kind : Int), .string x, .slice A t.attrs.length cp, .string u] 84)
  have HBE := Lib.hid (HBA.out (.cells #[.int .u8 (t.kind : Int), .string x, .slice A t.attrs.length cp, .string u] 84))
  rw [hW0] at hg0 HBE
  have k0 := cellV W0 _ 0 _ _ _ hg0
  have k1 := cellV W0 _ 1 _ _ _ hg0
  clear h ht hL hl HBX hn hg0
  go_enter Tryz.func76, Tryz.ntmps76
  go_wp2_with fail
  go_ret
  exact ⟨rfl, HBE.out⟩
theorem stkbegin_deep (B gs base hi : Nat) (L : List NB) (O : List Nat) (bb : Bool) (Vn Vo : Value) (t : Tk) (x u : ByteArray) (A : Option Addr) (cp : Nat) (w : World) (h : StkSt B gs base hi L O bb Vn Vo w) (ht : TkAt t x u A cp w) (hO : O.length = 12) (hl : L.length ≤ 100000) :
    Calls Tryz.prog 76 #[.pointer (some ⟨gs, 0, none⟩), TkV t x u A cp] w fun e w' => e = .returned (.int .i64 100) ∧ Below w.heap.size w w' := by
  obtain ⟨Ao, co, rfl⟩ := own_form2 h.gr.op
  obtain ⟨An, cn, rfl⟩ := own_form2 h.gr.nd
  obtain ⟨n, hn⟩ : ∃ n, L.length = n := ⟨_, rfl⟩
  unfold TkV
  have HBA : Hid (∀ o, Below w.heap.size w (w.alloc o)) := Lib.hid fun o => stpA (Below.refl _ _) o
  have HBX : Hid (∀ o, (w.alloc o).heap[gs]? = some (.cells #[.slice An n cn, .slice Ao 12 co, .bool bb] 90 (0, 0))) := Lib.hid fun o => by have := kept_heap h.box (HBA.out o); rw [hn, hO] at this; exact this
  obtain ⟨W0, hW0⟩ : ∃ W0, w.alloc (.cells #[.int .u8 (t.kind : Int), .string x, .slice A t.attrs.length cp, .string u] 84) = W0 := ⟨_, rfl⟩
  have hg0 := HBX.out (.cells #[.int .u8 (t.kind : Int), .string x, .slice A t.attrs.length cp, .string u] 84)
  have HBE := Lib.hid (HBA.out (.cells #[.int .u8 (t.kind : Int), .string x, .slice A t.attrs.length cp, .string u] 84))
  rw [hW0] at hg0 HBE
  have k0 := cellV W0 _ 0 _ _ _ hg0
  have k1 := cellV W0 _ 1 _ _ _ hg0
  clear h ht hO hl HBX hn hg0
  go_enter Tryz.func76, Tryz.ntmps76
  go_wp2_with fail
  go_ret
  exact ⟨rfl, HBE.out⟩
theorem stkbegin_ok0 (B gs base hi : Nat) (L : List NB) (O : List Nat) (bb : Bool) (Vn Vo : Value) (t : Tk) (x u : ByteArray) (A : Option Addr) (cp : Nat) (w : World) (h : StkSt B gs base hi L O bb Vn Vo w) (ht : TkAt t x u A cp w) (hg : O = [] ∧ L = []) (h12 : O.length < 12) (hl : L.length ≤ 100000) (hO : ∀ i ∈ O, i < L.length) (hM : ∀ b ∈ L, 0 ≤ b.n.many ∧ b.n.many ≤ 1000000) (hk : t.kind = 1 ∨ t.kind = 3) :
    Calls Tryz.prog 76 #[.pointer (some ⟨gs, 0, none⟩), TkV t x u A cp] w fun e w' => e = .returned (.int .i64 0) ∧ Below B w w' ∧ BgOut B gs base L O bb t w' := by
  obtain ⟨j0, hj0, hy0, hy1, hy2⟩ := info_parts infoAt
  have HJ := Lib.hid hj0
  have HY0 := Lib.hid hy0
  have HY1 := Lib.hid hy1
  have HY2 := Lib.hid hy2
  obtain ⟨i0, hi0, hz0, hz1, hz2⟩ := info_parts infoZ
  have HI := Lib.hid hi0
  have HZ0 := Lib.hid hz0
  have HZ1 := Lib.hid hz1
  have HZ2 := Lib.hid hz2
  obtain ⟨Ao, co, rfl⟩ := own_form2 h.gr.op
  obtain ⟨An, cn, rfl⟩ := own_form2 h.gr.nd
  obtain ⟨n, hn⟩ : ∃ n, L.length = n := ⟨_, rfl⟩
  obtain ⟨m, hm⟩ : ∃ m, O.length = m := ⟨_, rfl⟩
  obtain ⟨na, hna⟩ : ∃ na, t.attrs.length = na := ⟨_, rfl⟩
  obtain ⟨tk, htk⟩ : ∃ tk, t.kind = tk := ⟨_, rfl⟩
  obtain rfl : 0 = m := by rw [← hm, hg.1]; rfl
  obtain rfl : 0 = n := by rw [← hn, hg.2]; rfl
  have bna : (0 : Int) ≤ (na : Int) ∧ (na : Int) ≤ 1000000 := by have := ht.al; omega
  unfold TkV
  rw [hna, htk]
  rw [htk] at hk
  have HTK := Lib.hid htk
  obtain ⟨W0, hW0⟩ : ∃ W0, w.alloc (.cells #[.int .u8 (tk : Int), .string x, .slice A na cp, .string u] 84) = W0 := ⟨_, rfl⟩
  have HBE : Hid (Below w.heap.size w W0) := Lib.hid (by rw [← hW0]; exact stpA (Below.refl _ _) _)
  have HTB : Hid (W0.heap[w.heap.size]? = some (.cells #[.int .u8 (tk : Int), .string x, .slice A na cp, .string u] 84 (0, 0))) := Lib.hid (by rw [← hW0]; exact heap_alloc_new _ _)
  have HST := Lib.hid h
  have HTA := Lib.hid ht
  have HNA := Lib.hid hna
  have HNL := Lib.hid hn
  have HML := Lib.hid hm
  have HOO := Lib.hid hO
  have HMM := Lib.hid hM
  have HKK := Lib.hid hk
  have hg0 := kept_heap h.box HBE.out
  rw [hn, hm] at hg0
  have k0 := cellV W0 _ 0 _ _ _ hg0
  have k1 := cellV W0 _ 1 _ _ _ hg0
  have t1 := cellV W0 _ 1 _ _ _ HTB.out
  have HXN : Hid (x.size ≤ 1000000) := Lib.hid ht.ns
  have HTBL : Hid (∀ W, Below W0.heap.size W0 W → W.heap[w.heap.size]? = some (.cells #[.int .u8 (tk : Int), .string x, .slice A na cp, .string u] 84 (0, 0))) := Lib.hid fun W hW => kept_heap HTB.out hW
  clear h ht hg h12 hl hO hM hk hj0 hy0 hy1 hy2 hi0 hz0 hz1 hz2 hna hn hm hg0 htk
  go_enter Tryz.func76, Tryz.ntmps76
  go_upto_region 6 with (first
    | (go_at_call 38; (with_reducible refine (clone9 x _ HXN.out).mono ?_); rintro e2 w2 ⟨rfl, hb2⟩; have HB2 := Lib.hid hb2; clear hb2)
    | fail)
  obtain ⟨W3, hW3⟩ : ∃ W3, w2.alloc (.cells #[.int .u8 1, .string ⟨#[]⟩, .string x, .slice none 0 0, .string ⟨#[]⟩, .int .i64 0] 32) = W3 := ⟨_, rfl⟩
  obtain ⟨bn, hbn⟩ : ∃ bn, w2.heap.size = bn := ⟨_, rfl⟩
  have HB3 : Hid (Below w2.heap.size w2 W3) := Lib.hid (by rw [← hW3]; exact stpA (Below.refl _ _) _)
  have HBN := Lib.hid hbn
  have HSZ3 : Hid (W3.heap.size = bn + 1) := Lib.hid (by rw [← hW3, World.size_alloc, hbn])
  have HA0 : Hid (AtrSt (bn + 1) bn x t.attrs 0 (.slice none 0 0) W3 W3) := Lib.hid ⟨by rw [← hW3, ← hbn]; exact heap_alloc_new w2 _, World.ownsRow_nil _ _ _ _, fun _ _ _ => rfl, ⟨by omega, by rw [HSZ3.out]; exact Nat.le_refl _⟩, Below.refl _ _⟩
  rw [hW3]
  (try rw [hbn])
  have t2 := cellV W3 _ 2 _ _ _ (HTBL.out _ (stp HB2.out HB3.out))
  clear hW3 hbn k0 k1 t1
  go_wp2_with fail
  go_loopg [37] na (fun gg i wr => ∃ (j : Nat) (V' : Value), j + gg = na ∧ i = .int .i64 j ∧ AtrSt (bn + 1) bn x t.attrs j V' W3 wr)
  case atStart => exact ⟨0, _, by omega, rfl, HA0.out⟩
  case round =>
    obtain ⟨j, V', hjg, rfl, hat⟩ := hrel
    obtain ⟨Aa, ca, rfl⟩ := own_form2 hat.own
    have HAT := Lib.hid hat
    have HWA := Lib.hid HST.out.above
    have hW3s := HB2.out.size
    have hW0s := HBE.out.size
    have HFW : Hid (∀ q, q < w.heap.size → wr.heap[q]? = w.heap[q]?) := Lib.hid fun q hq => (hat.oth q (by have := HBN.out; omega) (by have := HBN.out; omega)).trans (((stp HBE.out (stp HB2.out HB3.out)).block q hq))
    have HFB : Hid (∀ q, q < bn → wr.heap[q]? = W3.heap[q]?) := Lib.hid fun q hq => hat.oth q (by omega) (by omega)
    have HWR : Hid (bn + 1 ≤ wr.heap.size) := Lib.hid (Nat.le_trans hat.lt.2 hat.bel.size)
    have HBW : Hid (w.heap.size + 1 ≤ bn) := Lib.hid (by have := HBN.out; have := lt_heapP HTB.out; omega)
    by_cases hlt : j < na
    · have hlt2 : (j : Int) < (na : Int) := by omega
      have hjl : j < t.attrs.length := by rw [HNA.out]; exact hlt
      obtain ⟨b1, of1, s, v, hA, hb1, hc0, hc1, hs, hv⟩ := pr_atP HTA.out.attrs hjl
      have HSS : Hid (s.size ≤ 1000000) := Lib.hid (by rw [← ba_len5, hs]; exact (HTA.out.sz _ (List.getElem_mem hjl)).1)
      have HSV : Hid (v.size ≤ 1000000) := Lib.hid (by rw [← ba_len5, hv]; exact (HTA.out.sz _ (List.getElem_mem hjl)).2)
      have HPN := Lib.hid hs
      have HPV := Lib.hid hv
      have HJL := Lib.hid hjl
      have HJB : Hid (j ≤ 1000000) := Lib.hid (by omega)
      have p0 := (cell_blkP (o := of1 + j * 2) (HFW.out b1 hb1)).trans hc0
      have p1 := (cell_blkP (o := of1 + j * 2 + 1) (HFW.out b1 hb1)).trans hc1
      obtain ⟨bp, hbp⟩ : ∃ bp, wr.heap.size = bp := ⟨_, rfl⟩
      have HBP : Hid (some bp ≠ (Value.slice Aa j ca).ownBlock) := Lib.hid fun e => by have := (hat.own.lt _ e.symm).2; omega
      obtain ⟨W4, hW4⟩ : ∃ W4, wr.alloc (.cells #[.string s, .string v] 111) = W4 := ⟨_, rfl⟩
      have HA4 := Lib.hid (hat.below (by rw [← hW4]; exact stpA (Below.refl _ _) _ : Below wr.heap.size wr W4))
      have HP4 : Hid (W4.heap[bp]? = some (.cells #[.string s, .string v] 111 (0, 0))) := Lib.hid (by rw [← hW4, ← hbp]; exact heap_alloc_new wr _)
      have bj : (0 : Int) ≤ (j : Int) := by omega
      subst hA
      clear hat hs hv hc0 hc1 hb1 hW3s hW0s
      go_wp2_with fail
      (try rw [hW4])
      (try rw [hbp])
      clear hW4 hbp
      refine wp_region_noPanic ?_
      refine wp_region_Z (fun W => W.cell? ⟨bn, 3, none⟩ = some (.slice Aa j ca) ∧ W.cell? ⟨bp, 0, none⟩ = some (.string s) ∧ W.cell? ⟨bp, 1, none⟩ = some (.string v)) 12 (by kernel_rfl) ?_
      have hS : W4.drew.cell? ⟨bn, 3, none⟩ = some (.slice Aa j ca) ∧ W4.drew.cell? ⟨bp, 0, none⟩ = some (.string s) ∧ W4.drew.cell? ⟨bp, 1, none⟩ = some (.string v) := ⟨cellV W4.drew _ 3 _ _ _ HA4.out.box, cellV W4.drew _ 0 _ _ _ HP4.out, cellV W4.drew _ 1 _ _ _ HP4.out⟩
      refine takeZ (i := 0) (v := .pointer (some ⟨bn, 3, none⟩)) rfl (by kernel_rfl) (by kernel_rfl) (by kernel_rfl) (by kernel_rfl) (fun _ _ _ h => h) (Or.inl ⟨by rfl, ?_⟩) hS ?_
      · intro w' hSw; (try dsimp only at hSw); go_simp
      try simp only [Act.put, List.setIfInBounds_toArray, List.set_cons_zero, List.set_cons_succ]
      refine takeZ (i := 1) (v := .slice Aa j ca) rfl (by kernel_rfl) (by kernel_rfl) (by kernel_rfl) (by kernel_rfl) (fun _ _ _ h => h) (Or.inl ⟨by rfl, ?_⟩) hS ?_
      · intro w' hSw; (try dsimp only at hSw); go_simp
      try simp only [Act.put, List.setIfInBounds_toArray, List.set_cons_zero, List.set_cons_succ]
      refine takeZ (i := 2) (v := .pointer (some ⟨bp, 0, none⟩)) rfl (by kernel_rfl) (by kernel_rfl) (by kernel_rfl) (by kernel_rfl) (fun _ _ _ h => h) (Or.inl ⟨by rfl, ?_⟩) hS ?_
      · intro w' hSw; (try dsimp only at hSw); go_simp
      try simp only [Act.put, List.setIfInBounds_toArray, List.set_cons_zero, List.set_cons_succ]
      refine takeZ (i := 3) (v := .string s) rfl (by kernel_rfl) (by kernel_rfl) (by kernel_rfl) (by kernel_rfl) (fun _ _ _ h => h) (Or.inl ⟨by rfl, ?_⟩) hS ?_
      · intro w' hSw; (try dsimp only at hSw); go_simp
      try simp only [Act.put, List.setIfInBounds_toArray, List.set_cons_zero, List.set_cons_succ]
      refine takeZ (i := 5) (v := .pointer (some ⟨bp, 1, none⟩)) rfl (by kernel_rfl) (by kernel_rfl) (by kernel_rfl) (by kernel_rfl) (fun _ _ _ h => h) (Or.inl ⟨by rfl, ?_⟩) hS ?_
      · intro w' hSw; (try dsimp only at hSw); go_simp
      try simp only [Act.put, List.setIfInBounds_toArray, List.set_cons_zero, List.set_cons_succ]
      refine takeZ (i := 6) (v := .string v) rfl (by kernel_rfl) (by kernel_rfl) (by kernel_rfl) (by kernel_rfl) (fun _ _ _ h => h) (Or.inl ⟨by rfl, ?_⟩) hS ?_
      · intro w' hSw; (try dsimp only at hSw); go_simp
      try simp only [Act.put, List.setIfInBounds_toArray, List.set_cons_zero, List.set_cons_succ]
      refine stepZ (i := 4) (by kernel_rfl) rfl (fun K hK => ?_)
      go_simp
      go_at_call 38; (with_reducible refine (clone9 s _ HSS.out).mono ?_); rintro e5 w5 ⟨rfl, hb5⟩
      have HB5 : Hid (Below W4.drew.heap.size W4.drew w5) := Lib.hid hb5
      clear hb5
      have HA5 := Lib.hid (HA4.out.below (stp (Below.refl _ _).drew HB5.out))
      have HP5 := Lib.hid (kept_heap HP4.out (stp (Below.refl _ _).drew HB5.out))
      have hS5 : w5.cell? ⟨bn, 3, none⟩ = some (.slice Aa j ca) ∧ w5.cell? ⟨bp, 0, none⟩ = some (.string s) ∧ w5.cell? ⟨bp, 1, none⟩ = some (.string v) := ⟨cellV w5 _ 3 _ _ _ HA5.out.box, cellV w5 _ 0 _ _ _ HP5.out, cellV w5 _ 1 _ _ _ HP5.out⟩
      go_wp2_with fail
      refine hK.out _ _ (fun _ => hS5) (fun _ => ?_)
      clear hK K hS
      try simp only [Act.put, List.setIfInBounds_toArray, List.set_cons_zero, List.set_cons_succ]
      refine stepZ (i := 7) (by kernel_rfl) rfl (fun K hK => ?_)
      go_simp
      go_at_call 38; (with_reducible refine (clone9 v _ HSV.out).mono ?_); rintro e6 w6 ⟨rfl, hb6⟩
      have HB6 : Hid (Below w5.heap.size w5 w6) := Lib.hid hb6
      clear hb6
      have HA6 := Lib.hid (HA5.out.below HB6.out)
      have HP6 := Lib.hid (kept_heap HP5.out HB6.out)
      have hS6 : w6.cell? ⟨bn, 3, none⟩ = some (.slice Aa j ca) ∧ w6.cell? ⟨bp, 0, none⟩ = some (.string s) ∧ w6.cell? ⟨bp, 1, none⟩ = some (.string v) := ⟨cellV w6 _ 3 _ _ _ HA6.out.box, cellV w6 _ 0 _ _ _ HP6.out, cellV w6 _ 1 _ _ _ HP6.out⟩
      go_wp2_with fail
      refine hK.out _ _ (fun _ => hS6) (fun _ => ?_)
      clear hK K hS5
      try simp only [Act.put, List.setIfInBounds_toArray, List.set_cons_zero, List.set_cons_succ]
      refine takeZ (i := 8) (v := .agg #[.string ⟨#[]⟩, .string s, .string v]) rfl (by kernel_rfl) (by kernel_rfl) (by kernel_rfl) (by kernel_rfl) (fun _ _ _ h => h) (Or.inl ⟨by rfl, ?_⟩) hS6 ?_
      · intro w' hSw; (try dsimp only at hSw); go_simp
      try simp only [Act.put, List.setIfInBounds_toArray, List.set_cons_zero, List.set_cons_succ]
      refine stepZ (i := 9) (by kernel_rfl) rfl (fun K hK => ?_)
      go_simp
      have HA7 := Lib.hid (HA6.out.below (stpA (Below.refl w6.heap.size w6) (.cells #[.string ⟨#[]⟩, .string s, .string v] 34)))
      have HP7 := Lib.hid (kept_heap HP6.out (stpA (Below.refl w6.heap.size w6) (.cells #[.string ⟨#[]⟩, .string s, .string v] 34)))
      have hS7 : (w6.alloc (.cells #[.string ⟨#[]⟩, .string s, .string v] 34)).cell? ⟨bn, 3, none⟩ = some (.slice Aa j ca) ∧ (w6.alloc (.cells #[.string ⟨#[]⟩, .string s, .string v] 34)).cell? ⟨bp, 0, none⟩ = some (.string s) ∧ (w6.alloc (.cells #[.string ⟨#[]⟩, .string s, .string v] 34)).cell? ⟨bp, 1, none⟩ = some (.string v) := ⟨cellV (w6.alloc (.cells #[.string ⟨#[]⟩, .string s, .string v] 34)) _ 3 _ _ _ HA7.out.box, cellV (w6.alloc (.cells #[.string ⟨#[]⟩, .string s, .string v] 34)) _ 0 _ _ _ HP7.out, cellV (w6.alloc (.cells #[.string ⟨#[]⟩, .string s, .string v] 34)) _ 1 _ _ _ HP7.out⟩
      refine hK.out _ _ (fun _ => hS7) (fun _ => ?_)
      clear hK K hS6
      try simp only [Act.put, List.setIfInBounds_toArray, List.set_cons_zero, List.set_cons_succ]
      refine stepZ (i := 10) (by kernel_rfl) rfl (fun K hK => ?_)
      have HSZ : Hid ((bn + 1) ≤ w6.heap.size) := Lib.hid (Nat.le_trans HA6.out.lt.2 HA6.out.bel.size)
      refine step_append_lies _ rfl (.tmp 42) (.tmp 50) 30 rfl (bn + 1) 34 j0 (.agg #[.string ⟨#[]⟩, .string ⟨#[]⟩, .string ⟨#[]⟩]) 3 48 Tryz.underlying30 HJ.out HY0.out HY1.out HY2.out rfl (by decide) _ j _ rfl (own_belowK HA6.out.own (stpA (Below.refl _ _) _) (Nat.le_refl _)) ⟨w6.heap.size, 0, none⟩ 1 1 [.string ⟨#[]⟩, .string s, .string v] rfl rfl (new_at w6 [.string ⟨#[]⟩, .string s, .string v] 34 _ rfl) (by simp [Value.oneCell']) (by decide) (by have := HJB.out; unfold maxLen; omega) (by have := HJB.out; omega) (by have := HSZ.out; rw [World.size_alloc]; omega) (w6.heap.size + 1) (by rw [World.size_alloc]) ?_
      intro g8 c8 w8 hown8 hgr8 hor hlt8
      have HP8 := Lib.hid (HA6.out.push HJL.out HPN.out HPV.out hown8 hgr8)
      have st8 : ∀ (q : Nat) (o : Obj), q < (bn + 1) → w6.heap[q]? = some o → w8.heap[q]? = some o := fun q o hq ho => by
        have h1 := kept_heap ho (stpA (Below.refl w6.heap.size w6) (.cells #[.string ⟨#[]⟩, .string s, .string v] 34))
        exact (hgr8.block _ (Array.getElem?_eq_some_iff.1 h1).1 (fun e => by have := (HA6.out.own.lt _ e.symm).1; omega)).trans h1
      have hbn8 := st8 bn _ HA6.out.lt.1 HA6.out.box
      have hbp8 : w8.heap[bp]? = some (.cells #[.string s, .string v] 111 (0, 0)) := (hgr8.block bp (by rw [World.size_alloc]; have := lt_heapP HP6.out; omega) (fun e => HBP.out e)).trans (kept_heap HP6.out (stpA (Below.refl w6.heap.size w6) (.cells #[.string ⟨#[]⟩, .string s, .string v] 34)))
      have k8 : w8.cell? ⟨bn, 3, none⟩ = some (.slice Aa j ca) ∧ w8.cell? ⟨bp, 0, none⟩ = some (.string s) ∧ w8.cell? ⟨bp, 1, none⟩ = some (.string v) := ⟨cellV w8 _ 3 _ _ _ hbn8, cellV w8 _ 0 _ _ _ hbp8, cellV w8 _ 1 _ _ _ hbp8⟩
      have f8 : w8.frozen? ⟨bn, 3, none⟩ = false := freeV w8 _ 3 _ _ hbn8
      have k81 := k8.1
      clear hown8 hgr8 hor hbn8 hbp8 st8
      refine hK.out _ _ (fun _ => k8) (fun _ => ?_)
      clear hK K hS7
      try simp only [Act.put, List.setIfInBounds_toArray, List.set_cons_zero, List.set_cons_succ]
      refine takeZ (i := 11) (v := .pointer (some ⟨bn, 3, none⟩)) rfl (by kernel_rfl) (by kernel_rfl) (by kernel_rfl) (by kernel_rfl) (fun _ _ _ h => h) (Or.inl ⟨by rfl, ?_⟩) k8 ?_
      · intro w' hSw; (try dsimp only at hSw); go_simp
      try simp only [Act.put, List.setIfInBounds_toArray, List.set_cons_zero, List.set_cons_succ]
      refine stepZ (i := 12) (by kernel_rfl) rfl (fun K hK => ?_)
      go_simp
      refine hK.out _ _ (fun h => absurd rfl h) (fun _ => ?_)
      clear hK K
      try simp only [Act.put, List.setIfInBounds_toArray, List.set_cons_zero, List.set_cons_succ]
      refine doneZ (by kernel_rfl) ?_ _
      refine NoPanic.normal ?_
      go_wp2_with fail
      go_roundg (gk - 1)
      case measure => omega
      case rel => exact ⟨j + 1, _, by omega, by go_num, HP8.out⟩
    · obtain rfl : j = na := by omega
      have hjj : ¬ ((j : Int) < (j : Int)) := by omega
      have hab := HST.out.above
      have hgl : (givenN t.attrs).length = j := by unfold givenN; rw [List.length_map, HNA.out]
      have hSr : ∀ q, bn + 1 ≤ q → q < wr.heap.size → (base ≤ q ∧ q < wr.heap.size ∧ some q ≠ (Value.slice An 0 cn).ownBlock ∧ some q ≠ (Value.slice Ao 0 co).ownBlock) := fun q h1 h2 => ⟨by have := HBW.out; omega, h2, fun e => by have := (hab.2.2.2.1 q (by rw [HNL.out]; exact e.symm)).2; have := HBW.out; omega, fun e => by have := (hab.2.2.2.2 q (by rw [HML.out]; exact e.symm)).2; have := HBW.out; omega⟩
      have hnd := hat.node HNA.out HTA.out.name hSr
      have hst := HST.out.far (hi' := wr.heap.size) HFW.out (Nat.le_trans HST.out.gr.sz (by have := HWR.out; have := HBW.out; omega)) (Nat.le_refl _)
      rw [HNL.out, HML.out] at hst
      have HPT : Hid (Calls Tryz.prog 92 #[.pointer (some ⟨gs, 0, none⟩), .agg #[.int .u8 1, .string ⟨#[]⟩, .string x, .slice Aa j ca, .string ⟨#[]⟩, .int .i64 0]] wr fun e w' => e = .returned (.tuple #[]) ∧ ∃ Vn', StkSt B gs base wr.heap.size (bumpL O L ++ [(⟨⟨1, [], t.name, givenN t.attrs, [], 0⟩, ⟨#[]⟩, x, ⟨#[]⟩, Aa, ca⟩ : NB)]) O bb Vn' (.slice Ao 0 co) w' ∧ FrP B gs (.slice An 0 cn) (.slice Ao 0 co) wr Vn' (.slice Ao 0 co) w') := Lib.hid (by
        have h9 := stkput B gs base wr.heap.size L O bb (.slice An 0 cn) (.slice Ao 0 co) (⟨⟨1, [], t.name, givenN t.attrs, [], 0⟩, ⟨#[]⟩, x, ⟨#[]⟩, Aa, ca⟩ : NB) wr hst hnd (by have := HNL.out; omega) (by have := HML.out; omega) HOO.out HMM.out
        dsimp only at h9
        rw [hgl] at h9
        exact h9)
      have HBX := Lib.hid hat.box
      have HTW : Hid (wr.heap[w.heap.size]? = some (.cells #[.int .u8 (tk : Int), .string x, .slice A j cp, .string u] 84 (0, 0))) := Lib.hid ((HFB.out _ (by have := HBW.out; omega)).trans (HTBL.out _ (stp HB2.out HB3.out)))
      have HTNE : Hid (w.heap.size ≠ gs ∧ some w.heap.size ≠ (Value.slice An 0 cn).ownBlock ∧ some w.heap.size ≠ (Value.slice Ao 0 co).ownBlock ∧ w.heap.size < wr.heap.size) := Lib.hid ⟨by omega, fun e => by have := (hab.2.2.2.1 _ (by rw [HNL.out]; exact e.symm)).2; omega, fun e => by have := (hab.2.2.2.2 _ (by rw [HML.out]; exact e.symm)).2; omega, by have := HWR.out; have := HBW.out; omega⟩
      have HBB : Hid (Below B w wr) := Lib.hid (((stp HBE.out (stp HB2.out HB3.out)).mono hab.1).trans (hat.bel.mono (by have := HBW.out; omega)))
      have HLEN : Hid ((bumpL O L ++ [(⟨⟨1, [], t.name, givenN t.attrs, [], 0⟩, ⟨#[]⟩, x, ⟨#[]⟩, Aa, ca⟩ : NB)]).length = 0 + 1) := Lib.hid (by rw [List.length_append, bumpL_len, HNL.out]; rfl)
      have HND : Hid ((⟨1, [], t.name, givenN t.attrs, [], 0⟩ : Nd) = nodeT t) := Lib.hid (by unfold nodeT; rw [if_neg (by have := HTK.out; have := HKK.out; omega)])
      clear hat hab hgl hSr hnd hst hW3s hW0s t2
      rcases HKK.out with rfl | rfl
      · go_upto_region 13 with (first
          | (refine wpList_load_row rfl _ _ rfl bn rfl 32 #[.int .u8 1, .string ⟨#[]⟩, .string x, .slice Aa j ca, .string ⟨#[]⟩, .int .i64 0] (0, 0) _ HBX.out Tryz.underlying32 rfl infoNdP ?_)
          | (go_at_call 92; (with_reducible refine (HPT.out).mono ?_); rintro e8 w8 ⟨rfl, Vn2, hs8, hf8⟩; have HS8 := Lib.hid hs8; have HF8 := Lib.hid hf8; have c0 := cellV w8 _ 0 _ _ _ ((hf8.blk _ HTNE.out.2.2.2 HTNE.out.1 HTNE.out.2.1 HTNE.out.2.2.1).trans HTW.out); clear hs8 hf8)
          | fail)
        obtain ⟨An2, cn2, rfl⟩ := own_form2 HS8.out.gr.nd
        rw [HLEN.out] at HS8 HF8
        have HBS : Hid (base ≤ w8.heap.size) := Lib.hid HS8.out.above.2.2.1
        have HMB : Hid (0 ≤ 100000) := Lib.hid (by omega)
        have HOP : Hid (w8.drew.ownsRow base 3 1 (.slice Ao 0 co) 0 ((zs O).map encZ)) := Lib.hid (by have := HS8.out.gr.op; rw [HML.out] at this; exact this)
        have wn1 : IntKind.i64.wrap ((0 : Nat) : Int) = ((0 : Nat) : Int) := IntWalk.i64_in _ (by omega)
        have wn2 : IntKind.i64.wrap 0 = 0 := by decide
        refine wp_region_noPanic ?_
        refine wp_region_Z (fun W => W.cell? ⟨gs, 0, none⟩ = some (.slice An2 (0 + 1) cn2) ∧ W.cell? ⟨gs, 1, none⟩ = some (.slice Ao 0 co)) 15 (by kernel_rfl) ?_
        have hS : w8.drew.cell? ⟨gs, 0, none⟩ = some (.slice An2 (0 + 1) cn2) ∧ w8.drew.cell? ⟨gs, 1, none⟩ = some (.slice Ao 0 co) := ⟨cellV w8.drew _ 0 _ _ _ HS8.out.box, cellV w8.drew _ 1 _ _ _ HS8.out.box⟩
        refine takeZ (i := 0) (v := .pointer (some ⟨gs, 0, none⟩)) rfl (by kernel_rfl) (by kernel_rfl) (by kernel_rfl) (by kernel_rfl) (fun _ _ _ h => h) (Or.inl ⟨by rfl, ?_⟩) hS ?_
        · intro w' hSw; (try dsimp only at hSw); go_simp
        try simp only [Act.put, List.setIfInBounds_toArray, List.set_cons_zero, List.set_cons_succ]
        refine takeZ (i := 1) (v := .pointer (some ⟨gs, 0, none⟩)) rfl (by kernel_rfl) (by kernel_rfl) (by kernel_rfl) (by kernel_rfl) (fun _ _ _ h => h) (Or.inl ⟨by rfl, ?_⟩) hS ?_
        · intro w' hSw; (try dsimp only at hSw); go_simp
        try simp only [Act.put, List.setIfInBounds_toArray, List.set_cons_zero, List.set_cons_succ]
        refine takeZ (i := 2) (v := .pointer (some ⟨gs, 0, none⟩)) rfl (by kernel_rfl) (by kernel_rfl) (by kernel_rfl) (by kernel_rfl) (fun _ _ _ h => h) (Or.inl ⟨by rfl, ?_⟩) hS ?_
        · intro w' hSw; (try dsimp only at hSw); go_simp
        try simp only [Act.put, List.setIfInBounds_toArray, List.set_cons_zero, List.set_cons_succ]
        refine takeZ (i := 3) (v := .pointer (some ⟨gs, 1, none⟩)) rfl (by kernel_rfl) (by kernel_rfl) (by kernel_rfl) (by kernel_rfl) (fun _ _ _ h => h) (Or.inl ⟨by rfl, ?_⟩) hS ?_
        · intro w' hSw; (try dsimp only at hSw); go_simp
        try simp only [Act.put, List.setIfInBounds_toArray, List.set_cons_zero, List.set_cons_succ]
        refine takeZ (i := 4) (v := .slice Ao 0 co) rfl (by kernel_rfl) (by kernel_rfl) (by kernel_rfl) (by kernel_rfl) (fun _ _ _ h => h) (Or.inl ⟨by rfl, ?_⟩) hS ?_
        · intro w' hSw; (try dsimp only at hSw); go_simp
        try simp only [Act.put, List.setIfInBounds_toArray, List.set_cons_zero, List.set_cons_succ]
        refine takeZ (i := 5) (v := .pointer (some ⟨gs, 0, none⟩)) rfl (by kernel_rfl) (by kernel_rfl) (by kernel_rfl) (by kernel_rfl) (fun _ _ _ h => h) (Or.inl ⟨by rfl, ?_⟩) hS ?_
        · intro w' hSw; (try dsimp only at hSw); go_simp
        try simp only [Act.put, List.setIfInBounds_toArray, List.set_cons_zero, List.set_cons_succ]
        refine takeZ (i := 6) (v := .pointer (some ⟨gs, 0, none⟩)) rfl (by kernel_rfl) (by kernel_rfl) (by kernel_rfl) (by kernel_rfl) (fun _ _ _ h => h) (Or.inl ⟨by rfl, ?_⟩) hS ?_
        · intro w' hSw; (try dsimp only at hSw); go_simp
        try simp only [Act.put, List.setIfInBounds_toArray, List.set_cons_zero, List.set_cons_succ]
        refine takeZ (i := 7) (v := .pointer (some ⟨gs, 0, none⟩)) rfl (by kernel_rfl) (by kernel_rfl) (by kernel_rfl) (by kernel_rfl) (fun _ _ _ h => h) (Or.inl ⟨by rfl, ?_⟩) hS ?_
        · intro w' hSw; (try dsimp only at hSw); go_simp
        try simp only [Act.put, List.setIfInBounds_toArray, List.set_cons_zero, List.set_cons_succ]
        refine takeZ (i := 8) (v := .slice An2 (0 + 1) cn2) rfl (by kernel_rfl) (by kernel_rfl) (by kernel_rfl) (by kernel_rfl) (fun _ _ _ h => h) (Or.inl ⟨by rfl, ?_⟩) hS ?_
        · intro w' hSw; (try dsimp only at hSw); go_simp
        try simp only [Act.put, List.setIfInBounds_toArray, List.set_cons_zero, List.set_cons_succ]
        refine takeZ (i := 9) (v := .int .i64 ((0 + 1 : Nat) : Int)) rfl (by kernel_rfl) (by kernel_rfl) (by kernel_rfl) (by kernel_rfl) (fun _ _ _ h => h) (Or.inl ⟨by rfl, ?_⟩) hS ?_
        · intro w' hSw; (try dsimp only at hSw); go_simp
        try simp only [Act.put, List.setIfInBounds_toArray, List.set_cons_zero, List.set_cons_succ]
        refine takeZ (i := 10) (v := .int .i64 ((0 : Nat) : Int)) rfl (by kernel_rfl) (by kernel_rfl) (by kernel_rfl) (by kernel_rfl) (fun _ _ _ h => h) (Or.inl ⟨by rfl, ?_⟩) hS ?_
        · intro w' hSw; (try dsimp only at hSw); go_simp
        try simp only [Act.put, List.setIfInBounds_toArray, List.set_cons_zero, List.set_cons_succ]
        refine stepZ (i := 11) (by kernel_rfl) rfl (fun K hK => ?_)
        go_simp
        have HA1 := Lib.hid (kept_heap (a := w8.drew) HS8.out.box (stpA (Below.refl w8.drew.heap.size w8.drew) (.cells #[.int .i64 ((0 : Nat) : Int)] 3)))
        have hS6 : (w8.drew.alloc (.cells #[.int .i64 ((0 : Nat) : Int)] 3)).cell? ⟨gs, 0, none⟩ = some (.slice An2 (0 + 1) cn2) ∧ (w8.drew.alloc (.cells #[.int .i64 ((0 : Nat) : Int)] 3)).cell? ⟨gs, 1, none⟩ = some (.slice Ao 0 co) := ⟨cellV _ _ 0 _ _ _ HA1.out, cellV _ _ 1 _ _ _ HA1.out⟩
        refine hK.out _ _ (fun _ => hS6) (fun _ => ?_)
        clear hK K hS
        try simp only [Act.put, List.setIfInBounds_toArray, List.set_cons_zero, List.set_cons_succ]
        refine stepZ (i := 12) (by kernel_rfl) rfl (fun K hK => ?_)
        refine step_append_lies _ rfl (.tmp 64) (.tmp 71) 88 rfl base 3 i0 (.int .i64 0) 1 8 Tryz.underlying88 HI.out HZ0.out HZ1.out HZ2.out rfl (by decide) _ 0 _ rfl (own_belowK HOP.out (stpA (Below.refl _ _) _) (Nat.le_refl _)) ⟨w8.heap.size, 0, none⟩ 1 1 [.int .i64 ((0 : Nat) : Int)] rfl rfl (new_at w8.drew [.int .i64 ((0 : Nat) : Int)] 3 _ rfl) (by simp [Value.oneCell']) (by decide) (by have := HMB.out; unfold maxLen; omega) (by have := HMB.out; omega) (by have := HBS.out; show base ≤ (World.alloc w8 _).heap.size; rw [World.size_alloc]; exact Nat.le_succ_of_le this) (w8.heap.size + 1) (by show (World.alloc w8 _).heap.size = _; rw [World.size_alloc]) ?_
        intro g9 c9 w9 hown9 hgr9 hor hlt9
        have hpush := (HS8.out.below (Below.refl w8.heap.size w8).drew (Nat.le_refl _) HS8.out.gr.sz).openO (i := 0) HML.out hown9 hgr9 hor
        have HP9 := Lib.hid hpush.1
        have HF9 := Lib.hid hpush.2
        have hgl : w9.heap[gs]? = some (.cells #[.slice An2 (0 + 1) cn2, .slice Ao 0 co, .bool bb] 90 (0, 0)) := (hgr9.block gs (lt_heapP HA1.out) (fun e => by have := (HS8.out.gr.op.lt _ e.symm).1; have := HS8.out.lo; omega)).trans HA1.out
        have k8 : w9.cell? ⟨gs, 0, none⟩ = some (.slice An2 (0 + 1) cn2) ∧ w9.cell? ⟨gs, 1, none⟩ = some (.slice Ao 0 co) := ⟨cellV w9 _ 0 _ _ _ hgl, cellV w9 _ 1 _ _ _ hgl⟩
        have f8 : w9.frozen? ⟨gs, 1, none⟩ = false := freeV w9 _ 1 _ _ hgl
        have k81 := k8.2
        clear hown9 hgr9 hor hgl hpush
        refine hK.out _ _ (fun _ => k8) (fun _ => ?_)
        clear hK K hS6
        try simp only [Act.put, List.setIfInBounds_toArray, List.set_cons_zero, List.set_cons_succ]
        refine stepZ (i := 13) (by kernel_rfl) rfl (fun K hK => ?_)
        go_simp
        refine hK.out _ _ (fun _ => k8) (fun _ => ?_)
        clear hK K
        try simp only [Act.put, List.setIfInBounds_toArray, List.set_cons_zero, List.set_cons_succ]
        refine takeZ (i := 14) (v := .pointer (some ⟨gs, 1, none⟩)) rfl (by kernel_rfl) (by kernel_rfl) (by kernel_rfl) (by kernel_rfl) (fun _ _ _ h => h) (Or.inl ⟨by rfl, ?_⟩) k8 ?_
        · intro w' hSw; (try dsimp only at hSw); go_simp
        try simp only [Act.put, List.setIfInBounds_toArray, List.set_cons_zero, List.set_cons_succ]
        refine stepZ (i := 15) (by kernel_rfl) rfl (fun K hK => ?_)
        go_simp
        refine hK.out _ _ (fun h => absurd rfl h) (fun _ => ?_)
        clear hK K
        try simp only [Act.put, List.setIfInBounds_toArray, List.set_cons_zero, List.set_cons_succ]
        refine doneZ (by kernel_rfl) ?_ _
        refine NoPanic.normal ?_
        go_wp2_with fail
        go_ret
        exact ⟨rfl, (HBB.out.trans HF8.out.bel).trans ((Below.mono (Below.refl w8.heap.size w8).drew HS8.out.above.1).trans HF9.out), wr.heap.size, (⟨⟨1, [], t.name, givenN t.attrs, [], 0⟩, ⟨#[]⟩, x, ⟨#[]⟩, Aa, ca⟩ : NB), _, _, HND.out, by rw [if_neg (by rw [HTK.out]; decide), HNL.out]; exact HP9.out⟩
      · go_wp2_with (first
          | (refine wpList_load_row rfl _ _ rfl bn rfl 32 #[.int .u8 1, .string ⟨#[]⟩, .string x, .slice Aa j ca, .string ⟨#[]⟩, .int .i64 0] (0, 0) _ HBX.out Tryz.underlying32 rfl infoNdP ?_)
          | (go_at_call 92; (with_reducible refine (HPT.out).mono ?_); rintro e8 w8 ⟨rfl, Vn2, hs8, hf8⟩; have HS8 := Lib.hid hs8; have HF8 := Lib.hid hf8; have c0 := cellV w8 _ 0 _ _ _ ((hf8.blk _ HTNE.out.2.2.2 HTNE.out.1 HTNE.out.2.1 HTNE.out.2.2.1).trans HTW.out); clear hs8 hf8)
          | fail)
        go_ret
        exact ⟨rfl, HBB.out.trans HF8.out.bel, wr.heap.size, (⟨⟨1, [], t.name, givenN t.attrs, [], 0⟩, ⟨#[]⟩, x, ⟨#[]⟩, Aa, ca⟩ : NB), _, _, HND.out, by rw [if_pos HTK.out]; exact HS8.out⟩
theorem stkbegin_ok1 (B gs base hi : Nat) (L : List NB) (O : List Nat) (bb : Bool) (Vn Vo : Value) (t : Tk) (x u : ByteArray) (A : Option Addr) (cp : Nat) (w : World) (h : StkSt B gs base hi L O bb Vn Vo w) (ht : TkAt t x u A cp w) (hg : O ≠ []) (h12 : O.length < 12) (hl : L.length ≤ 100000) (hO : ∀ i ∈ O, i < L.length) (hM : ∀ b ∈ L, 0 ≤ b.n.many ∧ b.n.many ≤ 1000000) (hk : t.kind = 1 ∨ t.kind = 3) :
    Calls Tryz.prog 76 #[.pointer (some ⟨gs, 0, none⟩), TkV t x u A cp] w fun e w' => e = .returned (.int .i64 0) ∧ Below B w w' ∧ BgOut B gs base L O bb t w' := by
  obtain ⟨j0, hj0, hy0, hy1, hy2⟩ := info_parts infoAt
  have HJ := Lib.hid hj0
  have HY0 := Lib.hid hy0
  have HY1 := Lib.hid hy1
  have HY2 := Lib.hid hy2
  obtain ⟨i0, hi0, hz0, hz1, hz2⟩ := info_parts infoZ
  have HI := Lib.hid hi0
  have HZ0 := Lib.hid hz0
  have HZ1 := Lib.hid hz1
  have HZ2 := Lib.hid hz2
  obtain ⟨Ao, co, rfl⟩ := own_form2 h.gr.op
  obtain ⟨An, cn, rfl⟩ := own_form2 h.gr.nd
  obtain ⟨n, hn⟩ : ∃ n, L.length = n := ⟨_, rfl⟩
  obtain ⟨m, hm⟩ : ∃ m, O.length = m := ⟨_, rfl⟩
  obtain ⟨na, hna⟩ : ∃ na, t.attrs.length = na := ⟨_, rfl⟩
  obtain ⟨tk, htk⟩ : ∃ tk, t.kind = tk := ⟨_, rfl⟩
  have bm : (0 : Int) < (m : Int) ∧ (m : Int) < 12 := by
    have := List.length_pos_iff.2 hg
    omega
  have bn0 : (0 : Int) ≤ (n : Int) ∧ (n : Int) ≤ 100000 := by omega
  have fm : ((m : Int) == 0) = false := by simp; omega
  have fm2 : ((m : Int) == 12) = false := by simp; omega
  have fm3 : ¬ (m : Int) = 0 := by omega
  have fm4 : ¬ (m : Int) = 12 := by omega
  have bna : (0 : Int) ≤ (na : Int) ∧ (na : Int) ≤ 1000000 := by have := ht.al; omega
  unfold TkV
  rw [hna, htk]
  rw [htk] at hk
  have HTK := Lib.hid htk
  obtain ⟨W0, hW0⟩ : ∃ W0, w.alloc (.cells #[.int .u8 (tk : Int), .string x, .slice A na cp, .string u] 84) = W0 := ⟨_, rfl⟩
  have HBE : Hid (Below w.heap.size w W0) := Lib.hid (by rw [← hW0]; exact stpA (Below.refl _ _) _)
  have HTB : Hid (W0.heap[w.heap.size]? = some (.cells #[.int .u8 (tk : Int), .string x, .slice A na cp, .string u] 84 (0, 0))) := Lib.hid (by rw [← hW0]; exact heap_alloc_new _ _)
  have HST := Lib.hid h
  have HTA := Lib.hid ht
  have HNA := Lib.hid hna
  have HNL := Lib.hid hn
  have HML := Lib.hid hm
  have HOO := Lib.hid hO
  have HMM := Lib.hid hM
  have HKK := Lib.hid hk
  have hg0 := kept_heap h.box HBE.out
  rw [hn, hm] at hg0
  have k0 := cellV W0 _ 0 _ _ _ hg0
  have k1 := cellV W0 _ 1 _ _ _ hg0
  have t1 := cellV W0 _ 1 _ _ _ HTB.out
  have HXN : Hid (x.size ≤ 1000000) := Lib.hid ht.ns
  have HTBL : Hid (∀ W, Below W0.heap.size W0 W → W.heap[w.heap.size]? = some (.cells #[.int .u8 (tk : Int), .string x, .slice A na cp, .string u] 84 (0, 0))) := Lib.hid fun W hW => kept_heap HTB.out hW
  clear h ht hg h12 hl hO hM hk hj0 hy0 hy1 hy2 hi0 hz0 hz1 hz2 hna hn hm hg0 htk
  go_enter Tryz.func76, Tryz.ntmps76
  go_upto_region 6 with (first
    | (go_at_call 38; (with_reducible refine (clone9 x _ HXN.out).mono ?_); rintro e2 w2 ⟨rfl, hb2⟩; have HB2 := Lib.hid hb2; clear hb2)
    | fail)
  obtain ⟨W3, hW3⟩ : ∃ W3, w2.alloc (.cells #[.int .u8 1, .string ⟨#[]⟩, .string x, .slice none 0 0, .string ⟨#[]⟩, .int .i64 0] 32) = W3 := ⟨_, rfl⟩
  obtain ⟨bn, hbn⟩ : ∃ bn, w2.heap.size = bn := ⟨_, rfl⟩
  have HB3 : Hid (Below w2.heap.size w2 W3) := Lib.hid (by rw [← hW3]; exact stpA (Below.refl _ _) _)
  have HBN := Lib.hid hbn
  have HSZ3 : Hid (W3.heap.size = bn + 1) := Lib.hid (by rw [← hW3, World.size_alloc, hbn])
  have HA0 : Hid (AtrSt (bn + 1) bn x t.attrs 0 (.slice none 0 0) W3 W3) := Lib.hid ⟨by rw [← hW3, ← hbn]; exact heap_alloc_new w2 _, World.ownsRow_nil _ _ _ _, fun _ _ _ => rfl, ⟨by omega, by rw [HSZ3.out]; exact Nat.le_refl _⟩, Below.refl _ _⟩
  rw [hW3]
  (try rw [hbn])
  have t2 := cellV W3 _ 2 _ _ _ (HTBL.out _ (stp HB2.out HB3.out))
  clear hW3 hbn k0 k1 t1
  go_wp2_with fail
  go_loopg [37] na (fun gg i wr => ∃ (j : Nat) (V' : Value), j + gg = na ∧ i = .int .i64 j ∧ AtrSt (bn + 1) bn x t.attrs j V' W3 wr)
  case atStart => exact ⟨0, _, by omega, rfl, HA0.out⟩
  case round =>
    obtain ⟨j, V', hjg, rfl, hat⟩ := hrel
    obtain ⟨Aa, ca, rfl⟩ := own_form2 hat.own
    have HAT := Lib.hid hat
    have HWA := Lib.hid HST.out.above
    have hW3s := HB2.out.size
    have hW0s := HBE.out.size
    have HFW : Hid (∀ q, q < w.heap.size → wr.heap[q]? = w.heap[q]?) := Lib.hid fun q hq => (hat.oth q (by have := HBN.out; omega) (by have := HBN.out; omega)).trans (((stp HBE.out (stp HB2.out HB3.out)).block q hq))
    have HFB : Hid (∀ q, q < bn → wr.heap[q]? = W3.heap[q]?) := Lib.hid fun q hq => hat.oth q (by omega) (by omega)
    have HWR : Hid (bn + 1 ≤ wr.heap.size) := Lib.hid (Nat.le_trans hat.lt.2 hat.bel.size)
    have HBW : Hid (w.heap.size + 1 ≤ bn) := Lib.hid (by have := HBN.out; have := lt_heapP HTB.out; omega)
    by_cases hlt : j < na
    · have hlt2 : (j : Int) < (na : Int) := by omega
      have hjl : j < t.attrs.length := by rw [HNA.out]; exact hlt
      obtain ⟨b1, of1, s, v, hA, hb1, hc0, hc1, hs, hv⟩ := pr_atP HTA.out.attrs hjl
      have HSS : Hid (s.size ≤ 1000000) := Lib.hid (by rw [← ba_len5, hs]; exact (HTA.out.sz _ (List.getElem_mem hjl)).1)
      have HSV : Hid (v.size ≤ 1000000) := Lib.hid (by rw [← ba_len5, hv]; exact (HTA.out.sz _ (List.getElem_mem hjl)).2)
      have HPN := Lib.hid hs
      have HPV := Lib.hid hv
      have HJL := Lib.hid hjl
      have HJB : Hid (j ≤ 1000000) := Lib.hid (by omega)
      have p0 := (cell_blkP (o := of1 + j * 2) (HFW.out b1 hb1)).trans hc0
      have p1 := (cell_blkP (o := of1 + j * 2 + 1) (HFW.out b1 hb1)).trans hc1
      obtain ⟨bp, hbp⟩ : ∃ bp, wr.heap.size = bp := ⟨_, rfl⟩
      have HBP : Hid (some bp ≠ (Value.slice Aa j ca).ownBlock) := Lib.hid fun e => by have := (hat.own.lt _ e.symm).2; omega
      obtain ⟨W4, hW4⟩ : ∃ W4, wr.alloc (.cells #[.string s, .string v] 111) = W4 := ⟨_, rfl⟩
      have HA4 := Lib.hid (hat.below (by rw [← hW4]; exact stpA (Below.refl _ _) _ : Below wr.heap.size wr W4))
      have HP4 : Hid (W4.heap[bp]? = some (.cells #[.string s, .string v] 111 (0, 0))) := Lib.hid (by rw [← hW4, ← hbp]; exact heap_alloc_new wr _)
      have bj : (0 : Int) ≤ (j : Int) := by omega
      subst hA
      clear hat hs hv hc0 hc1 hb1 hW3s hW0s
      go_wp2_with fail
      (try rw [hW4])
      (try rw [hbp])
      clear hW4 hbp
      refine wp_region_noPanic ?_
      refine wp_region_Z (fun W => W.cell? ⟨bn, 3, none⟩ = some (.slice Aa j ca) ∧ W.cell? ⟨bp, 0, none⟩ = some (.string s) ∧ W.cell? ⟨bp, 1, none⟩ = some (.string v)) 12 (by kernel_rfl) ?_
      have hS : W4.drew.cell? ⟨bn, 3, none⟩ = some (.slice Aa j ca) ∧ W4.drew.cell? ⟨bp, 0, none⟩ = some (.string s) ∧ W4.drew.cell? ⟨bp, 1, none⟩ = some (.string v) := ⟨cellV W4.drew _ 3 _ _ _ HA4.out.box, cellV W4.drew _ 0 _ _ _ HP4.out, cellV W4.drew _ 1 _ _ _ HP4.out⟩
      refine takeZ (i := 0) (v := .pointer (some ⟨bn, 3, none⟩)) rfl (by kernel_rfl) (by kernel_rfl) (by kernel_rfl) (by kernel_rfl) (fun _ _ _ h => h) (Or.inl ⟨by rfl, ?_⟩) hS ?_
      · intro w' hSw; (try dsimp only at hSw); go_simp
      try simp only [Act.put, List.setIfInBounds_toArray, List.set_cons_zero, List.set_cons_succ]
      refine takeZ (i := 1) (v := .slice Aa j ca) rfl (by kernel_rfl) (by kernel_rfl) (by kernel_rfl) (by kernel_rfl) (fun _ _ _ h => h) (Or.inl ⟨by rfl, ?_⟩) hS ?_
      · intro w' hSw; (try dsimp only at hSw); go_simp
      try simp only [Act.put, List.setIfInBounds_toArray, List.set_cons_zero, List.set_cons_succ]
      refine takeZ (i := 2) (v := .pointer (some ⟨bp, 0, none⟩)) rfl (by kernel_rfl) (by kernel_rfl) (by kernel_rfl) (by kernel_rfl) (fun _ _ _ h => h) (Or.inl ⟨by rfl, ?_⟩) hS ?_
      · intro w' hSw; (try dsimp only at hSw); go_simp
      try simp only [Act.put, List.setIfInBounds_toArray, List.set_cons_zero, List.set_cons_succ]
      refine takeZ (i := 3) (v := .string s) rfl (by kernel_rfl) (by kernel_rfl) (by kernel_rfl) (by kernel_rfl) (fun _ _ _ h => h) (Or.inl ⟨by rfl, ?_⟩) hS ?_
      · intro w' hSw; (try dsimp only at hSw); go_simp
      try simp only [Act.put, List.setIfInBounds_toArray, List.set_cons_zero, List.set_cons_succ]
      refine takeZ (i := 5) (v := .pointer (some ⟨bp, 1, none⟩)) rfl (by kernel_rfl) (by kernel_rfl) (by kernel_rfl) (by kernel_rfl) (fun _ _ _ h => h) (Or.inl ⟨by rfl, ?_⟩) hS ?_
      · intro w' hSw; (try dsimp only at hSw); go_simp
      try simp only [Act.put, List.setIfInBounds_toArray, List.set_cons_zero, List.set_cons_succ]
      refine takeZ (i := 6) (v := .string v) rfl (by kernel_rfl) (by kernel_rfl) (by kernel_rfl) (by kernel_rfl) (fun _ _ _ h => h) (Or.inl ⟨by rfl, ?_⟩) hS ?_
      · intro w' hSw; (try dsimp only at hSw); go_simp
      try simp only [Act.put, List.setIfInBounds_toArray, List.set_cons_zero, List.set_cons_succ]
      refine stepZ (i := 4) (by kernel_rfl) rfl (fun K hK => ?_)
      go_simp
      go_at_call 38; (with_reducible refine (clone9 s _ HSS.out).mono ?_); rintro e5 w5 ⟨rfl, hb5⟩
      have HB5 : Hid (Below W4.drew.heap.size W4.drew w5) := Lib.hid hb5
      clear hb5
      have HA5 := Lib.hid (HA4.out.below (stp (Below.refl _ _).drew HB5.out))
      have HP5 := Lib.hid (kept_heap HP4.out (stp (Below.refl _ _).drew HB5.out))
      have hS5 : w5.cell? ⟨bn, 3, none⟩ = some (.slice Aa j ca) ∧ w5.cell? ⟨bp, 0, none⟩ = some (.string s) ∧ w5.cell? ⟨bp, 1, none⟩ = some (.string v) := ⟨cellV w5 _ 3 _ _ _ HA5.out.box, cellV w5 _ 0 _ _ _ HP5.out, cellV w5 _ 1 _ _ _ HP5.out⟩
      go_wp2_with fail
      refine hK.out _ _ (fun _ => hS5) (fun _ => ?_)
      clear hK K hS
      try simp only [Act.put, List.setIfInBounds_toArray, List.set_cons_zero, List.set_cons_succ]
      refine stepZ (i := 7) (by kernel_rfl) rfl (fun K hK => ?_)
      go_simp
      go_at_call 38; (with_reducible refine (clone9 v _ HSV.out).mono ?_); rintro e6 w6 ⟨rfl, hb6⟩
      have HB6 : Hid (Below w5.heap.size w5 w6) := Lib.hid hb6
      clear hb6
      have HA6 := Lib.hid (HA5.out.below HB6.out)
      have HP6 := Lib.hid (kept_heap HP5.out HB6.out)
      have hS6 : w6.cell? ⟨bn, 3, none⟩ = some (.slice Aa j ca) ∧ w6.cell? ⟨bp, 0, none⟩ = some (.string s) ∧ w6.cell? ⟨bp, 1, none⟩ = some (.string v) := ⟨cellV w6 _ 3 _ _ _ HA6.out.box, cellV w6 _ 0 _ _ _ HP6.out, cellV w6 _ 1 _ _ _ HP6.out⟩
      go_wp2_with fail
      refine hK.out _ _ (fun _ => hS6) (fun _ => ?_)
      clear hK K hS5
      try simp only [Act.put, List.setIfInBounds_toArray, List.set_cons_zero, List.set_cons_succ]
      refine takeZ (i := 8) (v := .agg #[.string ⟨#[]⟩, .string s, .string v]) rfl (by kernel_rfl) (by kernel_rfl) (by kernel_rfl) (by kernel_rfl) (fun _ _ _ h => h) (Or.inl ⟨by rfl, ?_⟩) hS6 ?_
      · intro w' hSw; (try dsimp only at hSw); go_simp
      try simp only [Act.put, List.setIfInBounds_toArray, List.set_cons_zero, List.set_cons_succ]
      refine stepZ (i := 9) (by kernel_rfl) rfl (fun K hK => ?_)
      go_simp
      have HA7 := Lib.hid (HA6.out.below (stpA (Below.refl w6.heap.size w6) (.cells #[.string ⟨#[]⟩, .string s, .string v] 34)))
      have HP7 := Lib.hid (kept_heap HP6.out (stpA (Below.refl w6.heap.size w6) (.cells #[.string ⟨#[]⟩, .string s, .string v] 34)))
      have hS7 : (w6.alloc (.cells #[.string ⟨#[]⟩, .string s, .string v] 34)).cell? ⟨bn, 3, none⟩ = some (.slice Aa j ca) ∧ (w6.alloc (.cells #[.string ⟨#[]⟩, .string s, .string v] 34)).cell? ⟨bp, 0, none⟩ = some (.string s) ∧ (w6.alloc (.cells #[.string ⟨#[]⟩, .string s, .string v] 34)).cell? ⟨bp, 1, none⟩ = some (.string v) := ⟨cellV (w6.alloc (.cells #[.string ⟨#[]⟩, .string s, .string v] 34)) _ 3 _ _ _ HA7.out.box, cellV (w6.alloc (.cells #[.string ⟨#[]⟩, .string s, .string v] 34)) _ 0 _ _ _ HP7.out, cellV (w6.alloc (.cells #[.string ⟨#[]⟩, .string s, .string v] 34)) _ 1 _ _ _ HP7.out⟩
      refine hK.out _ _ (fun _ => hS7) (fun _ => ?_)
      clear hK K hS6
      try simp only [Act.put, List.setIfInBounds_toArray, List.set_cons_zero, List.set_cons_succ]
      refine stepZ (i := 10) (by kernel_rfl) rfl (fun K hK => ?_)
      have HSZ : Hid ((bn + 1) ≤ w6.heap.size) := Lib.hid (Nat.le_trans HA6.out.lt.2 HA6.out.bel.size)
      refine step_append_lies _ rfl (.tmp 42) (.tmp 50) 30 rfl (bn + 1) 34 j0 (.agg #[.string ⟨#[]⟩, .string ⟨#[]⟩, .string ⟨#[]⟩]) 3 48 Tryz.underlying30 HJ.out HY0.out HY1.out HY2.out rfl (by decide) _ j _ rfl (own_belowK HA6.out.own (stpA (Below.refl _ _) _) (Nat.le_refl _)) ⟨w6.heap.size, 0, none⟩ 1 1 [.string ⟨#[]⟩, .string s, .string v] rfl rfl (new_at w6 [.string ⟨#[]⟩, .string s, .string v] 34 _ rfl) (by simp [Value.oneCell']) (by decide) (by have := HJB.out; unfold maxLen; omega) (by have := HJB.out; omega) (by have := HSZ.out; rw [World.size_alloc]; omega) (w6.heap.size + 1) (by rw [World.size_alloc]) ?_
      intro g8 c8 w8 hown8 hgr8 hor hlt8
      have HP8 := Lib.hid (HA6.out.push HJL.out HPN.out HPV.out hown8 hgr8)
      have st8 : ∀ (q : Nat) (o : Obj), q < (bn + 1) → w6.heap[q]? = some o → w8.heap[q]? = some o := fun q o hq ho => by
        have h1 := kept_heap ho (stpA (Below.refl w6.heap.size w6) (.cells #[.string ⟨#[]⟩, .string s, .string v] 34))
        exact (hgr8.block _ (Array.getElem?_eq_some_iff.1 h1).1 (fun e => by have := (HA6.out.own.lt _ e.symm).1; omega)).trans h1
      have hbn8 := st8 bn _ HA6.out.lt.1 HA6.out.box
      have hbp8 : w8.heap[bp]? = some (.cells #[.string s, .string v] 111 (0, 0)) := (hgr8.block bp (by rw [World.size_alloc]; have := lt_heapP HP6.out; omega) (fun e => HBP.out e)).trans (kept_heap HP6.out (stpA (Below.refl w6.heap.size w6) (.cells #[.string ⟨#[]⟩, .string s, .string v] 34)))
      have k8 : w8.cell? ⟨bn, 3, none⟩ = some (.slice Aa j ca) ∧ w8.cell? ⟨bp, 0, none⟩ = some (.string s) ∧ w8.cell? ⟨bp, 1, none⟩ = some (.string v) := ⟨cellV w8 _ 3 _ _ _ hbn8, cellV w8 _ 0 _ _ _ hbp8, cellV w8 _ 1 _ _ _ hbp8⟩
      have f8 : w8.frozen? ⟨bn, 3, none⟩ = false := freeV w8 _ 3 _ _ hbn8
      have k81 := k8.1
      clear hown8 hgr8 hor hbn8 hbp8 st8
      refine hK.out _ _ (fun _ => k8) (fun _ => ?_)
      clear hK K hS7
      try simp only [Act.put, List.setIfInBounds_toArray, List.set_cons_zero, List.set_cons_succ]
      refine takeZ (i := 11) (v := .pointer (some ⟨bn, 3, none⟩)) rfl (by kernel_rfl) (by kernel_rfl) (by kernel_rfl) (by kernel_rfl) (fun _ _ _ h => h) (Or.inl ⟨by rfl, ?_⟩) k8 ?_
      · intro w' hSw; (try dsimp only at hSw); go_simp
      try simp only [Act.put, List.setIfInBounds_toArray, List.set_cons_zero, List.set_cons_succ]
      refine stepZ (i := 12) (by kernel_rfl) rfl (fun K hK => ?_)
      go_simp
      refine hK.out _ _ (fun h => absurd rfl h) (fun _ => ?_)
      clear hK K
      try simp only [Act.put, List.setIfInBounds_toArray, List.set_cons_zero, List.set_cons_succ]
      refine doneZ (by kernel_rfl) ?_ _
      refine NoPanic.normal ?_
      go_wp2_with fail
      go_roundg (gk - 1)
      case measure => omega
      case rel => exact ⟨j + 1, _, by omega, by go_num, HP8.out⟩
    · obtain rfl : j = na := by omega
      have hjj : ¬ ((j : Int) < (j : Int)) := by omega
      have hab := HST.out.above
      have hgl : (givenN t.attrs).length = j := by unfold givenN; rw [List.length_map, HNA.out]
      have hSr : ∀ q, bn + 1 ≤ q → q < wr.heap.size → (base ≤ q ∧ q < wr.heap.size ∧ some q ≠ (Value.slice An n cn).ownBlock ∧ some q ≠ (Value.slice Ao m co).ownBlock) := fun q h1 h2 => ⟨by have := HBW.out; omega, h2, fun e => by have := (hab.2.2.2.1 q (by rw [HNL.out]; exact e.symm)).2; have := HBW.out; omega, fun e => by have := (hab.2.2.2.2 q (by rw [HML.out]; exact e.symm)).2; have := HBW.out; omega⟩
      have hnd := hat.node HNA.out HTA.out.name hSr
      have hst := HST.out.far (hi' := wr.heap.size) HFW.out (Nat.le_trans HST.out.gr.sz (by have := HWR.out; have := HBW.out; omega)) (Nat.le_refl _)
      rw [HNL.out, HML.out] at hst
      have HPT : Hid (Calls Tryz.prog 92 #[.pointer (some ⟨gs, 0, none⟩), .agg #[.int .u8 1, .string ⟨#[]⟩, .string x, .slice Aa j ca, .string ⟨#[]⟩, .int .i64 0]] wr fun e w' => e = .returned (.tuple #[]) ∧ ∃ Vn', StkSt B gs base wr.heap.size (bumpL O L ++ [(⟨⟨1, [], t.name, givenN t.attrs, [], 0⟩, ⟨#[]⟩, x, ⟨#[]⟩, Aa, ca⟩ : NB)]) O bb Vn' (.slice Ao m co) w' ∧ FrP B gs (.slice An n cn) (.slice Ao m co) wr Vn' (.slice Ao m co) w') := Lib.hid (by
        have h9 := stkput B gs base wr.heap.size L O bb (.slice An n cn) (.slice Ao m co) (⟨⟨1, [], t.name, givenN t.attrs, [], 0⟩, ⟨#[]⟩, x, ⟨#[]⟩, Aa, ca⟩ : NB) wr hst hnd (by have := HNL.out; omega) (by have := HML.out; omega) HOO.out HMM.out
        dsimp only at h9
        rw [hgl] at h9
        exact h9)
      have HBX := Lib.hid hat.box
      have HTW : Hid (wr.heap[w.heap.size]? = some (.cells #[.int .u8 (tk : Int), .string x, .slice A j cp, .string u] 84 (0, 0))) := Lib.hid ((HFB.out _ (by have := HBW.out; omega)).trans (HTBL.out _ (stp HB2.out HB3.out)))
      have HTNE : Hid (w.heap.size ≠ gs ∧ some w.heap.size ≠ (Value.slice An n cn).ownBlock ∧ some w.heap.size ≠ (Value.slice Ao m co).ownBlock ∧ w.heap.size < wr.heap.size) := Lib.hid ⟨by omega, fun e => by have := (hab.2.2.2.1 _ (by rw [HNL.out]; exact e.symm)).2; omega, fun e => by have := (hab.2.2.2.2 _ (by rw [HML.out]; exact e.symm)).2; omega, by have := HWR.out; have := HBW.out; omega⟩
      have HBB : Hid (Below B w wr) := Lib.hid (((stp HBE.out (stp HB2.out HB3.out)).mono hab.1).trans (hat.bel.mono (by have := HBW.out; omega)))
      have HLEN : Hid ((bumpL O L ++ [(⟨⟨1, [], t.name, givenN t.attrs, [], 0⟩, ⟨#[]⟩, x, ⟨#[]⟩, Aa, ca⟩ : NB)]).length = n + 1) := Lib.hid (by rw [List.length_append, bumpL_len, HNL.out]; rfl)
      have HND : Hid ((⟨1, [], t.name, givenN t.attrs, [], 0⟩ : Nd) = nodeT t) := Lib.hid (by unfold nodeT; rw [if_neg (by have := HTK.out; have := HKK.out; omega)])
      clear hat hab hgl hSr hnd hst hW3s hW0s t2
      rcases HKK.out with rfl | rfl
      · go_upto_region 13 with (first
          | (refine wpList_load_row rfl _ _ rfl bn rfl 32 #[.int .u8 1, .string ⟨#[]⟩, .string x, .slice Aa j ca, .string ⟨#[]⟩, .int .i64 0] (0, 0) _ HBX.out Tryz.underlying32 rfl infoNdP ?_)
          | (go_at_call 92; (with_reducible refine (HPT.out).mono ?_); rintro e8 w8 ⟨rfl, Vn2, hs8, hf8⟩; have HS8 := Lib.hid hs8; have HF8 := Lib.hid hf8; have c0 := cellV w8 _ 0 _ _ _ ((hf8.blk _ HTNE.out.2.2.2 HTNE.out.1 HTNE.out.2.1 HTNE.out.2.2.1).trans HTW.out); clear hs8 hf8)
          | fail)
        obtain ⟨An2, cn2, rfl⟩ := own_form2 HS8.out.gr.nd
        rw [HLEN.out] at HS8 HF8
        have HBS : Hid (base ≤ w8.heap.size) := Lib.hid HS8.out.above.2.2.1
        have HMB : Hid (m ≤ 100000) := Lib.hid (by omega)
        have HOP : Hid (w8.drew.ownsRow base 3 1 (.slice Ao m co) m ((zs O).map encZ)) := Lib.hid (by have := HS8.out.gr.op; rw [HML.out] at this; exact this)
        have wn1 : IntKind.i64.wrap ((n : Nat) : Int) = ((n : Nat) : Int) := IntWalk.i64_in _ (by omega)
        have wn2 : IntKind.i64.wrap 0 = 0 := by decide
        refine wp_region_noPanic ?_
        refine wp_region_Z (fun W => W.cell? ⟨gs, 0, none⟩ = some (.slice An2 (n + 1) cn2) ∧ W.cell? ⟨gs, 1, none⟩ = some (.slice Ao m co)) 15 (by kernel_rfl) ?_
        have hS : w8.drew.cell? ⟨gs, 0, none⟩ = some (.slice An2 (n + 1) cn2) ∧ w8.drew.cell? ⟨gs, 1, none⟩ = some (.slice Ao m co) := ⟨cellV w8.drew _ 0 _ _ _ HS8.out.box, cellV w8.drew _ 1 _ _ _ HS8.out.box⟩
        refine takeZ (i := 0) (v := .pointer (some ⟨gs, 0, none⟩)) rfl (by kernel_rfl) (by kernel_rfl) (by kernel_rfl) (by kernel_rfl) (fun _ _ _ h => h) (Or.inl ⟨by rfl, ?_⟩) hS ?_
        · intro w' hSw; (try dsimp only at hSw); go_simp
        try simp only [Act.put, List.setIfInBounds_toArray, List.set_cons_zero, List.set_cons_succ]
        refine takeZ (i := 1) (v := .pointer (some ⟨gs, 0, none⟩)) rfl (by kernel_rfl) (by kernel_rfl) (by kernel_rfl) (by kernel_rfl) (fun _ _ _ h => h) (Or.inl ⟨by rfl, ?_⟩) hS ?_
        · intro w' hSw; (try dsimp only at hSw); go_simp
        try simp only [Act.put, List.setIfInBounds_toArray, List.set_cons_zero, List.set_cons_succ]
        refine takeZ (i := 2) (v := .pointer (some ⟨gs, 0, none⟩)) rfl (by kernel_rfl) (by kernel_rfl) (by kernel_rfl) (by kernel_rfl) (fun _ _ _ h => h) (Or.inl ⟨by rfl, ?_⟩) hS ?_
        · intro w' hSw; (try dsimp only at hSw); go_simp
        try simp only [Act.put, List.setIfInBounds_toArray, List.set_cons_zero, List.set_cons_succ]
        refine takeZ (i := 3) (v := .pointer (some ⟨gs, 1, none⟩)) rfl (by kernel_rfl) (by kernel_rfl) (by kernel_rfl) (by kernel_rfl) (fun _ _ _ h => h) (Or.inl ⟨by rfl, ?_⟩) hS ?_
        · intro w' hSw; (try dsimp only at hSw); go_simp
        try simp only [Act.put, List.setIfInBounds_toArray, List.set_cons_zero, List.set_cons_succ]
        refine takeZ (i := 4) (v := .slice Ao m co) rfl (by kernel_rfl) (by kernel_rfl) (by kernel_rfl) (by kernel_rfl) (fun _ _ _ h => h) (Or.inl ⟨by rfl, ?_⟩) hS ?_
        · intro w' hSw; (try dsimp only at hSw); go_simp
        try simp only [Act.put, List.setIfInBounds_toArray, List.set_cons_zero, List.set_cons_succ]
        refine takeZ (i := 5) (v := .pointer (some ⟨gs, 0, none⟩)) rfl (by kernel_rfl) (by kernel_rfl) (by kernel_rfl) (by kernel_rfl) (fun _ _ _ h => h) (Or.inl ⟨by rfl, ?_⟩) hS ?_
        · intro w' hSw; (try dsimp only at hSw); go_simp
        try simp only [Act.put, List.setIfInBounds_toArray, List.set_cons_zero, List.set_cons_succ]
        refine takeZ (i := 6) (v := .pointer (some ⟨gs, 0, none⟩)) rfl (by kernel_rfl) (by kernel_rfl) (by kernel_rfl) (by kernel_rfl) (fun _ _ _ h => h) (Or.inl ⟨by rfl, ?_⟩) hS ?_
        · intro w' hSw; (try dsimp only at hSw); go_simp
        try simp only [Act.put, List.setIfInBounds_toArray, List.set_cons_zero, List.set_cons_succ]
        refine takeZ (i := 7) (v := .pointer (some ⟨gs, 0, none⟩)) rfl (by kernel_rfl) (by kernel_rfl) (by kernel_rfl) (by kernel_rfl) (fun _ _ _ h => h) (Or.inl ⟨by rfl, ?_⟩) hS ?_
        · intro w' hSw; (try dsimp only at hSw); go_simp
        try simp only [Act.put, List.setIfInBounds_toArray, List.set_cons_zero, List.set_cons_succ]
        refine takeZ (i := 8) (v := .slice An2 (n + 1) cn2) rfl (by kernel_rfl) (by kernel_rfl) (by kernel_rfl) (by kernel_rfl) (fun _ _ _ h => h) (Or.inl ⟨by rfl, ?_⟩) hS ?_
        · intro w' hSw; (try dsimp only at hSw); go_simp
        try simp only [Act.put, List.setIfInBounds_toArray, List.set_cons_zero, List.set_cons_succ]
        refine takeZ (i := 9) (v := .int .i64 ((n + 1 : Nat) : Int)) rfl (by kernel_rfl) (by kernel_rfl) (by kernel_rfl) (by kernel_rfl) (fun _ _ _ h => h) (Or.inl ⟨by rfl, ?_⟩) hS ?_
        · intro w' hSw; (try dsimp only at hSw); go_simp
        try simp only [Act.put, List.setIfInBounds_toArray, List.set_cons_zero, List.set_cons_succ]
        refine takeZ (i := 10) (v := .int .i64 ((n : Nat) : Int)) rfl (by kernel_rfl) (by kernel_rfl) (by kernel_rfl) (by kernel_rfl) (fun _ _ _ h => h) (Or.inl ⟨by rfl, ?_⟩) hS ?_
        · intro w' hSw; (try dsimp only at hSw); go_simp
        try simp only [Act.put, List.setIfInBounds_toArray, List.set_cons_zero, List.set_cons_succ]
        refine stepZ (i := 11) (by kernel_rfl) rfl (fun K hK => ?_)
        go_simp
        have HA1 := Lib.hid (kept_heap (a := w8.drew) HS8.out.box (stpA (Below.refl w8.drew.heap.size w8.drew) (.cells #[.int .i64 ((n : Nat) : Int)] 3)))
        have hS6 : (w8.drew.alloc (.cells #[.int .i64 ((n : Nat) : Int)] 3)).cell? ⟨gs, 0, none⟩ = some (.slice An2 (n + 1) cn2) ∧ (w8.drew.alloc (.cells #[.int .i64 ((n : Nat) : Int)] 3)).cell? ⟨gs, 1, none⟩ = some (.slice Ao m co) := ⟨cellV _ _ 0 _ _ _ HA1.out, cellV _ _ 1 _ _ _ HA1.out⟩
        refine hK.out _ _ (fun _ => hS6) (fun _ => ?_)
        clear hK K hS
        try simp only [Act.put, List.setIfInBounds_toArray, List.set_cons_zero, List.set_cons_succ]
        refine stepZ (i := 12) (by kernel_rfl) rfl (fun K hK => ?_)
        refine step_append_lies _ rfl (.tmp 64) (.tmp 71) 88 rfl base 3 i0 (.int .i64 0) 1 8 Tryz.underlying88 HI.out HZ0.out HZ1.out HZ2.out rfl (by decide) _ m _ rfl (own_belowK HOP.out (stpA (Below.refl _ _) _) (Nat.le_refl _)) ⟨w8.heap.size, 0, none⟩ 1 1 [.int .i64 ((n : Nat) : Int)] rfl rfl (new_at w8.drew [.int .i64 ((n : Nat) : Int)] 3 _ rfl) (by simp [Value.oneCell']) (by decide) (by have := HMB.out; unfold maxLen; omega) (by have := HMB.out; omega) (by have := HBS.out; show base ≤ (World.alloc w8 _).heap.size; rw [World.size_alloc]; exact Nat.le_succ_of_le this) (w8.heap.size + 1) (by show (World.alloc w8 _).heap.size = _; rw [World.size_alloc]) ?_
        intro g9 c9 w9 hown9 hgr9 hor hlt9
        have hpush := (HS8.out.below (Below.refl w8.heap.size w8).drew (Nat.le_refl _) HS8.out.gr.sz).openO (i := n) HML.out hown9 hgr9 hor
        have HP9 := Lib.hid hpush.1
        have HF9 := Lib.hid hpush.2
        have hgl : w9.heap[gs]? = some (.cells #[.slice An2 (n + 1) cn2, .slice Ao m co, .bool bb] 90 (0, 0)) := (hgr9.block gs (lt_heapP HA1.out) (fun e => by have := (HS8.out.gr.op.lt _ e.symm).1; have := HS8.out.lo; omega)).trans HA1.out
        have k8 : w9.cell? ⟨gs, 0, none⟩ = some (.slice An2 (n + 1) cn2) ∧ w9.cell? ⟨gs, 1, none⟩ = some (.slice Ao m co) := ⟨cellV w9 _ 0 _ _ _ hgl, cellV w9 _ 1 _ _ _ hgl⟩
        have f8 : w9.frozen? ⟨gs, 1, none⟩ = false := freeV w9 _ 1 _ _ hgl
        have k81 := k8.2
        clear hown9 hgr9 hor hgl hpush
        refine hK.out _ _ (fun _ => k8) (fun _ => ?_)
        clear hK K hS6
        try simp only [Act.put, List.setIfInBounds_toArray, List.set_cons_zero, List.set_cons_succ]
        refine stepZ (i := 13) (by kernel_rfl) rfl (fun K hK => ?_)
        go_simp
        refine hK.out _ _ (fun _ => k8) (fun _ => ?_)
        clear hK K
        try simp only [Act.put, List.setIfInBounds_toArray, List.set_cons_zero, List.set_cons_succ]
        refine takeZ (i := 14) (v := .pointer (some ⟨gs, 1, none⟩)) rfl (by kernel_rfl) (by kernel_rfl) (by kernel_rfl) (by kernel_rfl) (fun _ _ _ h => h) (Or.inl ⟨by rfl, ?_⟩) k8 ?_
        · intro w' hSw; (try dsimp only at hSw); go_simp
        try simp only [Act.put, List.setIfInBounds_toArray, List.set_cons_zero, List.set_cons_succ]
        refine stepZ (i := 15) (by kernel_rfl) rfl (fun K hK => ?_)
        go_simp
        refine hK.out _ _ (fun h => absurd rfl h) (fun _ => ?_)
        clear hK K
        try simp only [Act.put, List.setIfInBounds_toArray, List.set_cons_zero, List.set_cons_succ]
        refine doneZ (by kernel_rfl) ?_ _
        refine NoPanic.normal ?_
        go_wp2_with fail
        go_ret
        exact ⟨rfl, (HBB.out.trans HF8.out.bel).trans ((Below.mono (Below.refl w8.heap.size w8).drew HS8.out.above.1).trans HF9.out), wr.heap.size, (⟨⟨1, [], t.name, givenN t.attrs, [], 0⟩, ⟨#[]⟩, x, ⟨#[]⟩, Aa, ca⟩ : NB), _, _, HND.out, by rw [if_neg (by rw [HTK.out]; decide), HNL.out]; exact HP9.out⟩
      · go_wp2_with (first
          | (refine wpList_load_row rfl _ _ rfl bn rfl 32 #[.int .u8 1, .string ⟨#[]⟩, .string x, .slice Aa j ca, .string ⟨#[]⟩, .int .i64 0] (0, 0) _ HBX.out Tryz.underlying32 rfl infoNdP ?_)
          | (go_at_call 92; (with_reducible refine (HPT.out).mono ?_); rintro e8 w8 ⟨rfl, Vn2, hs8, hf8⟩; have HS8 := Lib.hid hs8; have HF8 := Lib.hid hf8; have c0 := cellV w8 _ 0 _ _ _ ((hf8.blk _ HTNE.out.2.2.2 HTNE.out.1 HTNE.out.2.1 HTNE.out.2.2.1).trans HTW.out); clear hs8 hf8)
          | fail)
        go_ret
        exact ⟨rfl, HBB.out.trans HF8.out.bel, wr.heap.size, (⟨⟨1, [], t.name, givenN t.attrs, [], 0⟩, ⟨#[]⟩, x, ⟨#[]⟩, Aa, ca⟩ : NB), _, _, HND.out, by rw [if_pos HTK.out]; exact HS8.out⟩
end Hx
end Go.Proofs.YtlhjcdkkmloamaaGreatDoor
