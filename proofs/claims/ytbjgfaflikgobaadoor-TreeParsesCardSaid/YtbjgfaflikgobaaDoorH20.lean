/-
  Texts of one seat, put together: PkH.
-/
import Derived.Test.YtbjgfaflikgobaaDoorH19
namespace Go.Proofs.YtbjgfaflikgobaaDoor
open Go.RowKit
namespace Hx
open Lx Tr Tx Nmb Es
set_option linter.unusedVariables false
/-- A tree under way, in a box of its own. -/
structure WSt (base hi : Nat) (L : List NB) (O : List Nat) (Vn Vo : Value) (b2 : Nat) (wr : World) : Prop where
  box : wr.heap[b2]? = some (.cells #[Vn, Vo] 45 (0, 0))
  gr : GrSt base hi L O Vn Vo wr
  nN : Vn.ownBlock ≠ some b2
  nO : Vo.ownBlock ≠ some b2
  hb : hi ≤ b2
theorem WSt.below {base hi b2 : Nat} {L : List NB} {O : List Nat} {Vn Vo : Value} {wr w' : World} (h : WSt base hi L O Vn Vo b2 wr) (hb : Below wr.heap.size wr w') : WSt base hi L O Vn Vo b2 w' :=
  ⟨kept_heap h.box hb, h.gr.below hb (Nat.le_refl _) (Nat.le_trans h.gr.sz hb.size), h.nN, h.nO, h.hb⟩
theorem WSt.bumpW {base hi b2 n c gn : Nat} {L : List NB} {O : List Nat} {Vo : Value} {wr : World} (h : WSt base hi L O (.slice (some ⟨gn, 0, none⟩) n c) Vo b2 wr) (hn : L.length = n) (i : Nat) (hi' : i < L.length) (hm : (L[i]'hi').n.many ≤ 1000000) :
    WSt base hi (L.modify i bumpB) O (.slice (some ⟨gn, 0, none⟩) n c) Vo b2 (wr.setCell ⟨gn, i * 6 + 5, none⟩ (.int .i64 ((L[i]'hi').n.many + 1))) ∧ FrP base b2 (.slice (some ⟨gn, 0, none⟩) n c) Vo wr (.slice (some ⟨gn, 0, none⟩) n c) Vo (wr.setCell ⟨gn, i * 6 + 5, none⟩ (.int .i64 ((L[i]'hi').n.many + 1))) := by
  subst hn
  have hg := h.gr.nd.lt gn rfl
  have hne : b2 ≠ gn := fun e => h.nN (by rw [e]; rfl)
  have hoth : ∀ q, q ≠ gn → (wr.setCell ⟨gn, i * 6 + 5, none⟩ (.int .i64 ((L[i]'hi').n.many + 1))).heap[q]? = wr.heap[q]? := fun q hq => heap_setCell_other _ _ _ _ hq
  exact ⟨⟨(hoth b2 hne).trans h.box, h.gr.bump i hi' hm, h.nN, h.nO, h.hb⟩, (Below.refl base wr).setCell (p := ⟨gn, i * 6 + 5, none⟩) hg.1 _, fun k _ _ hk _ => hoth k (fun e => hk (by rw [e]; rfl)), fun _ _ e => e, fun _ _ e => e⟩
theorem WSt.pushW {base hi b2 : Nat} {L : List NB} {O : List Nat} {Vn Vo V5 : Value} {W w8 : World} {ob : Obj} {b : NB} (h : WSt base hi L O Vn Vo b2 W) (hb : NdIn b.n b.x b.y b.z b.A b.c W (fun k => base ≤ k ∧ k < hi ∧ some k ≠ Vn.ownBlock ∧ some k ≠ Vo.ownBlock))
    (hown8 : w8.ownsRow base 50 6 V5 (L.length + 1) (L.flatMap nbCells ++ nbCells b)) (hgr : (W.alloc ob).grownBy w8 Vn.ownBlock) (hlie : V5.ownBlock = Vn.ownBlock ∨ V5.ownBlock = some (W.alloc ob).heap.size) :
    WSt base hi (L ++ [b]) O V5 Vo b2 (w8.setCell ⟨b2, 0, none⟩ V5) ∧ FrP base b2 Vn Vo W V5 Vo (w8.setCell ⟨b2, 0, none⟩ V5) := by
  have hbl := lt_heapP h.box
  have hlo := h.gr.lo
  have hhb := h.hb
  have hsz := h.gr.sz
  have ha : Below W.heap.size W (W.alloc ob) := stpA (Below.refl _ _) _
  have h2 := h.below ha
  have hb2 : NdIn b.n b.x b.y b.z b.A b.c (W.alloc ob) (fun k => base ≤ k ∧ k < hi ∧ some k ≠ Vn.ownBlock ∧ some k ≠ Vo.ownBlock) := hb.keep (fun _ hk => hk) fun k o hk => cell_blkP (ha.block k (by have := hk.2.1; omega))
  have hs1 : (W.alloc ob).heap.size = W.heap.size + 1 := World.size_alloc ..
  have hp := h2.gr.push b hb2 hown8 hgr (by
    rcases hlie with e | e
    · exact .inl e
    · refine .inr ⟨_, by omega, e, fun e2 => ?_⟩
      have := (h.gr.op.lt _ e2).2
      omega)
  have hs8 := hgr.size
  have hoth : ∀ q, q ≠ b2 → (w8.setCell ⟨b2, 0, none⟩ V5).heap[q]? = w8.heap[q]? := fun q hq => heap_setCell_other _ _ _ _ hq
  have hbox : w8.heap[b2]? = some (.cells #[Vn, Vo] 45 (0, 0)) := (hgr.block b2 (by omega) (fun e => h.nN e.symm)).trans h2.box
  have hnN : V5.ownBlock ≠ some b2 := fun e => by
    rcases hlie with e1 | e1
    · exact h.nN (by rw [← e1]; exact e)
    · rw [e1] at e
      injection e with e
      omega
  refine ⟨⟨heap_setCell_same w8 b2 0 _ _ _ hbox, hp.keep (fun q hq hc => hoth q fun e => by
    subst e
    rcases hc with hc | hc | hc
    · omega
    · exact hnN hc
    · exact h.nO hc) (Nat.le_refl _) (by simp [World.setCell]; omega), hnN, h.nO, h.hb⟩, ⟨?_, fun k hk h1 h3 _ => (hoth k h1).trans ((hgr.block k (by omega) h3).trans (ha.block k hk)), fun k hk e => ?_, fun _ _ e => e⟩⟩
  · exact (((Below.refl base W).alloc (by omega) ob).grown hgr (by omega) (fun q hq => (h.gr.nd.lt q hq).1)).setCell (p := ⟨b2, 0, none⟩) (by show base ≤ b2; omega) _
  · rcases hlie with e1 | e1
    · rw [← e1]; exact e
    · rw [e1] at e
      injection e with e
      omega
theorem WSt.openW {base hi b2 : Nat} {L : List NB} {O : List Nat} {Vn Vo V5 : Value} {W w8 : World} {ob : Obj} {i : Nat} (h : WSt base hi L O Vn Vo b2 W)
    (hown8 : w8.ownsRow base 3 1 V5 (O.length + 1) ((zs O).map encZ ++ [.int .i64 i])) (hgr : (W.alloc ob).grownBy w8 Vo.ownBlock) (hlie : V5.ownBlock = Vo.ownBlock ∨ V5.ownBlock = some (W.alloc ob).heap.size) :
    WSt base hi L (O ++ [i]) Vn V5 b2 (w8.setCell ⟨b2, 1, none⟩ V5) ∧ FrP base b2 Vn Vo W Vn V5 (w8.setCell ⟨b2, 1, none⟩ V5) := by
  have hbl := lt_heapP h.box
  have hlo := h.gr.lo
  have hhb := h.hb
  have hsz := h.gr.sz
  have ha : Below W.heap.size W (W.alloc ob) := stpA (Below.refl _ _) _
  have h2 := h.below ha
  have hs1 : (W.alloc ob).heap.size = W.heap.size + 1 := World.size_alloc ..
  have hp := h2.gr.open i hown8 hgr (by
    rcases hlie with e | e
    · exact .inl e
    · refine .inr ⟨_, by omega, e, fun e2 => ?_⟩
      have := (h.gr.nd.lt _ e2).2
      omega)
  have hs8 := hgr.size
  have hoth : ∀ q, q ≠ b2 → (w8.setCell ⟨b2, 1, none⟩ V5).heap[q]? = w8.heap[q]? := fun q hq => heap_setCell_other _ _ _ _ hq
  have hbox : w8.heap[b2]? = some (.cells #[Vn, Vo] 45 (0, 0)) := (hgr.block b2 (by omega) (fun e => h.nO e.symm)).trans h2.box
  have hnO : V5.ownBlock ≠ some b2 := fun e => by
    rcases hlie with e1 | e1
    · exact h.nO (by rw [← e1]; exact e)
    · rw [e1] at e
      injection e with e
      omega
  refine ⟨⟨heap_setCell_same w8 b2 1 _ _ _ hbox, hp.keep (fun q hq hc => hoth q fun e => by
    subst e
    rcases hc with hc | hc | hc
    · omega
    · exact h.nN hc
    · exact hnO hc) (Nat.le_refl _) (by simp [World.setCell]; omega), h.nN, hnO, h.hb⟩, ⟨?_, fun k hk h1 _ h4 => (hoth k h1).trans ((hgr.block k (by omega) h4).trans (ha.block k hk)), fun _ _ e => e, fun k hk e => ?_⟩⟩
  · exact (((Below.refl base W).alloc (by omega) ob).grown hgr (by omega) (fun q hq => (h.gr.op.lt q hq).1)).setCell (p := ⟨b2, 1, none⟩) (by show base ≤ b2; omega) _
  · rcases hlie with e1 | e1
    · rw [← e1]; exact e
    · rw [e1] at e
      injection e with e
      omega
/-- What with answers. -/
def WithTo (base hi : Nat) (L : List NB) (O : List Nat) (Vn Vo : Value) (b : NB) (w : World) (e : Ending) (w' : World) : Prop := ∃ Vn' Vo', e = .returned (.agg #[Vn', Vo']) ∧ GrSt base hi (bumpL O L ++ [b]) (if b.n.kind = 1 then O ++ [L.length] else O) Vn' Vo' w' ∧ FrP base w.heap.size Vn Vo w Vn' Vo' w'
theorem ndin_lie {n : Nd} {x y z : ByteArray} {A : Option Addr} {c base hi q : Nat} {Vn Vo V5 : Value} {W W' : World} (h : NdIn n x y z A c W (fun k => base ≤ k ∧ k < hi ∧ some k ≠ Vn.ownBlock ∧ some k ≠ Vo.ownBlock)) (hl : V5.ownBlock = Vo.ownBlock ∨ V5.ownBlock = some q) (hq : hi ≤ q)
    (hk : ∀ k, k < hi → some k ≠ Vn.ownBlock → some k ≠ Vo.ownBlock → W'.heap[k]? = W.heap[k]?) : NdIn n x y z A c W' (fun k => base ≤ k ∧ k < hi ∧ some k ≠ Vn.ownBlock ∧ some k ≠ V5.ownBlock) :=
  h.keep (fun k hk => ⟨hk.1, hk.2.1, hk.2.2.1, fun e => by
    rcases hl with e1 | e1
    · exact hk.2.2.2 (by rw [← e1]; exact e)
    · rw [e1] at e
      injection e with e
      have := hk.2.1
      omega⟩) fun k o hS => cell_blkP (hk k hS.2.1 hS.2.2.1 hS.2.2.2)
theorem with_fin {base hi b2 : Nat} {L' : List NB} {O' : List Nat} {Vn Vo V6 V5 : Value} {w W3 W6 : World} (hb : Below w.heap.size w W3) (h2 : w.heap.size = b2) (h3 : W3.heap.size = b2 + 3) (hN : ∀ q, Vn.ownBlock = some q → q < b2) (hO : ∀ q, Vo.ownBlock = some q → q < b2) (hf : FrP base b2 Vn Vo W3 V6 V5 W6) (hs : WSt base hi L' O' V6 V5 b2 W6) (hbase : base ≤ b2) (cs : Array Value) :
    GrSt base hi L' O' V6 V5 (W6.setRow (b2 + 2) cs) ∧ FrP base w.heap.size Vn Vo w V6 V5 (W6.setRow (b2 + 2) cs) := by
  have hoth : ∀ q, q ≠ b2 + 2 → (W6.setRow (b2 + 2) cs).heap[q]? = W6.heap[q]? := fun q hq => setRow_other W6 (b2 + 2) q cs hq
  have hz := hf.bel.size
  have hsh : (W6.setRow (b2 + 2) cs).heap.size = W6.heap.size := by simp [World.setRow]
  have hhb := hs.hb
  have h6 := (FrP.below (gs := b2) (Vn := Vn) (Vo := Vo) hb (by omega : base ≤ w.heap.size)).trans hf
  refine ⟨hs.gr.keep (fun q _ hc => hoth q fun e => ?_) (Nat.le_refl _) (by rw [hsh]; exact hs.gr.sz), ⟨below_setRowV h6.bel (by omega) _, fun k hk _ k1 k2 => (hoth k (by omega)).trans (h6.blk k hk (by omega) k1 k2), h6.lieN, h6.lieO⟩⟩
  rcases hc with hc | hc | hc
  · omega
  · have := hN q (hf.lieN q (by omega) hc)
    omega
  · have := hO q (hf.lieO q (by omega) hc)
    omega
theorem rcell1 {P : Program} {fn : Func} {p : Tmp} {ty : TypeId} (h : fn.results = #[.cell p ty]) (tmps : Array Value) (w : World) (g : Nat) (t : TypeId) (cs : Array Value) (fr : Nat × Nat) (d : TypeDesc)
    (hp : tmps.getD p undef = .pointer (some ⟨g, 0, none⟩)) (hg : w.heap[g]? = some (.cells cs t fr))
    (hu : P.underlying ty = some d) (hd : (match d with | .struct _ | .array _ _ => true | _ => false) = true) (hi : (P.info? ty).map (·.size) = some cs.size) :
    (results fn tmps).run P w = .ok (.agg cs) w := by
  have hp' : tmps[p]?.getD undef = .pointer (some ⟨g, 0, none⟩) := by simpa using hp
  simp [results, h, hp', asAddr, run_loadVar_row w g t ty cs fr d hg hu hd hi]
theorem infoGr : (Tryd.prog.info? 45).map (·.size) = some 2 := by kernel_rfl
theorem infoNdQ : (Tryd.prog.info? 50).map (·.size) = some 6 := by kernel_rfl
set_option maxHeartbeats 16000000 in
set_option maxRecDepth 100000 in
theorem with_none1 (base hi : Nat) (L : List NB) (O : List Nat) (Vn Vo : Value) (b : NB) (w : World) (h : GrSt base hi L O Vn Vo w) (hb : NdIn b.n b.x b.y b.z b.A b.c w (fun k => base ≤ k ∧ k < hi ∧ some k ≠ Vn.ownBlock ∧ some k ≠ Vo.ownBlock)) (hl : L.length ≤ 100000) (hl2 : O.length ≤ 100000) (hO : O = []) (hkd : b.n.kind = 1) :
    Calls Tryd.prog 24 #[.agg #[Vn, Vo], .agg #[.int .u8 (b.n.kind : Int), .string b.x, .string b.y, .slice b.A b.n.attrs.length b.c, .string b.z, .int .i64 b.n.many]] w (WithTo base hi L O Vn Vo b w) := by
  obtain ⟨i0, hi0, hz0, hz1, hz2⟩ := info_parts infoNd
  have HI := Lib.hid hi0
  have HZ0 := Lib.hid hz0
  have HZ1 := Lib.hid hz1
  have HZ2 := Lib.hid hz2
  obtain ⟨j0, hj0, hy0, hy1, hy2⟩ := info_parts infoZ
  have HJ := Lib.hid hj0
  have HY0 := Lib.hid hy0
  have HY1 := Lib.hid hy1
  have HY2 := Lib.hid hy2
  obtain ⟨An, cn, rfl⟩ := own_form2 h.nd
  obtain ⟨Ao, co, rfl⟩ := own_form2 h.op
  obtain ⟨n, hn⟩ : ∃ n, L.length = n := ⟨_, rfl⟩
  obtain ⟨m, hm⟩ : ∃ m, O.length = m := ⟨_, rfl⟩
  obtain ⟨na, hna⟩ : ∃ na, b.n.attrs.length = na := ⟨_, rfl⟩
  obtain ⟨mb, hmb⟩ : ∃ mb, b.n.many = mb := ⟨_, rfl⟩
  have hkc : (((1 : Nat) : Int)) = 1 := rfl
  subst hO
  obtain rfl : 0 = m := hm
  have hm : ([] : List Nat).length = 0 := rfl
  rw [show ([] : List Nat).length = 0 from rfl] at hb h ⊢
  rw [hn] at hb h ⊢
  rw [hna, hmb, hkd, hkc]
  have HNB : Hid (nbCells b = [.int .u8 1, .string b.x, .string b.y, .slice b.A na b.c, .string b.z, .int .i64 mb]) := Lib.hid (by unfold nbCells ndCells; rw [hna, hmb, hkd]; rfl)
  have HNL := Lib.hid hn
  have HML := Lib.hid hm
  have HKD := Lib.hid hkd
  have HLB : Hid (n ≤ 100000 ∧ 0 ≤ 100000) := Lib.hid (by omega)
  obtain ⟨b2, hb2⟩ : ∃ b2, w.heap.size = b2 := ⟨_, rfl⟩
  obtain ⟨W1, hW1⟩ : ∃ W1, w.alloc (.cells #[.slice An n cn, .slice Ao 0 co] 45) = W1 := ⟨_, rfl⟩
  have HB1 : Hid (Below w.heap.size w W1) := Lib.hid (by rw [← hW1]; exact stpA (Below.refl _ _) _)
  have hs1 : W1.heap.size = b2 + 1 := by rw [← hW1, World.size_alloc, hb2]
  have hx1 : W1.heap[b2]? = some (.cells #[.slice An n cn, .slice Ao 0 co] 45 (0, 0)) := by rw [← hW1, ← hb2]; exact heap_alloc_new w _
  obtain ⟨W2, hW2⟩ : ∃ W2, W1.alloc (.cells #[.int .u8 1, .string b.x, .string b.y, .slice b.A na b.c, .string b.z, .int .i64 mb] 50) = W2 := ⟨_, rfl⟩
  have HB2 : Hid (Below W1.heap.size W1 W2) := Lib.hid (by rw [← hW2]; exact stpA (Below.refl _ _) _)
  have hs2 : W2.heap.size = b2 + 2 := by rw [← hW2, World.size_alloc, hs1]
  have hx2 : W2.heap[b2 + 1]? = some (.cells #[.int .u8 1, .string b.x, .string b.y, .slice b.A na b.c, .string b.z, .int .i64 mb] 50 (0, 0)) := by rw [← hW2, ← hs1]; exact heap_alloc_new W1 _
  obtain ⟨W3, hW3⟩ : ∃ W3, W2.alloc (.cells #[.slice none 0 0, .slice none 0 0] 45) = W3 := ⟨_, rfl⟩
  have HB3 : Hid (Below W2.heap.size W2 W3) := Lib.hid (by rw [← hW3]; exact stpA (Below.refl _ _) _)
  have hs3 : W3.heap.size = b2 + 3 := by rw [← hW3, World.size_alloc, hs2]
  have hx3 : W3.heap[b2 + 2]? = some (.cells #[.slice none 0 0, .slice none 0 0] 45 (0, 0)) := by rw [← hW3, ← hs2]; exact heap_alloc_new W2 _
  have HB03 : Hid (Below w.heap.size w W3) := Lib.hid (stp (stp HB1.out HB2.out) HB3.out)
  have HXB : Hid (W3.heap[b2 + 1]? = some (.cells #[.int .u8 1, .string b.x, .string b.y, .slice b.A na b.c, .string b.z, .int .i64 mb] 50 (0, 0))) := Lib.hid (kept_heap hx2 HB3.out)
  have HXR : Hid (W3.heap[b2 + 2]? = some (.cells #[.slice none 0 0, .slice none 0 0] 45 (0, 0))) := Lib.hid hx3
  have hg3 := h.below HB03.out (Nat.le_refl _) (Nat.le_trans h.sz HB03.out.size)
  have HS3 : Hid (WSt base hi L [] (.slice An n cn) (.slice Ao 0 co) b2 W3) := Lib.hid ⟨kept_heap (kept_heap hx1 HB2.out) HB3.out, hg3, fun e => by have := (h.nd.lt _ e).2; omega, fun e => by have := (h.op.lt _ e).2; omega, by rw [← hb2]; exact h.sz⟩
  have HND : Hid (NdIn b.n b.x b.y b.z b.A b.c W3 (fun k => base ≤ k ∧ k < hi ∧ some k ≠ (Value.slice An n cn).ownBlock ∧ some k ≠ (Value.slice Ao 0 co).ownBlock)) := Lib.hid (hb.keep (fun _ hk => hk) fun k o hk => cell_blkP (HB03.out.block k (by have := hk.2.1; have := h.sz; omega)))
  have HWN : Hid (∀ q, (Value.slice An n cn).ownBlock = some q → q < b2) := Lib.hid fun q hq => by rw [← hb2]; exact (h.nd.lt q hq).2
  have HWO : Hid (∀ q, (Value.slice Ao 0 co).ownBlock = some q → q < b2) := Lib.hid fun q hq => by rw [← hb2]; exact (h.op.lt q hq).2
  have HBH : Hid (w.heap.size = b2 ∧ W3.heap.size = b2 + 3 ∧ base ≤ b2) := Lib.hid ⟨hb2, hs3, by have := h.lo; have := h.sz; omega⟩
  have k0 := cellV W3 _ 0 _ _ _ HS3.out.box
  have k1 := cellV W3 _ 1 _ _ _ HS3.out.box
  have n0 := cellV W3 _ 0 _ _ _ HXB.out
  clear h hb hl hl2 hi0 hz0 hz1 hz2 hj0 hy0 hy1 hy2 hn hm hna hmb hkd hx1 hx2 hx3 hg3 hkc hs3
  have HF0 : Hid (FrP base b2 (.slice An n cn) (.slice Ao 0 co) W3 (.slice An n cn) (.slice Ao 0 co) W3) := Lib.hid (FrP.below (Below.refl _ _) (by have := HBH.out; omega))
  go_enter Tryd.func24, Tryd.ntmps24
  go_wp2_with (first
    | (at_builtin; refine wpList_append_own_at _ rfl (.tmp 29) (.tmp 33) 40 rfl base 3 j0 (.int .i64 0) 1 8 Tryd.underlying40 HJ.out HY0.out HY1.out HY2.out rfl (by decide) _ 0 _ rfl (own_belowK (by have h9 := HS3.out.gr.op; rw [HML.out] at h9; exact h9) (stpA (Below.refl _ _) _) (Nat.le_refl _)) ⟨W3.heap.size, 0, none⟩ 1 1 [.int .i64 ((n : Nat) : Int)] rfl rfl (new_at W3 [.int .i64 ((n : Nat) : Int)] 3 _ rfl) (by simp [Value.oneCell']) (by have := HLB.out; unfold maxLen; omega) (by have := HLB.out; omega) (by have := HS3.out.gr.sz; have := HS3.out.gr.lo; rw [World.size_alloc]; omega) ?_; intro v5 w5 hown5 hgr5 _ hlie5; obtain ⟨A5, c5, rfl⟩ := own_form2 hown5; have hpu := HS3.out.openW (i := n) (by rw [HML.out]; exact hown5) hgr5 hlie5; have HS5 := Lib.hid hpu.1; have HF5 := Lib.hid (HF0.out.trans hpu.2); have g5 : w5.heap[b2]? = some (.cells #[.slice An n cn, .slice Ao 0 co] 45 (0, 0)) := (hgr5.block b2 (by rw [World.size_alloc]; have := lt_heapP HS3.out.box; omega) (fun e => HS3.out.nO e.symm)).trans (kept_heap HS3.out.box (stpA (Below.refl _ _) _)); have f51 := freeV w5 b2 1 _ _ g5; have c51 := cellV w5 _ 1 _ _ _ g5; have HXB5r : w5.heap[b2 + 1]? = some (.cells #[.int .u8 1, .string b.x, .string b.y, .slice b.A na b.c, .string b.z, .int .i64 mb] 50 (0, 0)) := (hgr5.block (b2 + 1) (by rw [World.size_alloc]; have := lt_heapP HXB.out; omega) (fun e => by have := HWO.out _ e.symm; omega)).trans (kept_heap HXB.out (stpA (Below.refl _ _) _)); have HXR5r : w5.heap[b2 + 2]? = some (.cells #[.slice none 0 0, .slice none 0 0] 45 (0, 0)) := (hgr5.block (b2 + 2) (by rw [World.size_alloc]; have := lt_heapP HXR.out; omega) (fun e => by have := HWO.out _ e.symm; omega)).trans (kept_heap HXR.out (stpA (Below.refl _ _) _)); obtain ⟨W5, hW5⟩ : ∃ W5, w5.setCell ⟨b2, 1, none⟩ (.slice A5 (0 + 1) c5) = W5 := ⟨_, rfl⟩; have HXB5 : Hid (W5.heap[b2 + 1]? = some (.cells #[.int .u8 1, .string b.x, .string b.y, .slice b.A na b.c, .string b.z, .int .i64 mb] 50 (0, 0))) := Lib.hid (by rw [← hW5]; exact (heap_setCell_other _ _ _ _ (by show b2 + 1 ≠ b2; omega)).trans HXB5r); have HXR5 : Hid (W5.heap[b2 + 2]? = some (.cells #[.slice none 0 0, .slice none 0 0] 45 (0, 0))) := Lib.hid (by rw [← hW5]; exact (heap_setCell_other _ _ _ _ (by show b2 + 2 ≠ b2; omega)).trans HXR5r); rw [hW5] at HS5 HF5; have HN5 := Lib.hid (ndin_lie (W' := W5) HND.out hlie5 (by rw [World.size_alloc]; have := HS3.out.gr.sz; omega) (fun k h1 h2 h3 => by rw [← hW5]; exact (heap_setCell_other _ _ _ _ (by show k ≠ b2; have := HS3.out.hb; omega)).trans ((hgr5.block k (by rw [World.size_alloc]; have := HS3.out.gr.sz; omega) h3).trans ((stpA (Below.refl _ _) _).block k (by have := HS3.out.gr.sz; omega))))); have k50 := cellV W5 _ 0 _ _ _ HS5.out.box; clear hpu hown5 hgr5 hlie5 g5 HXB5r HXR5r)
    | (refine wpList_load_row rfl _ _ rfl (b2 + 1) rfl 50 #[.int .u8 1, .string b.x, .string b.y, .slice b.A na b.c, .string b.z, .int .i64 mb] (0, 0) _ HXB5.out Tryd.underlying50 rfl infoNdQ ?_)
    | (at_builtin; refine wpList_append_own_at _ rfl (.tmp 37) (.tmp 39) 27 rfl base 50 i0 (.agg #[.int .u8 0, .string ⟨#[]⟩, .string ⟨#[]⟩, .slice none 0 0, .string ⟨#[]⟩, .int .i64 0]) 6 88 Tryd.underlying27 HI.out HZ0.out HZ1.out HZ2.out rfl (by decide) _ n _ rfl (own_belowK (by have h9 := HS5.out.gr.nd; rw [HNL.out] at h9; exact h9) (stpA (Below.refl _ _) _) (Nat.le_refl _)) ⟨W5.heap.size, 0, none⟩ 1 1 [.int .u8 1, .string b.x, .string b.y, .slice b.A na b.c, .string b.z, .int .i64 mb] rfl rfl (new_at W5 [.int .u8 1, .string b.x, .string b.y, .slice b.A na b.c, .string b.z, .int .i64 mb] 50 _ rfl) (by simp [Value.oneCell']) (by have := HLB.out; unfold maxLen; omega) (by have := HLB.out; omega) (by have := HS5.out.gr.sz; have := HS5.out.gr.lo; rw [World.size_alloc]; omega) ?_; intro v6 w6 hown6 hgr6 _ hlie6; obtain ⟨A6, c6, rfl⟩ := own_form2 hown6; have hpv := HS5.out.pushW (b := b) HN5.out (by rw [HNB.out, HNL.out]; exact hown6) hgr6 hlie6; have HS6 := Lib.hid hpv.1; have HF6 := Lib.hid (HF5.out.trans hpv.2); have g6 : w6.heap[b2]? = some (.cells #[.slice An n cn, .slice A5 (0 + 1) c5] 45 (0, 0)) := (hgr6.block b2 (by rw [World.size_alloc]; have := lt_heapP HS5.out.box; omega) (fun e => HS5.out.nN e.symm)).trans (kept_heap HS5.out.box (stpA (Below.refl _ _) _)); have f60 := freeV w6 b2 0 _ _ g6; have c60 := cellV w6 _ 0 _ _ _ g6; have r6 : w6.heap[b2 + 2]? = some (.cells #[.slice none 0 0, .slice none 0 0] 45 (0, 0)) := (hgr6.block (b2 + 2) (by rw [World.size_alloc]; have := lt_heapP HXR5.out; omega) (fun e => by have := HWN.out _ e.symm; omega)).trans (kept_heap HXR5.out (stpA (Below.refl _ _) _)); obtain ⟨W6, hW6⟩ : ∃ W6, w6.setCell ⟨b2, 0, none⟩ (.slice A6 (n + 1) c6) = W6 := ⟨_, rfl⟩; have HXR6 : Hid (W6.heap[b2 + 2]? = some (.cells #[.slice none 0 0, .slice none 0 0] 45 (0, 0))) := Lib.hid (by rw [← hW6]; exact (heap_setCell_other _ _ _ _ (by show b2 + 2 ≠ b2; omega)).trans r6); rw [hW6] at HS6 HF6; clear hpv hown6 hgr6 hlie6 r6 g6)
    | (refine wpList_load_row rfl _ _ rfl b2 rfl 45 #[.slice A6 (n + 1) c6, .slice A5 (0 + 1) c5] (0, 0) _ HS6.out.box Tryd.underlying45 rfl infoGr ?_)
    | (refine wpList_store_row rfl _ _ _ rfl (b2 + 2) #[.slice A6 (n + 1) c6, .slice A5 (0 + 1) c5] rfl rfl 45 #[.slice none 0 0, .slice none 0 0] HXR6.out infoGr rfl (by simp [Value.oneCell']) ?_)
    | fail)
  have hfin := with_fin HB03.out HBH.out.1 HBH.out.2.1 HWN.out HWO.out HF6.out HS6.out HBH.out.2.2 #[.slice A6 (n + 1) c6, .slice A5 (0 + 1) c5]
  exact bodyPost_ret (v := .agg #[.slice A6 (n + 1) c6, .slice A5 (0 + 1) c5]) (rcell1 (p := 4) rfl _ _ _ _ #[.slice A6 (n + 1) c6, .slice A5 (0 + 1) c5] _ _ rfl (setRow_heap _ _ _ #[.slice A6 (n + 1) c6, .slice A5 (0 + 1) c5] _ _ HXR6.out) Tryd.underlying45 rfl infoGr) rfl ⟨_, _, rfl, by rw [if_pos HKD.out, HNL.out]; exact hfin.1, hfin.2⟩
set_option maxHeartbeats 16000000 in
set_option maxRecDepth 100000 in
theorem with_none2 (base hi : Nat) (L : List NB) (O : List Nat) (Vn Vo : Value) (b : NB) (w : World) (h : GrSt base hi L O Vn Vo w) (hb : NdIn b.n b.x b.y b.z b.A b.c w (fun k => base ≤ k ∧ k < hi ∧ some k ≠ Vn.ownBlock ∧ some k ≠ Vo.ownBlock)) (hl : L.length ≤ 100000) (hl2 : O.length ≤ 100000) (hO : O = []) (hkd : b.n.kind = 2) :
    Calls Tryd.prog 24 #[.agg #[Vn, Vo], .agg #[.int .u8 (b.n.kind : Int), .string b.x, .string b.y, .slice b.A b.n.attrs.length b.c, .string b.z, .int .i64 b.n.many]] w (WithTo base hi L O Vn Vo b w) := by
  obtain ⟨i0, hi0, hz0, hz1, hz2⟩ := info_parts infoNd
  have HI := Lib.hid hi0
  have HZ0 := Lib.hid hz0
  have HZ1 := Lib.hid hz1
  have HZ2 := Lib.hid hz2
  obtain ⟨j0, hj0, hy0, hy1, hy2⟩ := info_parts infoZ
  have HJ := Lib.hid hj0
  have HY0 := Lib.hid hy0
  have HY1 := Lib.hid hy1
  have HY2 := Lib.hid hy2
  obtain ⟨An, cn, rfl⟩ := own_form2 h.nd
  obtain ⟨Ao, co, rfl⟩ := own_form2 h.op
  obtain ⟨n, hn⟩ : ∃ n, L.length = n := ⟨_, rfl⟩
  obtain ⟨m, hm⟩ : ∃ m, O.length = m := ⟨_, rfl⟩
  obtain ⟨na, hna⟩ : ∃ na, b.n.attrs.length = na := ⟨_, rfl⟩
  obtain ⟨mb, hmb⟩ : ∃ mb, b.n.many = mb := ⟨_, rfl⟩
  have hkc : (((2 : Nat) : Int)) = 2 := rfl
  subst hO
  obtain rfl : 0 = m := hm
  have hm : ([] : List Nat).length = 0 := rfl
  rw [show ([] : List Nat).length = 0 from rfl] at hb h ⊢
  rw [hn] at hb h ⊢
  rw [hna, hmb, hkd, hkc]
  have HNB : Hid (nbCells b = [.int .u8 2, .string b.x, .string b.y, .slice b.A na b.c, .string b.z, .int .i64 mb]) := Lib.hid (by unfold nbCells ndCells; rw [hna, hmb, hkd]; rfl)
  have HNL := Lib.hid hn
  have HML := Lib.hid hm
  have HKD := Lib.hid hkd
  have HLB : Hid (n ≤ 100000 ∧ 0 ≤ 100000) := Lib.hid (by omega)
  obtain ⟨b2, hb2⟩ : ∃ b2, w.heap.size = b2 := ⟨_, rfl⟩
  obtain ⟨W1, hW1⟩ : ∃ W1, w.alloc (.cells #[.slice An n cn, .slice Ao 0 co] 45) = W1 := ⟨_, rfl⟩
  have HB1 : Hid (Below w.heap.size w W1) := Lib.hid (by rw [← hW1]; exact stpA (Below.refl _ _) _)
  have hs1 : W1.heap.size = b2 + 1 := by rw [← hW1, World.size_alloc, hb2]
  have hx1 : W1.heap[b2]? = some (.cells #[.slice An n cn, .slice Ao 0 co] 45 (0, 0)) := by rw [← hW1, ← hb2]; exact heap_alloc_new w _
  obtain ⟨W2, hW2⟩ : ∃ W2, W1.alloc (.cells #[.int .u8 2, .string b.x, .string b.y, .slice b.A na b.c, .string b.z, .int .i64 mb] 50) = W2 := ⟨_, rfl⟩
  have HB2 : Hid (Below W1.heap.size W1 W2) := Lib.hid (by rw [← hW2]; exact stpA (Below.refl _ _) _)
  have hs2 : W2.heap.size = b2 + 2 := by rw [← hW2, World.size_alloc, hs1]
  have hx2 : W2.heap[b2 + 1]? = some (.cells #[.int .u8 2, .string b.x, .string b.y, .slice b.A na b.c, .string b.z, .int .i64 mb] 50 (0, 0)) := by rw [← hW2, ← hs1]; exact heap_alloc_new W1 _
  obtain ⟨W3, hW3⟩ : ∃ W3, W2.alloc (.cells #[.slice none 0 0, .slice none 0 0] 45) = W3 := ⟨_, rfl⟩
  have HB3 : Hid (Below W2.heap.size W2 W3) := Lib.hid (by rw [← hW3]; exact stpA (Below.refl _ _) _)
  have hs3 : W3.heap.size = b2 + 3 := by rw [← hW3, World.size_alloc, hs2]
  have hx3 : W3.heap[b2 + 2]? = some (.cells #[.slice none 0 0, .slice none 0 0] 45 (0, 0)) := by rw [← hW3, ← hs2]; exact heap_alloc_new W2 _
  have HB03 : Hid (Below w.heap.size w W3) := Lib.hid (stp (stp HB1.out HB2.out) HB3.out)
  have HXB : Hid (W3.heap[b2 + 1]? = some (.cells #[.int .u8 2, .string b.x, .string b.y, .slice b.A na b.c, .string b.z, .int .i64 mb] 50 (0, 0))) := Lib.hid (kept_heap hx2 HB3.out)
  have HXR : Hid (W3.heap[b2 + 2]? = some (.cells #[.slice none 0 0, .slice none 0 0] 45 (0, 0))) := Lib.hid hx3
  have hg3 := h.below HB03.out (Nat.le_refl _) (Nat.le_trans h.sz HB03.out.size)
  have HS3 : Hid (WSt base hi L [] (.slice An n cn) (.slice Ao 0 co) b2 W3) := Lib.hid ⟨kept_heap (kept_heap hx1 HB2.out) HB3.out, hg3, fun e => by have := (h.nd.lt _ e).2; omega, fun e => by have := (h.op.lt _ e).2; omega, by rw [← hb2]; exact h.sz⟩
  have HND : Hid (NdIn b.n b.x b.y b.z b.A b.c W3 (fun k => base ≤ k ∧ k < hi ∧ some k ≠ (Value.slice An n cn).ownBlock ∧ some k ≠ (Value.slice Ao 0 co).ownBlock)) := Lib.hid (hb.keep (fun _ hk => hk) fun k o hk => cell_blkP (HB03.out.block k (by have := hk.2.1; have := h.sz; omega)))
  have HWN : Hid (∀ q, (Value.slice An n cn).ownBlock = some q → q < b2) := Lib.hid fun q hq => by rw [← hb2]; exact (h.nd.lt q hq).2
  have HWO : Hid (∀ q, (Value.slice Ao 0 co).ownBlock = some q → q < b2) := Lib.hid fun q hq => by rw [← hb2]; exact (h.op.lt q hq).2
  have HBH : Hid (w.heap.size = b2 ∧ W3.heap.size = b2 + 3 ∧ base ≤ b2) := Lib.hid ⟨hb2, hs3, by have := h.lo; have := h.sz; omega⟩
  have k0 := cellV W3 _ 0 _ _ _ HS3.out.box
  have k1 := cellV W3 _ 1 _ _ _ HS3.out.box
  have n0 := cellV W3 _ 0 _ _ _ HXB.out
  clear h hb hl hl2 hi0 hz0 hz1 hz2 hj0 hy0 hy1 hy2 hn hm hna hmb hkd hx1 hx2 hx3 hg3 hkc hs3
  have HF0 : Hid (FrP base b2 (.slice An n cn) (.slice Ao 0 co) W3 (.slice An n cn) (.slice Ao 0 co) W3) := Lib.hid (FrP.below (Below.refl _ _) (by have := HBH.out; omega))
  go_enter Tryd.func24, Tryd.ntmps24
  go_wp2_with (first
    | (refine wpList_load_row rfl _ _ rfl (b2 + 1) rfl 50 #[.int .u8 2, .string b.x, .string b.y, .slice b.A na b.c, .string b.z, .int .i64 mb] (0, 0) _ HXB.out Tryd.underlying50 rfl infoNdQ ?_)
    | (at_builtin; refine wpList_append_own_at _ rfl (.tmp 37) (.tmp 39) 27 rfl base 50 i0 (.agg #[.int .u8 0, .string ⟨#[]⟩, .string ⟨#[]⟩, .slice none 0 0, .string ⟨#[]⟩, .int .i64 0]) 6 88 Tryd.underlying27 HI.out HZ0.out HZ1.out HZ2.out rfl (by decide) _ n _ rfl (own_belowK (by have h9 := HS3.out.gr.nd; rw [HNL.out] at h9; exact h9) (stpA (Below.refl _ _) _) (Nat.le_refl _)) ⟨W3.heap.size, 0, none⟩ 1 1 [.int .u8 2, .string b.x, .string b.y, .slice b.A na b.c, .string b.z, .int .i64 mb] rfl rfl (new_at W3 [.int .u8 2, .string b.x, .string b.y, .slice b.A na b.c, .string b.z, .int .i64 mb] 50 _ rfl) (by simp [Value.oneCell']) (by have := HLB.out; unfold maxLen; omega) (by have := HLB.out; omega) (by have := HS3.out.gr.sz; have := HS3.out.gr.lo; rw [World.size_alloc]; omega) ?_; intro v6 w6 hown6 hgr6 _ hlie6; obtain ⟨A6, c6, rfl⟩ := own_form2 hown6; have hpv := HS3.out.pushW (b := b) HND.out (by rw [HNB.out, HNL.out]; exact hown6) hgr6 hlie6; have HS6 := Lib.hid hpv.1; have HF6 := Lib.hid (HF0.out.trans hpv.2); have g6 : w6.heap[b2]? = some (.cells #[.slice An n cn, .slice Ao 0 co] 45 (0, 0)) := (hgr6.block b2 (by rw [World.size_alloc]; have := lt_heapP HS3.out.box; omega) (fun e => HS3.out.nN e.symm)).trans (kept_heap HS3.out.box (stpA (Below.refl _ _) _)); have f60 := freeV w6 b2 0 _ _ g6; have c60 := cellV w6 _ 0 _ _ _ g6; have r6 : w6.heap[b2 + 2]? = some (.cells #[.slice none 0 0, .slice none 0 0] 45 (0, 0)) := (hgr6.block (b2 + 2) (by rw [World.size_alloc]; have := lt_heapP HXR.out; omega) (fun e => by have := HWN.out _ e.symm; omega)).trans (kept_heap HXR.out (stpA (Below.refl _ _) _)); obtain ⟨W6, hW6⟩ : ∃ W6, w6.setCell ⟨b2, 0, none⟩ (.slice A6 (n + 1) c6) = W6 := ⟨_, rfl⟩; have HXR6 : Hid (W6.heap[b2 + 2]? = some (.cells #[.slice none 0 0, .slice none 0 0] 45 (0, 0))) := Lib.hid (by rw [← hW6]; exact (heap_setCell_other _ _ _ _ (by show b2 + 2 ≠ b2; omega)).trans r6); rw [hW6] at HS6 HF6; clear hpv hown6 hgr6 hlie6 r6 g6)
    | (refine wpList_load_row rfl _ _ rfl b2 rfl 45 #[.slice A6 (n + 1) c6, .slice Ao 0 co] (0, 0) _ HS6.out.box Tryd.underlying45 rfl infoGr ?_)
    | (refine wpList_store_row rfl _ _ _ rfl (b2 + 2) #[.slice A6 (n + 1) c6, .slice Ao 0 co] rfl rfl 45 #[.slice none 0 0, .slice none 0 0] HXR6.out infoGr rfl (by simp [Value.oneCell']) ?_)
    | fail)
  have hfin := with_fin HB03.out HBH.out.1 HBH.out.2.1 HWN.out HWO.out HF6.out HS6.out HBH.out.2.2 #[.slice A6 (n + 1) c6, .slice Ao 0 co]
  exact bodyPost_ret (v := .agg #[.slice A6 (n + 1) c6, .slice Ao 0 co]) (rcell1 (p := 4) rfl _ _ _ _ #[.slice A6 (n + 1) c6, .slice Ao 0 co] _ _ rfl (setRow_heap _ _ _ #[.slice A6 (n + 1) c6, .slice Ao 0 co] _ _ HXR6.out) Tryd.underlying45 rfl infoGr) rfl ⟨_, _, rfl, by rw [if_neg (by rw [HKD.out]; decide)]; exact hfin.1, hfin.2⟩
set_option maxHeartbeats 16000000 in
set_option maxRecDepth 100000 in
theorem with_some1 (base hi : Nat) (L : List NB) (O : List Nat) (Vn Vo : Value) (b : NB) (w : World) (h : GrSt base hi L O Vn Vo w) (hb : NdIn b.n b.x b.y b.z b.A b.c w (fun k => base ≤ k ∧ k < hi ∧ some k ≠ Vn.ownBlock ∧ some k ≠ Vo.ownBlock)) (hl : L.length ≤ 100000) (hl2 : O.length ≤ 100000) (O1 : List Nat) (i : Nat) (hO : O = O1 ++ [i]) (hi' : i < L.length) (hmm : 0 ≤ (L[i]'hi').n.many ∧ (L[i]'hi').n.many ≤ 1000000) (hkd : b.n.kind = 1) :
    Calls Tryd.prog 24 #[.agg #[Vn, Vo], .agg #[.int .u8 (b.n.kind : Int), .string b.x, .string b.y, .slice b.A b.n.attrs.length b.c, .string b.z, .int .i64 b.n.many]] w (WithTo base hi L O Vn Vo b w) := by
  obtain ⟨i0, hi0, hz0, hz1, hz2⟩ := info_parts infoNd
  have HI := Lib.hid hi0
  have HZ0 := Lib.hid hz0
  have HZ1 := Lib.hid hz1
  have HZ2 := Lib.hid hz2
  obtain ⟨j0, hj0, hy0, hy1, hy2⟩ := info_parts infoZ
  have HJ := Lib.hid hj0
  have HY0 := Lib.hid hy0
  have HY1 := Lib.hid hy1
  have HY2 := Lib.hid hy2
  obtain ⟨An, cn, rfl⟩ := own_form2 h.nd
  obtain ⟨Ao, co, rfl⟩ := own_form2 h.op
  obtain ⟨n, hn⟩ : ∃ n, L.length = n := ⟨_, rfl⟩
  obtain ⟨m, hm⟩ : ∃ m, O.length = m := ⟨_, rfl⟩
  obtain ⟨na, hna⟩ : ∃ na, b.n.attrs.length = na := ⟨_, rfl⟩
  obtain ⟨mb, hmb⟩ : ∃ mb, b.n.many = mb := ⟨_, rfl⟩
  have hkc : (((1 : Nat) : Int)) = 1 := rfl
  obtain ⟨k, hk⟩ : ∃ k, O1.length = k := ⟨_, rfl⟩
  have hmk : m = k + 1 := by rw [← hm, hO, List.length_append, hk]; rfl
  subst hmk
  obtain ⟨mm, hmv⟩ : ∃ mm, (L[i]'hi').n.many = mm := ⟨_, rfl⟩
  rw [hmv] at hmm
  obtain ⟨go, _, rfl, _, _, _, hcO⟩ := ownp_row h.op (by omega)
  obtain ⟨gn, curn, rfl, hgn, hgb, hgl0, hcN⟩ := ownp_row h.nd (by omega)
  have hOk : O[k]? = some i := by rw [hO, List.getElem?_append_right (by omega), hk, Nat.sub_self]; rfl
  have hc1 := hcO k _ (zs_cell hOk)
  have hc2 := hcN (i * 6 + 5) _ (nb_cell5 hi')
  rw [hmv] at hc2
  have HC1 := Lib.hid hc1
  have HC2 := Lib.hid hc2
  have HGN := Lib.hid hgn
  have HHI := Lib.hid hi'
  have HMV := Lib.hid hmv
  have HBL : Hid (bumpL O L = L.modify i bumpB) := Lib.hid (by unfold bumpL; rw [hO, List.getLast?_concat])
  have bk : (0 : Int) ≤ (k : Int) ∧ (k : Int) ≤ 100000 := by omega
  have bi : (0 : Int) ≤ (i : Int) ∧ (i : Int) < (n : Int) ∧ (n : Int) ≤ 100000 := by omega
  have bmm : (0 : Int) ≤ mm ∧ mm ≤ 1000000 := hmm
  have wmm : IntKind.i64.wrap (mm + 1) = mm + 1 := IntWalk.i64_in _ (by omega)
  have bkk : ¬ ((k : Int) + 1 ≤ (k : Int)) := by omega
  have wkk : IntKind.i64.wrap (k : Int) = (k : Int) := IntWalk.i64_in _ (by omega)
  clear hc1 hc2 hcO hcN hmm hOk hk hgb hgl0 hmv hgn
  simp only [hn, hm] at hb h ⊢
  rw [hna, hmb, hkd, hkc]
  have HNB : Hid (nbCells b = [.int .u8 1, .string b.x, .string b.y, .slice b.A na b.c, .string b.z, .int .i64 mb]) := Lib.hid (by unfold nbCells ndCells; rw [hna, hmb, hkd]; rfl)
  have HNL := Lib.hid hn
  have HML := Lib.hid hm
  have HKD := Lib.hid hkd
  have HLB : Hid (n ≤ 100000 ∧ (k + 1) ≤ 100000) := Lib.hid (by omega)
  obtain ⟨b2, hb2⟩ : ∃ b2, w.heap.size = b2 := ⟨_, rfl⟩
  obtain ⟨W1, hW1⟩ : ∃ W1, w.alloc (.cells #[.slice (some ⟨gn, 0, none⟩) n cn, .slice (some ⟨go, 0, none⟩) (k + 1) co] 45) = W1 := ⟨_, rfl⟩
  have HB1 : Hid (Below w.heap.size w W1) := Lib.hid (by rw [← hW1]; exact stpA (Below.refl _ _) _)
  have hs1 : W1.heap.size = b2 + 1 := by rw [← hW1, World.size_alloc, hb2]
  have hx1 : W1.heap[b2]? = some (.cells #[.slice (some ⟨gn, 0, none⟩) n cn, .slice (some ⟨go, 0, none⟩) (k + 1) co] 45 (0, 0)) := by rw [← hW1, ← hb2]; exact heap_alloc_new w _
  obtain ⟨W2, hW2⟩ : ∃ W2, W1.alloc (.cells #[.int .u8 1, .string b.x, .string b.y, .slice b.A na b.c, .string b.z, .int .i64 mb] 50) = W2 := ⟨_, rfl⟩
  have HB2 : Hid (Below W1.heap.size W1 W2) := Lib.hid (by rw [← hW2]; exact stpA (Below.refl _ _) _)
  have hs2 : W2.heap.size = b2 + 2 := by rw [← hW2, World.size_alloc, hs1]
  have hx2 : W2.heap[b2 + 1]? = some (.cells #[.int .u8 1, .string b.x, .string b.y, .slice b.A na b.c, .string b.z, .int .i64 mb] 50 (0, 0)) := by rw [← hW2, ← hs1]; exact heap_alloc_new W1 _
  obtain ⟨W3, hW3⟩ : ∃ W3, W2.alloc (.cells #[.slice none 0 0, .slice none 0 0] 45) = W3 := ⟨_, rfl⟩
  have HB3 : Hid (Below W2.heap.size W2 W3) := Lib.hid (by rw [← hW3]; exact stpA (Below.refl _ _) _)
  have hs3 : W3.heap.size = b2 + 3 := by rw [← hW3, World.size_alloc, hs2]
  have hx3 : W3.heap[b2 + 2]? = some (.cells #[.slice none 0 0, .slice none 0 0] 45 (0, 0)) := by rw [← hW3, ← hs2]; exact heap_alloc_new W2 _
  have HB03 : Hid (Below w.heap.size w W3) := Lib.hid (stp (stp HB1.out HB2.out) HB3.out)
  have HXB : Hid (W3.heap[b2 + 1]? = some (.cells #[.int .u8 1, .string b.x, .string b.y, .slice b.A na b.c, .string b.z, .int .i64 mb] 50 (0, 0))) := Lib.hid (kept_heap hx2 HB3.out)
  have HXR : Hid (W3.heap[b2 + 2]? = some (.cells #[.slice none 0 0, .slice none 0 0] 45 (0, 0))) := Lib.hid hx3
  have hg3 := h.below HB03.out (Nat.le_refl _) (Nat.le_trans h.sz HB03.out.size)
  have HS3 : Hid (WSt base hi L O (.slice (some ⟨gn, 0, none⟩) n cn) (.slice (some ⟨go, 0, none⟩) (k + 1) co) b2 W3) := Lib.hid ⟨kept_heap (kept_heap hx1 HB2.out) HB3.out, hg3, fun e => by have := (h.nd.lt _ e).2; omega, fun e => by have := (h.op.lt _ e).2; omega, by rw [← hb2]; exact h.sz⟩
  have HND : Hid (NdIn b.n b.x b.y b.z b.A b.c W3 (fun k => base ≤ k ∧ k < hi ∧ some k ≠ (Value.slice (some ⟨gn, 0, none⟩) n cn).ownBlock ∧ some k ≠ (Value.slice (some ⟨go, 0, none⟩) (k + 1) co).ownBlock)) := Lib.hid (hb.keep (fun _ hk => hk) fun k o hk => cell_blkP (HB03.out.block k (by have := hk.2.1; have := h.sz; omega)))
  have HWN : Hid (∀ q, (Value.slice (some ⟨gn, 0, none⟩) n cn).ownBlock = some q → q < b2) := Lib.hid fun q hq => by rw [← hb2]; exact (h.nd.lt q hq).2
  have HWO : Hid (∀ q, (Value.slice (some ⟨go, 0, none⟩) (k + 1) co).ownBlock = some q → q < b2) := Lib.hid fun q hq => by rw [← hb2]; exact (h.op.lt q hq).2
  have HBH : Hid (w.heap.size = b2 ∧ W3.heap.size = b2 + 3 ∧ base ≤ b2) := Lib.hid ⟨hb2, hs3, by have := h.lo; have := h.sz; omega⟩
  have k0 := cellV W3 _ 0 _ _ _ HS3.out.box
  have k1 := cellV W3 _ 1 _ _ _ HS3.out.box
  have n0 := cellV W3 _ 0 _ _ _ HXB.out
  clear h hb hl hl2 hi0 hz0 hz1 hz2 hj0 hy0 hy1 hy2 hn hm hna hmb hkd hx1 hx2 hx3 hg3 hkc hs3
  have HF0 : Hid (FrP base b2 (.slice (some ⟨gn, 0, none⟩) n cn) (.slice (some ⟨go, 0, none⟩) (k + 1) co) W3 (.slice (some ⟨gn, 0, none⟩) n cn) (.slice (some ⟨go, 0, none⟩) (k + 1) co) W3) := Lib.hid (FrP.below (Below.refl _ _) (by have := HBH.out; omega))
  have kO : W3.cell? ⟨go, k, none⟩ = some (.int .i64 (i : Int)) := (cell_blkP (HB03.out.block go (by have := HWO.out go rfl; have := HBH.out.1; omega))).trans HC1.out
  have kM : W3.cell? ⟨gn, i * 6 + 5, none⟩ = some (.int .i64 mm) := (cell_blkP (HB03.out.block gn (by have := HWN.out gn rfl; have := HBH.out.1; omega))).trans HC2.out
  have fM : W3.frozen? ⟨gn, i * 6 + 5, none⟩ = false := freeV W3 gn _ _ _ ((HB03.out.block gn (by have := HWN.out gn rfl; have := HBH.out.1; omega)).trans HGN.out)
  go_enter Tryd.func24, Tryd.ntmps24
  go_wp2_with fail
  refine wp_region_noPanic ?_
  refine wp_region_Z (fun W => W.cell? ⟨b2, 0, none⟩ = some (.slice (some ⟨gn, 0, none⟩) n cn) ∧ W.cell? ⟨b2, 1, none⟩ = some (.slice (some ⟨go, 0, none⟩) (k + 1) co) ∧ W.cell? ⟨go, k, none⟩ = some (.int .i64 (i : Int)) ∧ W.cell? ⟨gn, i * 6 + 5, none⟩ = some (.int .i64 mm)) 14 (by kernel_rfl) ?_
  have hS : W3.drew.cell? ⟨b2, 0, none⟩ = some (.slice (some ⟨gn, 0, none⟩) n cn) ∧ W3.drew.cell? ⟨b2, 1, none⟩ = some (.slice (some ⟨go, 0, none⟩) (k + 1) co) ∧ W3.drew.cell? ⟨go, k, none⟩ = some (.int .i64 (i : Int)) ∧ W3.drew.cell? ⟨gn, i * 6 + 5, none⟩ = some (.int .i64 mm) := ⟨k0, k1, kO, kM⟩
  refine takeZ (i := 0) (v := .pointer (some ⟨b2, 0, none⟩)) rfl (by kernel_rfl) (by kernel_rfl) (by kernel_rfl) (by kernel_rfl) (fun _ _ _ h => h) (Or.inl ⟨by rfl, ?_⟩) hS ?_
  · intro w' hSw; (try dsimp only at hSw); go_simp
  try simp only [Act.put, List.setIfInBounds_toArray, List.set_cons_zero, List.set_cons_succ]
  refine takeZ (i := 1) (v := .slice (some ⟨gn, 0, none⟩) n cn) rfl (by kernel_rfl) (by kernel_rfl) (by kernel_rfl) (by kernel_rfl) (fun _ _ _ h => h) (Or.inl ⟨by rfl, ?_⟩) hS ?_
  · intro w' hSw; (try dsimp only at hSw); go_simp
  try simp only [Act.put, List.setIfInBounds_toArray, List.set_cons_zero, List.set_cons_succ]
  refine takeZ (i := 2) (v := .pointer (some ⟨b2, 1, none⟩)) rfl (by kernel_rfl) (by kernel_rfl) (by kernel_rfl) (by kernel_rfl) (fun _ _ _ h => h) (Or.inl ⟨by rfl, ?_⟩) hS ?_
  · intro w' hSw; (try dsimp only at hSw); go_simp
  try simp only [Act.put, List.setIfInBounds_toArray, List.set_cons_zero, List.set_cons_succ]
  refine takeZ (i := 3) (v := .slice (some ⟨go, 0, none⟩) (k + 1) co) rfl (by kernel_rfl) (by kernel_rfl) (by kernel_rfl) (by kernel_rfl) (fun _ _ _ h => h) (Or.inl ⟨by rfl, ?_⟩) hS ?_
  · intro w' hSw; (try dsimp only at hSw); go_simp
  try simp only [Act.put, List.setIfInBounds_toArray, List.set_cons_zero, List.set_cons_succ]
  refine takeZ (i := 4) (v := .int .i64 ((k : Int) + 1)) rfl (by kernel_rfl) (by kernel_rfl) (by kernel_rfl) (by kernel_rfl) (fun _ _ _ h => h) (Or.inl ⟨by rfl, ?_⟩) hS ?_
  · intro w' hSw; (try dsimp only at hSw); go_simp
  try simp only [Act.put, List.setIfInBounds_toArray, List.set_cons_zero, List.set_cons_succ]
  refine takeZ (i := 5) (v := .int .i64 (k : Int)) rfl (by kernel_rfl) (by kernel_rfl) (by kernel_rfl) (by kernel_rfl) (fun _ _ _ h => h) (Or.inl ⟨by rfl, ?_⟩) hS ?_
  · intro w' hSw; (try dsimp only at hSw); go_simp
  try simp only [Act.put, List.setIfInBounds_toArray, List.set_cons_zero, List.set_cons_succ]
  refine takeZ (i := 6) (v := .pointer (some ⟨go, k, none⟩)) rfl (by kernel_rfl) (by kernel_rfl) (by kernel_rfl) (by kernel_rfl) (fun _ _ _ h => h) (Or.inl ⟨by rfl, ?_⟩) hS ?_
  · intro w' hSw; (try dsimp only at hSw); go_simp
  try simp only [Act.put, List.setIfInBounds_toArray, List.set_cons_zero, List.set_cons_succ]
  refine takeZ (i := 7) (v := .int .i64 (i : Int)) rfl (by kernel_rfl) (by kernel_rfl) (by kernel_rfl) (by kernel_rfl) (fun _ _ _ h => h) (Or.inl ⟨by rfl, ?_⟩) hS ?_
  · intro w' hSw; (try dsimp only at hSw); go_simp
  try simp only [Act.put, List.setIfInBounds_toArray, List.set_cons_zero, List.set_cons_succ]
  refine takeZ (i := 8) (v := .pointer (some ⟨gn, i * 6, none⟩)) rfl (by kernel_rfl) (by kernel_rfl) (by kernel_rfl) (by kernel_rfl) (fun _ _ _ h => h) (Or.inl ⟨by rfl, ?_⟩) hS ?_
  · intro w' hSw; (try dsimp only at hSw); go_simp
  try simp only [Act.put, List.setIfInBounds_toArray, List.set_cons_zero, List.set_cons_succ]
  refine takeZ (i := 9) (v := .pointer (some ⟨gn, i * 6 + 5, none⟩)) rfl (by kernel_rfl) (by kernel_rfl) (by kernel_rfl) (by kernel_rfl) (fun _ _ _ h => h) (Or.inl ⟨by rfl, ?_⟩) hS ?_
  · intro w' hSw; (try dsimp only at hSw); go_simp
  try simp only [Act.put, List.setIfInBounds_toArray, List.set_cons_zero, List.set_cons_succ]
  refine takeZ (i := 10) (v := .int .i64 mm) rfl (by kernel_rfl) (by kernel_rfl) (by kernel_rfl) (by kernel_rfl) (fun _ _ _ h => h) (Or.inl ⟨by rfl, ?_⟩) hS ?_
  · intro w' hSw; (try dsimp only at hSw); go_simp
  try simp only [Act.put, List.setIfInBounds_toArray, List.set_cons_zero, List.set_cons_succ]
  refine takeZ (i := 11) (v := .int .i64 (mm + 1)) rfl (by kernel_rfl) (by kernel_rfl) (by kernel_rfl) (by kernel_rfl) (fun _ _ _ h => h) (Or.inl ⟨by rfl, ?_⟩) hS ?_
  · intro w' hSw; (try dsimp only at hSw); go_simp
  try simp only [Act.put, List.setIfInBounds_toArray, List.set_cons_zero, List.set_cons_succ]
  refine stepZ (i := 12) (by kernel_rfl) rfl (fun K hK => ?_)
  go_simp
  refine hK.out _ _ (fun _ => hS) (fun _ => ?_)
  clear hK K
  try simp only [Act.put, List.setIfInBounds_toArray, List.set_cons_zero, List.set_cons_succ]
  refine takeZ (i := 13) (v := .pointer (some ⟨gn, i * 6 + 5, none⟩)) rfl (by kernel_rfl) (by kernel_rfl) (by kernel_rfl) (by kernel_rfl) (fun _ _ _ h => h) (Or.inl ⟨by rfl, ?_⟩) hS ?_
  · intro w' hSw; (try dsimp only at hSw); go_simp
  try simp only [Act.put, List.setIfInBounds_toArray, List.set_cons_zero, List.set_cons_succ]
  refine stepZ (i := 14) (by kernel_rfl) rfl (fun K hK => ?_)
  go_simp
  refine hK.out _ _ (fun h => absurd rfl h) (fun _ => ?_)
  clear hK K
  try simp only [Act.put, List.setIfInBounds_toArray, List.set_cons_zero, List.set_cons_succ]
  refine doneZ (by kernel_rfl) ?_ _
  refine NoPanic.normal ?_
  have hbu := (HS3.out.below (Below.refl W3.heap.size W3).drew).bumpW HNL.out i HHI.out (by rw [HMV.out]; exact bmm.2)
  rw [HMV.out] at hbu
  rw [show W3.drew.setCell ⟨gn, i * 6 + 5, none⟩ (.int .i64 (mm + 1)) = (W3.setCell ⟨gn, i * 6 + 5, none⟩ (.int .i64 (mm + 1))).drew from rfl] at hbu
  obtain ⟨W4, hW4⟩ : ∃ W4, (W3.setCell ⟨gn, i * 6 + 5, none⟩ (.int .i64 (mm + 1))).drew = W4 := ⟨_, rfl⟩
  have hbx4 : W4.heap[b2 + 1]? = some (.cells #[.int .u8 1, .string b.x, .string b.y, .slice b.A na b.c, .string b.z, .int .i64 mb] 50 (0, 0)) := by rw [← hW4]; exact (heap_setCell_other _ _ _ _ (by have := HWN.out gn rfl; show b2 + 1 ≠ gn; omega)).trans HXB.out
  have hbr4 : W4.heap[b2 + 2]? = some (.cells #[.slice none 0 0, .slice none 0 0] 45 (0, 0)) := by rw [← hW4]; exact (heap_setCell_other _ _ _ _ (by have := HWN.out gn rfl; show b2 + 2 ≠ gn; omega)).trans HXR.out
  rw [hW4] at hbu
  rw [hW4]
  have HS4 := Lib.hid hbu.1
  have HF4 : Hid (FrP base b2 (.slice (some ⟨gn, 0, none⟩) n cn) (.slice (some ⟨go, 0, none⟩) (k + 1) co) W3 (.slice (some ⟨gn, 0, none⟩) n cn) (.slice (some ⟨go, 0, none⟩) (k + 1) co) W4) := Lib.hid ((FrP.below (Below.refl W3.heap.size W3).drew (by have := HBH.out; omega)).trans hbu.2)
  have HXB4 := Lib.hid hbx4
  have HXR4 := Lib.hid hbr4
  have HLM : Hid ((L.modify i bumpB).length = n) := Lib.hid (by rw [List.length_modify]; exact HNL.out)
  have HN4 := Lib.hid (HND.out.keep (fun _ hk => hk) fun k o hk => (cell_blkP (HF4.out.blk k (by have := hk.2.1; have := HS3.out.gr.sz; omega) (by have := hk.2.1; have := HS3.out.hb; omega) hk.2.2.1 hk.2.2.2) : W4.cell? ⟨k, o, none⟩ = W3.cell? ⟨k, o, none⟩))
  clear hbu hbx4 hbr4 hW4 k0 k1 kO kM fM
  have k0 := cellV W4 _ 0 _ _ _ HS4.out.box
  have k1 := cellV W4 _ 1 _ _ _ HS4.out.box
  have n0 := cellV W4 _ 0 _ _ _ HXB4.out
  go_wp2_with (first
    | (at_builtin; refine wpList_append_own_at _ rfl (.tmp 29) (.tmp 33) 40 rfl base 3 j0 (.int .i64 0) 1 8 Tryd.underlying40 HJ.out HY0.out HY1.out HY2.out rfl (by decide) _ (k + 1) _ rfl (own_belowK (by have h9 := HS4.out.gr.op; rw [HML.out] at h9; exact h9) (stpA (Below.refl _ _) _) (Nat.le_refl _)) ⟨W4.heap.size, 0, none⟩ 1 1 [.int .i64 ((n : Nat) : Int)] rfl rfl (new_at W4 [.int .i64 ((n : Nat) : Int)] 3 _ rfl) (by simp [Value.oneCell']) (by have := HLB.out; unfold maxLen; omega) (by have := HLB.out; omega) (by have := HS4.out.gr.sz; have := HS4.out.gr.lo; rw [World.size_alloc]; omega) ?_; intro v5 w5 hown5 hgr5 _ hlie5; obtain ⟨A5, c5, rfl⟩ := own_form2 hown5; have hpu := HS4.out.openW (i := n) (by rw [HML.out]; exact hown5) hgr5 hlie5; have HS5 := Lib.hid hpu.1; have HF5 := Lib.hid (HF4.out.trans hpu.2); have g5 : w5.heap[b2]? = some (.cells #[.slice (some ⟨gn, 0, none⟩) n cn, .slice (some ⟨go, 0, none⟩) (k + 1) co] 45 (0, 0)) := (hgr5.block b2 (by rw [World.size_alloc]; have := lt_heapP HS4.out.box; omega) (fun e => HS4.out.nO e.symm)).trans (kept_heap HS4.out.box (stpA (Below.refl _ _) _)); have f51 := freeV w5 b2 1 _ _ g5; have c51 := cellV w5 _ 1 _ _ _ g5; have HXB5r : w5.heap[b2 + 1]? = some (.cells #[.int .u8 1, .string b.x, .string b.y, .slice b.A na b.c, .string b.z, .int .i64 mb] 50 (0, 0)) := (hgr5.block (b2 + 1) (by rw [World.size_alloc]; have := lt_heapP HXB4.out; omega) (fun e => by have := HWO.out _ e.symm; omega)).trans (kept_heap HXB4.out (stpA (Below.refl _ _) _)); have HXR5r : w5.heap[b2 + 2]? = some (.cells #[.slice none 0 0, .slice none 0 0] 45 (0, 0)) := (hgr5.block (b2 + 2) (by rw [World.size_alloc]; have := lt_heapP HXR4.out; omega) (fun e => by have := HWO.out _ e.symm; omega)).trans (kept_heap HXR4.out (stpA (Below.refl _ _) _)); obtain ⟨W5, hW5⟩ : ∃ W5, w5.setCell ⟨b2, 1, none⟩ (.slice A5 ((k + 1) + 1) c5) = W5 := ⟨_, rfl⟩; have HXB5 : Hid (W5.heap[b2 + 1]? = some (.cells #[.int .u8 1, .string b.x, .string b.y, .slice b.A na b.c, .string b.z, .int .i64 mb] 50 (0, 0))) := Lib.hid (by rw [← hW5]; exact (heap_setCell_other _ _ _ _ (by show b2 + 1 ≠ b2; omega)).trans HXB5r); have HXR5 : Hid (W5.heap[b2 + 2]? = some (.cells #[.slice none 0 0, .slice none 0 0] 45 (0, 0))) := Lib.hid (by rw [← hW5]; exact (heap_setCell_other _ _ _ _ (by show b2 + 2 ≠ b2; omega)).trans HXR5r); rw [hW5] at HS5 HF5; have HN5 := Lib.hid (ndin_lie (W' := W5) HN4.out hlie5 (by rw [World.size_alloc]; have := HS4.out.gr.sz; omega) (fun k h1 h2 h3 => by rw [← hW5]; exact (heap_setCell_other _ _ _ _ (by show k ≠ b2; have := HS4.out.hb; omega)).trans ((hgr5.block k (by rw [World.size_alloc]; have := HS4.out.gr.sz; omega) h3).trans ((stpA (Below.refl _ _) _).block k (by have := HS4.out.gr.sz; omega))))); have k50 := cellV W5 _ 0 _ _ _ HS5.out.box; clear hpu hown5 hgr5 hlie5 g5 HXB5r HXR5r)
    | (refine wpList_load_row rfl _ _ rfl (b2 + 1) rfl 50 #[.int .u8 1, .string b.x, .string b.y, .slice b.A na b.c, .string b.z, .int .i64 mb] (0, 0) _ HXB5.out Tryd.underlying50 rfl infoNdQ ?_)
    | (at_builtin; refine wpList_append_own_at _ rfl (.tmp 37) (.tmp 39) 27 rfl base 50 i0 (.agg #[.int .u8 0, .string ⟨#[]⟩, .string ⟨#[]⟩, .slice none 0 0, .string ⟨#[]⟩, .int .i64 0]) 6 88 Tryd.underlying27 HI.out HZ0.out HZ1.out HZ2.out rfl (by decide) _ n _ rfl (own_belowK (by have h9 := HS5.out.gr.nd; rw [HLM.out] at h9; exact h9) (stpA (Below.refl _ _) _) (Nat.le_refl _)) ⟨W5.heap.size, 0, none⟩ 1 1 [.int .u8 1, .string b.x, .string b.y, .slice b.A na b.c, .string b.z, .int .i64 mb] rfl rfl (new_at W5 [.int .u8 1, .string b.x, .string b.y, .slice b.A na b.c, .string b.z, .int .i64 mb] 50 _ rfl) (by simp [Value.oneCell']) (by have := HLB.out; unfold maxLen; omega) (by have := HLB.out; omega) (by have := HS5.out.gr.sz; have := HS5.out.gr.lo; rw [World.size_alloc]; omega) ?_; intro v6 w6 hown6 hgr6 _ hlie6; obtain ⟨A6, c6, rfl⟩ := own_form2 hown6; have hpv := HS5.out.pushW (b := b) HN5.out (by rw [HNB.out, HLM.out]; exact hown6) hgr6 hlie6; have HS6 := Lib.hid hpv.1; have HF6 := Lib.hid (HF5.out.trans hpv.2); have g6 : w6.heap[b2]? = some (.cells #[.slice (some ⟨gn, 0, none⟩) n cn, .slice A5 ((k + 1) + 1) c5] 45 (0, 0)) := (hgr6.block b2 (by rw [World.size_alloc]; have := lt_heapP HS5.out.box; omega) (fun e => HS5.out.nN e.symm)).trans (kept_heap HS5.out.box (stpA (Below.refl _ _) _)); have f60 := freeV w6 b2 0 _ _ g6; have c60 := cellV w6 _ 0 _ _ _ g6; have r6 : w6.heap[b2 + 2]? = some (.cells #[.slice none 0 0, .slice none 0 0] 45 (0, 0)) := (hgr6.block (b2 + 2) (by rw [World.size_alloc]; have := lt_heapP HXR5.out; omega) (fun e => by have := HWN.out _ e.symm; omega)).trans (kept_heap HXR5.out (stpA (Below.refl _ _) _)); obtain ⟨W6, hW6⟩ : ∃ W6, w6.setCell ⟨b2, 0, none⟩ (.slice A6 (n + 1) c6) = W6 := ⟨_, rfl⟩; have HXR6 : Hid (W6.heap[b2 + 2]? = some (.cells #[.slice none 0 0, .slice none 0 0] 45 (0, 0))) := Lib.hid (by rw [← hW6]; exact (heap_setCell_other _ _ _ _ (by show b2 + 2 ≠ b2; omega)).trans r6); rw [hW6] at HS6 HF6; clear hpv hown6 hgr6 hlie6 r6 g6)
    | (refine wpList_load_row rfl _ _ rfl b2 rfl 45 #[.slice A6 (n + 1) c6, .slice A5 ((k + 1) + 1) c5] (0, 0) _ HS6.out.box Tryd.underlying45 rfl infoGr ?_)
    | (refine wpList_store_row rfl _ _ _ rfl (b2 + 2) #[.slice A6 (n + 1) c6, .slice A5 ((k + 1) + 1) c5] rfl rfl 45 #[.slice none 0 0, .slice none 0 0] HXR6.out infoGr rfl (by simp [Value.oneCell']) ?_)
    | fail)
  have hfin := with_fin HB03.out HBH.out.1 HBH.out.2.1 HWN.out HWO.out HF6.out HS6.out HBH.out.2.2 #[.slice A6 (n + 1) c6, .slice A5 ((k + 1) + 1) c5]
  exact bodyPost_ret (v := .agg #[.slice A6 (n + 1) c6, .slice A5 ((k + 1) + 1) c5]) (rcell1 (p := 4) rfl _ _ _ _ #[.slice A6 (n + 1) c6, .slice A5 ((k + 1) + 1) c5] _ _ rfl (setRow_heap _ _ _ #[.slice A6 (n + 1) c6, .slice A5 ((k + 1) + 1) c5] _ _ HXR6.out) Tryd.underlying45 rfl infoGr) rfl ⟨_, _, rfl, by rw [HBL.out, if_pos HKD.out, HNL.out]; exact hfin.1, hfin.2⟩
set_option maxHeartbeats 16000000 in
set_option maxRecDepth 100000 in
theorem with_some2 (base hi : Nat) (L : List NB) (O : List Nat) (Vn Vo : Value) (b : NB) (w : World) (h : GrSt base hi L O Vn Vo w) (hb : NdIn b.n b.x b.y b.z b.A b.c w (fun k => base ≤ k ∧ k < hi ∧ some k ≠ Vn.ownBlock ∧ some k ≠ Vo.ownBlock)) (hl : L.length ≤ 100000) (hl2 : O.length ≤ 100000) (O1 : List Nat) (i : Nat) (hO : O = O1 ++ [i]) (hi' : i < L.length) (hmm : 0 ≤ (L[i]'hi').n.many ∧ (L[i]'hi').n.many ≤ 1000000) (hkd : b.n.kind = 2) :
    Calls Tryd.prog 24 #[.agg #[Vn, Vo], .agg #[.int .u8 (b.n.kind : Int), .string b.x, .string b.y, .slice b.A b.n.attrs.length b.c, .string b.z, .int .i64 b.n.many]] w (WithTo base hi L O Vn Vo b w) := by
  obtain ⟨i0, hi0, hz0, hz1, hz2⟩ := info_parts infoNd
  have HI := Lib.hid hi0
  have HZ0 := Lib.hid hz0
  have HZ1 := Lib.hid hz1
  have HZ2 := Lib.hid hz2
  obtain ⟨j0, hj0, hy0, hy1, hy2⟩ := info_parts infoZ
  have HJ := Lib.hid hj0
  have HY0 := Lib.hid hy0
  have HY1 := Lib.hid hy1
  have HY2 := Lib.hid hy2
  obtain ⟨An, cn, rfl⟩ := own_form2 h.nd
  obtain ⟨Ao, co, rfl⟩ := own_form2 h.op
  obtain ⟨n, hn⟩ : ∃ n, L.length = n := ⟨_, rfl⟩
  obtain ⟨m, hm⟩ : ∃ m, O.length = m := ⟨_, rfl⟩
  obtain ⟨na, hna⟩ : ∃ na, b.n.attrs.length = na := ⟨_, rfl⟩
  obtain ⟨mb, hmb⟩ : ∃ mb, b.n.many = mb := ⟨_, rfl⟩
  have hkc : (((2 : Nat) : Int)) = 2 := rfl
  obtain ⟨k, hk⟩ : ∃ k, O1.length = k := ⟨_, rfl⟩
  have hmk : m = k + 1 := by rw [← hm, hO, List.length_append, hk]; rfl
  subst hmk
  obtain ⟨mm, hmv⟩ : ∃ mm, (L[i]'hi').n.many = mm := ⟨_, rfl⟩
  rw [hmv] at hmm
  obtain ⟨go, _, rfl, _, _, _, hcO⟩ := ownp_row h.op (by omega)
  obtain ⟨gn, curn, rfl, hgn, hgb, hgl0, hcN⟩ := ownp_row h.nd (by omega)
  have hOk : O[k]? = some i := by rw [hO, List.getElem?_append_right (by omega), hk, Nat.sub_self]; rfl
  have hc1 := hcO k _ (zs_cell hOk)
  have hc2 := hcN (i * 6 + 5) _ (nb_cell5 hi')
  rw [hmv] at hc2
  have HC1 := Lib.hid hc1
  have HC2 := Lib.hid hc2
  have HGN := Lib.hid hgn
  have HHI := Lib.hid hi'
  have HMV := Lib.hid hmv
  have HBL : Hid (bumpL O L = L.modify i bumpB) := Lib.hid (by unfold bumpL; rw [hO, List.getLast?_concat])
  have bk : (0 : Int) ≤ (k : Int) ∧ (k : Int) ≤ 100000 := by omega
  have bi : (0 : Int) ≤ (i : Int) ∧ (i : Int) < (n : Int) ∧ (n : Int) ≤ 100000 := by omega
  have bmm : (0 : Int) ≤ mm ∧ mm ≤ 1000000 := hmm
  have wmm : IntKind.i64.wrap (mm + 1) = mm + 1 := IntWalk.i64_in _ (by omega)
  have bkk : ¬ ((k : Int) + 1 ≤ (k : Int)) := by omega
  have wkk : IntKind.i64.wrap (k : Int) = (k : Int) := IntWalk.i64_in _ (by omega)
  clear hc1 hc2 hcO hcN hmm hOk hk hgb hgl0 hmv hgn
  simp only [hn, hm] at hb h ⊢
  rw [hna, hmb, hkd, hkc]
  have HNB : Hid (nbCells b = [.int .u8 2, .string b.x, .string b.y, .slice b.A na b.c, .string b.z, .int .i64 mb]) := Lib.hid (by unfold nbCells ndCells; rw [hna, hmb, hkd]; rfl)
  have HNL := Lib.hid hn
  have HML := Lib.hid hm
  have HKD := Lib.hid hkd
  have HLB : Hid (n ≤ 100000 ∧ (k + 1) ≤ 100000) := Lib.hid (by omega)
  obtain ⟨b2, hb2⟩ : ∃ b2, w.heap.size = b2 := ⟨_, rfl⟩
  obtain ⟨W1, hW1⟩ : ∃ W1, w.alloc (.cells #[.slice (some ⟨gn, 0, none⟩) n cn, .slice (some ⟨go, 0, none⟩) (k + 1) co] 45) = W1 := ⟨_, rfl⟩
  have HB1 : Hid (Below w.heap.size w W1) := Lib.hid (by rw [← hW1]; exact stpA (Below.refl _ _) _)
  have hs1 : W1.heap.size = b2 + 1 := by rw [← hW1, World.size_alloc, hb2]
  have hx1 : W1.heap[b2]? = some (.cells #[.slice (some ⟨gn, 0, none⟩) n cn, .slice (some ⟨go, 0, none⟩) (k + 1) co] 45 (0, 0)) := by rw [← hW1, ← hb2]; exact heap_alloc_new w _
  obtain ⟨W2, hW2⟩ : ∃ W2, W1.alloc (.cells #[.int .u8 2, .string b.x, .string b.y, .slice b.A na b.c, .string b.z, .int .i64 mb] 50) = W2 := ⟨_, rfl⟩
  have HB2 : Hid (Below W1.heap.size W1 W2) := Lib.hid (by rw [← hW2]; exact stpA (Below.refl _ _) _)
  have hs2 : W2.heap.size = b2 + 2 := by rw [← hW2, World.size_alloc, hs1]
  have hx2 : W2.heap[b2 + 1]? = some (.cells #[.int .u8 2, .string b.x, .string b.y, .slice b.A na b.c, .string b.z, .int .i64 mb] 50 (0, 0)) := by rw [← hW2, ← hs1]; exact heap_alloc_new W1 _
  obtain ⟨W3, hW3⟩ : ∃ W3, W2.alloc (.cells #[.slice none 0 0, .slice none 0 0] 45) = W3 := ⟨_, rfl⟩
  have HB3 : Hid (Below W2.heap.size W2 W3) := Lib.hid (by rw [← hW3]; exact stpA (Below.refl _ _) _)
  have hs3 : W3.heap.size = b2 + 3 := by rw [← hW3, World.size_alloc, hs2]
  have hx3 : W3.heap[b2 + 2]? = some (.cells #[.slice none 0 0, .slice none 0 0] 45 (0, 0)) := by rw [← hW3, ← hs2]; exact heap_alloc_new W2 _
  have HB03 : Hid (Below w.heap.size w W3) := Lib.hid (stp (stp HB1.out HB2.out) HB3.out)
  have HXB : Hid (W3.heap[b2 + 1]? = some (.cells #[.int .u8 2, .string b.x, .string b.y, .slice b.A na b.c, .string b.z, .int .i64 mb] 50 (0, 0))) := Lib.hid (kept_heap hx2 HB3.out)
  have HXR : Hid (W3.heap[b2 + 2]? = some (.cells #[.slice none 0 0, .slice none 0 0] 45 (0, 0))) := Lib.hid hx3
  have hg3 := h.below HB03.out (Nat.le_refl _) (Nat.le_trans h.sz HB03.out.size)
  have HS3 : Hid (WSt base hi L O (.slice (some ⟨gn, 0, none⟩) n cn) (.slice (some ⟨go, 0, none⟩) (k + 1) co) b2 W3) := Lib.hid ⟨kept_heap (kept_heap hx1 HB2.out) HB3.out, hg3, fun e => by have := (h.nd.lt _ e).2; omega, fun e => by have := (h.op.lt _ e).2; omega, by rw [← hb2]; exact h.sz⟩
  have HND : Hid (NdIn b.n b.x b.y b.z b.A b.c W3 (fun k => base ≤ k ∧ k < hi ∧ some k ≠ (Value.slice (some ⟨gn, 0, none⟩) n cn).ownBlock ∧ some k ≠ (Value.slice (some ⟨go, 0, none⟩) (k + 1) co).ownBlock)) := Lib.hid (hb.keep (fun _ hk => hk) fun k o hk => cell_blkP (HB03.out.block k (by have := hk.2.1; have := h.sz; omega)))
  have HWN : Hid (∀ q, (Value.slice (some ⟨gn, 0, none⟩) n cn).ownBlock = some q → q < b2) := Lib.hid fun q hq => by rw [← hb2]; exact (h.nd.lt q hq).2
  have HWO : Hid (∀ q, (Value.slice (some ⟨go, 0, none⟩) (k + 1) co).ownBlock = some q → q < b2) := Lib.hid fun q hq => by rw [← hb2]; exact (h.op.lt q hq).2
  have HBH : Hid (w.heap.size = b2 ∧ W3.heap.size = b2 + 3 ∧ base ≤ b2) := Lib.hid ⟨hb2, hs3, by have := h.lo; have := h.sz; omega⟩
  have k0 := cellV W3 _ 0 _ _ _ HS3.out.box
  have k1 := cellV W3 _ 1 _ _ _ HS3.out.box
  have n0 := cellV W3 _ 0 _ _ _ HXB.out
  clear h hb hl hl2 hi0 hz0 hz1 hz2 hj0 hy0 hy1 hy2 hn hm hna hmb hkd hx1 hx2 hx3 hg3 hkc hs3
  have HF0 : Hid (FrP base b2 (.slice (some ⟨gn, 0, none⟩) n cn) (.slice (some ⟨go, 0, none⟩) (k + 1) co) W3 (.slice (some ⟨gn, 0, none⟩) n cn) (.slice (some ⟨go, 0, none⟩) (k + 1) co) W3) := Lib.hid (FrP.below (Below.refl _ _) (by have := HBH.out; omega))
  have kO : W3.cell? ⟨go, k, none⟩ = some (.int .i64 (i : Int)) := (cell_blkP (HB03.out.block go (by have := HWO.out go rfl; have := HBH.out.1; omega))).trans HC1.out
  have kM : W3.cell? ⟨gn, i * 6 + 5, none⟩ = some (.int .i64 mm) := (cell_blkP (HB03.out.block gn (by have := HWN.out gn rfl; have := HBH.out.1; omega))).trans HC2.out
  have fM : W3.frozen? ⟨gn, i * 6 + 5, none⟩ = false := freeV W3 gn _ _ _ ((HB03.out.block gn (by have := HWN.out gn rfl; have := HBH.out.1; omega)).trans HGN.out)
  go_enter Tryd.func24, Tryd.ntmps24
  go_wp2_with fail
  refine wp_region_noPanic ?_
  refine wp_region_Z (fun W => W.cell? ⟨b2, 0, none⟩ = some (.slice (some ⟨gn, 0, none⟩) n cn) ∧ W.cell? ⟨b2, 1, none⟩ = some (.slice (some ⟨go, 0, none⟩) (k + 1) co) ∧ W.cell? ⟨go, k, none⟩ = some (.int .i64 (i : Int)) ∧ W.cell? ⟨gn, i * 6 + 5, none⟩ = some (.int .i64 mm)) 14 (by kernel_rfl) ?_
  have hS : W3.drew.cell? ⟨b2, 0, none⟩ = some (.slice (some ⟨gn, 0, none⟩) n cn) ∧ W3.drew.cell? ⟨b2, 1, none⟩ = some (.slice (some ⟨go, 0, none⟩) (k + 1) co) ∧ W3.drew.cell? ⟨go, k, none⟩ = some (.int .i64 (i : Int)) ∧ W3.drew.cell? ⟨gn, i * 6 + 5, none⟩ = some (.int .i64 mm) := ⟨k0, k1, kO, kM⟩
  refine takeZ (i := 0) (v := .pointer (some ⟨b2, 0, none⟩)) rfl (by kernel_rfl) (by kernel_rfl) (by kernel_rfl) (by kernel_rfl) (fun _ _ _ h => h) (Or.inl ⟨by rfl, ?_⟩) hS ?_
  · intro w' hSw; (try dsimp only at hSw); go_simp
  try simp only [Act.put, List.setIfInBounds_toArray, List.set_cons_zero, List.set_cons_succ]
  refine takeZ (i := 1) (v := .slice (some ⟨gn, 0, none⟩) n cn) rfl (by kernel_rfl) (by kernel_rfl) (by kernel_rfl) (by kernel_rfl) (fun _ _ _ h => h) (Or.inl ⟨by rfl, ?_⟩) hS ?_
  · intro w' hSw; (try dsimp only at hSw); go_simp
  try simp only [Act.put, List.setIfInBounds_toArray, List.set_cons_zero, List.set_cons_succ]
  refine takeZ (i := 2) (v := .pointer (some ⟨b2, 1, none⟩)) rfl (by kernel_rfl) (by kernel_rfl) (by kernel_rfl) (by kernel_rfl) (fun _ _ _ h => h) (Or.inl ⟨by rfl, ?_⟩) hS ?_
  · intro w' hSw; (try dsimp only at hSw); go_simp
  try simp only [Act.put, List.setIfInBounds_toArray, List.set_cons_zero, List.set_cons_succ]
  refine takeZ (i := 3) (v := .slice (some ⟨go, 0, none⟩) (k + 1) co) rfl (by kernel_rfl) (by kernel_rfl) (by kernel_rfl) (by kernel_rfl) (fun _ _ _ h => h) (Or.inl ⟨by rfl, ?_⟩) hS ?_
  · intro w' hSw; (try dsimp only at hSw); go_simp
  try simp only [Act.put, List.setIfInBounds_toArray, List.set_cons_zero, List.set_cons_succ]
  refine takeZ (i := 4) (v := .int .i64 ((k : Int) + 1)) rfl (by kernel_rfl) (by kernel_rfl) (by kernel_rfl) (by kernel_rfl) (fun _ _ _ h => h) (Or.inl ⟨by rfl, ?_⟩) hS ?_
  · intro w' hSw; (try dsimp only at hSw); go_simp
  try simp only [Act.put, List.setIfInBounds_toArray, List.set_cons_zero, List.set_cons_succ]
  refine takeZ (i := 5) (v := .int .i64 (k : Int)) rfl (by kernel_rfl) (by kernel_rfl) (by kernel_rfl) (by kernel_rfl) (fun _ _ _ h => h) (Or.inl ⟨by rfl, ?_⟩) hS ?_
  · intro w' hSw; (try dsimp only at hSw); go_simp
  try simp only [Act.put, List.setIfInBounds_toArray, List.set_cons_zero, List.set_cons_succ]
  refine takeZ (i := 6) (v := .pointer (some ⟨go, k, none⟩)) rfl (by kernel_rfl) (by kernel_rfl) (by kernel_rfl) (by kernel_rfl) (fun _ _ _ h => h) (Or.inl ⟨by rfl, ?_⟩) hS ?_
  · intro w' hSw; (try dsimp only at hSw); go_simp
  try simp only [Act.put, List.setIfInBounds_toArray, List.set_cons_zero, List.set_cons_succ]
  refine takeZ (i := 7) (v := .int .i64 (i : Int)) rfl (by kernel_rfl) (by kernel_rfl) (by kernel_rfl) (by kernel_rfl) (fun _ _ _ h => h) (Or.inl ⟨by rfl, ?_⟩) hS ?_
  · intro w' hSw; (try dsimp only at hSw); go_simp
  try simp only [Act.put, List.setIfInBounds_toArray, List.set_cons_zero, List.set_cons_succ]
  refine takeZ (i := 8) (v := .pointer (some ⟨gn, i * 6, none⟩)) rfl (by kernel_rfl) (by kernel_rfl) (by kernel_rfl) (by kernel_rfl) (fun _ _ _ h => h) (Or.inl ⟨by rfl, ?_⟩) hS ?_
  · intro w' hSw; (try dsimp only at hSw); go_simp
  try simp only [Act.put, List.setIfInBounds_toArray, List.set_cons_zero, List.set_cons_succ]
  refine takeZ (i := 9) (v := .pointer (some ⟨gn, i * 6 + 5, none⟩)) rfl (by kernel_rfl) (by kernel_rfl) (by kernel_rfl) (by kernel_rfl) (fun _ _ _ h => h) (Or.inl ⟨by rfl, ?_⟩) hS ?_
  · intro w' hSw; (try dsimp only at hSw); go_simp
  try simp only [Act.put, List.setIfInBounds_toArray, List.set_cons_zero, List.set_cons_succ]
  refine takeZ (i := 10) (v := .int .i64 mm) rfl (by kernel_rfl) (by kernel_rfl) (by kernel_rfl) (by kernel_rfl) (fun _ _ _ h => h) (Or.inl ⟨by rfl, ?_⟩) hS ?_
  · intro w' hSw; (try dsimp only at hSw); go_simp
  try simp only [Act.put, List.setIfInBounds_toArray, List.set_cons_zero, List.set_cons_succ]
  refine takeZ (i := 11) (v := .int .i64 (mm + 1)) rfl (by kernel_rfl) (by kernel_rfl) (by kernel_rfl) (by kernel_rfl) (fun _ _ _ h => h) (Or.inl ⟨by rfl, ?_⟩) hS ?_
  · intro w' hSw; (try dsimp only at hSw); go_simp
  try simp only [Act.put, List.setIfInBounds_toArray, List.set_cons_zero, List.set_cons_succ]
  refine stepZ (i := 12) (by kernel_rfl) rfl (fun K hK => ?_)
  go_simp
  refine hK.out _ _ (fun _ => hS) (fun _ => ?_)
  clear hK K
  try simp only [Act.put, List.setIfInBounds_toArray, List.set_cons_zero, List.set_cons_succ]
  refine takeZ (i := 13) (v := .pointer (some ⟨gn, i * 6 + 5, none⟩)) rfl (by kernel_rfl) (by kernel_rfl) (by kernel_rfl) (by kernel_rfl) (fun _ _ _ h => h) (Or.inl ⟨by rfl, ?_⟩) hS ?_
  · intro w' hSw; (try dsimp only at hSw); go_simp
  try simp only [Act.put, List.setIfInBounds_toArray, List.set_cons_zero, List.set_cons_succ]
  refine stepZ (i := 14) (by kernel_rfl) rfl (fun K hK => ?_)
  go_simp
  refine hK.out _ _ (fun h => absurd rfl h) (fun _ => ?_)
  clear hK K
  try simp only [Act.put, List.setIfInBounds_toArray, List.set_cons_zero, List.set_cons_succ]
  refine doneZ (by kernel_rfl) ?_ _
  refine NoPanic.normal ?_
  have hbu := (HS3.out.below (Below.refl W3.heap.size W3).drew).bumpW HNL.out i HHI.out (by rw [HMV.out]; exact bmm.2)
  rw [HMV.out] at hbu
  rw [show W3.drew.setCell ⟨gn, i * 6 + 5, none⟩ (.int .i64 (mm + 1)) = (W3.setCell ⟨gn, i * 6 + 5, none⟩ (.int .i64 (mm + 1))).drew from rfl] at hbu
  obtain ⟨W4, hW4⟩ : ∃ W4, (W3.setCell ⟨gn, i * 6 + 5, none⟩ (.int .i64 (mm + 1))).drew = W4 := ⟨_, rfl⟩
  have hbx4 : W4.heap[b2 + 1]? = some (.cells #[.int .u8 2, .string b.x, .string b.y, .slice b.A na b.c, .string b.z, .int .i64 mb] 50 (0, 0)) := by rw [← hW4]; exact (heap_setCell_other _ _ _ _ (by have := HWN.out gn rfl; show b2 + 1 ≠ gn; omega)).trans HXB.out
  have hbr4 : W4.heap[b2 + 2]? = some (.cells #[.slice none 0 0, .slice none 0 0] 45 (0, 0)) := by rw [← hW4]; exact (heap_setCell_other _ _ _ _ (by have := HWN.out gn rfl; show b2 + 2 ≠ gn; omega)).trans HXR.out
  rw [hW4] at hbu
  rw [hW4]
  have HS4 := Lib.hid hbu.1
  have HF4 : Hid (FrP base b2 (.slice (some ⟨gn, 0, none⟩) n cn) (.slice (some ⟨go, 0, none⟩) (k + 1) co) W3 (.slice (some ⟨gn, 0, none⟩) n cn) (.slice (some ⟨go, 0, none⟩) (k + 1) co) W4) := Lib.hid ((FrP.below (Below.refl W3.heap.size W3).drew (by have := HBH.out; omega)).trans hbu.2)
  have HXB4 := Lib.hid hbx4
  have HXR4 := Lib.hid hbr4
  have HLM : Hid ((L.modify i bumpB).length = n) := Lib.hid (by rw [List.length_modify]; exact HNL.out)
  have HN4 := Lib.hid (HND.out.keep (fun _ hk => hk) fun k o hk => (cell_blkP (HF4.out.blk k (by have := hk.2.1; have := HS3.out.gr.sz; omega) (by have := hk.2.1; have := HS3.out.hb; omega) hk.2.2.1 hk.2.2.2) : W4.cell? ⟨k, o, none⟩ = W3.cell? ⟨k, o, none⟩))
  clear hbu hbx4 hbr4 hW4 k0 k1 kO kM fM
  have k0 := cellV W4 _ 0 _ _ _ HS4.out.box
  have k1 := cellV W4 _ 1 _ _ _ HS4.out.box
  have n0 := cellV W4 _ 0 _ _ _ HXB4.out
  go_wp2_with (first
    | (refine wpList_load_row rfl _ _ rfl (b2 + 1) rfl 50 #[.int .u8 2, .string b.x, .string b.y, .slice b.A na b.c, .string b.z, .int .i64 mb] (0, 0) _ HXB4.out Tryd.underlying50 rfl infoNdQ ?_)
    | (at_builtin; refine wpList_append_own_at _ rfl (.tmp 37) (.tmp 39) 27 rfl base 50 i0 (.agg #[.int .u8 0, .string ⟨#[]⟩, .string ⟨#[]⟩, .slice none 0 0, .string ⟨#[]⟩, .int .i64 0]) 6 88 Tryd.underlying27 HI.out HZ0.out HZ1.out HZ2.out rfl (by decide) _ n _ rfl (own_belowK (by have h9 := HS4.out.gr.nd; rw [HLM.out] at h9; exact h9) (stpA (Below.refl _ _) _) (Nat.le_refl _)) ⟨W4.heap.size, 0, none⟩ 1 1 [.int .u8 2, .string b.x, .string b.y, .slice b.A na b.c, .string b.z, .int .i64 mb] rfl rfl (new_at W4 [.int .u8 2, .string b.x, .string b.y, .slice b.A na b.c, .string b.z, .int .i64 mb] 50 _ rfl) (by simp [Value.oneCell']) (by have := HLB.out; unfold maxLen; omega) (by have := HLB.out; omega) (by have := HS4.out.gr.sz; have := HS4.out.gr.lo; rw [World.size_alloc]; omega) ?_; intro v6 w6 hown6 hgr6 _ hlie6; obtain ⟨A6, c6, rfl⟩ := own_form2 hown6; have hpv := HS4.out.pushW (b := b) HN4.out (by rw [HNB.out, HLM.out]; exact hown6) hgr6 hlie6; have HS6 := Lib.hid hpv.1; have HF6 := Lib.hid (HF4.out.trans hpv.2); have g6 : w6.heap[b2]? = some (.cells #[.slice (some ⟨gn, 0, none⟩) n cn, .slice (some ⟨go, 0, none⟩) (k + 1) co] 45 (0, 0)) := (hgr6.block b2 (by rw [World.size_alloc]; have := lt_heapP HS4.out.box; omega) (fun e => HS4.out.nN e.symm)).trans (kept_heap HS4.out.box (stpA (Below.refl _ _) _)); have f60 := freeV w6 b2 0 _ _ g6; have c60 := cellV w6 _ 0 _ _ _ g6; have r6 : w6.heap[b2 + 2]? = some (.cells #[.slice none 0 0, .slice none 0 0] 45 (0, 0)) := (hgr6.block (b2 + 2) (by rw [World.size_alloc]; have := lt_heapP HXR4.out; omega) (fun e => by have := HWN.out _ e.symm; omega)).trans (kept_heap HXR4.out (stpA (Below.refl _ _) _)); obtain ⟨W6, hW6⟩ : ∃ W6, w6.setCell ⟨b2, 0, none⟩ (.slice A6 (n + 1) c6) = W6 := ⟨_, rfl⟩; have HXR6 : Hid (W6.heap[b2 + 2]? = some (.cells #[.slice none 0 0, .slice none 0 0] 45 (0, 0))) := Lib.hid (by rw [← hW6]; exact (heap_setCell_other _ _ _ _ (by show b2 + 2 ≠ b2; omega)).trans r6); rw [hW6] at HS6 HF6; clear hpv hown6 hgr6 hlie6 r6 g6)
    | (refine wpList_load_row rfl _ _ rfl b2 rfl 45 #[.slice A6 (n + 1) c6, .slice (some ⟨go, 0, none⟩) (k + 1) co] (0, 0) _ HS6.out.box Tryd.underlying45 rfl infoGr ?_)
    | (refine wpList_store_row rfl _ _ _ rfl (b2 + 2) #[.slice A6 (n + 1) c6, .slice (some ⟨go, 0, none⟩) (k + 1) co] rfl rfl 45 #[.slice none 0 0, .slice none 0 0] HXR6.out infoGr rfl (by simp [Value.oneCell']) ?_)
    | fail)
  have hfin := with_fin HB03.out HBH.out.1 HBH.out.2.1 HWN.out HWO.out HF6.out HS6.out HBH.out.2.2 #[.slice A6 (n + 1) c6, .slice (some ⟨go, 0, none⟩) (k + 1) co]
  exact bodyPost_ret (v := .agg #[.slice A6 (n + 1) c6, .slice (some ⟨go, 0, none⟩) (k + 1) co]) (rcell1 (p := 4) rfl _ _ _ _ #[.slice A6 (n + 1) c6, .slice (some ⟨go, 0, none⟩) (k + 1) co] _ _ rfl (setRow_heap _ _ _ #[.slice A6 (n + 1) c6, .slice (some ⟨go, 0, none⟩) (k + 1) co] _ _ HXR6.out) Tryd.underlying45 rfl infoGr) rfl ⟨_, _, rfl, by rw [HBL.out, if_neg (by rw [HKD.out]; decide)]; exact hfin.1, hfin.2⟩
end Hx
end Go.Proofs.YtbjgfaflikgobaaDoor
