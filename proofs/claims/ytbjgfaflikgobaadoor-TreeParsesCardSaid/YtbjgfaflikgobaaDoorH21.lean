/-
  Texts of one seat, put together: PkI, PkJ, PkK, PkL.
-/
import Derived.Test.YtbjgfaflikgobaaDoorH20
import Derived.Test.YtbjgfaflikgobaaDoorH17
import Derived.Test.YtbjgfaflikgobaaDoorH18
namespace Go.Proofs.YtbjgfaflikgobaaDoor
open Go.RowKit
namespace Hx
open Lx Tr Tx Nmb Es
set_option linter.unusedVariables false
theorem rcellP {P : Program} {fn : Func} {p q : Tmp} {ty : TypeId} (h : fn.results = #[.cell p ty, .tmp q]) (tmps : Array Value) (w : World) (g : Nat) (t : TypeId) (cs : Array Value) (fr : Nat × Nat) (d : TypeDesc) (v : Value)
    (hp : tmps.getD p undef = .pointer (some ⟨g, 0, none⟩)) (hv : tmps.getD q undef = v) (hg : w.heap[g]? = some (.cells cs t fr))
    (hu : P.underlying ty = some d) (hd : (match d with | .struct _ | .array _ _ => true | _ => false) = true) (hi : (P.info? ty).map (·.size) = some cs.size) :
    (results fn tmps).run P w = .ok (.tuple #[.agg cs, v]) w := by
  have hp' : tmps[p]?.getD undef = .pointer (some ⟨g, 0, none⟩) := by simpa using hp
  have hv' : tmps[q]?.getD undef = v := by simpa using hv
  simp [results, h, hp', hv', asAddr, run_loadVar_row w g t ty cs fr d hg hu hd hi]
theorem rwith10 (base hi : Nat) (L : List NB) (O : List Nat) (Vn Vo : Value) (b : NB) (w : World) (h : GrSt base hi L O Vn Vo w) (hb : NdIn b.n b.x b.y b.z b.A b.c w (fun k => base ≤ k ∧ k < hi ∧ some k ≠ Vn.ownBlock ∧ some k ≠ Vo.ownBlock)) (hl : L.length ≤ 100000) (hl2 : O.length ≤ 100000) (hO : ∀ i ∈ O, i < L.length) (hM : ∀ b ∈ L, 0 ≤ b.n.many ∧ b.n.many ≤ 1000000) (hkd : b.n.kind = 1 ∨ b.n.kind = 2) :
    Calls Tryd.prog 24 #[.agg #[Vn, Vo], .agg #[.int .u8 (b.n.kind : Int), .string b.x, .string b.y, .slice b.A b.n.attrs.length b.c, .string b.z, .int .i64 b.n.many]] w (WithTo base hi L O Vn Vo b w) := by
  rcases List.eq_nil_or_concat O with h0 | ⟨O1, i, h0⟩
  · rcases hkd with hk | hk
    · exact with_none1 base hi L O Vn Vo b w h hb hl hl2 h0 hk
    · exact with_none2 base hi L O Vn Vo b w h hb hl hl2 h0 hk
  · have hi' : i < L.length := hO i (by rw [h0]; simp)
    have h1 : O = O1 ++ [i] := by rw [h0, List.concat_eq_append]
    rcases hkd with hk | hk
    · exact with_some1 base hi L O Vn Vo b w h hb hl hl2 O1 i h1 hi' (hM _ (List.getElem_mem _)) hk
    · exact with_some2 base hi L O Vn Vo b w h hb hl hl2 O1 i h1 hi' (hM _ (List.getElem_mem _)) hk
/-- The tree under way stays as it was. -/
def KeepTo (Vn Vo : Value) (r : Int) (w : World) (e : Ending) (w' : World) : Prop := e = .returned (.tuple #[.agg #[Vn, Vo], .int .i64 r]) ∧ Below w.heap.size w w'
/-- A block that is no part of a tree under way. -/
structure Alien (hi g : Nat) (Vn Vo : Value) (w : World) : Prop where
  hi : hi ≤ g
  sz : g ≤ w.heap.size
  nd : ∀ q, Vn.ownBlock = some q → q < g
  op : ∀ q, Vo.ownBlock = some q → q < g
/-- What step answers: the tree stands whatever lies at block g. -/
def StpTo (base g : Nat) (x : Except Int PS) (w : World) (e : Ending) (w' : World) : Prop := Below base w w' ∧ (∀ o, w.heap[g]? = some o → w'.heap[g]? = some o) ∧ match x with
  | .error q => ∃ Vn Vo, e = .returned (.tuple #[.agg #[Vn, Vo], .int .i64 q]) ∧ ∃ A1 n1 c1 A2 n2 c2, Vn = Value.slice A1 n1 c1 ∧ Vo = Value.slice A2 n2 c2
  | .ok s => ∃ (hi : Nat) (L : List NB) (Vn Vo : Value), e = .returned (.tuple #[.agg #[Vn, Vo], .int .i64 0]) ∧ L.map NB.n = s.V ∧ ∀ W' : World, (∀ q, q ≠ g → W'.heap[q]? = w'.heap[q]?) → w'.heap.size ≤ W'.heap.size → GrSt base hi L s.O Vn Vo W'
theorem KeepTo.err {base hi g : Nat} {L : List NB} {O : List Nat} {Vn Vo : Value} {r : Int} {w w' : World} {e : Ending} (h : KeepTo Vn Vo r w e w') (hg : GrSt base hi L O Vn Vo w) : StpTo base g (.error r) w e w' := by
  obtain ⟨An, cn, rfl⟩ := own_form2 hg.nd
  obtain ⟨Ao, co, rfl⟩ := own_form2 hg.op
  exact ⟨h.2.mono (Nat.le_trans hg.lo hg.sz), fun o ho => kept_heap ho h.2, _, _, h.1, _, _, _, _, _, _, rfl, rfl⟩
theorem GrSt.alien {base hi g : Nat} {L : List NB} {O : List Nat} {Vn Vo : Value} {w W' : World} (h : GrSt base hi L O Vn Vo w) (ha : hi ≤ g) (h1 : ∀ q, Vn.ownBlock = some q → q < g) (h2 : ∀ q, Vo.ownBlock = some q → q < g) (hw : ∀ q, q ≠ g → W'.heap[q]? = w.heap[q]?) (hs : w.heap.size ≤ W'.heap.size) : GrSt base hi L O Vn Vo W' :=
  h.keep (fun q _ hq => hw q (by
    rcases hq with hq | hq | hq
    · omega
    · have := h1 q hq; omega
    · have := h2 q hq; omega)) (Nat.le_refl _) (Nat.le_trans h.sz hs)
theorem KeepTo.good {base hi g : Nat} {L : List NB} {O : List Nat} {Vn Vo : Value} {w w' : World} {e : Ending} (h : KeepTo Vn Vo 0 w e w') (hg : GrSt base hi L O Vn Vo w) (ha : Alien hi g Vn Vo w) : StpTo base g (.ok ⟨L.map NB.n, O⟩) w e w' := ⟨h.2.mono (Nat.le_trans hg.lo hg.sz), fun o ho => kept_heap ho h.2, hi, L, _, _, h.1, rfl, fun W' h1 h2 => (hg.below h.2 (Nat.le_refl _) (Nat.le_trans hg.sz h.2.size)).alien ha.hi ha.nd ha.op h1 h2⟩
set_option maxHeartbeats 16000000 in
set_option maxRecDepth 100000 in
theorem st_text_none (An : Option Addr) (n cn : Nat) (Ao : Option Addr) (m co : Nat) (t : Tk) (x u : ByteArray) (A : Option Addr) (cp : Nat) (bb : Bool) (w : World) (hkd : t.kind = 4) (hu : u.size ≤ 1000000) (qb : Bool) (hq : u.data.toList.all blk = qb) (r : Int) (hr : r = if qb = true ∧ bb = false then 0 else 80) :
    Calls Tryd.prog 13 #[.agg #[.slice An n cn, .slice Ao 0 co], TkV t x u A cp, .bool bb] w (KeepTo (.slice An n cn) (.slice Ao 0 co) r w) := by
  obtain ⟨na, hna⟩ : ∃ na, t.attrs.length = na := ⟨_, rfl⟩
  unfold TkV
  rw [hna, hkd]
  have hkc : ((4 : Nat) : Int) = 4 := rfl
  rw [hkc]
  obtain ⟨b2, hb2⟩ : ∃ b2, w.heap.size = b2 := ⟨_, rfl⟩
  obtain ⟨W1, hW1⟩ : ∃ W1, w.alloc (.cells #[.slice An n cn, .slice Ao 0 co] 45) = W1 := ⟨_, rfl⟩
  have HB1 : Hid (Below w.heap.size w W1) := Lib.hid (by rw [← hW1]; exact stpA (Below.refl _ _) _)
  have hs1 : W1.heap.size = b2 + 1 := by rw [← hW1, World.size_alloc, hb2]
  have hx1 : W1.heap[b2]? = some (.cells #[.slice An n cn, .slice Ao 0 co] 45 (0, 0)) := by rw [← hW1, ← hb2]; exact heap_alloc_new w _
  obtain ⟨W2, hW2⟩ : ∃ W2, W1.alloc (.cells #[.int .u8 4, .string x, .slice A na cp, .string u] 26) = W2 := ⟨_, rfl⟩
  have HB2 : Hid (Below W1.heap.size W1 W2) := Lib.hid (by rw [← hW2]; exact stpA (Below.refl _ _) _)
  have hs2 : W2.heap.size = b2 + 2 := by rw [← hW2, World.size_alloc, hs1]
  have hx2 : W2.heap[b2 + 1]? = some (.cells #[.int .u8 4, .string x, .slice A na cp, .string u] 26 (0, 0)) := by rw [← hW2, ← hs1]; exact heap_alloc_new W1 _
  obtain ⟨W3, hW3⟩ : ∃ W3, W2.alloc (.cells #[.slice none 0 0, .slice none 0 0] 45) = W3 := ⟨_, rfl⟩
  have HB3 : Hid (Below W2.heap.size W2 W3) := Lib.hid (by rw [← hW3]; exact stpA (Below.refl _ _) _)
  have hs3 : W3.heap.size = b2 + 3 := by rw [← hW3, World.size_alloc, hs2]
  have HXR : Hid (W3.heap[b2 + 2]? = some (.cells #[.slice none 0 0, .slice none 0 0] 45 (0, 0))) := Lib.hid (by rw [← hW3, ← hs2]; exact heap_alloc_new W2 _)
  have HB03 : Hid (Below w.heap.size w W3) := Lib.hid (stp (stp HB1.out HB2.out) HB3.out)
  have HXG : Hid (W3.heap[b2]? = some (.cells #[.slice An n cn, .slice Ao 0 co] 45 (0, 0))) := Lib.hid (kept_heap (kept_heap hx1 HB2.out) HB3.out)
  have HXT : Hid (W3.heap[b2 + 1]? = some (.cells #[.int .u8 4, .string x, .slice A na cp, .string u] 26 (0, 0))) := Lib.hid (kept_heap hx2 HB3.out)
  have HSZ3 : Hid (w.heap.size = b2 ∧ W3.heap.size = b2 + 3) := Lib.hid ⟨hb2, hs3⟩
  have k0 := cellV W3 _ 0 _ _ _ HXG.out
  have k1 := cellV W3 _ 1 _ _ _ HXG.out
  have t0 := cellV W3 _ 0 _ _ _ HXT.out
  have t1 := cellV W3 _ 1 _ _ _ HXT.out
  have t2 := cellV W3 _ 2 _ _ _ HXT.out
  have t3 := cellV W3 _ 3 _ _ _ HXT.out
  clear hx1 hx2 hs3
  have HBL := Lib.hid (rblank10 u W3 hu qb hq)
  clear hq
  cases qb <;> cases bb
  · obtain rfl : r = 80 := hr
    go_enter Tryd.func13, Tryd.ntmps13
    go_wp2_with (first
      | (go_at_call 23; (with_reducible refine (HBL.out).mono ?_); rintro e4 w4 ⟨rfl, hb4⟩; have HXR4 := Lib.hid (kept_heap HXR.out hb4); have HXG4 := Lib.hid (kept_heap HXG.out hb4); have HB4 := Lib.hid (stp HB03.out hb4); clear hb4)
      | (refine wpList_load_row rfl _ _ rfl b2 rfl 45 #[.slice An n cn, .slice Ao 0 co] (0, 0) _ HXG4.out Tryd.underlying45 rfl infoGr ?_)
      | (refine wpList_store_row rfl _ _ _ rfl (b2 + 2) #[.slice An n cn, .slice Ao 0 co] rfl rfl 45 #[.slice none 0 0, .slice none 0 0] HXR4.out infoGr rfl (by simp [Value.oneCell']) ?_)
      | fail)
    exact bodyPost_ret (v := .tuple #[.agg #[.slice An n cn, .slice Ao 0 co], .int .i64 80]) (rcellP (p := 6) (q := 7) rfl _ _ _ _ #[.slice An n cn, .slice Ao 0 co] _ _ _ rfl rfl (setRow_heap _ _ _ #[.slice An n cn, .slice Ao 0 co] _ _ HXR4.out) Tryd.underlying45 rfl infoGr) rfl ⟨rfl, below_setRowV HB4.out (by have := HSZ3.out; omega) _⟩
  · obtain rfl : r = 80 := hr
    go_enter Tryd.func13, Tryd.ntmps13
    go_wp2_with (first
      | (go_at_call 23; (with_reducible refine (HBL.out).mono ?_); rintro e4 w4 ⟨rfl, hb4⟩; have HXR4 := Lib.hid (kept_heap HXR.out hb4); have HXG4 := Lib.hid (kept_heap HXG.out hb4); have HB4 := Lib.hid (stp HB03.out hb4); clear hb4)
      | (refine wpList_load_row rfl _ _ rfl b2 rfl 45 #[.slice An n cn, .slice Ao 0 co] (0, 0) _ HXG4.out Tryd.underlying45 rfl infoGr ?_)
      | (refine wpList_store_row rfl _ _ _ rfl (b2 + 2) #[.slice An n cn, .slice Ao 0 co] rfl rfl 45 #[.slice none 0 0, .slice none 0 0] HXR4.out infoGr rfl (by simp [Value.oneCell']) ?_)
      | fail)
    exact bodyPost_ret (v := .tuple #[.agg #[.slice An n cn, .slice Ao 0 co], .int .i64 80]) (rcellP (p := 6) (q := 7) rfl _ _ _ _ #[.slice An n cn, .slice Ao 0 co] _ _ _ rfl rfl (setRow_heap _ _ _ #[.slice An n cn, .slice Ao 0 co] _ _ HXR4.out) Tryd.underlying45 rfl infoGr) rfl ⟨rfl, below_setRowV HB4.out (by have := HSZ3.out; omega) _⟩
  · obtain rfl : r = 0 := hr
    go_enter Tryd.func13, Tryd.ntmps13
    go_wp2_with (first
      | (go_at_call 23; (with_reducible refine (HBL.out).mono ?_); rintro e4 w4 ⟨rfl, hb4⟩; have HXR4 := Lib.hid (kept_heap HXR.out hb4); have HXG4 := Lib.hid (kept_heap HXG.out hb4); have HB4 := Lib.hid (stp HB03.out hb4); clear hb4)
      | (refine wpList_load_row rfl _ _ rfl b2 rfl 45 #[.slice An n cn, .slice Ao 0 co] (0, 0) _ HXG4.out Tryd.underlying45 rfl infoGr ?_)
      | (refine wpList_store_row rfl _ _ _ rfl (b2 + 2) #[.slice An n cn, .slice Ao 0 co] rfl rfl 45 #[.slice none 0 0, .slice none 0 0] HXR4.out infoGr rfl (by simp [Value.oneCell']) ?_)
      | fail)
    exact bodyPost_ret (v := .tuple #[.agg #[.slice An n cn, .slice Ao 0 co], .int .i64 0]) (rcellP (p := 6) (q := 7) rfl _ _ _ _ #[.slice An n cn, .slice Ao 0 co] _ _ _ rfl rfl (setRow_heap _ _ _ #[.slice An n cn, .slice Ao 0 co] _ _ HXR4.out) Tryd.underlying45 rfl infoGr) rfl ⟨rfl, below_setRowV HB4.out (by have := HSZ3.out; omega) _⟩
  · obtain rfl : r = 80 := hr
    go_enter Tryd.func13, Tryd.ntmps13
    go_wp2_with (first
      | (go_at_call 23; (with_reducible refine (HBL.out).mono ?_); rintro e4 w4 ⟨rfl, hb4⟩; have HXR4 := Lib.hid (kept_heap HXR.out hb4); have HXG4 := Lib.hid (kept_heap HXG.out hb4); have HB4 := Lib.hid (stp HB03.out hb4); clear hb4)
      | (refine wpList_load_row rfl _ _ rfl b2 rfl 45 #[.slice An n cn, .slice Ao 0 co] (0, 0) _ HXG4.out Tryd.underlying45 rfl infoGr ?_)
      | (refine wpList_store_row rfl _ _ _ rfl (b2 + 2) #[.slice An n cn, .slice Ao 0 co] rfl rfl 45 #[.slice none 0 0, .slice none 0 0] HXR4.out infoGr rfl (by simp [Value.oneCell']) ?_)
      | fail)
    exact bodyPost_ret (v := .tuple #[.agg #[.slice An n cn, .slice Ao 0 co], .int .i64 80]) (rcellP (p := 6) (q := 7) rfl _ _ _ _ #[.slice An n cn, .slice Ao 0 co] _ _ _ rfl rfl (setRow_heap _ _ _ #[.slice An n cn, .slice Ao 0 co] _ _ HXR4.out) Tryd.underlying45 rfl infoGr) rfl ⟨rfl, below_setRowV HB4.out (by have := HSZ3.out; omega) _⟩
set_option maxHeartbeats 16000000 in
set_option maxRecDepth 100000 in
theorem st_text_two (An : Option Addr) (n cn : Nat) (Ao : Option Addr) (m co : Nat) (t : Tk) (x u : ByteArray) (A : Option Addr) (cp : Nat) (bb : Bool) (w : World) (hkd : t.kind = 4) (hm : 0 < m) (hb : bb = true) :
    Calls Tryd.prog 13 #[.agg #[.slice An n cn, .slice Ao m co], TkV t x u A cp, .bool bb] w (KeepTo (.slice An n cn) (.slice Ao m co) 80 w) := by
  subst hb
  have fm : ((m : Int) == 0) = false := by simp; omega
  have fm2 : ¬ (m : Int) = 0 := by omega
  obtain ⟨na, hna⟩ : ∃ na, t.attrs.length = na := ⟨_, rfl⟩
  unfold TkV
  rw [hna, hkd]
  have hkc : ((4 : Nat) : Int) = 4 := rfl
  rw [hkc]
  obtain ⟨b2, hb2⟩ : ∃ b2, w.heap.size = b2 := ⟨_, rfl⟩
  obtain ⟨W1, hW1⟩ : ∃ W1, w.alloc (.cells #[.slice An n cn, .slice Ao m co] 45) = W1 := ⟨_, rfl⟩
  have HB1 : Hid (Below w.heap.size w W1) := Lib.hid (by rw [← hW1]; exact stpA (Below.refl _ _) _)
  have hs1 : W1.heap.size = b2 + 1 := by rw [← hW1, World.size_alloc, hb2]
  have hx1 : W1.heap[b2]? = some (.cells #[.slice An n cn, .slice Ao m co] 45 (0, 0)) := by rw [← hW1, ← hb2]; exact heap_alloc_new w _
  obtain ⟨W2, hW2⟩ : ∃ W2, W1.alloc (.cells #[.int .u8 4, .string x, .slice A na cp, .string u] 26) = W2 := ⟨_, rfl⟩
  have HB2 : Hid (Below W1.heap.size W1 W2) := Lib.hid (by rw [← hW2]; exact stpA (Below.refl _ _) _)
  have hs2 : W2.heap.size = b2 + 2 := by rw [← hW2, World.size_alloc, hs1]
  have hx2 : W2.heap[b2 + 1]? = some (.cells #[.int .u8 4, .string x, .slice A na cp, .string u] 26 (0, 0)) := by rw [← hW2, ← hs1]; exact heap_alloc_new W1 _
  obtain ⟨W3, hW3⟩ : ∃ W3, W2.alloc (.cells #[.slice none 0 0, .slice none 0 0] 45) = W3 := ⟨_, rfl⟩
  have HB3 : Hid (Below W2.heap.size W2 W3) := Lib.hid (by rw [← hW3]; exact stpA (Below.refl _ _) _)
  have hs3 : W3.heap.size = b2 + 3 := by rw [← hW3, World.size_alloc, hs2]
  have HXR : Hid (W3.heap[b2 + 2]? = some (.cells #[.slice none 0 0, .slice none 0 0] 45 (0, 0))) := Lib.hid (by rw [← hW3, ← hs2]; exact heap_alloc_new W2 _)
  have HB03 : Hid (Below w.heap.size w W3) := Lib.hid (stp (stp HB1.out HB2.out) HB3.out)
  have HXG : Hid (W3.heap[b2]? = some (.cells #[.slice An n cn, .slice Ao m co] 45 (0, 0))) := Lib.hid (kept_heap (kept_heap hx1 HB2.out) HB3.out)
  have HXT : Hid (W3.heap[b2 + 1]? = some (.cells #[.int .u8 4, .string x, .slice A na cp, .string u] 26 (0, 0))) := Lib.hid (kept_heap hx2 HB3.out)
  have HSZ3 : Hid (w.heap.size = b2 ∧ W3.heap.size = b2 + 3) := Lib.hid ⟨hb2, hs3⟩
  have k0 := cellV W3 _ 0 _ _ _ HXG.out
  have k1 := cellV W3 _ 1 _ _ _ HXG.out
  have t0 := cellV W3 _ 0 _ _ _ HXT.out
  have t1 := cellV W3 _ 1 _ _ _ HXT.out
  have t2 := cellV W3 _ 2 _ _ _ HXT.out
  have t3 := cellV W3 _ 3 _ _ _ HXT.out
  clear hx1 hx2 hs3
  go_enter Tryd.func13, Tryd.ntmps13
  go_wp2_with (first
    | (refine wpList_load_row rfl _ _ rfl b2 rfl 45 #[.slice An n cn, .slice Ao m co] (0, 0) _ HXG.out Tryd.underlying45 rfl infoGr ?_)
    | (refine wpList_store_row rfl _ _ _ rfl (b2 + 2) #[.slice An n cn, .slice Ao m co] rfl rfl 45 #[.slice none 0 0, .slice none 0 0] HXR.out infoGr rfl (by simp [Value.oneCell']) ?_)
    | fail)
  exact bodyPost_ret (v := .tuple #[.agg #[.slice An n cn, .slice Ao m co], .int .i64 80]) (rcellP (p := 6) (q := 7) rfl _ _ _ _ #[.slice An n cn, .slice Ao m co] _ _ _ rfl rfl (setRow_heap _ _ _ #[.slice An n cn, .slice Ao m co] _ _ HXR.out) Tryd.underlying45 rfl infoGr) rfl ⟨rfl, below_setRowV HB03.out (by have := HSZ3.out; omega) _⟩
set_option maxHeartbeats 16000000 in
set_option maxRecDepth 100000 in
theorem st_shut_none (An : Option Addr) (n cn : Nat) (Ao : Option Addr) (m co : Nat) (t : Tk) (x u : ByteArray) (A : Option Addr) (cp : Nat) (bb : Bool) (w : World) (hkd : t.kind = 2) :
    Calls Tryd.prog 13 #[.agg #[.slice An n cn, .slice Ao 0 co], TkV t x u A cp, .bool bb] w (KeepTo (.slice An n cn) (.slice Ao 0 co) 80 w) := by
  obtain ⟨na, hna⟩ : ∃ na, t.attrs.length = na := ⟨_, rfl⟩
  unfold TkV
  rw [hna, hkd]
  have hkc : ((2 : Nat) : Int) = 2 := rfl
  rw [hkc]
  obtain ⟨b2, hb2⟩ : ∃ b2, w.heap.size = b2 := ⟨_, rfl⟩
  obtain ⟨W1, hW1⟩ : ∃ W1, w.alloc (.cells #[.slice An n cn, .slice Ao 0 co] 45) = W1 := ⟨_, rfl⟩
  have HB1 : Hid (Below w.heap.size w W1) := Lib.hid (by rw [← hW1]; exact stpA (Below.refl _ _) _)
  have hs1 : W1.heap.size = b2 + 1 := by rw [← hW1, World.size_alloc, hb2]
  have hx1 : W1.heap[b2]? = some (.cells #[.slice An n cn, .slice Ao 0 co] 45 (0, 0)) := by rw [← hW1, ← hb2]; exact heap_alloc_new w _
  obtain ⟨W2, hW2⟩ : ∃ W2, W1.alloc (.cells #[.int .u8 2, .string x, .slice A na cp, .string u] 26) = W2 := ⟨_, rfl⟩
  have HB2 : Hid (Below W1.heap.size W1 W2) := Lib.hid (by rw [← hW2]; exact stpA (Below.refl _ _) _)
  have hs2 : W2.heap.size = b2 + 2 := by rw [← hW2, World.size_alloc, hs1]
  have hx2 : W2.heap[b2 + 1]? = some (.cells #[.int .u8 2, .string x, .slice A na cp, .string u] 26 (0, 0)) := by rw [← hW2, ← hs1]; exact heap_alloc_new W1 _
  obtain ⟨W3, hW3⟩ : ∃ W3, W2.alloc (.cells #[.slice none 0 0, .slice none 0 0] 45) = W3 := ⟨_, rfl⟩
  have HB3 : Hid (Below W2.heap.size W2 W3) := Lib.hid (by rw [← hW3]; exact stpA (Below.refl _ _) _)
  have hs3 : W3.heap.size = b2 + 3 := by rw [← hW3, World.size_alloc, hs2]
  have HXR : Hid (W3.heap[b2 + 2]? = some (.cells #[.slice none 0 0, .slice none 0 0] 45 (0, 0))) := Lib.hid (by rw [← hW3, ← hs2]; exact heap_alloc_new W2 _)
  have HB03 : Hid (Below w.heap.size w W3) := Lib.hid (stp (stp HB1.out HB2.out) HB3.out)
  have HXG : Hid (W3.heap[b2]? = some (.cells #[.slice An n cn, .slice Ao 0 co] 45 (0, 0))) := Lib.hid (kept_heap (kept_heap hx1 HB2.out) HB3.out)
  have HXT : Hid (W3.heap[b2 + 1]? = some (.cells #[.int .u8 2, .string x, .slice A na cp, .string u] 26 (0, 0))) := Lib.hid (kept_heap hx2 HB3.out)
  have HSZ3 : Hid (w.heap.size = b2 ∧ W3.heap.size = b2 + 3) := Lib.hid ⟨hb2, hs3⟩
  have k0 := cellV W3 _ 0 _ _ _ HXG.out
  have k1 := cellV W3 _ 1 _ _ _ HXG.out
  have t0 := cellV W3 _ 0 _ _ _ HXT.out
  have t1 := cellV W3 _ 1 _ _ _ HXT.out
  have t2 := cellV W3 _ 2 _ _ _ HXT.out
  have t3 := cellV W3 _ 3 _ _ _ HXT.out
  clear hx1 hx2 hs3
  go_enter Tryd.func13, Tryd.ntmps13
  go_wp2_with fail
  go_quiet (fail)
  have HXR9 : Hid ((W3.drewN nq).heap[b2 + 2]? = some (.cells #[.slice none 0 0, .slice none 0 0] 45 (0, 0))) := Lib.hid HXR.out
  have HXG9 : Hid ((W3.drewN nq).heap[b2]? = some (.cells #[.slice An n cn, .slice Ao 0 co] 45 (0, 0))) := Lib.hid HXG.out
  have HB9 : Hid (Below w.heap.size w (W3.drewN nq)) := Lib.hid (stp HB03.out (pk_drewN W3 nq))
  go_wp2_with (first
    | (refine wpList_load_row rfl _ _ rfl b2 rfl 45 #[.slice An n cn, .slice Ao 0 co] (0, 0) _ HXG9.out Tryd.underlying45 rfl infoGr ?_)
    | (refine wpList_store_row rfl _ _ _ rfl (b2 + 2) #[.slice An n cn, .slice Ao 0 co] rfl rfl 45 #[.slice none 0 0, .slice none 0 0] HXR9.out infoGr rfl (by simp [Value.oneCell']) ?_)
    | fail)
  exact bodyPost_ret (v := .tuple #[.agg #[.slice An n cn, .slice Ao 0 co], .int .i64 80]) (rcellP (p := 6) (q := 7) rfl _ _ _ _ #[.slice An n cn, .slice Ao 0 co] _ _ _ rfl rfl (setRow_heap _ _ _ #[.slice An n cn, .slice Ao 0 co] _ _ HXR9.out) Tryd.underlying45 rfl infoGr) rfl ⟨rfl, below_setRowV HB9.out (by have := HSZ3.out; omega) _⟩
set_option maxHeartbeats 16000000 in
set_option maxRecDepth 100000 in
theorem st_beg_xml1 (An : Option Addr) (n cn : Nat) (Ao : Option Addr) (m co : Nat) (t : Tk) (x u : ByteArray) (A : Option Addr) (cp : Nat) (bb : Bool) (w : World) (hkd : t.kind = 1) (hn : 0 < n) :
    Calls Tryd.prog 13 #[.agg #[.slice An n cn, .slice Ao 0 co], TkV t x u A cp, .bool bb] w (KeepTo (.slice An n cn) (.slice Ao 0 co) 80 w) := by
  have bn : (0 : Int) < (n : Int) := by omega
  obtain ⟨na, hna⟩ : ∃ na, t.attrs.length = na := ⟨_, rfl⟩
  unfold TkV
  rw [hna, hkd]
  have hkc : ((1 : Nat) : Int) = 1 := rfl
  rw [hkc]
  obtain ⟨b2, hb2⟩ : ∃ b2, w.heap.size = b2 := ⟨_, rfl⟩
  obtain ⟨W1, hW1⟩ : ∃ W1, w.alloc (.cells #[.slice An n cn, .slice Ao 0 co] 45) = W1 := ⟨_, rfl⟩
  have HB1 : Hid (Below w.heap.size w W1) := Lib.hid (by rw [← hW1]; exact stpA (Below.refl _ _) _)
  have hs1 : W1.heap.size = b2 + 1 := by rw [← hW1, World.size_alloc, hb2]
  have hx1 : W1.heap[b2]? = some (.cells #[.slice An n cn, .slice Ao 0 co] 45 (0, 0)) := by rw [← hW1, ← hb2]; exact heap_alloc_new w _
  obtain ⟨W2, hW2⟩ : ∃ W2, W1.alloc (.cells #[.int .u8 1, .string x, .slice A na cp, .string u] 26) = W2 := ⟨_, rfl⟩
  have HB2 : Hid (Below W1.heap.size W1 W2) := Lib.hid (by rw [← hW2]; exact stpA (Below.refl _ _) _)
  have hs2 : W2.heap.size = b2 + 2 := by rw [← hW2, World.size_alloc, hs1]
  have hx2 : W2.heap[b2 + 1]? = some (.cells #[.int .u8 1, .string x, .slice A na cp, .string u] 26 (0, 0)) := by rw [← hW2, ← hs1]; exact heap_alloc_new W1 _
  obtain ⟨W3, hW3⟩ : ∃ W3, W2.alloc (.cells #[.slice none 0 0, .slice none 0 0] 45) = W3 := ⟨_, rfl⟩
  have HB3 : Hid (Below W2.heap.size W2 W3) := Lib.hid (by rw [← hW3]; exact stpA (Below.refl _ _) _)
  have hs3 : W3.heap.size = b2 + 3 := by rw [← hW3, World.size_alloc, hs2]
  have HXR : Hid (W3.heap[b2 + 2]? = some (.cells #[.slice none 0 0, .slice none 0 0] 45 (0, 0))) := Lib.hid (by rw [← hW3, ← hs2]; exact heap_alloc_new W2 _)
  have HB03 : Hid (Below w.heap.size w W3) := Lib.hid (stp (stp HB1.out HB2.out) HB3.out)
  have HXG : Hid (W3.heap[b2]? = some (.cells #[.slice An n cn, .slice Ao 0 co] 45 (0, 0))) := Lib.hid (kept_heap (kept_heap hx1 HB2.out) HB3.out)
  have HXT : Hid (W3.heap[b2 + 1]? = some (.cells #[.int .u8 1, .string x, .slice A na cp, .string u] 26 (0, 0))) := Lib.hid (kept_heap hx2 HB3.out)
  have HSZ3 : Hid (w.heap.size = b2 ∧ W3.heap.size = b2 + 3) := Lib.hid ⟨hb2, hs3⟩
  have k0 := cellV W3 _ 0 _ _ _ HXG.out
  have k1 := cellV W3 _ 1 _ _ _ HXG.out
  have t0 := cellV W3 _ 0 _ _ _ HXT.out
  have t1 := cellV W3 _ 1 _ _ _ HXT.out
  have t2 := cellV W3 _ 2 _ _ _ HXT.out
  have t3 := cellV W3 _ 3 _ _ _ HXT.out
  clear hx1 hx2 hs3
  go_enter Tryd.func13, Tryd.ntmps13
  go_wp2_with (first
    | (refine wpList_load_row rfl _ _ rfl b2 rfl 45 #[.slice An n cn, .slice Ao 0 co] (0, 0) _ HXG.out Tryd.underlying45 rfl infoGr ?_)
    | (refine wpList_store_row rfl _ _ _ rfl (b2 + 2) #[.slice An n cn, .slice Ao 0 co] rfl rfl 45 #[.slice none 0 0, .slice none 0 0] HXR.out infoGr rfl (by simp [Value.oneCell']) ?_)
    | fail)
  exact bodyPost_ret (v := .tuple #[.agg #[.slice An n cn, .slice Ao 0 co], .int .i64 80]) (rcellP (p := 6) (q := 7) rfl _ _ _ _ #[.slice An n cn, .slice Ao 0 co] _ _ _ rfl rfl (setRow_heap _ _ _ #[.slice An n cn, .slice Ao 0 co] _ _ HXR.out) Tryd.underlying45 rfl infoGr) rfl ⟨rfl, below_setRowV HB03.out (by have := HSZ3.out; omega) _⟩
set_option maxHeartbeats 16000000 in
set_option maxRecDepth 100000 in
theorem st_beg_deep1 (An : Option Addr) (n cn : Nat) (Ao : Option Addr) (m co : Nat) (t : Tk) (x u : ByteArray) (A : Option Addr) (cp : Nat) (bb : Bool) (w : World) (hkd : t.kind = 1) :
    Calls Tryd.prog 13 #[.agg #[.slice An n cn, .slice Ao 12 co], TkV t x u A cp, .bool bb] w (KeepTo (.slice An n cn) (.slice Ao 12 co) 100 w) := by
  obtain ⟨na, hna⟩ : ∃ na, t.attrs.length = na := ⟨_, rfl⟩
  unfold TkV
  rw [hna, hkd]
  have hkc : ((1 : Nat) : Int) = 1 := rfl
  rw [hkc]
  obtain ⟨b2, hb2⟩ : ∃ b2, w.heap.size = b2 := ⟨_, rfl⟩
  obtain ⟨W1, hW1⟩ : ∃ W1, w.alloc (.cells #[.slice An n cn, .slice Ao 12 co] 45) = W1 := ⟨_, rfl⟩
  have HB1 : Hid (Below w.heap.size w W1) := Lib.hid (by rw [← hW1]; exact stpA (Below.refl _ _) _)
  have hs1 : W1.heap.size = b2 + 1 := by rw [← hW1, World.size_alloc, hb2]
  have hx1 : W1.heap[b2]? = some (.cells #[.slice An n cn, .slice Ao 12 co] 45 (0, 0)) := by rw [← hW1, ← hb2]; exact heap_alloc_new w _
  obtain ⟨W2, hW2⟩ : ∃ W2, W1.alloc (.cells #[.int .u8 1, .string x, .slice A na cp, .string u] 26) = W2 := ⟨_, rfl⟩
  have HB2 : Hid (Below W1.heap.size W1 W2) := Lib.hid (by rw [← hW2]; exact stpA (Below.refl _ _) _)
  have hs2 : W2.heap.size = b2 + 2 := by rw [← hW2, World.size_alloc, hs1]
  have hx2 : W2.heap[b2 + 1]? = some (.cells #[.int .u8 1, .string x, .slice A na cp, .string u] 26 (0, 0)) := by rw [← hW2, ← hs1]; exact heap_alloc_new W1 _
  obtain ⟨W3, hW3⟩ : ∃ W3, W2.alloc (.cells #[.slice none 0 0, .slice none 0 0] 45) = W3 := ⟨_, rfl⟩
  have HB3 : Hid (Below W2.heap.size W2 W3) := Lib.hid (by rw [← hW3]; exact stpA (Below.refl _ _) _)
  have hs3 : W3.heap.size = b2 + 3 := by rw [← hW3, World.size_alloc, hs2]
  have HXR : Hid (W3.heap[b2 + 2]? = some (.cells #[.slice none 0 0, .slice none 0 0] 45 (0, 0))) := Lib.hid (by rw [← hW3, ← hs2]; exact heap_alloc_new W2 _)
  have HB03 : Hid (Below w.heap.size w W3) := Lib.hid (stp (stp HB1.out HB2.out) HB3.out)
  have HXG : Hid (W3.heap[b2]? = some (.cells #[.slice An n cn, .slice Ao 12 co] 45 (0, 0))) := Lib.hid (kept_heap (kept_heap hx1 HB2.out) HB3.out)
  have HXT : Hid (W3.heap[b2 + 1]? = some (.cells #[.int .u8 1, .string x, .slice A na cp, .string u] 26 (0, 0))) := Lib.hid (kept_heap hx2 HB3.out)
  have HSZ3 : Hid (w.heap.size = b2 ∧ W3.heap.size = b2 + 3) := Lib.hid ⟨hb2, hs3⟩
  have k0 := cellV W3 _ 0 _ _ _ HXG.out
  have k1 := cellV W3 _ 1 _ _ _ HXG.out
  have t0 := cellV W3 _ 0 _ _ _ HXT.out
  have t1 := cellV W3 _ 1 _ _ _ HXT.out
  have t2 := cellV W3 _ 2 _ _ _ HXT.out
  have t3 := cellV W3 _ 3 _ _ _ HXT.out
  clear hx1 hx2 hs3
  go_enter Tryd.func13, Tryd.ntmps13
  go_wp2_with (first
    | (refine wpList_load_row rfl _ _ rfl b2 rfl 45 #[.slice An n cn, .slice Ao 12 co] (0, 0) _ HXG.out Tryd.underlying45 rfl infoGr ?_)
    | (refine wpList_store_row rfl _ _ _ rfl (b2 + 2) #[.slice An n cn, .slice Ao 12 co] rfl rfl 45 #[.slice none 0 0, .slice none 0 0] HXR.out infoGr rfl (by simp [Value.oneCell']) ?_)
    | fail)
  exact bodyPost_ret (v := .tuple #[.agg #[.slice An n cn, .slice Ao 12 co], .int .i64 100]) (rcellP (p := 6) (q := 7) rfl _ _ _ _ #[.slice An n cn, .slice Ao 12 co] _ _ _ rfl rfl (setRow_heap _ _ _ #[.slice An n cn, .slice Ao 12 co] _ _ HXR.out) Tryd.underlying45 rfl infoGr) rfl ⟨rfl, below_setRowV HB03.out (by have := HSZ3.out; omega) _⟩
set_option maxHeartbeats 16000000 in
set_option maxRecDepth 100000 in
theorem st_beg_xml3 (An : Option Addr) (n cn : Nat) (Ao : Option Addr) (m co : Nat) (t : Tk) (x u : ByteArray) (A : Option Addr) (cp : Nat) (bb : Bool) (w : World) (hkd : t.kind = 3) (hn : 0 < n) :
    Calls Tryd.prog 13 #[.agg #[.slice An n cn, .slice Ao 0 co], TkV t x u A cp, .bool bb] w (KeepTo (.slice An n cn) (.slice Ao 0 co) 80 w) := by
  have bn : (0 : Int) < (n : Int) := by omega
  obtain ⟨na, hna⟩ : ∃ na, t.attrs.length = na := ⟨_, rfl⟩
  unfold TkV
  rw [hna, hkd]
  have hkc : ((3 : Nat) : Int) = 3 := rfl
  rw [hkc]
  obtain ⟨b2, hb2⟩ : ∃ b2, w.heap.size = b2 := ⟨_, rfl⟩
  obtain ⟨W1, hW1⟩ : ∃ W1, w.alloc (.cells #[.slice An n cn, .slice Ao 0 co] 45) = W1 := ⟨_, rfl⟩
  have HB1 : Hid (Below w.heap.size w W1) := Lib.hid (by rw [← hW1]; exact stpA (Below.refl _ _) _)
  have hs1 : W1.heap.size = b2 + 1 := by rw [← hW1, World.size_alloc, hb2]
  have hx1 : W1.heap[b2]? = some (.cells #[.slice An n cn, .slice Ao 0 co] 45 (0, 0)) := by rw [← hW1, ← hb2]; exact heap_alloc_new w _
  obtain ⟨W2, hW2⟩ : ∃ W2, W1.alloc (.cells #[.int .u8 3, .string x, .slice A na cp, .string u] 26) = W2 := ⟨_, rfl⟩
  have HB2 : Hid (Below W1.heap.size W1 W2) := Lib.hid (by rw [← hW2]; exact stpA (Below.refl _ _) _)
  have hs2 : W2.heap.size = b2 + 2 := by rw [← hW2, World.size_alloc, hs1]
  have hx2 : W2.heap[b2 + 1]? = some (.cells #[.int .u8 3, .string x, .slice A na cp, .string u] 26 (0, 0)) := by rw [← hW2, ← hs1]; exact heap_alloc_new W1 _
  obtain ⟨W3, hW3⟩ : ∃ W3, W2.alloc (.cells #[.slice none 0 0, .slice none 0 0] 45) = W3 := ⟨_, rfl⟩
  have HB3 : Hid (Below W2.heap.size W2 W3) := Lib.hid (by rw [← hW3]; exact stpA (Below.refl _ _) _)
  have hs3 : W3.heap.size = b2 + 3 := by rw [← hW3, World.size_alloc, hs2]
  have HXR : Hid (W3.heap[b2 + 2]? = some (.cells #[.slice none 0 0, .slice none 0 0] 45 (0, 0))) := Lib.hid (by rw [← hW3, ← hs2]; exact heap_alloc_new W2 _)
  have HB03 : Hid (Below w.heap.size w W3) := Lib.hid (stp (stp HB1.out HB2.out) HB3.out)
  have HXG : Hid (W3.heap[b2]? = some (.cells #[.slice An n cn, .slice Ao 0 co] 45 (0, 0))) := Lib.hid (kept_heap (kept_heap hx1 HB2.out) HB3.out)
  have HXT : Hid (W3.heap[b2 + 1]? = some (.cells #[.int .u8 3, .string x, .slice A na cp, .string u] 26 (0, 0))) := Lib.hid (kept_heap hx2 HB3.out)
  have HSZ3 : Hid (w.heap.size = b2 ∧ W3.heap.size = b2 + 3) := Lib.hid ⟨hb2, hs3⟩
  have k0 := cellV W3 _ 0 _ _ _ HXG.out
  have k1 := cellV W3 _ 1 _ _ _ HXG.out
  have t0 := cellV W3 _ 0 _ _ _ HXT.out
  have t1 := cellV W3 _ 1 _ _ _ HXT.out
  have t2 := cellV W3 _ 2 _ _ _ HXT.out
  have t3 := cellV W3 _ 3 _ _ _ HXT.out
  clear hx1 hx2 hs3
  go_enter Tryd.func13, Tryd.ntmps13
  go_wp2_with (first
    | (refine wpList_load_row rfl _ _ rfl b2 rfl 45 #[.slice An n cn, .slice Ao 0 co] (0, 0) _ HXG.out Tryd.underlying45 rfl infoGr ?_)
    | (refine wpList_store_row rfl _ _ _ rfl (b2 + 2) #[.slice An n cn, .slice Ao 0 co] rfl rfl 45 #[.slice none 0 0, .slice none 0 0] HXR.out infoGr rfl (by simp [Value.oneCell']) ?_)
    | fail)
  exact bodyPost_ret (v := .tuple #[.agg #[.slice An n cn, .slice Ao 0 co], .int .i64 80]) (rcellP (p := 6) (q := 7) rfl _ _ _ _ #[.slice An n cn, .slice Ao 0 co] _ _ _ rfl rfl (setRow_heap _ _ _ #[.slice An n cn, .slice Ao 0 co] _ _ HXR.out) Tryd.underlying45 rfl infoGr) rfl ⟨rfl, below_setRowV HB03.out (by have := HSZ3.out; omega) _⟩
set_option maxHeartbeats 16000000 in
set_option maxRecDepth 100000 in
theorem st_beg_deep3 (An : Option Addr) (n cn : Nat) (Ao : Option Addr) (m co : Nat) (t : Tk) (x u : ByteArray) (A : Option Addr) (cp : Nat) (bb : Bool) (w : World) (hkd : t.kind = 3) :
    Calls Tryd.prog 13 #[.agg #[.slice An n cn, .slice Ao 12 co], TkV t x u A cp, .bool bb] w (KeepTo (.slice An n cn) (.slice Ao 12 co) 100 w) := by
  obtain ⟨na, hna⟩ : ∃ na, t.attrs.length = na := ⟨_, rfl⟩
  unfold TkV
  rw [hna, hkd]
  have hkc : ((3 : Nat) : Int) = 3 := rfl
  rw [hkc]
  obtain ⟨b2, hb2⟩ : ∃ b2, w.heap.size = b2 := ⟨_, rfl⟩
  obtain ⟨W1, hW1⟩ : ∃ W1, w.alloc (.cells #[.slice An n cn, .slice Ao 12 co] 45) = W1 := ⟨_, rfl⟩
  have HB1 : Hid (Below w.heap.size w W1) := Lib.hid (by rw [← hW1]; exact stpA (Below.refl _ _) _)
  have hs1 : W1.heap.size = b2 + 1 := by rw [← hW1, World.size_alloc, hb2]
  have hx1 : W1.heap[b2]? = some (.cells #[.slice An n cn, .slice Ao 12 co] 45 (0, 0)) := by rw [← hW1, ← hb2]; exact heap_alloc_new w _
  obtain ⟨W2, hW2⟩ : ∃ W2, W1.alloc (.cells #[.int .u8 3, .string x, .slice A na cp, .string u] 26) = W2 := ⟨_, rfl⟩
  have HB2 : Hid (Below W1.heap.size W1 W2) := Lib.hid (by rw [← hW2]; exact stpA (Below.refl _ _) _)
  have hs2 : W2.heap.size = b2 + 2 := by rw [← hW2, World.size_alloc, hs1]
  have hx2 : W2.heap[b2 + 1]? = some (.cells #[.int .u8 3, .string x, .slice A na cp, .string u] 26 (0, 0)) := by rw [← hW2, ← hs1]; exact heap_alloc_new W1 _
  obtain ⟨W3, hW3⟩ : ∃ W3, W2.alloc (.cells #[.slice none 0 0, .slice none 0 0] 45) = W3 := ⟨_, rfl⟩
  have HB3 : Hid (Below W2.heap.size W2 W3) := Lib.hid (by rw [← hW3]; exact stpA (Below.refl _ _) _)
  have hs3 : W3.heap.size = b2 + 3 := by rw [← hW3, World.size_alloc, hs2]
  have HXR : Hid (W3.heap[b2 + 2]? = some (.cells #[.slice none 0 0, .slice none 0 0] 45 (0, 0))) := Lib.hid (by rw [← hW3, ← hs2]; exact heap_alloc_new W2 _)
  have HB03 : Hid (Below w.heap.size w W3) := Lib.hid (stp (stp HB1.out HB2.out) HB3.out)
  have HXG : Hid (W3.heap[b2]? = some (.cells #[.slice An n cn, .slice Ao 12 co] 45 (0, 0))) := Lib.hid (kept_heap (kept_heap hx1 HB2.out) HB3.out)
  have HXT : Hid (W3.heap[b2 + 1]? = some (.cells #[.int .u8 3, .string x, .slice A na cp, .string u] 26 (0, 0))) := Lib.hid (kept_heap hx2 HB3.out)
  have HSZ3 : Hid (w.heap.size = b2 ∧ W3.heap.size = b2 + 3) := Lib.hid ⟨hb2, hs3⟩
  have k0 := cellV W3 _ 0 _ _ _ HXG.out
  have k1 := cellV W3 _ 1 _ _ _ HXG.out
  have t0 := cellV W3 _ 0 _ _ _ HXT.out
  have t1 := cellV W3 _ 1 _ _ _ HXT.out
  have t2 := cellV W3 _ 2 _ _ _ HXT.out
  have t3 := cellV W3 _ 3 _ _ _ HXT.out
  clear hx1 hx2 hs3
  go_enter Tryd.func13, Tryd.ntmps13
  go_wp2_with (first
    | (refine wpList_load_row rfl _ _ rfl b2 rfl 45 #[.slice An n cn, .slice Ao 12 co] (0, 0) _ HXG.out Tryd.underlying45 rfl infoGr ?_)
    | (refine wpList_store_row rfl _ _ _ rfl (b2 + 2) #[.slice An n cn, .slice Ao 12 co] rfl rfl 45 #[.slice none 0 0, .slice none 0 0] HXR.out infoGr rfl (by simp [Value.oneCell']) ?_)
    | fail)
  exact bodyPost_ret (v := .tuple #[.agg #[.slice An n cn, .slice Ao 12 co], .int .i64 100]) (rcellP (p := 6) (q := 7) rfl _ _ _ _ #[.slice An n cn, .slice Ao 12 co] _ _ _ rfl rfl (setRow_heap _ _ _ #[.slice An n cn, .slice Ao 12 co] _ _ HXR.out) Tryd.underlying45 rfl infoGr) rfl ⟨rfl, below_setRowV HB03.out (by have := HSZ3.out; omega) _⟩
set_option maxHeartbeats 16000000 in
set_option maxRecDepth 100000 in
theorem st_shut_ne (gn n cn go k co i : Nat) (t : Tk) (x u yy : ByteArray) (A : Option Addr) (cp : Nat) (bb : Bool) (w : World) (hkd : t.kind = 2) (hi : i < n) (hn : n ≤ 100000) (hk : k ≤ 1000) (kO0 : w.cell? ⟨go, k, none⟩ = some (.int .i64 (i : Int))) (kY0 : w.cell? ⟨gn, i * 6 + 2, none⟩ = some (.string yy)) (hgo : go < w.heap.size) (hgn : gn < w.heap.size) (hne : ¬ yy = x) :
    Calls Tryd.prog 13 #[.agg #[.slice (some ⟨gn, 0, none⟩) n cn, .slice (some ⟨go, 0, none⟩) (k + 1) co], TkV t x u A cp, .bool bb] w (KeepTo (.slice (some ⟨gn, 0, none⟩) n cn) (.slice (some ⟨go, 0, none⟩) (k + 1) co) 80 w) := by
  have bk : (0 : Int) ≤ (k : Int) ∧ (k : Int) ≤ 100000 := by omega
  have bi : (0 : Int) ≤ (i : Int) ∧ (i : Int) < (n : Int) ∧ (n : Int) ≤ 100000 := by omega
  have bkk : ¬ ((k : Int) + 1 ≤ (k : Int)) := by omega
  have fk : ((k : Int) + 1 == 0) = false := by simp; omega
  have fk1 : ¬ ((k : Int) + 1) = 0 := by omega
  have wkk : IntKind.i64.wrap ((k : Int) + 1 - 1) = (k : Int) := by rw [IntWalk.i64_in _ (by omega)]; omega
  have hyt := strp_ne hne
  obtain ⟨na, hna⟩ : ∃ na, t.attrs.length = na := ⟨_, rfl⟩
  unfold TkV
  rw [hna, hkd]
  have hkc : ((2 : Nat) : Int) = 2 := rfl
  rw [hkc]
  obtain ⟨b2, hb2⟩ : ∃ b2, w.heap.size = b2 := ⟨_, rfl⟩
  obtain ⟨W1, hW1⟩ : ∃ W1, w.alloc (.cells #[.slice (some ⟨gn, 0, none⟩) n cn, .slice (some ⟨go, 0, none⟩) (k + 1) co] 45) = W1 := ⟨_, rfl⟩
  have HB1 : Hid (Below w.heap.size w W1) := Lib.hid (by rw [← hW1]; exact stpA (Below.refl _ _) _)
  have hs1 : W1.heap.size = b2 + 1 := by rw [← hW1, World.size_alloc, hb2]
  have hx1 : W1.heap[b2]? = some (.cells #[.slice (some ⟨gn, 0, none⟩) n cn, .slice (some ⟨go, 0, none⟩) (k + 1) co] 45 (0, 0)) := by rw [← hW1, ← hb2]; exact heap_alloc_new w _
  obtain ⟨W2, hW2⟩ : ∃ W2, W1.alloc (.cells #[.int .u8 2, .string x, .slice A na cp, .string u] 26) = W2 := ⟨_, rfl⟩
  have HB2 : Hid (Below W1.heap.size W1 W2) := Lib.hid (by rw [← hW2]; exact stpA (Below.refl _ _) _)
  have hs2 : W2.heap.size = b2 + 2 := by rw [← hW2, World.size_alloc, hs1]
  have hx2 : W2.heap[b2 + 1]? = some (.cells #[.int .u8 2, .string x, .slice A na cp, .string u] 26 (0, 0)) := by rw [← hW2, ← hs1]; exact heap_alloc_new W1 _
  obtain ⟨W3, hW3⟩ : ∃ W3, W2.alloc (.cells #[.slice none 0 0, .slice none 0 0] 45) = W3 := ⟨_, rfl⟩
  have HB3 : Hid (Below W2.heap.size W2 W3) := Lib.hid (by rw [← hW3]; exact stpA (Below.refl _ _) _)
  have hs3 : W3.heap.size = b2 + 3 := by rw [← hW3, World.size_alloc, hs2]
  have HXR : Hid (W3.heap[b2 + 2]? = some (.cells #[.slice none 0 0, .slice none 0 0] 45 (0, 0))) := Lib.hid (by rw [← hW3, ← hs2]; exact heap_alloc_new W2 _)
  have HB03 : Hid (Below w.heap.size w W3) := Lib.hid (stp (stp HB1.out HB2.out) HB3.out)
  have HXG : Hid (W3.heap[b2]? = some (.cells #[.slice (some ⟨gn, 0, none⟩) n cn, .slice (some ⟨go, 0, none⟩) (k + 1) co] 45 (0, 0))) := Lib.hid (kept_heap (kept_heap hx1 HB2.out) HB3.out)
  have HXT : Hid (W3.heap[b2 + 1]? = some (.cells #[.int .u8 2, .string x, .slice A na cp, .string u] 26 (0, 0))) := Lib.hid (kept_heap hx2 HB3.out)
  have HSZ3 : Hid (w.heap.size = b2 ∧ W3.heap.size = b2 + 3) := Lib.hid ⟨hb2, hs3⟩
  have k0 := cellV W3 _ 0 _ _ _ HXG.out
  have k1 := cellV W3 _ 1 _ _ _ HXG.out
  have t0 := cellV W3 _ 0 _ _ _ HXT.out
  have t1 := cellV W3 _ 1 _ _ _ HXT.out
  have t2 := cellV W3 _ 2 _ _ _ HXT.out
  have t3 := cellV W3 _ 3 _ _ _ HXT.out
  clear hx1 hx2 hs3
  have kO := (HB03.out.cell (p := ⟨go, k, none⟩) hgo).trans kO0
  have kY := (HB03.out.cell (p := ⟨gn, i * 6 + 2, none⟩) hgn).trans kY0
  go_enter Tryd.func13, Tryd.ntmps13
  go_wp2_with fail
  go_quiet (fail)
  have HXR9 : Hid ((W3.drewN nq).heap[b2 + 2]? = some (.cells #[.slice none 0 0, .slice none 0 0] 45 (0, 0))) := Lib.hid HXR.out
  have HXG9 : Hid ((W3.drewN nq).heap[b2]? = some (.cells #[.slice (some ⟨gn, 0, none⟩) n cn, .slice (some ⟨go, 0, none⟩) (k + 1) co] 45 (0, 0))) := Lib.hid HXG.out
  have HB9 : Hid (Below w.heap.size w (W3.drewN nq)) := Lib.hid (stp HB03.out (pk_drewN W3 nq))
  go_wp2_with (first
    | (refine wpList_load_row rfl _ _ rfl b2 rfl 45 #[.slice (some ⟨gn, 0, none⟩) n cn, .slice (some ⟨go, 0, none⟩) (k + 1) co] (0, 0) _ HXG9.out Tryd.underlying45 rfl infoGr ?_)
    | (refine wpList_store_row rfl _ _ _ rfl (b2 + 2) #[.slice (some ⟨gn, 0, none⟩) n cn, .slice (some ⟨go, 0, none⟩) (k + 1) co] rfl rfl 45 #[.slice none 0 0, .slice none 0 0] HXR9.out infoGr rfl (by simp [Value.oneCell']) ?_)
    | fail)
  exact bodyPost_ret (v := .tuple #[.agg #[.slice (some ⟨gn, 0, none⟩) n cn, .slice (some ⟨go, 0, none⟩) (k + 1) co], .int .i64 80]) (rcellP (p := 6) (q := 7) rfl _ _ _ _ #[.slice (some ⟨gn, 0, none⟩) n cn, .slice (some ⟨go, 0, none⟩) (k + 1) co] _ _ _ rfl rfl (setRow_heap _ _ _ #[.slice (some ⟨gn, 0, none⟩) n cn, .slice (some ⟨go, 0, none⟩) (k + 1) co] _ _ HXR9.out) Tryd.underlying45 rfl infoGr) rfl ⟨rfl, below_setRowV HB9.out (by have := HSZ3.out; omega) _⟩
set_option maxHeartbeats 16000000 in
set_option maxRecDepth 100000 in
theorem st_shut_eq (gn n cn go k co i : Nat) (t : Tk) (x u yy : ByteArray) (A : Option Addr) (cp : Nat) (bb : Bool) (w : World) (hkd : t.kind = 2) (hi : i < n) (hn : n ≤ 100000) (hk : k ≤ 1000) (bco : (k : Int) ≤ (co : Int)) (kO0 : w.cell? ⟨go, k, none⟩ = some (.int .i64 (i : Int))) (kY0 : w.cell? ⟨gn, i * 6 + 2, none⟩ = some (.string yy)) (hgo : go < w.heap.size) (hgn : gn < w.heap.size) (hne : yy = x) :
    Calls Tryd.prog 13 #[.agg #[.slice (some ⟨gn, 0, none⟩) n cn, .slice (some ⟨go, 0, none⟩) (k + 1) co], TkV t x u A cp, .bool bb] w (KeepTo (.slice (some ⟨gn, 0, none⟩) n cn) (.slice (some ⟨go, 0, none⟩) k co) 0 w) := by
  subst hne
  have bk : (0 : Int) ≤ (k : Int) ∧ (k : Int) ≤ 100000 := by omega
  have bi : (0 : Int) ≤ (i : Int) ∧ (i : Int) < (n : Int) ∧ (n : Int) ≤ 100000 := by omega
  have bkk : ¬ ((k : Int) + 1 ≤ (k : Int)) := by omega
  have fk : ((k : Int) + 1 == 0) = false := by simp; omega
  have fk1 : ¬ ((k : Int) + 1) = 0 := by omega
  have wkk : IntKind.i64.wrap ((k : Int) + 1 - 1) = (k : Int) := by rw [IntWalk.i64_in _ (by omega)]; omega
  obtain ⟨na, hna⟩ : ∃ na, t.attrs.length = na := ⟨_, rfl⟩
  unfold TkV
  rw [hna, hkd]
  have hkc : ((2 : Nat) : Int) = 2 := rfl
  rw [hkc]
  obtain ⟨b2, hb2⟩ : ∃ b2, w.heap.size = b2 := ⟨_, rfl⟩
  obtain ⟨W1, hW1⟩ : ∃ W1, w.alloc (.cells #[.slice (some ⟨gn, 0, none⟩) n cn, .slice (some ⟨go, 0, none⟩) (k + 1) co] 45) = W1 := ⟨_, rfl⟩
  have HB1 : Hid (Below w.heap.size w W1) := Lib.hid (by rw [← hW1]; exact stpA (Below.refl _ _) _)
  have hs1 : W1.heap.size = b2 + 1 := by rw [← hW1, World.size_alloc, hb2]
  have hx1 : W1.heap[b2]? = some (.cells #[.slice (some ⟨gn, 0, none⟩) n cn, .slice (some ⟨go, 0, none⟩) (k + 1) co] 45 (0, 0)) := by rw [← hW1, ← hb2]; exact heap_alloc_new w _
  obtain ⟨W2, hW2⟩ : ∃ W2, W1.alloc (.cells #[.int .u8 2, .string yy, .slice A na cp, .string u] 26) = W2 := ⟨_, rfl⟩
  have HB2 : Hid (Below W1.heap.size W1 W2) := Lib.hid (by rw [← hW2]; exact stpA (Below.refl _ _) _)
  have hs2 : W2.heap.size = b2 + 2 := by rw [← hW2, World.size_alloc, hs1]
  have hx2 : W2.heap[b2 + 1]? = some (.cells #[.int .u8 2, .string yy, .slice A na cp, .string u] 26 (0, 0)) := by rw [← hW2, ← hs1]; exact heap_alloc_new W1 _
  obtain ⟨W3, hW3⟩ : ∃ W3, W2.alloc (.cells #[.slice none 0 0, .slice none 0 0] 45) = W3 := ⟨_, rfl⟩
  have HB3 : Hid (Below W2.heap.size W2 W3) := Lib.hid (by rw [← hW3]; exact stpA (Below.refl _ _) _)
  have hs3 : W3.heap.size = b2 + 3 := by rw [← hW3, World.size_alloc, hs2]
  have HXR : Hid (W3.heap[b2 + 2]? = some (.cells #[.slice none 0 0, .slice none 0 0] 45 (0, 0))) := Lib.hid (by rw [← hW3, ← hs2]; exact heap_alloc_new W2 _)
  have HB03 : Hid (Below w.heap.size w W3) := Lib.hid (stp (stp HB1.out HB2.out) HB3.out)
  have HXG : Hid (W3.heap[b2]? = some (.cells #[.slice (some ⟨gn, 0, none⟩) n cn, .slice (some ⟨go, 0, none⟩) (k + 1) co] 45 (0, 0))) := Lib.hid (kept_heap (kept_heap hx1 HB2.out) HB3.out)
  have HXT : Hid (W3.heap[b2 + 1]? = some (.cells #[.int .u8 2, .string yy, .slice A na cp, .string u] 26 (0, 0))) := Lib.hid (kept_heap hx2 HB3.out)
  have HSZ3 : Hid (w.heap.size = b2 ∧ W3.heap.size = b2 + 3) := Lib.hid ⟨hb2, hs3⟩
  have k0 := cellV W3 _ 0 _ _ _ HXG.out
  have k1 := cellV W3 _ 1 _ _ _ HXG.out
  have t0 := cellV W3 _ 0 _ _ _ HXT.out
  have t1 := cellV W3 _ 1 _ _ _ HXT.out
  have t2 := cellV W3 _ 2 _ _ _ HXT.out
  have t3 := cellV W3 _ 3 _ _ _ HXT.out
  clear hx1 hx2 hs3
  have kO := (HB03.out.cell (p := ⟨go, k, none⟩) hgo).trans kO0
  have kY := (HB03.out.cell (p := ⟨gn, i * 6 + 2, none⟩) hgn).trans kY0
  have f1 := freeV W3 b2 1 _ _ HXG.out
  go_enter Tryd.func13, Tryd.ntmps13
  go_wp2_with fail
  go_quiet (fail)
  obtain ⟨W9, hW9⟩ : ∃ W9, (W3.drewN nq).setCell ⟨b2, 1, none⟩ (.slice (some ⟨go, 0, none⟩) k co) = W9 := ⟨_, rfl⟩
  have HXG9 : Hid (W9.heap[b2]? = some (.cells #[.slice (some ⟨gn, 0, none⟩) n cn, .slice (some ⟨go, 0, none⟩) k co] 45 (0, 0))) := Lib.hid (by rw [← hW9]; exact heap_setCell_same (W3.drewN nq) b2 1 _ _ _ HXG.out)
  have HXR9 : Hid (W9.heap[b2 + 2]? = some (.cells #[.slice none 0 0, .slice none 0 0] 45 (0, 0))) := Lib.hid (by rw [← hW9]; exact (heap_setCell_other _ _ _ _ (by show b2 + 2 ≠ b2; omega)).trans HXR.out)
  have HB9 : Hid (Below w.heap.size w W9) := Lib.hid (by rw [← hW9]; exact (stp HB03.out (pk_drewN W3 nq)).setCell (p := ⟨b2, 1, none⟩) (by have := HSZ3.out; show w.heap.size ≤ b2; omega) _)
  go_wp2_with (first
    | (refine wpList_load_row rfl _ _ rfl b2 rfl 45 #[.slice (some ⟨gn, 0, none⟩) n cn, .slice (some ⟨go, 0, none⟩) k co] (0, 0) _ HXG9.out Tryd.underlying45 rfl infoGr ?_)
    | (refine wpList_store_row rfl _ _ _ rfl (b2 + 2) #[.slice (some ⟨gn, 0, none⟩) n cn, .slice (some ⟨go, 0, none⟩) k co] rfl rfl 45 #[.slice none 0 0, .slice none 0 0] HXR9.out infoGr rfl (by simp [Value.oneCell']) ?_)
    | fail)
  exact bodyPost_ret (v := .tuple #[.agg #[.slice (some ⟨gn, 0, none⟩) n cn, .slice (some ⟨go, 0, none⟩) k co], .int .i64 0]) (rcellP (p := 6) (q := 7) rfl _ _ _ _ #[.slice (some ⟨gn, 0, none⟩) n cn, .slice (some ⟨go, 0, none⟩) k co] _ _ _ rfl rfl (setRow_heap _ _ _ #[.slice (some ⟨gn, 0, none⟩) n cn, .slice (some ⟨go, 0, none⟩) k co] _ _ HXR9.out) Tryd.underlying45 rfl infoGr) rfl ⟨rfl, below_setRowV HB9.out (by have := HSZ3.out; omega) _⟩
end Hx
end Go.Proofs.YtbjgfaflikgobaaDoor
namespace Go.Proofs.YtbjgfaflikgobaaDoor
open Go.RowKit
namespace Hx
open Lx Tr Tx Nmb Es
set_option linter.unusedVariables false
theorem NdIn.bump {b : NB} {w : World} {S : Nat → Prop} (h : NdIn b.n b.x b.y b.z b.A b.c w S) (hm : b.n.many ≤ 1000000) : NdIn (bumpB b).n (bumpB b).x (bumpB b).y (bumpB b).z (bumpB b).A (bumpB b).c w S :=
  ⟨h.space, h.name, h.text, h.attrs, h.le, h.cm, h.nil, h.kd, by have := h.lo; show _ ≤ _ + 1; omega, by show _ + 1 ≤ _; omega⟩
theorem bumpL_in {O : List Nat} {L : List NB} {w : World} {S : Nat → Prop} (h : ∀ b ∈ L, NdIn b.n b.x b.y b.z b.A b.c w S) (hm : ∀ b ∈ L, 0 ≤ b.n.many ∧ b.n.many ≤ 1000000) : ∀ b ∈ bumpL O L, NdIn b.n b.x b.y b.z b.A b.c w S := fun b hb => by
  unfold bumpL at hb
  split at hb
  · exact h b hb
  · rename_i i _
    obtain ⟨j, hj, e⟩ := List.getElem_of_mem hb
    rw [List.getElem_modify] at e
    have hj' : j < L.length := by rw [List.length_modify] at hj; exact hj
    split at e
    · rw [← e]; exact (h _ (List.getElem_mem hj')).bump (hm _ (List.getElem_mem hj')).2
    · rw [← e]; exact h _ (List.getElem_mem hj')
/-- The rows of a tree under way, read anew. -/
theorem GrSt.re {base hi : Nat} {L : List NB} {O : List Nat} {Vn Vo : Value} {W W' : World} (h : GrSt base hi L O Vn Vo W) (hk : ∀ q, Vn.ownBlock = some q ∨ Vo.ownBlock = some q → W'.heap[q]? = W.heap[q]?) (hin : ∀ b ∈ L, NdIn b.n b.x b.y b.z b.A b.c W' (fun k => base ≤ k ∧ k < hi ∧ some k ≠ Vn.ownBlock ∧ some k ≠ Vo.ownBlock)) (hsz : hi ≤ W'.heap.size) : GrSt base hi L O Vn Vo W' :=
  ⟨ownp_keep h.nd fun q hq => hk q (.inl hq), ownp_keep h.op fun q hq => hk q (.inr hq), h.ne, hin, h.lo, hsz⟩
/-- A node more, told in boxes of the call's own. -/
theorem stp_fin {base hi hi2 b2 g : Nat} {L : List NB} {O O' : List Nat} {b : NB} {Vn Vo V6 V5 : Value} {w W4 W6 W' : World} (h : GrSt base hi L O Vn Vo w) (hM : ∀ b ∈ L, 0 ≤ b.n.many ∧ b.n.many ≤ 1000000) (h2 : w.heap.size = b2) (hb4 : Below w.heap.size w W4) (h4 : b2 + 3 ≤ W4.heap.size)
    (hg : GrSt base hi2 (bumpL O L ++ [b]) O' V6 V5 W6) (hf : FrP base W4.heap.size Vn Vo W4 V6 V5 W6) (hnd : NdIn b.n b.x b.y b.z b.A b.c W4 (fun k => b2 + 3 ≤ k ∧ k < hi2)) (h42 : hi2 ≤ W4.heap.size) (hhi : hi ≤ hi2)
    (ha : Alien hi g Vn Vo w) (hw : ∀ q, q ≠ b2 → q ≠ b2 + 2 → q ≠ g → W'.heap[q]? = W6.heap[q]?) (hs : W6.heap.size ≤ W'.heap.size) : GrSt base hi2 (bumpL O L ++ [b]) O' V6 V5 W' := by
  have hz := hf.bel.size
  have hsz := h.sz
  have hg1 := ha.hi
  have hg2 := ha.sz
  have hN : ∀ q, V6.ownBlock = some q → q < g ∨ W4.heap.size ≤ q := fun q hq => by
    by_cases hlt : q < W4.heap.size
    · have := ha.nd q (hf.lieN q hlt hq); omega
    · omega
  have hO : ∀ q, V5.ownBlock = some q → q < g ∨ W4.heap.size ≤ q := fun q hq => by
    by_cases hlt : q < W4.heap.size
    · have := ha.op q (hf.lieO q hlt hq); omega
    · omega
  have hold : ∀ k, k < hi → some k ≠ Vn.ownBlock → some k ≠ Vo.ownBlock → W'.heap[k]? = w.heap[k]? := fun k h1 h3 h5 =>
    (hw k (by omega) (by omega) (by omega)).trans ((hf.blk k (by omega) (by omega) h3 h5).trans (hb4.block k (by omega)))
  refine hg.re (fun q hq => hw q ?_ ?_ ?_) (fun c hc => ?_) (by have := hg.sz; omega)
  · rcases hq with hq | hq
    · have := hN q hq; omega
    · have := hO q hq; omega
  · rcases hq with hq | hq
    · have := hN q hq; omega
    · have := hO q hq; omega
  · rcases hq with hq | hq
    · have := hN q hq; omega
    · have := hO q hq; omega
  · rcases List.mem_append.1 hc with hc | hc
    · refine (bumpL_in h.inn hM c hc).keep (fun k hk => ⟨hk.1, by have := hk.2.1; omega, fun e => hk.2.2.1 (hf.lieN k (by have := hk.2.1; omega) e.symm).symm, fun e => hk.2.2.2 (hf.lieO k (by have := hk.2.1; omega) e.symm).symm⟩) fun k o hk => cell_blkP (hold k hk.2.1 hk.2.2.1 hk.2.2.2)
    · obtain rfl := List.mem_singleton.1 hc
      refine hnd.keep (fun k hk => ⟨by have := h.lo; omega, hk.2, fun e => by have := hN k e.symm; omega, fun e => by have := hO k e.symm; omega⟩) fun k o hk => cell_blkP ((hw k (by omega) (by omega) (by omega)).trans (hf.blk k (by omega) (by omega) (fun e => by have := (h.nd.lt k e.symm).2; omega) fun e => by have := (h.op.lt k e.symm).2; omega))
theorem text_node {u : ByteArray} {w : World} {S : Nat → Prop} {tx : List UInt8} (hu : u.data.toList = tx) : NdIn ⟨2, [], [], [], tx, 0⟩ ⟨#[]⟩ ⟨#[]⟩ u none 0 w S :=
  ⟨rfl, rfl, hu, RdS.nil _ _ _, Nat.le_refl _, Nat.zero_le _, fun _ => rfl, by show 2 < 256; decide, by show (-9223372036854775808 : Int) ≤ 0; decide, by show (0 : Int) ≤ 9223372036854775807; decide⟩
theorem given_node {base n c : Nat} {x : ByteArray} {l : List Pr} {A : Option Addr} {w' : World} {nm : List UInt8} {S : Nat → Prop} (h : w'.ownsRow base 61 3 (.slice A n c) n (((givenN l).map abOf).flatMap abCells)) (hn : l.length = n) (hx : x.data.toList = nm) (hS : ∀ q, base ≤ q → q < w'.heap.size → S q) : NdIn ⟨1, [], nm, givenN l, [], 0⟩ ⟨#[]⟩ x ⟨#[]⟩ A c w' S := by
  have hl : (givenN l).length = n := by unfold givenN; rw [List.length_map, hn]
  obtain ⟨r1, r2, r3, r4, r5⟩ := RdS.of_own (C := AtS) (S := S) abCells abVal (fun _ => rfl) (by decide) ((givenN l).map abOf) (fun b _ => ab_R w' S b) (fun g hg => hS g (h.lt g hg).1 (h.lt g hg).2) h
  rw [map_abOf] at r1
  exact ⟨rfl, hx, rfl, r1, by show (givenN l).length ≤ c; rw [List.length_map] at r2; omega, r4, r5, by show 1 < 256; decide, by show (-9223372036854775808 : Int) ≤ 0; decide, by show (0 : Int) ≤ 9223372036854775807; decide⟩
set_option maxHeartbeats 16000000 in
set_option maxRecDepth 100000 in
theorem st_text_put (base hi : Nat) (L : List NB) (O : List Nat) (An : Option Addr) (n cn : Nat) (Ao : Option Addr) (m co : Nat) (t : Tk) (x u : ByteArray) (A : Option Addr) (cp : Nat) (w : World) (h : GrSt base hi L O (.slice An n cn) (.slice Ao m co) w) (hn : L.length = n) (hm : O.length = m) (hn9 : n ≤ 100000) (hm9 : m ≤ 12) (hO : ∀ i ∈ O, i < L.length) (hM : ∀ b ∈ L, 0 ≤ b.n.many ∧ b.n.many ≤ 1000000) (g : Nat) (hal : Alien hi g (.slice An n cn) (.slice Ao m co) w) (hkd : t.kind = 4) (hu : u.data.toList = t.text) (hm0 : 0 < m) :
    Calls Tryd.prog 13 #[.agg #[.slice An n cn, .slice Ao m co], TkV t x u A cp, .bool false] w (StpTo base g (.ok ⟨bump O (L.map NB.n) ++ [nodeT t], O⟩) w) := by
  have fm : ((m : Int) == 0) = false := by simp; omega
  have fm2 : ¬ (m : Int) = 0 := by omega
  have hnt : nodeT t = ⟨2, [], [], [], t.text, 0⟩ := by unfold nodeT; rw [if_pos hkd]
  obtain ⟨na, hna⟩ : ∃ na, t.attrs.length = na := ⟨_, rfl⟩
  unfold TkV
  rw [hna, hkd]
  have hkc : ((4 : Nat) : Int) = 4 := rfl
  rw [hkc]
  obtain ⟨b2, hb2⟩ : ∃ b2, w.heap.size = b2 := ⟨_, rfl⟩
  obtain ⟨W1, hW1⟩ : ∃ W1, w.alloc (.cells #[.slice An n cn, .slice Ao m co] 45) = W1 := ⟨_, rfl⟩
  have HB1 : Hid (Below w.heap.size w W1) := Lib.hid (by rw [← hW1]; exact stpA (Below.refl _ _) _)
  have hs1 : W1.heap.size = b2 + 1 := by rw [← hW1, World.size_alloc, hb2]
  have hx1 : W1.heap[b2]? = some (.cells #[.slice An n cn, .slice Ao m co] 45 (0, 0)) := by rw [← hW1, ← hb2]; exact heap_alloc_new w _
  obtain ⟨W2, hW2⟩ : ∃ W2, W1.alloc (.cells #[.int .u8 4, .string x, .slice A na cp, .string u] 26) = W2 := ⟨_, rfl⟩
  have HB2 : Hid (Below W1.heap.size W1 W2) := Lib.hid (by rw [← hW2]; exact stpA (Below.refl _ _) _)
  have hs2 : W2.heap.size = b2 + 2 := by rw [← hW2, World.size_alloc, hs1]
  have hx2 : W2.heap[b2 + 1]? = some (.cells #[.int .u8 4, .string x, .slice A na cp, .string u] 26 (0, 0)) := by rw [← hW2, ← hs1]; exact heap_alloc_new W1 _
  obtain ⟨W3, hW3⟩ : ∃ W3, W2.alloc (.cells #[.slice none 0 0, .slice none 0 0] 45) = W3 := ⟨_, rfl⟩
  have HB3 : Hid (Below W2.heap.size W2 W3) := Lib.hid (by rw [← hW3]; exact stpA (Below.refl _ _) _)
  have hs3 : W3.heap.size = b2 + 3 := by rw [← hW3, World.size_alloc, hs2]
  have HXR : Hid (W3.heap[b2 + 2]? = some (.cells #[.slice none 0 0, .slice none 0 0] 45 (0, 0))) := Lib.hid (by rw [← hW3, ← hs2]; exact heap_alloc_new W2 _)
  have HB03 : Hid (Below w.heap.size w W3) := Lib.hid (stp (stp HB1.out HB2.out) HB3.out)
  have HXG : Hid (W3.heap[b2]? = some (.cells #[.slice An n cn, .slice Ao m co] 45 (0, 0))) := Lib.hid (kept_heap (kept_heap hx1 HB2.out) HB3.out)
  have HXT : Hid (W3.heap[b2 + 1]? = some (.cells #[.int .u8 4, .string x, .slice A na cp, .string u] 26 (0, 0))) := Lib.hid (kept_heap hx2 HB3.out)
  have HSZ3 : Hid (w.heap.size = b2 ∧ W3.heap.size = b2 + 3) := Lib.hid ⟨hb2, hs3⟩
  have k0 := cellV W3 _ 0 _ _ _ HXG.out
  have k1 := cellV W3 _ 1 _ _ _ HXG.out
  have t0 := cellV W3 _ 0 _ _ _ HXT.out
  have t1 := cellV W3 _ 1 _ _ _ HXT.out
  have t2 := cellV W3 _ 2 _ _ _ HXT.out
  have t3 := cellV W3 _ 3 _ _ _ HXT.out
  clear hx1 hx2 hs3
  have hg3 := h.below HB03.out (Nat.le_refl _) (Nat.le_trans h.sz HB03.out.size)
  have HW : Hid (Calls Tryd.prog 24 #[.agg #[.slice An n cn, .slice Ao m co], .agg #[.int .u8 2, .string ⟨#[]⟩, .string ⟨#[]⟩, .slice none 0 0, .string u, .int .i64 0]] W3 (WithTo base hi L O (.slice An n cn) (.slice Ao m co) ⟨⟨2, [], [], [], t.text, 0⟩, ⟨#[]⟩, ⟨#[]⟩, u, none, 0⟩ W3)) := Lib.hid (rwith10 base hi L O _ _ ⟨⟨2, [], [], [], t.text, 0⟩, ⟨#[]⟩, ⟨#[]⟩, u, none, 0⟩ W3 hg3 (text_node hu) (by omega) (by omega) hO hM (.inr rfl))
  obtain ⟨p6, hp6⟩ : ∃ p6, (bumpL O L ++ [(⟨⟨2, [], [], [], t.text, 0⟩, ⟨#[]⟩, ⟨#[]⟩, u, none, 0⟩ : NB)]).length = p6 := ⟨_, rfl⟩
  have HP6 := Lib.hid hp6
  have HML : Hid ((if (⟨2, [], [], [], t.text, 0⟩ : Nd).kind = 1 then O ++ [L.length] else O).length = m) := Lib.hid hm
  have HH := Lib.hid h
  have HAL := Lib.hid hal
  have HM := Lib.hid hM
  have HU := Lib.hid hu
  have HNT := Lib.hid hnt
  have HLO : Hid (base ≤ w.heap.size) := Lib.hid (Nat.le_trans h.lo h.sz)
  clear h hal hM hO hg3 hu hn hm hnt hna hp6
  go_enter Tryd.func13, Tryd.ntmps13
  go_wp2_with (first
    | (refine wpList_load_row rfl _ _ rfl b2 rfl 45 #[.slice An n cn, .slice Ao m co] (0, 0) _ HXG.out Tryd.underlying45 rfl infoGr ?_)
    | (go_at_call 24; (with_reducible refine (HW.out).mono ?_); rintro e5 w5 ⟨Vn', Vo', rfl, hg5, hf5⟩; obtain ⟨A6, c6, hv6⟩ := own_form2 hg5.nd; obtain ⟨A5, c5, hv5⟩ := own_form2 hg5.op; rw [HP6.out] at hv6; rw [HML.out] at hv5; subst hv6 hv5; have HXR5 : Hid (w5.heap[b2 + 2]? = some (.cells #[.slice none 0 0, .slice none 0 0] 45 (0, 0))) := Lib.hid ((hf5.blk (b2 + 2) (by have := HSZ3.out; omega) (by have := HSZ3.out; omega) (fun e => by have := (HH.out.nd.lt _ e.symm).2; have := HSZ3.out; omega) (fun e => by have := (HH.out.op.lt _ e.symm).2; have := HSZ3.out; omega)).trans HXR.out); have HG5 := Lib.hid hg5; have HF5 := Lib.hid hf5; clear hg5 hf5)
    | (refine wpList_store_row rfl _ _ _ rfl (b2 + 2) #[.slice A6 p6 c6, .slice A5 m c5] rfl rfl 45 #[.slice none 0 0, .slice none 0 0] HXR5.out infoGr rfl (by simp [Value.oneCell']) ?_)
    | fail)
  have hb : Below base w (w5.setRow (b2 + 2) #[.slice A6 p6 c6, .slice A5 m c5]) := below_setRowV ((HB03.out.mono HLO.out).trans HF5.out.bel) (by have := HSZ3.out; have := HLO.out; omega) _
  have hg0 : ∀ o, w.heap[g]? = some o → (w5.setRow (b2 + 2) #[.slice A6 p6 c6, .slice A5 m c5]).heap[g]? = some o := fun o ho => by
    have hgl := lt_heapP ho
    have h9 := HSZ3.out
    exact (setRow_other _ _ _ _ (by omega)).trans ((HF5.out.blk g (by omega) (by omega) (fun e => by have := HAL.out.nd g e.symm; omega) (fun e => by have := HAL.out.op g e.symm; omega)).trans (kept_heap ho HB03.out))
  have hg9 : ∀ W' : World, (∀ q, q ≠ g → W'.heap[q]? = (w5.setRow (b2 + 2) #[.slice A6 p6 c6, .slice A5 m c5]).heap[q]?) → (w5.setRow (b2 + 2) #[.slice A6 p6 c6, .slice A5 m c5]).heap.size ≤ W'.heap.size → GrSt base hi _ _ _ _ W' := fun W' k1 k2 => stp_fin HH.out HM.out HSZ3.out.1 HB03.out (by have := HSZ3.out; omega) HG5.out HF5.out (text_node HU.out) (by have := HH.out.sz; have := HSZ3.out; omega) (Nat.le_refl _) HAL.out (W' := W') (fun q _ h2 h3 => (k1 q h3).trans (setRow_other _ _ _ _ h2)) (by simpa [World.setRow] using k2)
  exact bodyPost_ret (v := .tuple #[.agg #[.slice A6 p6 c6, .slice A5 m c5], .int .i64 0]) (rcellP (p := 6) (q := 7) rfl _ _ _ _ #[.slice A6 p6 c6, .slice A5 m c5] _ _ _ rfl rfl (setRow_heap _ _ _ #[.slice A6 p6 c6, .slice A5 m c5] _ _ HXR5.out) Tryd.underlying45 rfl infoGr) rfl ⟨hb, hg0, hi, _, _, _, rfl, by rw [List.map_append, bumpL_map, HNT.out]; rfl, hg9⟩
set_option maxHeartbeats 16000000 in
set_option maxRecDepth 100000 in
theorem st_beg10 (base hi : Nat) (L : List NB) (O : List Nat) (An : Option Addr) (n cn : Nat) (Ao : Option Addr) (m co : Nat) (t : Tk) (x u : ByteArray) (A : Option Addr) (cp : Nat) (bb : Bool) (w : World) (h : GrSt base hi L O (.slice An n cn) (.slice Ao m co) w) (hn : L.length = n) (hm : O.length = m) (hn9 : n ≤ 100000) (hm9 : m ≤ 12) (hO : ∀ i ∈ O, i < L.length) (hM : ∀ b ∈ L, 0 ≤ b.n.many ∧ b.n.many ≤ 1000000) (g : Nat) (hal : Alien hi g (.slice An n cn) (.slice Ao m co) w) (hkd : t.kind = 1) (ht : TkAt t x u A cp w) (h12 : m < 12) (h0 : m = 0 ∧ n = 0) :
    Calls Tryd.prog 13 #[.agg #[.slice An n cn, .slice Ao m co], TkV t x u A cp, .bool bb] w (StpTo base g (.ok ⟨bump O (L.map NB.n) ++ [nodeT t], O ++ [L.length]⟩) w) := by
  obtain ⟨rfl, rfl⟩ := h0
  have hnt : nodeT t = ⟨1, [], t.name, givenN t.attrs, [], 0⟩ := by unfold nodeT; rw [if_neg (by omega)]
  have htal := ht.al
  obtain ⟨na, hna⟩ : ∃ na, t.attrs.length = na := ⟨_, rfl⟩
  unfold TkV
  rw [hna, hkd]
  have hkc : ((1 : Nat) : Int) = 1 := rfl
  rw [hkc]
  obtain ⟨b2, hb2⟩ : ∃ b2, w.heap.size = b2 := ⟨_, rfl⟩
  obtain ⟨W1, hW1⟩ : ∃ W1, w.alloc (.cells #[.slice An 0 cn, .slice Ao 0 co] 45) = W1 := ⟨_, rfl⟩
  have HB1 : Hid (Below w.heap.size w W1) := Lib.hid (by rw [← hW1]; exact stpA (Below.refl _ _) _)
  have hs1 : W1.heap.size = b2 + 1 := by rw [← hW1, World.size_alloc, hb2]
  have hx1 : W1.heap[b2]? = some (.cells #[.slice An 0 cn, .slice Ao 0 co] 45 (0, 0)) := by rw [← hW1, ← hb2]; exact heap_alloc_new w _
  obtain ⟨W2, hW2⟩ : ∃ W2, W1.alloc (.cells #[.int .u8 1, .string x, .slice A na cp, .string u] 26) = W2 := ⟨_, rfl⟩
  have HB2 : Hid (Below W1.heap.size W1 W2) := Lib.hid (by rw [← hW2]; exact stpA (Below.refl _ _) _)
  have hs2 : W2.heap.size = b2 + 2 := by rw [← hW2, World.size_alloc, hs1]
  have hx2 : W2.heap[b2 + 1]? = some (.cells #[.int .u8 1, .string x, .slice A na cp, .string u] 26 (0, 0)) := by rw [← hW2, ← hs1]; exact heap_alloc_new W1 _
  obtain ⟨W3, hW3⟩ : ∃ W3, W2.alloc (.cells #[.slice none 0 0, .slice none 0 0] 45) = W3 := ⟨_, rfl⟩
  have HB3 : Hid (Below W2.heap.size W2 W3) := Lib.hid (by rw [← hW3]; exact stpA (Below.refl _ _) _)
  have hs3 : W3.heap.size = b2 + 3 := by rw [← hW3, World.size_alloc, hs2]
  have HXR : Hid (W3.heap[b2 + 2]? = some (.cells #[.slice none 0 0, .slice none 0 0] 45 (0, 0))) := Lib.hid (by rw [← hW3, ← hs2]; exact heap_alloc_new W2 _)
  have HB03 : Hid (Below w.heap.size w W3) := Lib.hid (stp (stp HB1.out HB2.out) HB3.out)
  have HXG : Hid (W3.heap[b2]? = some (.cells #[.slice An 0 cn, .slice Ao 0 co] 45 (0, 0))) := Lib.hid (kept_heap (kept_heap hx1 HB2.out) HB3.out)
  have HXT : Hid (W3.heap[b2 + 1]? = some (.cells #[.int .u8 1, .string x, .slice A na cp, .string u] 26 (0, 0))) := Lib.hid (kept_heap hx2 HB3.out)
  have HSZ3 : Hid (w.heap.size = b2 ∧ W3.heap.size = b2 + 3) := Lib.hid ⟨hb2, hs3⟩
  have k0 := cellV W3 _ 0 _ _ _ HXG.out
  have k1 := cellV W3 _ 1 _ _ _ HXG.out
  have t0 := cellV W3 _ 0 _ _ _ HXT.out
  have t1 := cellV W3 _ 1 _ _ _ HXT.out
  have t2 := cellV W3 _ 2 _ _ _ HXT.out
  have t3 := cellV W3 _ 3 _ _ _ HXT.out
  clear hx1 hx2 hs3
  have HGV : Hid (Calls Tryd.prog 25 #[.slice A na cp] W3.drew fun e w' => Below W3.drew.heap.size W3.drew w' ∧ ∃ A4 c4, e = .returned (.slice A4 na c4) ∧ w'.ownsRow W3.drew.heap.size 61 3 (.slice A4 na c4) na (((givenN t.attrs).map abOf).flatMap abCells)) := Lib.hid ((rgiven10 A na cp t.attrs W3.drew (ht.attrs.on (stp HB03.out (Below.refl _ _).drew)) hna (by omega)).mono fun e w' h => by
    obtain ⟨h1, A4, c4, h2, h3⟩ := h
    rw [hna] at h2 h3
    exact ⟨h1, A4, c4, h2, h3⟩)
  obtain ⟨p6, hp6⟩ : ∃ p6, (bumpL O L ++ [(⟨⟨1, [], t.name, givenN t.attrs, [], 0⟩, ⟨#[]⟩, x, ⟨#[]⟩, none, 0⟩ : NB)]).length = p6 := ⟨_, rfl⟩
  have HW : Hid (∀ A4 c4 w4, Below W3.drew.heap.size W3.drew w4 → w4.ownsRow W3.drew.heap.size 61 3 (.slice A4 na c4) na (((givenN t.attrs).map abOf).flatMap abCells) → Calls Tryd.prog 24 #[.agg #[.slice An 0 cn, .slice Ao 0 co], .agg #[.int .u8 1, .string ⟨#[]⟩, .string x, .slice A4 na c4, .string ⟨#[]⟩, .int .i64 0]] w4 fun e w' => ∃ A6 c6 A5 c5, e = .returned (.agg #[.slice A6 p6 c6, .slice A5 (0 + 1) c5]) ∧ GrSt base w4.heap.size (bumpL O L ++ [(⟨⟨1, [], t.name, givenN t.attrs, [], 0⟩, ⟨#[]⟩, x, ⟨#[]⟩, A4, c4⟩ : NB)]) (O ++ [L.length]) (.slice A6 p6 c6) (.slice A5 (0 + 1) c5) w' ∧ FrP base w4.heap.size (.slice An 0 cn) (.slice Ao 0 co) w4 (.slice A6 p6 c6) (.slice A5 (0 + 1) c5) w') := Lib.hid fun A4 c4 w4 hb4 ho4 => by
    have hb04 : Below w.heap.size w w4 := stp (stp HB03.out (Below.refl _ _).drew) hb4
    have h9 := rwith10 base w4.heap.size L O (.slice An 0 cn) (.slice Ao 0 co) (⟨⟨1, [], t.name, givenN t.attrs, [], 0⟩, ⟨#[]⟩, x, ⟨#[]⟩, A4, c4⟩ : NB) w4 (h.below hb04 (by have := h.sz; have := hb04.size; omega) (Nat.le_refl _)) (given_node ho4 hna ht.name fun q h1 h2 => ⟨by have := h.lo; have := h.sz; have := HB03.out.size; have h8 : W3.heap.size ≤ q := h1; omega, h2, fun e => by have := (h.nd.lt q e.symm).2; have := HB03.out.size; have h8 : W3.heap.size ≤ q := h1; omega, fun e => by have := (h.op.lt q e.symm).2; have := HB03.out.size; have h8 : W3.heap.size ≤ q := h1; omega⟩) (by omega) (by omega) hO hM (.inl rfl)
    have hgl : (givenN t.attrs).length = na := by unfold givenN; rw [List.length_map, hna]
    dsimp only at h9
    rw [hgl] at h9
    refine h9.mono fun e w' h => ?_
    obtain ⟨Vn', Vo', h1, h2, h3⟩ := h
    have hk1 : (if ((⟨⟨1, [], t.name, givenN t.attrs, [], 0⟩, ⟨#[]⟩, x, ⟨#[]⟩, A4, c4⟩ : NB)).n.kind = 1 then O ++ [L.length] else O) = O ++ [L.length] := if_pos rfl
    rw [hk1] at h2
    obtain ⟨A6, c6, h6⟩ := own_form2 h2.nd
    obtain ⟨A5, c5, h5⟩ := own_form2 h2.op
    have e6 : (bumpL O L ++ [(⟨⟨1, [], t.name, givenN t.attrs, [], 0⟩, ⟨#[]⟩, x, ⟨#[]⟩, A4, c4⟩ : NB)]).length = p6 := by rw [← hp6, List.length_append, List.length_append]; rfl
    rw [e6] at h6
    rw [List.length_append, hm] at h5
    subst h6 h5
    exact ⟨A6, c6, A5, c5, h1, h2, h3⟩
  have HH := Lib.hid h
  have HAL := Lib.hid hal
  have HM := Lib.hid hM
  have HNT := Lib.hid hnt
  have HNM := Lib.hid ht.name
  have HNA := Lib.hid hna
  have HOM := Lib.hid hm
  have HLO : Hid (base ≤ w.heap.size) := Lib.hid (Nat.le_trans h.lo h.sz)
  clear h hal hM hO hn hm hnt hna ht hp6
  go_enter Tryd.func13, Tryd.ntmps13
  go_wp2_with fail
  refine wp_region_noPanic ?_
  refine wp_region_Z (fun W => W.cell? ⟨b2, 0, none⟩ = some (.slice An 0 cn) ∧ W.cell? ⟨b2, 1, none⟩ = some (.slice Ao 0 co) ∧ W.cell? ⟨b2 + 1, 1, none⟩ = some (.string x) ∧ W.cell? ⟨b2 + 1, 2, none⟩ = some (.slice A na cp)) 8 (by kernel_rfl) ?_
  have hS : W3.drew.cell? ⟨b2, 0, none⟩ = some (.slice An 0 cn) ∧ W3.drew.cell? ⟨b2, 1, none⟩ = some (.slice Ao 0 co) ∧ W3.drew.cell? ⟨b2 + 1, 1, none⟩ = some (.string x) ∧ W3.drew.cell? ⟨b2 + 1, 2, none⟩ = some (.slice A na cp) := ⟨k0, k1, t1, t2⟩
  refine takeZ (i := 0) (v := .agg #[.slice An 0 cn, .slice Ao 0 co]) rfl (by kernel_rfl) (by kernel_rfl) (by kernel_rfl) (by kernel_rfl) (fun _ _ _ h => h) (Or.inl ⟨by rfl, ?_⟩) hS ?_
  · intro w' hSw; (try dsimp only at hSw); go_simp
  try simp only [Act.put, List.setIfInBounds_toArray, List.set_cons_zero, List.set_cons_succ]
  refine takeZ (i := 1) (v := .pointer (some ⟨b2 + 1, 1, none⟩)) rfl (by kernel_rfl) (by kernel_rfl) (by kernel_rfl) (by kernel_rfl) (fun _ _ _ h => h) (Or.inl ⟨by rfl, ?_⟩) hS ?_
  · intro w' hSw; (try dsimp only at hSw); go_simp
  try simp only [Act.put, List.setIfInBounds_toArray, List.set_cons_zero, List.set_cons_succ]
  refine takeZ (i := 2) (v := .string x) rfl (by kernel_rfl) (by kernel_rfl) (by kernel_rfl) (by kernel_rfl) (fun _ _ _ h => h) (Or.inl ⟨by rfl, ?_⟩) hS ?_
  · intro w' hSw; (try dsimp only at hSw); go_simp
  try simp only [Act.put, List.setIfInBounds_toArray, List.set_cons_zero, List.set_cons_succ]
  refine takeZ (i := 3) (v := .pointer (some ⟨b2 + 1, 2, none⟩)) rfl (by kernel_rfl) (by kernel_rfl) (by kernel_rfl) (by kernel_rfl) (fun _ _ _ h => h) (Or.inl ⟨by rfl, ?_⟩) hS ?_
  · intro w' hSw; (try dsimp only at hSw); go_simp
  try simp only [Act.put, List.setIfInBounds_toArray, List.set_cons_zero, List.set_cons_succ]
  refine takeZ (i := 4) (v := .slice A na cp) rfl (by kernel_rfl) (by kernel_rfl) (by kernel_rfl) (by kernel_rfl) (fun _ _ _ h => h) (Or.inl ⟨by rfl, ?_⟩) hS ?_
  · intro w' hSw; (try dsimp only at hSw); go_simp
  try simp only [Act.put, List.setIfInBounds_toArray, List.set_cons_zero, List.set_cons_succ]
  refine stepZ (i := 5) (by kernel_rfl) rfl (fun K hK => ?_)
  go_simp
  go_at_call 25; (with_reducible refine (HGV.out).mono ?_); rintro e4 w4 ⟨hb4, A4, c4, rfl, ho4⟩; have HB4 : Hid (Below W3.drew.heap.size W3.drew w4) := Lib.hid hb4; have HO4 := Lib.hid ho4; clear hb4 ho4
  have HXG4 : Hid (w4.heap[b2]? = some (.cells #[.slice An 0 cn, .slice Ao 0 co] 45 (0, 0))) := Lib.hid (kept_heap (a := W3.drew) HXG.out HB4.out)
  have HXT4 : Hid (w4.heap[b2 + 1]? = some (.cells #[.int .u8 1, .string x, .slice A na cp, .string u] 26 (0, 0))) := Lib.hid (kept_heap (a := W3.drew) HXT.out HB4.out)
  have HXR4 : Hid (w4.heap[b2 + 2]? = some (.cells #[.slice none 0 0, .slice none 0 0] 45 (0, 0))) := Lib.hid (kept_heap (a := W3.drew) HXR.out HB4.out)
  have hS4 : w4.cell? ⟨b2, 0, none⟩ = some (.slice An 0 cn) ∧ w4.cell? ⟨b2, 1, none⟩ = some (.slice Ao 0 co) ∧ w4.cell? ⟨b2 + 1, 1, none⟩ = some (.string x) ∧ w4.cell? ⟨b2 + 1, 2, none⟩ = some (.slice A na cp) := ⟨cellV w4 _ 0 _ _ _ HXG4.out, cellV w4 _ 1 _ _ _ HXG4.out, cellV w4 _ 1 _ _ _ HXT4.out, cellV w4 _ 2 _ _ _ HXT4.out⟩
  go_wp2_with fail
  refine hK.out _ _ (fun _ => hS4) (fun _ => ?_)
  clear hK K hS
  try simp only [Act.put, List.setIfInBounds_toArray, List.set_cons_zero, List.set_cons_succ]
  refine takeZ (i := 6) (v := .agg #[.int .u8 1, .string ⟨#[]⟩, .string x, .slice A4 na c4, .string ⟨#[]⟩, .int .i64 0]) rfl (by kernel_rfl) (by kernel_rfl) (by kernel_rfl) (by kernel_rfl) (fun _ _ _ h => h) (Or.inl ⟨by rfl, ?_⟩) hS4 ?_
  · intro w' hSw; (try dsimp only at hSw); go_simp
  try simp only [Act.put, List.setIfInBounds_toArray, List.set_cons_zero, List.set_cons_succ]
  refine stepZ (i := 7) (by kernel_rfl) rfl (fun K hK => ?_)
  go_simp
  go_at_call 24; (with_reducible refine (HW.out A4 c4 w4 HB4.out HO4.out).mono ?_); rintro e7 w7 ⟨A6, c6, A5, c5, rfl, hg7, hf7⟩; have HG7 := Lib.hid hg7; have HF7 := Lib.hid hf7; clear hg7 hf7
  have hz4 : b2 + 3 ≤ w4.heap.size := by have h1 := HB4.out.size; have h2 : W3.heap.size ≤ w4.heap.size := h1; have := HSZ3.out; omega
  have HZ4 := Lib.hid hz4
  have st7 : ∀ q o, q < b2 + 3 → b2 ≤ q → w4.heap[q]? = some o → w7.heap[q]? = some o := fun q o h1 h2 h3 => (HF7.out.blk q (by omega) (by omega) (fun e => by have := (HH.out.nd.lt _ e.symm).2; have := HSZ3.out; omega) (fun e => by have := (HH.out.op.lt _ e.symm).2; have := HSZ3.out; omega)).trans h3
  have HXG7 := Lib.hid (st7 b2 _ (by omega) (by omega) HXG4.out)
  have HXT7 := Lib.hid (st7 (b2 + 1) _ (by omega) (by omega) HXT4.out)
  have HXR7 := Lib.hid (st7 (b2 + 2) _ (by omega) (by omega) HXR4.out)
  have hS7 : w7.cell? ⟨b2, 0, none⟩ = some (.slice An 0 cn) ∧ w7.cell? ⟨b2, 1, none⟩ = some (.slice Ao 0 co) ∧ w7.cell? ⟨b2 + 1, 1, none⟩ = some (.string x) ∧ w7.cell? ⟨b2 + 1, 2, none⟩ = some (.slice A na cp) := ⟨cellV w7 _ 0 _ _ _ HXG7.out, cellV w7 _ 1 _ _ _ HXG7.out, cellV w7 _ 1 _ _ _ HXT7.out, cellV w7 _ 2 _ _ _ HXT7.out⟩
  go_wp2_with fail
  refine hK.out _ _ (fun _ => hS7) (fun _ => ?_)
  clear hK K hS4 st7
  try simp only [Act.put, List.setIfInBounds_toArray, List.set_cons_zero, List.set_cons_succ]
  refine stepZ (i := 8) (by kernel_rfl) rfl (fun K hK => ?_)
  rw [if_pos (by rfl)]
  refine wp_store_row 45 (.tmp 3) (.tmp 86) rfl b2 #[.slice A6 p6 c6, .slice A5 (0 + 1) c5] rfl rfl 45 #[.slice An 0 cn, .slice Ao 0 co] HXG7.out infoGr rfl (by simp [Value.oneCell']) ?_
  refine hK.out _ _ (fun h => absurd rfl h) (fun _ => ?_)
  clear hK K hS7 k0 k1 t0 t1 t2 t3
  try simp only [Act.put]
  refine doneZ (by kernel_rfl) ?_ _
  refine NoPanic.normal ?_
  obtain ⟨W8, hW8⟩ : ∃ W8, w7.setRow b2 #[.slice A6 p6 c6, .slice A5 (0 + 1) c5] = W8 := ⟨_, rfl⟩
  rw [hW8]
  have HXG8 : Hid (W8.heap[b2]? = some (.cells #[.slice A6 p6 c6, .slice A5 (0 + 1) c5] 45 (0, 0))) := Lib.hid (by rw [← hW8]; exact setRow_heap _ _ _ _ _ _ HXG7.out)
  have HXT8 : Hid (W8.heap[b2 + 1]? = some (.cells #[.int .u8 1, .string x, .slice A na cp, .string u] 26 (0, 0))) := Lib.hid (by rw [← hW8]; exact (setRow_other _ _ _ _ (by omega)).trans HXT7.out)
  have HXR8 : Hid (W8.heap[b2 + 2]? = some (.cells #[.slice none 0 0, .slice none 0 0] 45 (0, 0))) := Lib.hid (by rw [← hW8]; exact (setRow_other _ _ _ _ (by omega)).trans HXR7.out)
  have HB8 : Hid (Below base w W8) := Lib.hid (by rw [← hW8]; exact below_setRowV ((((HB03.out.mono HLO.out).trans (Below.refl _ _).drew).trans (HB4.out.mono (by have h2 : W3.drew.heap.size = W3.heap.size := rfl; have := HSZ3.out; have := HLO.out; omega))).trans HF7.out.bel) (by have := HSZ3.out; have := HLO.out; omega) _)
  have HW8 : Hid (∀ q, q ≠ b2 → W8.heap[q]? = w7.heap[q]?) := Lib.hid fun q h => by rw [← hW8]; exact setRow_other _ _ _ _ h
  have HS8 : Hid (W8.heap.size = w7.heap.size) := Lib.hid (by rw [← hW8]; simp [World.setRow])
  have t0 := cellV W8 _ 0 _ _ _ HXT8.out
  have k1 := cellV W8 _ 1 _ _ _ HXG8.out
  have f1 := freeV W8 b2 1 _ _ HXG8.out
  clear hW8 hz4
  go_wp2_with (first
    | (refine wpList_load_row rfl _ _ rfl b2 rfl 45 #[.slice A6 p6 c6, .slice A5 (0 + 1) c5] (0, 0) _ HXG8.out Tryd.underlying45 rfl infoGr ?_)
    | (refine wpList_store_row rfl _ _ _ rfl (b2 + 2) #[.slice A6 p6 c6, .slice A5 (0 + 1) c5] rfl rfl 45 #[.slice none 0 0, .slice none 0 0] HXR8.out infoGr rfl (by simp [Value.oneCell']) ?_)
    | fail)
  have hb : Below base w (W8.setRow (b2 + 2) #[.slice A6 p6 c6, .slice A5 (0 + 1) c5]) := below_setRowV HB8.out (by have := HSZ3.out; have := HLO.out; omega) _
  have hb04 : Below w.heap.size w w4 := stp (stp HB03.out (Below.refl _ _).drew) HB4.out
  have hg0 : ∀ o, w.heap[g]? = some o → (W8.setRow (b2 + 2) #[.slice A6 p6 c6, .slice A5 (0 + 1) c5]).heap[g]? = some o := fun o ho => by
    have hgl := lt_heapP ho
    have h9 := HSZ3.out
    have h8 := hb04.size
    exact (setRow_other _ _ _ _ (by omega)).trans ((HW8.out g (by omega)).trans ((HF7.out.blk g (by omega) (by omega) (fun e => by have := HAL.out.nd g e.symm; omega) (fun e => by have := HAL.out.op g e.symm; omega)).trans (kept_heap ho hb04)))
  have hg9 : ∀ W' : World, (∀ q, q ≠ g → W'.heap[q]? = (W8.setRow (b2 + 2) #[.slice A6 p6 c6, .slice A5 (0 + 1) c5]).heap[q]?) → (W8.setRow (b2 + 2) #[.slice A6 p6 c6, .slice A5 (0 + 1) c5]).heap.size ≤ W'.heap.size → GrSt base w4.heap.size (bumpL O L ++ [(⟨⟨1, [], t.name, givenN t.attrs, [], 0⟩, ⟨#[]⟩, x, ⟨#[]⟩, A4, c4⟩ : NB)]) (O ++ [L.length]) (.slice A6 p6 c6) (.slice A5 (0 + 1) c5) W' := fun W' j1 j2 => by
    have hg8 := stp_fin HH.out HM.out HSZ3.out.1 hb04 HZ4.out HG7.out HF7.out (given_node HO4.out HNA.out HNM.out fun q h1 h2 => ⟨by have h8 : W3.heap.size ≤ q := h1; have := HSZ3.out; omega, h2⟩) (Nat.le_refl _) (by have := HH.out.sz; have := hb04.size; omega) HAL.out (W' := W') (fun q h1 h2 h3 => (j1 q h3).trans ((setRow_other _ _ _ _ h2).trans (HW8.out q h1))) (by
      have h5 : (W8.setRow (b2 + 2) #[.slice A6 p6 c6, .slice A5 (0 + 1) c5]).heap.size = w7.heap.size := by simp [World.setRow]; exact HS8.out
      omega)
    exact hg8
  exact bodyPost_ret (v := .tuple #[.agg #[.slice A6 p6 c6, .slice A5 (0 + 1) c5], .int .i64 0]) (rcellP (p := 6) (q := 7) rfl _ _ _ _ #[.slice A6 p6 c6, .slice A5 (0 + 1) c5] _ _ _ rfl rfl (setRow_heap _ _ _ #[.slice A6 p6 c6, .slice A5 (0 + 1) c5] _ _ HXR8.out) Tryd.underlying45 rfl infoGr) rfl ⟨hb, hg0, _, _, _, _, rfl, by rw [List.map_append, bumpL_map, HNT.out]; rfl, hg9⟩
set_option maxHeartbeats 16000000 in
set_option maxRecDepth 100000 in
theorem st_beg11 (base hi : Nat) (L : List NB) (O : List Nat) (An : Option Addr) (n cn : Nat) (Ao : Option Addr) (m co : Nat) (t : Tk) (x u : ByteArray) (A : Option Addr) (cp : Nat) (bb : Bool) (w : World) (h : GrSt base hi L O (.slice An n cn) (.slice Ao m co) w) (hn : L.length = n) (hm : O.length = m) (hn9 : n ≤ 100000) (hm9 : m ≤ 12) (hO : ∀ i ∈ O, i < L.length) (hM : ∀ b ∈ L, 0 ≤ b.n.many ∧ b.n.many ≤ 1000000) (g : Nat) (hal : Alien hi g (.slice An n cn) (.slice Ao m co) w) (hkd : t.kind = 1) (ht : TkAt t x u A cp w) (h12 : m < 12) (h0 : 0 < m) :
    Calls Tryd.prog 13 #[.agg #[.slice An n cn, .slice Ao m co], TkV t x u A cp, .bool bb] w (StpTo base g (.ok ⟨bump O (L.map NB.n) ++ [nodeT t], O ++ [L.length]⟩) w) := by
  have fm : ((m : Int) == 0) = false := by simp; omega
  have fm2 : ¬ (m : Int) = 0 := by omega
  have f12 : ((m : Int) == 12) = false := by simp; omega
  have f122 : ¬ (m : Int) = 12 := by omega
  have hnt : nodeT t = ⟨1, [], t.name, givenN t.attrs, [], 0⟩ := by unfold nodeT; rw [if_neg (by omega)]
  have htal := ht.al
  obtain ⟨na, hna⟩ : ∃ na, t.attrs.length = na := ⟨_, rfl⟩
  unfold TkV
  rw [hna, hkd]
  have hkc : ((1 : Nat) : Int) = 1 := rfl
  rw [hkc]
  obtain ⟨b2, hb2⟩ : ∃ b2, w.heap.size = b2 := ⟨_, rfl⟩
  obtain ⟨W1, hW1⟩ : ∃ W1, w.alloc (.cells #[.slice An n cn, .slice Ao m co] 45) = W1 := ⟨_, rfl⟩
  have HB1 : Hid (Below w.heap.size w W1) := Lib.hid (by rw [← hW1]; exact stpA (Below.refl _ _) _)
  have hs1 : W1.heap.size = b2 + 1 := by rw [← hW1, World.size_alloc, hb2]
  have hx1 : W1.heap[b2]? = some (.cells #[.slice An n cn, .slice Ao m co] 45 (0, 0)) := by rw [← hW1, ← hb2]; exact heap_alloc_new w _
  obtain ⟨W2, hW2⟩ : ∃ W2, W1.alloc (.cells #[.int .u8 1, .string x, .slice A na cp, .string u] 26) = W2 := ⟨_, rfl⟩
  have HB2 : Hid (Below W1.heap.size W1 W2) := Lib.hid (by rw [← hW2]; exact stpA (Below.refl _ _) _)
  have hs2 : W2.heap.size = b2 + 2 := by rw [← hW2, World.size_alloc, hs1]
  have hx2 : W2.heap[b2 + 1]? = some (.cells #[.int .u8 1, .string x, .slice A na cp, .string u] 26 (0, 0)) := by rw [← hW2, ← hs1]; exact heap_alloc_new W1 _
  obtain ⟨W3, hW3⟩ : ∃ W3, W2.alloc (.cells #[.slice none 0 0, .slice none 0 0] 45) = W3 := ⟨_, rfl⟩
  have HB3 : Hid (Below W2.heap.size W2 W3) := Lib.hid (by rw [← hW3]; exact stpA (Below.refl _ _) _)
  have hs3 : W3.heap.size = b2 + 3 := by rw [← hW3, World.size_alloc, hs2]
  have HXR : Hid (W3.heap[b2 + 2]? = some (.cells #[.slice none 0 0, .slice none 0 0] 45 (0, 0))) := Lib.hid (by rw [← hW3, ← hs2]; exact heap_alloc_new W2 _)
  have HB03 : Hid (Below w.heap.size w W3) := Lib.hid (stp (stp HB1.out HB2.out) HB3.out)
  have HXG : Hid (W3.heap[b2]? = some (.cells #[.slice An n cn, .slice Ao m co] 45 (0, 0))) := Lib.hid (kept_heap (kept_heap hx1 HB2.out) HB3.out)
  have HXT : Hid (W3.heap[b2 + 1]? = some (.cells #[.int .u8 1, .string x, .slice A na cp, .string u] 26 (0, 0))) := Lib.hid (kept_heap hx2 HB3.out)
  have HSZ3 : Hid (w.heap.size = b2 ∧ W3.heap.size = b2 + 3) := Lib.hid ⟨hb2, hs3⟩
  have k0 := cellV W3 _ 0 _ _ _ HXG.out
  have k1 := cellV W3 _ 1 _ _ _ HXG.out
  have t0 := cellV W3 _ 0 _ _ _ HXT.out
  have t1 := cellV W3 _ 1 _ _ _ HXT.out
  have t2 := cellV W3 _ 2 _ _ _ HXT.out
  have t3 := cellV W3 _ 3 _ _ _ HXT.out
  clear hx1 hx2 hs3
  have HGV : Hid (Calls Tryd.prog 25 #[.slice A na cp] W3.drew fun e w' => Below W3.drew.heap.size W3.drew w' ∧ ∃ A4 c4, e = .returned (.slice A4 na c4) ∧ w'.ownsRow W3.drew.heap.size 61 3 (.slice A4 na c4) na (((givenN t.attrs).map abOf).flatMap abCells)) := Lib.hid ((rgiven10 A na cp t.attrs W3.drew (ht.attrs.on (stp HB03.out (Below.refl _ _).drew)) hna (by omega)).mono fun e w' h => by
    obtain ⟨h1, A4, c4, h2, h3⟩ := h
    rw [hna] at h2 h3
    exact ⟨h1, A4, c4, h2, h3⟩)
  obtain ⟨p6, hp6⟩ : ∃ p6, (bumpL O L ++ [(⟨⟨1, [], t.name, givenN t.attrs, [], 0⟩, ⟨#[]⟩, x, ⟨#[]⟩, none, 0⟩ : NB)]).length = p6 := ⟨_, rfl⟩
  have HW : Hid (∀ A4 c4 w4, Below W3.drew.heap.size W3.drew w4 → w4.ownsRow W3.drew.heap.size 61 3 (.slice A4 na c4) na (((givenN t.attrs).map abOf).flatMap abCells) → Calls Tryd.prog 24 #[.agg #[.slice An n cn, .slice Ao m co], .agg #[.int .u8 1, .string ⟨#[]⟩, .string x, .slice A4 na c4, .string ⟨#[]⟩, .int .i64 0]] w4 fun e w' => ∃ A6 c6 A5 c5, e = .returned (.agg #[.slice A6 p6 c6, .slice A5 (m + 1) c5]) ∧ GrSt base w4.heap.size (bumpL O L ++ [(⟨⟨1, [], t.name, givenN t.attrs, [], 0⟩, ⟨#[]⟩, x, ⟨#[]⟩, A4, c4⟩ : NB)]) (O ++ [L.length]) (.slice A6 p6 c6) (.slice A5 (m + 1) c5) w' ∧ FrP base w4.heap.size (.slice An n cn) (.slice Ao m co) w4 (.slice A6 p6 c6) (.slice A5 (m + 1) c5) w') := Lib.hid fun A4 c4 w4 hb4 ho4 => by
    have hb04 : Below w.heap.size w w4 := stp (stp HB03.out (Below.refl _ _).drew) hb4
    have h9 := rwith10 base w4.heap.size L O (.slice An n cn) (.slice Ao m co) (⟨⟨1, [], t.name, givenN t.attrs, [], 0⟩, ⟨#[]⟩, x, ⟨#[]⟩, A4, c4⟩ : NB) w4 (h.below hb04 (by have := h.sz; have := hb04.size; omega) (Nat.le_refl _)) (given_node ho4 hna ht.name fun q h1 h2 => ⟨by have := h.lo; have := h.sz; have := HB03.out.size; have h8 : W3.heap.size ≤ q := h1; omega, h2, fun e => by have := (h.nd.lt q e.symm).2; have := HB03.out.size; have h8 : W3.heap.size ≤ q := h1; omega, fun e => by have := (h.op.lt q e.symm).2; have := HB03.out.size; have h8 : W3.heap.size ≤ q := h1; omega⟩) (by omega) (by omega) hO hM (.inl rfl)
    have hgl : (givenN t.attrs).length = na := by unfold givenN; rw [List.length_map, hna]
    dsimp only at h9
    rw [hgl] at h9
    refine h9.mono fun e w' h => ?_
    obtain ⟨Vn', Vo', h1, h2, h3⟩ := h
    have hk1 : (if ((⟨⟨1, [], t.name, givenN t.attrs, [], 0⟩, ⟨#[]⟩, x, ⟨#[]⟩, A4, c4⟩ : NB)).n.kind = 1 then O ++ [L.length] else O) = O ++ [L.length] := if_pos rfl
    rw [hk1] at h2
    obtain ⟨A6, c6, h6⟩ := own_form2 h2.nd
    obtain ⟨A5, c5, h5⟩ := own_form2 h2.op
    have e6 : (bumpL O L ++ [(⟨⟨1, [], t.name, givenN t.attrs, [], 0⟩, ⟨#[]⟩, x, ⟨#[]⟩, A4, c4⟩ : NB)]).length = p6 := by rw [← hp6, List.length_append, List.length_append]; rfl
    rw [e6] at h6
    rw [List.length_append, hm] at h5
    subst h6 h5
    exact ⟨A6, c6, A5, c5, h1, h2, h3⟩
  have HH := Lib.hid h
  have HAL := Lib.hid hal
  have HM := Lib.hid hM
  have HNT := Lib.hid hnt
  have HNM := Lib.hid ht.name
  have HNA := Lib.hid hna
  have HOM := Lib.hid hm
  have HLO : Hid (base ≤ w.heap.size) := Lib.hid (Nat.le_trans h.lo h.sz)
  clear h hal hM hO hn hm hnt hna ht hp6
  go_enter Tryd.func13, Tryd.ntmps13
  go_wp2_with fail
  refine wp_region_noPanic ?_
  refine wp_region_Z (fun W => W.cell? ⟨b2, 0, none⟩ = some (.slice An n cn) ∧ W.cell? ⟨b2, 1, none⟩ = some (.slice Ao m co) ∧ W.cell? ⟨b2 + 1, 1, none⟩ = some (.string x) ∧ W.cell? ⟨b2 + 1, 2, none⟩ = some (.slice A na cp)) 8 (by kernel_rfl) ?_
  have hS : W3.drew.cell? ⟨b2, 0, none⟩ = some (.slice An n cn) ∧ W3.drew.cell? ⟨b2, 1, none⟩ = some (.slice Ao m co) ∧ W3.drew.cell? ⟨b2 + 1, 1, none⟩ = some (.string x) ∧ W3.drew.cell? ⟨b2 + 1, 2, none⟩ = some (.slice A na cp) := ⟨k0, k1, t1, t2⟩
  refine takeZ (i := 0) (v := .agg #[.slice An n cn, .slice Ao m co]) rfl (by kernel_rfl) (by kernel_rfl) (by kernel_rfl) (by kernel_rfl) (fun _ _ _ h => h) (Or.inl ⟨by rfl, ?_⟩) hS ?_
  · intro w' hSw; (try dsimp only at hSw); go_simp
  try simp only [Act.put, List.setIfInBounds_toArray, List.set_cons_zero, List.set_cons_succ]
  refine takeZ (i := 1) (v := .pointer (some ⟨b2 + 1, 1, none⟩)) rfl (by kernel_rfl) (by kernel_rfl) (by kernel_rfl) (by kernel_rfl) (fun _ _ _ h => h) (Or.inl ⟨by rfl, ?_⟩) hS ?_
  · intro w' hSw; (try dsimp only at hSw); go_simp
  try simp only [Act.put, List.setIfInBounds_toArray, List.set_cons_zero, List.set_cons_succ]
  refine takeZ (i := 2) (v := .string x) rfl (by kernel_rfl) (by kernel_rfl) (by kernel_rfl) (by kernel_rfl) (fun _ _ _ h => h) (Or.inl ⟨by rfl, ?_⟩) hS ?_
  · intro w' hSw; (try dsimp only at hSw); go_simp
  try simp only [Act.put, List.setIfInBounds_toArray, List.set_cons_zero, List.set_cons_succ]
  refine takeZ (i := 3) (v := .pointer (some ⟨b2 + 1, 2, none⟩)) rfl (by kernel_rfl) (by kernel_rfl) (by kernel_rfl) (by kernel_rfl) (fun _ _ _ h => h) (Or.inl ⟨by rfl, ?_⟩) hS ?_
  · intro w' hSw; (try dsimp only at hSw); go_simp
  try simp only [Act.put, List.setIfInBounds_toArray, List.set_cons_zero, List.set_cons_succ]
  refine takeZ (i := 4) (v := .slice A na cp) rfl (by kernel_rfl) (by kernel_rfl) (by kernel_rfl) (by kernel_rfl) (fun _ _ _ h => h) (Or.inl ⟨by rfl, ?_⟩) hS ?_
  · intro w' hSw; (try dsimp only at hSw); go_simp
  try simp only [Act.put, List.setIfInBounds_toArray, List.set_cons_zero, List.set_cons_succ]
  refine stepZ (i := 5) (by kernel_rfl) rfl (fun K hK => ?_)
  go_simp
  go_at_call 25; (with_reducible refine (HGV.out).mono ?_); rintro e4 w4 ⟨hb4, A4, c4, rfl, ho4⟩; have HB4 : Hid (Below W3.drew.heap.size W3.drew w4) := Lib.hid hb4; have HO4 := Lib.hid ho4; clear hb4 ho4
  have HXG4 : Hid (w4.heap[b2]? = some (.cells #[.slice An n cn, .slice Ao m co] 45 (0, 0))) := Lib.hid (kept_heap (a := W3.drew) HXG.out HB4.out)
  have HXT4 : Hid (w4.heap[b2 + 1]? = some (.cells #[.int .u8 1, .string x, .slice A na cp, .string u] 26 (0, 0))) := Lib.hid (kept_heap (a := W3.drew) HXT.out HB4.out)
  have HXR4 : Hid (w4.heap[b2 + 2]? = some (.cells #[.slice none 0 0, .slice none 0 0] 45 (0, 0))) := Lib.hid (kept_heap (a := W3.drew) HXR.out HB4.out)
  have hS4 : w4.cell? ⟨b2, 0, none⟩ = some (.slice An n cn) ∧ w4.cell? ⟨b2, 1, none⟩ = some (.slice Ao m co) ∧ w4.cell? ⟨b2 + 1, 1, none⟩ = some (.string x) ∧ w4.cell? ⟨b2 + 1, 2, none⟩ = some (.slice A na cp) := ⟨cellV w4 _ 0 _ _ _ HXG4.out, cellV w4 _ 1 _ _ _ HXG4.out, cellV w4 _ 1 _ _ _ HXT4.out, cellV w4 _ 2 _ _ _ HXT4.out⟩
  go_wp2_with fail
  refine hK.out _ _ (fun _ => hS4) (fun _ => ?_)
  clear hK K hS
  try simp only [Act.put, List.setIfInBounds_toArray, List.set_cons_zero, List.set_cons_succ]
  refine takeZ (i := 6) (v := .agg #[.int .u8 1, .string ⟨#[]⟩, .string x, .slice A4 na c4, .string ⟨#[]⟩, .int .i64 0]) rfl (by kernel_rfl) (by kernel_rfl) (by kernel_rfl) (by kernel_rfl) (fun _ _ _ h => h) (Or.inl ⟨by rfl, ?_⟩) hS4 ?_
  · intro w' hSw; (try dsimp only at hSw); go_simp
  try simp only [Act.put, List.setIfInBounds_toArray, List.set_cons_zero, List.set_cons_succ]
  refine stepZ (i := 7) (by kernel_rfl) rfl (fun K hK => ?_)
  go_simp
  go_at_call 24; (with_reducible refine (HW.out A4 c4 w4 HB4.out HO4.out).mono ?_); rintro e7 w7 ⟨A6, c6, A5, c5, rfl, hg7, hf7⟩; have HG7 := Lib.hid hg7; have HF7 := Lib.hid hf7; clear hg7 hf7
  have hz4 : b2 + 3 ≤ w4.heap.size := by have h1 := HB4.out.size; have h2 : W3.heap.size ≤ w4.heap.size := h1; have := HSZ3.out; omega
  have HZ4 := Lib.hid hz4
  have st7 : ∀ q o, q < b2 + 3 → b2 ≤ q → w4.heap[q]? = some o → w7.heap[q]? = some o := fun q o h1 h2 h3 => (HF7.out.blk q (by omega) (by omega) (fun e => by have := (HH.out.nd.lt _ e.symm).2; have := HSZ3.out; omega) (fun e => by have := (HH.out.op.lt _ e.symm).2; have := HSZ3.out; omega)).trans h3
  have HXG7 := Lib.hid (st7 b2 _ (by omega) (by omega) HXG4.out)
  have HXT7 := Lib.hid (st7 (b2 + 1) _ (by omega) (by omega) HXT4.out)
  have HXR7 := Lib.hid (st7 (b2 + 2) _ (by omega) (by omega) HXR4.out)
  have hS7 : w7.cell? ⟨b2, 0, none⟩ = some (.slice An n cn) ∧ w7.cell? ⟨b2, 1, none⟩ = some (.slice Ao m co) ∧ w7.cell? ⟨b2 + 1, 1, none⟩ = some (.string x) ∧ w7.cell? ⟨b2 + 1, 2, none⟩ = some (.slice A na cp) := ⟨cellV w7 _ 0 _ _ _ HXG7.out, cellV w7 _ 1 _ _ _ HXG7.out, cellV w7 _ 1 _ _ _ HXT7.out, cellV w7 _ 2 _ _ _ HXT7.out⟩
  go_wp2_with fail
  refine hK.out _ _ (fun _ => hS7) (fun _ => ?_)
  clear hK K hS4 st7
  try simp only [Act.put, List.setIfInBounds_toArray, List.set_cons_zero, List.set_cons_succ]
  refine stepZ (i := 8) (by kernel_rfl) rfl (fun K hK => ?_)
  rw [if_pos (by rfl)]
  refine wp_store_row 45 (.tmp 3) (.tmp 86) rfl b2 #[.slice A6 p6 c6, .slice A5 (m + 1) c5] rfl rfl 45 #[.slice An n cn, .slice Ao m co] HXG7.out infoGr rfl (by simp [Value.oneCell']) ?_
  refine hK.out _ _ (fun h => absurd rfl h) (fun _ => ?_)
  clear hK K hS7 k0 k1 t0 t1 t2 t3
  try simp only [Act.put]
  refine doneZ (by kernel_rfl) ?_ _
  refine NoPanic.normal ?_
  obtain ⟨W8, hW8⟩ : ∃ W8, w7.setRow b2 #[.slice A6 p6 c6, .slice A5 (m + 1) c5] = W8 := ⟨_, rfl⟩
  rw [hW8]
  have HXG8 : Hid (W8.heap[b2]? = some (.cells #[.slice A6 p6 c6, .slice A5 (m + 1) c5] 45 (0, 0))) := Lib.hid (by rw [← hW8]; exact setRow_heap _ _ _ _ _ _ HXG7.out)
  have HXT8 : Hid (W8.heap[b2 + 1]? = some (.cells #[.int .u8 1, .string x, .slice A na cp, .string u] 26 (0, 0))) := Lib.hid (by rw [← hW8]; exact (setRow_other _ _ _ _ (by omega)).trans HXT7.out)
  have HXR8 : Hid (W8.heap[b2 + 2]? = some (.cells #[.slice none 0 0, .slice none 0 0] 45 (0, 0))) := Lib.hid (by rw [← hW8]; exact (setRow_other _ _ _ _ (by omega)).trans HXR7.out)
  have HB8 : Hid (Below base w W8) := Lib.hid (by rw [← hW8]; exact below_setRowV ((((HB03.out.mono HLO.out).trans (Below.refl _ _).drew).trans (HB4.out.mono (by have h2 : W3.drew.heap.size = W3.heap.size := rfl; have := HSZ3.out; have := HLO.out; omega))).trans HF7.out.bel) (by have := HSZ3.out; have := HLO.out; omega) _)
  have HW8 : Hid (∀ q, q ≠ b2 → W8.heap[q]? = w7.heap[q]?) := Lib.hid fun q h => by rw [← hW8]; exact setRow_other _ _ _ _ h
  have HS8 : Hid (W8.heap.size = w7.heap.size) := Lib.hid (by rw [← hW8]; simp [World.setRow])
  have t0 := cellV W8 _ 0 _ _ _ HXT8.out
  have k1 := cellV W8 _ 1 _ _ _ HXG8.out
  have f1 := freeV W8 b2 1 _ _ HXG8.out
  clear hW8 hz4
  go_wp2_with (first
    | (refine wpList_load_row rfl _ _ rfl b2 rfl 45 #[.slice A6 p6 c6, .slice A5 (m + 1) c5] (0, 0) _ HXG8.out Tryd.underlying45 rfl infoGr ?_)
    | (refine wpList_store_row rfl _ _ _ rfl (b2 + 2) #[.slice A6 p6 c6, .slice A5 (m + 1) c5] rfl rfl 45 #[.slice none 0 0, .slice none 0 0] HXR8.out infoGr rfl (by simp [Value.oneCell']) ?_)
    | fail)
  have hb : Below base w (W8.setRow (b2 + 2) #[.slice A6 p6 c6, .slice A5 (m + 1) c5]) := below_setRowV HB8.out (by have := HSZ3.out; have := HLO.out; omega) _
  have hb04 : Below w.heap.size w w4 := stp (stp HB03.out (Below.refl _ _).drew) HB4.out
  have hg0 : ∀ o, w.heap[g]? = some o → (W8.setRow (b2 + 2) #[.slice A6 p6 c6, .slice A5 (m + 1) c5]).heap[g]? = some o := fun o ho => by
    have hgl := lt_heapP ho
    have h9 := HSZ3.out
    have h8 := hb04.size
    exact (setRow_other _ _ _ _ (by omega)).trans ((HW8.out g (by omega)).trans ((HF7.out.blk g (by omega) (by omega) (fun e => by have := HAL.out.nd g e.symm; omega) (fun e => by have := HAL.out.op g e.symm; omega)).trans (kept_heap ho hb04)))
  have hg9 : ∀ W' : World, (∀ q, q ≠ g → W'.heap[q]? = (W8.setRow (b2 + 2) #[.slice A6 p6 c6, .slice A5 (m + 1) c5]).heap[q]?) → (W8.setRow (b2 + 2) #[.slice A6 p6 c6, .slice A5 (m + 1) c5]).heap.size ≤ W'.heap.size → GrSt base w4.heap.size (bumpL O L ++ [(⟨⟨1, [], t.name, givenN t.attrs, [], 0⟩, ⟨#[]⟩, x, ⟨#[]⟩, A4, c4⟩ : NB)]) (O ++ [L.length]) (.slice A6 p6 c6) (.slice A5 (m + 1) c5) W' := fun W' j1 j2 => by
    have hg8 := stp_fin HH.out HM.out HSZ3.out.1 hb04 HZ4.out HG7.out HF7.out (given_node HO4.out HNA.out HNM.out fun q h1 h2 => ⟨by have h8 : W3.heap.size ≤ q := h1; have := HSZ3.out; omega, h2⟩) (Nat.le_refl _) (by have := HH.out.sz; have := hb04.size; omega) HAL.out (W' := W') (fun q h1 h2 h3 => (j1 q h3).trans ((setRow_other _ _ _ _ h2).trans (HW8.out q h1))) (by
      have h5 : (W8.setRow (b2 + 2) #[.slice A6 p6 c6, .slice A5 (m + 1) c5]).heap.size = w7.heap.size := by simp [World.setRow]; exact HS8.out
      omega)
    exact hg8
  exact bodyPost_ret (v := .tuple #[.agg #[.slice A6 p6 c6, .slice A5 (m + 1) c5], .int .i64 0]) (rcellP (p := 6) (q := 7) rfl _ _ _ _ #[.slice A6 p6 c6, .slice A5 (m + 1) c5] _ _ _ rfl rfl (setRow_heap _ _ _ #[.slice A6 p6 c6, .slice A5 (m + 1) c5] _ _ HXR8.out) Tryd.underlying45 rfl infoGr) rfl ⟨hb, hg0, _, _, _, _, rfl, by rw [List.map_append, bumpL_map, HNT.out]; rfl, hg9⟩
set_option maxHeartbeats 16000000 in
set_option maxRecDepth 100000 in
theorem st_beg30 (base hi : Nat) (L : List NB) (O : List Nat) (An : Option Addr) (n cn : Nat) (Ao : Option Addr) (m co : Nat) (t : Tk) (x u : ByteArray) (A : Option Addr) (cp : Nat) (bb : Bool) (w : World) (h : GrSt base hi L O (.slice An n cn) (.slice Ao m co) w) (hn : L.length = n) (hm : O.length = m) (hn9 : n ≤ 100000) (hm9 : m ≤ 12) (hO : ∀ i ∈ O, i < L.length) (hM : ∀ b ∈ L, 0 ≤ b.n.many ∧ b.n.many ≤ 1000000) (g : Nat) (hal : Alien hi g (.slice An n cn) (.slice Ao m co) w) (hkd : t.kind = 3) (ht : TkAt t x u A cp w) (h12 : m < 12) (h0 : m = 0 ∧ n = 0) :
    Calls Tryd.prog 13 #[.agg #[.slice An n cn, .slice Ao m co], TkV t x u A cp, .bool bb] w (StpTo base g (.ok ⟨bump O (L.map NB.n) ++ [nodeT t], O⟩) w) := by
  obtain ⟨rfl, rfl⟩ := h0
  have hnt : nodeT t = ⟨1, [], t.name, givenN t.attrs, [], 0⟩ := by unfold nodeT; rw [if_neg (by omega)]
  have htal := ht.al
  obtain ⟨na, hna⟩ : ∃ na, t.attrs.length = na := ⟨_, rfl⟩
  unfold TkV
  rw [hna, hkd]
  have hkc : ((3 : Nat) : Int) = 3 := rfl
  rw [hkc]
  obtain ⟨b2, hb2⟩ : ∃ b2, w.heap.size = b2 := ⟨_, rfl⟩
  obtain ⟨W1, hW1⟩ : ∃ W1, w.alloc (.cells #[.slice An 0 cn, .slice Ao 0 co] 45) = W1 := ⟨_, rfl⟩
  have HB1 : Hid (Below w.heap.size w W1) := Lib.hid (by rw [← hW1]; exact stpA (Below.refl _ _) _)
  have hs1 : W1.heap.size = b2 + 1 := by rw [← hW1, World.size_alloc, hb2]
  have hx1 : W1.heap[b2]? = some (.cells #[.slice An 0 cn, .slice Ao 0 co] 45 (0, 0)) := by rw [← hW1, ← hb2]; exact heap_alloc_new w _
  obtain ⟨W2, hW2⟩ : ∃ W2, W1.alloc (.cells #[.int .u8 3, .string x, .slice A na cp, .string u] 26) = W2 := ⟨_, rfl⟩
  have HB2 : Hid (Below W1.heap.size W1 W2) := Lib.hid (by rw [← hW2]; exact stpA (Below.refl _ _) _)
  have hs2 : W2.heap.size = b2 + 2 := by rw [← hW2, World.size_alloc, hs1]
  have hx2 : W2.heap[b2 + 1]? = some (.cells #[.int .u8 3, .string x, .slice A na cp, .string u] 26 (0, 0)) := by rw [← hW2, ← hs1]; exact heap_alloc_new W1 _
  obtain ⟨W3, hW3⟩ : ∃ W3, W2.alloc (.cells #[.slice none 0 0, .slice none 0 0] 45) = W3 := ⟨_, rfl⟩
  have HB3 : Hid (Below W2.heap.size W2 W3) := Lib.hid (by rw [← hW3]; exact stpA (Below.refl _ _) _)
  have hs3 : W3.heap.size = b2 + 3 := by rw [← hW3, World.size_alloc, hs2]
  have HXR : Hid (W3.heap[b2 + 2]? = some (.cells #[.slice none 0 0, .slice none 0 0] 45 (0, 0))) := Lib.hid (by rw [← hW3, ← hs2]; exact heap_alloc_new W2 _)
  have HB03 : Hid (Below w.heap.size w W3) := Lib.hid (stp (stp HB1.out HB2.out) HB3.out)
  have HXG : Hid (W3.heap[b2]? = some (.cells #[.slice An 0 cn, .slice Ao 0 co] 45 (0, 0))) := Lib.hid (kept_heap (kept_heap hx1 HB2.out) HB3.out)
  have HXT : Hid (W3.heap[b2 + 1]? = some (.cells #[.int .u8 3, .string x, .slice A na cp, .string u] 26 (0, 0))) := Lib.hid (kept_heap hx2 HB3.out)
  have HSZ3 : Hid (w.heap.size = b2 ∧ W3.heap.size = b2 + 3) := Lib.hid ⟨hb2, hs3⟩
  have k0 := cellV W3 _ 0 _ _ _ HXG.out
  have k1 := cellV W3 _ 1 _ _ _ HXG.out
  have t0 := cellV W3 _ 0 _ _ _ HXT.out
  have t1 := cellV W3 _ 1 _ _ _ HXT.out
  have t2 := cellV W3 _ 2 _ _ _ HXT.out
  have t3 := cellV W3 _ 3 _ _ _ HXT.out
  clear hx1 hx2 hs3
  have HGV : Hid (Calls Tryd.prog 25 #[.slice A na cp] W3.drew fun e w' => Below W3.drew.heap.size W3.drew w' ∧ ∃ A4 c4, e = .returned (.slice A4 na c4) ∧ w'.ownsRow W3.drew.heap.size 61 3 (.slice A4 na c4) na (((givenN t.attrs).map abOf).flatMap abCells)) := Lib.hid ((rgiven10 A na cp t.attrs W3.drew (ht.attrs.on (stp HB03.out (Below.refl _ _).drew)) hna (by omega)).mono fun e w' h => by
    obtain ⟨h1, A4, c4, h2, h3⟩ := h
    rw [hna] at h2 h3
    exact ⟨h1, A4, c4, h2, h3⟩)
  obtain ⟨p6, hp6⟩ : ∃ p6, (bumpL O L ++ [(⟨⟨1, [], t.name, givenN t.attrs, [], 0⟩, ⟨#[]⟩, x, ⟨#[]⟩, none, 0⟩ : NB)]).length = p6 := ⟨_, rfl⟩
  have HW : Hid (∀ A4 c4 w4, Below W3.drew.heap.size W3.drew w4 → w4.ownsRow W3.drew.heap.size 61 3 (.slice A4 na c4) na (((givenN t.attrs).map abOf).flatMap abCells) → Calls Tryd.prog 24 #[.agg #[.slice An 0 cn, .slice Ao 0 co], .agg #[.int .u8 1, .string ⟨#[]⟩, .string x, .slice A4 na c4, .string ⟨#[]⟩, .int .i64 0]] w4 fun e w' => ∃ A6 c6 A5 c5, e = .returned (.agg #[.slice A6 p6 c6, .slice A5 (0 + 1) c5]) ∧ GrSt base w4.heap.size (bumpL O L ++ [(⟨⟨1, [], t.name, givenN t.attrs, [], 0⟩, ⟨#[]⟩, x, ⟨#[]⟩, A4, c4⟩ : NB)]) (O ++ [L.length]) (.slice A6 p6 c6) (.slice A5 (0 + 1) c5) w' ∧ FrP base w4.heap.size (.slice An 0 cn) (.slice Ao 0 co) w4 (.slice A6 p6 c6) (.slice A5 (0 + 1) c5) w') := Lib.hid fun A4 c4 w4 hb4 ho4 => by
    have hb04 : Below w.heap.size w w4 := stp (stp HB03.out (Below.refl _ _).drew) hb4
    have h9 := rwith10 base w4.heap.size L O (.slice An 0 cn) (.slice Ao 0 co) (⟨⟨1, [], t.name, givenN t.attrs, [], 0⟩, ⟨#[]⟩, x, ⟨#[]⟩, A4, c4⟩ : NB) w4 (h.below hb04 (by have := h.sz; have := hb04.size; omega) (Nat.le_refl _)) (given_node ho4 hna ht.name fun q h1 h2 => ⟨by have := h.lo; have := h.sz; have := HB03.out.size; have h8 : W3.heap.size ≤ q := h1; omega, h2, fun e => by have := (h.nd.lt q e.symm).2; have := HB03.out.size; have h8 : W3.heap.size ≤ q := h1; omega, fun e => by have := (h.op.lt q e.symm).2; have := HB03.out.size; have h8 : W3.heap.size ≤ q := h1; omega⟩) (by omega) (by omega) hO hM (.inl rfl)
    have hgl : (givenN t.attrs).length = na := by unfold givenN; rw [List.length_map, hna]
    dsimp only at h9
    rw [hgl] at h9
    refine h9.mono fun e w' h => ?_
    obtain ⟨Vn', Vo', h1, h2, h3⟩ := h
    have hk1 : (if ((⟨⟨1, [], t.name, givenN t.attrs, [], 0⟩, ⟨#[]⟩, x, ⟨#[]⟩, A4, c4⟩ : NB)).n.kind = 1 then O ++ [L.length] else O) = O ++ [L.length] := if_pos rfl
    rw [hk1] at h2
    obtain ⟨A6, c6, h6⟩ := own_form2 h2.nd
    obtain ⟨A5, c5, h5⟩ := own_form2 h2.op
    have e6 : (bumpL O L ++ [(⟨⟨1, [], t.name, givenN t.attrs, [], 0⟩, ⟨#[]⟩, x, ⟨#[]⟩, A4, c4⟩ : NB)]).length = p6 := by rw [← hp6, List.length_append, List.length_append]; rfl
    rw [e6] at h6
    rw [List.length_append, hm] at h5
    subst h6 h5
    exact ⟨A6, c6, A5, c5, h1, h2, h3⟩
  have HH := Lib.hid h
  have HAL := Lib.hid hal
  have HM := Lib.hid hM
  have HNT := Lib.hid hnt
  have HNM := Lib.hid ht.name
  have HNA := Lib.hid hna
  have HOM := Lib.hid hm
  have HLO : Hid (base ≤ w.heap.size) := Lib.hid (Nat.le_trans h.lo h.sz)
  clear h hal hM hO hn hm hnt hna ht hp6
  go_enter Tryd.func13, Tryd.ntmps13
  go_wp2_with fail
  refine wp_region_noPanic ?_
  refine wp_region_Z (fun W => W.cell? ⟨b2, 0, none⟩ = some (.slice An 0 cn) ∧ W.cell? ⟨b2, 1, none⟩ = some (.slice Ao 0 co) ∧ W.cell? ⟨b2 + 1, 1, none⟩ = some (.string x) ∧ W.cell? ⟨b2 + 1, 2, none⟩ = some (.slice A na cp)) 8 (by kernel_rfl) ?_
  have hS : W3.drew.cell? ⟨b2, 0, none⟩ = some (.slice An 0 cn) ∧ W3.drew.cell? ⟨b2, 1, none⟩ = some (.slice Ao 0 co) ∧ W3.drew.cell? ⟨b2 + 1, 1, none⟩ = some (.string x) ∧ W3.drew.cell? ⟨b2 + 1, 2, none⟩ = some (.slice A na cp) := ⟨k0, k1, t1, t2⟩
  refine takeZ (i := 0) (v := .agg #[.slice An 0 cn, .slice Ao 0 co]) rfl (by kernel_rfl) (by kernel_rfl) (by kernel_rfl) (by kernel_rfl) (fun _ _ _ h => h) (Or.inl ⟨by rfl, ?_⟩) hS ?_
  · intro w' hSw; (try dsimp only at hSw); go_simp
  try simp only [Act.put, List.setIfInBounds_toArray, List.set_cons_zero, List.set_cons_succ]
  refine takeZ (i := 1) (v := .pointer (some ⟨b2 + 1, 1, none⟩)) rfl (by kernel_rfl) (by kernel_rfl) (by kernel_rfl) (by kernel_rfl) (fun _ _ _ h => h) (Or.inl ⟨by rfl, ?_⟩) hS ?_
  · intro w' hSw; (try dsimp only at hSw); go_simp
  try simp only [Act.put, List.setIfInBounds_toArray, List.set_cons_zero, List.set_cons_succ]
  refine takeZ (i := 2) (v := .string x) rfl (by kernel_rfl) (by kernel_rfl) (by kernel_rfl) (by kernel_rfl) (fun _ _ _ h => h) (Or.inl ⟨by rfl, ?_⟩) hS ?_
  · intro w' hSw; (try dsimp only at hSw); go_simp
  try simp only [Act.put, List.setIfInBounds_toArray, List.set_cons_zero, List.set_cons_succ]
  refine takeZ (i := 3) (v := .pointer (some ⟨b2 + 1, 2, none⟩)) rfl (by kernel_rfl) (by kernel_rfl) (by kernel_rfl) (by kernel_rfl) (fun _ _ _ h => h) (Or.inl ⟨by rfl, ?_⟩) hS ?_
  · intro w' hSw; (try dsimp only at hSw); go_simp
  try simp only [Act.put, List.setIfInBounds_toArray, List.set_cons_zero, List.set_cons_succ]
  refine takeZ (i := 4) (v := .slice A na cp) rfl (by kernel_rfl) (by kernel_rfl) (by kernel_rfl) (by kernel_rfl) (fun _ _ _ h => h) (Or.inl ⟨by rfl, ?_⟩) hS ?_
  · intro w' hSw; (try dsimp only at hSw); go_simp
  try simp only [Act.put, List.setIfInBounds_toArray, List.set_cons_zero, List.set_cons_succ]
  refine stepZ (i := 5) (by kernel_rfl) rfl (fun K hK => ?_)
  go_simp
  go_at_call 25; (with_reducible refine (HGV.out).mono ?_); rintro e4 w4 ⟨hb4, A4, c4, rfl, ho4⟩; have HB4 : Hid (Below W3.drew.heap.size W3.drew w4) := Lib.hid hb4; have HO4 := Lib.hid ho4; clear hb4 ho4
  have HXG4 : Hid (w4.heap[b2]? = some (.cells #[.slice An 0 cn, .slice Ao 0 co] 45 (0, 0))) := Lib.hid (kept_heap (a := W3.drew) HXG.out HB4.out)
  have HXT4 : Hid (w4.heap[b2 + 1]? = some (.cells #[.int .u8 3, .string x, .slice A na cp, .string u] 26 (0, 0))) := Lib.hid (kept_heap (a := W3.drew) HXT.out HB4.out)
  have HXR4 : Hid (w4.heap[b2 + 2]? = some (.cells #[.slice none 0 0, .slice none 0 0] 45 (0, 0))) := Lib.hid (kept_heap (a := W3.drew) HXR.out HB4.out)
  have hS4 : w4.cell? ⟨b2, 0, none⟩ = some (.slice An 0 cn) ∧ w4.cell? ⟨b2, 1, none⟩ = some (.slice Ao 0 co) ∧ w4.cell? ⟨b2 + 1, 1, none⟩ = some (.string x) ∧ w4.cell? ⟨b2 + 1, 2, none⟩ = some (.slice A na cp) := ⟨cellV w4 _ 0 _ _ _ HXG4.out, cellV w4 _ 1 _ _ _ HXG4.out, cellV w4 _ 1 _ _ _ HXT4.out, cellV w4 _ 2 _ _ _ HXT4.out⟩
  go_wp2_with fail
  refine hK.out _ _ (fun _ => hS4) (fun _ => ?_)
  clear hK K hS
  try simp only [Act.put, List.setIfInBounds_toArray, List.set_cons_zero, List.set_cons_succ]
  refine takeZ (i := 6) (v := .agg #[.int .u8 1, .string ⟨#[]⟩, .string x, .slice A4 na c4, .string ⟨#[]⟩, .int .i64 0]) rfl (by kernel_rfl) (by kernel_rfl) (by kernel_rfl) (by kernel_rfl) (fun _ _ _ h => h) (Or.inl ⟨by rfl, ?_⟩) hS4 ?_
  · intro w' hSw; (try dsimp only at hSw); go_simp
  try simp only [Act.put, List.setIfInBounds_toArray, List.set_cons_zero, List.set_cons_succ]
  refine stepZ (i := 7) (by kernel_rfl) rfl (fun K hK => ?_)
  go_simp
  go_at_call 24; (with_reducible refine (HW.out A4 c4 w4 HB4.out HO4.out).mono ?_); rintro e7 w7 ⟨A6, c6, A5, c5, rfl, hg7, hf7⟩; have HG7 := Lib.hid hg7; have HF7 := Lib.hid hf7; clear hg7 hf7
  have hz4 : b2 + 3 ≤ w4.heap.size := by have h1 := HB4.out.size; have h2 : W3.heap.size ≤ w4.heap.size := h1; have := HSZ3.out; omega
  have HZ4 := Lib.hid hz4
  have st7 : ∀ q o, q < b2 + 3 → b2 ≤ q → w4.heap[q]? = some o → w7.heap[q]? = some o := fun q o h1 h2 h3 => (HF7.out.blk q (by omega) (by omega) (fun e => by have := (HH.out.nd.lt _ e.symm).2; have := HSZ3.out; omega) (fun e => by have := (HH.out.op.lt _ e.symm).2; have := HSZ3.out; omega)).trans h3
  have HXG7 := Lib.hid (st7 b2 _ (by omega) (by omega) HXG4.out)
  have HXT7 := Lib.hid (st7 (b2 + 1) _ (by omega) (by omega) HXT4.out)
  have HXR7 := Lib.hid (st7 (b2 + 2) _ (by omega) (by omega) HXR4.out)
  have hS7 : w7.cell? ⟨b2, 0, none⟩ = some (.slice An 0 cn) ∧ w7.cell? ⟨b2, 1, none⟩ = some (.slice Ao 0 co) ∧ w7.cell? ⟨b2 + 1, 1, none⟩ = some (.string x) ∧ w7.cell? ⟨b2 + 1, 2, none⟩ = some (.slice A na cp) := ⟨cellV w7 _ 0 _ _ _ HXG7.out, cellV w7 _ 1 _ _ _ HXG7.out, cellV w7 _ 1 _ _ _ HXT7.out, cellV w7 _ 2 _ _ _ HXT7.out⟩
  go_wp2_with fail
  refine hK.out _ _ (fun _ => hS7) (fun _ => ?_)
  clear hK K hS4 st7
  try simp only [Act.put, List.setIfInBounds_toArray, List.set_cons_zero, List.set_cons_succ]
  refine stepZ (i := 8) (by kernel_rfl) rfl (fun K hK => ?_)
  rw [if_pos (by rfl)]
  refine wp_store_row 45 (.tmp 3) (.tmp 86) rfl b2 #[.slice A6 p6 c6, .slice A5 (0 + 1) c5] rfl rfl 45 #[.slice An 0 cn, .slice Ao 0 co] HXG7.out infoGr rfl (by simp [Value.oneCell']) ?_
  refine hK.out _ _ (fun h => absurd rfl h) (fun _ => ?_)
  clear hK K hS7 k0 k1 t0 t1 t2 t3
  try simp only [Act.put]
  refine doneZ (by kernel_rfl) ?_ _
  refine NoPanic.normal ?_
  obtain ⟨W8, hW8⟩ : ∃ W8, w7.setRow b2 #[.slice A6 p6 c6, .slice A5 (0 + 1) c5] = W8 := ⟨_, rfl⟩
  rw [hW8]
  have HXG8 : Hid (W8.heap[b2]? = some (.cells #[.slice A6 p6 c6, .slice A5 (0 + 1) c5] 45 (0, 0))) := Lib.hid (by rw [← hW8]; exact setRow_heap _ _ _ _ _ _ HXG7.out)
  have HXT8 : Hid (W8.heap[b2 + 1]? = some (.cells #[.int .u8 3, .string x, .slice A na cp, .string u] 26 (0, 0))) := Lib.hid (by rw [← hW8]; exact (setRow_other _ _ _ _ (by omega)).trans HXT7.out)
  have HXR8 : Hid (W8.heap[b2 + 2]? = some (.cells #[.slice none 0 0, .slice none 0 0] 45 (0, 0))) := Lib.hid (by rw [← hW8]; exact (setRow_other _ _ _ _ (by omega)).trans HXR7.out)
  have HB8 : Hid (Below base w W8) := Lib.hid (by rw [← hW8]; exact below_setRowV ((((HB03.out.mono HLO.out).trans (Below.refl _ _).drew).trans (HB4.out.mono (by have h2 : W3.drew.heap.size = W3.heap.size := rfl; have := HSZ3.out; have := HLO.out; omega))).trans HF7.out.bel) (by have := HSZ3.out; have := HLO.out; omega) _)
  have HW8 : Hid (∀ q, q ≠ b2 → W8.heap[q]? = w7.heap[q]?) := Lib.hid fun q h => by rw [← hW8]; exact setRow_other _ _ _ _ h
  have HS8 : Hid (W8.heap.size = w7.heap.size) := Lib.hid (by rw [← hW8]; simp [World.setRow])
  have t0 := cellV W8 _ 0 _ _ _ HXT8.out
  have k1 := cellV W8 _ 1 _ _ _ HXG8.out
  have f1 := freeV W8 b2 1 _ _ HXG8.out
  clear hW8 hz4
  have bco : ((0 : Nat) : Int) ≤ (c5 : Int) := by
    have h9 := HG7.out.op
    rcases h9.2 with ⟨e0, _⟩ | ⟨g', cap, cur, hv, _, _, h1, _⟩
    · injection e0 with _ e0 _; omega
    · injection hv with _ _ e3
      rw [List.length_append, HOM.out] at h1
      have h2 : ([L.length] : List Nat).length = 1 := rfl
      omega
  have wkk : IntKind.i64.wrap (((0 : Nat) : Int) + 1 - 1) = ((0 : Nat) : Int) := by rw [IntWalk.i64_in _ (by omega)]; omega
  obtain ⟨W9, hW9⟩ : ∃ W9, W8.setCell ⟨b2, 1, none⟩ (.slice A5 0 c5) = W9 := ⟨_, rfl⟩
  have HXG9 : Hid (W9.heap[b2]? = some (.cells #[.slice A6 p6 c6, .slice A5 0 c5] 45 (0, 0))) := Lib.hid (by rw [← hW9]; exact heap_setCell_same W8 b2 1 _ _ _ HXG8.out)
  have HXR9 : Hid (W9.heap[b2 + 2]? = some (.cells #[.slice none 0 0, .slice none 0 0] 45 (0, 0))) := Lib.hid (by rw [← hW9]; exact (heap_setCell_other _ _ _ _ (by show b2 + 2 ≠ b2; omega)).trans HXR8.out)
  have HB9 : Hid (Below base w W9) := Lib.hid (by rw [← hW9]; exact HB8.out.setCell (p := ⟨b2, 1, none⟩) (by have := HSZ3.out; have := HLO.out; show base ≤ b2; omega) _)
  have HW9 : Hid (∀ q, q ≠ b2 → W9.heap[q]? = w7.heap[q]?) := Lib.hid fun q h => by rw [← hW9]; exact (heap_setCell_other _ _ _ _ h).trans (HW8.out q h)
  have HS9 : Hid (W9.heap.size = w7.heap.size) := Lib.hid (by rw [← hW9]; simp [World.setCell]; exact HS8.out)
  go_wp2_with (first
    | (refine wpList_load_row rfl _ _ rfl b2 rfl 45 #[.slice A6 p6 c6, .slice A5 0 c5] (0, 0) _ HXG9.out Tryd.underlying45 rfl infoGr ?_)
    | (refine wpList_store_row rfl _ _ _ rfl (b2 + 2) #[.slice A6 p6 c6, .slice A5 0 c5] rfl rfl 45 #[.slice none 0 0, .slice none 0 0] HXR9.out infoGr rfl (by simp [Value.oneCell']) ?_)
    | fail)
  have hb : Below base w (W9.setRow (b2 + 2) #[.slice A6 p6 c6, .slice A5 0 c5]) := below_setRowV HB9.out (by have := HSZ3.out; have := HLO.out; omega) _
  have hb04 : Below w.heap.size w w4 := stp (stp HB03.out (Below.refl _ _).drew) HB4.out
  have hg0 : ∀ o, w.heap[g]? = some o → (W9.setRow (b2 + 2) #[.slice A6 p6 c6, .slice A5 0 c5]).heap[g]? = some o := fun o ho => by
    have hgl := lt_heapP ho
    have h9 := HSZ3.out
    have h8 := hb04.size
    exact (setRow_other _ _ _ _ (by omega)).trans ((HW9.out g (by omega)).trans ((HF7.out.blk g (by omega) (by omega) (fun e => by have := HAL.out.nd g e.symm; omega) (fun e => by have := HAL.out.op g e.symm; omega)).trans (kept_heap ho hb04)))
  have hg9 : ∀ W' : World, (∀ q, q ≠ g → W'.heap[q]? = (W9.setRow (b2 + 2) #[.slice A6 p6 c6, .slice A5 0 c5]).heap[q]?) → (W9.setRow (b2 + 2) #[.slice A6 p6 c6, .slice A5 0 c5]).heap.size ≤ W'.heap.size → GrSt base w4.heap.size (bumpL O L ++ [(⟨⟨1, [], t.name, givenN t.attrs, [], 0⟩, ⟨#[]⟩, x, ⟨#[]⟩, A4, c4⟩ : NB)]) (O) (.slice A6 p6 c6) (.slice A5 0 c5) W' := fun W' j1 j2 => by
    have hg8 := stp_fin HH.out HM.out HSZ3.out.1 hb04 HZ4.out HG7.out HF7.out (given_node HO4.out HNA.out HNM.out fun q h1 h2 => ⟨by have h8 : W3.heap.size ≤ q := h1; have := HSZ3.out; omega, h2⟩) (Nat.le_refl _) (by have := HH.out.sz; have := hb04.size; omega) HAL.out (W' := W') (fun q h1 h2 h3 => (j1 q h3).trans ((setRow_other _ _ _ _ h2).trans (HW9.out q h1))) (by
      have h5 : (W9.setRow (b2 + 2) #[.slice A6 p6 c6, .slice A5 0 c5]).heap.size = w7.heap.size := by simp [World.setRow]; exact HS9.out
      omega)
    have hg7 := hg8.shut (m := 0) (by rw [List.length_append, HOM.out]; rfl) rfl
    rw [List.dropLast_concat] at hg7
    exact hg7
  exact bodyPost_ret (v := .tuple #[.agg #[.slice A6 p6 c6, .slice A5 0 c5], .int .i64 0]) (rcellP (p := 6) (q := 7) rfl _ _ _ _ #[.slice A6 p6 c6, .slice A5 0 c5] _ _ _ rfl rfl (setRow_heap _ _ _ #[.slice A6 p6 c6, .slice A5 0 c5] _ _ HXR9.out) Tryd.underlying45 rfl infoGr) rfl ⟨hb, hg0, _, _, _, _, rfl, by rw [List.map_append, bumpL_map, HNT.out]; rfl, hg9⟩
set_option maxHeartbeats 16000000 in
set_option maxRecDepth 100000 in
theorem st_beg31 (base hi : Nat) (L : List NB) (O : List Nat) (An : Option Addr) (n cn : Nat) (Ao : Option Addr) (m co : Nat) (t : Tk) (x u : ByteArray) (A : Option Addr) (cp : Nat) (bb : Bool) (w : World) (h : GrSt base hi L O (.slice An n cn) (.slice Ao m co) w) (hn : L.length = n) (hm : O.length = m) (hn9 : n ≤ 100000) (hm9 : m ≤ 12) (hO : ∀ i ∈ O, i < L.length) (hM : ∀ b ∈ L, 0 ≤ b.n.many ∧ b.n.many ≤ 1000000) (g : Nat) (hal : Alien hi g (.slice An n cn) (.slice Ao m co) w) (hkd : t.kind = 3) (ht : TkAt t x u A cp w) (h12 : m < 12) (h0 : 0 < m) :
    Calls Tryd.prog 13 #[.agg #[.slice An n cn, .slice Ao m co], TkV t x u A cp, .bool bb] w (StpTo base g (.ok ⟨bump O (L.map NB.n) ++ [nodeT t], O⟩) w) := by
  have fm : ((m : Int) == 0) = false := by simp; omega
  have fm2 : ¬ (m : Int) = 0 := by omega
  have f12 : ((m : Int) == 12) = false := by simp; omega
  have f122 : ¬ (m : Int) = 12 := by omega
  have hnt : nodeT t = ⟨1, [], t.name, givenN t.attrs, [], 0⟩ := by unfold nodeT; rw [if_neg (by omega)]
  have htal := ht.al
  obtain ⟨na, hna⟩ : ∃ na, t.attrs.length = na := ⟨_, rfl⟩
  unfold TkV
  rw [hna, hkd]
  have hkc : ((3 : Nat) : Int) = 3 := rfl
  rw [hkc]
  obtain ⟨b2, hb2⟩ : ∃ b2, w.heap.size = b2 := ⟨_, rfl⟩
  obtain ⟨W1, hW1⟩ : ∃ W1, w.alloc (.cells #[.slice An n cn, .slice Ao m co] 45) = W1 := ⟨_, rfl⟩
  have HB1 : Hid (Below w.heap.size w W1) := Lib.hid (by rw [← hW1]; exact stpA (Below.refl _ _) _)
  have hs1 : W1.heap.size = b2 + 1 := by rw [← hW1, World.size_alloc, hb2]
  have hx1 : W1.heap[b2]? = some (.cells #[.slice An n cn, .slice Ao m co] 45 (0, 0)) := by rw [← hW1, ← hb2]; exact heap_alloc_new w _
  obtain ⟨W2, hW2⟩ : ∃ W2, W1.alloc (.cells #[.int .u8 3, .string x, .slice A na cp, .string u] 26) = W2 := ⟨_, rfl⟩
  have HB2 : Hid (Below W1.heap.size W1 W2) := Lib.hid (by rw [← hW2]; exact stpA (Below.refl _ _) _)
  have hs2 : W2.heap.size = b2 + 2 := by rw [← hW2, World.size_alloc, hs1]
  have hx2 : W2.heap[b2 + 1]? = some (.cells #[.int .u8 3, .string x, .slice A na cp, .string u] 26 (0, 0)) := by rw [← hW2, ← hs1]; exact heap_alloc_new W1 _
  obtain ⟨W3, hW3⟩ : ∃ W3, W2.alloc (.cells #[.slice none 0 0, .slice none 0 0] 45) = W3 := ⟨_, rfl⟩
  have HB3 : Hid (Below W2.heap.size W2 W3) := Lib.hid (by rw [← hW3]; exact stpA (Below.refl _ _) _)
  have hs3 : W3.heap.size = b2 + 3 := by rw [← hW3, World.size_alloc, hs2]
  have HXR : Hid (W3.heap[b2 + 2]? = some (.cells #[.slice none 0 0, .slice none 0 0] 45 (0, 0))) := Lib.hid (by rw [← hW3, ← hs2]; exact heap_alloc_new W2 _)
  have HB03 : Hid (Below w.heap.size w W3) := Lib.hid (stp (stp HB1.out HB2.out) HB3.out)
  have HXG : Hid (W3.heap[b2]? = some (.cells #[.slice An n cn, .slice Ao m co] 45 (0, 0))) := Lib.hid (kept_heap (kept_heap hx1 HB2.out) HB3.out)
  have HXT : Hid (W3.heap[b2 + 1]? = some (.cells #[.int .u8 3, .string x, .slice A na cp, .string u] 26 (0, 0))) := Lib.hid (kept_heap hx2 HB3.out)
  have HSZ3 : Hid (w.heap.size = b2 ∧ W3.heap.size = b2 + 3) := Lib.hid ⟨hb2, hs3⟩
  have k0 := cellV W3 _ 0 _ _ _ HXG.out
  have k1 := cellV W3 _ 1 _ _ _ HXG.out
  have t0 := cellV W3 _ 0 _ _ _ HXT.out
  have t1 := cellV W3 _ 1 _ _ _ HXT.out
  have t2 := cellV W3 _ 2 _ _ _ HXT.out
  have t3 := cellV W3 _ 3 _ _ _ HXT.out
  clear hx1 hx2 hs3
  have HGV : Hid (Calls Tryd.prog 25 #[.slice A na cp] W3.drew fun e w' => Below W3.drew.heap.size W3.drew w' ∧ ∃ A4 c4, e = .returned (.slice A4 na c4) ∧ w'.ownsRow W3.drew.heap.size 61 3 (.slice A4 na c4) na (((givenN t.attrs).map abOf).flatMap abCells)) := Lib.hid ((rgiven10 A na cp t.attrs W3.drew (ht.attrs.on (stp HB03.out (Below.refl _ _).drew)) hna (by omega)).mono fun e w' h => by
    obtain ⟨h1, A4, c4, h2, h3⟩ := h
    rw [hna] at h2 h3
    exact ⟨h1, A4, c4, h2, h3⟩)
  obtain ⟨p6, hp6⟩ : ∃ p6, (bumpL O L ++ [(⟨⟨1, [], t.name, givenN t.attrs, [], 0⟩, ⟨#[]⟩, x, ⟨#[]⟩, none, 0⟩ : NB)]).length = p6 := ⟨_, rfl⟩
  have HW : Hid (∀ A4 c4 w4, Below W3.drew.heap.size W3.drew w4 → w4.ownsRow W3.drew.heap.size 61 3 (.slice A4 na c4) na (((givenN t.attrs).map abOf).flatMap abCells) → Calls Tryd.prog 24 #[.agg #[.slice An n cn, .slice Ao m co], .agg #[.int .u8 1, .string ⟨#[]⟩, .string x, .slice A4 na c4, .string ⟨#[]⟩, .int .i64 0]] w4 fun e w' => ∃ A6 c6 A5 c5, e = .returned (.agg #[.slice A6 p6 c6, .slice A5 (m + 1) c5]) ∧ GrSt base w4.heap.size (bumpL O L ++ [(⟨⟨1, [], t.name, givenN t.attrs, [], 0⟩, ⟨#[]⟩, x, ⟨#[]⟩, A4, c4⟩ : NB)]) (O ++ [L.length]) (.slice A6 p6 c6) (.slice A5 (m + 1) c5) w' ∧ FrP base w4.heap.size (.slice An n cn) (.slice Ao m co) w4 (.slice A6 p6 c6) (.slice A5 (m + 1) c5) w') := Lib.hid fun A4 c4 w4 hb4 ho4 => by
    have hb04 : Below w.heap.size w w4 := stp (stp HB03.out (Below.refl _ _).drew) hb4
    have h9 := rwith10 base w4.heap.size L O (.slice An n cn) (.slice Ao m co) (⟨⟨1, [], t.name, givenN t.attrs, [], 0⟩, ⟨#[]⟩, x, ⟨#[]⟩, A4, c4⟩ : NB) w4 (h.below hb04 (by have := h.sz; have := hb04.size; omega) (Nat.le_refl _)) (given_node ho4 hna ht.name fun q h1 h2 => ⟨by have := h.lo; have := h.sz; have := HB03.out.size; have h8 : W3.heap.size ≤ q := h1; omega, h2, fun e => by have := (h.nd.lt q e.symm).2; have := HB03.out.size; have h8 : W3.heap.size ≤ q := h1; omega, fun e => by have := (h.op.lt q e.symm).2; have := HB03.out.size; have h8 : W3.heap.size ≤ q := h1; omega⟩) (by omega) (by omega) hO hM (.inl rfl)
    have hgl : (givenN t.attrs).length = na := by unfold givenN; rw [List.length_map, hna]
    dsimp only at h9
    rw [hgl] at h9
    refine h9.mono fun e w' h => ?_
    obtain ⟨Vn', Vo', h1, h2, h3⟩ := h
    have hk1 : (if ((⟨⟨1, [], t.name, givenN t.attrs, [], 0⟩, ⟨#[]⟩, x, ⟨#[]⟩, A4, c4⟩ : NB)).n.kind = 1 then O ++ [L.length] else O) = O ++ [L.length] := if_pos rfl
    rw [hk1] at h2
    obtain ⟨A6, c6, h6⟩ := own_form2 h2.nd
    obtain ⟨A5, c5, h5⟩ := own_form2 h2.op
    have e6 : (bumpL O L ++ [(⟨⟨1, [], t.name, givenN t.attrs, [], 0⟩, ⟨#[]⟩, x, ⟨#[]⟩, A4, c4⟩ : NB)]).length = p6 := by rw [← hp6, List.length_append, List.length_append]; rfl
    rw [e6] at h6
    rw [List.length_append, hm] at h5
    subst h6 h5
    exact ⟨A6, c6, A5, c5, h1, h2, h3⟩
  have HH := Lib.hid h
  have HAL := Lib.hid hal
  have HM := Lib.hid hM
  have HNT := Lib.hid hnt
  have HNM := Lib.hid ht.name
  have HNA := Lib.hid hna
  have HOM := Lib.hid hm
  have HLO : Hid (base ≤ w.heap.size) := Lib.hid (Nat.le_trans h.lo h.sz)
  clear h hal hM hO hn hm hnt hna ht hp6
  go_enter Tryd.func13, Tryd.ntmps13
  go_wp2_with fail
  refine wp_region_noPanic ?_
  refine wp_region_Z (fun W => W.cell? ⟨b2, 0, none⟩ = some (.slice An n cn) ∧ W.cell? ⟨b2, 1, none⟩ = some (.slice Ao m co) ∧ W.cell? ⟨b2 + 1, 1, none⟩ = some (.string x) ∧ W.cell? ⟨b2 + 1, 2, none⟩ = some (.slice A na cp)) 8 (by kernel_rfl) ?_
  have hS : W3.drew.cell? ⟨b2, 0, none⟩ = some (.slice An n cn) ∧ W3.drew.cell? ⟨b2, 1, none⟩ = some (.slice Ao m co) ∧ W3.drew.cell? ⟨b2 + 1, 1, none⟩ = some (.string x) ∧ W3.drew.cell? ⟨b2 + 1, 2, none⟩ = some (.slice A na cp) := ⟨k0, k1, t1, t2⟩
  refine takeZ (i := 0) (v := .agg #[.slice An n cn, .slice Ao m co]) rfl (by kernel_rfl) (by kernel_rfl) (by kernel_rfl) (by kernel_rfl) (fun _ _ _ h => h) (Or.inl ⟨by rfl, ?_⟩) hS ?_
  · intro w' hSw; (try dsimp only at hSw); go_simp
  try simp only [Act.put, List.setIfInBounds_toArray, List.set_cons_zero, List.set_cons_succ]
  refine takeZ (i := 1) (v := .pointer (some ⟨b2 + 1, 1, none⟩)) rfl (by kernel_rfl) (by kernel_rfl) (by kernel_rfl) (by kernel_rfl) (fun _ _ _ h => h) (Or.inl ⟨by rfl, ?_⟩) hS ?_
  · intro w' hSw; (try dsimp only at hSw); go_simp
  try simp only [Act.put, List.setIfInBounds_toArray, List.set_cons_zero, List.set_cons_succ]
  refine takeZ (i := 2) (v := .string x) rfl (by kernel_rfl) (by kernel_rfl) (by kernel_rfl) (by kernel_rfl) (fun _ _ _ h => h) (Or.inl ⟨by rfl, ?_⟩) hS ?_
  · intro w' hSw; (try dsimp only at hSw); go_simp
  try simp only [Act.put, List.setIfInBounds_toArray, List.set_cons_zero, List.set_cons_succ]
  refine takeZ (i := 3) (v := .pointer (some ⟨b2 + 1, 2, none⟩)) rfl (by kernel_rfl) (by kernel_rfl) (by kernel_rfl) (by kernel_rfl) (fun _ _ _ h => h) (Or.inl ⟨by rfl, ?_⟩) hS ?_
  · intro w' hSw; (try dsimp only at hSw); go_simp
  try simp only [Act.put, List.setIfInBounds_toArray, List.set_cons_zero, List.set_cons_succ]
  refine takeZ (i := 4) (v := .slice A na cp) rfl (by kernel_rfl) (by kernel_rfl) (by kernel_rfl) (by kernel_rfl) (fun _ _ _ h => h) (Or.inl ⟨by rfl, ?_⟩) hS ?_
  · intro w' hSw; (try dsimp only at hSw); go_simp
  try simp only [Act.put, List.setIfInBounds_toArray, List.set_cons_zero, List.set_cons_succ]
  refine stepZ (i := 5) (by kernel_rfl) rfl (fun K hK => ?_)
  go_simp
  go_at_call 25; (with_reducible refine (HGV.out).mono ?_); rintro e4 w4 ⟨hb4, A4, c4, rfl, ho4⟩; have HB4 : Hid (Below W3.drew.heap.size W3.drew w4) := Lib.hid hb4; have HO4 := Lib.hid ho4; clear hb4 ho4
  have HXG4 : Hid (w4.heap[b2]? = some (.cells #[.slice An n cn, .slice Ao m co] 45 (0, 0))) := Lib.hid (kept_heap (a := W3.drew) HXG.out HB4.out)
  have HXT4 : Hid (w4.heap[b2 + 1]? = some (.cells #[.int .u8 3, .string x, .slice A na cp, .string u] 26 (0, 0))) := Lib.hid (kept_heap (a := W3.drew) HXT.out HB4.out)
  have HXR4 : Hid (w4.heap[b2 + 2]? = some (.cells #[.slice none 0 0, .slice none 0 0] 45 (0, 0))) := Lib.hid (kept_heap (a := W3.drew) HXR.out HB4.out)
  have hS4 : w4.cell? ⟨b2, 0, none⟩ = some (.slice An n cn) ∧ w4.cell? ⟨b2, 1, none⟩ = some (.slice Ao m co) ∧ w4.cell? ⟨b2 + 1, 1, none⟩ = some (.string x) ∧ w4.cell? ⟨b2 + 1, 2, none⟩ = some (.slice A na cp) := ⟨cellV w4 _ 0 _ _ _ HXG4.out, cellV w4 _ 1 _ _ _ HXG4.out, cellV w4 _ 1 _ _ _ HXT4.out, cellV w4 _ 2 _ _ _ HXT4.out⟩
  go_wp2_with fail
  refine hK.out _ _ (fun _ => hS4) (fun _ => ?_)
  clear hK K hS
  try simp only [Act.put, List.setIfInBounds_toArray, List.set_cons_zero, List.set_cons_succ]
  refine takeZ (i := 6) (v := .agg #[.int .u8 1, .string ⟨#[]⟩, .string x, .slice A4 na c4, .string ⟨#[]⟩, .int .i64 0]) rfl (by kernel_rfl) (by kernel_rfl) (by kernel_rfl) (by kernel_rfl) (fun _ _ _ h => h) (Or.inl ⟨by rfl, ?_⟩) hS4 ?_
  · intro w' hSw; (try dsimp only at hSw); go_simp
  try simp only [Act.put, List.setIfInBounds_toArray, List.set_cons_zero, List.set_cons_succ]
  refine stepZ (i := 7) (by kernel_rfl) rfl (fun K hK => ?_)
  go_simp
  go_at_call 24; (with_reducible refine (HW.out A4 c4 w4 HB4.out HO4.out).mono ?_); rintro e7 w7 ⟨A6, c6, A5, c5, rfl, hg7, hf7⟩; have HG7 := Lib.hid hg7; have HF7 := Lib.hid hf7; clear hg7 hf7
  have hz4 : b2 + 3 ≤ w4.heap.size := by have h1 := HB4.out.size; have h2 : W3.heap.size ≤ w4.heap.size := h1; have := HSZ3.out; omega
  have HZ4 := Lib.hid hz4
  have st7 : ∀ q o, q < b2 + 3 → b2 ≤ q → w4.heap[q]? = some o → w7.heap[q]? = some o := fun q o h1 h2 h3 => (HF7.out.blk q (by omega) (by omega) (fun e => by have := (HH.out.nd.lt _ e.symm).2; have := HSZ3.out; omega) (fun e => by have := (HH.out.op.lt _ e.symm).2; have := HSZ3.out; omega)).trans h3
  have HXG7 := Lib.hid (st7 b2 _ (by omega) (by omega) HXG4.out)
  have HXT7 := Lib.hid (st7 (b2 + 1) _ (by omega) (by omega) HXT4.out)
  have HXR7 := Lib.hid (st7 (b2 + 2) _ (by omega) (by omega) HXR4.out)
  have hS7 : w7.cell? ⟨b2, 0, none⟩ = some (.slice An n cn) ∧ w7.cell? ⟨b2, 1, none⟩ = some (.slice Ao m co) ∧ w7.cell? ⟨b2 + 1, 1, none⟩ = some (.string x) ∧ w7.cell? ⟨b2 + 1, 2, none⟩ = some (.slice A na cp) := ⟨cellV w7 _ 0 _ _ _ HXG7.out, cellV w7 _ 1 _ _ _ HXG7.out, cellV w7 _ 1 _ _ _ HXT7.out, cellV w7 _ 2 _ _ _ HXT7.out⟩
  go_wp2_with fail
  refine hK.out _ _ (fun _ => hS7) (fun _ => ?_)
  clear hK K hS4 st7
  try simp only [Act.put, List.setIfInBounds_toArray, List.set_cons_zero, List.set_cons_succ]
  refine stepZ (i := 8) (by kernel_rfl) rfl (fun K hK => ?_)
  rw [if_pos (by rfl)]
  refine wp_store_row 45 (.tmp 3) (.tmp 86) rfl b2 #[.slice A6 p6 c6, .slice A5 (m + 1) c5] rfl rfl 45 #[.slice An n cn, .slice Ao m co] HXG7.out infoGr rfl (by simp [Value.oneCell']) ?_
  refine hK.out _ _ (fun h => absurd rfl h) (fun _ => ?_)
  clear hK K hS7 k0 k1 t0 t1 t2 t3
  try simp only [Act.put]
  refine doneZ (by kernel_rfl) ?_ _
  refine NoPanic.normal ?_
  obtain ⟨W8, hW8⟩ : ∃ W8, w7.setRow b2 #[.slice A6 p6 c6, .slice A5 (m + 1) c5] = W8 := ⟨_, rfl⟩
  rw [hW8]
  have HXG8 : Hid (W8.heap[b2]? = some (.cells #[.slice A6 p6 c6, .slice A5 (m + 1) c5] 45 (0, 0))) := Lib.hid (by rw [← hW8]; exact setRow_heap _ _ _ _ _ _ HXG7.out)
  have HXT8 : Hid (W8.heap[b2 + 1]? = some (.cells #[.int .u8 3, .string x, .slice A na cp, .string u] 26 (0, 0))) := Lib.hid (by rw [← hW8]; exact (setRow_other _ _ _ _ (by omega)).trans HXT7.out)
  have HXR8 : Hid (W8.heap[b2 + 2]? = some (.cells #[.slice none 0 0, .slice none 0 0] 45 (0, 0))) := Lib.hid (by rw [← hW8]; exact (setRow_other _ _ _ _ (by omega)).trans HXR7.out)
  have HB8 : Hid (Below base w W8) := Lib.hid (by rw [← hW8]; exact below_setRowV ((((HB03.out.mono HLO.out).trans (Below.refl _ _).drew).trans (HB4.out.mono (by have h2 : W3.drew.heap.size = W3.heap.size := rfl; have := HSZ3.out; have := HLO.out; omega))).trans HF7.out.bel) (by have := HSZ3.out; have := HLO.out; omega) _)
  have HW8 : Hid (∀ q, q ≠ b2 → W8.heap[q]? = w7.heap[q]?) := Lib.hid fun q h => by rw [← hW8]; exact setRow_other _ _ _ _ h
  have HS8 : Hid (W8.heap.size = w7.heap.size) := Lib.hid (by rw [← hW8]; simp [World.setRow])
  have t0 := cellV W8 _ 0 _ _ _ HXT8.out
  have k1 := cellV W8 _ 1 _ _ _ HXG8.out
  have f1 := freeV W8 b2 1 _ _ HXG8.out
  clear hW8 hz4
  have bco : ((m : Nat) : Int) ≤ (c5 : Int) := by
    have h9 := HG7.out.op
    rcases h9.2 with ⟨e0, _⟩ | ⟨g', cap, cur, hv, _, _, h1, _⟩
    · injection e0 with _ e0 _; omega
    · injection hv with _ _ e3
      rw [List.length_append, HOM.out] at h1
      have h2 : ([L.length] : List Nat).length = 1 := rfl
      omega
  have wkk : IntKind.i64.wrap (((m : Nat) : Int) + 1 - 1) = ((m : Nat) : Int) := by rw [IntWalk.i64_in _ (by omega)]; omega
  obtain ⟨W9, hW9⟩ : ∃ W9, W8.setCell ⟨b2, 1, none⟩ (.slice A5 m c5) = W9 := ⟨_, rfl⟩
  have HXG9 : Hid (W9.heap[b2]? = some (.cells #[.slice A6 p6 c6, .slice A5 m c5] 45 (0, 0))) := Lib.hid (by rw [← hW9]; exact heap_setCell_same W8 b2 1 _ _ _ HXG8.out)
  have HXR9 : Hid (W9.heap[b2 + 2]? = some (.cells #[.slice none 0 0, .slice none 0 0] 45 (0, 0))) := Lib.hid (by rw [← hW9]; exact (heap_setCell_other _ _ _ _ (by show b2 + 2 ≠ b2; omega)).trans HXR8.out)
  have HB9 : Hid (Below base w W9) := Lib.hid (by rw [← hW9]; exact HB8.out.setCell (p := ⟨b2, 1, none⟩) (by have := HSZ3.out; have := HLO.out; show base ≤ b2; omega) _)
  have HW9 : Hid (∀ q, q ≠ b2 → W9.heap[q]? = w7.heap[q]?) := Lib.hid fun q h => by rw [← hW9]; exact (heap_setCell_other _ _ _ _ h).trans (HW8.out q h)
  have HS9 : Hid (W9.heap.size = w7.heap.size) := Lib.hid (by rw [← hW9]; simp [World.setCell]; exact HS8.out)
  go_wp2_with (first
    | (refine wpList_load_row rfl _ _ rfl b2 rfl 45 #[.slice A6 p6 c6, .slice A5 m c5] (0, 0) _ HXG9.out Tryd.underlying45 rfl infoGr ?_)
    | (refine wpList_store_row rfl _ _ _ rfl (b2 + 2) #[.slice A6 p6 c6, .slice A5 m c5] rfl rfl 45 #[.slice none 0 0, .slice none 0 0] HXR9.out infoGr rfl (by simp [Value.oneCell']) ?_)
    | fail)
  have hb : Below base w (W9.setRow (b2 + 2) #[.slice A6 p6 c6, .slice A5 m c5]) := below_setRowV HB9.out (by have := HSZ3.out; have := HLO.out; omega) _
  have hb04 : Below w.heap.size w w4 := stp (stp HB03.out (Below.refl _ _).drew) HB4.out
  have hg0 : ∀ o, w.heap[g]? = some o → (W9.setRow (b2 + 2) #[.slice A6 p6 c6, .slice A5 m c5]).heap[g]? = some o := fun o ho => by
    have hgl := lt_heapP ho
    have h9 := HSZ3.out
    have h8 := hb04.size
    exact (setRow_other _ _ _ _ (by omega)).trans ((HW9.out g (by omega)).trans ((HF7.out.blk g (by omega) (by omega) (fun e => by have := HAL.out.nd g e.symm; omega) (fun e => by have := HAL.out.op g e.symm; omega)).trans (kept_heap ho hb04)))
  have hg9 : ∀ W' : World, (∀ q, q ≠ g → W'.heap[q]? = (W9.setRow (b2 + 2) #[.slice A6 p6 c6, .slice A5 m c5]).heap[q]?) → (W9.setRow (b2 + 2) #[.slice A6 p6 c6, .slice A5 m c5]).heap.size ≤ W'.heap.size → GrSt base w4.heap.size (bumpL O L ++ [(⟨⟨1, [], t.name, givenN t.attrs, [], 0⟩, ⟨#[]⟩, x, ⟨#[]⟩, A4, c4⟩ : NB)]) (O) (.slice A6 p6 c6) (.slice A5 m c5) W' := fun W' j1 j2 => by
    have hg8 := stp_fin HH.out HM.out HSZ3.out.1 hb04 HZ4.out HG7.out HF7.out (given_node HO4.out HNA.out HNM.out fun q h1 h2 => ⟨by have h8 : W3.heap.size ≤ q := h1; have := HSZ3.out; omega, h2⟩) (Nat.le_refl _) (by have := HH.out.sz; have := hb04.size; omega) HAL.out (W' := W') (fun q h1 h2 h3 => (j1 q h3).trans ((setRow_other _ _ _ _ h2).trans (HW9.out q h1))) (by
      have h5 : (W9.setRow (b2 + 2) #[.slice A6 p6 c6, .slice A5 m c5]).heap.size = w7.heap.size := by simp [World.setRow]; exact HS9.out
      omega)
    have hg7 := hg8.shut (m := m) (by rw [List.length_append, HOM.out]; rfl) rfl
    rw [List.dropLast_concat] at hg7
    exact hg7
  exact bodyPost_ret (v := .tuple #[.agg #[.slice A6 p6 c6, .slice A5 m c5], .int .i64 0]) (rcellP (p := 6) (q := 7) rfl _ _ _ _ #[.slice A6 p6 c6, .slice A5 m c5] _ _ _ rfl rfl (setRow_heap _ _ _ #[.slice A6 p6 c6, .slice A5 m c5] _ _ HXR9.out) Tryd.underlying45 rfl infoGr) rfl ⟨hb, hg0, _, _, _, _, rfl, by rw [List.map_append, bumpL_map, HNT.out]; rfl, hg9⟩
end Hx
end Go.Proofs.YtbjgfaflikgobaaDoor
namespace Go.Proofs.YtbjgfaflikgobaaDoor
open Go.RowKit
namespace Hx
open Lx Tr Tx Nmb Es
set_option linter.unusedVariables false
/-- The document's own tree under way, held by two values. -/
structure GrOf (base g : Nat) (s : PS) (Vn Vo : Value) (wr : World) : Prop where
  ex : ∃ (hi : Nat) (L : List NB), L.map NB.n = s.V ∧ GrSt base hi L s.O Vn Vo wr ∧ Alien hi g Vn Vo wr
theorem rstep10 (base g : Nat) (s : PS) (Vn Vo : Value) (K : Nat) (t : Tk) (x u : ByteArray) (A : Option Addr) (cp : Nat) (bb : Bool) (w : World) (hg : GrOf base g s Vn Vo w) (hi : PSb K s) (hK : K ≤ 100000) (ht : TkAt t x u A cp w) (hk : t.kind = 1 ∨ t.kind = 2 ∨ t.kind = 3 ∨ t.kind = 4) :
    Calls Tryd.prog 13 #[.agg #[Vn, Vo], TkV t x u A cp, .bool bb] w (StpTo base g (stepP s bb t) w) := by
  obtain ⟨hi2, L, hV, h, hal⟩ := hg.ex
  have hlen : L.length = s.V.length := by rw [← hV, List.length_map]
  have hM := map_mm hV (K := K) hi.mm (by omega)
  have hO : ∀ i ∈ s.O, i < L.length := fun i h => by rw [hlen]; exact hi.pl i h
  have hl1 := hi.len
  have hl2 := hi.dp
  have hs : s = ⟨L.map NB.n, s.O⟩ := by rw [hV]
  have hn0 : s.V = [] ↔ L.length = 0 := by rw [hlen]; exact List.length_eq_zero_iff.symm
  obtain ⟨An, cn, rfl⟩ := own_form2 h.nd
  obtain ⟨Ao, co, rfl⟩ := own_form2 h.op
  have hbeg : (t.kind = 1 ∨ t.kind = 3) → Calls Tryd.prog 13 #[.agg #[.slice An L.length cn, .slice Ao s.O.length co], TkV t x u A cp, .bool bb] w (StpTo base g (stepP s bb t) w) := fun hk2 => by
    have e : stepP s bb t = if s.O = [] ∧ s.V ≠ [] then .error 80 else if s.O.length = 12 then .error 100 else .ok ⟨bump s.O s.V ++ [nodeT t], if t.kind = 3 then s.O else s.O ++ [s.V.length]⟩ := by
      unfold stepP
      rw [if_neg (by omega), if_neg (by omega)]
    rw [e]
    by_cases h1 : s.O = [] ∧ s.V ≠ []
    · rw [if_pos h1]
      have hp : 0 < L.length := by
        have := List.length_pos_iff.2 h1.2
        omega
      have hm : s.O.length = 0 := by rw [h1.1]; rfl
      rw [hm] at h ⊢
      rcases hk2 with k | k
      · exact (st_beg_xml1 An L.length cn Ao 0 co t x u A cp bb w k hp).mono fun e w' hh => hh.err h
      · exact (st_beg_xml3 An L.length cn Ao 0 co t x u A cp bb w k hp).mono fun e w' hh => hh.err h
    · rw [if_neg h1]
      by_cases h2 : s.O.length = 12
      · rw [if_pos h2]
        rw [h2] at h ⊢
        rcases hk2 with k | k
        · exact (st_beg_deep1 An L.length cn Ao 0 co t x u A cp bb w k).mono fun e w' hh => hh.err h
        · exact (st_beg_deep3 An L.length cn Ao 0 co t x u A cp bb w k).mono fun e w' hh => hh.err h
      · rw [if_neg h2, ← hV, List.length_map]
        by_cases h0 : 0 < s.O.length
        · rcases hk2 with k | k
          · rw [if_neg (by omega)]
            exact st_beg11 base hi2 L s.O An L.length cn Ao s.O.length co t x u A cp bb w h rfl rfl (by omega) hl2 hO hM g hal k ht (by omega) h0
          · rw [if_pos k]
            exact st_beg31 base hi2 L s.O An L.length cn Ao s.O.length co t x u A cp bb w h rfl rfl (by omega) hl2 hO hM g hal k ht (by omega) h0
        · have hz : s.O = [] := List.eq_nil_of_length_eq_zero (by omega)
          have hz2 : L.length = 0 := by
            refine hn0.1 ?_
            by_cases hv : s.V = []
            · exact hv
            · exact absurd ⟨hz, hv⟩ h1
          rcases hk2 with k | k
          · rw [if_neg (by omega)]
            exact st_beg10 base hi2 L s.O An L.length cn Ao s.O.length co t x u A cp bb w h rfl rfl (by omega) hl2 hO hM g hal k ht (by omega) ⟨by omega, hz2⟩
          · rw [if_pos k]
            exact st_beg30 base hi2 L s.O An L.length cn Ao s.O.length co t x u A cp bb w h rfl rfl (by omega) hl2 hO hM g hal k ht (by omega) ⟨by omega, hz2⟩
  rcases hk with k | k | k | k
  · exact hbeg (.inl k)
  · have e : stepP s bb t = match s.O.getLast? with
        | none => .error 80
        | some i => if (s.V[i]?.map (·.name)) = some t.name then .ok ⟨s.V, s.O.dropLast⟩ else .error 80 := by
      unfold stepP
      rw [if_neg (by omega), if_pos k]
      cases s.O.getLast? <;> rfl
    rw [e]
    rcases List.eq_nil_or_concat s.O with h0 | ⟨O1, i, h0⟩
    · rw [h0]
      have hm : s.O.length = 0 := by rw [h0]; rfl
      rw [hm] at h
      show Calls _ _ #[.agg #[.slice An L.length cn, .slice Ao 0 co], _, _] _ _
      exact (st_shut_none An L.length cn Ao 0 co t x u A cp bb w k).mono fun e w' hh => hh.err h
    · have hc : s.O = O1 ++ [i] := by rw [h0, List.concat_eq_append]
      obtain ⟨kk, hkk⟩ : ∃ kk, O1.length = kk := ⟨_, rfl⟩
      have hm : s.O.length = kk + 1 := by rw [hc, List.length_append, hkk]; rfl
      have hi' : i < L.length := hO i (by rw [hc]; simp)
      have hgl : s.O.getLast? = some i := by rw [hc, List.getLast?_concat]
      rw [hgl]
      dsimp only
      have hnm : s.V[i]?.map (·.name) = some (L[i]'hi').n.name := by rw [← hV, List.getElem?_map, List.getElem?_eq_getElem hi']; rfl
      rw [hnm]
      have hyn := (h.inn _ (List.getElem_mem hi')).name
      have h9 := h
      rw [hm] at h ⊢
      obtain ⟨go, _, rfl, _, _, hgo, hcO⟩ := ownp_row h9.op (by omega)
      obtain ⟨gn, curn, rfl, hgn, hgb, hgl0, hcN⟩ := ownp_row h9.nd (by omega)
      have hOk : s.O[kk]? = some i := by rw [hc, List.getElem?_append_right (by omega), hkk, Nat.sub_self]; rfl
      have hc1 := hcO kk _ (zs_cell hOk)
      have hc2 := hcN (i * 6 + 2) _ (nb_cell2 hi')
      have bco : (kk : Int) ≤ (co : Int) := by
        rcases h.op.2 with ⟨e0, _⟩ | ⟨g', cap, cur, hv, _, _, h1, _⟩
        · cases e0
        · injection hv with _ _ e3
          omega
      by_cases hq : (L[i]'hi').y = x
      · rw [if_pos (by rw [← hyn, hq, ht.name])]
        refine (st_shut_eq gn L.length cn go kk co i t x u _ A cp bb w k hi' (by omega) (by omega) bco hc1 hc2 hgo hgl0 hq).mono fun e w' hh => ?_
        have h8 := h.shut (by rw [← hm]) rfl
        rw [hs]
        have hal8 : Alien hi2 g (Value.slice (some ⟨gn, 0, none⟩) L.length cn) (Value.slice (some ⟨go, 0, none⟩) kk co) w := ⟨hal.hi, hal.sz, hal.nd, hal.op⟩
        exact ⟨hh.2.mono (Nat.le_trans h8.lo h8.sz), fun o ho => kept_heap ho hh.2, hi2, L, _, _, hh.1, rfl, fun W' j1 j2 => (h8.below hh.2 (Nat.le_refl _) (Nat.le_trans h8.sz hh.2.size)).alien hal8.hi hal8.nd hal8.op j1 j2⟩
      · rw [if_neg (fun e => hq (ba_x (by rw [hyn, ht.name]; exact Option.some.inj e)))]
        exact (st_shut_ne gn L.length cn go kk co i t x u _ A cp bb w k hi' (by omega) (by omega) hc1 hc2 hgo hgl0 hq).mono fun e w' hh => hh.err h
  · exact hbeg (.inr k)
  · have e : stepP s bb t = if bb = true then .error 80 else if s.O = [] then (if t.text.all blk = true then .ok s else .error 80) else .ok ⟨bump s.O s.V ++ [nodeT t], s.O⟩ := by
      unfold stepP
      rw [if_pos k]
    rw [e]
    by_cases h0 : s.O = []
    · have hm : s.O.length = 0 := by rw [h0]; rfl
      rw [hm] at h hal ⊢
      rw [if_pos h0]
      have hA := st_text_none An L.length cn Ao 0 co t x u A cp bb w k ht.us (t.text.all blk) (by rw [ht.text]) _ rfl
      refine hA.mono fun e w' hh => ?_
      cases bb with
      | true =>
        rw [if_neg (by simp)] at hh
        rw [if_pos rfl]
        exact hh.err h
      | false =>
        rw [if_neg (by simp)]
        by_cases hq : t.text.all blk = true
        · rw [if_pos ⟨hq, rfl⟩] at hh
          rw [if_pos hq]
          have h8 := hh.good h hal
          rw [hV] at h8
          exact h8
        · rw [if_neg (fun e => hq e.1)] at hh
          rw [if_neg hq]
          exact hh.err h
    · have hp := List.length_pos_iff.2 h0
      cases bb with
      | true =>
        rw [if_pos rfl]
        exact (st_text_two An L.length cn Ao s.O.length co t x u A cp true w k hp rfl).mono fun e w' hh => hh.err h
      | false =>
        rw [if_neg (by simp), if_neg h0, ← hV]
        exact st_text_put base hi2 L s.O An L.length cn Ao s.O.length co t x u A cp w h rfl rfl (by omega) hl2 hO hM g hal k ht.text hp
end Hx
end Go.Proofs.YtbjgfaflikgobaaDoor
namespace Go.Proofs.YtbjgfaflikgobaaDoor
open Go.RowKit
namespace Hx
open Lx Tr Tx Nmb Es
set_option linter.unusedVariables false
/-- The document's own tree under way, held by two values. -/
structure GrP (base : Nat) (s : PS) (Vn Vo : Value) (wr : World) : Prop where
  ex : ∃ (hi : Nat) (L : List NB), L.map NB.n = s.V ∧ GrSt base hi L s.O Vn Vo wr
theorem GrP.far {base : Nat} {s : PS} {Vn Vo : Value} {w w' : World} (h : GrP base s Vn Vo w) (hk : ∀ q, base ≤ q → q < w.heap.size → w'.heap[q]? = w.heap[q]?) (hs : w.heap.size ≤ w'.heap.size) : GrP base s Vn Vo w' := by
  obtain ⟨hi, L, hV, hg⟩ := h.ex
  refine ⟨hi, L, hV, hg.keep (fun q hq hc => hk q hq ?_) (Nat.le_refl _) (Nat.le_trans hg.sz hs)⟩
  rcases hc with hc | hc | hc
  · exact Nat.lt_of_lt_of_le hc hg.sz
  · exact (hg.nd.lt q hc).2
  · exact (hg.op.lt q hc).2
theorem GrP.alien {base : Nat} {s : PS} {Vn Vo : Value} {w W : World} (h : GrP base s Vn Vo w) (hb : Below w.heap.size w W) : GrOf base w.heap.size s Vn Vo W := by
  obtain ⟨hi, L, hV, hg⟩ := h.ex
  exact ⟨hi, L, hV, hg.below hb (Nat.le_refl _) (Nat.le_trans hg.sz hb.size), hg.sz, hb.size, fun q hq => (hg.nd.lt q hq).2, fun q hq => (hg.op.lt q hq).2⟩
theorem GrP.forms {base : Nat} {s : PS} {Vn Vo : Value} {w : World} (h : GrP base s Vn Vo w) : ∃ An cn Ao co, Vn = .slice An s.V.length cn ∧ Vo = .slice Ao s.O.length co ∧ RdB NdS w An s.V ∧ s.V.length ≤ cn ∧ cn ≤ maxLen ∧ (An = none → cn = 0) ∧ base ≤ w.heap.size := by
  obtain ⟨hi, L, hV, hg⟩ := h.ex
  obtain ⟨An, cn, rfl⟩ := own_form2 hg.nd
  obtain ⟨Ao, co, rfl⟩ := own_form2 hg.op
  obtain ⟨r1, r2, r3, r4, r5⟩ := hg.read
  have hl : L.length = s.V.length := by rw [← hV, List.length_map]
  rw [hV] at r1
  exact ⟨An, cn, Ao, co, by rw [hl], rfl, r1, by omega, r4, r5, Nat.le_trans hg.lo hg.sz⟩
/-- Two operations that may come up. -/
theorem stepZ2 {P : Program} {ops : Array Oper} {Q : Exit → Act → World → Prop} {md : Region.Mode} {S : World → Prop} {z i j : Nat} {oi oj : Oper} {ri rj : List Oper} {fuel : Nat} {listed : Array Bool} {a : Act} {w : World} (hr : Region.ready md ops listed = [i, j]) (hdi : ops.toList.drop i = oi :: ri) (hdj : ops.toList.drop j = oj :: rj)
    (h1 : ∀ K' : Act → World → Prop, Shut (∀ a w, (i ≠ z → S w) → ((i ≠ z → S w) → wpAnyZ P md ops Q S z fuel (listed.setIfInBounds i true) a w) → K' a w) → if Region.wanted oi (yielded ops a.tmps) = true then Oper.wp P oi a w K' Q else K' (a.put oi.dst undef) w)
    (h2 : ∀ K' : Act → World → Prop, Shut (∀ a w, (j ≠ z → S w) → ((j ≠ z → S w) → wpAnyZ P md ops Q S z fuel (listed.setIfInBounds j true) a w) → K' a w) → if Region.wanted oj (yielded ops a.tmps) = true then Oper.wp P oj a w K' Q else K' (a.put oj.dst undef) w) :
    wpAnyZ P md ops Q S z (fuel + 1) listed a w := by
  have at_ : ∀ (i : Nat) (oi : Oper) (ri : List Oper), ops.toList.drop i = oi :: ri → ops[i]? = some oi := fun i oi ri hd => by
    have e : (ops.toList.drop i)[0]? = some oi := by rw [hd]; rfl
    rw [List.getElem?_drop, Nat.add_zero] at e
    simpa using e
  have one : ∀ (i : Nat) (oi : Oper), ops[i]? = some oi → (∀ K' : Act → World → Prop, Shut (∀ a w, (i ≠ z → S w) → ((i ≠ z → S w) → wpAnyZ P md ops Q S z fuel (listed.setIfInBounds i true) a w) → K' a w) → if Region.wanted oi (yielded ops a.tmps) = true then Oper.wp P oi a w K' Q else K' (a.put oi.dst undef) w) →
      wpOp P ops Q i (fun a' w' => (i ≠ z → S w') ∧ wpAnyZ P md ops Q S z fuel (listed.setIfInBounds i true) a' w') a w := fun i oi hi h => by
    have := h (fun a' w' => (i ≠ z → S w') ∧ wpAnyZ P md ops Q S z fuel (listed.setIfInBounds i true) a' w') (fun a w hS hk => ⟨hS, hk hS⟩)
    unfold wpOp
    simp only [hi]
    by_cases hw : Region.wanted oi (yielded ops a.tmps) = true
    · rw [if_pos hw] at this ⊢
      exact .inl this
    · rw [if_neg hw] at this ⊢
      exact this
  refine ⟨fun h0 => (by rw [hr] at h0; cases h0), fun k hk => ?_⟩
  rw [hr] at hk
  rcases List.mem_cons.1 hk with rfl | hk
  · exact one k oi (at_ _ _ _ hdi) h1
  · obtain rfl := List.mem_singleton.1 hk
    exact one k oj (at_ _ _ _ hdj) h2
set_option maxHeartbeats 16000000 in
set_option maxRecDepth 100000 in
theorem rparse10 (A : Option Addr) (n c : Nat) (ts : List Tk) (w : World) (hr : RdC TkC w w.heap.size A ts) (hn : ts.length = n) (hmax : n ≤ 9223372036854775807) (hsm : ∀ t ∈ ts, Small t) :
    Calls Tryd.prog 6 #[.slice A n c] w (ParseTo ts w) := by
  by_cases hlong : 512 < n
  · have hT : parseR ts = ([], 4) := by unfold parseR; rw [if_pos (by omega)]
    have f1 : decide ((512 : Int) < (n : Int)) = true := decide_eq_true (by omega)
    have HT := Lib.hid hT
    clear hr hn hmax hsm hT hlong
    go_enter Tryd.func6, Tryd.ntmps6
    go_wp2_with fail
    go_ret2
    exact ParseTo.bad HT.out (Below.refl _ _)
  · have f1 : decide ((512 : Int) < (n : Int)) = false := decide_eq_false (by omega)
    have bn : (n : Int) ≤ 512 := by omega
    have HRD := Lib.hid hr
    have HN := Lib.hid hn
    have HSM := Lib.hid hsm
    have HLE : Hid (n ≤ 512) := Lib.hid (by omega)
    clear hr hn hsm hlong
    go_enter Tryd.func6, Tryd.ntmps6
    go_wp2_with fail
    go_loopg [4] n (fun gg i wr => ∃ j : Nat, j + gg = n ∧ i = .int .i64 j ∧ (ts.take j).all mayT = true ∧ Below w.heap.size w wr)
    case atStart => exact ⟨0, by omega, rfl, rfl, Below.refl _ _⟩
    case round =>
      obtain ⟨j, hjg, rfl, hall, hbw⟩ := hrel
      have HBW := Lib.hid hbw
      by_cases hlt : j < n
      · have hlt2 : (j : Int) < (n : Int) := by omega
        have hjl : j < ts.length := by rw [HN.out]; exact hlt
        have hsj := HSM.out _ (List.getElem_mem hjl)
        obtain ⟨b0, off, x, u, A1, p1, hA, hb0, hc0, hc1, hc2, hc3, hTA⟩ := tk_atB HRD.out hjl hsj
        obtain ⟨t, ht⟩ : ∃ t, ts[j]'hjl = t := ⟨_, rfl⟩
        rw [ht] at hc0 hc2 hTA
        obtain ⟨na, hna⟩ : ∃ na, t.attrs.length = na := ⟨_, rfl⟩
        obtain ⟨kd, hkd⟩ : ∃ kd, t.kind = kd := ⟨_, rfl⟩
        rw [hkd] at hc0
        rw [hna] at hc2
        have hst : ∀ o, wr.cell? ⟨b0, o, none⟩ = w.cell? ⟨b0, o, none⟩ := fun o => cell_blkP (HBW.out.block b0 hb0)
        have q0 := (hst _).trans hc0
        have q1 := (hst _).trans hc1
        have q2 := (hst _).trans hc2
        have q3 := (hst _).trans hc3
        obtain ⟨q, hx⟩ : ∃ q, mayT t = q := ⟨_, rfl⟩
        have HC0 := rmay9 t x u A1 p1 wr (hTA wr (fun q hq => HBW.out.block q hq) HBW.out.size) q hx
        unfold TkV at HC0
        rw [hna, hkd] at HC0
        have HC := Lib.hid HC0
        subst hA
        cases q with
        | false =>
          have HT : Hid (parseR ts = ([], 8)) := Lib.hid (by
            unfold parseR
            rw [if_neg (by have := HLE.out; have := HN.out; omega), if_neg]
            intro h
            have := List.all_eq_true.1 h _ (List.getElem_mem hjl)
            rw [ht, hx] at this
            cases this)
          clear hsj hc0 hc1 hc2 hc3 hTA hna hst hbw hall hb0 HC0 hx ht hkd
          go_wp2_with (first
    | (go_at_call 12; (with_reducible refine (HC.out).mono ?_); rintro e5 w5 ⟨rfl, hb5⟩; have HB5 := Lib.hid (stp HBW.out hb5); clear hb5)
    | fail)

          go_ret2
          exact ParseTo.bad HT.out HB5.out
        | true =>
          have HA2 : Hid ((ts.take (j + 1)).all mayT = true) := Lib.hid (by rw [List.take_succ_eq_append_getElem hjl, List.all_append, hall, ht]; simp [hx])
          clear hsj hc0 hc1 hc2 hc3 hTA hna hst hbw hall hb0 HC0 hx ht hkd
          go_wp2_with (first
    | (go_at_call 12; (with_reducible refine (HC.out).mono ?_); rintro e5 w5 ⟨rfl, hb5⟩; have HB5 := Lib.hid (stp HBW.out hb5); clear hb5)
    | fail)

          go_roundg (gk - 1)
          case measure => omega
          case rel => exact ⟨j + 1, by omega, by go_num, HA2.out, HB5.out⟩
      · obtain rfl : j = n := by omega
        have hjj : ¬ ((j : Int) < (j : Int)) := by omega
        rw [← HN.out, List.take_length] at hall
        have hkd : ∀ t ∈ ts, t.kind = 1 ∨ t.kind = 2 ∨ t.kind = 3 ∨ t.kind = 4 := fun t ht => pk_mayT_kind (List.all_eq_true.1 hall t ht)
        have HKD := Lib.hid hkd
        have HPR : Hid (parseR ts = endP (runP ⟨[], []⟩ false ts)) := Lib.hid (by unfold parseR; rw [if_neg (by have := HLE.out; have := HN.out; omega), if_pos hall])
        obtain ⟨w1, rfl⟩ : ∃ w1 : World, w1 = wr := ⟨_, rfl⟩
        obtain ⟨g5, hg5⟩ : ∃ g5, w1.heap.size = g5 := ⟨_, rfl⟩
        obtain ⟨W2, hW2⟩ : ∃ W2, w1.alloc (.cells #[.slice none 0 0, .slice none 0 0] 45) = W2 := ⟨_, rfl⟩
        have HB2 : Hid (Below w.heap.size w W2) := Lib.hid (by rw [← hW2]; exact stpA hbw _)
        have HX2 : Hid (W2.heap[g5]? = some (.cells #[.slice none 0 0, .slice none 0 0] 45 (0, 0))) := Lib.hid (by rw [← hW2, ← hg5]; exact heap_alloc_new w1 _)
        have hs2 : W2.heap.size = g5 + 1 := by rw [← hW2, World.size_alloc, hg5]
        have HGB : Hid (w.heap.size ≤ g5) := Lib.hid (by have := hbw.size; omega)
        have HG2 : Hid (GrP (g5 + 1) ⟨[], []⟩ (.slice none 0 0) (.slice none 0 0) W2) := Lib.hid ⟨g5 + 1, [], rfl, ⟨World.ownsRow_nil _ _ _ _, World.ownsRow_nil _ _ _ _, (fun q h => by cases h), (fun b hb => by cases hb), Nat.le_refl _, by omega⟩⟩
        clear hall hbw hkd hs2
        go_wp2_with fail
        go_loopg [6] j (fun gg i wr => ∃ (k : Nat) (s : PS) (bb : Bool) (Vn Vo : Value), k + gg = j ∧ i = .int .i64 k ∧ runP ⟨[], []⟩ false ts = runP s bb (ts.drop k) ∧ (if k = 0 then bb = false else (ts[k - 1]?.map fun t => decide (t.kind = 4)) = some bb) ∧ GrP (g5 + 1) s Vn Vo wr ∧ PSb k s ∧ wr.heap[g5]? = some (.cells #[Vn, Vo] 45 (0, 0)) ∧ Below w.heap.size w wr)
        case atStart => exact ⟨0, ⟨[], []⟩, false, .slice none 0 0, .slice none 0 0, by omega, rfl, by rw [List.drop_zero], rfl, HG2.out, PSb.nil, HX2.out, HB2.out⟩
        case round =>
          obtain ⟨k, s, bb, Vn, Vo, hkg, rfl, hrun, hpk, hgo, hps, hxg, hbw⟩ := hrel
          have HBW := Lib.hid hbw
          have HXG := Lib.hid hxg
          have HGZ : Hid (g5 < wr.heap.size) := Lib.hid (lt_heapP hxg)
          have c0 := cellV wr _ 0 _ _ _ hxg
          have c1 := cellV wr _ 1 _ _ _ hxg
          by_cases hlk : k < j
          · have hlk2 : (k : Int) < (j : Int) := by omega
            have hjl : k < ts.length := by rw [HN.out]; exact hlk
            have hsj := HSM.out _ (List.getElem_mem hjl)
            have hkj := HKD.out _ (List.getElem_mem hjl)
            obtain ⟨b0, off, x, u, A1, p1, hA, hb0, hc0, hc1, hc2, hc3, hTA⟩ := tk_atB HRD.out hjl hsj
            obtain ⟨t, ht⟩ : ∃ t, ts[k]'hjl = t := ⟨_, rfl⟩
            rw [ht] at hc0 hc2 hTA hkj
            obtain ⟨na, hna⟩ : ∃ na, t.attrs.length = na := ⟨_, rfl⟩
            obtain ⟨kd, hkd⟩ : ∃ kd, t.kind = kd := ⟨_, rfl⟩
            rw [hkd] at hc0
            rw [hna] at hc2
            have hst : ∀ o, wr.cell? ⟨b0, o, none⟩ = w.cell? ⟨b0, o, none⟩ := fun o => cell_blkP (HBW.out.block b0 hb0)
            have q0 := (hst _).trans hc0
            have q1 := (hst _).trans hc1
            have q2 := (hst _).trans hc2
            have q3 := (hst _).trans hc3
            have HLT : Hid (b0 < g5 + 1) := Lib.hid (by have := HGB.out; omega)
            have hdr := List.drop_eq_getElem_cons hjl
            rw [ht] at hdr
            rw [hdr] at hrun
            have HS0 : ∀ W, Below wr.heap.size wr W → Calls Tryd.prog 13 #[.agg #[Vn, Vo], TkV t x u A1 p1, .bool bb] W (StpTo (g5 + 1) wr.heap.size (stepP s bb t) W) := fun W hW => rstep10 (g5 + 1) wr.heap.size s Vn Vo k t x u A1 p1 bb W (hgo.alien hW) hps (by have := HLE.out; omega) (hTA W (fun q hq => (HBW.out.trans (hW.mono HBW.out.size)).block q hq) (Nat.le_trans HBW.out.size hW.size)) hkj
            unfold TkV at HS0
            rw [hna, hkd] at HS0
            have HBD : Hid (Below wr.heap.size wr wr.drew) := Lib.hid (Below.refl _ _).drew
            have HBA : Hid (Below wr.heap.size wr ((wr.alloc (.cells #[.slice none 0 0, .slice none 0 0] 45)).drew)) := Lib.hid (stpA (Below.refl _ _) _).drew
            have hsome : ∀ k2, k2 < k → ∃ kp, (ts[k2]?.map fun t => t.kind) = some kp ∧ wr.cell? ⟨b0, off + k2 * 4, none⟩ = some (.int .u8 (kp : Int)) := fun k2 h2 => by
              have hj2 : k2 < ts.length := by omega
              obtain ⟨b9, of9, _, _, _, _, hA9, _, hd0, _⟩ := tk_atB HRD.out hj2 (HSM.out _ (List.getElem_mem hj2))
              rw [hA] at hA9
              injection hA9 with hA9
              injection hA9 with e1 e2 _
              subst e1 e2
              exact ⟨_, by rw [List.getElem?_eq_getElem hj2]; rfl, (hst _).trans hd0⟩
            subst hA
            cases hx : stepP s bb t with
            | error q =>
              rw [hx] at HS0
              have hq0 : q ≠ 0 := by rcases stepP_err hx with h | h <;> omega
              have HT : Hid (parseR ts = ([], q)) := Lib.hid (by rw [HPR.out, hrun, runP, hx]; rfl)
              obtain ⟨r, hrq⟩ : ∃ r, q = r := ⟨_, rfl⟩
              subst hrq
              have HQ0 := Lib.hid hq0
              have HST : Hid (∀ W, Below wr.heap.size wr W → Calls Tryd.prog 13 #[.agg #[Vn, Vo], .agg #[.int .u8 (kd : Int), .string x, .slice A1 na p1, .string u], .bool bb] W fun e w' => ∃ V5 O5, e = .returned (.tuple #[.agg #[V5, O5], .int .i64 q]) ∧ Below (g5 + 1) W w' ∧ (∀ o, W.heap[wr.heap.size]? = some o → w'.heap[wr.heap.size]? = some o) ∧ ((∃ A1 n1 c1 A2 n2 c2, V5 = Value.slice A1 n1 c1 ∧ O5 = Value.slice A2 n2 c2) ∧ True)) := Lib.hid fun W hW => (HS0 W hW).mono fun e w' h => by
                obtain ⟨h1, h9, V5, O5, h2, h3⟩ := h
                exact ⟨V5, O5, h2, h1, h9, h3, trivial⟩
              clear hq0
              rcases Nat.eq_zero_or_pos k with hk0 | hk0
              · subst hk0
                rw [if_pos rfl] at hpk
                subst hpk
                simp only [Nat.zero_mul, Nat.add_zero] at q0 q1 q2 q3
                clear hsj hkj hc0 hc1 hc2 hc3 hTA hst hdr hrun hgo hps hxg hbw hb0 HS0 hx hsome hna hkd ht
                go_wp2_with fail
                refine wp_region_noPanic ?_
                refine wp_region_Z (fun W => W.cell? ⟨g5, 0, none⟩ = some Vn ∧ W.cell? ⟨g5, 1, none⟩ = some Vo ∧ W.cell? ⟨b0, off, none⟩ = some (.int .u8 (kd : Int)) ∧ W.cell? ⟨b0, off + 1, none⟩ = some (.string x) ∧ W.cell? ⟨b0, off + 2, none⟩ = some (.slice A1 na p1) ∧ W.cell? ⟨b0, off + 3, none⟩ = some (.string u)) 22 (by kernel_rfl) ?_
                have hS : wr.drew.cell? ⟨g5, 0, none⟩ = some Vn ∧ wr.drew.cell? ⟨g5, 1, none⟩ = some Vo ∧ wr.drew.cell? ⟨b0, off, none⟩ = some (.int .u8 (kd : Int)) ∧ wr.drew.cell? ⟨b0, off + 1, none⟩ = some (.string x) ∧ wr.drew.cell? ⟨b0, off + 2, none⟩ = some (.slice A1 na p1) ∧ wr.drew.cell? ⟨b0, off + 3, none⟩ = some (.string u) := ⟨c0, c1, q0, q1, q2, q3⟩
                refine takeZ (i := 0) (v := .agg #[Vn, Vo]) rfl (by kernel_rfl) (by kernel_rfl) (by kernel_rfl) (by kernel_rfl) (fun _ _ _ h => h) (Or.inl ⟨by rfl, ?_⟩) hS ?_
                · intro w' hSw; (try dsimp only at hSw); go_simp
                try simp only [Act.put, List.setIfInBounds_toArray, List.set_cons_zero, List.set_cons_succ]
                refine takeZ (i := 1) (v := .slice (some ⟨b0, off, none⟩) j c) rfl (by kernel_rfl) (by kernel_rfl) (by kernel_rfl) (by kernel_rfl) (fun _ _ _ h => h) (Or.inl ⟨by rfl, ?_⟩) hS ?_
                · intro w' hSw; (try dsimp only at hSw); go_simp
                try simp only [Act.put, List.setIfInBounds_toArray, List.set_cons_zero, List.set_cons_succ]
                refine takeZ (i := 2) (v := .int .i64 0) rfl (by kernel_rfl) (by kernel_rfl) (by kernel_rfl) (by kernel_rfl) (fun _ _ _ h => h) (Or.inl ⟨by rfl, ?_⟩) hS ?_
                · intro w' hSw; (try dsimp only at hSw); go_simp
                try simp only [Act.put, List.setIfInBounds_toArray, List.set_cons_zero, List.set_cons_succ]
                refine takeZ (i := 3) (v := .pointer (some ⟨b0, off, none⟩)) rfl (by kernel_rfl) (by kernel_rfl) (by kernel_rfl) (by kernel_rfl) (fun _ _ _ h => h) (Or.inl ⟨by rfl, ?_⟩) hS ?_
                · intro w' hSw; (try dsimp only at hSw); go_simp
                try simp only [Act.put, List.setIfInBounds_toArray, List.set_cons_zero, List.set_cons_succ]
                refine takeZ (i := 4) (v := .agg #[.int .u8 (kd : Int), .string x, .slice A1 na p1, .string u]) rfl (by kernel_rfl) (by kernel_rfl) (by kernel_rfl) (by kernel_rfl) (fun _ _ _ h => h) (Or.inl ⟨by rfl, ?_⟩) hS ?_
                · intro w' hSw; (try dsimp only at hSw); go_simp
                try simp only [Act.put, List.setIfInBounds_toArray, List.set_cons_zero, List.set_cons_succ]
                refine takeZ (i := 5) (v := .int .i64 0) rfl (by kernel_rfl) (by kernel_rfl) (by kernel_rfl) (by kernel_rfl) (fun _ _ _ h => h) (Or.inl ⟨by rfl, ?_⟩) hS ?_
                · intro w' hSw; (try dsimp only at hSw); go_simp
                try simp only [Act.put, List.setIfInBounds_toArray, List.set_cons_zero, List.set_cons_succ]
                refine takeZ (i := 6) (v := .bool false) rfl (by kernel_rfl) (by kernel_rfl) (by kernel_rfl) (by kernel_rfl) (fun _ _ _ h => h) (Or.inl ⟨by rfl, ?_⟩) hS ?_
                · intro w' hSw; (try dsimp only at hSw); go_simp
                try simp only [Act.put, List.setIfInBounds_toArray, List.set_cons_zero, List.set_cons_succ]
                refine takeZ (i := 7) (v := .bool false) rfl (by kernel_rfl) (by kernel_rfl) (by kernel_rfl) (by kernel_rfl) (fun _ _ _ h => h) (Or.inl ⟨by rfl, ?_⟩) hS ?_
                · intro w' hSw; (try dsimp only at hSw); go_simp
                try simp only [Act.put, List.setIfInBounds_toArray, List.set_cons_zero, List.set_cons_succ]
                refine takeZ (i := 8) (v := undef) rfl (by kernel_rfl) (by kernel_rfl) (by kernel_rfl) (by kernel_rfl) (fun _ _ _ h => h) (Or.inr ⟨by rfl, rfl⟩) hS ?_
                try simp only [Act.put, List.setIfInBounds_toArray, List.set_cons_zero, List.set_cons_succ]
                refine takeZ (i := 9) (v := undef) rfl (by kernel_rfl) (by kernel_rfl) (by kernel_rfl) (by kernel_rfl) (fun _ _ _ h => h) (Or.inr ⟨by rfl, rfl⟩) hS ?_
                try simp only [Act.put, List.setIfInBounds_toArray, List.set_cons_zero, List.set_cons_succ]
                refine takeZ (i := 10) (v := undef) rfl (by kernel_rfl) (by kernel_rfl) (by kernel_rfl) (by kernel_rfl) (fun _ _ _ h => h) (Or.inr ⟨by rfl, rfl⟩) hS ?_
                try simp only [Act.put, List.setIfInBounds_toArray, List.set_cons_zero, List.set_cons_succ]
                refine takeZ (i := 11) (v := undef) rfl (by kernel_rfl) (by kernel_rfl) (by kernel_rfl) (by kernel_rfl) (fun _ _ _ h => h) (Or.inr ⟨by rfl, rfl⟩) hS ?_
                try simp only [Act.put, List.setIfInBounds_toArray, List.set_cons_zero, List.set_cons_succ]
                refine takeZ (i := 12) (v := undef) rfl (by kernel_rfl) (by kernel_rfl) (by kernel_rfl) (by kernel_rfl) (fun _ _ _ h => h) (Or.inr ⟨by rfl, rfl⟩) hS ?_
                try simp only [Act.put, List.setIfInBounds_toArray, List.set_cons_zero, List.set_cons_succ]
                refine takeZ (i := 13) (v := undef) rfl (by kernel_rfl) (by kernel_rfl) (by kernel_rfl) (by kernel_rfl) (fun _ _ _ h => h) (Or.inr ⟨by rfl, rfl⟩) hS ?_
                try simp only [Act.put, List.setIfInBounds_toArray, List.set_cons_zero, List.set_cons_succ]
                refine takeZ (i := 14) (v := undef) rfl (by kernel_rfl) (by kernel_rfl) (by kernel_rfl) (by kernel_rfl) (fun _ _ _ h => h) (Or.inr ⟨by rfl, rfl⟩) hS ?_
                try simp only [Act.put, List.setIfInBounds_toArray, List.set_cons_zero, List.set_cons_succ]
                refine takeZ (i := 15) (v := .bool false) rfl (by kernel_rfl) (by kernel_rfl) (by kernel_rfl) (by kernel_rfl) (fun _ _ _ h => h) (Or.inl ⟨by rfl, ?_⟩) hS ?_
                · intro w' hSw; (try dsimp only at hSw); go_simp
                try simp only [Act.put, List.setIfInBounds_toArray, List.set_cons_zero, List.set_cons_succ]
                refine stepZ2 (i := 16) (j := 20) (by kernel_rfl) rfl rfl (fun K hK => ?_) (fun K hK => ?_)
                · go_simp
                  go_at_call 13; (with_reducible refine (HST.out _ HBD.out).mono ?_); rintro e5 w5 ⟨V5, O5, rfl, hb5, hgn, hgo⟩; have HB5 : Hid (Below (g5 + 1) wr.drew w5) := Lib.hid hb5; have HGO := Lib.hid hgo; clear hb5 hgo hgn
                  have hz5 : wr.heap.size ≤ w5.heap.size := HB5.out.size
                  have hS5 : w5.cell? ⟨g5, 0, none⟩ = some Vn ∧ w5.cell? ⟨g5, 1, none⟩ = some Vo ∧ w5.cell? ⟨b0, off, none⟩ = some (.int .u8 (kd : Int)) ∧ w5.cell? ⟨b0, off + 1, none⟩ = some (.string x) ∧ w5.cell? ⟨b0, off + 2, none⟩ = some (.slice A1 na p1) ∧ w5.cell? ⟨b0, off + 3, none⟩ = some (.string u) := ⟨(HB5.out.cell (p := ⟨g5, 0, none⟩) (Nat.lt_succ_self _)).trans hS.1, (HB5.out.cell (p := ⟨g5, 1, none⟩) (Nat.lt_succ_self _)).trans hS.2.1, (HB5.out.cell (p := ⟨b0, _, none⟩) HLT.out).trans hS.2.2.1, (HB5.out.cell (p := ⟨b0, _, none⟩) HLT.out).trans hS.2.2.2.1, (HB5.out.cell (p := ⟨b0, _, none⟩) HLT.out).trans hS.2.2.2.2.1, (HB5.out.cell (p := ⟨b0, _, none⟩) HLT.out).trans hS.2.2.2.2.2⟩
                  have HXG5 : Hid (w5.heap[g5]? = some (.cells #[Vn, Vo] 45 (0, 0))) := Lib.hid ((HB5.out.block g5 (Nat.lt_succ_self _)).trans HXG.out)
                  have HB05 : Hid (Below w.heap.size w w5) := Lib.hid ((HBW.out.trans (Below.refl _ _).drew).trans (HB5.out.mono (by have := HGB.out; omega)))
                  go_wp2_with fail
                  refine hK.out _ _ (fun _ => hS5) (fun _ => ?_)
                  clear hK K hS
                  try simp only [Act.put, List.setIfInBounds_toArray, List.set_cons_zero, List.set_cons_succ]
                  refine takeZ (i := 17) (v := .tuple #[.agg #[V5, O5], .int .i64 q]) rfl (by kernel_rfl) (by kernel_rfl) (by kernel_rfl) (by kernel_rfl) (fun _ _ _ h => h) (Or.inl ⟨by rfl, ?_⟩) hS5 ?_
                  · intro w' hSw; (try dsimp only at hSw); go_simp
                  try simp only [Act.put, List.setIfInBounds_toArray, List.set_cons_zero, List.set_cons_succ]
                  refine takeZ (i := 18) (v := .agg #[V5, O5]) rfl (by kernel_rfl) (by kernel_rfl) (by kernel_rfl) (by kernel_rfl) (fun _ _ _ h => h) (Or.inl ⟨by rfl, ?_⟩) hS5 ?_
                  · intro w' hSw; (try dsimp only at hSw); go_simp
                  try simp only [Act.put, List.setIfInBounds_toArray, List.set_cons_zero, List.set_cons_succ]
                  refine takeZ (i := 19) (v := .int .i64 q) rfl (by kernel_rfl) (by kernel_rfl) (by kernel_rfl) (by kernel_rfl) (fun _ _ _ h => h) (Or.inl ⟨by rfl, ?_⟩) hS5 ?_
                  · intro w' hSw; (try dsimp only at hSw); go_simp
                  try simp only [Act.put, List.setIfInBounds_toArray, List.set_cons_zero, List.set_cons_succ]
                  refine stepZ (i := 20) (by kernel_rfl) rfl (fun K hK => ?_)
                  go_simp
                  have HA6 : Hid (Below w5.heap.size w5 (w5.alloc (.cells #[.slice none 0 0, .slice none 0 0] 45))) := Lib.hid (stpA (Below.refl _ _) _)
                  have hS6 : (w5.alloc (.cells #[.slice none 0 0, .slice none 0 0] 45)).cell? ⟨g5, 0, none⟩ = some Vn ∧ (w5.alloc (.cells #[.slice none 0 0, .slice none 0 0] 45)).cell? ⟨g5, 1, none⟩ = some Vo ∧ (w5.alloc (.cells #[.slice none 0 0, .slice none 0 0] 45)).cell? ⟨b0, off, none⟩ = some (.int .u8 (kd : Int)) ∧ (w5.alloc (.cells #[.slice none 0 0, .slice none 0 0] 45)).cell? ⟨b0, off + 1, none⟩ = some (.string x) ∧ (w5.alloc (.cells #[.slice none 0 0, .slice none 0 0] 45)).cell? ⟨b0, off + 2, none⟩ = some (.slice A1 na p1) ∧ (w5.alloc (.cells #[.slice none 0 0, .slice none 0 0] 45)).cell? ⟨b0, off + 3, none⟩ = some (.string u) := ⟨(HA6.out.cell (p := ⟨g5, 0, none⟩) (by have := HGZ.out; exact (by omega : g5 < w5.heap.size))).trans hS5.1, (HA6.out.cell (p := ⟨g5, 1, none⟩) (by have := HGZ.out; exact (by omega : g5 < w5.heap.size))).trans hS5.2.1, (HA6.out.cell (p := ⟨b0, _, none⟩) (by have := HLT.out; have := HGZ.out; exact (by omega : b0 < w5.heap.size))).trans hS5.2.2.1, (HA6.out.cell (p := ⟨b0, _, none⟩) (by have := HLT.out; have := HGZ.out; exact (by omega : b0 < w5.heap.size))).trans hS5.2.2.2.1, (HA6.out.cell (p := ⟨b0, _, none⟩) (by have := HLT.out; have := HGZ.out; exact (by omega : b0 < w5.heap.size))).trans hS5.2.2.2.2.1, (HA6.out.cell (p := ⟨b0, _, none⟩) (by have := HLT.out; have := HGZ.out; exact (by omega : b0 < w5.heap.size))).trans hS5.2.2.2.2.2⟩
                  refine hK.out _ _ (fun _ => hS6) (fun _ => ?_)
                  clear hK K
                  try simp only [Act.put, List.setIfInBounds_toArray, List.set_cons_zero, List.set_cons_succ]
                  refine stepZ (i := 21) (by kernel_rfl) rfl (fun K hK => ?_)
                  rw [if_pos (by rfl)]
                  refine wp_store_row 45 (.tmp 7) (.tmp 48) rfl w5.heap.size #[V5, O5] rfl rfl 45 #[.slice none 0 0, .slice none 0 0] (heap_alloc_new w5 _) infoGr rfl (by obtain ⟨_, _, _, _, _, _, rfl, rfl⟩ := HGO.out.1; simp [Value.oneCell']) ?_
                  obtain ⟨W7, hW7⟩ : ∃ W7, (w5.alloc (.cells #[.slice none 0 0, .slice none 0 0] 45)).setRow w5.heap.size #[V5, O5] = W7 := ⟨_, rfl⟩
                  rw [hW7]
                  have HX7 : Hid (W7.heap[w5.heap.size]? = some (.cells #[V5, O5] 45 (0, 0))) := Lib.hid (by rw [← hW7]; exact setRow_heap _ _ _ _ _ _ (heap_alloc_new w5 _))
                  have HO7 : Hid (∀ q, q < w5.heap.size → W7.heap[q]? = w5.heap[q]?) := Lib.hid fun q h2 => by rw [← hW7]; exact (setRow_other _ _ _ _ (by omega)).trans (HA6.out.block q h2)
                  have HS7 : Hid (w5.heap.size ≤ W7.heap.size) := Lib.hid (by rw [← hW7]; simp [World.setRow])
                  have HB7 : Hid (Below wr.heap.size w5 W7) := Lib.hid (by rw [← hW7]; exact below_setRowV (HA6.out.mono hz5) hz5 _)
                  have hS7 : W7.cell? ⟨g5, 0, none⟩ = some Vn ∧ W7.cell? ⟨g5, 1, none⟩ = some Vo ∧ W7.cell? ⟨b0, off, none⟩ = some (.int .u8 (kd : Int)) ∧ W7.cell? ⟨b0, off + 1, none⟩ = some (.string x) ∧ W7.cell? ⟨b0, off + 2, none⟩ = some (.slice A1 na p1) ∧ W7.cell? ⟨b0, off + 3, none⟩ = some (.string u) := ⟨(HB7.out.cell (p := ⟨g5, 0, none⟩) HGZ.out).trans hS5.1, (HB7.out.cell (p := ⟨g5, 1, none⟩) HGZ.out).trans hS5.2.1, (HB7.out.cell (p := ⟨b0, _, none⟩) (Nat.lt_of_lt_of_le HLT.out (Nat.succ_le_of_lt HGZ.out))).trans hS5.2.2.1, (HB7.out.cell (p := ⟨b0, _, none⟩) (Nat.lt_of_lt_of_le HLT.out (Nat.succ_le_of_lt HGZ.out))).trans hS5.2.2.2.1, (HB7.out.cell (p := ⟨b0, _, none⟩) (Nat.lt_of_lt_of_le HLT.out (Nat.succ_le_of_lt HGZ.out))).trans hS5.2.2.2.2.1, (HB7.out.cell (p := ⟨b0, _, none⟩) (Nat.lt_of_lt_of_le HLT.out (Nat.succ_le_of_lt HGZ.out))).trans hS5.2.2.2.2.2⟩
                  have HXG7 : Hid (W7.heap[g5]? = some (.cells #[Vn, Vo] 45 (0, 0))) := Lib.hid ((HB7.out.block g5 HGZ.out).trans HXG5.out)
                  have HBB : Hid (Below w.heap.size w W7) := Lib.hid (HB05.out.trans (HB7.out.mono HBW.out.size))
                  refine hK.out _ _ (fun _ => hS7) (fun _ => ?_)
                  clear hK K hS5 hS6 hW7
                  try simp only [Act.put]
                  refine stepZ (i := 22) (by kernel_rfl) rfl (fun K hK => ?_)
                  go_simp
                  refine hK.out _ _ (fun h => absurd rfl h) (fun _ => ?_)
                  clear hK K hS7 c0 c1 hz5
                  try simp only [Act.put, List.setIfInBounds_toArray, List.set_cons_zero, List.set_cons_succ]
                  refine doneZ (by kernel_rfl) ?_ _
                  refine NoPanic.normal ?_
                  have fr : (q == 0) = false := by simp; exact HQ0.out
                  have fr2 : ¬ q = 0 := HQ0.out
                  go_wp2_with fail
                  go_ret2
                  exact ParseTo.bad HT.out HBB.out
                · go_simp
                  have HA6 : Hid (Below wr.heap.size wr.drew (wr.alloc (.cells #[.slice none 0 0, .slice none 0 0] 45)).drew) := Lib.hid (stpA (Below.refl wr.drew.heap.size wr.drew) _)
                  have hS6 : (wr.alloc (.cells #[.slice none 0 0, .slice none 0 0] 45)).drew.cell? ⟨g5, 0, none⟩ = some Vn ∧ (wr.alloc (.cells #[.slice none 0 0, .slice none 0 0] 45)).drew.cell? ⟨g5, 1, none⟩ = some Vo ∧ (wr.alloc (.cells #[.slice none 0 0, .slice none 0 0] 45)).drew.cell? ⟨b0, off, none⟩ = some (.int .u8 (kd : Int)) ∧ (wr.alloc (.cells #[.slice none 0 0, .slice none 0 0] 45)).drew.cell? ⟨b0, off + 1, none⟩ = some (.string x) ∧ (wr.alloc (.cells #[.slice none 0 0, .slice none 0 0] 45)).drew.cell? ⟨b0, off + 2, none⟩ = some (.slice A1 na p1) ∧ (wr.alloc (.cells #[.slice none 0 0, .slice none 0 0] 45)).drew.cell? ⟨b0, off + 3, none⟩ = some (.string u) := ⟨(HA6.out.cell (p := ⟨g5, 0, none⟩) (by have := HGZ.out; exact (by omega : g5 < wr.heap.size))).trans hS.1, (HA6.out.cell (p := ⟨g5, 1, none⟩) (by have := HGZ.out; exact (by omega : g5 < wr.heap.size))).trans hS.2.1, (HA6.out.cell (p := ⟨b0, _, none⟩) (by have := HLT.out; have := HGZ.out; exact (by omega : b0 < wr.heap.size))).trans hS.2.2.1, (HA6.out.cell (p := ⟨b0, _, none⟩) (by have := HLT.out; have := HGZ.out; exact (by omega : b0 < wr.heap.size))).trans hS.2.2.2.1, (HA6.out.cell (p := ⟨b0, _, none⟩) (by have := HLT.out; have := HGZ.out; exact (by omega : b0 < wr.heap.size))).trans hS.2.2.2.2.1, (HA6.out.cell (p := ⟨b0, _, none⟩) (by have := HLT.out; have := HGZ.out; exact (by omega : b0 < wr.heap.size))).trans hS.2.2.2.2.2⟩
                  refine hK.out _ _ (fun _ => hS6) (fun _ => ?_)
                  clear hK K hS
                  try simp only [Act.put, List.setIfInBounds_toArray, List.set_cons_zero, List.set_cons_succ]
                  refine stepZ (i := 16) (by kernel_rfl) rfl (fun K hK => ?_)
                  go_simp
                  go_at_call 13; (with_reducible refine (HST.out _ HBA.out).mono ?_); rintro e5 w5 ⟨V5, O5, rfl, hb5, hgn, hgo⟩; have HB5 : Hid (Below (g5 + 1) (wr.alloc (.cells #[.slice none 0 0, .slice none 0 0] 45)).drew w5) := Lib.hid hb5; have HGO := Lib.hid hgo; have HN5 : Hid (w5.heap[wr.heap.size]? = some (.cells #[.slice none 0 0, .slice none 0 0] 45 (0, 0))) := Lib.hid (hgn _ (heap_alloc_new wr _)); clear hb5 hgo hgn
                  have hz5 : wr.heap.size ≤ w5.heap.size := Nat.le_trans HA6.out.size HB5.out.size
                  have hS5 : w5.cell? ⟨g5, 0, none⟩ = some Vn ∧ w5.cell? ⟨g5, 1, none⟩ = some Vo ∧ w5.cell? ⟨b0, off, none⟩ = some (.int .u8 (kd : Int)) ∧ w5.cell? ⟨b0, off + 1, none⟩ = some (.string x) ∧ w5.cell? ⟨b0, off + 2, none⟩ = some (.slice A1 na p1) ∧ w5.cell? ⟨b0, off + 3, none⟩ = some (.string u) := ⟨(HB5.out.cell (p := ⟨g5, 0, none⟩) (Nat.lt_succ_self _)).trans hS6.1, (HB5.out.cell (p := ⟨g5, 1, none⟩) (Nat.lt_succ_self _)).trans hS6.2.1, (HB5.out.cell (p := ⟨b0, _, none⟩) HLT.out).trans hS6.2.2.1, (HB5.out.cell (p := ⟨b0, _, none⟩) HLT.out).trans hS6.2.2.2.1, (HB5.out.cell (p := ⟨b0, _, none⟩) HLT.out).trans hS6.2.2.2.2.1, (HB5.out.cell (p := ⟨b0, _, none⟩) HLT.out).trans hS6.2.2.2.2.2⟩
                  have HXG5 : Hid (w5.heap[g5]? = some (.cells #[Vn, Vo] 45 (0, 0))) := Lib.hid ((HB5.out.block g5 (Nat.lt_succ_self _)).trans ((HA6.out.block g5 HGZ.out).trans HXG.out))
                  have HB05 : Hid (Below w.heap.size w w5) := Lib.hid ((HBW.out.trans (HBA.out.mono HBW.out.size)).trans (HB5.out.mono (by have := HGB.out; omega)))
                  go_wp2_with fail
                  refine hK.out _ _ (fun _ => hS5) (fun _ => ?_)
                  clear hK K hS6
                  try simp only [Act.put, List.setIfInBounds_toArray, List.set_cons_zero, List.set_cons_succ]
                  refine takeZ (i := 17) (v := .tuple #[.agg #[V5, O5], .int .i64 q]) rfl (by kernel_rfl) (by kernel_rfl) (by kernel_rfl) (by kernel_rfl) (fun _ _ _ h => h) (Or.inl ⟨by rfl, ?_⟩) hS5 ?_
                  · intro w' hSw; (try dsimp only at hSw); go_simp
                  try simp only [Act.put, List.setIfInBounds_toArray, List.set_cons_zero, List.set_cons_succ]
                  refine takeZ (i := 18) (v := .agg #[V5, O5]) rfl (by kernel_rfl) (by kernel_rfl) (by kernel_rfl) (by kernel_rfl) (fun _ _ _ h => h) (Or.inl ⟨by rfl, ?_⟩) hS5 ?_
                  · intro w' hSw; (try dsimp only at hSw); go_simp
                  try simp only [Act.put, List.setIfInBounds_toArray, List.set_cons_zero, List.set_cons_succ]
                  refine takeZ (i := 19) (v := .int .i64 q) rfl (by kernel_rfl) (by kernel_rfl) (by kernel_rfl) (by kernel_rfl) (fun _ _ _ h => h) (Or.inl ⟨by rfl, ?_⟩) hS5 ?_
                  · intro w' hSw; (try dsimp only at hSw); go_simp
                  try simp only [Act.put, List.setIfInBounds_toArray, List.set_cons_zero, List.set_cons_succ]
                  refine stepZ (i := 21) (by kernel_rfl) rfl (fun K hK => ?_)
                  rw [if_pos (by rfl)]
                  refine wp_store_row 45 (.tmp 7) (.tmp 48) rfl wr.heap.size #[V5, O5] rfl rfl 45 #[.slice none 0 0, .slice none 0 0] HN5.out infoGr rfl (by obtain ⟨_, _, _, _, _, _, rfl, rfl⟩ := HGO.out.1; simp [Value.oneCell']) ?_
                  obtain ⟨W7, hW7⟩ : ∃ W7, w5.setRow wr.heap.size #[V5, O5] = W7 := ⟨_, rfl⟩
                  rw [hW7]
                  have HX7 : Hid (W7.heap[wr.heap.size]? = some (.cells #[V5, O5] 45 (0, 0))) := Lib.hid (by rw [← hW7]; exact setRow_heap _ _ _ _ _ _ HN5.out)
                  have HO7 : Hid (∀ q, q ≠ wr.heap.size → W7.heap[q]? = w5.heap[q]?) := Lib.hid fun q h2 => by rw [← hW7]; exact setRow_other _ _ _ _ h2
                  have HS7 : Hid (w5.heap.size ≤ W7.heap.size) := Lib.hid (by rw [← hW7]; simp [World.setRow])
                  have HB7 : Hid (Below wr.heap.size w5 W7) := Lib.hid (by rw [← hW7]; exact below_setRowV (Below.refl _ _) (Nat.le_refl _) _)
                  have hS7 : W7.cell? ⟨g5, 0, none⟩ = some Vn ∧ W7.cell? ⟨g5, 1, none⟩ = some Vo ∧ W7.cell? ⟨b0, off, none⟩ = some (.int .u8 (kd : Int)) ∧ W7.cell? ⟨b0, off + 1, none⟩ = some (.string x) ∧ W7.cell? ⟨b0, off + 2, none⟩ = some (.slice A1 na p1) ∧ W7.cell? ⟨b0, off + 3, none⟩ = some (.string u) := ⟨(HB7.out.cell (p := ⟨g5, 0, none⟩) HGZ.out).trans hS5.1, (HB7.out.cell (p := ⟨g5, 1, none⟩) HGZ.out).trans hS5.2.1, (HB7.out.cell (p := ⟨b0, _, none⟩) (Nat.lt_of_lt_of_le HLT.out (Nat.succ_le_of_lt HGZ.out))).trans hS5.2.2.1, (HB7.out.cell (p := ⟨b0, _, none⟩) (Nat.lt_of_lt_of_le HLT.out (Nat.succ_le_of_lt HGZ.out))).trans hS5.2.2.2.1, (HB7.out.cell (p := ⟨b0, _, none⟩) (Nat.lt_of_lt_of_le HLT.out (Nat.succ_le_of_lt HGZ.out))).trans hS5.2.2.2.2.1, (HB7.out.cell (p := ⟨b0, _, none⟩) (Nat.lt_of_lt_of_le HLT.out (Nat.succ_le_of_lt HGZ.out))).trans hS5.2.2.2.2.2⟩
                  have HXG7 : Hid (W7.heap[g5]? = some (.cells #[Vn, Vo] 45 (0, 0))) := Lib.hid ((HB7.out.block g5 HGZ.out).trans HXG5.out)
                  have HBB : Hid (Below w.heap.size w W7) := Lib.hid (HB05.out.trans (HB7.out.mono HBW.out.size))
                  refine hK.out _ _ (fun _ => hS7) (fun _ => ?_)
                  clear hK K hS5 hW7
                  try simp only [Act.put]
                  refine stepZ (i := 22) (by kernel_rfl) rfl (fun K hK => ?_)
                  go_simp
                  refine hK.out _ _ (fun h => absurd rfl h) (fun _ => ?_)
                  clear hK K hS7 c0 c1 hz5
                  try simp only [Act.put, List.setIfInBounds_toArray, List.set_cons_zero, List.set_cons_succ]
                  refine doneZ (by kernel_rfl) ?_ _
                  refine NoPanic.normal ?_
                  have fr : (q == 0) = false := by simp; exact HQ0.out
                  have fr2 : ¬ q = 0 := HQ0.out
                  go_wp2_with fail
                  go_ret2
                  exact ParseTo.bad HT.out HBB.out
              · obtain ⟨jp, rfl⟩ : ∃ jp, k = jp + 1 := ⟨k - 1, by omega⟩
                rw [if_neg (by omega), Nat.add_sub_cancel] at hpk
                obtain ⟨kp, hkp, qp⟩ := hsome jp (by omega)
                have hbp : bb = decide (kp = 4) := by
                  rw [← Option.some.injEq, ← hpk]
                  cases hts : ts[jp]? with
                  | none => rw [hts] at hkp; cases hkp
                  | some t2 => rw [hts] at hkp; injection hkp with hkp; rw [← hkp]; rfl
                have hbq : ((kp : Int) == 4) = bb := by rw [hbp]; by_cases h : kp = 4 <;> simp [h]; omega
                have bj : (0 : Int) ≤ (jp : Int) ∧ (jp : Int) + 1 < (j : Int) ∧ (j : Int) ≤ 512 := by omega
                have wj : IntKind.i64.wrap ((jp : Int) + 1 - 1) = (jp : Int) := by rw [IntWalk.i64_in _ (by omega)]; omega
                clear hsj hkj hc0 hc1 hc2 hc3 hTA hst hdr hrun hgo hps hxg hbw hb0 HS0 hx hsome hna hkd ht hbp hkp hpk
                go_wp2_with fail
                refine wp_region_noPanic ?_
                refine wp_region_Z (fun W => W.cell? ⟨g5, 0, none⟩ = some Vn ∧ W.cell? ⟨g5, 1, none⟩ = some Vo ∧ W.cell? ⟨b0, off + (jp + 1) * 4, none⟩ = some (.int .u8 (kd : Int)) ∧ W.cell? ⟨b0, off + (jp + 1) * 4 + 1, none⟩ = some (.string x) ∧ W.cell? ⟨b0, off + (jp + 1) * 4 + 2, none⟩ = some (.slice A1 na p1) ∧ W.cell? ⟨b0, off + (jp + 1) * 4 + 3, none⟩ = some (.string u) ∧ W.cell? ⟨b0, off + jp * 4, none⟩ = some (.int .u8 (kp : Int))) 22 (by kernel_rfl) ?_
                have hS : wr.drew.cell? ⟨g5, 0, none⟩ = some Vn ∧ wr.drew.cell? ⟨g5, 1, none⟩ = some Vo ∧ wr.drew.cell? ⟨b0, off + (jp + 1) * 4, none⟩ = some (.int .u8 (kd : Int)) ∧ wr.drew.cell? ⟨b0, off + (jp + 1) * 4 + 1, none⟩ = some (.string x) ∧ wr.drew.cell? ⟨b0, off + (jp + 1) * 4 + 2, none⟩ = some (.slice A1 na p1) ∧ wr.drew.cell? ⟨b0, off + (jp + 1) * 4 + 3, none⟩ = some (.string u) ∧ wr.drew.cell? ⟨b0, off + jp * 4, none⟩ = some (.int .u8 (kp : Int)) := ⟨c0, c1, q0, q1, q2, q3, qp⟩
                refine takeZ (i := 0) (v := .agg #[Vn, Vo]) rfl (by kernel_rfl) (by kernel_rfl) (by kernel_rfl) (by kernel_rfl) (fun _ _ _ h => h) (Or.inl ⟨by rfl, ?_⟩) hS ?_
                · intro w' hSw; (try dsimp only at hSw); go_simp
                try simp only [Act.put, List.setIfInBounds_toArray, List.set_cons_zero, List.set_cons_succ]
                refine takeZ (i := 1) (v := .slice (some ⟨b0, off, none⟩) j c) rfl (by kernel_rfl) (by kernel_rfl) (by kernel_rfl) (by kernel_rfl) (fun _ _ _ h => h) (Or.inl ⟨by rfl, ?_⟩) hS ?_
                · intro w' hSw; (try dsimp only at hSw); go_simp
                try simp only [Act.put, List.setIfInBounds_toArray, List.set_cons_zero, List.set_cons_succ]
                refine takeZ (i := 2) (v := .int .i64 ((jp : Int) + 1)) rfl (by kernel_rfl) (by kernel_rfl) (by kernel_rfl) (by kernel_rfl) (fun _ _ _ h => h) (Or.inl ⟨by rfl, ?_⟩) hS ?_
                · intro w' hSw; (try dsimp only at hSw); go_simp
                try simp only [Act.put, List.setIfInBounds_toArray, List.set_cons_zero, List.set_cons_succ]
                refine takeZ (i := 3) (v := .pointer (some ⟨b0, off + (jp + 1) * 4, none⟩)) rfl (by kernel_rfl) (by kernel_rfl) (by kernel_rfl) (by kernel_rfl) (fun _ _ _ h => h) (Or.inl ⟨by rfl, ?_⟩) hS ?_
                · intro w' hSw; (try dsimp only at hSw); (go_simp <;> first | (intro h9; exfalso; omega) | exact IntWalk.i64_in _ (by omega))
                try simp only [Act.put, List.setIfInBounds_toArray, List.set_cons_zero, List.set_cons_succ]
                refine takeZ (i := 4) (v := .agg #[.int .u8 (kd : Int), .string x, .slice A1 na p1, .string u]) rfl (by kernel_rfl) (by kernel_rfl) (by kernel_rfl) (by kernel_rfl) (fun _ _ _ h => h) (Or.inl ⟨by rfl, ?_⟩) hS ?_
                · intro w' hSw; (try dsimp only at hSw); go_simp
                try simp only [Act.put, List.setIfInBounds_toArray, List.set_cons_zero, List.set_cons_succ]
                refine takeZ (i := 5) (v := .int .i64 ((jp : Int) + 1)) rfl (by kernel_rfl) (by kernel_rfl) (by kernel_rfl) (by kernel_rfl) (fun _ _ _ h => h) (Or.inl ⟨by rfl, ?_⟩) hS ?_
                · intro w' hSw; (try dsimp only at hSw); go_simp
                try simp only [Act.put, List.setIfInBounds_toArray, List.set_cons_zero, List.set_cons_succ]
                refine takeZ (i := 6) (v := .bool true) rfl (by kernel_rfl) (by kernel_rfl) (by kernel_rfl) (by kernel_rfl) (fun _ _ _ h => h) (Or.inl ⟨by rfl, ?_⟩) hS ?_
                · intro w' hSw; (try dsimp only at hSw); go_simp
                try simp only [Act.put, List.setIfInBounds_toArray, List.set_cons_zero, List.set_cons_succ]
                refine takeZ (i := 7) (v := .bool true) rfl (by kernel_rfl) (by kernel_rfl) (by kernel_rfl) (by kernel_rfl) (fun _ _ _ h => h) (Or.inl ⟨by rfl, ?_⟩) hS ?_
                · intro w' hSw; (try dsimp only at hSw); go_simp
                try simp only [Act.put, List.setIfInBounds_toArray, List.set_cons_zero, List.set_cons_succ]
                refine takeZ (i := 8) (v := .slice (some ⟨b0, off, none⟩) j c) rfl (by kernel_rfl) (by kernel_rfl) (by kernel_rfl) (by kernel_rfl) (fun _ _ _ h => h) (Or.inl ⟨by rfl, ?_⟩) hS ?_
                · intro w' hSw; (try dsimp only at hSw); go_simp
                try simp only [Act.put, List.setIfInBounds_toArray, List.set_cons_zero, List.set_cons_succ]
                refine takeZ (i := 9) (v := .int .i64 ((jp : Int) + 1)) rfl (by kernel_rfl) (by kernel_rfl) (by kernel_rfl) (by kernel_rfl) (fun _ _ _ h => h) (Or.inl ⟨by rfl, ?_⟩) hS ?_
                · intro w' hSw; (try dsimp only at hSw); go_simp
                try simp only [Act.put, List.setIfInBounds_toArray, List.set_cons_zero, List.set_cons_succ]
                refine takeZ (i := 10) (v := .int .i64 (jp : Int)) rfl (by kernel_rfl) (by kernel_rfl) (by kernel_rfl) (by kernel_rfl) (fun _ _ _ h => h) (Or.inl ⟨by rfl, ?_⟩) hS ?_
                · intro w' hSw; (try dsimp only at hSw); (go_simp <;> first | (intro h9; exfalso; omega) | exact IntWalk.i64_in _ (by omega))
                try simp only [Act.put, List.setIfInBounds_toArray, List.set_cons_zero, List.set_cons_succ]
                refine takeZ (i := 11) (v := .pointer (some ⟨b0, off + jp * 4, none⟩)) rfl (by kernel_rfl) (by kernel_rfl) (by kernel_rfl) (by kernel_rfl) (fun _ _ _ h => h) (Or.inl ⟨by rfl, ?_⟩) hS ?_
                · intro w' hSw; (try dsimp only at hSw); (go_simp <;> first | (intro h9; exfalso; omega) | exact IntWalk.i64_in _ (by omega))
                try simp only [Act.put, List.setIfInBounds_toArray, List.set_cons_zero, List.set_cons_succ]
                refine takeZ (i := 12) (v := .pointer (some ⟨b0, off + jp * 4, none⟩)) rfl (by kernel_rfl) (by kernel_rfl) (by kernel_rfl) (by kernel_rfl) (fun _ _ _ h => h) (Or.inl ⟨by rfl, ?_⟩) hS ?_
                · intro w' hSw; (try dsimp only at hSw); go_simp
                try simp only [Act.put, List.setIfInBounds_toArray, List.set_cons_zero, List.set_cons_succ]
                refine takeZ (i := 13) (v := .int .u8 (kp : Int)) rfl (by kernel_rfl) (by kernel_rfl) (by kernel_rfl) (by kernel_rfl) (fun _ _ _ h => h) (Or.inl ⟨by rfl, ?_⟩) hS ?_
                · intro w' hSw; (try dsimp only at hSw); go_simp
                try simp only [Act.put, List.setIfInBounds_toArray, List.set_cons_zero, List.set_cons_succ]
                refine takeZ (i := 14) (v := .bool bb) rfl (by kernel_rfl) (by kernel_rfl) (by kernel_rfl) (by kernel_rfl) (fun _ _ _ h => h) (Or.inl ⟨by rfl, ?_⟩) hS ?_
                · intro w' hSw; (try dsimp only at hSw); go_simp
                try simp only [Act.put, List.setIfInBounds_toArray, List.set_cons_zero, List.set_cons_succ]
                refine takeZ (i := 15) (v := .bool bb) rfl (by kernel_rfl) (by kernel_rfl) (by kernel_rfl) (by kernel_rfl) (fun _ _ _ h => h) (Or.inl ⟨by rfl, ?_⟩) hS ?_
                · intro w' hSw; (try dsimp only at hSw); go_simp
                try simp only [Act.put, List.setIfInBounds_toArray, List.set_cons_zero, List.set_cons_succ]
                refine stepZ2 (i := 16) (j := 20) (by kernel_rfl) rfl rfl (fun K hK => ?_) (fun K hK => ?_)
                · go_simp
                  go_at_call 13; (with_reducible refine (HST.out _ HBD.out).mono ?_); rintro e5 w5 ⟨V5, O5, rfl, hb5, hgn, hgo⟩; have HB5 : Hid (Below (g5 + 1) wr.drew w5) := Lib.hid hb5; have HGO := Lib.hid hgo; clear hb5 hgo hgn
                  have hz5 : wr.heap.size ≤ w5.heap.size := HB5.out.size
                  have hS5 : w5.cell? ⟨g5, 0, none⟩ = some Vn ∧ w5.cell? ⟨g5, 1, none⟩ = some Vo ∧ w5.cell? ⟨b0, off + (jp + 1) * 4, none⟩ = some (.int .u8 (kd : Int)) ∧ w5.cell? ⟨b0, off + (jp + 1) * 4 + 1, none⟩ = some (.string x) ∧ w5.cell? ⟨b0, off + (jp + 1) * 4 + 2, none⟩ = some (.slice A1 na p1) ∧ w5.cell? ⟨b0, off + (jp + 1) * 4 + 3, none⟩ = some (.string u) ∧ w5.cell? ⟨b0, off + jp * 4, none⟩ = some (.int .u8 (kp : Int)) := ⟨(HB5.out.cell (p := ⟨g5, 0, none⟩) (Nat.lt_succ_self _)).trans hS.1, (HB5.out.cell (p := ⟨g5, 1, none⟩) (Nat.lt_succ_self _)).trans hS.2.1, (HB5.out.cell (p := ⟨b0, _, none⟩) HLT.out).trans hS.2.2.1, (HB5.out.cell (p := ⟨b0, _, none⟩) HLT.out).trans hS.2.2.2.1, (HB5.out.cell (p := ⟨b0, _, none⟩) HLT.out).trans hS.2.2.2.2.1, (HB5.out.cell (p := ⟨b0, _, none⟩) HLT.out).trans hS.2.2.2.2.2.1, (HB5.out.cell (p := ⟨b0, _, none⟩) HLT.out).trans hS.2.2.2.2.2.2⟩
                  have HXG5 : Hid (w5.heap[g5]? = some (.cells #[Vn, Vo] 45 (0, 0))) := Lib.hid ((HB5.out.block g5 (Nat.lt_succ_self _)).trans HXG.out)
                  have HB05 : Hid (Below w.heap.size w w5) := Lib.hid ((HBW.out.trans (Below.refl _ _).drew).trans (HB5.out.mono (by have := HGB.out; omega)))
                  go_wp2_with fail
                  refine hK.out _ _ (fun _ => hS5) (fun _ => ?_)
                  clear hK K hS
                  try simp only [Act.put, List.setIfInBounds_toArray, List.set_cons_zero, List.set_cons_succ]
                  refine takeZ (i := 17) (v := .tuple #[.agg #[V5, O5], .int .i64 q]) rfl (by kernel_rfl) (by kernel_rfl) (by kernel_rfl) (by kernel_rfl) (fun _ _ _ h => h) (Or.inl ⟨by rfl, ?_⟩) hS5 ?_
                  · intro w' hSw; (try dsimp only at hSw); go_simp
                  try simp only [Act.put, List.setIfInBounds_toArray, List.set_cons_zero, List.set_cons_succ]
                  refine takeZ (i := 18) (v := .agg #[V5, O5]) rfl (by kernel_rfl) (by kernel_rfl) (by kernel_rfl) (by kernel_rfl) (fun _ _ _ h => h) (Or.inl ⟨by rfl, ?_⟩) hS5 ?_
                  · intro w' hSw; (try dsimp only at hSw); go_simp
                  try simp only [Act.put, List.setIfInBounds_toArray, List.set_cons_zero, List.set_cons_succ]
                  refine takeZ (i := 19) (v := .int .i64 q) rfl (by kernel_rfl) (by kernel_rfl) (by kernel_rfl) (by kernel_rfl) (fun _ _ _ h => h) (Or.inl ⟨by rfl, ?_⟩) hS5 ?_
                  · intro w' hSw; (try dsimp only at hSw); go_simp
                  try simp only [Act.put, List.setIfInBounds_toArray, List.set_cons_zero, List.set_cons_succ]
                  refine stepZ (i := 20) (by kernel_rfl) rfl (fun K hK => ?_)
                  go_simp
                  have HA6 : Hid (Below w5.heap.size w5 (w5.alloc (.cells #[.slice none 0 0, .slice none 0 0] 45))) := Lib.hid (stpA (Below.refl _ _) _)
                  have hS6 : (w5.alloc (.cells #[.slice none 0 0, .slice none 0 0] 45)).cell? ⟨g5, 0, none⟩ = some Vn ∧ (w5.alloc (.cells #[.slice none 0 0, .slice none 0 0] 45)).cell? ⟨g5, 1, none⟩ = some Vo ∧ (w5.alloc (.cells #[.slice none 0 0, .slice none 0 0] 45)).cell? ⟨b0, off + (jp + 1) * 4, none⟩ = some (.int .u8 (kd : Int)) ∧ (w5.alloc (.cells #[.slice none 0 0, .slice none 0 0] 45)).cell? ⟨b0, off + (jp + 1) * 4 + 1, none⟩ = some (.string x) ∧ (w5.alloc (.cells #[.slice none 0 0, .slice none 0 0] 45)).cell? ⟨b0, off + (jp + 1) * 4 + 2, none⟩ = some (.slice A1 na p1) ∧ (w5.alloc (.cells #[.slice none 0 0, .slice none 0 0] 45)).cell? ⟨b0, off + (jp + 1) * 4 + 3, none⟩ = some (.string u) ∧ (w5.alloc (.cells #[.slice none 0 0, .slice none 0 0] 45)).cell? ⟨b0, off + jp * 4, none⟩ = some (.int .u8 (kp : Int)) := ⟨(HA6.out.cell (p := ⟨g5, 0, none⟩) (by have := HGZ.out; exact (by omega : g5 < w5.heap.size))).trans hS5.1, (HA6.out.cell (p := ⟨g5, 1, none⟩) (by have := HGZ.out; exact (by omega : g5 < w5.heap.size))).trans hS5.2.1, (HA6.out.cell (p := ⟨b0, _, none⟩) (by have := HLT.out; have := HGZ.out; exact (by omega : b0 < w5.heap.size))).trans hS5.2.2.1, (HA6.out.cell (p := ⟨b0, _, none⟩) (by have := HLT.out; have := HGZ.out; exact (by omega : b0 < w5.heap.size))).trans hS5.2.2.2.1, (HA6.out.cell (p := ⟨b0, _, none⟩) (by have := HLT.out; have := HGZ.out; exact (by omega : b0 < w5.heap.size))).trans hS5.2.2.2.2.1, (HA6.out.cell (p := ⟨b0, _, none⟩) (by have := HLT.out; have := HGZ.out; exact (by omega : b0 < w5.heap.size))).trans hS5.2.2.2.2.2.1, (HA6.out.cell (p := ⟨b0, _, none⟩) (by have := HLT.out; have := HGZ.out; exact (by omega : b0 < w5.heap.size))).trans hS5.2.2.2.2.2.2⟩
                  refine hK.out _ _ (fun _ => hS6) (fun _ => ?_)
                  clear hK K
                  try simp only [Act.put, List.setIfInBounds_toArray, List.set_cons_zero, List.set_cons_succ]
                  refine stepZ (i := 21) (by kernel_rfl) rfl (fun K hK => ?_)
                  rw [if_pos (by rfl)]
                  refine wp_store_row 45 (.tmp 7) (.tmp 48) rfl w5.heap.size #[V5, O5] rfl rfl 45 #[.slice none 0 0, .slice none 0 0] (heap_alloc_new w5 _) infoGr rfl (by obtain ⟨_, _, _, _, _, _, rfl, rfl⟩ := HGO.out.1; simp [Value.oneCell']) ?_
                  obtain ⟨W7, hW7⟩ : ∃ W7, (w5.alloc (.cells #[.slice none 0 0, .slice none 0 0] 45)).setRow w5.heap.size #[V5, O5] = W7 := ⟨_, rfl⟩
                  rw [hW7]
                  have HX7 : Hid (W7.heap[w5.heap.size]? = some (.cells #[V5, O5] 45 (0, 0))) := Lib.hid (by rw [← hW7]; exact setRow_heap _ _ _ _ _ _ (heap_alloc_new w5 _))
                  have HO7 : Hid (∀ q, q < w5.heap.size → W7.heap[q]? = w5.heap[q]?) := Lib.hid fun q h2 => by rw [← hW7]; exact (setRow_other _ _ _ _ (by omega)).trans (HA6.out.block q h2)
                  have HS7 : Hid (w5.heap.size ≤ W7.heap.size) := Lib.hid (by rw [← hW7]; simp [World.setRow])
                  have HB7 : Hid (Below wr.heap.size w5 W7) := Lib.hid (by rw [← hW7]; exact below_setRowV (HA6.out.mono hz5) hz5 _)
                  have hS7 : W7.cell? ⟨g5, 0, none⟩ = some Vn ∧ W7.cell? ⟨g5, 1, none⟩ = some Vo ∧ W7.cell? ⟨b0, off + (jp + 1) * 4, none⟩ = some (.int .u8 (kd : Int)) ∧ W7.cell? ⟨b0, off + (jp + 1) * 4 + 1, none⟩ = some (.string x) ∧ W7.cell? ⟨b0, off + (jp + 1) * 4 + 2, none⟩ = some (.slice A1 na p1) ∧ W7.cell? ⟨b0, off + (jp + 1) * 4 + 3, none⟩ = some (.string u) ∧ W7.cell? ⟨b0, off + jp * 4, none⟩ = some (.int .u8 (kp : Int)) := ⟨(HB7.out.cell (p := ⟨g5, 0, none⟩) HGZ.out).trans hS5.1, (HB7.out.cell (p := ⟨g5, 1, none⟩) HGZ.out).trans hS5.2.1, (HB7.out.cell (p := ⟨b0, _, none⟩) (Nat.lt_of_lt_of_le HLT.out (Nat.succ_le_of_lt HGZ.out))).trans hS5.2.2.1, (HB7.out.cell (p := ⟨b0, _, none⟩) (Nat.lt_of_lt_of_le HLT.out (Nat.succ_le_of_lt HGZ.out))).trans hS5.2.2.2.1, (HB7.out.cell (p := ⟨b0, _, none⟩) (Nat.lt_of_lt_of_le HLT.out (Nat.succ_le_of_lt HGZ.out))).trans hS5.2.2.2.2.1, (HB7.out.cell (p := ⟨b0, _, none⟩) (Nat.lt_of_lt_of_le HLT.out (Nat.succ_le_of_lt HGZ.out))).trans hS5.2.2.2.2.2.1, (HB7.out.cell (p := ⟨b0, _, none⟩) (Nat.lt_of_lt_of_le HLT.out (Nat.succ_le_of_lt HGZ.out))).trans hS5.2.2.2.2.2.2⟩
                  have HXG7 : Hid (W7.heap[g5]? = some (.cells #[Vn, Vo] 45 (0, 0))) := Lib.hid ((HB7.out.block g5 HGZ.out).trans HXG5.out)
                  have HBB : Hid (Below w.heap.size w W7) := Lib.hid (HB05.out.trans (HB7.out.mono HBW.out.size))
                  refine hK.out _ _ (fun _ => hS7) (fun _ => ?_)
                  clear hK K hS5 hS6 hW7
                  try simp only [Act.put]
                  refine stepZ (i := 22) (by kernel_rfl) rfl (fun K hK => ?_)
                  go_simp
                  refine hK.out _ _ (fun h => absurd rfl h) (fun _ => ?_)
                  clear hK K hS7 c0 c1 hz5
                  try simp only [Act.put, List.setIfInBounds_toArray, List.set_cons_zero, List.set_cons_succ]
                  refine doneZ (by kernel_rfl) ?_ _
                  refine NoPanic.normal ?_
                  have fr : (q == 0) = false := by simp; exact HQ0.out
                  have fr2 : ¬ q = 0 := HQ0.out
                  go_wp2_with fail
                  go_ret2
                  exact ParseTo.bad HT.out HBB.out
                · go_simp
                  have HA6 : Hid (Below wr.heap.size wr.drew (wr.alloc (.cells #[.slice none 0 0, .slice none 0 0] 45)).drew) := Lib.hid (stpA (Below.refl wr.drew.heap.size wr.drew) _)
                  have hS6 : (wr.alloc (.cells #[.slice none 0 0, .slice none 0 0] 45)).drew.cell? ⟨g5, 0, none⟩ = some Vn ∧ (wr.alloc (.cells #[.slice none 0 0, .slice none 0 0] 45)).drew.cell? ⟨g5, 1, none⟩ = some Vo ∧ (wr.alloc (.cells #[.slice none 0 0, .slice none 0 0] 45)).drew.cell? ⟨b0, off + (jp + 1) * 4, none⟩ = some (.int .u8 (kd : Int)) ∧ (wr.alloc (.cells #[.slice none 0 0, .slice none 0 0] 45)).drew.cell? ⟨b0, off + (jp + 1) * 4 + 1, none⟩ = some (.string x) ∧ (wr.alloc (.cells #[.slice none 0 0, .slice none 0 0] 45)).drew.cell? ⟨b0, off + (jp + 1) * 4 + 2, none⟩ = some (.slice A1 na p1) ∧ (wr.alloc (.cells #[.slice none 0 0, .slice none 0 0] 45)).drew.cell? ⟨b0, off + (jp + 1) * 4 + 3, none⟩ = some (.string u) ∧ (wr.alloc (.cells #[.slice none 0 0, .slice none 0 0] 45)).drew.cell? ⟨b0, off + jp * 4, none⟩ = some (.int .u8 (kp : Int)) := ⟨(HA6.out.cell (p := ⟨g5, 0, none⟩) (by have := HGZ.out; exact (by omega : g5 < wr.heap.size))).trans hS.1, (HA6.out.cell (p := ⟨g5, 1, none⟩) (by have := HGZ.out; exact (by omega : g5 < wr.heap.size))).trans hS.2.1, (HA6.out.cell (p := ⟨b0, _, none⟩) (by have := HLT.out; have := HGZ.out; exact (by omega : b0 < wr.heap.size))).trans hS.2.2.1, (HA6.out.cell (p := ⟨b0, _, none⟩) (by have := HLT.out; have := HGZ.out; exact (by omega : b0 < wr.heap.size))).trans hS.2.2.2.1, (HA6.out.cell (p := ⟨b0, _, none⟩) (by have := HLT.out; have := HGZ.out; exact (by omega : b0 < wr.heap.size))).trans hS.2.2.2.2.1, (HA6.out.cell (p := ⟨b0, _, none⟩) (by have := HLT.out; have := HGZ.out; exact (by omega : b0 < wr.heap.size))).trans hS.2.2.2.2.2.1, (HA6.out.cell (p := ⟨b0, _, none⟩) (by have := HLT.out; have := HGZ.out; exact (by omega : b0 < wr.heap.size))).trans hS.2.2.2.2.2.2⟩
                  refine hK.out _ _ (fun _ => hS6) (fun _ => ?_)
                  clear hK K hS
                  try simp only [Act.put, List.setIfInBounds_toArray, List.set_cons_zero, List.set_cons_succ]
                  refine stepZ (i := 16) (by kernel_rfl) rfl (fun K hK => ?_)
                  go_simp
                  go_at_call 13; (with_reducible refine (HST.out _ HBA.out).mono ?_); rintro e5 w5 ⟨V5, O5, rfl, hb5, hgn, hgo⟩; have HB5 : Hid (Below (g5 + 1) (wr.alloc (.cells #[.slice none 0 0, .slice none 0 0] 45)).drew w5) := Lib.hid hb5; have HGO := Lib.hid hgo; have HN5 : Hid (w5.heap[wr.heap.size]? = some (.cells #[.slice none 0 0, .slice none 0 0] 45 (0, 0))) := Lib.hid (hgn _ (heap_alloc_new wr _)); clear hb5 hgo hgn
                  have hz5 : wr.heap.size ≤ w5.heap.size := Nat.le_trans HA6.out.size HB5.out.size
                  have hS5 : w5.cell? ⟨g5, 0, none⟩ = some Vn ∧ w5.cell? ⟨g5, 1, none⟩ = some Vo ∧ w5.cell? ⟨b0, off + (jp + 1) * 4, none⟩ = some (.int .u8 (kd : Int)) ∧ w5.cell? ⟨b0, off + (jp + 1) * 4 + 1, none⟩ = some (.string x) ∧ w5.cell? ⟨b0, off + (jp + 1) * 4 + 2, none⟩ = some (.slice A1 na p1) ∧ w5.cell? ⟨b0, off + (jp + 1) * 4 + 3, none⟩ = some (.string u) ∧ w5.cell? ⟨b0, off + jp * 4, none⟩ = some (.int .u8 (kp : Int)) := ⟨(HB5.out.cell (p := ⟨g5, 0, none⟩) (Nat.lt_succ_self _)).trans hS6.1, (HB5.out.cell (p := ⟨g5, 1, none⟩) (Nat.lt_succ_self _)).trans hS6.2.1, (HB5.out.cell (p := ⟨b0, _, none⟩) HLT.out).trans hS6.2.2.1, (HB5.out.cell (p := ⟨b0, _, none⟩) HLT.out).trans hS6.2.2.2.1, (HB5.out.cell (p := ⟨b0, _, none⟩) HLT.out).trans hS6.2.2.2.2.1, (HB5.out.cell (p := ⟨b0, _, none⟩) HLT.out).trans hS6.2.2.2.2.2.1, (HB5.out.cell (p := ⟨b0, _, none⟩) HLT.out).trans hS6.2.2.2.2.2.2⟩
                  have HXG5 : Hid (w5.heap[g5]? = some (.cells #[Vn, Vo] 45 (0, 0))) := Lib.hid ((HB5.out.block g5 (Nat.lt_succ_self _)).trans ((HA6.out.block g5 HGZ.out).trans HXG.out))
                  have HB05 : Hid (Below w.heap.size w w5) := Lib.hid ((HBW.out.trans (HBA.out.mono HBW.out.size)).trans (HB5.out.mono (by have := HGB.out; omega)))
                  go_wp2_with fail
                  refine hK.out _ _ (fun _ => hS5) (fun _ => ?_)
                  clear hK K hS6
                  try simp only [Act.put, List.setIfInBounds_toArray, List.set_cons_zero, List.set_cons_succ]
                  refine takeZ (i := 17) (v := .tuple #[.agg #[V5, O5], .int .i64 q]) rfl (by kernel_rfl) (by kernel_rfl) (by kernel_rfl) (by kernel_rfl) (fun _ _ _ h => h) (Or.inl ⟨by rfl, ?_⟩) hS5 ?_
                  · intro w' hSw; (try dsimp only at hSw); go_simp
                  try simp only [Act.put, List.setIfInBounds_toArray, List.set_cons_zero, List.set_cons_succ]
                  refine takeZ (i := 18) (v := .agg #[V5, O5]) rfl (by kernel_rfl) (by kernel_rfl) (by kernel_rfl) (by kernel_rfl) (fun _ _ _ h => h) (Or.inl ⟨by rfl, ?_⟩) hS5 ?_
                  · intro w' hSw; (try dsimp only at hSw); go_simp
                  try simp only [Act.put, List.setIfInBounds_toArray, List.set_cons_zero, List.set_cons_succ]
                  refine takeZ (i := 19) (v := .int .i64 q) rfl (by kernel_rfl) (by kernel_rfl) (by kernel_rfl) (by kernel_rfl) (fun _ _ _ h => h) (Or.inl ⟨by rfl, ?_⟩) hS5 ?_
                  · intro w' hSw; (try dsimp only at hSw); go_simp
                  try simp only [Act.put, List.setIfInBounds_toArray, List.set_cons_zero, List.set_cons_succ]
                  refine stepZ (i := 21) (by kernel_rfl) rfl (fun K hK => ?_)
                  rw [if_pos (by rfl)]
                  refine wp_store_row 45 (.tmp 7) (.tmp 48) rfl wr.heap.size #[V5, O5] rfl rfl 45 #[.slice none 0 0, .slice none 0 0] HN5.out infoGr rfl (by obtain ⟨_, _, _, _, _, _, rfl, rfl⟩ := HGO.out.1; simp [Value.oneCell']) ?_
                  obtain ⟨W7, hW7⟩ : ∃ W7, w5.setRow wr.heap.size #[V5, O5] = W7 := ⟨_, rfl⟩
                  rw [hW7]
                  have HX7 : Hid (W7.heap[wr.heap.size]? = some (.cells #[V5, O5] 45 (0, 0))) := Lib.hid (by rw [← hW7]; exact setRow_heap _ _ _ _ _ _ HN5.out)
                  have HO7 : Hid (∀ q, q ≠ wr.heap.size → W7.heap[q]? = w5.heap[q]?) := Lib.hid fun q h2 => by rw [← hW7]; exact setRow_other _ _ _ _ h2
                  have HS7 : Hid (w5.heap.size ≤ W7.heap.size) := Lib.hid (by rw [← hW7]; simp [World.setRow])
                  have HB7 : Hid (Below wr.heap.size w5 W7) := Lib.hid (by rw [← hW7]; exact below_setRowV (Below.refl _ _) (Nat.le_refl _) _)
                  have hS7 : W7.cell? ⟨g5, 0, none⟩ = some Vn ∧ W7.cell? ⟨g5, 1, none⟩ = some Vo ∧ W7.cell? ⟨b0, off + (jp + 1) * 4, none⟩ = some (.int .u8 (kd : Int)) ∧ W7.cell? ⟨b0, off + (jp + 1) * 4 + 1, none⟩ = some (.string x) ∧ W7.cell? ⟨b0, off + (jp + 1) * 4 + 2, none⟩ = some (.slice A1 na p1) ∧ W7.cell? ⟨b0, off + (jp + 1) * 4 + 3, none⟩ = some (.string u) ∧ W7.cell? ⟨b0, off + jp * 4, none⟩ = some (.int .u8 (kp : Int)) := ⟨(HB7.out.cell (p := ⟨g5, 0, none⟩) HGZ.out).trans hS5.1, (HB7.out.cell (p := ⟨g5, 1, none⟩) HGZ.out).trans hS5.2.1, (HB7.out.cell (p := ⟨b0, _, none⟩) (Nat.lt_of_lt_of_le HLT.out (Nat.succ_le_of_lt HGZ.out))).trans hS5.2.2.1, (HB7.out.cell (p := ⟨b0, _, none⟩) (Nat.lt_of_lt_of_le HLT.out (Nat.succ_le_of_lt HGZ.out))).trans hS5.2.2.2.1, (HB7.out.cell (p := ⟨b0, _, none⟩) (Nat.lt_of_lt_of_le HLT.out (Nat.succ_le_of_lt HGZ.out))).trans hS5.2.2.2.2.1, (HB7.out.cell (p := ⟨b0, _, none⟩) (Nat.lt_of_lt_of_le HLT.out (Nat.succ_le_of_lt HGZ.out))).trans hS5.2.2.2.2.2.1, (HB7.out.cell (p := ⟨b0, _, none⟩) (Nat.lt_of_lt_of_le HLT.out (Nat.succ_le_of_lt HGZ.out))).trans hS5.2.2.2.2.2.2⟩
                  have HXG7 : Hid (W7.heap[g5]? = some (.cells #[Vn, Vo] 45 (0, 0))) := Lib.hid ((HB7.out.block g5 HGZ.out).trans HXG5.out)
                  have HBB : Hid (Below w.heap.size w W7) := Lib.hid (HB05.out.trans (HB7.out.mono HBW.out.size))
                  refine hK.out _ _ (fun _ => hS7) (fun _ => ?_)
                  clear hK K hS5 hW7
                  try simp only [Act.put]
                  refine stepZ (i := 22) (by kernel_rfl) rfl (fun K hK => ?_)
                  go_simp
                  refine hK.out _ _ (fun h => absurd rfl h) (fun _ => ?_)
                  clear hK K hS7 c0 c1 hz5
                  try simp only [Act.put, List.setIfInBounds_toArray, List.set_cons_zero, List.set_cons_succ]
                  refine doneZ (by kernel_rfl) ?_ _
                  refine NoPanic.normal ?_
                  have fr : (q == 0) = false := by simp; exact HQ0.out
                  have fr2 : ¬ q = 0 := HQ0.out
                  go_wp2_with fail
                  go_ret2
                  exact ParseTo.bad HT.out HBB.out
            | ok s' =>
              rw [hx] at HS0
              have HRUN : Hid (runP ⟨[], []⟩ false ts = runP s' (decide (t.kind = 4)) (ts.drop (k + 1))) := Lib.hid (by rw [hrun, runP, hx])
              have HMORE : Hid (PSb (k + 1) s') := Lib.hid (hps.more hx)
              have HPK : Hid ((ts[k + 1 - 1]?.map fun t => decide (t.kind = 4)) = some (decide (t.kind = 4))) := Lib.hid (by rw [Nat.add_sub_cancel, List.getElem?_eq_getElem hjl, ht]; rfl)
              have HST : Hid (∀ W, Below wr.heap.size wr W → Calls Tryd.prog 13 #[.agg #[Vn, Vo], .agg #[.int .u8 (kd : Int), .string x, .slice A1 na p1, .string u], .bool bb] W fun e w' => ∃ V5 O5, e = .returned (.tuple #[.agg #[V5, O5], .int .i64 0]) ∧ Below (g5 + 1) W w' ∧ (∀ o, W.heap[wr.heap.size]? = some o → w'.heap[wr.heap.size]? = some o) ∧ ((∃ A1 n1 c1 A2 n2 c2, V5 = Value.slice A1 n1 c1 ∧ O5 = Value.slice A2 n2 c2) ∧ ∀ W', (∀ q, q ≠ wr.heap.size → W'.heap[q]? = w'.heap[q]?) → w'.heap.size ≤ W'.heap.size → GrP (g5 + 1) s' V5 O5 W')) := Lib.hid fun W hW => (HS0 W hW).mono fun e w' h => by
                obtain ⟨h1, h9, hi9, L9, V5, O5, h2, h3, h4⟩ := h
                have h5 : GrP (g5 + 1) s' V5 O5 w' := ⟨hi9, L9, h3, h4 w' (fun _ _ => rfl) (Nat.le_refl _)⟩
                obtain ⟨An, cn, Ao, co, f1, f2, _⟩ := h5.forms
                exact ⟨V5, O5, h2, h1, h9, ⟨_, _, _, _, _, _, f1, f2⟩, fun W' j1 j2 => ⟨hi9, L9, h3, h4 W' j1 j2⟩⟩
              rcases Nat.eq_zero_or_pos k with hk0 | hk0
              · subst hk0
                rw [if_pos rfl] at hpk
                subst hpk
                simp only [Nat.zero_mul, Nat.add_zero] at q0 q1 q2 q3
                clear hsj hkj hc0 hc1 hc2 hc3 hTA hst hdr hrun hgo hps hxg hbw hb0 HS0 hx hsome hna hkd
                go_wp2_with fail
                refine wp_region_noPanic ?_
                refine wp_region_Z (fun W => W.cell? ⟨g5, 0, none⟩ = some Vn ∧ W.cell? ⟨g5, 1, none⟩ = some Vo ∧ W.cell? ⟨b0, off, none⟩ = some (.int .u8 (kd : Int)) ∧ W.cell? ⟨b0, off + 1, none⟩ = some (.string x) ∧ W.cell? ⟨b0, off + 2, none⟩ = some (.slice A1 na p1) ∧ W.cell? ⟨b0, off + 3, none⟩ = some (.string u)) 22 (by kernel_rfl) ?_
                have hS : wr.drew.cell? ⟨g5, 0, none⟩ = some Vn ∧ wr.drew.cell? ⟨g5, 1, none⟩ = some Vo ∧ wr.drew.cell? ⟨b0, off, none⟩ = some (.int .u8 (kd : Int)) ∧ wr.drew.cell? ⟨b0, off + 1, none⟩ = some (.string x) ∧ wr.drew.cell? ⟨b0, off + 2, none⟩ = some (.slice A1 na p1) ∧ wr.drew.cell? ⟨b0, off + 3, none⟩ = some (.string u) := ⟨c0, c1, q0, q1, q2, q3⟩
                refine takeZ (i := 0) (v := .agg #[Vn, Vo]) rfl (by kernel_rfl) (by kernel_rfl) (by kernel_rfl) (by kernel_rfl) (fun _ _ _ h => h) (Or.inl ⟨by rfl, ?_⟩) hS ?_
                · intro w' hSw; (try dsimp only at hSw); go_simp
                try simp only [Act.put, List.setIfInBounds_toArray, List.set_cons_zero, List.set_cons_succ]
                refine takeZ (i := 1) (v := .slice (some ⟨b0, off, none⟩) j c) rfl (by kernel_rfl) (by kernel_rfl) (by kernel_rfl) (by kernel_rfl) (fun _ _ _ h => h) (Or.inl ⟨by rfl, ?_⟩) hS ?_
                · intro w' hSw; (try dsimp only at hSw); go_simp
                try simp only [Act.put, List.setIfInBounds_toArray, List.set_cons_zero, List.set_cons_succ]
                refine takeZ (i := 2) (v := .int .i64 0) rfl (by kernel_rfl) (by kernel_rfl) (by kernel_rfl) (by kernel_rfl) (fun _ _ _ h => h) (Or.inl ⟨by rfl, ?_⟩) hS ?_
                · intro w' hSw; (try dsimp only at hSw); go_simp
                try simp only [Act.put, List.setIfInBounds_toArray, List.set_cons_zero, List.set_cons_succ]
                refine takeZ (i := 3) (v := .pointer (some ⟨b0, off, none⟩)) rfl (by kernel_rfl) (by kernel_rfl) (by kernel_rfl) (by kernel_rfl) (fun _ _ _ h => h) (Or.inl ⟨by rfl, ?_⟩) hS ?_
                · intro w' hSw; (try dsimp only at hSw); go_simp
                try simp only [Act.put, List.setIfInBounds_toArray, List.set_cons_zero, List.set_cons_succ]
                refine takeZ (i := 4) (v := .agg #[.int .u8 (kd : Int), .string x, .slice A1 na p1, .string u]) rfl (by kernel_rfl) (by kernel_rfl) (by kernel_rfl) (by kernel_rfl) (fun _ _ _ h => h) (Or.inl ⟨by rfl, ?_⟩) hS ?_
                · intro w' hSw; (try dsimp only at hSw); go_simp
                try simp only [Act.put, List.setIfInBounds_toArray, List.set_cons_zero, List.set_cons_succ]
                refine takeZ (i := 5) (v := .int .i64 0) rfl (by kernel_rfl) (by kernel_rfl) (by kernel_rfl) (by kernel_rfl) (fun _ _ _ h => h) (Or.inl ⟨by rfl, ?_⟩) hS ?_
                · intro w' hSw; (try dsimp only at hSw); go_simp
                try simp only [Act.put, List.setIfInBounds_toArray, List.set_cons_zero, List.set_cons_succ]
                refine takeZ (i := 6) (v := .bool false) rfl (by kernel_rfl) (by kernel_rfl) (by kernel_rfl) (by kernel_rfl) (fun _ _ _ h => h) (Or.inl ⟨by rfl, ?_⟩) hS ?_
                · intro w' hSw; (try dsimp only at hSw); go_simp
                try simp only [Act.put, List.setIfInBounds_toArray, List.set_cons_zero, List.set_cons_succ]
                refine takeZ (i := 7) (v := .bool false) rfl (by kernel_rfl) (by kernel_rfl) (by kernel_rfl) (by kernel_rfl) (fun _ _ _ h => h) (Or.inl ⟨by rfl, ?_⟩) hS ?_
                · intro w' hSw; (try dsimp only at hSw); go_simp
                try simp only [Act.put, List.setIfInBounds_toArray, List.set_cons_zero, List.set_cons_succ]
                refine takeZ (i := 8) (v := undef) rfl (by kernel_rfl) (by kernel_rfl) (by kernel_rfl) (by kernel_rfl) (fun _ _ _ h => h) (Or.inr ⟨by rfl, rfl⟩) hS ?_
                try simp only [Act.put, List.setIfInBounds_toArray, List.set_cons_zero, List.set_cons_succ]
                refine takeZ (i := 9) (v := undef) rfl (by kernel_rfl) (by kernel_rfl) (by kernel_rfl) (by kernel_rfl) (fun _ _ _ h => h) (Or.inr ⟨by rfl, rfl⟩) hS ?_
                try simp only [Act.put, List.setIfInBounds_toArray, List.set_cons_zero, List.set_cons_succ]
                refine takeZ (i := 10) (v := undef) rfl (by kernel_rfl) (by kernel_rfl) (by kernel_rfl) (by kernel_rfl) (fun _ _ _ h => h) (Or.inr ⟨by rfl, rfl⟩) hS ?_
                try simp only [Act.put, List.setIfInBounds_toArray, List.set_cons_zero, List.set_cons_succ]
                refine takeZ (i := 11) (v := undef) rfl (by kernel_rfl) (by kernel_rfl) (by kernel_rfl) (by kernel_rfl) (fun _ _ _ h => h) (Or.inr ⟨by rfl, rfl⟩) hS ?_
                try simp only [Act.put, List.setIfInBounds_toArray, List.set_cons_zero, List.set_cons_succ]
                refine takeZ (i := 12) (v := undef) rfl (by kernel_rfl) (by kernel_rfl) (by kernel_rfl) (by kernel_rfl) (fun _ _ _ h => h) (Or.inr ⟨by rfl, rfl⟩) hS ?_
                try simp only [Act.put, List.setIfInBounds_toArray, List.set_cons_zero, List.set_cons_succ]
                refine takeZ (i := 13) (v := undef) rfl (by kernel_rfl) (by kernel_rfl) (by kernel_rfl) (by kernel_rfl) (fun _ _ _ h => h) (Or.inr ⟨by rfl, rfl⟩) hS ?_
                try simp only [Act.put, List.setIfInBounds_toArray, List.set_cons_zero, List.set_cons_succ]
                refine takeZ (i := 14) (v := undef) rfl (by kernel_rfl) (by kernel_rfl) (by kernel_rfl) (by kernel_rfl) (fun _ _ _ h => h) (Or.inr ⟨by rfl, rfl⟩) hS ?_
                try simp only [Act.put, List.setIfInBounds_toArray, List.set_cons_zero, List.set_cons_succ]
                refine takeZ (i := 15) (v := .bool false) rfl (by kernel_rfl) (by kernel_rfl) (by kernel_rfl) (by kernel_rfl) (fun _ _ _ h => h) (Or.inl ⟨by rfl, ?_⟩) hS ?_
                · intro w' hSw; (try dsimp only at hSw); go_simp
                try simp only [Act.put, List.setIfInBounds_toArray, List.set_cons_zero, List.set_cons_succ]
                refine stepZ2 (i := 16) (j := 20) (by kernel_rfl) rfl rfl (fun K hK => ?_) (fun K hK => ?_)
                · go_simp
                  go_at_call 13; (with_reducible refine (HST.out _ HBD.out).mono ?_); rintro e5 w5 ⟨V5, O5, rfl, hb5, hgn, hgo⟩; have HB5 : Hid (Below (g5 + 1) wr.drew w5) := Lib.hid hb5; have HGO := Lib.hid hgo; clear hb5 hgo hgn
                  have hz5 : wr.heap.size ≤ w5.heap.size := HB5.out.size
                  have hS5 : w5.cell? ⟨g5, 0, none⟩ = some Vn ∧ w5.cell? ⟨g5, 1, none⟩ = some Vo ∧ w5.cell? ⟨b0, off, none⟩ = some (.int .u8 (kd : Int)) ∧ w5.cell? ⟨b0, off + 1, none⟩ = some (.string x) ∧ w5.cell? ⟨b0, off + 2, none⟩ = some (.slice A1 na p1) ∧ w5.cell? ⟨b0, off + 3, none⟩ = some (.string u) := ⟨(HB5.out.cell (p := ⟨g5, 0, none⟩) (Nat.lt_succ_self _)).trans hS.1, (HB5.out.cell (p := ⟨g5, 1, none⟩) (Nat.lt_succ_self _)).trans hS.2.1, (HB5.out.cell (p := ⟨b0, _, none⟩) HLT.out).trans hS.2.2.1, (HB5.out.cell (p := ⟨b0, _, none⟩) HLT.out).trans hS.2.2.2.1, (HB5.out.cell (p := ⟨b0, _, none⟩) HLT.out).trans hS.2.2.2.2.1, (HB5.out.cell (p := ⟨b0, _, none⟩) HLT.out).trans hS.2.2.2.2.2⟩
                  have HXG5 : Hid (w5.heap[g5]? = some (.cells #[Vn, Vo] 45 (0, 0))) := Lib.hid ((HB5.out.block g5 (Nat.lt_succ_self _)).trans HXG.out)
                  have HB05 : Hid (Below w.heap.size w w5) := Lib.hid ((HBW.out.trans (Below.refl _ _).drew).trans (HB5.out.mono (by have := HGB.out; omega)))
                  go_wp2_with fail
                  refine hK.out _ _ (fun _ => hS5) (fun _ => ?_)
                  clear hK K hS
                  try simp only [Act.put, List.setIfInBounds_toArray, List.set_cons_zero, List.set_cons_succ]
                  refine takeZ (i := 17) (v := .tuple #[.agg #[V5, O5], .int .i64 0]) rfl (by kernel_rfl) (by kernel_rfl) (by kernel_rfl) (by kernel_rfl) (fun _ _ _ h => h) (Or.inl ⟨by rfl, ?_⟩) hS5 ?_
                  · intro w' hSw; (try dsimp only at hSw); go_simp
                  try simp only [Act.put, List.setIfInBounds_toArray, List.set_cons_zero, List.set_cons_succ]
                  refine takeZ (i := 18) (v := .agg #[V5, O5]) rfl (by kernel_rfl) (by kernel_rfl) (by kernel_rfl) (by kernel_rfl) (fun _ _ _ h => h) (Or.inl ⟨by rfl, ?_⟩) hS5 ?_
                  · intro w' hSw; (try dsimp only at hSw); go_simp
                  try simp only [Act.put, List.setIfInBounds_toArray, List.set_cons_zero, List.set_cons_succ]
                  refine takeZ (i := 19) (v := .int .i64 0) rfl (by kernel_rfl) (by kernel_rfl) (by kernel_rfl) (by kernel_rfl) (fun _ _ _ h => h) (Or.inl ⟨by rfl, ?_⟩) hS5 ?_
                  · intro w' hSw; (try dsimp only at hSw); go_simp
                  try simp only [Act.put, List.setIfInBounds_toArray, List.set_cons_zero, List.set_cons_succ]
                  refine stepZ (i := 20) (by kernel_rfl) rfl (fun K hK => ?_)
                  go_simp
                  have HA6 : Hid (Below w5.heap.size w5 (w5.alloc (.cells #[.slice none 0 0, .slice none 0 0] 45))) := Lib.hid (stpA (Below.refl _ _) _)
                  have hS6 : (w5.alloc (.cells #[.slice none 0 0, .slice none 0 0] 45)).cell? ⟨g5, 0, none⟩ = some Vn ∧ (w5.alloc (.cells #[.slice none 0 0, .slice none 0 0] 45)).cell? ⟨g5, 1, none⟩ = some Vo ∧ (w5.alloc (.cells #[.slice none 0 0, .slice none 0 0] 45)).cell? ⟨b0, off, none⟩ = some (.int .u8 (kd : Int)) ∧ (w5.alloc (.cells #[.slice none 0 0, .slice none 0 0] 45)).cell? ⟨b0, off + 1, none⟩ = some (.string x) ∧ (w5.alloc (.cells #[.slice none 0 0, .slice none 0 0] 45)).cell? ⟨b0, off + 2, none⟩ = some (.slice A1 na p1) ∧ (w5.alloc (.cells #[.slice none 0 0, .slice none 0 0] 45)).cell? ⟨b0, off + 3, none⟩ = some (.string u) := ⟨(HA6.out.cell (p := ⟨g5, 0, none⟩) (by have := HGZ.out; exact (by omega : g5 < w5.heap.size))).trans hS5.1, (HA6.out.cell (p := ⟨g5, 1, none⟩) (by have := HGZ.out; exact (by omega : g5 < w5.heap.size))).trans hS5.2.1, (HA6.out.cell (p := ⟨b0, _, none⟩) (by have := HLT.out; have := HGZ.out; exact (by omega : b0 < w5.heap.size))).trans hS5.2.2.1, (HA6.out.cell (p := ⟨b0, _, none⟩) (by have := HLT.out; have := HGZ.out; exact (by omega : b0 < w5.heap.size))).trans hS5.2.2.2.1, (HA6.out.cell (p := ⟨b0, _, none⟩) (by have := HLT.out; have := HGZ.out; exact (by omega : b0 < w5.heap.size))).trans hS5.2.2.2.2.1, (HA6.out.cell (p := ⟨b0, _, none⟩) (by have := HLT.out; have := HGZ.out; exact (by omega : b0 < w5.heap.size))).trans hS5.2.2.2.2.2⟩
                  refine hK.out _ _ (fun _ => hS6) (fun _ => ?_)
                  clear hK K
                  try simp only [Act.put, List.setIfInBounds_toArray, List.set_cons_zero, List.set_cons_succ]
                  refine stepZ (i := 21) (by kernel_rfl) rfl (fun K hK => ?_)
                  rw [if_pos (by rfl)]
                  refine wp_store_row 45 (.tmp 7) (.tmp 48) rfl w5.heap.size #[V5, O5] rfl rfl 45 #[.slice none 0 0, .slice none 0 0] (heap_alloc_new w5 _) infoGr rfl (by obtain ⟨_, _, _, _, _, _, rfl, rfl⟩ := HGO.out.1; simp [Value.oneCell']) ?_
                  obtain ⟨W7, hW7⟩ : ∃ W7, (w5.alloc (.cells #[.slice none 0 0, .slice none 0 0] 45)).setRow w5.heap.size #[V5, O5] = W7 := ⟨_, rfl⟩
                  rw [hW7]
                  have HX7 : Hid (W7.heap[w5.heap.size]? = some (.cells #[V5, O5] 45 (0, 0))) := Lib.hid (by rw [← hW7]; exact setRow_heap _ _ _ _ _ _ (heap_alloc_new w5 _))
                  have HO7 : Hid (∀ q, q < w5.heap.size → W7.heap[q]? = w5.heap[q]?) := Lib.hid fun q h2 => by rw [← hW7]; exact (setRow_other _ _ _ _ (by omega)).trans (HA6.out.block q h2)
                  have HS7 : Hid (w5.heap.size ≤ W7.heap.size) := Lib.hid (by rw [← hW7]; simp [World.setRow])
                  have HB7 : Hid (Below wr.heap.size w5 W7) := Lib.hid (by rw [← hW7]; exact below_setRowV (HA6.out.mono hz5) hz5 _)
                  have hS7 : W7.cell? ⟨g5, 0, none⟩ = some Vn ∧ W7.cell? ⟨g5, 1, none⟩ = some Vo ∧ W7.cell? ⟨b0, off, none⟩ = some (.int .u8 (kd : Int)) ∧ W7.cell? ⟨b0, off + 1, none⟩ = some (.string x) ∧ W7.cell? ⟨b0, off + 2, none⟩ = some (.slice A1 na p1) ∧ W7.cell? ⟨b0, off + 3, none⟩ = some (.string u) := ⟨(HB7.out.cell (p := ⟨g5, 0, none⟩) HGZ.out).trans hS5.1, (HB7.out.cell (p := ⟨g5, 1, none⟩) HGZ.out).trans hS5.2.1, (HB7.out.cell (p := ⟨b0, _, none⟩) (Nat.lt_of_lt_of_le HLT.out (Nat.succ_le_of_lt HGZ.out))).trans hS5.2.2.1, (HB7.out.cell (p := ⟨b0, _, none⟩) (Nat.lt_of_lt_of_le HLT.out (Nat.succ_le_of_lt HGZ.out))).trans hS5.2.2.2.1, (HB7.out.cell (p := ⟨b0, _, none⟩) (Nat.lt_of_lt_of_le HLT.out (Nat.succ_le_of_lt HGZ.out))).trans hS5.2.2.2.2.1, (HB7.out.cell (p := ⟨b0, _, none⟩) (Nat.lt_of_lt_of_le HLT.out (Nat.succ_le_of_lt HGZ.out))).trans hS5.2.2.2.2.2⟩
                  have HXG7 : Hid (W7.heap[g5]? = some (.cells #[Vn, Vo] 45 (0, 0))) := Lib.hid ((HB7.out.block g5 HGZ.out).trans HXG5.out)
                  have HBB : Hid (Below w.heap.size w W7) := Lib.hid (HB05.out.trans (HB7.out.mono HBW.out.size))
                  refine hK.out _ _ (fun _ => hS7) (fun _ => ?_)
                  clear hK K hS5 hS6 hW7
                  try simp only [Act.put]
                  refine stepZ (i := 22) (by kernel_rfl) rfl (fun K hK => ?_)
                  go_simp
                  refine hK.out _ _ (fun h => absurd rfl h) (fun _ => ?_)
                  clear hK K hS7 c0 c1 hz5
                  try simp only [Act.put, List.setIfInBounds_toArray, List.set_cons_zero, List.set_cons_succ]
                  refine doneZ (by kernel_rfl) ?_ _
                  refine NoPanic.normal ?_
                  go_wp2_with (first
                    | (refine wpList_load_row rfl _ _ rfl w5.heap.size rfl 45 #[V5, O5] (0, 0) _ HX7.out Tryd.underlying45 rfl infoGr ?_)
                    | (refine wpList_store_row rfl _ _ _ rfl g5 #[V5, O5] rfl rfl 45 #[Vn, Vo] HXG7.out infoGr rfl (by obtain ⟨_, _, _, _, _, _, rfl, rfl⟩ := HGO.out.1; simp [Value.oneCell']) ?_)
                    | fail)
                  go_roundg (gk - 1)
                  case measure => omega
                  case rel => exact ⟨0 + 1, s', decide (t.kind = 4), V5, O5, by omega, by go_num, HRUN.out, by rw [if_neg (by omega)]; exact HPK.out, ((HGO.out.2 w5 (fun _ _ => rfl) (Nat.le_refl _)).far (w' := W7.setRow g5 #[V5, O5]) (fun q h1 h2 => (setRow_other _ _ _ _ (by omega)).trans (HO7.out q h2)) (by have := HS7.out; simp [World.setRow]; omega)), HMORE.out, setRow_heap _ _ _ _ _ _ HXG7.out, below_setRowV HBB.out HGB.out _⟩
                · go_simp
                  have HA6 : Hid (Below wr.heap.size wr.drew (wr.alloc (.cells #[.slice none 0 0, .slice none 0 0] 45)).drew) := Lib.hid (stpA (Below.refl wr.drew.heap.size wr.drew) _)
                  have hS6 : (wr.alloc (.cells #[.slice none 0 0, .slice none 0 0] 45)).drew.cell? ⟨g5, 0, none⟩ = some Vn ∧ (wr.alloc (.cells #[.slice none 0 0, .slice none 0 0] 45)).drew.cell? ⟨g5, 1, none⟩ = some Vo ∧ (wr.alloc (.cells #[.slice none 0 0, .slice none 0 0] 45)).drew.cell? ⟨b0, off, none⟩ = some (.int .u8 (kd : Int)) ∧ (wr.alloc (.cells #[.slice none 0 0, .slice none 0 0] 45)).drew.cell? ⟨b0, off + 1, none⟩ = some (.string x) ∧ (wr.alloc (.cells #[.slice none 0 0, .slice none 0 0] 45)).drew.cell? ⟨b0, off + 2, none⟩ = some (.slice A1 na p1) ∧ (wr.alloc (.cells #[.slice none 0 0, .slice none 0 0] 45)).drew.cell? ⟨b0, off + 3, none⟩ = some (.string u) := ⟨(HA6.out.cell (p := ⟨g5, 0, none⟩) (by have := HGZ.out; exact (by omega : g5 < wr.heap.size))).trans hS.1, (HA6.out.cell (p := ⟨g5, 1, none⟩) (by have := HGZ.out; exact (by omega : g5 < wr.heap.size))).trans hS.2.1, (HA6.out.cell (p := ⟨b0, _, none⟩) (by have := HLT.out; have := HGZ.out; exact (by omega : b0 < wr.heap.size))).trans hS.2.2.1, (HA6.out.cell (p := ⟨b0, _, none⟩) (by have := HLT.out; have := HGZ.out; exact (by omega : b0 < wr.heap.size))).trans hS.2.2.2.1, (HA6.out.cell (p := ⟨b0, _, none⟩) (by have := HLT.out; have := HGZ.out; exact (by omega : b0 < wr.heap.size))).trans hS.2.2.2.2.1, (HA6.out.cell (p := ⟨b0, _, none⟩) (by have := HLT.out; have := HGZ.out; exact (by omega : b0 < wr.heap.size))).trans hS.2.2.2.2.2⟩
                  refine hK.out _ _ (fun _ => hS6) (fun _ => ?_)
                  clear hK K hS
                  try simp only [Act.put, List.setIfInBounds_toArray, List.set_cons_zero, List.set_cons_succ]
                  refine stepZ (i := 16) (by kernel_rfl) rfl (fun K hK => ?_)
                  go_simp
                  go_at_call 13; (with_reducible refine (HST.out _ HBA.out).mono ?_); rintro e5 w5 ⟨V5, O5, rfl, hb5, hgn, hgo⟩; have HB5 : Hid (Below (g5 + 1) (wr.alloc (.cells #[.slice none 0 0, .slice none 0 0] 45)).drew w5) := Lib.hid hb5; have HGO := Lib.hid hgo; have HN5 : Hid (w5.heap[wr.heap.size]? = some (.cells #[.slice none 0 0, .slice none 0 0] 45 (0, 0))) := Lib.hid (hgn _ (heap_alloc_new wr _)); clear hb5 hgo hgn
                  have hz5 : wr.heap.size ≤ w5.heap.size := Nat.le_trans HA6.out.size HB5.out.size
                  have hS5 : w5.cell? ⟨g5, 0, none⟩ = some Vn ∧ w5.cell? ⟨g5, 1, none⟩ = some Vo ∧ w5.cell? ⟨b0, off, none⟩ = some (.int .u8 (kd : Int)) ∧ w5.cell? ⟨b0, off + 1, none⟩ = some (.string x) ∧ w5.cell? ⟨b0, off + 2, none⟩ = some (.slice A1 na p1) ∧ w5.cell? ⟨b0, off + 3, none⟩ = some (.string u) := ⟨(HB5.out.cell (p := ⟨g5, 0, none⟩) (Nat.lt_succ_self _)).trans hS6.1, (HB5.out.cell (p := ⟨g5, 1, none⟩) (Nat.lt_succ_self _)).trans hS6.2.1, (HB5.out.cell (p := ⟨b0, _, none⟩) HLT.out).trans hS6.2.2.1, (HB5.out.cell (p := ⟨b0, _, none⟩) HLT.out).trans hS6.2.2.2.1, (HB5.out.cell (p := ⟨b0, _, none⟩) HLT.out).trans hS6.2.2.2.2.1, (HB5.out.cell (p := ⟨b0, _, none⟩) HLT.out).trans hS6.2.2.2.2.2⟩
                  have HXG5 : Hid (w5.heap[g5]? = some (.cells #[Vn, Vo] 45 (0, 0))) := Lib.hid ((HB5.out.block g5 (Nat.lt_succ_self _)).trans ((HA6.out.block g5 HGZ.out).trans HXG.out))
                  have HB05 : Hid (Below w.heap.size w w5) := Lib.hid ((HBW.out.trans (HBA.out.mono HBW.out.size)).trans (HB5.out.mono (by have := HGB.out; omega)))
                  go_wp2_with fail
                  refine hK.out _ _ (fun _ => hS5) (fun _ => ?_)
                  clear hK K hS6
                  try simp only [Act.put, List.setIfInBounds_toArray, List.set_cons_zero, List.set_cons_succ]
                  refine takeZ (i := 17) (v := .tuple #[.agg #[V5, O5], .int .i64 0]) rfl (by kernel_rfl) (by kernel_rfl) (by kernel_rfl) (by kernel_rfl) (fun _ _ _ h => h) (Or.inl ⟨by rfl, ?_⟩) hS5 ?_
                  · intro w' hSw; (try dsimp only at hSw); go_simp
                  try simp only [Act.put, List.setIfInBounds_toArray, List.set_cons_zero, List.set_cons_succ]
                  refine takeZ (i := 18) (v := .agg #[V5, O5]) rfl (by kernel_rfl) (by kernel_rfl) (by kernel_rfl) (by kernel_rfl) (fun _ _ _ h => h) (Or.inl ⟨by rfl, ?_⟩) hS5 ?_
                  · intro w' hSw; (try dsimp only at hSw); go_simp
                  try simp only [Act.put, List.setIfInBounds_toArray, List.set_cons_zero, List.set_cons_succ]
                  refine takeZ (i := 19) (v := .int .i64 0) rfl (by kernel_rfl) (by kernel_rfl) (by kernel_rfl) (by kernel_rfl) (fun _ _ _ h => h) (Or.inl ⟨by rfl, ?_⟩) hS5 ?_
                  · intro w' hSw; (try dsimp only at hSw); go_simp
                  try simp only [Act.put, List.setIfInBounds_toArray, List.set_cons_zero, List.set_cons_succ]
                  refine stepZ (i := 21) (by kernel_rfl) rfl (fun K hK => ?_)
                  rw [if_pos (by rfl)]
                  refine wp_store_row 45 (.tmp 7) (.tmp 48) rfl wr.heap.size #[V5, O5] rfl rfl 45 #[.slice none 0 0, .slice none 0 0] HN5.out infoGr rfl (by obtain ⟨_, _, _, _, _, _, rfl, rfl⟩ := HGO.out.1; simp [Value.oneCell']) ?_
                  obtain ⟨W7, hW7⟩ : ∃ W7, w5.setRow wr.heap.size #[V5, O5] = W7 := ⟨_, rfl⟩
                  rw [hW7]
                  have HX7 : Hid (W7.heap[wr.heap.size]? = some (.cells #[V5, O5] 45 (0, 0))) := Lib.hid (by rw [← hW7]; exact setRow_heap _ _ _ _ _ _ HN5.out)
                  have HO7 : Hid (∀ q, q ≠ wr.heap.size → W7.heap[q]? = w5.heap[q]?) := Lib.hid fun q h2 => by rw [← hW7]; exact setRow_other _ _ _ _ h2
                  have HS7 : Hid (w5.heap.size ≤ W7.heap.size) := Lib.hid (by rw [← hW7]; simp [World.setRow])
                  have HB7 : Hid (Below wr.heap.size w5 W7) := Lib.hid (by rw [← hW7]; exact below_setRowV (Below.refl _ _) (Nat.le_refl _) _)
                  have hS7 : W7.cell? ⟨g5, 0, none⟩ = some Vn ∧ W7.cell? ⟨g5, 1, none⟩ = some Vo ∧ W7.cell? ⟨b0, off, none⟩ = some (.int .u8 (kd : Int)) ∧ W7.cell? ⟨b0, off + 1, none⟩ = some (.string x) ∧ W7.cell? ⟨b0, off + 2, none⟩ = some (.slice A1 na p1) ∧ W7.cell? ⟨b0, off + 3, none⟩ = some (.string u) := ⟨(HB7.out.cell (p := ⟨g5, 0, none⟩) HGZ.out).trans hS5.1, (HB7.out.cell (p := ⟨g5, 1, none⟩) HGZ.out).trans hS5.2.1, (HB7.out.cell (p := ⟨b0, _, none⟩) (Nat.lt_of_lt_of_le HLT.out (Nat.succ_le_of_lt HGZ.out))).trans hS5.2.2.1, (HB7.out.cell (p := ⟨b0, _, none⟩) (Nat.lt_of_lt_of_le HLT.out (Nat.succ_le_of_lt HGZ.out))).trans hS5.2.2.2.1, (HB7.out.cell (p := ⟨b0, _, none⟩) (Nat.lt_of_lt_of_le HLT.out (Nat.succ_le_of_lt HGZ.out))).trans hS5.2.2.2.2.1, (HB7.out.cell (p := ⟨b0, _, none⟩) (Nat.lt_of_lt_of_le HLT.out (Nat.succ_le_of_lt HGZ.out))).trans hS5.2.2.2.2.2⟩
                  have HXG7 : Hid (W7.heap[g5]? = some (.cells #[Vn, Vo] 45 (0, 0))) := Lib.hid ((HB7.out.block g5 HGZ.out).trans HXG5.out)
                  have HBB : Hid (Below w.heap.size w W7) := Lib.hid (HB05.out.trans (HB7.out.mono HBW.out.size))
                  refine hK.out _ _ (fun _ => hS7) (fun _ => ?_)
                  clear hK K hS5 hW7
                  try simp only [Act.put]
                  refine stepZ (i := 22) (by kernel_rfl) rfl (fun K hK => ?_)
                  go_simp
                  refine hK.out _ _ (fun h => absurd rfl h) (fun _ => ?_)
                  clear hK K hS7 c0 c1 hz5
                  try simp only [Act.put, List.setIfInBounds_toArray, List.set_cons_zero, List.set_cons_succ]
                  refine doneZ (by kernel_rfl) ?_ _
                  refine NoPanic.normal ?_
                  go_wp2_with (first
                    | (refine wpList_load_row rfl _ _ rfl wr.heap.size rfl 45 #[V5, O5] (0, 0) _ HX7.out Tryd.underlying45 rfl infoGr ?_)
                    | (refine wpList_store_row rfl _ _ _ rfl g5 #[V5, O5] rfl rfl 45 #[Vn, Vo] HXG7.out infoGr rfl (by obtain ⟨_, _, _, _, _, _, rfl, rfl⟩ := HGO.out.1; simp [Value.oneCell']) ?_)
                    | fail)
                  go_roundg (gk - 1)
                  case measure => omega
                  case rel => exact ⟨0 + 1, s', decide (t.kind = 4), V5, O5, by omega, by go_num, HRUN.out, by rw [if_neg (by omega)]; exact HPK.out, ((HGO.out.2 W7 HO7.out HS7.out).far (w' := W7.setRow g5 #[V5, O5]) (fun q h1 h2 => setRow_other _ _ _ _ (by omega)) (by simp [World.setRow])), HMORE.out, setRow_heap _ _ _ _ _ _ HXG7.out, below_setRowV HBB.out HGB.out _⟩
              · obtain ⟨jp, rfl⟩ : ∃ jp, k = jp + 1 := ⟨k - 1, by omega⟩
                rw [if_neg (by omega), Nat.add_sub_cancel] at hpk
                obtain ⟨kp, hkp, qp⟩ := hsome jp (by omega)
                have hbp : bb = decide (kp = 4) := by
                  rw [← Option.some.injEq, ← hpk]
                  cases hts : ts[jp]? with
                  | none => rw [hts] at hkp; cases hkp
                  | some t2 => rw [hts] at hkp; injection hkp with hkp; rw [← hkp]; rfl
                have hbq : ((kp : Int) == 4) = bb := by rw [hbp]; by_cases h : kp = 4 <;> simp [h]; omega
                have bj : (0 : Int) ≤ (jp : Int) ∧ (jp : Int) + 1 < (j : Int) ∧ (j : Int) ≤ 512 := by omega
                have wj : IntKind.i64.wrap ((jp : Int) + 1 - 1) = (jp : Int) := by rw [IntWalk.i64_in _ (by omega)]; omega
                clear hsj hkj hc0 hc1 hc2 hc3 hTA hst hdr hrun hgo hps hxg hbw hb0 HS0 hx hsome hna hkd hbp hkp hpk
                go_wp2_with fail
                refine wp_region_noPanic ?_
                refine wp_region_Z (fun W => W.cell? ⟨g5, 0, none⟩ = some Vn ∧ W.cell? ⟨g5, 1, none⟩ = some Vo ∧ W.cell? ⟨b0, off + (jp + 1) * 4, none⟩ = some (.int .u8 (kd : Int)) ∧ W.cell? ⟨b0, off + (jp + 1) * 4 + 1, none⟩ = some (.string x) ∧ W.cell? ⟨b0, off + (jp + 1) * 4 + 2, none⟩ = some (.slice A1 na p1) ∧ W.cell? ⟨b0, off + (jp + 1) * 4 + 3, none⟩ = some (.string u) ∧ W.cell? ⟨b0, off + jp * 4, none⟩ = some (.int .u8 (kp : Int))) 22 (by kernel_rfl) ?_
                have hS : wr.drew.cell? ⟨g5, 0, none⟩ = some Vn ∧ wr.drew.cell? ⟨g5, 1, none⟩ = some Vo ∧ wr.drew.cell? ⟨b0, off + (jp + 1) * 4, none⟩ = some (.int .u8 (kd : Int)) ∧ wr.drew.cell? ⟨b0, off + (jp + 1) * 4 + 1, none⟩ = some (.string x) ∧ wr.drew.cell? ⟨b0, off + (jp + 1) * 4 + 2, none⟩ = some (.slice A1 na p1) ∧ wr.drew.cell? ⟨b0, off + (jp + 1) * 4 + 3, none⟩ = some (.string u) ∧ wr.drew.cell? ⟨b0, off + jp * 4, none⟩ = some (.int .u8 (kp : Int)) := ⟨c0, c1, q0, q1, q2, q3, qp⟩
                refine takeZ (i := 0) (v := .agg #[Vn, Vo]) rfl (by kernel_rfl) (by kernel_rfl) (by kernel_rfl) (by kernel_rfl) (fun _ _ _ h => h) (Or.inl ⟨by rfl, ?_⟩) hS ?_
                · intro w' hSw; (try dsimp only at hSw); go_simp
                try simp only [Act.put, List.setIfInBounds_toArray, List.set_cons_zero, List.set_cons_succ]
                refine takeZ (i := 1) (v := .slice (some ⟨b0, off, none⟩) j c) rfl (by kernel_rfl) (by kernel_rfl) (by kernel_rfl) (by kernel_rfl) (fun _ _ _ h => h) (Or.inl ⟨by rfl, ?_⟩) hS ?_
                · intro w' hSw; (try dsimp only at hSw); go_simp
                try simp only [Act.put, List.setIfInBounds_toArray, List.set_cons_zero, List.set_cons_succ]
                refine takeZ (i := 2) (v := .int .i64 ((jp : Int) + 1)) rfl (by kernel_rfl) (by kernel_rfl) (by kernel_rfl) (by kernel_rfl) (fun _ _ _ h => h) (Or.inl ⟨by rfl, ?_⟩) hS ?_
                · intro w' hSw; (try dsimp only at hSw); go_simp
                try simp only [Act.put, List.setIfInBounds_toArray, List.set_cons_zero, List.set_cons_succ]
                refine takeZ (i := 3) (v := .pointer (some ⟨b0, off + (jp + 1) * 4, none⟩)) rfl (by kernel_rfl) (by kernel_rfl) (by kernel_rfl) (by kernel_rfl) (fun _ _ _ h => h) (Or.inl ⟨by rfl, ?_⟩) hS ?_
                · intro w' hSw; (try dsimp only at hSw); (go_simp <;> first | (intro h9; exfalso; omega) | exact IntWalk.i64_in _ (by omega))
                try simp only [Act.put, List.setIfInBounds_toArray, List.set_cons_zero, List.set_cons_succ]
                refine takeZ (i := 4) (v := .agg #[.int .u8 (kd : Int), .string x, .slice A1 na p1, .string u]) rfl (by kernel_rfl) (by kernel_rfl) (by kernel_rfl) (by kernel_rfl) (fun _ _ _ h => h) (Or.inl ⟨by rfl, ?_⟩) hS ?_
                · intro w' hSw; (try dsimp only at hSw); go_simp
                try simp only [Act.put, List.setIfInBounds_toArray, List.set_cons_zero, List.set_cons_succ]
                refine takeZ (i := 5) (v := .int .i64 ((jp : Int) + 1)) rfl (by kernel_rfl) (by kernel_rfl) (by kernel_rfl) (by kernel_rfl) (fun _ _ _ h => h) (Or.inl ⟨by rfl, ?_⟩) hS ?_
                · intro w' hSw; (try dsimp only at hSw); go_simp
                try simp only [Act.put, List.setIfInBounds_toArray, List.set_cons_zero, List.set_cons_succ]
                refine takeZ (i := 6) (v := .bool true) rfl (by kernel_rfl) (by kernel_rfl) (by kernel_rfl) (by kernel_rfl) (fun _ _ _ h => h) (Or.inl ⟨by rfl, ?_⟩) hS ?_
                · intro w' hSw; (try dsimp only at hSw); go_simp
                try simp only [Act.put, List.setIfInBounds_toArray, List.set_cons_zero, List.set_cons_succ]
                refine takeZ (i := 7) (v := .bool true) rfl (by kernel_rfl) (by kernel_rfl) (by kernel_rfl) (by kernel_rfl) (fun _ _ _ h => h) (Or.inl ⟨by rfl, ?_⟩) hS ?_
                · intro w' hSw; (try dsimp only at hSw); go_simp
                try simp only [Act.put, List.setIfInBounds_toArray, List.set_cons_zero, List.set_cons_succ]
                refine takeZ (i := 8) (v := .slice (some ⟨b0, off, none⟩) j c) rfl (by kernel_rfl) (by kernel_rfl) (by kernel_rfl) (by kernel_rfl) (fun _ _ _ h => h) (Or.inl ⟨by rfl, ?_⟩) hS ?_
                · intro w' hSw; (try dsimp only at hSw); go_simp
                try simp only [Act.put, List.setIfInBounds_toArray, List.set_cons_zero, List.set_cons_succ]
                refine takeZ (i := 9) (v := .int .i64 ((jp : Int) + 1)) rfl (by kernel_rfl) (by kernel_rfl) (by kernel_rfl) (by kernel_rfl) (fun _ _ _ h => h) (Or.inl ⟨by rfl, ?_⟩) hS ?_
                · intro w' hSw; (try dsimp only at hSw); go_simp
                try simp only [Act.put, List.setIfInBounds_toArray, List.set_cons_zero, List.set_cons_succ]
                refine takeZ (i := 10) (v := .int .i64 (jp : Int)) rfl (by kernel_rfl) (by kernel_rfl) (by kernel_rfl) (by kernel_rfl) (fun _ _ _ h => h) (Or.inl ⟨by rfl, ?_⟩) hS ?_
                · intro w' hSw; (try dsimp only at hSw); (go_simp <;> first | (intro h9; exfalso; omega) | exact IntWalk.i64_in _ (by omega))
                try simp only [Act.put, List.setIfInBounds_toArray, List.set_cons_zero, List.set_cons_succ]
                refine takeZ (i := 11) (v := .pointer (some ⟨b0, off + jp * 4, none⟩)) rfl (by kernel_rfl) (by kernel_rfl) (by kernel_rfl) (by kernel_rfl) (fun _ _ _ h => h) (Or.inl ⟨by rfl, ?_⟩) hS ?_
                · intro w' hSw; (try dsimp only at hSw); (go_simp <;> first | (intro h9; exfalso; omega) | exact IntWalk.i64_in _ (by omega))
                try simp only [Act.put, List.setIfInBounds_toArray, List.set_cons_zero, List.set_cons_succ]
                refine takeZ (i := 12) (v := .pointer (some ⟨b0, off + jp * 4, none⟩)) rfl (by kernel_rfl) (by kernel_rfl) (by kernel_rfl) (by kernel_rfl) (fun _ _ _ h => h) (Or.inl ⟨by rfl, ?_⟩) hS ?_
                · intro w' hSw; (try dsimp only at hSw); go_simp
                try simp only [Act.put, List.setIfInBounds_toArray, List.set_cons_zero, List.set_cons_succ]
                refine takeZ (i := 13) (v := .int .u8 (kp : Int)) rfl (by kernel_rfl) (by kernel_rfl) (by kernel_rfl) (by kernel_rfl) (fun _ _ _ h => h) (Or.inl ⟨by rfl, ?_⟩) hS ?_
                · intro w' hSw; (try dsimp only at hSw); go_simp
                try simp only [Act.put, List.setIfInBounds_toArray, List.set_cons_zero, List.set_cons_succ]
                refine takeZ (i := 14) (v := .bool bb) rfl (by kernel_rfl) (by kernel_rfl) (by kernel_rfl) (by kernel_rfl) (fun _ _ _ h => h) (Or.inl ⟨by rfl, ?_⟩) hS ?_
                · intro w' hSw; (try dsimp only at hSw); go_simp
                try simp only [Act.put, List.setIfInBounds_toArray, List.set_cons_zero, List.set_cons_succ]
                refine takeZ (i := 15) (v := .bool bb) rfl (by kernel_rfl) (by kernel_rfl) (by kernel_rfl) (by kernel_rfl) (fun _ _ _ h => h) (Or.inl ⟨by rfl, ?_⟩) hS ?_
                · intro w' hSw; (try dsimp only at hSw); go_simp
                try simp only [Act.put, List.setIfInBounds_toArray, List.set_cons_zero, List.set_cons_succ]
                refine stepZ2 (i := 16) (j := 20) (by kernel_rfl) rfl rfl (fun K hK => ?_) (fun K hK => ?_)
                · go_simp
                  go_at_call 13; (with_reducible refine (HST.out _ HBD.out).mono ?_); rintro e5 w5 ⟨V5, O5, rfl, hb5, hgn, hgo⟩; have HB5 : Hid (Below (g5 + 1) wr.drew w5) := Lib.hid hb5; have HGO := Lib.hid hgo; clear hb5 hgo hgn
                  have hz5 : wr.heap.size ≤ w5.heap.size := HB5.out.size
                  have hS5 : w5.cell? ⟨g5, 0, none⟩ = some Vn ∧ w5.cell? ⟨g5, 1, none⟩ = some Vo ∧ w5.cell? ⟨b0, off + (jp + 1) * 4, none⟩ = some (.int .u8 (kd : Int)) ∧ w5.cell? ⟨b0, off + (jp + 1) * 4 + 1, none⟩ = some (.string x) ∧ w5.cell? ⟨b0, off + (jp + 1) * 4 + 2, none⟩ = some (.slice A1 na p1) ∧ w5.cell? ⟨b0, off + (jp + 1) * 4 + 3, none⟩ = some (.string u) ∧ w5.cell? ⟨b0, off + jp * 4, none⟩ = some (.int .u8 (kp : Int)) := ⟨(HB5.out.cell (p := ⟨g5, 0, none⟩) (Nat.lt_succ_self _)).trans hS.1, (HB5.out.cell (p := ⟨g5, 1, none⟩) (Nat.lt_succ_self _)).trans hS.2.1, (HB5.out.cell (p := ⟨b0, _, none⟩) HLT.out).trans hS.2.2.1, (HB5.out.cell (p := ⟨b0, _, none⟩) HLT.out).trans hS.2.2.2.1, (HB5.out.cell (p := ⟨b0, _, none⟩) HLT.out).trans hS.2.2.2.2.1, (HB5.out.cell (p := ⟨b0, _, none⟩) HLT.out).trans hS.2.2.2.2.2.1, (HB5.out.cell (p := ⟨b0, _, none⟩) HLT.out).trans hS.2.2.2.2.2.2⟩
                  have HXG5 : Hid (w5.heap[g5]? = some (.cells #[Vn, Vo] 45 (0, 0))) := Lib.hid ((HB5.out.block g5 (Nat.lt_succ_self _)).trans HXG.out)
                  have HB05 : Hid (Below w.heap.size w w5) := Lib.hid ((HBW.out.trans (Below.refl _ _).drew).trans (HB5.out.mono (by have := HGB.out; omega)))
                  go_wp2_with fail
                  refine hK.out _ _ (fun _ => hS5) (fun _ => ?_)
                  clear hK K hS
                  try simp only [Act.put, List.setIfInBounds_toArray, List.set_cons_zero, List.set_cons_succ]
                  refine takeZ (i := 17) (v := .tuple #[.agg #[V5, O5], .int .i64 0]) rfl (by kernel_rfl) (by kernel_rfl) (by kernel_rfl) (by kernel_rfl) (fun _ _ _ h => h) (Or.inl ⟨by rfl, ?_⟩) hS5 ?_
                  · intro w' hSw; (try dsimp only at hSw); go_simp
                  try simp only [Act.put, List.setIfInBounds_toArray, List.set_cons_zero, List.set_cons_succ]
                  refine takeZ (i := 18) (v := .agg #[V5, O5]) rfl (by kernel_rfl) (by kernel_rfl) (by kernel_rfl) (by kernel_rfl) (fun _ _ _ h => h) (Or.inl ⟨by rfl, ?_⟩) hS5 ?_
                  · intro w' hSw; (try dsimp only at hSw); go_simp
                  try simp only [Act.put, List.setIfInBounds_toArray, List.set_cons_zero, List.set_cons_succ]
                  refine takeZ (i := 19) (v := .int .i64 0) rfl (by kernel_rfl) (by kernel_rfl) (by kernel_rfl) (by kernel_rfl) (fun _ _ _ h => h) (Or.inl ⟨by rfl, ?_⟩) hS5 ?_
                  · intro w' hSw; (try dsimp only at hSw); go_simp
                  try simp only [Act.put, List.setIfInBounds_toArray, List.set_cons_zero, List.set_cons_succ]
                  refine stepZ (i := 20) (by kernel_rfl) rfl (fun K hK => ?_)
                  go_simp
                  have HA6 : Hid (Below w5.heap.size w5 (w5.alloc (.cells #[.slice none 0 0, .slice none 0 0] 45))) := Lib.hid (stpA (Below.refl _ _) _)
                  have hS6 : (w5.alloc (.cells #[.slice none 0 0, .slice none 0 0] 45)).cell? ⟨g5, 0, none⟩ = some Vn ∧ (w5.alloc (.cells #[.slice none 0 0, .slice none 0 0] 45)).cell? ⟨g5, 1, none⟩ = some Vo ∧ (w5.alloc (.cells #[.slice none 0 0, .slice none 0 0] 45)).cell? ⟨b0, off + (jp + 1) * 4, none⟩ = some (.int .u8 (kd : Int)) ∧ (w5.alloc (.cells #[.slice none 0 0, .slice none 0 0] 45)).cell? ⟨b0, off + (jp + 1) * 4 + 1, none⟩ = some (.string x) ∧ (w5.alloc (.cells #[.slice none 0 0, .slice none 0 0] 45)).cell? ⟨b0, off + (jp + 1) * 4 + 2, none⟩ = some (.slice A1 na p1) ∧ (w5.alloc (.cells #[.slice none 0 0, .slice none 0 0] 45)).cell? ⟨b0, off + (jp + 1) * 4 + 3, none⟩ = some (.string u) ∧ (w5.alloc (.cells #[.slice none 0 0, .slice none 0 0] 45)).cell? ⟨b0, off + jp * 4, none⟩ = some (.int .u8 (kp : Int)) := ⟨(HA6.out.cell (p := ⟨g5, 0, none⟩) (by have := HGZ.out; exact (by omega : g5 < w5.heap.size))).trans hS5.1, (HA6.out.cell (p := ⟨g5, 1, none⟩) (by have := HGZ.out; exact (by omega : g5 < w5.heap.size))).trans hS5.2.1, (HA6.out.cell (p := ⟨b0, _, none⟩) (by have := HLT.out; have := HGZ.out; exact (by omega : b0 < w5.heap.size))).trans hS5.2.2.1, (HA6.out.cell (p := ⟨b0, _, none⟩) (by have := HLT.out; have := HGZ.out; exact (by omega : b0 < w5.heap.size))).trans hS5.2.2.2.1, (HA6.out.cell (p := ⟨b0, _, none⟩) (by have := HLT.out; have := HGZ.out; exact (by omega : b0 < w5.heap.size))).trans hS5.2.2.2.2.1, (HA6.out.cell (p := ⟨b0, _, none⟩) (by have := HLT.out; have := HGZ.out; exact (by omega : b0 < w5.heap.size))).trans hS5.2.2.2.2.2.1, (HA6.out.cell (p := ⟨b0, _, none⟩) (by have := HLT.out; have := HGZ.out; exact (by omega : b0 < w5.heap.size))).trans hS5.2.2.2.2.2.2⟩
                  refine hK.out _ _ (fun _ => hS6) (fun _ => ?_)
                  clear hK K
                  try simp only [Act.put, List.setIfInBounds_toArray, List.set_cons_zero, List.set_cons_succ]
                  refine stepZ (i := 21) (by kernel_rfl) rfl (fun K hK => ?_)
                  rw [if_pos (by rfl)]
                  refine wp_store_row 45 (.tmp 7) (.tmp 48) rfl w5.heap.size #[V5, O5] rfl rfl 45 #[.slice none 0 0, .slice none 0 0] (heap_alloc_new w5 _) infoGr rfl (by obtain ⟨_, _, _, _, _, _, rfl, rfl⟩ := HGO.out.1; simp [Value.oneCell']) ?_
                  obtain ⟨W7, hW7⟩ : ∃ W7, (w5.alloc (.cells #[.slice none 0 0, .slice none 0 0] 45)).setRow w5.heap.size #[V5, O5] = W7 := ⟨_, rfl⟩
                  rw [hW7]
                  have HX7 : Hid (W7.heap[w5.heap.size]? = some (.cells #[V5, O5] 45 (0, 0))) := Lib.hid (by rw [← hW7]; exact setRow_heap _ _ _ _ _ _ (heap_alloc_new w5 _))
                  have HO7 : Hid (∀ q, q < w5.heap.size → W7.heap[q]? = w5.heap[q]?) := Lib.hid fun q h2 => by rw [← hW7]; exact (setRow_other _ _ _ _ (by omega)).trans (HA6.out.block q h2)
                  have HS7 : Hid (w5.heap.size ≤ W7.heap.size) := Lib.hid (by rw [← hW7]; simp [World.setRow])
                  have HB7 : Hid (Below wr.heap.size w5 W7) := Lib.hid (by rw [← hW7]; exact below_setRowV (HA6.out.mono hz5) hz5 _)
                  have hS7 : W7.cell? ⟨g5, 0, none⟩ = some Vn ∧ W7.cell? ⟨g5, 1, none⟩ = some Vo ∧ W7.cell? ⟨b0, off + (jp + 1) * 4, none⟩ = some (.int .u8 (kd : Int)) ∧ W7.cell? ⟨b0, off + (jp + 1) * 4 + 1, none⟩ = some (.string x) ∧ W7.cell? ⟨b0, off + (jp + 1) * 4 + 2, none⟩ = some (.slice A1 na p1) ∧ W7.cell? ⟨b0, off + (jp + 1) * 4 + 3, none⟩ = some (.string u) ∧ W7.cell? ⟨b0, off + jp * 4, none⟩ = some (.int .u8 (kp : Int)) := ⟨(HB7.out.cell (p := ⟨g5, 0, none⟩) HGZ.out).trans hS5.1, (HB7.out.cell (p := ⟨g5, 1, none⟩) HGZ.out).trans hS5.2.1, (HB7.out.cell (p := ⟨b0, _, none⟩) (Nat.lt_of_lt_of_le HLT.out (Nat.succ_le_of_lt HGZ.out))).trans hS5.2.2.1, (HB7.out.cell (p := ⟨b0, _, none⟩) (Nat.lt_of_lt_of_le HLT.out (Nat.succ_le_of_lt HGZ.out))).trans hS5.2.2.2.1, (HB7.out.cell (p := ⟨b0, _, none⟩) (Nat.lt_of_lt_of_le HLT.out (Nat.succ_le_of_lt HGZ.out))).trans hS5.2.2.2.2.1, (HB7.out.cell (p := ⟨b0, _, none⟩) (Nat.lt_of_lt_of_le HLT.out (Nat.succ_le_of_lt HGZ.out))).trans hS5.2.2.2.2.2.1, (HB7.out.cell (p := ⟨b0, _, none⟩) (Nat.lt_of_lt_of_le HLT.out (Nat.succ_le_of_lt HGZ.out))).trans hS5.2.2.2.2.2.2⟩
                  have HXG7 : Hid (W7.heap[g5]? = some (.cells #[Vn, Vo] 45 (0, 0))) := Lib.hid ((HB7.out.block g5 HGZ.out).trans HXG5.out)
                  have HBB : Hid (Below w.heap.size w W7) := Lib.hid (HB05.out.trans (HB7.out.mono HBW.out.size))
                  refine hK.out _ _ (fun _ => hS7) (fun _ => ?_)
                  clear hK K hS5 hS6 hW7
                  try simp only [Act.put]
                  refine stepZ (i := 22) (by kernel_rfl) rfl (fun K hK => ?_)
                  go_simp
                  refine hK.out _ _ (fun h => absurd rfl h) (fun _ => ?_)
                  clear hK K hS7 c0 c1 hz5
                  try simp only [Act.put, List.setIfInBounds_toArray, List.set_cons_zero, List.set_cons_succ]
                  refine doneZ (by kernel_rfl) ?_ _
                  refine NoPanic.normal ?_
                  go_wp2_with (first
                    | (refine wpList_load_row rfl _ _ rfl w5.heap.size rfl 45 #[V5, O5] (0, 0) _ HX7.out Tryd.underlying45 rfl infoGr ?_)
                    | (refine wpList_store_row rfl _ _ _ rfl g5 #[V5, O5] rfl rfl 45 #[Vn, Vo] HXG7.out infoGr rfl (by obtain ⟨_, _, _, _, _, _, rfl, rfl⟩ := HGO.out.1; simp [Value.oneCell']) ?_)
                    | fail)
                  go_roundg (gk - 1)
                  case measure => omega
                  case rel => exact ⟨(jp + 1) + 1, s', decide (t.kind = 4), V5, O5, by omega, by go_num, HRUN.out, by rw [if_neg (by omega)]; exact HPK.out, ((HGO.out.2 w5 (fun _ _ => rfl) (Nat.le_refl _)).far (w' := W7.setRow g5 #[V5, O5]) (fun q h1 h2 => (setRow_other _ _ _ _ (by omega)).trans (HO7.out q h2)) (by have := HS7.out; simp [World.setRow]; omega)), HMORE.out, setRow_heap _ _ _ _ _ _ HXG7.out, below_setRowV HBB.out HGB.out _⟩
                · go_simp
                  have HA6 : Hid (Below wr.heap.size wr.drew (wr.alloc (.cells #[.slice none 0 0, .slice none 0 0] 45)).drew) := Lib.hid (stpA (Below.refl wr.drew.heap.size wr.drew) _)
                  have hS6 : (wr.alloc (.cells #[.slice none 0 0, .slice none 0 0] 45)).drew.cell? ⟨g5, 0, none⟩ = some Vn ∧ (wr.alloc (.cells #[.slice none 0 0, .slice none 0 0] 45)).drew.cell? ⟨g5, 1, none⟩ = some Vo ∧ (wr.alloc (.cells #[.slice none 0 0, .slice none 0 0] 45)).drew.cell? ⟨b0, off + (jp + 1) * 4, none⟩ = some (.int .u8 (kd : Int)) ∧ (wr.alloc (.cells #[.slice none 0 0, .slice none 0 0] 45)).drew.cell? ⟨b0, off + (jp + 1) * 4 + 1, none⟩ = some (.string x) ∧ (wr.alloc (.cells #[.slice none 0 0, .slice none 0 0] 45)).drew.cell? ⟨b0, off + (jp + 1) * 4 + 2, none⟩ = some (.slice A1 na p1) ∧ (wr.alloc (.cells #[.slice none 0 0, .slice none 0 0] 45)).drew.cell? ⟨b0, off + (jp + 1) * 4 + 3, none⟩ = some (.string u) ∧ (wr.alloc (.cells #[.slice none 0 0, .slice none 0 0] 45)).drew.cell? ⟨b0, off + jp * 4, none⟩ = some (.int .u8 (kp : Int)) := ⟨(HA6.out.cell (p := ⟨g5, 0, none⟩) (by have := HGZ.out; exact (by omega : g5 < wr.heap.size))).trans hS.1, (HA6.out.cell (p := ⟨g5, 1, none⟩) (by have := HGZ.out; exact (by omega : g5 < wr.heap.size))).trans hS.2.1, (HA6.out.cell (p := ⟨b0, _, none⟩) (by have := HLT.out; have := HGZ.out; exact (by omega : b0 < wr.heap.size))).trans hS.2.2.1, (HA6.out.cell (p := ⟨b0, _, none⟩) (by have := HLT.out; have := HGZ.out; exact (by omega : b0 < wr.heap.size))).trans hS.2.2.2.1, (HA6.out.cell (p := ⟨b0, _, none⟩) (by have := HLT.out; have := HGZ.out; exact (by omega : b0 < wr.heap.size))).trans hS.2.2.2.2.1, (HA6.out.cell (p := ⟨b0, _, none⟩) (by have := HLT.out; have := HGZ.out; exact (by omega : b0 < wr.heap.size))).trans hS.2.2.2.2.2.1, (HA6.out.cell (p := ⟨b0, _, none⟩) (by have := HLT.out; have := HGZ.out; exact (by omega : b0 < wr.heap.size))).trans hS.2.2.2.2.2.2⟩
                  refine hK.out _ _ (fun _ => hS6) (fun _ => ?_)
                  clear hK K hS
                  try simp only [Act.put, List.setIfInBounds_toArray, List.set_cons_zero, List.set_cons_succ]
                  refine stepZ (i := 16) (by kernel_rfl) rfl (fun K hK => ?_)
                  go_simp
                  go_at_call 13; (with_reducible refine (HST.out _ HBA.out).mono ?_); rintro e5 w5 ⟨V5, O5, rfl, hb5, hgn, hgo⟩; have HB5 : Hid (Below (g5 + 1) (wr.alloc (.cells #[.slice none 0 0, .slice none 0 0] 45)).drew w5) := Lib.hid hb5; have HGO := Lib.hid hgo; have HN5 : Hid (w5.heap[wr.heap.size]? = some (.cells #[.slice none 0 0, .slice none 0 0] 45 (0, 0))) := Lib.hid (hgn _ (heap_alloc_new wr _)); clear hb5 hgo hgn
                  have hz5 : wr.heap.size ≤ w5.heap.size := Nat.le_trans HA6.out.size HB5.out.size
                  have hS5 : w5.cell? ⟨g5, 0, none⟩ = some Vn ∧ w5.cell? ⟨g5, 1, none⟩ = some Vo ∧ w5.cell? ⟨b0, off + (jp + 1) * 4, none⟩ = some (.int .u8 (kd : Int)) ∧ w5.cell? ⟨b0, off + (jp + 1) * 4 + 1, none⟩ = some (.string x) ∧ w5.cell? ⟨b0, off + (jp + 1) * 4 + 2, none⟩ = some (.slice A1 na p1) ∧ w5.cell? ⟨b0, off + (jp + 1) * 4 + 3, none⟩ = some (.string u) ∧ w5.cell? ⟨b0, off + jp * 4, none⟩ = some (.int .u8 (kp : Int)) := ⟨(HB5.out.cell (p := ⟨g5, 0, none⟩) (Nat.lt_succ_self _)).trans hS6.1, (HB5.out.cell (p := ⟨g5, 1, none⟩) (Nat.lt_succ_self _)).trans hS6.2.1, (HB5.out.cell (p := ⟨b0, _, none⟩) HLT.out).trans hS6.2.2.1, (HB5.out.cell (p := ⟨b0, _, none⟩) HLT.out).trans hS6.2.2.2.1, (HB5.out.cell (p := ⟨b0, _, none⟩) HLT.out).trans hS6.2.2.2.2.1, (HB5.out.cell (p := ⟨b0, _, none⟩) HLT.out).trans hS6.2.2.2.2.2.1, (HB5.out.cell (p := ⟨b0, _, none⟩) HLT.out).trans hS6.2.2.2.2.2.2⟩
                  have HXG5 : Hid (w5.heap[g5]? = some (.cells #[Vn, Vo] 45 (0, 0))) := Lib.hid ((HB5.out.block g5 (Nat.lt_succ_self _)).trans ((HA6.out.block g5 HGZ.out).trans HXG.out))
                  have HB05 : Hid (Below w.heap.size w w5) := Lib.hid ((HBW.out.trans (HBA.out.mono HBW.out.size)).trans (HB5.out.mono (by have := HGB.out; omega)))
                  go_wp2_with fail
                  refine hK.out _ _ (fun _ => hS5) (fun _ => ?_)
                  clear hK K hS6
                  try simp only [Act.put, List.setIfInBounds_toArray, List.set_cons_zero, List.set_cons_succ]
                  refine takeZ (i := 17) (v := .tuple #[.agg #[V5, O5], .int .i64 0]) rfl (by kernel_rfl) (by kernel_rfl) (by kernel_rfl) (by kernel_rfl) (fun _ _ _ h => h) (Or.inl ⟨by rfl, ?_⟩) hS5 ?_
                  · intro w' hSw; (try dsimp only at hSw); go_simp
                  try simp only [Act.put, List.setIfInBounds_toArray, List.set_cons_zero, List.set_cons_succ]
                  refine takeZ (i := 18) (v := .agg #[V5, O5]) rfl (by kernel_rfl) (by kernel_rfl) (by kernel_rfl) (by kernel_rfl) (fun _ _ _ h => h) (Or.inl ⟨by rfl, ?_⟩) hS5 ?_
                  · intro w' hSw; (try dsimp only at hSw); go_simp
                  try simp only [Act.put, List.setIfInBounds_toArray, List.set_cons_zero, List.set_cons_succ]
                  refine takeZ (i := 19) (v := .int .i64 0) rfl (by kernel_rfl) (by kernel_rfl) (by kernel_rfl) (by kernel_rfl) (fun _ _ _ h => h) (Or.inl ⟨by rfl, ?_⟩) hS5 ?_
                  · intro w' hSw; (try dsimp only at hSw); go_simp
                  try simp only [Act.put, List.setIfInBounds_toArray, List.set_cons_zero, List.set_cons_succ]
                  refine stepZ (i := 21) (by kernel_rfl) rfl (fun K hK => ?_)
                  rw [if_pos (by rfl)]
                  refine wp_store_row 45 (.tmp 7) (.tmp 48) rfl wr.heap.size #[V5, O5] rfl rfl 45 #[.slice none 0 0, .slice none 0 0] HN5.out infoGr rfl (by obtain ⟨_, _, _, _, _, _, rfl, rfl⟩ := HGO.out.1; simp [Value.oneCell']) ?_
                  obtain ⟨W7, hW7⟩ : ∃ W7, w5.setRow wr.heap.size #[V5, O5] = W7 := ⟨_, rfl⟩
                  rw [hW7]
                  have HX7 : Hid (W7.heap[wr.heap.size]? = some (.cells #[V5, O5] 45 (0, 0))) := Lib.hid (by rw [← hW7]; exact setRow_heap _ _ _ _ _ _ HN5.out)
                  have HO7 : Hid (∀ q, q ≠ wr.heap.size → W7.heap[q]? = w5.heap[q]?) := Lib.hid fun q h2 => by rw [← hW7]; exact setRow_other _ _ _ _ h2
                  have HS7 : Hid (w5.heap.size ≤ W7.heap.size) := Lib.hid (by rw [← hW7]; simp [World.setRow])
                  have HB7 : Hid (Below wr.heap.size w5 W7) := Lib.hid (by rw [← hW7]; exact below_setRowV (Below.refl _ _) (Nat.le_refl _) _)
                  have hS7 : W7.cell? ⟨g5, 0, none⟩ = some Vn ∧ W7.cell? ⟨g5, 1, none⟩ = some Vo ∧ W7.cell? ⟨b0, off + (jp + 1) * 4, none⟩ = some (.int .u8 (kd : Int)) ∧ W7.cell? ⟨b0, off + (jp + 1) * 4 + 1, none⟩ = some (.string x) ∧ W7.cell? ⟨b0, off + (jp + 1) * 4 + 2, none⟩ = some (.slice A1 na p1) ∧ W7.cell? ⟨b0, off + (jp + 1) * 4 + 3, none⟩ = some (.string u) ∧ W7.cell? ⟨b0, off + jp * 4, none⟩ = some (.int .u8 (kp : Int)) := ⟨(HB7.out.cell (p := ⟨g5, 0, none⟩) HGZ.out).trans hS5.1, (HB7.out.cell (p := ⟨g5, 1, none⟩) HGZ.out).trans hS5.2.1, (HB7.out.cell (p := ⟨b0, _, none⟩) (Nat.lt_of_lt_of_le HLT.out (Nat.succ_le_of_lt HGZ.out))).trans hS5.2.2.1, (HB7.out.cell (p := ⟨b0, _, none⟩) (Nat.lt_of_lt_of_le HLT.out (Nat.succ_le_of_lt HGZ.out))).trans hS5.2.2.2.1, (HB7.out.cell (p := ⟨b0, _, none⟩) (Nat.lt_of_lt_of_le HLT.out (Nat.succ_le_of_lt HGZ.out))).trans hS5.2.2.2.2.1, (HB7.out.cell (p := ⟨b0, _, none⟩) (Nat.lt_of_lt_of_le HLT.out (Nat.succ_le_of_lt HGZ.out))).trans hS5.2.2.2.2.2.1, (HB7.out.cell (p := ⟨b0, _, none⟩) (Nat.lt_of_lt_of_le HLT.out (Nat.succ_le_of_lt HGZ.out))).trans hS5.2.2.2.2.2.2⟩
                  have HXG7 : Hid (W7.heap[g5]? = some (.cells #[Vn, Vo] 45 (0, 0))) := Lib.hid ((HB7.out.block g5 HGZ.out).trans HXG5.out)
                  have HBB : Hid (Below w.heap.size w W7) := Lib.hid (HB05.out.trans (HB7.out.mono HBW.out.size))
                  refine hK.out _ _ (fun _ => hS7) (fun _ => ?_)
                  clear hK K hS5 hW7
                  try simp only [Act.put]
                  refine stepZ (i := 22) (by kernel_rfl) rfl (fun K hK => ?_)
                  go_simp
                  refine hK.out _ _ (fun h => absurd rfl h) (fun _ => ?_)
                  clear hK K hS7 c0 c1 hz5
                  try simp only [Act.put, List.setIfInBounds_toArray, List.set_cons_zero, List.set_cons_succ]
                  refine doneZ (by kernel_rfl) ?_ _
                  refine NoPanic.normal ?_
                  go_wp2_with (first
                    | (refine wpList_load_row rfl _ _ rfl wr.heap.size rfl 45 #[V5, O5] (0, 0) _ HX7.out Tryd.underlying45 rfl infoGr ?_)
                    | (refine wpList_store_row rfl _ _ _ rfl g5 #[V5, O5] rfl rfl 45 #[Vn, Vo] HXG7.out infoGr rfl (by obtain ⟨_, _, _, _, _, _, rfl, rfl⟩ := HGO.out.1; simp [Value.oneCell']) ?_)
                    | fail)
                  go_roundg (gk - 1)
                  case measure => omega
                  case rel => exact ⟨(jp + 1) + 1, s', decide (t.kind = 4), V5, O5, by omega, by go_num, HRUN.out, by rw [if_neg (by omega)]; exact HPK.out, ((HGO.out.2 W7 HO7.out HS7.out).far (w' := W7.setRow g5 #[V5, O5]) (fun q h1 h2 => setRow_other _ _ _ _ (by omega)) (by simp [World.setRow])), HMORE.out, setRow_heap _ _ _ _ _ _ HXG7.out, below_setRowV HBB.out HGB.out _⟩
          · obtain rfl : k = j := by omega
            have hkk : ¬ ((k : Int) < (k : Int)) := by omega
            rw [List.drop_of_length_le (by rw [HN.out]; exact Nat.le_refl _), runP] at hrun
            obtain ⟨An, cn, Ao, co, rfl, rfl, hrd, hle, hcm, hnl, _⟩ := hgo.forms
            obtain ⟨vn, hvn⟩ : ∃ vn, s.V.length = vn := ⟨_, rfl⟩
            obtain ⟨on, hon⟩ : ∃ on, s.O.length = on := ⟨_, rfl⟩
            rw [hvn] at hle c0
            rw [hon] at c1
            have HRD2 := Lib.hid hrd
            have HRE := Lib.hid (And.intro hle (And.intro hcm hnl))
            have HV := Lib.hid hvn
            by_cases hend : s.V = [] ∨ s.O ≠ []
            · have HT : Hid (parseR ts = ([], 80)) := Lib.hid (by rw [HPR.out, hrun]; unfold endP; dsimp only; rw [if_pos hend])
              have hvo : vn = 0 ∨ 0 < on := by
                rcases hend with h | h
                · left; rw [← hvn, h]; rfl
                · right; rw [← hon]; exact List.length_pos_iff.2 h
              clear hend hvn hon hrun hgo hps hxg hbw hpk hrd hle hcm hnl
              rcases hvo with rfl | hvo
              · go_wp2_with fail
                go_ret2
                exact ParseTo.bad HT.out HBW.out
              · have hvo2 : (0 : Int) < (on : Int) := by omega
                by_cases hv0 : vn = 0
                · subst hv0
                  go_wp2_with fail
                  go_ret2
                  exact ParseTo.bad HT.out HBW.out
                · have fv : ((vn : Int) == 0) = false := by simp; omega
                  have fv2 : ¬ (vn : Int) = 0 := by omega
                  go_wp2_with fail
                  go_ret2
                  exact ParseTo.bad HT.out HBW.out
            · have HT : Hid (parseR ts = (s.V, 0)) := Lib.hid (by rw [HPR.out, hrun]; unfold endP; dsimp only; rw [if_neg hend])
              have fv2 : ¬ (vn : Int) = 0 := by
                intro h
                exact hend (.inl (List.eq_nil_of_length_eq_zero (by omega)))
              have fv : ((vn : Int) == 0) = false := by simp; omega
              obtain rfl : on = 0 := by
                rw [← hon]
                by_cases h : s.O = []
                · rw [h]; rfl
                · exact absurd (.inr h) hend
              clear hend hvn hon hrun hgo hps hxg hbw hpk hrd hle hcm hnl
              go_wp2_with fail
              go_ret2
              exact ⟨s.V, 0, An, cn, HT.out, by rw [HV.out]; rfl, HRD2.out, by rw [HV.out]; exact HRE.out.1, HRE.out.2.1, HRE.out.2.2, HBW.out⟩
end Hx
end Go.Proofs.YtbjgfaflikgobaaDoor
