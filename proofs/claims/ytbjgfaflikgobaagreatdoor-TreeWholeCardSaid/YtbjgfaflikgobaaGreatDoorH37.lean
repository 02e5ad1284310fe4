/-
  Texts of one seat, put together: TrhN.
-/
import Derived.Test.YtbjgfaflikgobaaGreatDoorH36
namespace Go.Proofs.YtbjgfaflikgobaaGreatDoor
open Go.RowKit
namespace Hx
open Lx Tr Tx Nmb Es
set_option linter.unusedVariables false
/-- What it does. -/
def Told10 (B base gv gn gl gt : Nat) (A : Option Addr) (c : Nat) (v : List Nd) (p' : Nat) (L : List TB) (V : Value) (T : List Tk) (w : World) (e : Ending) (w' : World) : Prop :=
  e = .returned (.tuple #[]) ∧ ∃ (M : List TB) (V' : Value), M.map TB.t = T ∧ TlSt B base gv gn gl gt A c v p' (L ++ M) V' w' ∧ Fr10 B gn gl V w V' w'
theorem toldD_text {d : Nat} {n : Nd} {l : List Nd} {r : List Nd} (h : restD d (n :: l) = some r) (hk : n.kind = 2) : toldD d (n :: l) = ([⟨4, [], [], n.text⟩], l) ∧ r = l := by
  have hok := (restD_ok h).1
  have hr := restD_text (d := d) (l := l) hok hk
  rw [hr] at h
  refine ⟨?_, (Option.some.inj h).symm⟩
  cases d with
  | zero => rw [toldD]
  | succ d => rw [toldD, if_pos hk]
/-- Behind the node's box and the next place. -/
theorem TlSt.step {B base gv gn gl gt : Nat} {A : Option Addr} {c : Nat} {v : List Nd} {p : Nat} {L : List TB} {V : Value} {w : World} (h : TlSt B base gv gn gl gt A c v p L V w) (cs : Array Value) (T : TypeId) (W : World) (hW : (w.setCell ⟨gn, 0, none⟩ (.int .i64 ((p : Int) + 1))).alloc (.cells cs T) = W) :
    TlSt B base gv gn gl gt A c v (p + 1) L V W ∧ Fr10 B gn gl V w V W ∧ W.heap[w.heap.size]? = some (.cells cs T (0, 0)) ∧ base ≤ w.heap.size ∧ W.heap.size = w.heap.size + 1 := by
  obtain ⟨h1, h2⟩ := h.setn (p + 1)
  have e : ((p + 1 : Nat) : Int) = (p : Int) + 1 := by omega
  rw [e] at h1 h2
  have hs : (w.setCell ⟨gn, 0, none⟩ (.int .i64 ((p : Int) + 1))).heap.size = w.heap.size := by simp [World.setCell]
  have hb := stpA (Below.refl (w.setCell ⟨gn, 0, none⟩ (.int .i64 ((p : Int) + 1))).heap.size (w.setCell ⟨gn, 0, none⟩ (.int .i64 ((p : Int) + 1)))) (.cells cs T)
  have hB : B ≤ w.heap.size := by have := h.ord; have := h.sz; omega
  rw [← hW]
  refine ⟨h1.below hb, h2.trans (Fr10.of_below hb (by rw [hs]; exact hB)), ?_, h.sz, by rw [World.size_alloc, hs]⟩
  have := heap_alloc_new (w.setCell ⟨gn, 0, none⟩ (.int .i64 ((p : Int) + 1))) (.cells cs T)
  rwa [hs] at this
set_option maxHeartbeats 16000000 in
set_option maxRecDepth 100000 in
theorem tell_text (B base gv gn gl gt : Nat) (A : Option Addr) (c : Nat) (v : List Nd) (hl : v.length ≤ 512) (hsm : ∀ n ∈ v, SmallN n) (d p : Nat) (L : List TB) (V : Value) (r : List Nd) (w : World) (hp : p < v.length) (hr : restD d (v.drop p) = some r) (hL : L.length ≤ 100000) (h : TlSt B base gv gn gl gt A c v p L V w) (HKIND : (v[p]'hp).kind = 2) :
    Calls Tryz.prog 50 #[.pointer (some ⟨gv, 0, none⟩), .pointer (some ⟨gn, 0, none⟩), .pointer (some ⟨gl, 0, none⟩), .pointer (some ⟨gt, 0, none⟩)] w (Told10 B base gv gn gl gt A c v (v.length - r.length) L V (toldD d (v.drop p)).1 w) := by
  obtain ⟨i0, hi, hz0, hz1, hz2⟩ := info_parts infoTk
  have HI := Lib.hid hi
  have HZ0 := Lib.hid hz0
  have HZ1 := Lib.hid hz1
  have HZ2 := Lib.hid hz2
  obtain ⟨Va, Vc, rfl⟩ := own_form2 h.own
  obtain ⟨b0, off, x, y, t, A1, c1, hA, hbB, hin, q0, q1, q2, q3, q4, q5⟩ := nd_at h.rd hp
  have hs := hsm _ (List.getElem_mem hp)
  have hBw : B ≤ w.heap.size := by have := h.ord; have := h.sz; omega
  have hAt : NdAt (v[p]'hp) x y t A1 c1 w := hin.keep (fun b hb => Nat.lt_of_lt_of_le hb hBw) fun _ _ _ => rfl
  have hdr := List.drop_eq_getElem_cons hp
  rw [hdr] at hr
  obtain ⟨nd, hnd⟩ : ∃ nd, v[p]'hp = nd := ⟨_, rfl⟩
  rw [hnd] at hs hAt hr hdr q0 q3 q5 HKIND
  obtain ⟨htd, hrl⟩ := toldD_text hr HKIND
  rw [hdr, htd]
  rw [HKIND, show ((2 : Nat) : Int) = 2 from rfl] at q0
  have hrp : v.length - r.length = p + 1 := by rw [hrl, List.length_drop]; omega
  rw [hrp]
  obtain ⟨n, hn⟩ : ∃ n, v.length = n := ⟨_, rfl⟩
  have HLN := Lib.hid hn
  obtain ⟨n1, hn1⟩ : ∃ n1, nd.attrs.length = n1 := ⟨_, rfl⟩
  obtain ⟨mm, hmm⟩ : ∃ mm, nd.many = mm := ⟨_, rfl⟩
  have bp : (0 : Int) ≤ (p : Int) ∧ (p : Int) < (n : Int) := by omega
  have bn : (n : Int) ≤ 512 := by omega
  have kv := cell_of_one h.hv
  have kn := cell_of_one h.hn
  have fn := free_of_one h.hn
  have HST := Lib.hid h
  have HL := Lib.hid hL
  have hglt : gn < w.heap.size := lt_of_block h.hn
  have HN1 := Lib.hid hn1
  have HMM := Lib.hid hmm
  rw [hn] at kv
  rw [hn1] at q3
  rw [hmm] at q5
  have hts : t.size ≤ 1000000 := by rw [← ba_len5, hAt.text]; exact hs.text
  have HTS := Lib.hid hts
  have HTX := Lib.hid hAt.text
  obtain ⟨W0, hW0⟩ : ∃ W0, ((w.setCell ⟨gn, 0, none⟩ (.int .i64 ((p : Int) + 1))).alloc (.cells #[.int .u8 2, .string x, .string y, .slice A1 n1 c1, .string t, .int .i64 mm] 36)) = W0 := ⟨_, rfl⟩
  have HW := Lib.hid (h.step _ _ _ hW0)
  have k0 := cellV W0 _ 0 _ _ _ HW.out.2.2.1
  have k2 := cellV W0 _ 2 _ _ _ HW.out.2.2.1
  have k4 := cellV W0 _ 4 _ _ _ HW.out.2.2.1
  have k5 := cellV W0 _ 5 _ _ _ HW.out.2.2.1
  subst hA
  clear hr hs hAt hnd hin htd hrl hrp hdr h hl hsm hts hBw hbB hn1 hmm hi hz0 hz1 hz2 hL hn
  clear hp
  go_enter Tryz.func50, Tryz.ntmps50
  go_wp2_with fail
  have HBX := Lib.hid HW.out.2.2.1
  clear k0 k2 k4 k5 q0 q1 q2 q3 q4 q5 kv kn fn
  refine wp_region_noPanic ?_
  refine wp_region_Z (fun W => W.cell? ⟨gl, 0, none⟩ = some (.slice Va L.length Vc) ∧ W.cell? ⟨w.heap.size, 4, none⟩ = some (.string t)) 7 (by kernel_rfl) ?_
  have hS : W0.drew.cell? ⟨gl, 0, none⟩ = some (.slice Va L.length Vc) ∧ W0.drew.cell? ⟨w.heap.size, 4, none⟩ = some (.string t) := ⟨cellV W0 _ 0 _ _ _ HW.out.1.hl, cellV W0 _ 4 _ _ _ HBX.out⟩
  refine takeZ (i := 0) (v := .slice Va L.length Vc) rfl (by kernel_rfl) (by kernel_rfl) (by kernel_rfl) (by kernel_rfl) (fun _ _ _ h => h) (Or.inl ⟨by rfl, ?_⟩) hS ?_
  · intro w' hSw; (try dsimp only at hSw); go_simp
  try simp only [Act.put, List.setIfInBounds_toArray, List.set_cons_zero, List.set_cons_succ]
  refine takeZ (i := 1) (v := .pointer (some ⟨w.heap.size, 4, none⟩)) rfl (by kernel_rfl) (by kernel_rfl) (by kernel_rfl) (by kernel_rfl) (fun _ _ _ h => h) (Or.inl ⟨by rfl, ?_⟩) hS ?_
  · intro w' hSw; (try dsimp only at hSw); go_simp
  try simp only [Act.put, List.setIfInBounds_toArray, List.set_cons_zero, List.set_cons_succ]
  refine takeZ (i := 2) (v := .string t) rfl (by kernel_rfl) (by kernel_rfl) (by kernel_rfl) (by kernel_rfl) (fun _ _ _ h => h) (Or.inl ⟨by rfl, ?_⟩) hS ?_
  · intro w' hSw; (try dsimp only at hSw); go_simp
  try simp only [Act.put, List.setIfInBounds_toArray, List.set_cons_zero, List.set_cons_succ]
  refine stepZ (i := 3) (by kernel_rfl) rfl (fun K hK => ?_)
  go_simp
  go_at_call 51; (with_reducible refine (clone9 t _ HTS.out).mono ?_); rintro e5 w5 ⟨rfl, hb5⟩; have HB5 := Lib.hid hb5; clear hb5
  have HS5 : Hid (TlSt B base gv gn gl gt (some ⟨b0, off, none⟩) c v (p + 1) L (.slice Va L.length Vc) w5) := Lib.hid (HW.out.1.below (stp (Below.refl _ _).drew HB5.out))
  have HX5 : Hid (w5.heap[w.heap.size]? = some (.cells #[.int .u8 2, .string x, .string y, .slice A1 n1 c1, .string t, .int .i64 mm] 36 (0, 0))) := Lib.hid (kept_heap HBX.out (stp (Below.refl _ _).drew HB5.out))
  have hS5 : w5.cell? ⟨gl, 0, none⟩ = some (.slice Va L.length Vc) ∧ w5.cell? ⟨w.heap.size, 4, none⟩ = some (.string t) := ⟨cellV w5 _ 0 _ _ _ HS5.out.hl, cellV w5 _ 4 _ _ _ HX5.out⟩
  go_wp2_with fail
  refine hK.out _ _ (fun _ => hS5) (fun _ => ?_)
  clear hK K hS
  try simp only [Act.put, List.setIfInBounds_toArray, List.set_cons_zero, List.set_cons_succ]
  refine takeZ (i := 4) (v := .agg #[.int .u8 4, .string ⟨#[]⟩, .slice none 0 0, .string t]) rfl (by kernel_rfl) (by kernel_rfl) (by kernel_rfl) (by kernel_rfl) (fun _ _ _ h => h) (Or.inl ⟨by rfl, ?_⟩) hS5 ?_
  · intro w' hSw; (try dsimp only at hSw); go_simp
  try simp only [Act.put, List.setIfInBounds_toArray, List.set_cons_zero, List.set_cons_succ]
  refine stepZ (i := 5) (by kernel_rfl) rfl (fun K hK => ?_)
  go_simp
  have HS6 := Lib.hid (HS5.out.below (stpA (Below.refl w5.heap.size w5) (.cells #[.int .u8 4, .string ⟨#[]⟩, .slice none 0 0, .string t] 82)))
  have HX6 := Lib.hid (kept_heap HX5.out (stpA (Below.refl w5.heap.size w5) (.cells #[.int .u8 4, .string ⟨#[]⟩, .slice none 0 0, .string t] 82)))
  have hS6 : (w5.alloc (.cells #[.int .u8 4, .string ⟨#[]⟩, .slice none 0 0, .string t] 82)).cell? ⟨gl, 0, none⟩ = some (.slice Va L.length Vc) ∧ (w5.alloc (.cells #[.int .u8 4, .string ⟨#[]⟩, .slice none 0 0, .string t] 82)).cell? ⟨w.heap.size, 4, none⟩ = some (.string t) := ⟨cellV (w5.alloc (.cells #[.int .u8 4, .string ⟨#[]⟩, .slice none 0 0, .string t] 82)) _ 0 _ _ _ HS6.out.hl, cellV (w5.alloc (.cells #[.int .u8 4, .string ⟨#[]⟩, .slice none 0 0, .string t] 82)) _ 4 _ _ _ HX6.out⟩
  refine hK.out _ _ (fun _ => hS6) (fun _ => ?_)
  clear hK K hS5
  try simp only [Act.put, List.setIfInBounds_toArray, List.set_cons_zero, List.set_cons_succ]
  refine stepZ (i := 6) (by kernel_rfl) rfl (fun K hK => ?_)
  have HSZ : Hid (base ≤ w5.heap.size) := Lib.hid HS5.out.sz
  refine step_append_lies _ rfl (.tmp 34) (.tmp 39) 41 rfl base 82 i0 (.agg #[.int .u8 0, .string ⟨#[]⟩, .slice none 0 0, .string ⟨#[]⟩]) 4 64 Tryz.underlying41 HI.out HZ0.out HZ1.out HZ2.out rfl (by decide) _ L.length _ rfl (own_belowK HS5.out.own (stpA (Below.refl _ _) _) (Nat.le_refl _)) ⟨w5.heap.size, 0, none⟩ 1 1 [.int .u8 4, .string ⟨#[]⟩, .slice none 0 0, .string t] rfl rfl (new_at w5 [.int .u8 4, .string ⟨#[]⟩, .slice none 0 0, .string t] 82 _ rfl) (tb_one _ _ _ _ _ _) (by decide) (by have := HL.out; unfold maxLen; omega) (by have := HL.out; omega) (by have := HSZ.out; rw [World.size_alloc]; omega) (w5.heap.size + 1) (by rw [World.size_alloc]) ?_
  intro g8 c8 w8 hown8 hgr8 hor hlt8
  have hpush := HS5.out.push (b := ⟨⟨#[]⟩, none, 0, t, ⟨4, (⟨#[]⟩ : ByteArray).data.toList, [], t.data.toList⟩⟩) (tk_plain _ 4 (by decide) ⟨#[]⟩ t) (off_plain _ _ 4 ⟨#[]⟩ t) hown8 hgr8 hor
  have HP8 := Lib.hid hpush.1
  have HF8 := Lib.hid hpush.2
  have st8 : ∀ (q : Nat) (o : Obj), w5.heap[q]? = some o → some q ≠ (Value.slice Va L.length Vc).ownBlock → w8.heap[q]? = some o := fun q o ho hne => by
    have h1 := kept_heap ho (stpA (Below.refl w5.heap.size w5) (.cells #[.int .u8 4, .string ⟨#[]⟩, .slice none 0 0, .string t] 82))
    exact (hgr8.block _ (Array.getElem?_eq_some_iff.1 h1).1 hne).trans h1
  have hgl := st8 gl _ HS5.out.hl (fun e => by have := (HS5.out.own.lt _ e.symm).1; have := HS5.out.ord; omega)
  have hbx := st8 w.heap.size _ HX5.out (fun e => by have := (HST.out.own.lt _ e.symm).2; omega)
  have k8 : w8.cell? ⟨gl, 0, none⟩ = some (.slice Va L.length Vc) ∧ w8.cell? ⟨w.heap.size, 4, none⟩ = some (.string t) := ⟨cellV w8 _ 0 _ _ _ hgl, cellV w8 _ 4 _ _ _ hbx⟩
  have f8 : w8.frozen? ⟨gl, 0, none⟩ = false := freeV w8 _ 0 _ _ hgl
  have k81 := k8.1
  clear hown8 hgr8 hor hgl st8 hpush
  refine hK.out _ _ (fun _ => k8) (fun _ => ?_)
  clear hK K
  try simp only [Act.put, List.setIfInBounds_toArray, List.set_cons_zero, List.set_cons_succ]
  refine stepZ (i := 7) (by kernel_rfl) rfl (fun K hK => ?_)
  go_simp
  refine hK.out _ _ (fun h => absurd rfl h) (fun _ => ?_)
  clear hK K
  try simp only [Act.put, List.setIfInBounds_toArray, List.set_cons_zero, List.set_cons_succ]
  refine doneZ (by kernel_rfl) ?_ _
  refine NoPanic.normal ?_
  go_wp2_with fail
  (try simp only [Exit.inBlock, Exit.then, Exit.noGoto])
  go_end0
  refine ⟨rfl, [⟨⟨#[]⟩, none, 0, t, ⟨4, (⟨#[]⟩ : ByteArray).data.toList, [], t.data.toList⟩⟩], _, ?_, HP8.out, (HW.out.2.1.trans (Fr10.of_below (stp (Below.refl _ _).drew HB5.out) (by have := HST.out.ord; have := HW.out.2.2.2; omega))).trans HF8.out⟩
  show [_] = [_]
  rw [← HTX.out]
theorem tag_tk {w0 w5 : World} {k : Nat} (hk : k < 256) {y : ByteArray} {A5 : Option Addr} {c5 : Nat} {l : List At} {V : Value} {base : Nat} (h : w5.ownsRow w0.heap.size 119 2 (.slice A5 l.length c5) l.length ((l.map pbA).flatMap prCells)) (hV : ∀ q, V.ownBlock = some q → q < w0.heap.size) (hb : base ≤ w0.heap.size) :
    TkC.R w5 w5.heap.size (tbCells ⟨y, A5, c5, ⟨#[]⟩, ⟨k, y.data.toList, pairsN l, []⟩⟩) ⟨k, y.data.toList, pairsN l, []⟩ ∧ OffT base V ⟨y, A5, c5, ⟨#[]⟩, ⟨k, y.data.toList, pairsN l, []⟩⟩ := by
  obtain ⟨h1, h2, h3, h4, h5⟩ := own_attrs h
  rw [pbA_val] at h1
  have hl : (pairsN l).length = l.length := by unfold pairsN; rw [List.length_map]
  refine ⟨⟨y, A5, c5, ⟨#[]⟩, rfl, hk, rfl, rfl, by rw [hl]; exact h3, h4, h5, h1⟩, fun _ ad e => ?_⟩
  have e : A5 = some ad := e
  subst e
  have h6 := (h.lt ad.block rfl).1
  exact ⟨fun e2 => by have := hV _ e2.symm; omega, by omega⟩
theorem toldD_bare {d : Nat} {n : Nd} {l : List Nd} {r : List Nd} (h : restD d (n :: l) = some r) (hk : n.kind = 1) (hm : n.many = 0) : toldD d (n :: l) = ([⟨3, n.name, pairsN n.attrs, []⟩], l) ∧ r = l := by
  obtain ⟨_, _, b, hb⟩ := restD_ok h
  rw [hm] at hb
  have hb : (some (false, l) : Option (Bool × List Nd)) = some (b, r) := by
    rw [← hb]
    rfl
  injection hb with hb
  injection hb with _ hb
  refine ⟨?_, hb.symm⟩
  cases d with
  | zero => rw [restD, if_neg (by omega)] at h; cases h
  | succ d => rw [toldD, if_neg (by omega), if_pos hm]
set_option maxHeartbeats 16000000 in
set_option maxRecDepth 100000 in
theorem tell_bare (B base gv gn gl gt : Nat) (A : Option Addr) (c : Nat) (v : List Nd) (hl : v.length ≤ 512) (hsm : ∀ n ∈ v, SmallN n) (d p : Nat) (L : List TB) (V : Value) (r : List Nd) (w : World) (hp : p < v.length) (hr : restD d (v.drop p) = some r) (hL : L.length ≤ 100000) (h : TlSt B base gv gn gl gt A c v p L V w) (HKIND : (v[p]'hp).kind = 1) (HM0 : (v[p]'hp).many = 0) :
    Calls Tryz.prog 50 #[.pointer (some ⟨gv, 0, none⟩), .pointer (some ⟨gn, 0, none⟩), .pointer (some ⟨gl, 0, none⟩), .pointer (some ⟨gt, 0, none⟩)] w (Told10 B base gv gn gl gt A c v (v.length - r.length) L V (toldD d (v.drop p)).1 w) := by
  obtain ⟨i0, hi, hz0, hz1, hz2⟩ := info_parts infoTk
  have HI := Lib.hid hi
  have HZ0 := Lib.hid hz0
  have HZ1 := Lib.hid hz1
  have HZ2 := Lib.hid hz2
  obtain ⟨Va, Vc, rfl⟩ := own_form2 h.own
  obtain ⟨b0, off, x, y, t, A1, c1, hA, hbB, hin, q0, q1, q2, q3, q4, q5⟩ := nd_at h.rd hp
  have hs := hsm _ (List.getElem_mem hp)
  have hBw : B ≤ w.heap.size := by have := h.ord; have := h.sz; omega
  have hAt : NdAt (v[p]'hp) x y t A1 c1 w := hin.keep (fun b hb => Nat.lt_of_lt_of_le hb hBw) fun _ _ _ => rfl
  have hdr := List.drop_eq_getElem_cons hp
  rw [hdr] at hr
  obtain ⟨nd, hnd⟩ : ∃ nd, v[p]'hp = nd := ⟨_, rfl⟩
  rw [hnd] at hs hAt hr hdr q0 q3 q5 HKIND HM0
  obtain ⟨htd, hrl⟩ := toldD_bare hr HKIND HM0
  rw [hdr, htd]
  rw [HKIND, show ((1 : Nat) : Int) = 1 from rfl] at q0
  have hrp : v.length - r.length = p + 1 := by rw [hrl, List.length_drop]; omega
  rw [hrp]
  have hin2 := hin
  rw [hnd] at hin2
  have htag : ∀ W, Below B w W → Calls Tryz.prog 52 #[.int .u8 3, NdV nd x y t A1 c1] W (TgTo10 3 y nd.attrs W) := fun W hW => tag10 3 nd x y t A1 c1 W (hin2.keep (fun b hb => Nat.lt_of_lt_of_le (Nat.lt_of_lt_of_le hb hBw) hW.size) fun b o hb => hW.cell (p := ⟨b, o, none⟩) hb) hs
  unfold NdV TgTo10 at htag
  rw [HKIND, HM0, show ((1 : Nat) : Int) = 1 from rfl] at htag
  obtain ⟨n, hn⟩ : ∃ n, v.length = n := ⟨_, rfl⟩
  have HLN := Lib.hid hn
  obtain ⟨n1, hn1⟩ : ∃ n1, nd.attrs.length = n1 := ⟨_, rfl⟩
  obtain ⟨mm, hmm⟩ : ∃ mm, nd.many = mm := ⟨_, rfl⟩
  have bp : (0 : Int) ≤ (p : Int) ∧ (p : Int) < (n : Int) := by omega
  have bn : (n : Int) ≤ 512 := by omega
  have kv := cell_of_one h.hv
  have kn := cell_of_one h.hn
  have fn := free_of_one h.hn
  have HST := Lib.hid h
  have HL := Lib.hid hL
  have hglt : gn < w.heap.size := lt_of_block h.hn
  have HN1 := Lib.hid hn1
  have HMM := Lib.hid hmm
  rw [hn] at kv
  rw [hn1] at q3
  rw [hmm] at q5
  rw [HM0] at hmm
  subst hmm
  rw [hn1] at htag
  have HTG := Lib.hid htag
  have HNM := Lib.hid hAt.name
  have HPL : Hid ((pairsN nd.attrs).length = n1) := Lib.hid (by unfold pairsN; rw [List.length_map, hn1])
  obtain ⟨W0, hW0⟩ : ∃ W0, ((w.setCell ⟨gn, 0, none⟩ (.int .i64 ((p : Int) + 1))).alloc (.cells #[.int .u8 1, .string x, .string y, .slice A1 n1 c1, .string t, .int .i64 0] 36)) = W0 := ⟨_, rfl⟩
  have HW := Lib.hid (h.step _ _ _ hW0)
  have k0 := cellV W0 _ 0 _ _ _ HW.out.2.2.1
  have k2 := cellV W0 _ 2 _ _ _ HW.out.2.2.1
  have k4 := cellV W0 _ 4 _ _ _ HW.out.2.2.1
  have k5 := cellV W0 _ 5 _ _ _ HW.out.2.2.1
  subst hA
  clear htag hin2 hr hs hAt hnd hin htd hrl hrp hdr h hl hsm hBw hbB hn1 hi hz0 hz1 hz2 hL hn
  clear hp
  go_enter Tryz.func50, Tryz.ntmps50
  go_wp2_with fail
  have HBX := Lib.hid HW.out.2.2.1
  clear k0 k2 k4 k5 q0 q1 q2 q3 q4 q5 kv kn fn
  refine wp_region_noPanic ?_
  refine wp_region_Z (fun W => W.cell? ⟨gl, 0, none⟩ = some (.slice Va L.length Vc) ∧ W.cell? ⟨w.heap.size, 0, none⟩ = some (.int .u8 1) ∧ W.cell? ⟨w.heap.size, 1, none⟩ = some (.string x) ∧ W.cell? ⟨w.heap.size, 2, none⟩ = some (.string y) ∧ W.cell? ⟨w.heap.size, 3, none⟩ = some (.slice A1 n1 c1) ∧ W.cell? ⟨w.heap.size, 4, none⟩ = some (.string t) ∧ W.cell? ⟨w.heap.size, 5, none⟩ = some (.int .i64 0)) 5 (by kernel_rfl) ?_
  have hS : W0.drew.cell? ⟨gl, 0, none⟩ = some (.slice Va L.length Vc) ∧ W0.drew.cell? ⟨w.heap.size, 0, none⟩ = some (.int .u8 1) ∧ W0.drew.cell? ⟨w.heap.size, 1, none⟩ = some (.string x) ∧ W0.drew.cell? ⟨w.heap.size, 2, none⟩ = some (.string y) ∧ W0.drew.cell? ⟨w.heap.size, 3, none⟩ = some (.slice A1 n1 c1) ∧ W0.drew.cell? ⟨w.heap.size, 4, none⟩ = some (.string t) ∧ W0.drew.cell? ⟨w.heap.size, 5, none⟩ = some (.int .i64 0) := ⟨cellV W0 _ 0 _ _ _ HW.out.1.hl, cellV W0 _ 0 _ _ _ HBX.out, cellV W0 _ 1 _ _ _ HBX.out, cellV W0 _ 2 _ _ _ HBX.out, cellV W0 _ 3 _ _ _ HBX.out, cellV W0 _ 4 _ _ _ HBX.out, cellV W0 _ 5 _ _ _ HBX.out⟩
  refine takeZ (i := 0) (v := .slice Va L.length Vc) rfl (by kernel_rfl) (by kernel_rfl) (by kernel_rfl) (by kernel_rfl) (fun _ _ _ h => h) (Or.inl ⟨by rfl, ?_⟩) hS ?_
  · intro w' hSw; (try dsimp only at hSw); go_simp
  try simp only [Act.put, List.setIfInBounds_toArray, List.set_cons_zero, List.set_cons_succ]
  refine takeZ (i := 1) (v := .agg #[.int .u8 1, .string x, .string y, .slice A1 n1 c1, .string t, .int .i64 0]) rfl (by kernel_rfl) (by kernel_rfl) (by kernel_rfl) (by kernel_rfl) (fun _ _ _ h => h) (Or.inl ⟨by rfl, ?_⟩) hS ?_
  · intro w' hSw; (try dsimp only at hSw); go_simp
  try simp only [Act.put, List.setIfInBounds_toArray, List.set_cons_zero, List.set_cons_succ]
  refine stepZ (i := 2) (by kernel_rfl) rfl (fun K hK => ?_)
  go_simp
  go_at_call 52; (with_reducible refine (HTG.out _ HW.out.2.1.bel.drew).mono ?_); rintro e5 w5 ⟨hb5, A5, c5, rfl, hown5⟩; have HB5 : Hid (Below W0.drew.heap.size W0.drew w5) := Lib.hid hb5; have HTK := Lib.hid (tag_tk (k := 3) (by decide) (y := y) (V := .slice Va L.length Vc) (base := base) (by rw [HN1.out]; exact hown5) (fun q hq => by have := (HW.out.1.own.lt q hq).2; exact this) HW.out.1.sz); have HCS : Hid (tbCells ⟨y, A5, c5, ⟨#[]⟩, ⟨3, y.data.toList, pairsN nd.attrs, []⟩⟩ = [.int .u8 3, .string y, .slice A5 n1 c5, .string ⟨#[]⟩]) := Lib.hid (by unfold tbCells; rw [HPL.out]; rfl); clear hb5 hown5
  have HS5 : Hid (TlSt B base gv gn gl gt (some ⟨b0, off, none⟩) c v (p + 1) L (.slice Va L.length Vc) w5) := Lib.hid (HW.out.1.below (stp (Below.refl _ _).drew HB5.out))
  have HX5 : Hid (w5.heap[w.heap.size]? = some (.cells #[.int .u8 1, .string x, .string y, .slice A1 n1 c1, .string t, .int .i64 0] 36 (0, 0))) := Lib.hid (kept_heap HBX.out (stp (Below.refl _ _).drew HB5.out))
  have hS5 : w5.cell? ⟨gl, 0, none⟩ = some (.slice Va L.length Vc) ∧ w5.cell? ⟨w.heap.size, 0, none⟩ = some (.int .u8 1) ∧ w5.cell? ⟨w.heap.size, 1, none⟩ = some (.string x) ∧ w5.cell? ⟨w.heap.size, 2, none⟩ = some (.string y) ∧ w5.cell? ⟨w.heap.size, 3, none⟩ = some (.slice A1 n1 c1) ∧ w5.cell? ⟨w.heap.size, 4, none⟩ = some (.string t) ∧ w5.cell? ⟨w.heap.size, 5, none⟩ = some (.int .i64 0) := ⟨cellV w5 _ 0 _ _ _ HS5.out.hl, cellV w5 _ 0 _ _ _ HX5.out, cellV w5 _ 1 _ _ _ HX5.out, cellV w5 _ 2 _ _ _ HX5.out, cellV w5 _ 3 _ _ _ HX5.out, cellV w5 _ 4 _ _ _ HX5.out, cellV w5 _ 5 _ _ _ HX5.out⟩
  go_wp2_with fail
  refine hK.out _ _ (fun _ => hS5) (fun _ => ?_)
  clear hK K hS
  try simp only [Act.put, List.setIfInBounds_toArray, List.set_cons_zero, List.set_cons_succ]
  refine stepZ (i := 3) (by kernel_rfl) rfl (fun K hK => ?_)
  go_simp
  have HS6 := Lib.hid (HS5.out.below (stpA (Below.refl w5.heap.size w5) (.cells #[.int .u8 3, .string y, .slice A5 n1 c5, .string ⟨#[]⟩] 82)))
  have HX6 := Lib.hid (kept_heap HX5.out (stpA (Below.refl w5.heap.size w5) (.cells #[.int .u8 3, .string y, .slice A5 n1 c5, .string ⟨#[]⟩] 82)))
  have hS6 : (w5.alloc (.cells #[.int .u8 3, .string y, .slice A5 n1 c5, .string ⟨#[]⟩] 82)).cell? ⟨gl, 0, none⟩ = some (.slice Va L.length Vc) ∧ (w5.alloc (.cells #[.int .u8 3, .string y, .slice A5 n1 c5, .string ⟨#[]⟩] 82)).cell? ⟨w.heap.size, 0, none⟩ = some (.int .u8 1) ∧ (w5.alloc (.cells #[.int .u8 3, .string y, .slice A5 n1 c5, .string ⟨#[]⟩] 82)).cell? ⟨w.heap.size, 1, none⟩ = some (.string x) ∧ (w5.alloc (.cells #[.int .u8 3, .string y, .slice A5 n1 c5, .string ⟨#[]⟩] 82)).cell? ⟨w.heap.size, 2, none⟩ = some (.string y) ∧ (w5.alloc (.cells #[.int .u8 3, .string y, .slice A5 n1 c5, .string ⟨#[]⟩] 82)).cell? ⟨w.heap.size, 3, none⟩ = some (.slice A1 n1 c1) ∧ (w5.alloc (.cells #[.int .u8 3, .string y, .slice A5 n1 c5, .string ⟨#[]⟩] 82)).cell? ⟨w.heap.size, 4, none⟩ = some (.string t) ∧ (w5.alloc (.cells #[.int .u8 3, .string y, .slice A5 n1 c5, .string ⟨#[]⟩] 82)).cell? ⟨w.heap.size, 5, none⟩ = some (.int .i64 0) := ⟨cellV (w5.alloc (.cells #[.int .u8 3, .string y, .slice A5 n1 c5, .string ⟨#[]⟩] 82)) _ 0 _ _ _ HS6.out.hl, cellV (w5.alloc (.cells #[.int .u8 3, .string y, .slice A5 n1 c5, .string ⟨#[]⟩] 82)) _ 0 _ _ _ HX6.out, cellV (w5.alloc (.cells #[.int .u8 3, .string y, .slice A5 n1 c5, .string ⟨#[]⟩] 82)) _ 1 _ _ _ HX6.out, cellV (w5.alloc (.cells #[.int .u8 3, .string y, .slice A5 n1 c5, .string ⟨#[]⟩] 82)) _ 2 _ _ _ HX6.out, cellV (w5.alloc (.cells #[.int .u8 3, .string y, .slice A5 n1 c5, .string ⟨#[]⟩] 82)) _ 3 _ _ _ HX6.out, cellV (w5.alloc (.cells #[.int .u8 3, .string y, .slice A5 n1 c5, .string ⟨#[]⟩] 82)) _ 4 _ _ _ HX6.out, cellV (w5.alloc (.cells #[.int .u8 3, .string y, .slice A5 n1 c5, .string ⟨#[]⟩] 82)) _ 5 _ _ _ HX6.out⟩
  refine hK.out _ _ (fun _ => hS6) (fun _ => ?_)
  clear hK K hS5
  try simp only [Act.put, List.setIfInBounds_toArray, List.set_cons_zero, List.set_cons_succ]
  refine stepZ (i := 4) (by kernel_rfl) rfl (fun K hK => ?_)
  have HSZ : Hid (base ≤ w5.heap.size) := Lib.hid HS5.out.sz
  refine step_append_lies _ rfl (.tmp 45) (.tmp 48) 41 rfl base 82 i0 (.agg #[.int .u8 0, .string ⟨#[]⟩, .slice none 0 0, .string ⟨#[]⟩]) 4 64 Tryz.underlying41 HI.out HZ0.out HZ1.out HZ2.out rfl (by decide) _ L.length _ rfl (own_belowK HS5.out.own (stpA (Below.refl _ _) _) (Nat.le_refl _)) ⟨w5.heap.size, 0, none⟩ 1 1 [.int .u8 3, .string y, .slice A5 n1 c5, .string ⟨#[]⟩] rfl rfl (new_at w5 [.int .u8 3, .string y, .slice A5 n1 c5, .string ⟨#[]⟩] 82 _ rfl) (tb_one _ _ _ _ _ _) (by decide) (by have := HL.out; unfold maxLen; omega) (by have := HL.out; omega) (by have := HSZ.out; rw [World.size_alloc]; omega) (w5.heap.size + 1) (by rw [World.size_alloc]) ?_
  intro g8 c8 w8 hown8 hgr8 hor hlt8
  have hpush := HS5.out.push (b := ⟨y, A5, c5, ⟨#[]⟩, ⟨3, y.data.toList, pairsN nd.attrs, []⟩⟩) HTK.out.1 HTK.out.2 (by rw [HCS.out]; exact hown8) hgr8 hor
  have HP8 := Lib.hid hpush.1
  have HF8 := Lib.hid hpush.2
  have st8 : ∀ (q : Nat) (o : Obj), w5.heap[q]? = some o → some q ≠ (Value.slice Va L.length Vc).ownBlock → w8.heap[q]? = some o := fun q o ho hne => by
    have h1 := kept_heap ho (stpA (Below.refl w5.heap.size w5) (.cells #[.int .u8 3, .string y, .slice A5 n1 c5, .string ⟨#[]⟩] 82))
    exact (hgr8.block _ (Array.getElem?_eq_some_iff.1 h1).1 hne).trans h1
  have hgl := st8 gl _ HS5.out.hl (fun e => by have := (HS5.out.own.lt _ e.symm).1; have := HS5.out.ord; omega)
  have hbx := st8 w.heap.size _ HX5.out (fun e => by have := (HST.out.own.lt _ e.symm).2; omega)
  have k8 : w8.cell? ⟨gl, 0, none⟩ = some (.slice Va L.length Vc) ∧ w8.cell? ⟨w.heap.size, 0, none⟩ = some (.int .u8 1) ∧ w8.cell? ⟨w.heap.size, 1, none⟩ = some (.string x) ∧ w8.cell? ⟨w.heap.size, 2, none⟩ = some (.string y) ∧ w8.cell? ⟨w.heap.size, 3, none⟩ = some (.slice A1 n1 c1) ∧ w8.cell? ⟨w.heap.size, 4, none⟩ = some (.string t) ∧ w8.cell? ⟨w.heap.size, 5, none⟩ = some (.int .i64 0) := ⟨cellV w8 _ 0 _ _ _ hgl, cellV w8 _ 0 _ _ _ hbx, cellV w8 _ 1 _ _ _ hbx, cellV w8 _ 2 _ _ _ hbx, cellV w8 _ 3 _ _ _ hbx, cellV w8 _ 4 _ _ _ hbx, cellV w8 _ 5 _ _ _ hbx⟩
  have f8 : w8.frozen? ⟨gl, 0, none⟩ = false := freeV w8 _ 0 _ _ hgl
  have k81 := k8.1
  clear hown8 hgr8 hor hgl st8 hpush
  refine hK.out _ _ (fun _ => k8) (fun _ => ?_)
  clear hK K
  try simp only [Act.put, List.setIfInBounds_toArray, List.set_cons_zero, List.set_cons_succ]
  refine stepZ (i := 5) (by kernel_rfl) rfl (fun K hK => ?_)
  go_simp
  refine hK.out _ _ (fun h => absurd rfl h) (fun _ => ?_)
  clear hK K
  try simp only [Act.put, List.setIfInBounds_toArray, List.set_cons_zero, List.set_cons_succ]
  refine doneZ (by kernel_rfl) ?_ _
  refine NoPanic.normal ?_
  go_wp2_with fail
  (try simp only [Exit.inBlock, Exit.then, Exit.noGoto])
  go_end0
  refine ⟨rfl, [⟨y, A5, c5, ⟨#[]⟩, ⟨3, y.data.toList, pairsN nd.attrs, []⟩⟩], _, ?_, HP8.out, (HW.out.2.1.trans (Fr10.of_below (stp (Below.refl _ _).drew HB5.out) (by have := HST.out.ord; have := HW.out.2.2.2; omega))).trans HF8.out⟩
  show [_] = [_]
  rw [← HNM.out]
def Tells10 (B base gv gn gl gt : Nat) (A : Option Addr) (c : Nat) (v : List Nd) (d : Nat) : Prop := ∀ (p : Nat) (L : List TB) (V : Value) (r : List Nd) (w : World), p < v.length → restD d (v.drop p) = some r → L.length + cnt (v.drop p) ≤ 3000 → TlSt B base gv gn gl gt A c v p L V w →
  Calls Tryz.prog 50 #[.pointer (some ⟨gv, 0, none⟩), .pointer (some ⟨gn, 0, none⟩), .pointer (some ⟨gl, 0, none⟩), .pointer (some ⟨gt, 0, none⟩)] w (Told10 B base gv gn gl gt A c v (v.length - r.length) L V (toldD d (v.drop p)).1 w)
theorem toldD_open {d : Nat} {n : Nd} {l : List Nd} (hk : n.kind = 1) (hm : n.many ≠ 0) : toldD (d + 1) (n :: l) = (⟨1, n.name, pairsN n.attrs, []⟩ :: ((toldK (toldD d) n.many.toNat l).1 ++ [⟨2, n.name, [], []⟩]), (toldK (toldD d) n.many.toNat l).2) := by
  rw [toldD, if_neg (by omega), if_neg hm]
theorem cnt_cons {n : Nd} {l : List Nd} (hm : 0 < n.many) : cnt (n :: l) = cnt l + 2 := by
  unfold cnt
  rw [List.length_cons, List.countP_cons, if_pos (by simpa using hm)]
  omega
set_option maxHeartbeats 16000000 in
set_option maxRecDepth 100000 in
theorem tell_open (B base gv gn gl gt : Nat) (A : Option Addr) (c : Nat) (v : List Nd) (hl : v.length ≤ 512) (hsm : ∀ n ∈ v, SmallN n) (d p : Nat) (L : List TB) (V : Value) (r : List Nd) (w : World) (hp : p < v.length) (hr : restD (d + 1) (v.drop p) = some r) (hL : L.length ≤ 100000) (h : TlSt B base gv gn gl gt A c v p L V w) (hcn : L.length + cnt (v.drop p) ≤ 3000) (HKIND : (v[p]'hp).kind = 1) (HM0 : 0 < (v[p]'hp).many) (ih : Tells10 B base gv gn gl gt A c v d) :
    Calls Tryz.prog 50 #[.pointer (some ⟨gv, 0, none⟩), .pointer (some ⟨gn, 0, none⟩), .pointer (some ⟨gl, 0, none⟩), .pointer (some ⟨gt, 0, none⟩)] w (Told10 B base gv gn gl gt A c v (v.length - r.length) L V (toldD (d + 1) (v.drop p)).1 w) := by
  obtain ⟨i0, hi, hz0, hz1, hz2⟩ := info_parts infoTk
  have HI := Lib.hid hi
  have HZ0 := Lib.hid hz0
  have HZ1 := Lib.hid hz1
  have HZ2 := Lib.hid hz2
  obtain ⟨Va, Vc, rfl⟩ := own_form2 h.own
  obtain ⟨b0, off, x, y, t, A1, c1, hA, hbB, hin, q0, q1, q2, q3, q4, q5⟩ := nd_at h.rd hp
  have hs := hsm _ (List.getElem_mem hp)
  have hBw : B ≤ w.heap.size := by have := h.ord; have := h.sz; omega
  have hAt : NdAt (v[p]'hp) x y t A1 c1 w := hin.keep (fun b hb => Nat.lt_of_lt_of_le hb hBw) fun _ _ _ => rfl
  have hdr := List.drop_eq_getElem_cons hp
  rw [hdr] at hr
  obtain ⟨nd, hnd⟩ : ∃ nd, v[p]'hp = nd := ⟨_, rfl⟩
  rw [hnd] at hs hAt hr hdr q0 q3 q5 HKIND HM0
  have htd := toldD_open (d := d) (l := v.drop (p + 1)) HKIND (by omega : nd.many ≠ 0)
  have hct := cnt_cons (l := v.drop (p + 1)) HM0
  obtain ⟨hok, _, bb, hk⟩ := restD_ok hr
  rw [Nat.add_sub_cancel] at hk
  rw [hdr] at hcn
  rw [hct] at hcn
  rw [hdr, htd]
  rw [HKIND, show ((1 : Nat) : Int) = 1 from rfl] at q0
  have hin2 := hin
  rw [hnd] at hin2
  have htag : ∀ W, Below B w W → Calls Tryz.prog 52 #[.int .u8 1, NdV nd x y t A1 c1] W (TgTo10 1 y nd.attrs W) := fun W hW => tag10 1 nd x y t A1 c1 W (hin2.keep (fun b hb => Nat.lt_of_lt_of_le (Nat.lt_of_lt_of_le hb hBw) hW.size) fun b o hb => hW.cell (p := ⟨b, o, none⟩) hb) hs
  unfold NdV TgTo10 at htag
  obtain ⟨m, hmn⟩ : ∃ m : Nat, nd.many = (m : Int) := ⟨nd.many.toNat, by omega⟩
  rw [HKIND, show ((1 : Nat) : Int) = 1 from rfl] at htag
  rw [hmn, Int.toNat_natCast] at hk
  have hkl := kidsD_len hk
  rw [List.length_drop] at hkl
  obtain ⟨n, hn⟩ : ∃ n, v.length = n := ⟨_, rfl⟩
  have HLN := Lib.hid hn
  obtain ⟨n1, hn1⟩ : ∃ n1, nd.attrs.length = n1 := ⟨_, rfl⟩
  obtain ⟨mm, hmm⟩ : ∃ mm, nd.many = mm := ⟨_, rfl⟩
  have bp : (0 : Int) ≤ (p : Int) ∧ (p : Int) < (n : Int) := by omega
  have bn : (n : Int) ≤ 512 := by omega
  have kv := cell_of_one h.hv
  have kn := cell_of_one h.hn
  have fn := free_of_one h.hn
  have HST := Lib.hid h
  have HL := Lib.hid hL
  have hglt : gn < w.heap.size := lt_of_block h.hn
  have HN1 := Lib.hid hn1
  have HMM := Lib.hid hmm
  rw [hn] at kv
  rw [hn1] at q3
  rw [hmm] at q5
  rw [hmn] at hmm
  subst hmm
  rw [hmn, Int.toNat_natCast]
  rw [hn1, hmn] at htag
  have f0 : ((m : Int) == 0) = false := by simp; omega
  have f1 : ¬ (m : Int) = 0 := by omega
  have HTG := Lib.hid htag
  have HNM := Lib.hid hAt.name
  have hys : y.size ≤ 1000000 := by rw [← ba_len5, hAt.name]; exact hs.name
  have HYS := Lib.hid hys
  have HK := Lib.hid hk
  have HIH := Lib.hid ih
  have HCN := Lib.hid hcn
  have HPLT := Lib.hid hp
  have bm : (0 : Int) < (m : Int) ∧ (m : Int) ≤ 512 := by omega
  have HRL : Hid (r.length + m + p < n) := Lib.hid (by omega)
  obtain ⟨q9, hq9⟩ : ∃ q9, v.length - r.length = q9 := ⟨_, rfl⟩
  have HQ9 := Lib.hid hq9
  rw [hq9]
  have HPL : Hid ((pairsN nd.attrs).length = n1) := Lib.hid (by unfold pairsN; rw [List.length_map, hn1])
  obtain ⟨W0, hW0⟩ : ∃ W0, ((w.setCell ⟨gn, 0, none⟩ (.int .i64 ((p : Int) + 1))).alloc (.cells #[.int .u8 1, .string x, .string y, .slice A1 n1 c1, .string t, .int .i64 (m : Int)] 36)) = W0 := ⟨_, rfl⟩
  have HW := Lib.hid (h.step _ _ _ hW0)
  have k0 := cellV W0 _ 0 _ _ _ HW.out.2.2.1
  have k2 := cellV W0 _ 2 _ _ _ HW.out.2.2.1
  have k4 := cellV W0 _ 4 _ _ _ HW.out.2.2.1
  have k5 := cellV W0 _ 5 _ _ _ HW.out.2.2.1
  subst hA
  clear htag hin2 hr hs hAt hnd hin htd hdr h hl hsm hBw hbB hn1 hi hz0 hz1 hz2 hL hn hct hok hk hkl hcn hmn hys ih hq9 HM0
  clear hp
  go_enter Tryz.func50, Tryz.ntmps50
  go_wp2_with fail
  have HBX := Lib.hid HW.out.2.2.1
  clear k0 k2 k4 k5 q0 q1 q2 q3 q4 q5 kv kn fn
  refine wp_region_noPanic ?_
  refine wp_region_Z (fun W => W.cell? ⟨gl, 0, none⟩ = some (.slice Va L.length Vc) ∧ W.cell? ⟨w.heap.size, 0, none⟩ = some (.int .u8 1) ∧ W.cell? ⟨w.heap.size, 1, none⟩ = some (.string x) ∧ W.cell? ⟨w.heap.size, 2, none⟩ = some (.string y) ∧ W.cell? ⟨w.heap.size, 3, none⟩ = some (.slice A1 n1 c1) ∧ W.cell? ⟨w.heap.size, 4, none⟩ = some (.string t) ∧ W.cell? ⟨w.heap.size, 5, none⟩ = some (.int .i64 (m : Int))) 5 (by kernel_rfl) ?_
  have hS : W0.drew.cell? ⟨gl, 0, none⟩ = some (.slice Va L.length Vc) ∧ W0.drew.cell? ⟨w.heap.size, 0, none⟩ = some (.int .u8 1) ∧ W0.drew.cell? ⟨w.heap.size, 1, none⟩ = some (.string x) ∧ W0.drew.cell? ⟨w.heap.size, 2, none⟩ = some (.string y) ∧ W0.drew.cell? ⟨w.heap.size, 3, none⟩ = some (.slice A1 n1 c1) ∧ W0.drew.cell? ⟨w.heap.size, 4, none⟩ = some (.string t) ∧ W0.drew.cell? ⟨w.heap.size, 5, none⟩ = some (.int .i64 (m : Int)) := ⟨cellV W0 _ 0 _ _ _ HW.out.1.hl, cellV W0 _ 0 _ _ _ HBX.out, cellV W0 _ 1 _ _ _ HBX.out, cellV W0 _ 2 _ _ _ HBX.out, cellV W0 _ 3 _ _ _ HBX.out, cellV W0 _ 4 _ _ _ HBX.out, cellV W0 _ 5 _ _ _ HBX.out⟩
  refine takeZ (i := 0) (v := .slice Va L.length Vc) rfl (by kernel_rfl) (by kernel_rfl) (by kernel_rfl) (by kernel_rfl) (fun _ _ _ h => h) (Or.inl ⟨by rfl, ?_⟩) hS ?_
  · intro w' hSw; (try dsimp only at hSw); go_simp
  try simp only [Act.put, List.setIfInBounds_toArray, List.set_cons_zero, List.set_cons_succ]
  refine takeZ (i := 1) (v := .agg #[.int .u8 1, .string x, .string y, .slice A1 n1 c1, .string t, .int .i64 (m : Int)]) rfl (by kernel_rfl) (by kernel_rfl) (by kernel_rfl) (by kernel_rfl) (fun _ _ _ h => h) (Or.inl ⟨by rfl, ?_⟩) hS ?_
  · intro w' hSw; (try dsimp only at hSw); go_simp
  try simp only [Act.put, List.setIfInBounds_toArray, List.set_cons_zero, List.set_cons_succ]
  refine stepZ (i := 2) (by kernel_rfl) rfl (fun K hK => ?_)
  go_simp
  go_at_call 52; (with_reducible refine (HTG.out _ HW.out.2.1.bel.drew).mono ?_); rintro e5 w5 ⟨hb5, A5, c5, rfl, hown5⟩; have HB5 : Hid (Below W0.drew.heap.size W0.drew w5) := Lib.hid hb5; have HTK := Lib.hid (tag_tk (k := 1) (by decide) (y := y) (V := .slice Va L.length Vc) (base := base) (by rw [HN1.out]; exact hown5) (fun q hq => by have := (HW.out.1.own.lt q hq).2; exact this) HW.out.1.sz); have HCS : Hid (tbCells ⟨y, A5, c5, ⟨#[]⟩, ⟨1, y.data.toList, pairsN nd.attrs, []⟩⟩ = [.int .u8 1, .string y, .slice A5 n1 c5, .string ⟨#[]⟩]) := Lib.hid (by unfold tbCells; rw [HPL.out]; rfl); clear hb5 hown5
  have HS5 : Hid (TlSt B base gv gn gl gt (some ⟨b0, off, none⟩) c v (p + 1) L (.slice Va L.length Vc) w5) := Lib.hid (HW.out.1.below (stp (Below.refl _ _).drew HB5.out))
  have HX5 : Hid (w5.heap[w.heap.size]? = some (.cells #[.int .u8 1, .string x, .string y, .slice A1 n1 c1, .string t, .int .i64 (m : Int)] 36 (0, 0))) := Lib.hid (kept_heap HBX.out (stp (Below.refl _ _).drew HB5.out))
  have hS5 : w5.cell? ⟨gl, 0, none⟩ = some (.slice Va L.length Vc) ∧ w5.cell? ⟨w.heap.size, 0, none⟩ = some (.int .u8 1) ∧ w5.cell? ⟨w.heap.size, 1, none⟩ = some (.string x) ∧ w5.cell? ⟨w.heap.size, 2, none⟩ = some (.string y) ∧ w5.cell? ⟨w.heap.size, 3, none⟩ = some (.slice A1 n1 c1) ∧ w5.cell? ⟨w.heap.size, 4, none⟩ = some (.string t) ∧ w5.cell? ⟨w.heap.size, 5, none⟩ = some (.int .i64 (m : Int)) := ⟨cellV w5 _ 0 _ _ _ HS5.out.hl, cellV w5 _ 0 _ _ _ HX5.out, cellV w5 _ 1 _ _ _ HX5.out, cellV w5 _ 2 _ _ _ HX5.out, cellV w5 _ 3 _ _ _ HX5.out, cellV w5 _ 4 _ _ _ HX5.out, cellV w5 _ 5 _ _ _ HX5.out⟩
  go_wp2_with fail
  refine hK.out _ _ (fun _ => hS5) (fun _ => ?_)
  clear hK K hS
  try simp only [Act.put, List.setIfInBounds_toArray, List.set_cons_zero, List.set_cons_succ]
  refine stepZ (i := 3) (by kernel_rfl) rfl (fun K hK => ?_)
  go_simp
  have HS6 := Lib.hid (HS5.out.below (stpA (Below.refl w5.heap.size w5) (.cells #[.int .u8 1, .string y, .slice A5 n1 c5, .string ⟨#[]⟩] 82)))
  have HX6 := Lib.hid (kept_heap HX5.out (stpA (Below.refl w5.heap.size w5) (.cells #[.int .u8 1, .string y, .slice A5 n1 c5, .string ⟨#[]⟩] 82)))
  have hS6 : (w5.alloc (.cells #[.int .u8 1, .string y, .slice A5 n1 c5, .string ⟨#[]⟩] 82)).cell? ⟨gl, 0, none⟩ = some (.slice Va L.length Vc) ∧ (w5.alloc (.cells #[.int .u8 1, .string y, .slice A5 n1 c5, .string ⟨#[]⟩] 82)).cell? ⟨w.heap.size, 0, none⟩ = some (.int .u8 1) ∧ (w5.alloc (.cells #[.int .u8 1, .string y, .slice A5 n1 c5, .string ⟨#[]⟩] 82)).cell? ⟨w.heap.size, 1, none⟩ = some (.string x) ∧ (w5.alloc (.cells #[.int .u8 1, .string y, .slice A5 n1 c5, .string ⟨#[]⟩] 82)).cell? ⟨w.heap.size, 2, none⟩ = some (.string y) ∧ (w5.alloc (.cells #[.int .u8 1, .string y, .slice A5 n1 c5, .string ⟨#[]⟩] 82)).cell? ⟨w.heap.size, 3, none⟩ = some (.slice A1 n1 c1) ∧ (w5.alloc (.cells #[.int .u8 1, .string y, .slice A5 n1 c5, .string ⟨#[]⟩] 82)).cell? ⟨w.heap.size, 4, none⟩ = some (.string t) ∧ (w5.alloc (.cells #[.int .u8 1, .string y, .slice A5 n1 c5, .string ⟨#[]⟩] 82)).cell? ⟨w.heap.size, 5, none⟩ = some (.int .i64 (m : Int)) := ⟨cellV (w5.alloc (.cells #[.int .u8 1, .string y, .slice A5 n1 c5, .string ⟨#[]⟩] 82)) _ 0 _ _ _ HS6.out.hl, cellV (w5.alloc (.cells #[.int .u8 1, .string y, .slice A5 n1 c5, .string ⟨#[]⟩] 82)) _ 0 _ _ _ HX6.out, cellV (w5.alloc (.cells #[.int .u8 1, .string y, .slice A5 n1 c5, .string ⟨#[]⟩] 82)) _ 1 _ _ _ HX6.out, cellV (w5.alloc (.cells #[.int .u8 1, .string y, .slice A5 n1 c5, .string ⟨#[]⟩] 82)) _ 2 _ _ _ HX6.out, cellV (w5.alloc (.cells #[.int .u8 1, .string y, .slice A5 n1 c5, .string ⟨#[]⟩] 82)) _ 3 _ _ _ HX6.out, cellV (w5.alloc (.cells #[.int .u8 1, .string y, .slice A5 n1 c5, .string ⟨#[]⟩] 82)) _ 4 _ _ _ HX6.out, cellV (w5.alloc (.cells #[.int .u8 1, .string y, .slice A5 n1 c5, .string ⟨#[]⟩] 82)) _ 5 _ _ _ HX6.out⟩
  refine hK.out _ _ (fun _ => hS6) (fun _ => ?_)
  clear hK K hS5
  try simp only [Act.put, List.setIfInBounds_toArray, List.set_cons_zero, List.set_cons_succ]
  refine stepZ (i := 4) (by kernel_rfl) rfl (fun K hK => ?_)
  have HSZ : Hid (base ≤ w5.heap.size) := Lib.hid HS5.out.sz
  refine step_append_lies _ rfl (.tmp 11) (.tmp 14) 41 rfl base 82 i0 (.agg #[.int .u8 0, .string ⟨#[]⟩, .slice none 0 0, .string ⟨#[]⟩]) 4 64 Tryz.underlying41 HI.out HZ0.out HZ1.out HZ2.out rfl (by decide) _ L.length _ rfl (own_belowK HS5.out.own (stpA (Below.refl _ _) _) (Nat.le_refl _)) ⟨w5.heap.size, 0, none⟩ 1 1 [.int .u8 1, .string y, .slice A5 n1 c5, .string ⟨#[]⟩] rfl rfl (new_at w5 [.int .u8 1, .string y, .slice A5 n1 c5, .string ⟨#[]⟩] 82 _ rfl) (tb_one _ _ _ _ _ _) (by decide) (by have := HL.out; unfold maxLen; omega) (by have := HL.out; omega) (by have := HSZ.out; rw [World.size_alloc]; omega) (w5.heap.size + 1) (by rw [World.size_alloc]) ?_
  intro g8 c8 w8 hown8 hgr8 hor hlt8
  have hpush := HS5.out.push (b := ⟨y, A5, c5, ⟨#[]⟩, ⟨1, y.data.toList, pairsN nd.attrs, []⟩⟩) HTK.out.1 HTK.out.2 (by rw [HCS.out]; exact hown8) hgr8 hor
  have HP8 := Lib.hid hpush.1
  have HF8 := Lib.hid hpush.2
  have st8 : ∀ (q : Nat) (o : Obj), w5.heap[q]? = some o → some q ≠ (Value.slice Va L.length Vc).ownBlock → w8.heap[q]? = some o := fun q o ho hne => by
    have h1 := kept_heap ho (stpA (Below.refl w5.heap.size w5) (.cells #[.int .u8 1, .string y, .slice A5 n1 c5, .string ⟨#[]⟩] 82))
    exact (hgr8.block _ (Array.getElem?_eq_some_iff.1 h1).1 hne).trans h1
  have hgl := st8 gl _ HS5.out.hl (fun e => by have := (HS5.out.own.lt _ e.symm).1; have := HS5.out.ord; omega)
  have hbx := st8 w.heap.size _ HX5.out (fun e => by have := (HST.out.own.lt _ e.symm).2; omega)
  have k8 : w8.cell? ⟨gl, 0, none⟩ = some (.slice Va L.length Vc) ∧ w8.cell? ⟨w.heap.size, 0, none⟩ = some (.int .u8 1) ∧ w8.cell? ⟨w.heap.size, 1, none⟩ = some (.string x) ∧ w8.cell? ⟨w.heap.size, 2, none⟩ = some (.string y) ∧ w8.cell? ⟨w.heap.size, 3, none⟩ = some (.slice A1 n1 c1) ∧ w8.cell? ⟨w.heap.size, 4, none⟩ = some (.string t) ∧ w8.cell? ⟨w.heap.size, 5, none⟩ = some (.int .i64 (m : Int)) := ⟨cellV w8 _ 0 _ _ _ hgl, cellV w8 _ 0 _ _ _ hbx, cellV w8 _ 1 _ _ _ hbx, cellV w8 _ 2 _ _ _ hbx, cellV w8 _ 3 _ _ _ hbx, cellV w8 _ 4 _ _ _ hbx, cellV w8 _ 5 _ _ _ hbx⟩
  have f8 : w8.frozen? ⟨gl, 0, none⟩ = false := freeV w8 _ 0 _ _ hgl
  have k81 := k8.1
  have HG8 : Hid (g8 ≠ w.heap.size) := Lib.hid (fun e => by rcases hor with h | h; (have := (HST.out.own.lt _ h).2; omega); (have := HB5.out.size; have h2 := HW.out.2.2.2.2; have h3 : W0.heap.size ≤ w5.heap.size := this; omega))
  have HBX8 : Hid ((w8.setCell ⟨gl, 0, none⟩ (.slice (some ⟨g8, 0, none⟩) (L.length + 1) c8)).heap[w.heap.size]? = some (.cells #[.int .u8 1, .string x, .string y, .slice A1 n1 c1, .string t, .int .i64 (m : Int)] 36 (0, 0))) := Lib.hid ((set_other w8 gl 0 w.heap.size _ (by have := HST.out.ord; have := HST.out.sz; omega)).trans hbx)
  clear hown8 hgr8 hor hgl st8 hpush
  refine hK.out _ _ (fun _ => k8) (fun _ => ?_)
  clear hK K
  try simp only [Act.put, List.setIfInBounds_toArray, List.set_cons_zero, List.set_cons_succ]
  refine stepZ (i := 5) (by kernel_rfl) rfl (fun K hK => ?_)
  go_simp
  refine hK.out _ _ (fun h => absurd rfl h) (fun _ => ?_)
  clear hK K
  try simp only [Act.put, List.setIfInBounds_toArray, List.set_cons_zero, List.set_cons_succ]
  refine doneZ (by kernel_rfl) ?_ _
  refine NoPanic.normal ?_
  have HFR0 : Hid (Fr10 B gn gl (.slice Va L.length Vc) w (.slice (some ⟨g8, 0, none⟩) (L.length + 1) c8) (w8.setCell ⟨gl, 0, none⟩ (.slice (some ⟨g8, 0, none⟩) (L.length + 1) c8))) := Lib.hid ((HW.out.2.1.trans (Fr10.of_below (stp (Below.refl _ _).drew HB5.out) (by have := HST.out.ord; have := HW.out.2.2.2; omega))).trans HF8.out)
  obtain ⟨W8, hW8⟩ : ∃ W8, w8.setCell ⟨gl, 0, none⟩ (.slice (some ⟨g8, 0, none⟩) (L.length + 1) c8) = W8 := ⟨_, rfl⟩
  rw [hW8] at HP8 HF8 HFR0 HBX8
  rw [hW8]
  have kb5 := cellV W8 _ 5 _ _ _ HBX8.out
  have HBS : Hid (w.heap.size < W8.heap.size) := Lib.hid (lt_heap HBX8.out)
  clear k8 f8 k81 hbx hW8 hS6
  go_wp2_with fail
  go_loopg [18] m (fun gg i wr => ∃ (j : Nat) (b' : Bool) (p' : Nat) (M : List TB) (V' : Value), j + gg = m ∧ i = .int .i64 j ∧ kidsD (restD d) j false (v.drop (p + 1)) = some (b', v.drop p') ∧ p' ≤ n ∧ TlSt B base gv gn gl gt (some ⟨b0, off, none⟩) c v p' (L ++ [⟨y, A5, c5, ⟨#[]⟩, ⟨1, y.data.toList, pairsN nd.attrs, []⟩⟩] ++ M) V' wr ∧ M.map TB.t = (toldK (toldD d) j (v.drop (p + 1))).1 ∧ Fr10 B gn gl (.slice (some ⟨g8, 0, none⟩) (L.length + 1) c8) W8 V' wr)
  case atStart => exact ⟨0, false, p + 1, [], _, by omega, rfl, by rw [kidsD], by have := HPLT.out; have := HLN.out; omega, by rw [List.append_nil]; exact HP8.out, by simp [toldK], Fr10.refl _ _ _ _ _⟩
  case round =>
    obtain ⟨j, b', p', M, V', hjg, rfl, hkd, hpn, hst, hM, hfr⟩ := hrel
    have HS := Lib.hid hst
    have HFR := Lib.hid hfr
    have HMM2 := Lib.hid hM
    have hrest := toldK_rest (fun l r h => toldD_rest d l r h) j false _ b' _ hkd
    have hcnt := toldK_cnt (fun l r h => toldD_cnt d l r h) j false _ b' _ hkd
    have hMl : M.length = (toldK (toldD d) j (v.drop (p + 1))).1.length := by rw [← hM, List.length_map]
    by_cases hlt : j < m
    · have hlt2 : (j : Int) < (m : Int) := by omega
      obtain ⟨hp2, r2, h1, h2, h3⟩ := kids_more HK.out hkd hlt
      have hcall := HIH.out p' _ V' r2 wr hp2 h1 (by
        have := HCN.out
        rw [List.length_append, List.length_append, List.length_singleton, hMl]
        omega) hst
      have HC := Lib.hid hcall
      have kt := cell_of_one hst.ht
      unfold tellF at kt
      obtain ⟨p3, hp3⟩ : ∃ p3, v.length - r2.length = p3 := ⟨_, rfl⟩
      rw [hp3] at HC h2
      have H2 := Lib.hid h2
      have HP3 : Hid (p3 ≤ n) := Lib.hid (by have := HLN.out; omega)
      have HSN : Hid ((toldK (toldD d) (j + 1) (v.drop (p + 1))).1 = (toldK (toldD d) j (v.drop (p + 1))).1 ++ (toldD d (v.drop p')).1) := Lib.hid (by rw [toldK_snoc, hrest])
      clear hcall hkd h1 h2 h3 hp3 hst hfr hM hrest hcnt hMl
      clear kb5
      go_wp2_with (first
        | (go_at_call 50; (with_reducible refine (HC.out).mono ?_); rintro e2 w2 ⟨rfl, M2, V2, hM2, hst2, hfr2⟩; have HM2' := Lib.hid hM2; have HS2 := Lib.hid hst2; have HF2 := Lib.hid hfr2; clear hM2 hst2 hfr2)
        | fail)
      go_roundg (gk - 1)
      case measure => omega
      case rel => exact ⟨j + 1, _, p3, M ++ M2, V2, by omega, by go_num, H2.out, HP3.out, by rw [← List.append_assoc]; exact HS2.out, by rw [List.map_append, HMM2.out, HM2'.out, HSN.out], HFR.out.trans HF2.out⟩
    · obtain rfl : j = m := by omega
      have hjj : ¬ ((j : Int) < (j : Int)) := by omega
      obtain ⟨L2, hL2⟩ : ∃ L2, L ++ [⟨y, A5, c5, ⟨#[]⟩, ⟨1, y.data.toList, pairsN nd.attrs, []⟩⟩] ++ M = L2 := ⟨_, rfl⟩
      rw [hL2] at HS hst
      obtain ⟨Va2, Vc2, rfl⟩ := own_form2 hst.own
      have HPQ : Hid (p' = q9) := Lib.hid (by
        have h9 := HK.out
        rw [hkd] at h9
        injection h9 with h9
        injection h9 with _ h9
        have h8 := congrArg List.length h9
        rw [List.length_drop, HLN.out] at h8
        have := HRL.out
        have := HQ9.out
        have := HLN.out
        omega)
      have HL2b : Hid (L2.length ≤ 100000) := Lib.hid (by
        rw [← hL2, List.length_append, List.length_append, List.length_singleton, hMl]
        have := HCN.out
        omega)
      have HBW : Hid (wr.heap[w.heap.size]? = some (.cells #[.int .u8 1, .string x, .string y, .slice A1 n1 c1, .string t, .int .i64 (j : Int)] 36 (0, 0))) := Lib.hid ((hfr.blk w.heap.size HBS.out (by have := HST.out.ord; have := HST.out.sz; omega) (by have := HST.out.ord; have := HST.out.sz; omega) (fun e => HG8.out (by simpa [Value.ownBlock] using e.symm))).trans HBX8.out)
      have HVN : Hid (∀ e, (Value.slice Va2 L2.length Vc2).ownBlock = some e → e ≠ w.heap.size) := Lib.hid fun e he h => HG8.out (by
        have := hfr.lie w.heap.size HBS.out (by rw [← h]; exact he)
        simpa [Value.ownBlock] using this)
      have HL2E := Lib.hid hL2
      clear hkd hst hfr hM hrest hcnt hMl hL2
      clear kb5
      go_wp2_with fail
      refine wp_region_noPanic ?_
      refine wp_region_Z (fun W => W.cell? ⟨gl, 0, none⟩ = some (.slice Va2 L2.length Vc2) ∧ W.cell? ⟨w.heap.size, 2, none⟩ = some (.string y)) 7 (by kernel_rfl) ?_
      have hS : wr.drew.cell? ⟨gl, 0, none⟩ = some (.slice Va2 L2.length Vc2) ∧ wr.drew.cell? ⟨w.heap.size, 2, none⟩ = some (.string y) := ⟨cellV wr _ 0 _ _ _ HS.out.hl, cellV wr _ 2 _ _ _ HBW.out⟩
      refine takeZ (i := 0) (v := .slice Va2 L2.length Vc2) rfl (by kernel_rfl) (by kernel_rfl) (by kernel_rfl) (by kernel_rfl) (fun _ _ _ h => h) (Or.inl ⟨by rfl, ?_⟩) hS ?_
      · intro w' hSw; (try dsimp only at hSw); go_simp
      try simp only [Act.put, List.setIfInBounds_toArray, List.set_cons_zero, List.set_cons_succ]
      refine takeZ (i := 1) (v := .pointer (some ⟨w.heap.size, 2, none⟩)) rfl (by kernel_rfl) (by kernel_rfl) (by kernel_rfl) (by kernel_rfl) (fun _ _ _ h => h) (Or.inl ⟨by rfl, ?_⟩) hS ?_
      · intro w' hSw; (try dsimp only at hSw); go_simp
      try simp only [Act.put, List.setIfInBounds_toArray, List.set_cons_zero, List.set_cons_succ]
      refine takeZ (i := 2) (v := .string y) rfl (by kernel_rfl) (by kernel_rfl) (by kernel_rfl) (by kernel_rfl) (fun _ _ _ h => h) (Or.inl ⟨by rfl, ?_⟩) hS ?_
      · intro w' hSw; (try dsimp only at hSw); go_simp
      try simp only [Act.put, List.setIfInBounds_toArray, List.set_cons_zero, List.set_cons_succ]
      refine stepZ (i := 3) (by kernel_rfl) rfl (fun K hK => ?_)
      go_simp
      go_at_call 51; (with_reducible refine (clone9 y _ HYS.out).mono ?_); rintro e15 w15 ⟨rfl, hb15⟩; have HB15 : Hid (Below wr.drew.heap.size wr.drew w15) := Lib.hid hb15; clear hb15
      have HS15 : Hid (TlSt B base gv gn gl gt (some ⟨b0, off, none⟩) c v p' L2 (.slice Va2 L2.length Vc2) w15) := Lib.hid (HS.out.below (stp (Below.refl _ _).drew HB15.out))
      have HX15 : Hid (w15.heap[w.heap.size]? = some (.cells #[.int .u8 1, .string x, .string y, .slice A1 n1 c1, .string t, .int .i64 (j : Int)] 36 (0, 0))) := Lib.hid (kept_heap HBW.out (stp (Below.refl _ _).drew HB15.out))
      have hS15 : w15.cell? ⟨gl, 0, none⟩ = some (.slice Va2 L2.length Vc2) ∧ w15.cell? ⟨w.heap.size, 2, none⟩ = some (.string y) := ⟨cellV w15 _ 0 _ _ _ HS15.out.hl, cellV w15 _ 2 _ _ _ HX15.out⟩
      go_wp2_with fail
      refine hK.out _ _ (fun _ => hS15) (fun _ => ?_)
      clear hK K hS
      try simp only [Act.put, List.setIfInBounds_toArray, List.set_cons_zero, List.set_cons_succ]
      refine takeZ (i := 4) (v := .agg #[.int .u8 2, .string y, .slice none 0 0, .string ⟨#[]⟩]) rfl (by kernel_rfl) (by kernel_rfl) (by kernel_rfl) (by kernel_rfl) (fun _ _ _ h => h) (Or.inl ⟨by rfl, ?_⟩) hS15 ?_
      · intro w' hSw; (try dsimp only at hSw); go_simp
      try simp only [Act.put, List.setIfInBounds_toArray, List.set_cons_zero, List.set_cons_succ]
      refine stepZ (i := 5) (by kernel_rfl) rfl (fun K hK => ?_)
      go_simp
      have HS16 := Lib.hid (HS15.out.below (stpA (Below.refl w15.heap.size w15) (.cells #[.int .u8 2, .string y, .slice none 0 0, .string ⟨#[]⟩] 82)))
      have HX16 := Lib.hid (kept_heap HX15.out (stpA (Below.refl w15.heap.size w15) (.cells #[.int .u8 2, .string y, .slice none 0 0, .string ⟨#[]⟩] 82)))
      have hS16 : (w15.alloc (.cells #[.int .u8 2, .string y, .slice none 0 0, .string ⟨#[]⟩] 82)).cell? ⟨gl, 0, none⟩ = some (.slice Va2 L2.length Vc2) ∧ (w15.alloc (.cells #[.int .u8 2, .string y, .slice none 0 0, .string ⟨#[]⟩] 82)).cell? ⟨w.heap.size, 2, none⟩ = some (.string y) := ⟨cellV (w15.alloc (.cells #[.int .u8 2, .string y, .slice none 0 0, .string ⟨#[]⟩] 82)) _ 0 _ _ _ HS16.out.hl, cellV (w15.alloc (.cells #[.int .u8 2, .string y, .slice none 0 0, .string ⟨#[]⟩] 82)) _ 2 _ _ _ HX16.out⟩
      refine hK.out _ _ (fun _ => hS16) (fun _ => ?_)
      clear hK K hS15
      try simp only [Act.put, List.setIfInBounds_toArray, List.set_cons_zero, List.set_cons_succ]
      refine stepZ (i := 6) (by kernel_rfl) rfl (fun K hK => ?_)
      have HSZ18 : Hid (base ≤ w15.heap.size) := Lib.hid HS15.out.sz
      refine step_append_lies _ rfl (.tmp 23) (.tmp 28) 41 rfl base 82 i0 (.agg #[.int .u8 0, .string ⟨#[]⟩, .slice none 0 0, .string ⟨#[]⟩]) 4 64 Tryz.underlying41 HI.out HZ0.out HZ1.out HZ2.out rfl (by decide) _ L2.length _ rfl (own_belowK HS15.out.own (stpA (Below.refl _ _) _) (Nat.le_refl _)) ⟨w15.heap.size, 0, none⟩ 1 1 [.int .u8 2, .string y, .slice none 0 0, .string ⟨#[]⟩] rfl rfl (new_at w15 [.int .u8 2, .string y, .slice none 0 0, .string ⟨#[]⟩] 82 _ rfl) (tb_one _ _ _ _ _ _) (by decide) (by have := HL2b.out; unfold maxLen; omega) (by have := HL2b.out; omega) (by have := HSZ18.out; rw [World.size_alloc]; omega) (w15.heap.size + 1) (by rw [World.size_alloc]) ?_
      intro g18 c18 w18 hown18 hgr18 hor18 hlt18
      have hpush := HS15.out.push (b := ⟨y, none, 0, ⟨#[]⟩, ⟨2, y.data.toList, [], (⟨#[]⟩ : ByteArray).data.toList⟩⟩) (tk_plain _ 2 (by decide) y ⟨#[]⟩) (off_plain _ _ 2 y ⟨#[]⟩) hown18 hgr18 hor18
      have HP18 := Lib.hid hpush.1
      have HF18 := Lib.hid hpush.2
      have st18 : ∀ (q : Nat) (o : Obj), w15.heap[q]? = some o → some q ≠ (Value.slice Va2 L2.length Vc2).ownBlock → w18.heap[q]? = some o := fun q o ho hne => by
        have h1 := kept_heap ho (stpA (Below.refl w15.heap.size w15) (.cells #[.int .u8 2, .string y, .slice none 0 0, .string ⟨#[]⟩] 82))
        exact (hgr18.block _ (Array.getElem?_eq_some_iff.1 h1).1 hne).trans h1
      have hgl := st18 gl _ HS15.out.hl (fun e => by have := (HS15.out.own.lt _ e.symm).1; have := HS15.out.ord; omega)
      have hbx := st18 w.heap.size _ HX15.out (fun e => HVN.out _ e.symm rfl)
      have k18 : w18.cell? ⟨gl, 0, none⟩ = some (.slice Va2 L2.length Vc2) ∧ w18.cell? ⟨w.heap.size, 2, none⟩ = some (.string y) := ⟨cellV w18 _ 0 _ _ _ hgl, cellV w18 _ 2 _ _ _ hbx⟩
      have f18 : w18.frozen? ⟨gl, 0, none⟩ = false := freeV w18 _ 0 _ _ hgl
      have k181 := k18.1
      clear hown18 hgr18 hor18 hgl st18 hpush
      refine hK.out _ _ (fun _ => k18) (fun _ => ?_)
      clear hK K
      try simp only [Act.put, List.setIfInBounds_toArray, List.set_cons_zero, List.set_cons_succ]
      refine stepZ (i := 7) (by kernel_rfl) rfl (fun K hK => ?_)
      go_simp
      refine hK.out _ _ (fun h => absurd rfl h) (fun _ => ?_)
      clear hK K
      try simp only [Act.put, List.setIfInBounds_toArray, List.set_cons_zero, List.set_cons_succ]
      refine doneZ (by kernel_rfl) ?_ _
      refine NoPanic.normal ?_
      go_wp2_with fail
      (try simp only [Exit.inBlock, Exit.then, Exit.noGoto])
      go_end0
      refine ⟨rfl, [⟨y, A5, c5, ⟨#[]⟩, ⟨1, y.data.toList, pairsN nd.attrs, []⟩⟩] ++ M ++ [⟨y, none, 0, ⟨#[]⟩, ⟨2, y.data.toList, [], (⟨#[]⟩ : ByteArray).data.toList⟩⟩], _, ?_, ?_, (HFR0.out.trans (HFR.out.trans (Fr10.of_below (stp (Below.refl _ _).drew HB15.out) (by have := HS.out.ord; have := HS.out.sz; omega)))).trans HF18.out⟩
      · rw [List.map_append, List.map_append, HMM2.out]
        show (_ :: _) ++ [_] = _ :: (_ ++ [_])
        rw [HNM.out]
        rfl
      · rw [← HPQ.out, ← List.append_assoc, ← List.append_assoc, HL2E.out]
        exact HP18.out
/-- The closure of Tokens. -/
theorem tell_all (B base gv gn gl gt : Nat) (A : Option Addr) (c : Nat) (v : List Nd) (hl : v.length ≤ 512) (hsm : ∀ n ∈ v, SmallN n) : ∀ d, Tells10 B base gv gn gl gt A c v d := by
  intro d
  induction d with
  | zero =>
    intro p L V r w hp hr hcn h
    have hk : (v[p]'hp).kind = 2 := by
      have h' := hr
      rw [List.drop_eq_getElem_cons hp, restD] at h'
      by_cases hn : ndOk (v[p]'hp) = true ∧ (v[p]'hp).kind = 2
      · exact hn.2
      · rw [if_neg hn] at h'; cases h'
    exact tell_text B base gv gn gl gt A c v hl hsm 0 p L V r w hp hr (by omega) h hk
  | succ d ih =>
    intro p L V r w hp hr hcn h
    have hok : ndOk (v[p]'hp) = true ∧ 0 ≤ (v[p]'hp).many := by
      have h' := hr
      rw [List.drop_eq_getElem_cons hp] at h'
      exact ⟨(restD_ok h').1, (restD_ok h').2.1⟩
    by_cases hk : (v[p]'hp).kind = 1
    · by_cases hm : (v[p]'hp).many = 0
      · exact tell_bare B base gv gn gl gt A c v hl hsm (d + 1) p L V r w hp hr (by omega) h hk hm
      · exact tell_open B base gv gn gl gt A c v hl hsm d p L V r w hp hr (by omega) h hcn hk (by omega) ih
    · exact tell_text B base gv gn gl gt A c v hl hsm (d + 1) p L V r w hp hr (by omega) h ((ndOk_kind hok.1).resolve_left hk)
end Hx
end Go.Proofs.YtbjgfaflikgobaaGreatDoor
