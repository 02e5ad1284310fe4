/-
  The contract of sha.Of.
-/
import Derived.Test.YtmjcmlaeajglmaaShaK
import Derived.Test.YtmjcmlaeajglmaaShaP
import Derived.Test.YtmjcmlaeajglmaaShaC
import Derived.Test.YtmjcmlaeajglmaaShaD
import Derived.Deep.CutBlock
import Derived.Deep.DeepCutAuto
namespace Go.Proofs.Ytmjcmlaeajglmaa
open Go.RowKit Go.Shelf
namespace Hx
open Go Wd Sh
attribute [local go_sem] Oper.semAt_some
set_option linter.unusedSimpArgs false
set_option linter.unusedVariables false

theorem five_cells {W : World} {g : Nat} {t : TypeId} {v : S5} (h : W.heap[g]? = some (.cells (five v) t (0, 0))) :
    (W.cell? ⟨g, 0, none⟩ = some (.int .u32 v.a.toNat) ∧ W.cell? ⟨g, 1, none⟩ = some (.int .u32 v.b.toNat) ∧ W.cell? ⟨g, 2, none⟩ = some (.int .u32 v.c.toNat) ∧ W.cell? ⟨g, 3, none⟩ = some (.int .u32 v.d.toNat) ∧ W.cell? ⟨g, 4, none⟩ = some (.int .u32 v.e.toNat)) ∧
    (W.frozen? ⟨g, 0, none⟩ = false ∧ W.frozen? ⟨g, 1, none⟩ = false ∧ W.frozen? ⟨g, 2, none⟩ = false ∧ W.frozen? ⟨g, 3, none⟩ = false ∧ W.frozen? ⟨g, 4, none⟩ = false) :=
  ⟨⟨cell_of_row W g 0 _ _ _ h, cell_of_row W g 1 _ _ _ h, cell_of_row W g 2 _ _ _ h, cell_of_row W g 3 _ _ _ h, cell_of_row W g 4 _ _ _ h⟩, frozen_of_row W g _ _ _ h, frozen_of_row W g _ _ _ h, frozen_of_row W g _ _ _ h, frozen_of_row W g _ _ _ h, frozen_of_row W g _ _ _ h⟩
theorem run_arrayAt {P : Program} {t e n len cap : Nat} {a : Option Addr} (ht : P.underlying t = some (.array n e)) (h : n ≤ len) (w : World) : (Instr.arrayAt t (.slice a len cap)).run P w = .ok (.pointer a) w := by
  have h' : ¬ len < n := by omega
  simp [Instr.arrayAt, run_underlying ht, h']
theorem opIn_load_run {F : Fence} {n : Nat} {P : Program} {op : Oper} {a : Act} {w : World} {K : Act → World → Prop} {Q : Exit → Act → World → Prop} {ty : TypeId} {x : Operand} (ho : op.op = .load ty x) (v : Value)
    (hrun : (Instr.loadAt ty (a.eval x)).run P w = .ok v w) (h : K (a.put op.dst v) w) : op.wpIn F n P a w K Q := by
  refine ⟨fun f hf => by simp [Oper.about, ho] at hf, ?_⟩
  have hs : op.semAt F.round a.eval = execOp a.eval op := Oper.semAt_eq _ _ _ (fun c e => by rw [ho] at e; cases e)
  have hr : (execOp a.eval op).run P w = .ok (.value v) w := by
    unfold execOp
    simp only [ho, Sem.run_bind, hrun, Result.andThen_ok, Sem.run_pure]
  rw [hs, hr]
  exact h
theorem block_cs (h : S5) (b : List UInt8) (cs : List Value) (w : World) (hb : b.length = 64) (hcs : b.map encB = cs) (r : S5) (hr : blk h b = r) :
    Calls Try.prog 32 #[.agg (five h), .agg cs.toArray] w fun e w' => e = .returned (.agg (five r)) ∧ Below w.heap.size w w' := by
  subst hcs
  exact block_any h b w hb r hr
theorem keeps_below {W V : World} (h : Below W.heap.size W V) : KeepsOthers W V := ⟨h.size, fun k o hk _ => (h.block k (Array.getElem?_eq_some_iff.1 hk).1).trans hk⟩
theorem results_cell_row2 {P : Program} {fn : Func} {p q : Tmp} {ty : TypeId} (h : fn.results = #[.cell p ty, .tmp q]) (tmps : Array Value) (w : World) (g : Nat) (t : TypeId) (cs : Array Value) (fr : Nat × Nat) (d : TypeDesc)
    (hp : tmps.getD p undef = .pointer (some ⟨g, 0, none⟩)) (hg : w.heap[g]? = some (.cells cs t fr))
    (hu : P.underlying ty = some d) (hd : (match d with | .struct _ | .array _ _ => true | _ => false) = true) (hi : (P.info? ty).map (·.size) = some cs.size) :
    (results fn tmps).run P w = .ok (.tuple #[.agg cs, tmps.getD q undef]) w := by
  have hp' : tmps[p]?.getD undef = .pointer (some ⟨g, 0, none⟩) := by simpa using hp
  simp [results, h, hp', asAddr, run_loadVar_row w g t ty cs fr d hg hu hd hi]
theorem putObj_other (W : World) (l : Nat) (o : Obj) (k : Nat) (h : k ≠ l) : (W.putObj l o).heap[k]? = W.heap[k]? := by
  by_cases hlt : k < W.heap.size
  · exact (grownBy_putObj' W l o).block k hlt (fun e => by cases e; exact h rfl)
  · have h1 : W.heap[k]? = none := by simp; omega
    have h2 : (W.putObj l o).heap[k]? = none := by simp [World.putObj]; omega
    rw [h1, h2]
/-- word.Bytes of a state in a variable. -/
def By5 (r : S5) (W : World) (e : Ending) (w' : World) : Prop := Below W.heap.size W w' ∧ ∃ g o c, e = .returned (.slice (some ⟨g, o, none⟩) 20 c) ∧ g < w'.heap.size ∧ w'.rangeAt g o ((bytesL r.toL).map encB)
theorem bytes_five (B : Nat) (r : S5) (w : World) (h : w.heap[B]? = some (.cells (five r) 36 (0, 0))) :
    Calls Try.prog 17 #[.slice (some ⟨B, 0, none⟩) 5 5] w (By5 r w) := by
  have hb : Blk encW w B 36 r.toL := h
  refine (bytes_any (some ⟨B, 0, none⟩) 5 5 r.toL w hb.slice rfl (by decide)).mono fun e w' ⟨hb', A, c, he, hr⟩ => ?_
  have hl : (bytesL r.toL).length = 20 := by rw [bytesL_length]; rfl
  obtain ⟨g, o, rfl, hg, hc⟩ := hr (by rw [hl]; decide)
  refine ⟨hb', g, o, c, he, hg, fun j v hv => ?_⟩
  have hj : j < (bytesL r.toL).length := by
    have := (List.getElem?_eq_some_iff.1 hv).1
    simpa using this
  rw [hc j hj]
  rw [← hv]
  simp [hj, encB]
theorem opn1 (w : World) (A : Obj) : ∃ W, w.alloc A = W ∧ W.heap.size = w.heap.size + 1 ∧ W.heap[w.heap.size]? = some A ∧ Below w.heap.size w W := ⟨_, rfl, by simp, heap_alloc_new w A, stpA (Below.refl _ _) _⟩
set_option maxRecDepth 100000 in
theorem chunk_any (A : Option Addr) (n c : Nat) (w : World) :
    Calls Try.prog 30 #[.slice A n c, .int .i64 64] w fun e w' => e = .returned (.func (.func 44) #[] #[.pointer (some ⟨w.heap.size, 0, none⟩), .pointer (some ⟨w.heap.size + 1, 0, none⟩)]) ∧ w' = (w.alloc (.cells #[.slice A n c] 22)).alloc (.cells #[.int .i64 64] 3) := by
  go_enter Try.func30, Try.ntmps30
  go_wp2
  go_ret
  exact ⟨rfl, rfl⟩

/-- The state behind pieces of D, in the order in which they come. -/
def fs (D : List UInt8) {N : Nat} (xs : List (Fin N)) : S5 := xs.foldl (fun s k => blk s ((D.drop (64 * k.1)).take 64)) first
theorem fs_snoc (D : List UInt8) {N : Nat} (xs : List (Fin N)) (x : Fin N) : fs D (xs ++ [x]) = blk (fs D xs) ((D.drop (64 * x.1)).take 64) := by simp [fs]
theorem fs_came (D : List UInt8) (N : Nat) : ∀ k, k ≤ N → fs D (cameK N k) = goK first D k
  | 0, _ => rfl
  | k + 1, h => by rw [cameK_succ N k h, fs_snoc, fs_came D N k (by omega), goK]
theorem fs_all (D : List UInt8) (N : Nat) : fs D (List.finRange N) = goK first D N := by
  rw [← fs_came D N N (Nat.le_refl _), cameK, List.take_of_length_le (by simp)]

def OfDone (D : List UInt8) (w : World) (e : Ending) (w' : World) : Prop := e = .returned (.tuple #[.agg (D.map encB).toArray, .int .i64 0]) ∧ Below w.heap.size w w'
/-- What a round keeps: all blocks of the caller's but one. -/
def KpOf (M Bh : Nat) (A B : World) : Prop := A.heap.size ≤ B.heap.size ∧ ∀ k, k < M → k ≠ Bh → B.heap[k]? = A.heap[k]?
theorem KpOf.trans {M Bh : Nat} {A B C : World} (h : KpOf M Bh A B) (k : KpOf M Bh B C) : KpOf M Bh A C := ⟨Nat.le_trans h.1 k.1, fun i hi hn => (k.2 i hi hn).trans (h.2 i hi hn)⟩
theorem KpOf.put {M Bh : Nat} (W : World) (l : Nat) (o : Obj) (h : M ≤ l) : KpOf M Bh W (W.putObj l o) :=
  ⟨(grownBy_putObj' W l o).size, fun k hk _ => by
    by_cases hlt : k < W.heap.size
    · exact (grownBy_putObj' W l o).block k hlt (fun e => by cases e; omega)
    · have h1 : W.heap[k]? = none := by simp; omega
      have h2 : (W.putObj l o).heap[k]? = none := by simp [World.putObj]; omega
      rw [h1, h2]⟩
theorem far_step {W7 A B : World} {Bh : Nat} {row : Option Nat} (h : W7.grownBy A (some Bh)) (k : A.grownBy B row) (hr : ∀ r, row = some r → W7.heap.size ≤ r) : W7.grownBy B (some Bh) :=
  ⟨k.os.trans h.os, k.tape.trans h.tape, k.output.trans h.output, Nat.le_trans h.size k.size, fun i hi hn => (k.block i (Nat.lt_of_lt_of_le hi h.size) (fun e => by have := hr i e.symm; omega)).trans (h.block i hi hn)⟩
theorem body_end {W7 W w8 : World} {Bh : Nat} {DD : List UInt8} {N : Nat} {pre : List (Fin N)} {x : Fin N} {u v : S5} (hg : W7.grownBy W (some Bh)) (hh : W.heap[Bh]? = some (.cells (five u) 36 (0, 0))) (hb : Below W.heap.size W w8) (hfs : fs DD (pre ++ [x]) = v) (hlt : Bh < W7.heap.size) :
    KeepsOthers W (((((w8.setCell ⟨Bh, 0, none⟩ (.int .u32 v.a.toNat)).setCell ⟨Bh, 1, none⟩ (.int .u32 v.b.toNat)).setCell ⟨Bh, 2, none⟩ (.int .u32 v.c.toNat)).setCell ⟨Bh, 3, none⟩ (.int .u32 v.d.toNat)).setCell ⟨Bh, 4, none⟩ (.int .u32 v.e.toNat)) ∧ KpOf W7.heap.size Bh W (((((w8.setCell ⟨Bh, 0, none⟩ (.int .u32 v.a.toNat)).setCell ⟨Bh, 1, none⟩ (.int .u32 v.b.toNat)).setCell ⟨Bh, 2, none⟩ (.int .u32 v.c.toNat)).setCell ⟨Bh, 3, none⟩ (.int .u32 v.d.toNat)).setCell ⟨Bh, 4, none⟩ (.int .u32 v.e.toNat)) ∧ (((((w8.setCell ⟨Bh, 0, none⟩ (.int .u32 v.a.toNat)).setCell ⟨Bh, 1, none⟩ (.int .u32 v.b.toNat)).setCell ⟨Bh, 2, none⟩ (.int .u32 v.c.toNat)).setCell ⟨Bh, 3, none⟩ (.int .u32 v.d.toNat)).setCell ⟨Bh, 4, none⟩ (.int .u32 v.e.toNat)).heap[Bh]? = some (.cells (five (fs DD (pre ++ [x]))) 36 (0, 0)) ∧ W7.grownBy (((((w8.setCell ⟨Bh, 0, none⟩ (.int .u32 v.a.toNat)).setCell ⟨Bh, 1, none⟩ (.int .u32 v.b.toNat)).setCell ⟨Bh, 2, none⟩ (.int .u32 v.c.toNat)).setCell ⟨Bh, 3, none⟩ (.int .u32 v.d.toNat)).setCell ⟨Bh, 4, none⟩ (.int .u32 v.e.toNat)) (some Bh) := by
  have h8 := heap_kept hh hb
  have far : ∀ k, k ≠ Bh → (((((w8.setCell ⟨Bh, 0, none⟩ (.int .u32 v.a.toNat)).setCell ⟨Bh, 1, none⟩ (.int .u32 v.b.toNat)).setCell ⟨Bh, 2, none⟩ (.int .u32 v.c.toNat)).setCell ⟨Bh, 3, none⟩ (.int .u32 v.d.toNat)).setCell ⟨Bh, 4, none⟩ (.int .u32 v.e.toNat)).heap[k]? = w8.heap[k]? := fun k h => by
    rw [heap_setCell_other _ _ _ _ h, heap_setCell_other _ _ _ _ h, heap_setCell_other _ _ _ _ h, heap_setCell_other _ _ _ _ h, heap_setCell_other _ _ _ _ h]
  have hsz : (((((w8.setCell ⟨Bh, 0, none⟩ (.int .u32 v.a.toNat)).setCell ⟨Bh, 1, none⟩ (.int .u32 v.b.toNat)).setCell ⟨Bh, 2, none⟩ (.int .u32 v.c.toNat)).setCell ⟨Bh, 3, none⟩ (.int .u32 v.d.toNat)).setCell ⟨Bh, 4, none⟩ (.int .u32 v.e.toNat)).heap.size = w8.heap.size := by simp
  have hbl : Below 0 w8 (((((w8.setCell ⟨Bh, 0, none⟩ (.int .u32 v.a.toNat)).setCell ⟨Bh, 1, none⟩ (.int .u32 v.b.toNat)).setCell ⟨Bh, 2, none⟩ (.int .u32 v.c.toNat)).setCell ⟨Bh, 3, none⟩ (.int .u32 v.d.toNat)).setCell ⟨Bh, 4, none⟩ (.int .u32 v.e.toNat)) := (((((Below.refl 0 w8).setCell (Nat.zero_le _) _).setCell (Nat.zero_le _) _).setCell (Nat.zero_le _) _).setCell (Nat.zero_le _) _).setCell (Nat.zero_le _) _
  have hk : ∀ k, k < W.heap.size → k ≠ Bh → (((((w8.setCell ⟨Bh, 0, none⟩ (.int .u32 v.a.toNat)).setCell ⟨Bh, 1, none⟩ (.int .u32 v.b.toNat)).setCell ⟨Bh, 2, none⟩ (.int .u32 v.c.toNat)).setCell ⟨Bh, 3, none⟩ (.int .u32 v.d.toNat)).setCell ⟨Bh, 4, none⟩ (.int .u32 v.e.toNat)).heap[k]? = W.heap[k]? := fun k hk hn => (far k hn).trans (hb.block k hk)
  refine ⟨(keeps_below hb).trans (((((KeepsOthers.setCell _ _ _).trans (KeepsOthers.setCell _ _ _)).trans (KeepsOthers.setCell _ _ _)).trans (KeepsOthers.setCell _ _ _)).trans (KeepsOthers.setCell _ _ _)), ⟨by rw [hsz]; exact hb.size, fun k hlt' hn => hk k (Nat.lt_of_lt_of_le hlt' hg.size) hn⟩, ?_, ?_⟩
  · rw [hfs]
    have h0 := heap_setCell_same w8 Bh 0 _ _ (.int .u32 v.a.toNat) h8
    have h1 := heap_setCell_same _ Bh 1 _ _ (.int .u32 v.b.toNat) h0
    have h2 := heap_setCell_same _ Bh 2 _ _ (.int .u32 v.c.toNat) h1
    have h3 := heap_setCell_same _ Bh 3 _ _ (.int .u32 v.d.toNat) h2
    have h4 := heap_setCell_same _ Bh 4 _ _ (.int .u32 v.e.toNat) h3
    rw [h4]
    rfl
  · exact ⟨hbl.os.trans (hb.os.trans hg.os), hbl.tape.trans (hb.tape.trans hg.tape), hbl.output.trans (hb.output.trans hg.output), by rw [hsz]; exact Nat.le_trans hg.size hb.size, fun k hlt' hn => (hk k (Nat.lt_of_lt_of_le hlt' hg.size) (fun e => hn (by rw [e]))).trans (hg.block k hlt' hn)⟩
/-- What Concat answers. -/
def CatTo (n : Nat) (l : List UInt8) (w : World) (e : Ending) (w' : World) : Prop := Below w.heap.size w w' ∧ ∃ g c, e = .returned (.slice (some ⟨g, 0, none⟩) n c) ∧ w.heap.size ≤ g ∧ n ≤ c ∧ c ≤ maxLen ∧ RdA w' w'.heap.size (some ⟨g, 0, none⟩) l
def z20 : Array Value := #[.int .u8 0, .int .u8 0, .int .u8 0, .int .u8 0, .int .u8 0, .int .u8 0, .int .u8 0, .int .u8 0, .int .u8 0, .int .u8 0, .int .u8 0, .int .u8 0, .int .u8 0, .int .u8 0, .int .u8 0, .int .u8 0, .int .u8 0, .int .u8 0, .int .u8 0, .int .u8 0]

set_option maxHeartbeats 4000000 in
set_option maxRecDepth 100000 in
theorem of_ok64 (A : Option Addr) (n cp : Nat) (b : List UInt8) (w : World) (hr : RdA w w.heap.size A b) (hn : b.length = n) (hz : A = none → cp = 0) (hm : n ≤ 16384) (D : List UInt8) (hD : dig b = D) :
    Calls Try.prog 10 #[.slice A n cp] w (OfDone D w) := by
  refine (callsIn_wide (n := 9)).1 ?_
  refine callsIn_of_wp_marks Try.func10 rfl trivial ?_ rfl
  refine wpIn_wide.2 ?_
  simp only [Try.ntmps10, List.size_toArray, List.length_cons, List.length_nil, Nat.reduceAdd, Nat.reduceSub, Array.replicate_succ, Array.replicate_zero, List.push_toArray, List.append_toArray, List.nil_append, List.cons_append]
  obtain ⟨P, hP⟩ : ∃ P, padL n = P := ⟨_, rfl⟩
  obtain ⟨m, hmP⟩ : ∃ m, P.length = m := ⟨_, rfl⟩
  have HP := Lib.hid hP
  have HMP := Lib.hid hmP
  have HR := Lib.hid hr
  have HN := Lib.hid hn
  have HZ := Lib.hid hz
  have HD := Lib.hid hD
  clear hP hmP hr hn hz hD
  go_upto_region 1 with fail
  obtain ⟨W1, hW1, hs1, h0, hb1⟩ := opn1 w (Obj.cells z20 23)
  have hW1' : w.alloc (Obj.cells #[.int .u8 0, .int .u8 0, .int .u8 0, .int .u8 0, .int .u8 0, .int .u8 0, .int .u8 0, .int .u8 0, .int .u8 0, .int .u8 0, .int .u8 0, .int .u8 0, .int .u8 0, .int .u8 0, .int .u8 0, .int .u8 0, .int .u8 0, .int .u8 0, .int .u8 0, .int .u8 0] 23) = W1 := hW1
  rw [hW1']
  have H0 := Lib.hid h0
  have HS1 := Lib.hid hs1
  clear hW1 hW1' h0 hs1
  go_upto_region 5 with (first
    | (go_at_call 12; (with_reducible refine (pad_ok n W1 hm P m HP.out HMP.out).mono ?_); rintro e w2 ⟨hb2, g2, c2, rfl, hc2, hm2, hr2⟩; have HR2 := Lib.hid hr2; clear hr2)
    | (go_at_call 16; (with_reducible refine (first_any w2).mono ?_); rintro e w3 ⟨rfl, hb3⟩)
    | fail)
  obtain ⟨W4, hW4, hs4, h4, hb4⟩ := opn1 w3 (Obj.cells #[.int .u32 first.a.toNat, .int .u32 first.b.toNat, .int .u32 first.c.toNat, .int .u32 first.d.toNat, .int .u32 first.e.toNat] 36)
  rw [hW4]
  have hbw3 := stp (stp hb1 hb2) hb3
  have hbw4 := stp hbw3 hb4
  have h04 := heap_kept (heap_kept (heap_kept H0.out hb2) hb3) hb4
  have hr24 := (HR2.out.below (stp hb3 hb4)).mono (Nat.le_trans hb3.size hb4.size)
  have hBh : w.heap.size < w3.heap.size := by have := HS1.out; have := hb2.size; have := hb3.size; omega
  obtain ⟨Bh, hBe⟩ : ∃ Bh, w3.heap.size = Bh := ⟨_, rfl⟩
  rw [hBe] at h4 hBh hs4 ⊢
  have H4 : Hid (W4.heap[Bh]? = some (.cells (five first) 36 (0, 0))) := h4
  have H04 := Lib.hid h04
  have HR24 := Lib.hid hr24
  have HS4 := Lib.hid hs4
  have HRW4 := Lib.hid ((HR.out.below hbw4).mono hbw4.size)
  clear hW4 h4 h04 hr24 hs4 hBe hbw3 hb4 hb3 hb2 hb1 HR2 H0 HS1 HR
  obtain ⟨NN, hNN⟩ : ∃ NN, n + m = NN := ⟨_, rfl⟩
  have hmb : 9 ≤ m ∧ m ≤ 72 := by rw [← HMP.out, ← HP.out]; exact padL_bd n
  have hN64 : NN % 64 = 0 := by have := padL_whole n; rw [HP.out, HMP.out] at this; omega
  have HNN := Lib.hid hNN
  clear hNN
  have HCC : Hid (Calls Try.prog 31 #[.slice (some ⟨W4.heap.size, 0, none⟩) 2 2] (W4.alloc (.cells #[.slice A n cp, .slice (some ⟨g2, 0, none⟩) m c2] 22)) (CatTo NN (b ++ P) (W4.alloc (.cells #[.slice A n cp, .slice (some ⟨g2, 0, none⟩) m c2] 22)))) := by
    have k1 : Below W4.heap.size W4 (W4.alloc (.cells #[.slice A n cp, .slice (some ⟨g2, 0, none⟩) m c2] 22)) := stpA (Below.refl _ _) _
    have := concat_two W4.heap.size A n cp b (some ⟨g2, 0, none⟩) m c2 P (W4.alloc (.cells #[.slice A n cp, .slice (some ⟨g2, 0, none⟩) m c2] 22)) (by rw [World.cell?_alloc_new]; rfl) (by rw [World.cell?_alloc_new]; rfl)
      ((HRW4.out.below k1).mono k1.size) HN.out HZ.out ((HR24.out.below k1).mono k1.size) HMP.out (fun h => by cases h) (by omega) (by omega)
    rw [HNN.out] at this
    exact this
  go_wp2_with (first
    | (go_at_call 31; (with_reducible refine HCC.out.mono ?_); rintro e w6 ⟨hb6, g6, c6, rfl, hg6, hc6, hm6, hr6⟩; have HR6 := Lib.hid hr6; clear hr6)
    | (go_at_call 30; (with_reducible refine (chunk_any (some ⟨g6, 0, none⟩) NN c6 w6).mono ?_); rintro e w7 ⟨rfl, rfl⟩)
    | fail)
  have hg6l : g6 < w6.heap.size := by
    obtain ⟨b', o', e, hlt, _⟩ := HR6.out (by rw [List.length_append, HN.out, HMP.out]; omega)
    cases e
    exact hlt
  have hBh6 : Bh < w6.heap.size := by have := HS4.out; have := hb6.size; simp at this; omega
  have hgB : g6 ≠ Bh := by have := HS4.out; simp at hg6; omega
  have h6 : w6.heap[Bh]? = some (.cells (five first) 36 (0, 0)) := heap_kept (heap_kept H4.out (stpA (Below.refl _ _) _)) hb6
  have h06 := heap_kept (heap_kept H04.out (stpA (Below.refl _ _) _)) hb6
  have hb6' : Below w.heap.size w w6 := stp (stpA hbw4 _) hb6
  obtain ⟨S6, hS6⟩ : ∃ S6, w6.heap.size = S6 := ⟨_, rfl⟩
  rw [hS6] at hg6l hBh6 ⊢
  obtain ⟨W7, hW7⟩ : ∃ W7, (w6.alloc (.cells #[.slice (some ⟨g6, 0, none⟩) NN c6] 22)).alloc (.cells #[.int .i64 64] 3) = W7 := ⟨_, rfl⟩
  have k7 : Below w6.heap.size w6 W7 := by rw [← hW7]; exact stpA (stpA (Below.refl _ _) _) _
  have hs7 : W7.heap.size = S6 + 1 + 1 := by rw [← hW7, ← hS6]; simp
  have cS : W7.cell? ⟨S6, 0, none⟩ = some (.slice (some ⟨g6, 0, none⟩) NN c6) := by
    rw [← hW7, ← hS6, World.cell?_alloc_lt _ _ _ (by simp), World.cell?_alloc_new]
    rfl
  have cN : W7.cell? ⟨S6 + 1, 0, none⟩ = some (.int .i64 64) := by
    have := cell_of_row W7 (S6 + 1) 0 #[.int .i64 64] 3 (0, 0) (by rw [← hW7, ← hS6]; have := heap_alloc_new (w6.alloc (.cells #[.slice (some ⟨g6, 0, none⟩) NN c6] 22)) (.cells #[.int .i64 64] 3); simpa using this)
    exact this
  have h7 := heap_kept h6 k7
  have h07 := heap_kept h06 k7
  have hr7 : RdA W7 W7.heap.size (some ⟨g6, 0, none⟩) (b ++ P) := (HR6.out.below k7).mono k7.size
  have hb7 : Below w.heap.size w W7 := stp hb6' k7
  rw [hW7]
  obtain ⟨DD, hDD⟩ : ∃ DD, b ++ P = DD := ⟨_, rfl⟩
  rw [hDD] at hr7
  have hDDl : DD.length = NN := by rw [← hDD, List.length_append, HN.out, HMP.out, HNN.out]
  have HDD := Lib.hid hDD
  clear hDD
  obtain ⟨N, hN⟩ : ∃ N, NN / 64 = N := ⟨_, rfl⟩
  have hN' : NN = 64 * N := by omega
  have HDL : Hid (DD.length = 64 * N) := hDDl.trans hN'
  clear hDDl
  have HN' := Lib.hid hN'
  clear hN' hN
  have hBh7 : Bh < W7.heap.size := by omega
  refine (wpIn_wide (n := 9)).1 ?_
  refine wpIn_rangeFunc_ownF (F := Fence.wide) (n := 9) rfl (by decide) (gf := 44) (lb := #[.pointer (some ⟨S6, 0, none⟩), .pointer (some ⟨S6 + 1, 0, none⟩)]) rfl trivial (enters_of Try.func44 (by kernel_rfl) rfl)
    (encs := fun x : Fin N => #[chunkV g6 x.1]) (Kp := KpOf W7.heap.size Bh) (S := fun xs => xs = List.finRange N) (Sp := fun _ => True) (N := N) (w0 := W7) ?hseq (fun h k => KpOf.trans h k) (fun W l o o' hl _ _ _ => KpOf.put W l o' hl) (Below.refl _ _) (fun _ => rfl)
    (fun pre W => W.heap[Bh]? = some (.cells (five (fs DD pre)) 36 (0, 0)) ∧ W7.grownBy W (some Bh)) (fun _ _ _ => False)
    (fun s U V row hs hg hr => ⟨(hg.block Bh (heap_lt hs.1) (fun e => by have := (hr Bh e.symm).1; omega)).trans hs.1, far_step hs.2 hg (fun r e => (hr r e).1)⟩)
    (fun _ _ _ _ _ hs _ _ => hs) ⟨h7, World.grownBy.refl _ _⟩
    (fun x => { tmps := #[.slice A n cp, undef, .pointer (some ⟨w.heap.size, 0, none⟩), .int .i64 0, .slice (some ⟨g2, 0, none⟩) m c2, .int .i64 0, .pointer (some ⟨Bh, 0, none⟩), chunkV g6 x.1, .tuple #[.slice (some ⟨g2, 0, none⟩) m c2, .int .i64 0], .slice A n cp, .int .i64 n, .tuple #[.slice (some ⟨g2, 0, none⟩) m c2, .int .i64 0], .slice (some ⟨g2, 0, none⟩) m c2, .int .i64 0, .int .i64 0, .bool false, undef, undef, .agg (five first), .slice A n cp, .slice (some ⟨g2, 0, none⟩) m c2, .slice (some ⟨W4.heap.size, 0, none⟩) 2 2, .slice (some ⟨g6, 0, none⟩) NN c6, .func (.func 44) #[] #[.pointer (some ⟨S6, 0, none⟩), .pointer (some ⟨S6 + 1, 0, none⟩)], chunkV g6 x.1, undef, undef, undef, undef, undef, undef, undef, undef, undef], defers := [] }) ?assign ?body ?done ?stop
  case hseq =>
    intro l J Jx W hW hJ hJx hY h0
    have w1 : W.cell? ⟨S6, 0, none⟩ = some (.slice (some ⟨g6, 0, none⟩) (64 * N) c6) := by rw [← HN'.out]; exact (hW.cell (p := ⟨S6, 0, none⟩) (by show S6 < _; omega)).trans cS
    have w2 : W.cell? ⟨S6 + 1, 0, none⟩ = some (.int .i64 64) := (hW.cell (p := ⟨S6 + 1, 0, none⟩) (by show S6 + 1 < _; omega)).trans cN
    have kb : ∀ (q : Nat), q < W7.heap.size → q ≠ Bh → ∀ A B : World, KpOf W7.heap.size Bh A B → B.cell? ⟨q, 0, none⟩ = A.cell? ⟨q, 0, none⟩ := fun q hq hn A B h => World.cell?_of_block (h.2 q hq hn)
    refine (chunk1_in Fence.wide 8 trivial rfl (by decide) l S6 (S6 + 1) g6 N c6 (by rw [← HN'.out]; exact hc6) (by have := HN'.out; have := HNN.out; omega) (KpOf W7.heap.size Bh) (kb S6 (by omega) (by omega)) (kb (S6 + 1) (by omega) (by omega)) J Jx (fun xs U h => hJ xs U U.drew none h ⟨rfl, rfl, rfl, Nat.le_refl _, fun _ _ _ => rfl⟩ (fun r e => by cases e)) hY W w1 w2 h0).mono ?_
    exact fun e W' h => h
  case assign =>
    intro l x W K hK
    gi_wp2
    exact hK
  case stop =>
    rintro D c pre W _ _ h _
    exact h.elim
  case body =>
    rintro l pre x W ⟨hh, hg⟩ hlen
    have hx64 : 64 * x.1 + 64 ≤ 64 * N := by have := x.2; omega
    have hrow : W.rangeAt g6 (64 * x.1) (((DD.drop (64 * x.1)).take 64).map encB) := by
      intro j v hv
      have hj : j < 64 := by
        have := (List.getElem?_eq_some_iff.1 hv).1
        simp at this
        omega
      obtain ⟨b', o', e, hlt, hcc⟩ := hr7 (by have := HDL.out; have := x.2; omega)
      cases e
      have h1 := hcc (64 * x.1 + j) (by have := HDL.out; omega)
      rw [Nat.zero_add] at h1
      rw [World.cell?_of_block (w := W7) (hg.block g6 (by omega) (fun e => by cases e; exact hgB rfl)), h1]
      rw [← hv]
      simp [hj, encB, show 64 * x.1 + j < DD.length by have := HDL.out; omega]
    obtain ⟨cs, hcs⟩ : ∃ cs, ((DD.drop (64 * x.1)).take 64).map encB = cs := ⟨_, rfl⟩
    rw [hcs] at hrow
    obtain ⟨u, hu⟩ : ∃ u, fs DD pre = u := ⟨_, rfl⟩
    rw [hu] at hh
    have hblen : ((DD.drop (64 * x.1)).take 64).length = 64 := by rw [List.length_take, List.length_drop, HDL.out]; omega
    obtain ⟨v, hv⟩ : ∃ v, blk u ((DD.drop (64 * x.1)).take 64) = v := ⟨_, rfl⟩
    have hfs : fs DD (pre ++ [x]) = v := by rw [fs_snoc, hu, hv]
    have hcl : cs.length = 64 := by rw [← hcs, List.length_map, hblen]
    have hld : (Instr.loadAt 64 (.pointer (some ⟨g6, 64 * x.1, none⟩))).run Try.prog W.drew = .ok (.agg cs.toArray) W.drew := run_loadAt_mid W.drew g6 (64 * x.1) 64 cs _ (by simpa using hrow) Try.underlying64 rfl (by rw [hcl]; kernel_rfl)
    have hsp : ∀ w, (Instr.arrayAt 64 (chunkV g6 x.1)).run Try.prog w = .ok (.pointer (some ⟨g6, 64 * x.1, none⟩)) w := fun w => run_arrayAt Try.underlying64 (by decide) w
    obtain ⟨⟨z0, z1, z2, z3, z4⟩, ⟨f0, f1, f2, f3, f4⟩⟩ := five_cells hh
    have HH := Lib.hid hh
    have HG := Lib.hid hg
    have HFS := Lib.hid hfs
    have HV := Lib.hid hv
    have HBL := Lib.hid hblen
    have HCS := Lib.hid hcs
    clear hh hg hfs hv hblen hcs hrow hu hcl f0 f1 f2 f3 f4
    have hmo : Try.prog.follows .mixedOrders = true := by kernel_rfl
    gi_wp2
    refine wpIn_region_any hmo ?_
    change wpAnyIn _ _ _ _ _ _ _ _ _ (World.drew _)
    refine wpAnyIn_ready (rs := [0, 1]) (by kernel_rfl) (by simp) ?_
    refine AllReadyIn.cons rfl (fun K hK => ?_) ?_
    · skip
      go_simp
      refine hK _ _ ?_
      clear hK K
      refine wpAnyIn_ready (rs := [1]) (by kernel_rfl) (by simp) ?_
      refine AllReadyIn.cons rfl (fun K hK => ?_) AllReadyIn.nil
      go_simp
      refine hK _ _ ?_
      clear hK K
      refine wpAnyIn_ready (rs := [2]) (by kernel_rfl) (by simp) ?_
      refine AllReadyIn.cons rfl (fun K hK => ?_) AllReadyIn.nil
      go_simp
      refine hK _ _ ?_
      clear hK K
      refine wpAnyIn_ready (rs := [3]) (by kernel_rfl) (by simp) ?_
      refine AllReadyIn.cons rfl (fun K hK => ?_) AllReadyIn.nil
      rw [if_pos (by rfl)]
      refine opIn_load_run rfl _ hld ?_
      refine hK _ _ ?_
      clear hK K
      simp only [Act.put, List.setIfInBounds_toArray, List.set_cons_zero, List.set_cons_succ]
      refine wpAnyIn_ready (rs := [4]) (by kernel_rfl) (by simp) ?_
      refine AllReadyIn.cons rfl (fun K hK => ?_) AllReadyIn.nil
      go_simp
      refine ⟨trivial, ?_⟩
      gi_at_call 32
      refine (CallsIn.inRound l (callsIn_wide.2 (block_cs u _ cs W.drew HBL.out HCS.out v HV.out))).mono ?_
      rintro e w8 ⟨rfl, hb8⟩
      have hb8' := below_of_drew hb8
      obtain ⟨⟨y0, y1, y2, y3, y4⟩, ⟨f0, f1, f2, f3, f4⟩⟩ := five_cells (heap_kept HH.out hb8')
      refine hK _ _ ?_
      clear hK K
      refine wpAnyIn_ready (rs := [5]) (by kernel_rfl) (by simp) ?_
      refine AllReadyIn.cons rfl (fun K hK => ?_) AllReadyIn.nil
      go_simp
      refine hK _ _ ?_
      clear hK K
      refine wpAnyIn_done (by kernel_rfl) ?_ _
      clear y0 y1 y2 y3 y4 f0 f1 f2 f3 f4 z0 z1 z2 z3 z4 hld hsp
      gi_wp2
      exact body_end HG.out HH.out hb8' HFS.out hBh7
    refine AllReadyIn.cons rfl (fun K hK => ?_) AllReadyIn.nil
    go_simp
    refine hK _ _ ?_
    clear hK K
    refine wpAnyIn_ready (rs := [0, 2]) (by kernel_rfl) (by simp) ?_
    refine AllReadyIn.cons rfl (fun K hK => ?_) ?_
    · skip
      go_simp
      refine hK _ _ ?_
      clear hK K
      refine wpAnyIn_ready (rs := [2]) (by kernel_rfl) (by simp) ?_
      refine AllReadyIn.cons rfl (fun K hK => ?_) AllReadyIn.nil
      go_simp
      refine hK _ _ ?_
      clear hK K
      refine wpAnyIn_ready (rs := [3]) (by kernel_rfl) (by simp) ?_
      refine AllReadyIn.cons rfl (fun K hK => ?_) AllReadyIn.nil
      rw [if_pos (by rfl)]
      refine opIn_load_run rfl _ hld ?_
      refine hK _ _ ?_
      clear hK K
      simp only [Act.put, List.setIfInBounds_toArray, List.set_cons_zero, List.set_cons_succ]
      refine wpAnyIn_ready (rs := [4]) (by kernel_rfl) (by simp) ?_
      refine AllReadyIn.cons rfl (fun K hK => ?_) AllReadyIn.nil
      go_simp
      refine ⟨trivial, ?_⟩
      gi_at_call 32
      refine (CallsIn.inRound l (callsIn_wide.2 (block_cs u _ cs W.drew HBL.out HCS.out v HV.out))).mono ?_
      rintro e w8 ⟨rfl, hb8⟩
      have hb8' := below_of_drew hb8
      obtain ⟨⟨y0, y1, y2, y3, y4⟩, ⟨f0, f1, f2, f3, f4⟩⟩ := five_cells (heap_kept HH.out hb8')
      refine hK _ _ ?_
      clear hK K
      refine wpAnyIn_ready (rs := [5]) (by kernel_rfl) (by simp) ?_
      refine AllReadyIn.cons rfl (fun K hK => ?_) AllReadyIn.nil
      go_simp
      refine hK _ _ ?_
      clear hK K
      refine wpAnyIn_done (by kernel_rfl) ?_ _
      clear y0 y1 y2 y3 y4 f0 f1 f2 f3 f4 z0 z1 z2 z3 z4 hld hsp
      gi_wp2
      exact body_end HG.out HH.out hb8' HFS.out hBh7
    refine AllReadyIn.cons rfl (fun K hK => ?_) AllReadyIn.nil
    go_simp
    refine hK _ _ ?_
    clear hK K
    refine wpAnyIn_ready (rs := [0, 3]) (by kernel_rfl) (by simp) ?_
    refine AllReadyIn.cons rfl (fun K hK => ?_) ?_
    · skip
      go_simp
      refine hK _ _ ?_
      clear hK K
      refine wpAnyIn_ready (rs := [3]) (by kernel_rfl) (by simp) ?_
      refine AllReadyIn.cons rfl (fun K hK => ?_) AllReadyIn.nil
      rw [if_pos (by rfl)]
      refine opIn_load_run rfl _ hld ?_
      refine hK _ _ ?_
      clear hK K
      simp only [Act.put, List.setIfInBounds_toArray, List.set_cons_zero, List.set_cons_succ]
      refine wpAnyIn_ready (rs := [4]) (by kernel_rfl) (by simp) ?_
      refine AllReadyIn.cons rfl (fun K hK => ?_) AllReadyIn.nil
      go_simp
      refine ⟨trivial, ?_⟩
      gi_at_call 32
      refine (CallsIn.inRound l (callsIn_wide.2 (block_cs u _ cs W.drew HBL.out HCS.out v HV.out))).mono ?_
      rintro e w8 ⟨rfl, hb8⟩
      have hb8' := below_of_drew hb8
      obtain ⟨⟨y0, y1, y2, y3, y4⟩, ⟨f0, f1, f2, f3, f4⟩⟩ := five_cells (heap_kept HH.out hb8')
      refine hK _ _ ?_
      clear hK K
      refine wpAnyIn_ready (rs := [5]) (by kernel_rfl) (by simp) ?_
      refine AllReadyIn.cons rfl (fun K hK => ?_) AllReadyIn.nil
      go_simp
      refine hK _ _ ?_
      clear hK K
      refine wpAnyIn_done (by kernel_rfl) ?_ _
      clear y0 y1 y2 y3 y4 f0 f1 f2 f3 f4 z0 z1 z2 z3 z4 hld hsp
      gi_wp2
      exact body_end HG.out HH.out hb8' HFS.out hBh7
    refine AllReadyIn.cons rfl (fun K hK => ?_) AllReadyIn.nil
    rw [if_pos (by rfl)]
    refine opIn_load_run rfl _ hld ?_
    refine hK _ _ ?_
    clear hK K
    simp only [Act.put, List.setIfInBounds_toArray, List.set_cons_zero, List.set_cons_succ]
    refine wpAnyIn_ready (rs := [0]) (by kernel_rfl) (by simp) ?_
    refine AllReadyIn.cons rfl (fun K hK => ?_) AllReadyIn.nil
    go_simp
    refine hK _ _ ?_
    clear hK K
    refine wpAnyIn_ready (rs := [4]) (by kernel_rfl) (by simp) ?_
    refine AllReadyIn.cons rfl (fun K hK => ?_) AllReadyIn.nil
    go_simp
    refine ⟨trivial, ?_⟩
    gi_at_call 32
    refine (CallsIn.inRound l (callsIn_wide.2 (block_cs u _ cs W.drew HBL.out HCS.out v HV.out))).mono ?_
    rintro e w8 ⟨rfl, hb8⟩
    have hb8' := below_of_drew hb8
    obtain ⟨⟨y0, y1, y2, y3, y4⟩, ⟨f0, f1, f2, f3, f4⟩⟩ := five_cells (heap_kept HH.out hb8')
    refine hK _ _ ?_
    clear hK K
    refine wpAnyIn_ready (rs := [5]) (by kernel_rfl) (by simp) ?_
    refine AllReadyIn.cons rfl (fun K hK => ?_) AllReadyIn.nil
    go_simp
    refine hK _ _ ?_
    clear hK K
    refine wpAnyIn_done (by kernel_rfl) ?_ _
    clear y0 y1 y2 y3 y4 f0 f1 f2 f3 f4 z0 z1 z2 z3 z4 hld hsp
    gi_wp2
    exact body_end HG.out HH.out hb8' HFS.out hBh7
  case done =>
    rintro Dk xs W hDs rfl ⟨hh, hg⟩ hK
    have HB : Hid (fs DD (List.finRange N) = goL first DD) := by
      show fs DD (List.finRange N) = goL first DD
      rw [fs_all, goL, HDL.out]
      congr 1
      omega
    rw [HB.out] at hh
    obtain ⟨r, hr⟩ : ∃ r, goL first DD = r := ⟨_, rfl⟩
    rw [hr] at hh
    have HD2 : Hid (bytesL r.toL = D) := by show bytesL r.toL = D; rw [← hr, ← HDD.out, ← HD.out, dig, HN.out, HP.out]
    have HH := Lib.hid hh
    have HG := Lib.hid hg
    have HK := Lib.hid hK
    have H0W : Hid (W.heap[w.heap.size]? = some (.cells z20 23 (0, 0))) := (hg.block w.heap.size (heap_lt h07) (fun e => by cases e; omega)).trans h07
    have hl20 : (bytesL r.toL).length = 20 := by rw [bytesL_length]; rfl
    have HSZ : Hid ((Try.prog.info? 23).map (·.size) = some ((bytesL r.toL).map encB).length) := by show _ = _; rw [List.length_map, hl20]; kernel_rfl
    have HSZ2 : Hid ((Try.prog.info? 23).map (·.size) = some ((bytesL r.toL).map encB).toArray.size) := by show _ = _; rw [List.size_toArray, List.length_map, hl20]; kernel_rfl
    have HSZ3 : Hid (z20.size = ((bytesL r.toL).map encB).toArray.size) := by show (20 : Nat) = _; rw [List.size_toArray, List.length_map, hl20]
    have hDk : Dk ≠ w.heap.size := by have := hb7.size; have := heap_lt h07; omega
    clear hh hg hK hr hl20
    go_wp2_with (first
      | (go_at_call 17; (with_reducible refine (bytes_five Bh r W HH.out).mono ?_); rintro e w9 ⟨hb9, g9, o9, c9, rfl, hl9, hc9⟩; have HC9 := Lib.hid hc9; clear hc9; have hsp2 : ∀ w, (Instr.arrayAt 23 (.slice (some ⟨g9, o9, none⟩) 20 c9)).run Try.prog w = .ok (.pointer (some ⟨g9, o9, none⟩)) w := fun w => run_arrayAt Try.underlying23 (by decide) w; have H09 := Lib.hid (heap_kept H0W.out hb9); have HK9 := Lib.hid (heap_kept HK.out hb9))
      | (refine wpList_load_mid rfl _ _ rfl g9 o9 rfl ((bytesL r.toL).map encB) _ HC9.out Try.underlying23 rfl HSZ.out ?_)
      | (refine wpList_store_row rfl _ _ _ rfl w.heap.size ((bytesL r.toL).map encB).toArray rfl rfl 23 z20 H09.out HSZ2.out HSZ3.out (map_one encB_one _) ?_)
      | fail)
    have hKD : ((w9.setRow w.heap.size ((bytesL r.toL).map encB).toArray)).heap[Dk]? = some (.deferred (some [])) := (setRow_other _ _ _ _ hDk).trans HK9.out
    refine ⟨by simp, .inl ⟨_, _, rfl, run_takeDeferred hKD, ?_⟩⟩
    refine ⟨_, results_cell_row2 rfl _ _ _ _ _ _ _ rfl ((putObj_other _ _ _ _ (Ne.symm hDk)).trans (setRow_heap _ _ _ _ _ _ H09.out)) Try.underlying23 rfl HSZ2.out, ?_, ?_⟩
    · rw [HD2.out]
      rfl
    · have hw := hb7.grown HG.out hb7.size (fun k e => by cases e; omega)
      have hw9 := hw.trans (hb9.mono hw.size)
      have hws := below_setRow0 hw9 (Nat.le_refl _) ((bytesL r.toL).map encB).toArray
      exact hws.grown (grownBy_putObj' _ Dk _) hws.size (fun k e => by cases e; have := hb7.size; omega)
end Hx
end Go.Proofs.Ytmjcmlaeajglmaa
