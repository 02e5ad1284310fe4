/-
  Texts of one seat, put together: Lelx, LexBx, LexA, LexE, LexNa.
-/
import Derived.Test.YtlhjcdkkmloamaaGreatDoorSp31
import Derived.Test.YtlhjcdkkmloamaaGreatDoorSp06
import Derived.Test.YtlhjcdkkmloamaaGreatDoorSp15
import Derived.Deep.AppendLies
import Derived.Test.YtlhjcdkkmloamaaGreatDoorSp09
import Derived.Lib.LaidU8T
set_option linter.unusedSimpArgs false
namespace Go.Proofs.YtlhjcdkkmloamaaGreatDoor
open Go.RowKit
namespace Hx
open Lx Tx Nmb Es
set_option maxRecDepth 100000
set_option maxHeartbeats 16000000
set_option linter.unusedVariables false
set_option linter.unusedSimpArgs false
structure TokKept (rb : Nat) (row : Option Nat) (w w' : World) : Prop where
  size : w.heap.size ≤ w'.heap.size
  block : ∀ k, rb < k → k < w.heap.size → some k ≠ row → w'.heap[k]? = w.heap[k]?
theorem tk_stay {rb : Nat} {row : Option Nat} {w w' : World} (B : TB) (h : TkC.R w w.heap.size (tbCells B) B.t) (hA : 0 < B.t.attrs.length → ∀ ad, B.A = some ad → rb < ad.block ∧ some ad.block ≠ row) (hk : TokKept rb row w w') : TkC.R w' w'.heap.size (tbCells B) B.t := by
  obtain ⟨x', A', c', u', e1, e2, e3, e4, e5, e6, e7, e8⟩ := h
  have e1' := e1
  unfold tbCells at e1'
  injection e1' with _ e1'
  injection e1' with _ e1'
  injection e1' with e9 _
  injection e9 with e9 _ _
  subst e9
  refine ⟨x', _, c', u', e1, e2, e3, e4, e5, e6, e7, fun hp => ?_⟩
  obtain ⟨b0, off, e10, hlt, hc⟩ := e8 hp
  obtain ⟨q1, q2⟩ := hA hp _ e10
  dsimp only at q1 q2
  refine ⟨b0, off, e10, Nat.lt_of_lt_of_le hlt hk.size, fun j hj => ?_⟩
  obtain ⟨cs', k1, k2⟩ := hc j hj
  refine ⟨cs', k1, fun i hi => ?_⟩
  rw [World.cell?_of_block (w := w) (hk.block b0 q1 hlt q2)]
  exact k2 i hi
structure LxS (w : World) (p q rb : Nat) (L : List TB) (v : Value) (u : ByteArray) (wr : World) : Prop where
  gr : Below w.heap.size w wr
  rd : Rd rb u wr
  cl : wr.heap[p]? = some (.cells #[v] 67 (0, 0))
  ce : wr.heap[q]? = some (.cells #[.int .i64 0] 25 (0, 0))
  own : wr.ownsRow (rb + 1) 84 4 v L.length (L.flatMap tbCells)
  toks : ∀ B ∈ L, TkC.R wr wr.heap.size (tbCells B) B.t ∧ (0 < B.t.attrs.length → ∀ ad, B.A = some ad → rb < ad.block ∧ some ad.block ≠ v.ownBlock)
section
variable {w : World} {p q rb : Nat} {L : List TB} {v : Value} {u : ByteArray} {wr : World}
theorem LxS.went (h : LxS w p q rb L v u wr) (hp : w.heap.size ≤ p) (hpq : p < q) (hq : q < rb) {u' : ByteArray} {wr' : World} (k : Went rb u' wr wr') : LxS w p q rb L v u' wr' := by
  have hbelow : Below w.heap.size wr wr' := below_grown k.gr (by omega) h.rd.lt
  refine ⟨h.gr.trans hbelow, k.rd, k.heap h.cl (by omega), k.heap h.ce (by omega), h.own.kept k.gr ?_, fun B hB => ⟨tk_stay (row := none) B (h.toks B hB).1 (fun hl ad e => ⟨((h.toks B hB).2 hl ad e).1, by simp⟩) ⟨k.gr.size, fun j hj hlt _ => k.gr.block j hlt (fun e => by injection e with e; omega)⟩, (h.toks B hB).2⟩⟩
  cases hv : v.ownBlock with
  | none => exact .inl rfl
  | some j =>
    right
    intro e
    have := (h.own.lt j hv).1
    injection e with e
    omega
theorem LxS.below (h : LxS w p q rb L v u wr) {wr' : World} (k : Below wr.heap.size wr wr') (hw : w.heap.size ≤ wr.heap.size) : LxS w p q rb L v u wr' :=
  ⟨h.gr.trans (k.mono hw), h.rd.below k, kept_heap h.cl k, kept_heap h.ce k, own_belowK h.own k (Nat.le_refl _), fun B hB => ⟨TkC.keep (h.toks B hB).1 k.size (fun bl o hlt => k.cell (p := ⟨bl, o, none⟩) hlt), (h.toks B hB).2⟩⟩
theorem LxS.push {A A1 : Option Addr} {c c1 g4 c4 : Nat} {x y z : ByteArray} {t : Tk} {w5 w6 : World} {ob : Obj} (h : LxS w p q rb L (.slice A L.length c) y w5) (hw : w.heap.size ≤ p) (hpq : p < q) (hq : q < rb)
    (hR : TkC.R w5 w5.heap.size (tbCells ⟨x, A1, c1, z, t⟩) t) (hRb : 0 < t.attrs.length → ∀ ad, A1 = some ad → rb < ad.block ∧ some ad.block ≠ (Value.slice A L.length c).ownBlock)
    (hown : w6.ownsRow (rb + 1) 84 4 (.slice (some ⟨g4, 0, none⟩) (L.length + 1) c4) (L.length + 1) (L.flatMap tbCells ++ tbCells ⟨x, A1, c1, z, t⟩)) (hgr : (w5.alloc ob).grownBy w6 (Value.slice A L.length c).ownBlock)
    (hor : (Value.slice A L.length c).ownBlock = some g4 ∨ g4 = (w5.alloc ob).heap.size) :
    LxS w p q rb (L ++ [⟨x, A1, c1, z, t⟩]) (.slice (some ⟨g4, 0, none⟩) (L.length + 1) c4) y (w6.setCell ⟨p, 0, none⟩ (.slice (some ⟨g4, 0, none⟩) (L.length + 1) c4)) := by
  have hne : ∀ k, k ≤ rb → some k ≠ (Value.slice A L.length c).ownBlock := fun k hk e => by have := (h.own.lt k e.symm).1; omega
  have stay : ∀ k o, k ≤ rb → w5.heap[k]? = some o → w6.heap[k]? = some o := fun k o hk ho => by
    have h1 := kept_heap ho (stpA (Below.refl w5.heap.size w5) ob)
    exact (hgr.block k (Array.getElem?_eq_some_iff.1 h1).1 (hne k hk)).trans h1
  have hsz : w5.heap.size ≤ w6.heap.size := Nat.le_trans (by simp) hgr.size
  have hset : ∀ a : Value, ((w6.setCell ⟨p, 0, none⟩ a).heap.size) = w6.heap.size := fun a => by simp [World.setCell]
  have ho1 := set_same9 w6 p 0 _ _ (.slice (some ⟨g4, 0, none⟩) (L.length + 1) c4) (stay p _ (by omega) h.cl)
  have hbel : Below w.heap.size w5 (w6.setCell ⟨p, 0, none⟩ (.slice (some ⟨g4, 0, none⟩) (L.length + 1) c4)) := by
    refine ⟨hgr.os, hgr.tape, hgr.output, by rw [hset]; exact hsz, fun k hk => ?_⟩
    have hk5 : k < w5.heap.size := Nat.lt_of_lt_of_le hk h.gr.size
    rw [set_other w6 p 0 k _ (by omega), hgr.block k (by simp; omega) (hne k (by omega)), Below.heap_alloc _ _ _ hk5]
  have hkept : TokKept rb (Value.slice A L.length c).ownBlock w5 (w6.setCell ⟨p, 0, none⟩ (.slice (some ⟨g4, 0, none⟩) (L.length + 1) c4)) := by
    refine ⟨by rw [hset]; exact hsz, fun k hk hlt hn => ?_⟩
    rw [set_other w6 p 0 k _ (by omega), hgr.block k (by simp; omega) hn, Below.heap_alloc _ _ _ hlt]
  have hnew : ∀ (B : TB), (0 < B.t.attrs.length → ∀ ad, B.A = some ad → rb < ad.block ∧ some ad.block ≠ (Value.slice A L.length c).ownBlock) → TkC.R w5 w5.heap.size (tbCells B) B.t →
      TkC.R (w6.setCell ⟨p, 0, none⟩ (.slice (some ⟨g4, 0, none⟩) (L.length + 1) c4)) (w6.setCell ⟨p, 0, none⟩ (.slice (some ⟨g4, 0, none⟩) (L.length + 1) c4)).heap.size (tbCells B) B.t ∧ (0 < B.t.attrs.length → ∀ ad, B.A = some ad → rb < ad.block ∧ some ad.block ≠ (Value.slice (some ⟨g4, 0, none⟩) (L.length + 1) c4).ownBlock) := by
    intro B hB hk
    refine ⟨tk_stay B hk hB hkept, fun hl ad e => ⟨(hB hl ad e).1, ?_⟩⟩
    rcases hor with h6 | h6
    · show some ad.block ≠ some g4
      rw [← h6]
      exact (hB hl ad e).2
    · show some ad.block ≠ some g4
      obtain ⟨x', A', c', u', e1, _, _, _, _, _, _, e8⟩ := hk
      unfold tbCells at e1
      injection e1 with _ e1
      injection e1 with _ e1
      injection e1 with e9 _
      injection e9 with e9 _ _
      subst e9
      obtain ⟨b0, off, e10, hlt, _⟩ := e8 hl
      rw [e] at e10
      injection e10 with e10
      subst e10
      intro e11
      injection e11 with e11
      rw [h6] at e11
      simp at e11
      omega
  refine ⟨h.gr.trans hbel, (set_other w6 p 0 rb _ (by omega)).trans (stay rb _ (Nat.le_refl _) h.rd), by simpa using ho1, (set_other w6 p 0 q _ (by omega)).trans (stay q _ (by omega) h.ce), ?_, fun B hB => ?_⟩
  · have := own_setCell hown p 0 (by omega) (.slice (some ⟨g4, 0, none⟩) (L.length + 1) c4)
    rw [List.length_append, List.flatMap_append]
    simpa using this
  · rcases List.mem_append.1 hB with hB | hB
    · exact hnew B (h.toks B hB).2 (h.toks B hB).1
    · obtain rfl := List.mem_singleton.1 hB
      exact hnew _ hRb hR
end
theorem LexTo.good9 {s : ByteArray} {w wr : World} {p q rb : Nat} {L : List TB} {A : Option Addr} {c : Nat} {u : ByteArray} (h : LxS w p q rb L (.slice A L.length c) u wr) (hl : lexR s.data.toList = (L.map TB.t, 0, 0)) : LexTo s w (.returned (.tuple #[.slice A L.length c, .int .i64 0, .int .i64 0])) wr := by
  obtain ⟨h1, _, h3, h4, h5⟩ := RdC.of_own (C := TkC) tbCells TB.t (fun _ => rfl) (by decide) L (fun b hm => (h.toks b hm).1) h.own
  exact ⟨h.gr, L.map TB.t, 0, 0, A, c, hl, by rw [List.length_map], h1, by rw [List.length_map]; exact h3, h4, h5⟩
theorem LxS.ends {w : World} {p q rb : Nat} {L : List TB} {v : Value} {u : ByteArray} {wr : World} (h : LxS w p q rb L v u wr) (hp : w.heap.size ≤ p) (hpq : p < q) (hq : q < rb) : LxS w p q rb L v u ((wr.setCell ⟨p, 0, none⟩ v).setCell ⟨q, 0, none⟩ (.int .i64 0)) := by
  have h1 := set_same9 wr p 0 _ _ v h.cl
  have h2 : (wr.setCell ⟨p, 0, none⟩ v).heap[q]? = some (.cells #[.int .i64 0] 25 (0, 0)) := (set_other wr p 0 q _ (by omega)).trans h.ce
  have h3 := set_same9 (wr.setCell ⟨p, 0, none⟩ v) q 0 _ _ (.int .i64 0) h2
  have hsz : ((wr.setCell ⟨p, 0, none⟩ v).setCell ⟨q, 0, none⟩ (.int .i64 0)).heap.size = wr.heap.size := by simp [World.setCell]
  refine ⟨(h.gr.setCell (p := ⟨p, 0, none⟩) hp v).setCell (p := ⟨q, 0, none⟩) (show w.heap.size ≤ q by omega) _, ?_, ?_, by simpa using h3, own_setCell (own_setCell h.own p 0 (by omega) v) q 0 (by omega) _, fun B hB => ⟨tk_stay (row := none) B (h.toks B hB).1 (fun hl ad e => ⟨((h.toks B hB).2 hl ad e).1, by simp⟩) ⟨by rw [hsz]; exact Nat.le_refl _, fun j hj hlt _ => (set_other _ q 0 j _ (by omega)).trans (set_other wr p 0 j _ (by omega))⟩, (h.toks B hB).2⟩⟩
  · exact (set_other _ q 0 rb _ (by omega)).trans ((set_other wr p 0 rb _ (by omega)).trans h.rd)
  · exact (set_other _ q 0 p _ (by omega)).trans (by simpa using h1)
theorem lex_throw (W : World) (p : Nat) {tmps : Array Value} {x er y : Int} {v : Value} {R : Ending → World → Prop} (htmps : tmps.getD 2 undef = .pointer (some ⟨p, 0, none⟩) ∧ tmps.getD 3 undef = .int .i64 x ∧ tmps.getD 4 undef = .pointer (some ⟨p + 1, 0, none⟩))
    (hl : W.heap[p]? = some (.cells #[v] 67 (0, 0))) (he : W.heap[p + 1]? = some (.cells #[.int .i64 y] 25 (0, 0))) (h : ∀ W', Below p W W' → R (.returned (.tuple #[.slice none 0 0, .int .i64 x, .int .i64 er])) W') :
    bodyPostD Tryz.prog Tryz.f39 R (Exit.panic [{ v := .iface 25 (.int .i64 er), recovered := false }]) { tmps := tmps, defers := [{ target := .fn (.func 54) #[.pointer (some ⟨p, 0, none⟩), .pointer (some ⟨p + 1, 0, none⟩)], args := #[] }] } W := by
  obtain ⟨h2, h3, h4⟩ := htmps
  have h2' : tmps[2]?.getD undef = .pointer (some ⟨p, 0, none⟩) := by simpa using h2
  have h3' : tmps[3]?.getD undef = .int .i64 x := by simpa using h3
  have h4' : tmps[4]?.getD undef = .pointer (some ⟨p + 1, 0, none⟩) := by simpa using h4
  refine leaves_cons (f := 54) (args := #[.pointer (some ⟨p, 0, none⟩), .pointer (some ⟨p + 1, 0, none⟩)]) (by simp) (by simp [go_sem]) ?_
  refine (catch_p p (p + 1) (Nat.lt_succ_self _) v y er [] W hl he).mono ?_
  rintro e u' w' ⟨rfl, rfl, q1, q2, q3⟩
  have c1 := cellV w' _ 0 _ _ _ q1
  have c2 := cellV w' _ 0 _ _ _ q2
  have := h w' q3
  simp [Leaves, settle, results, Tryz.results39, go_sem, h2', h3', h4', c1, c2]
  exact this
theorem lex_ret (W : World) (p : Nat) {tmps : Array Value} {x er : Int} {v : Value} {R : Ending → World → Prop} (htmps : tmps.getD 2 undef = .pointer (some ⟨p, 0, none⟩) ∧ tmps.getD 3 undef = .int .i64 x ∧ tmps.getD 4 undef = .pointer (some ⟨p + 1, 0, none⟩))
    (hl : W.heap[p]? = some (.cells #[v] 67 (0, 0))) (he : W.heap[p + 1]? = some (.cells #[.int .i64 er] 25 (0, 0))) (h : R (.returned (.tuple #[v, .int .i64 x, .int .i64 er])) W) :
    bodyPostD Tryz.prog Tryz.f39 R Exit.ret { tmps := tmps, defers := [{ target := .fn (.func 54) #[.pointer (some ⟨p, 0, none⟩), .pointer (some ⟨p + 1, 0, none⟩)], args := #[] }] } W := by
  obtain ⟨h2, h3, h4⟩ := htmps
  have h2' : tmps[2]?.getD undef = .pointer (some ⟨p, 0, none⟩) := by simpa using h2
  have h3' : tmps[3]?.getD undef = .int .i64 x := by simpa using h3
  have h4' : tmps[4]?.getD undef = .pointer (some ⟨p + 1, 0, none⟩) := by simpa using h4
  have c1 := cellV W _ 0 _ _ _ hl
  have c2 := cellV W _ 0 _ _ _ he
  refine leaves_cons (f := 54) (args := #[.pointer (some ⟨p, 0, none⟩), .pointer (some ⟨p + 1, 0, none⟩)]) (by simp) (by simp [go_sem]) ?_
  refine (catch_i p (p + 1) W).mono ?_
  rintro e u' w' ⟨rfl, rfl, rfl⟩
  simp [Leaves, settle, results, Tryz.results39, go_sem, h2', h3', h4', c1, c2]
  exact h
theorem lex_ends (W : World) (p : Nat) {tmps : Array Value} {x er : Int} {v : Value} {R : Ending → World → Prop} (htmps : tmps.getD 2 undef = .pointer (some ⟨p, 0, none⟩) ∧ tmps.getD 3 undef = .int .i64 x ∧ tmps.getD 4 undef = .pointer (some ⟨p + 1, 0, none⟩)) (c1 : W.cell? ⟨p, 0, none⟩ = some v) (c2 : W.cell? ⟨p + 1, 0, none⟩ = some (.int .i64 er)) (h : R (.returned (.tuple #[v, .int .i64 x, .int .i64 er])) W) :
    bodyPostD Tryz.prog Tryz.f39 R Exit.ret { tmps := tmps, defers := [] } W := by
  obtain ⟨h2, h3, h4⟩ := htmps
  have h2' : tmps[2]?.getD undef = .pointer (some ⟨p, 0, none⟩) := by simpa using h2
  have h3' : tmps[3]?.getD undef = .int .i64 x := by simpa using h3
  have h4' : tmps[4]?.getD undef = .pointer (some ⟨p + 1, 0, none⟩) := by simpa using h4
  simp [bodyPostD, Leaves, settle, results, Tryz.results39, go_sem, h2', h3', h4', c1, c2]
  exact h
theorem leaves_same {P : Program} {fn : Func} {tmps tmps' : Array Value} {R : Ending → World → Prop} (h : results fn tmps = results fn tmps') : ∀ (ds : List Deferred) (u : FrameMode) (w : World), Leaves P fn tmps R ds u w → Leaves P fn tmps' R ds u w
  | [], .returning, w, k => by
    obtain ⟨v, k1, k2⟩ := k
    exact ⟨v, by rw [← h]; exact k1, k2⟩
  | [], .panicking _, _, k => k
  | [], .run, _, k => k
  | d :: ds, u, w, k => by
    obtain ⟨hu, fv, cap, f, args, e1, e2, hc⟩ := k
    refine ⟨hu, fv, cap, f, args, e1, e2, hc.mono fun e u' w' q => ?_⟩
    cases e with
    | returned _ => exact leaves_same h ds _ _ q
    | panicked _ => exact leaves_same h ds _ _ q
    | outgrown => exact q
theorem res31 (a : Act) (v : Value) : results Tryz.f39 (a.put (some 31) v).tmps = results Tryz.f39 a.tmps := by
  have hk : ∀ k, k ≠ 31 → (a.put (some 31) v).tmps[k]? = a.tmps[k]? := fun k hk => by
    simp [Act.put, Array.getElem?_setIfInBounds, Ne.symm hk]
  simp [results, Tryz.results39, hk 2 (by decide), hk 3 (by decide), hk 4 (by decide)]
def wLex (w : World) : World := (w.alloc (.cells #[.slice none 0 0] 67)).alloc (.cells #[.int .i64 0] 25)
theorem wLex_l (w : World) : (wLex w).heap[w.heap.size]? = some (.cells #[.slice none 0 0] 67 (0, 0)) := kept_heap (heap_alloc_new w _) (stpA (Below.refl _ _) _)
theorem wLex_e (w : World) : (wLex w).heap[w.heap.size + 1]? = some (.cells #[.int .i64 0] 25 (0, 0)) := by
  have := heap_alloc_new (w.alloc (.cells #[.slice none 0 0] 67)) (.cells #[.int .i64 0] 25)
  rwa [World.size_alloc] at this
theorem wLex_b (w : World) : Below w.heap.size w (wLex w) := stpA (stpA (Below.refl _ _) _) _
theorem wLex_s (w : World) : (wLex w).heap.size = w.heap.size + 2 := by unfold wLex; simp
theorem lex_to (s : ByteArray) (w : World) (hm : s.size ≤ 1000000) (hE : Ev9 w) : Calls Tryz.prog 39 #[.string s] w (LexTo s w) := by
  have hmf : ∀ (fn : Fn) (first cap : Array Value) (w : World), (Instr.makeFunc fn first cap).run Tryz.prog w = .ok (.func fn first cap) w := fun _ _ _ _ => rfl
  obtain ⟨i0, hi, hz0, hz1, hz2⟩ := info_parts infoTk
  have HI := Lib.hid hi
  have HZ0 := Lib.hid hz0
  have HZ1 := Lib.hid hz1
  have HZ2 := Lib.hid hz2
  clear hi hz0 hz1 hz2
  have HM := Lib.hid hm
  obtain ⟨er0, her⟩ : ∃ er0, chkE s = er0 := ⟨_, rfl⟩
  have HCK : Hid (∀ W, Calls Tryz.prog 42 #[.string s] W fun e w' => e = .returned (.int .i64 er0) ∧ Below W.heap.size W w') := Lib.hid fun W => check5 s W hm er0 her
  by_cases h0 : er0 = 0
  · subst h0
    have h14 : s.data.toList.length ≤ 16384 ∧ isP s.data.toList = true := by
      unfold chkE at her
      by_cases h1 : 16384 < s.size
      · rw [if_pos h1] at her; cases her
      · rw [if_neg h1] at her
        by_cases h2 : isP s.data.toList = true
        · exact ⟨by rw [ba_l]; omega, h2⟩
        · rw [if_neg (show ¬ (pts s.data.toList).isSome = true from h2)] at her; cases her
    have H1 := Lib.hid h14.1
    have H2 := Lib.hid h14.2
    have hss : s.size ≤ 16384 := by rw [← ba_l]; exact h14.1
    have HEW := Lib.hid hE
    clear her h14 hm
    go_enter_defers Tryz.func39, Tryz.ntmps39
    go_wp2_with (first
      | (go_at_call 42; (with_reducible refine (HCK.out _).mono ?_); rintro e1 w1 ⟨rfl, hb1⟩; have HB1 : Hid (Below (wLex w).heap.size (wLex w) w1) := Lib.hid hb1; have hwr : w.heap.size + 1 < w1.heap.size := (by have := HB1.out.size; rw [wLex_s] at this; omega); clear hb1)
      | (refine wpList_store_row rfl _ _ _ rfl w1.heap.size #[.string s] rfl rfl 81 #[.string ⟨#[]⟩] (heap_alloc_new _ _) (by kernel_rfl) rfl (by rfl) ?_; rw [World.setRow_alloc_new])
      | fail)
    clear HCK HM
    go_loopg [3] 20000 (fun gg v3 wr => ∃ (L : List TB) (v : Value) (u : ByteArray) (pos : Nat), u.size ≤ gg ∧ LxS w w.heap.size (w.heap.size + 1) w1.heap.size L v u wr ∧ u.data.toList = s.data.toList.drop pos ∧ pos ≤ s.size ∧ isP u.data.toList = true ∧ L.length ≤ 512 ∧ lexG 0 s.data.toList = (lexG L.length u.data.toList).map (L.map TB.t ++ ·))
    case atStart =>
      have hb1 := HB1.out
      have hk := stpA (Below.refl w1.heap.size w1) (.cells #[.string s] 81)
      refine ⟨[], .slice none 0 0, s, 0, by omega, ⟨((wLex_b w).trans (hb1.mono (by rw [wLex_s]; omega))).trans (hk.mono (by omega)), heap_alloc_new _ _, kept_heap (kept_heap (wLex_l w) hb1) hk, kept_heap (kept_heap (wLex_e w) hb1) hk, World.ownsRow_nil _ _ _ _, (fun B hB => by cases hB)⟩, by simp, Nat.zero_le _, H2.out, Nat.zero_le _, ?_⟩
      show lexG 0 s.data.toList = (lexG 0 s.data.toList).map _
      cases lexG 0 s.data.toList <;> rfl
    case round =>
      obtain ⟨L, v, u, pos, hg, hst, hu, hpos, hpu, hLn, hG⟩ := hrel
      obtain ⟨A, c, rfl⟩ := own_form2 hst.own
      have hus : u.size = s.size - pos := by rw [← ba_l, hu, List.length_drop, ba_l]
      have kr := hst.rd.cell
      have kl := cellV wr _ 0 _ _ _ hst.cl
      have fl := freeV wr _ 0 _ _ hst.cl
      have ke := cellV wr _ 0 _ _ _ hst.ce
      have fe := freeV wr _ 0 _ _ hst.ce
      have HST := Lib.hid hst
      have HL5 := Lib.hid hLn
      have HGG := Lib.hid hG
      have HWR := Lib.hid hwr
      by_cases h0 : u.size = 0
      · have hem : u.toList.isEmpty = true := by rw [empty_l]; simp [h0]
        have HF : Hid (lexR s.data.toList = (L.map TB.t, 0, 0)) := Lib.hid (by
          rw [lexR_in H1.out H2.out, hG, List.eq_nil_of_length_eq_zero ((ba_l u).trans h0)]
          show (match (Except.ok (L.map TB.t ++ []) : Except (Int × Nat) (List Tk)) with | .ok ts => (ts, (0 : Int), (0 : Int)) | .error (e, k) => ([], (s.data.toList.length : Int) - k, e)) = _
          rw [List.append_nil])
        have fz2 : (wr.setCell ⟨w.heap.size, 0, none⟩ (.slice A L.length c)).frozen? ⟨w.heap.size + 1, 0, none⟩ = false := freeV _ _ 0 _ _ ((set_other wr w.heap.size 0 (w.heap.size + 1) _ (by omega)).trans hst.ce)
        have kz2 : (wr.setCell ⟨w.heap.size, 0, none⟩ (.slice A L.length c)).cell? ⟨w.heap.size + 1, 0, none⟩ = some (.int .i64 0) := cellV _ _ 0 _ _ _ ((set_other wr w.heap.size 0 (w.heap.size + 1) _ (by omega)).trans hst.ce)
        have HEN := Lib.hid (hst.ends (Nat.le_refl _) (Nat.lt_succ_self _) hwr)
        clear hst hu hpos hpu hLn hG hus hg h0
        go_wp2_with fail
        (try simp only [Exit.inBlock, Exit.then, Exit.noGoto])
        exact lex_ret _ w.heap.size ⟨rfl, rfl, rfl⟩ HEN.out.cl HEN.out.ce (LexTo.good9 HEN.out HF.out)
      · have hem : u.toList.isEmpty = false := by rw [empty_l]; simp [h0]
        have hpl : pos < s.data.toList.length := by rw [ba_l]; omega
        have hple : pos ≤ s.data.toList.length := Nat.le_of_lt hpl
        have sp : IntKind.i64.wrap ((s.size : Int) - (u.size : Int)) = (pos : Int) := by rw [IntWalk.i64_in _ (by omega)]; omega
        have hG' := hG
        rw [hu] at hG'
        by_cases h5 : L.length = 512
        · have f5 : ((L.length : Int) == 512) = true := by simp; omega
          have HF : Hid (lexR s.data.toList = ([], (pos : Int), 4)) := Lib.hid (lexR_err H1.out H2.out hple hG' (by
            cases ho : oneL (s.data.toList.drop pos) with
            | none => rw [lexG_none hpl ho, if_pos h5]
            | some r => obtain ⟨t, y⟩ := r; exact lexG_many hpl ho (.inl h5)))
          clear hst hu hpos hpu hLn hG hus hg h0 hG' h5 hpl hple
          go_wp2_with fail
          (try simp only [Exit.inBlock, Exit.then, Exit.noGoto])
          exact lex_throw _ w.heap.size ⟨rfl, rfl, rfl⟩ HST.out.cl HST.out.ce fun W' hb => LexTo.bad (HST.out.gr.trans hb) HF.out
        · have f5 : ((L.length : Int) == 512) = false := by simp; omega
          have hAt : At9 w1.heap.size u wr := ⟨hst.rd, hE.to hst.gr, by omega, hpu⟩
          have HAT : Hid (At9 w1.heap.size u wr.drew) := Lib.hid (hAt.below (Below.refl _ _).drew)
          have HRB : Hid (w1.heap.size < wr.heap.size) := Lib.hid hst.rd.lt
          have hn0 : u.data.toList ≠ [] := fun e => h0 (by rw [← ba_l, e]; rfl)
          have hbad : ∀ er, TkErr u.data.toList er → lexR s.data.toList = ([], (pos : Int), er) := fun er he => lexR_err H1.out H2.out hple hG' (by
            rw [← hu]
            rcases he with ⟨rfl, ho⟩ | ⟨rfl, t, y, ho, h16⟩
            · rw [hu] at ho ⊢
              rw [lexG_none hpl ho, if_neg h5]
            · rw [hu] at ho ⊢
              exact lexG_many hpl ho (.inr h16))
          have hbad2 : ∀ er, TkErr u.data.toList er → (∀ W, At9 w1.heap.size u W → Calls Tryz.prog 55 #[.pointer (some ⟨w1.heap.size, 0, none⟩)] W fun e w' => e = .panicked [{ v := .iface 25 (.int .i64 er), recovered := false }] ∧ ∃ u', Went w1.heap.size u' W w') := fun er he W hW => token_bad w1.heap.size u er W hW hn0 he
          have hcase : (∃ er, TkErr u.data.toList er) ∨ ∃ t y, oneL u.data.toList = some (t, y) ∧ t.attrs.length ≤ 16 := by
            cases ho : oneL u.data.toList with
            | none => exact .inl ⟨80, .inl ⟨rfl, ho⟩⟩
            | some r =>
              obtain ⟨t, y⟩ := r
              by_cases h16 : 16 < t.attrs.length
              · exact .inl ⟨4, .inr ⟨rfl, t, y, ho, h16⟩⟩
              · exact .inr ⟨t, y, rfl, by omega⟩
          rcases hcase with ⟨er, her⟩ | ⟨t, y', ho, h16⟩
          · have HF := Lib.hid (hbad er her)
            have HTK := Lib.hid (hbad2 er her)
            clear hst hu hpos hpu hLn hG hus hg h0 hG' h5 hpl hple hAt hn0 hbad hbad2 her
            go_wp2_with fail
            refine wp_region_Z (fun w' => w'.cell? ⟨w.heap.size, 0, none⟩ = some (.slice A L.length c)) 4 (by kernel_rfl) ?_
            have hS : wr.drew.cell? ⟨w.heap.size, 0, none⟩ = some (.slice A L.length c) := kl
            refine takeZ (i := 0) (v := .slice A L.length c) rfl (by kernel_rfl) (by kernel_rfl) (by kernel_rfl) (by kernel_rfl) (fun _ a _ h => leaves_same (res31 a _) _ _ _ h) (Or.inl ⟨by rfl, ?_⟩) hS ?_
            · intro w' hSw; (try dsimp only at hSw); go_simp
            try simp only [Act.put, List.setIfInBounds_toArray, List.set_cons_zero, List.set_cons_succ]
            refine stepZ (i := 1) (by kernel_rfl) rfl (fun K hK => ?_)
            go_simp
            go_at_call 55; (with_reducible refine (HTK.out _ HAT.out).mono ?_); rintro e5 w5 ⟨rfl, u5, hw5⟩
            (try simp only [Exit.inBlock, Exit.then, Exit.noGoto])
            have HS5 := (HST.out.below (Below.refl _ _).drew HST.out.gr.size).went (Nat.le_refl _) (Nat.lt_succ_self _) HWR.out hw5
            exact lex_throw _ w.heap.size ⟨rfl, rfl, rfl⟩ HS5.cl HS5.ce fun W' hb => LexTo.bad (HS5.gr.trans hb) HF.out
          · obtain ⟨y, hy⟩ := mk_l y'
            subst hy
            obtain ⟨k, hk, hsuf⟩ := oneL_suffix ho
            have hyl := oneL_len ho
            rw [ba_l, ba_l] at hyl
            have HTK : Hid (∀ W, At9 w1.heap.size u W → Calls Tryz.prog 55 #[.pointer (some ⟨w1.heap.size, 0, none⟩)] W fun e w' => ∃ (x : ByteArray) (A : Option Addr) (n c : Nat) (z : ByteArray), t.attrs.length = n ∧ e = .returned (.agg #[.int .u8 (t.kind : Int), .string x, .slice A n c, .string z]) ∧ Went w1.heap.size y W w' ∧ TkR W.heap.size w' #[.int .u8 (t.kind : Int), .string x, .slice A n c, .string z] t) := Lib.hid fun W hW => token_some w1.heap.size u y t W hW ho h16
            have HPY : Hid (isP y.data.toList = true) := Lib.hid (oneL_text1 ho hpu (by rw [ba_l]; omega)).2.1
            have HNY : Hid (y.data.toList = s.data.toList.drop (pos + k) ∧ pos + k ≤ s.size ∧ y.size ≤ gk - 1 ∧ 0 < gk ∧ L.length + 1 ≤ 512) := Lib.hid ⟨by rw [hsuf, hu, List.drop_drop], by rw [ba_l] at hk; omega, by omega, by omega, by omega⟩
            have HNX : Hid (lexG 0 s.data.toList = (lexG (L.length + 1) y.data.toList).map ((L.map TB.t ++ [t]) ++ ·)) := Lib.hid (by
              have hnx := lexG_next (n := L.length) hpl (hu ▸ ho) (by rintro (h | h); exact h5 h; omega)
              rw [hG', hnx]
              cases lexG (L.length + 1) y.data.toList <;> simp [Except.map])
            clear hst hu hpos hpu hLn hG hus hg h0 hG' h5 hpl hple hAt hn0 hbad hbad2 ho h16 hk hsuf hyl
            go_wp2_with fail
            refine wp_region_noPanic ?_
            refine wp_region_Z (fun w' => w'.cell? ⟨w.heap.size, 0, none⟩ = some (.slice A L.length c)) 4 (by kernel_rfl) ?_
            have hS : wr.drew.cell? ⟨w.heap.size, 0, none⟩ = some (.slice A L.length c) := kl
            refine takeZ (i := 0) (v := .slice A L.length c) rfl (by kernel_rfl) (by kernel_rfl) (by kernel_rfl) (by kernel_rfl) (fun _ _ _ h => h) (Or.inl ⟨by rfl, ?_⟩) hS ?_
            · intro w' hSw; (try dsimp only at hSw); go_simp
            try simp only [Act.put, List.setIfInBounds_toArray, List.set_cons_zero, List.set_cons_succ]
            refine stepZ (i := 1) (by kernel_rfl) rfl (fun K hK => ?_)
            go_simp
            go_at_call 55; (with_reducible refine (HTK.out _ HAT.out).mono ?_); rintro e5 w5 ⟨x, A1, n1, c1, z, rfl, rfl, hw5, hR⟩
            have HS5 : Hid (LxS w w.heap.size (w.heap.size + 1) w1.heap.size L (.slice A L.length c) y w5) := Lib.hid ((HST.out.below (Below.refl _ _).drew HST.out.gr.size).went (Nat.le_refl _) (Nat.lt_succ_self _) HWR.out hw5)
            have HRR : Hid (TkC.R w5 w5.heap.size (tbCells ⟨x, A1, c1, z, t⟩) t) := Lib.hid hR.1
            have HRB2 : Hid (0 < t.attrs.length → ∀ ad, A1 = some ad → w1.heap.size < ad.block ∧ some ad.block ≠ (Value.slice A L.length c).ownBlock) := Lib.hid fun _ ad e => by
              have h1 : wr.heap.size ≤ ad.block := hR.2 A1 _ c1 rfl ad e
              refine ⟨Nat.lt_of_lt_of_le HRB.out h1, fun e2 => ?_⟩
              have := (HST.out.own.lt _ e2.symm).2
              omega
            have c5 : w5.cell? ⟨w.heap.size, 0, none⟩ = some (.slice A L.length c) := cellV w5 _ 0 _ _ _ HS5.out.cl
            clear hw5 hR
            go_wp2_with fail
            refine hK.out _ _ (fun _ => c5) (fun _ => ?_)
            clear hK K
            try simp only [Act.put, List.setIfInBounds_toArray, List.set_cons_zero, List.set_cons_succ]
            refine stepZ (i := 2) (by kernel_rfl) rfl (fun K hK => ?_)
            go_simp
            have cW : (w5.alloc (.cells #[.int .u8 (t.kind : Int), .string x, .slice A1 t.attrs.length c1, .string z] 84)).cell? ⟨w.heap.size, 0, none⟩ = some (.slice A L.length c) := cellV _ _ 0 _ _ _ (kept_heap HS5.out.cl (stpA (Below.refl _ _) _))
            refine hK.out _ _ (fun _ => cW) (fun _ => ?_)
            clear hK K
            try simp only [Act.put, List.setIfInBounds_toArray, List.set_cons_zero, List.set_cons_succ]
            refine stepZ (i := 3) (by kernel_rfl) rfl (fun K hK => ?_)
            refine step_append_lies _ rfl (.tmp 31) (.tmp 33) 67 rfl (w1.heap.size + 1) 84 i0 (.agg #[.int .u8 0, .string ⟨#[]⟩, .slice none 0 0, .string ⟨#[]⟩]) 4 64 Tryz.underlying67 HI.out HZ0.out HZ1.out HZ2.out rfl (by decide) _ L.length _ rfl (own_belowK HS5.out.own (stpA (Below.refl _ _) _) (Nat.le_refl _)) ⟨w5.heap.size, 0, none⟩ 1 1 [.int .u8 (t.kind : Int), .string x, .slice A1 t.attrs.length c1, .string z] rfl rfl (new_at w5 [.int .u8 (t.kind : Int), .string x, .slice A1 t.attrs.length c1, .string z] 84 _ rfl) (tb_one _ _ _ _ _ _) (by decide) (by have := HL5.out; unfold maxLen; omega) (by have := HL5.out; omega) (by have := HS5.out.rd.lt; simp; omega) _ rfl ?_
            intro g6 c6 w6 hown6 hgr6 hor hlt6
            have HP6 := Lib.hid (HS5.out.push (Nat.le_refl _) (Nat.lt_succ_self _) HWR.out HRR.out HRB2.out hown6 hgr6 hor)
            have h6 : w6.heap[w.heap.size]? = some (.cells #[.slice A L.length c] 67 (0, 0)) := by
              have h1 := kept_heap HS5.out.cl (stpA (Below.refl w5.heap.size w5) (.cells #[.int .u8 (t.kind : Int), .string x, .slice A1 t.attrs.length c1, .string z] 84))
              exact (hgr6.block _ (Array.getElem?_eq_some_iff.1 h1).1 (fun e => by have := (HS5.out.own.lt _ e.symm).1; have := HWR.out; omega)).trans h1
            have k6 : w6.cell? ⟨w.heap.size, 0, none⟩ = some (.slice A L.length c) := cellV w6 _ 0 _ _ _ h6
            have f6 : w6.frozen? ⟨w.heap.size, 0, none⟩ = false := freeV w6 _ 0 _ _ h6
            clear hown6 hgr6 hor h6
            refine hK.out _ _ (fun _ => k6) (fun _ => ?_)
            clear hK K
            try simp only [Act.put, List.setIfInBounds_toArray, List.set_cons_zero, List.set_cons_succ]
            refine stepZ (i := 4) (by kernel_rfl) rfl (fun K hK => ?_)
            go_simp
            refine hK.out _ _ (fun h => absurd rfl h) (fun _ => ?_)
            clear hK K
            try simp only [Act.put, List.setIfInBounds_toArray, List.set_cons_zero, List.set_cons_succ]
            refine doneZ (by kernel_rfl) ?_ _
            refine NoPanic.normal ?_
            go_wp2_with fail
            go_roundg (gk - 1)
            case rel => exact ⟨L ++ [⟨x, A1, c1, z, t⟩], _, y, pos + k, HNY.out.2.2.1, by simpa using HP6.out, HNY.out.1, HNY.out.2.1, HPY.out, by rw [List.length_append]; exact HNY.out.2.2.2.2, by rw [HNX.out, List.map_append, List.length_append]; rfl⟩
            case measure => have := HNY.out.2.2.2.1; omega
  · have g0 : (er0 != 0) = true := by simpa using h0
    have hlits : er0 = 4 ∨ er0 = 50 := by
      rcases chk_lits s with k | k | k
      · exact absurd (her.symm.trans k) h0
      · exact .inl (her.symm.trans k)
      · exact .inr (her.symm.trans k)
    have hw : IntKind.i64.wrap er0 = er0 := by rcases hlits with rfl | rfl <;> rfl
    have HF : Hid (lexR s.data.toList = ([], 0, er0)) := Lib.hid (by
      unfold chkE at her
      unfold lexR
      by_cases h1 : 16384 < s.size
      · rw [if_pos h1] at her
        rw [if_pos (by rw [ba_l]; exact h1), her]
      · rw [if_neg h1] at her
        rw [if_neg (by rw [ba_l]; exact h1)]
        by_cases h2 : isP s.data.toList = true
        · rw [if_pos (show (pts s.data.toList).isSome = true from h2)] at her
          exact absurd her.symm h0
        · rw [if_neg (show ¬ (pts s.data.toList).isSome = true from h2)] at her
          rw [if_neg h2, her])
    clear her h0 hlits hE hm
    go_enter_defers Tryz.func39, Tryz.ntmps39
    go_wp2_with (first
      | (go_at_call 42; (with_reducible refine (HCK.out _).mono ?_); rintro e1 w1 ⟨rfl, hb1⟩; have HB1 : Hid (Below (wLex w).heap.size (wLex w) w1) := Lib.hid hb1; have HL1 := Lib.hid (kept_heap (wLex_l w) HB1.out); have HE1 := Lib.hid (kept_heap (wLex_e w) HB1.out); have k1 := cellV w1 _ 0 _ _ _ HL1.out; have k2 := cellV w1 _ 0 _ _ _ HE1.out; have f1 := freeV w1 _ 0 _ _ HL1.out; have f2 := freeV w1 _ 0 _ _ HE1.out; clear hb1)
      | fail)
    obtain ⟨W, hW⟩ : ∃ W, (w1.setCell ⟨w.heap.size, 0, none⟩ (.slice none 0 0)).setCell ⟨w.heap.size + 1, 0, none⟩ (.int .i64 er0) = W := ⟨_, rfl⟩
    have hWl : W.heap[w.heap.size]? = some (.cells #[.slice none 0 0] 67 (0, 0)) := by
      rw [← hW]
      refine (set_other _ (w.heap.size + 1) 0 w.heap.size _ (by omega)).trans ?_
      simpa using set_same9 w1 w.heap.size 0 _ _ (.slice none 0 0) HL1.out
    have hWe : W.heap[w.heap.size + 1]? = some (.cells #[.int .i64 er0] 25 (0, 0)) := by
      rw [← hW]
      simpa using set_same9 (w1.setCell ⟨w.heap.size, 0, none⟩ (.slice none 0 0)) (w.heap.size + 1) 0 _ _ (.int .i64 er0) ((set_other w1 w.heap.size 0 (w.heap.size + 1) _ (by omega)).trans HE1.out)
    have hWb : Below w.heap.size w W := by
      rw [← hW]
      exact (((wLex_b w).trans (HB1.out.mono (by rw [wLex_s]; omega))).setCell (p := ⟨w.heap.size, 0, none⟩) (Nat.le_refl _) _).setCell (p := ⟨w.heap.size + 1, 0, none⟩) (Nat.le_succ _) _
    have c1 := cellV W _ 0 _ _ _ hWl
    have c2 := cellV W _ 0 _ _ _ hWe
    rw [hW]
    exact lex_ends W w.heap.size ⟨rfl, rfl, rfl⟩ c1 c2 (LexTo.bad hWb HF.out)
end Hx
end Go.Proofs.YtlhjcdkkmloamaaGreatDoor
namespace Go.Proofs.YtlhjcdkkmloamaaGreatDoor
open Go.RowKit
namespace Hx
open Lx Tx Nmb Es
set_option linter.unusedVariables false
theorem lex9 (s : ByteArray) (w : World) (hm : s.size ≤ 1000000) (ts : List Tk) (n er : Int) (h : lexR s.data.toList = (ts, n, er)) (hE : Ev9 w := by first | assumption | exact Ev9.to (by assumption) (by assumption)) :
    Calls Tryz.prog 39 #[.string s] w fun e w' => ∃ A c, e = .returned (.tuple #[.slice A ts.length c, .int .i64 n, .int .i64 er]) ∧ TkIn ts A c w' ∧ Below w.heap.size w w' := by
  refine (lex_to s w hm hE).mono ?_
  rintro e w' ⟨hb, ts', n', er', A, c, h1, h2, h3, h4, h5, h6⟩
  rw [h] at h1
  obtain ⟨rfl, h7⟩ := (Prod.mk.injEq _ _ _ _).mp h1
  obtain ⟨rfl, rfl⟩ := (Prod.mk.injEq _ _ _ _).mp h7
  exact ⟨A, c, h2, ⟨h3, h4, h5, h6⟩, hb⟩
def ren9 : Go.Shelf.Ren := ⟨fun n => n, fun | 5 => 5 | 119 => 176 | 138 => 178 | 139 => 179 | n => n, fun | 3 => 2 | 4 => 3 | n => n⟩
theorem types9 : U8Types Tryz.prog ren9 := ⟨by kernel_rfl, by kernel_rfl, by kernel_rfl, by kernel_rfl⟩
theorem tabs9 {w : World} (h3 : Lib.VarReads Tryz.prog w "unicode/utf8.first" Lib.firstData) (h4 : Lib.VarReads Tryz.prog w "unicode/utf8.acceptRanges" Lib.acceptData) : Lib.Utf8Tabs 2 3 w :=
  utf8Tabs_of_readsT types9 ⟨by kernel_rfl, by kernel_rfl, by kernel_rfl, by kernel_rfl, by kernel_rfl, by kernel_rfl, by kernel_rfl⟩ h3 h4
theorem flat_mem {α : Type} (f : α → List UInt8) : ∀ (l : List α) (a : α), a ∈ l → (f a).length ≤ (l.flatMap f).length
  | [], _, h => by cases h
  | b :: l, a, h => by
    rw [List.flatMap_cons, List.length_append]
    rcases List.mem_cons.1 h with e | e
    · rw [e]; omega
    · have := flat_mem f l a e; omega
theorem writeA_ge (p : Pr) : p.name.length + p.value.length ≤ (writeA p).length := by
  have := (escL_len true p.value).1
  unfold writeA
  simp only [List.length_cons, List.length_append, List.length_nil]
  omega
theorem small_may {t : Tk} (h : mayT t = true) (hl : (writeT t).length ≤ 1000000) : Small t := by
  have ha := mayT_attrs h
  rcases mayT_cases h with ⟨b, hk, h1, h2, h3⟩ | ⟨hk, h1, h2, h3⟩ | ⟨hk, h1, h2, h3, h4⟩
  · unfold writeT at hl
    rw [if_neg (by rw [hk]; cases b <;> decide), if_neg (by rw [hk]; cases b <;> decide)] at hl
    simp only [List.length_cons, List.length_append] at hl
    refine ⟨by omega, by rw [h3]; simp, by omega, fun p hp => ?_⟩
    have k1 := flat_mem writeA _ p hp
    have k2 := writeA_ge p
    omega
  · unfold writeT at hl
    rw [if_neg (by omega), if_pos hk] at hl
    simp only [List.length_cons, List.length_append, List.length_nil] at hl
    exact ⟨by omega, by rw [h3]; simp, by omega, by rw [h2]; simp⟩
  · unfold writeT at hl
    rw [if_pos hk] at hl
    have := (escL_len false t.text).1
    exact ⟨by rw [h1]; simp, by omega, by omega, by rw [h2]; simp⟩
theorem lexR_all {l : List UInt8} {ts : List Tk} {n : Int} (h : lexR l = (ts, n, 0)) (hl : l.length ≤ 2000) :
    (∀ t ∈ ts, mayT t = true ∧ Small t) ∧ apart ts = true ∧ ts.length ≤ 512 ∧ ts.length ≤ l.length ∧ (ts.flatMap writeT).length ≤ 12000 := by
  obtain ⟨_, hI, hP, h16, h512, hat⟩ := lexR_ok h
  obtain ⟨k1, k2, k3⟩ := hI.text hP h16
  refine ⟨fun t ht => ?_, k2, h512, hI.len, by omega⟩
  have hm : mayT t = true := k1 t ht (hat t ht)
  have := flat_mem writeT ts t ht
  exact ⟨hm, small_may hm (by omega)⟩
end Hx
end Go.Proofs.YtlhjcdkkmloamaaGreatDoor
