/-
  The contract of chain.Make.
-/
import Derived.Test.YtmjcmlaeajglmaaChnM
import Derived.Deep.CutBlock
import Derived.Deep.DeepCutAuto
namespace Go.Proofs.Ytmjcmlaeajglmaa
open Go.RowKit Go.Shelf
namespace Hx
open Go Wd Sh
set_option linter.unusedVariables false
set_option linter.unusedSimpArgs false
attribute [local go_sem] Oper.semAt_some

/-- The k-th key of a seed (the seed itself is the 0th). -/
def kN (s : ByteArray) : Nat → ByteArray
  | 0 => s
  | k + 1 => keyB (kN s k)
/-- The keys of a seed. -/
def ksL (s : ByteArray) (n : Nat) : List ByteArray := (List.range n).map fun k => kN s (k + 1)
theorem ksL_succ (s : ByteArray) (n : Nat) : ksL s (n + 1) = ksL s n ++ [kN s (n + 1)] := by simp [ksL, List.range_succ]
theorem ksL_length (s : ByteArray) (n : Nat) : (ksL s n).length = n := by simp [ksL]
def encS (s : ByteArray) : Value := .string s
theorem infoS : (Try.prog.info? 9).map (fun i => (i.zero, i.size, i.bytes)) = some (some (.string ByteArray.empty), 1, 16) := by kernel_rfl
theorem keyB_size (s : ByteArray) : (keyB s).size = 40 := by
  show (putL (dig s.data.toList)).toArray.size = 40
  rw [List.size_toArray, putL_length, dig_length]
theorem kN_size (s : ByteArray) (h : s.size ≤ 16384) : ∀ k, (kN s k).size ≤ 16384
  | 0 => h
  | k + 1 => by show (keyB _).size ≤ _; rw [keyB_size]; decide

def MakeOk (s : ByteArray) (n : Nat) (w : World) (e : Ending) (w' : World) : Prop := Below w.heap.size w w' ∧ ∃ A c, e = .returned (.tuple #[.slice A n c, .int .i64 0]) ∧ n ≤ c ∧ (A = none → c = 0) ∧ RdG encS w' w'.heap.size A (ksL s n)

/-- What lies in Make's own variables, k keys made. -/
structure MkI (w : World) (s : ByteArray) (n G Kb : Nat) (k : Nat) (W : World) : Prop where
  le : k ≤ n
  ord : w.heap.size + 1 + 1 < G ∧ G < Kb
  num : W.heap[w.heap.size]? = some (.cells #[.int .i64 n] 3 (0, 0))
  r1 : W.heap[w.heap.size + 1]? = some (.cells #[.slice none 0 0] 41 (0, 0))
  r2 : W.heap[w.heap.size + 1 + 1]? = some (.cells #[.int .i64 0] 24 (0, 0))
  keys : W.heap[Kb]? = some (.cells #[.slice (some ⟨G, 0, none⟩) k n] 41 (0, 0))
  own : W.ownsRow w.heap.size 9 1 (.slice (some ⟨G, 0, none⟩) k n) k ((ksL s k).map encS)
  bel : Below w.heap.size w W
theorem MkI.later {w : World} {s : ByteArray} {n G Kb k : Nat} {X Y : World} (h : MkI w s n G Kb k X) (hb : Below X.heap.size X Y) : MkI w s n G Kb k Y :=
  ⟨h.le, h.ord, heap_kept h.num hb, heap_kept h.r1 hb, heap_kept h.r2 hb, heap_kept h.keys hb, own_below h.own hb (Nat.le_refl _), stp h.bel hb⟩
theorem MkI.other {w : World} {s : ByteArray} {n G Kb k T : Nat} {X : World} (h : MkI w s n G Kb k X) (hT : Kb < T) (v : Value) : MkI w s n G Kb k (X.setCell ⟨T, 0, none⟩ v) := by
  have o := h.ord
  have far : ∀ q, q < T → (X.setCell ⟨T, 0, none⟩ v).heap[q]? = X.heap[q]? := fun q hq => heap_setCell_other X ⟨T, 0, none⟩ q v (by show q ≠ T; omega)
  exact ⟨h.le, o, (far _ (by omega)).trans h.num, (far _ (by omega)).trans h.r1, (far _ (by omega)).trans h.r2, (far _ (by omega)).trans h.keys, h.own.kept (grownBy_setCell' X T v) (.inr (by simp [Value.ownBlock]; omega)), h.bel.setCell (by show _ ≤ T; omega) v⟩
theorem MkI.put {w : World} {s : ByteArray} {n G Kb k l : Nat} {X : World} {o o' : Obj} (h : MkI w s n G Kb k X) (hl : Kb < l) (ho : X.heap[l]? = some o) (hc : o.isCells = false) : MkI w s n G Kb k (X.putObj l o') := by
  have q := h.ord
  have far : ∀ q, q < l → (X.putObj l o').heap[q]? = X.heap[q]? := fun q hq => World.putObj_heap_other (by omega)
  exact ⟨h.le, q, (far _ (by omega)).trans h.num, (far _ (by omega)).trans h.r1, (far _ (by omega)).trans h.r2, (far _ (by omega)).trans h.keys, ownsRow_putObj h.own o' ho hc, h.bel.grown (grownBy_putObj' X l o') h.bel.size (fun k e => by cases e; omega)⟩

theorem MkI.more {w : World} {s : ByteArray} {n G Kb k : Nat} {W w9 : World} {tmp : Obj} (h : MkI w s n G Kb k W) (hlt : k + 1 ≤ n) (hT : Kb + 1 < W.heap.size) (hgr : (W.alloc tmp).grownBy w9 (some G))
    (hown : w9.ownsRow w.heap.size 9 1 (.slice (some ⟨G, 0, none⟩) (k + 1) n) (k + 1) ((ksL s k).map encS ++ [.string (kN s (k + 1))])) :
    w9.heap[Kb]? = some (.cells #[.slice (some ⟨G, 0, none⟩) k n] 41 (0, 0)) ∧ KeepsOthers W (w9.setCell ⟨Kb, 0, none⟩ (.slice (some ⟨G, 0, none⟩) (k + 1) n)) ∧
    (w9.setCell ⟨Kb, 0, none⟩ (.slice (some ⟨G, 0, none⟩) (k + 1) n)).heap[Kb + 1]? = W.heap[Kb + 1]? ∧ MkI w s n G Kb (k + 1) (w9.setCell ⟨Kb, 0, none⟩ (.slice (some ⟨G, 0, none⟩) (k + 1) n)) := by
  have o := h.ord
  have ha : Below W.heap.size W (W.alloc tmp) := stpA (Below.refl _ _) _
  have far9 : ∀ q, q < W.heap.size → q ≠ G → w9.heap[q]? = W.heap[q]? := fun q hq hn => (hgr.block q (by rw [World.size_alloc]; omega) (by simpa using hn)).trans (ha.block q hq)
  have far : ∀ q, q < W.heap.size → q ≠ G → q ≠ Kb → (w9.setCell ⟨Kb, 0, none⟩ (.slice (some ⟨G, 0, none⟩) (k + 1) n)).heap[q]? = W.heap[q]? := fun q hq hn hk => (heap_setCell_other w9 ⟨Kb, 0, none⟩ q _ (by simpa using hk)).trans (far9 q hq hn)
  have hk9 := (far9 Kb (by omega) (by omega)).trans h.keys
  refine ⟨hk9, ?_, far _ hT (by omega) (by omega), ⟨hlt, o, (far _ (by omega) (by omega) (by omega)).trans h.num, (far _ (by omega) (by omega) (by omega)).trans h.r1, (far _ (by omega) (by omega) (by omega)).trans h.r2, row_set hk9 _, ?_, ?_⟩⟩
  · refine ((KeepsOthers.alloc W tmp).trans (KeepsOthers.of_grownBy hgr fun j q ej hj => ?_)).trans (KeepsOthers.setCell _ _ _)
    cases ej
    rcases (own_below h.own ha (Nat.le_refl _)).2 with ⟨e, _⟩ | ⟨g, cap, cur, e, _, hgb, _⟩
    · cases e
    · cases e
      rw [hgb] at hj
      cases hj
      rfl
  · rw [ksL_succ, List.map_append]
    exact hown.kept (grownBy_setCell' w9 Kb _) (.inr (by simp [Value.ownBlock]; omega))
  · exact ((h.bel.alloc h.bel.size tmp).grown hgr (by rw [World.size_alloc]; have := h.bel.size; omega) (fun j e => by cases e; omega)).setCell (by show _ ≤ Kb; omega) _
theorem one_new (W : World) (v : Value) (t : TypeId) : ∀ j u, [v][j]? = some u → (W.alloc (.cells #[v] t)).cell? ((⟨W.heap.size, 0, none⟩ : Addr).add j) = some u := by
  intro j u hu
  cases j with
  | zero =>
    cases hu
    exact cell_row1 (heap_alloc_new W _)
  | succ j => simp at hu
/-- The end: what Make answers is read where it lies. -/
theorem endsM (tmps : Array Value) (V : World) (g3 g4 : Nat) {r : Value} {n : Int} (h3 : V.heap[g3]? = some (.cells #[r] 41 (0, 0))) (h4 : V.heap[g4]? = some (.cells #[.int .i64 n] 24 (0, 0)))
    (p3 : tmps.getD 4 undef = .pointer (some ⟨g3, 0, none⟩)) (p4 : tmps.getD 5 undef = .pointer (some ⟨g4, 0, none⟩)) :
    (results Try.f19 tmps).run Try.prog V = .ok (.tuple #[r, .int .i64 n]) V := by
  have d3 := cell_row1 h3
  have d4 := cell_row1 h4
  simp only [Array.getD_eq_getD_getElem?] at p3 p4
  simp [results, Try.results19, go_sem, p3, p4, asAddr, d3, d4]

set_option maxHeartbeats 4000000 in
set_option maxRecDepth 100000 in
theorem make_ok (s : ByteArray) (n : Nat) (w : World) (hz : s.size ≤ 16384) (hn : n ≤ 256) :
    Calls Try.prog 19 #[.string s, .int .i64 n] w (MakeOk s n w) := by
  obtain ⟨i0, hi, hz0, hz1, hz2⟩ := info_parts infoS
  have QI := Lib.hid hi
  have QZ0 := Lib.hid hz0
  have QZ1 := Lib.hid hz1
  have QZ2 := Lib.hid hz2
  clear hi hz0 hz1 hz2
  refine (callsIn_wide (n := 9)).1 ?_
  refine callsIn_of_wp_marks Try.func19 rfl trivial ?_ rfl
  refine wpIn_wide.2 ?_
  simp only [Try.ntmps19, List.size_toArray, List.length_cons, List.length_nil, Nat.reduceAdd, Nat.reduceSub, Array.replicate_succ, Array.replicate_zero, List.push_toArray, List.append_toArray, List.nil_append, List.cons_append]
  have t0 : decide ((n : Int) < 0) = false := by simp
  have t1 : decide ((256 : Int) < (n : Int)) = false := by simp; omega
  go_upto_region 1 with fail
  obtain ⟨W3, hW3, hs3, h0, h1, h2, hb3⟩ := opn3n w (Obj.cells #[.int .i64 n] 3) (Obj.cells #[.slice none 0 0] 41) (Obj.cells #[.int .i64 0] 24)
  rw [hW3]
  have c0 := cell_row1 h0
  have H0 := Lib.hid h0
  have H1 := Lib.hid h1
  have H2 := Lib.hid h2
  have HS3 := Lib.hid hs3
  clear hW3 hs3 h0 h1 h2
  go_step3
  go_wp2_with (first
    | (at_make; refine wpList_make_own _ rfl _ _ 41 rfl w.heap.size 9 i0 (.string ByteArray.empty) 1 Try.underlying41 QI.out QZ0.out QZ1.out .i64 .i64 _ n rfl rfl rfl (by rw [QZ2.out]; omega) (by unfold maxLen; omega) hb3.size ?_; intro w4 hown hgr; have HO := Lib.hid hown; have HGR := Lib.hid hgr; clear hown hgr)
    | (go_at_call 37; (with_reducible refine (behind_any s _).mono ?_); rintro e w6 ⟨rfl, hw6⟩)
    | fail)
  go_step3
  go_wp2_with (first
    | (go_at_call 37; (with_reducible refine (behind_any s _).mono ?_); rintro e w6 ⟨rfl, hw6⟩)
    | fail)
  obtain ⟨G, hG⟩ : ∃ G, W3.heap.size = G := ⟨_, rfl⟩
  obtain ⟨Kb, hKb⟩ : ∃ Kb, w4.heap.size = Kb := ⟨_, rfl⟩
  obtain ⟨W6, hW6⟩ : ∃ W6, (w4.alloc (.cells #[.slice (some ⟨W3.heap.size, 0, none⟩) 0 n] 41)).alloc (.cells #[.string s] 9) = W6 := ⟨_, rfl⟩
  rw [hW6]
  clear hw6 w6
  have hgr := HGR.out
  have hG0 : G = w.heap.size + 1 + 1 + 1 := by rw [← hG]; exact HS3.out
  have hGK : G < Kb := by
    rcases HO.out.2 with ⟨h, _⟩ | ⟨g, cap, cur, h, _, hgb, _⟩
    · cases h
    · cases h
      have := heap_lt hgb
      omega
  have hb4 : Below w.heap.size w w4 := hb3.grown hgr hb3.size (fun k e => by cases e)
  have hb6 : Below w4.heap.size w4 W6 := by rw [← hW6]; exact stpA (stpA (Below.refl _ _) _) _
  have hs6 : W6.heap.size = Kb + 1 + 1 := by rw [← hW6, World.size_alloc, World.size_alloc, hKb]
  have k4 : ∀ q o, W3.heap[q]? = some o → W6.heap[q]? = some o := fun q o h => heap_kept ((hgr.block q (heap_lt h) (fun e => by cases e)).trans h) hb6
  have hk6 : W6.heap[Kb]? = some (.cells #[.slice (some ⟨G, 0, none⟩) 0 n] 41 (0, 0)) := by
    have := heap_alloc_new w4 (.cells #[.slice (some ⟨W3.heap.size, 0, none⟩) 0 n] 41)
    rw [hKb, hG] at this
    rw [← hW6, hG]
    exact heap_kept this (stpA (Below.refl _ _) _)
  have hT6 : W6.heap[Kb + 1]? = some (.cells #[.string s] 9 (0, 0)) := by
    have := heap_alloc_new (w4.alloc (.cells #[.slice (some ⟨W3.heap.size, 0, none⟩) 0 n] 41)) (.cells #[.string s] 9)
    rw [World.size_alloc, hKb] at this
    rw [← hW6]
    exact this
  have hI6 : MkI w s n G Kb 0 W6 := ⟨Nat.zero_le _, ⟨by omega, hGK⟩, k4 _ _ H0.out, k4 _ _ H1.out, k4 _ _ H2.out, hk6, by rw [← hG]; exact own_below HO.out hb6 (Nat.le_refl _), stp hb4 hb6⟩
  rw [hKb, hG]
  have HS6 := Lib.hid hs6
  have HG0 := Lib.hid hG0
  clear hG0 hgr hb4 hb6 k4 hk6 hs6 hW6 hKb hG HO HGR H0 H1 H2 HS3 hb3 c0 QZ0 QZ2
  refine (wpIn_wide (n := 9)).1 ?_
  refine rf_count (F := Fence.wide) (n := 9) rfl (by decide) (gf := 52) (lb := #[.pointer (some ⟨Kb + 1, 0, none⟩)]) rfl trivial (enters_of Try.func52 (by kernel_rfl) rfl)
    (encs := fun k => #[.string (kN s (k + 1)), .int .i64 0]) (T := Kb + 1) (M := n) (tv := fun k => .string (kN s k)) (tt := 9) (fun _ => rfl) (by rw [HS6.out]; omega) (behind1_ok 8 (by decide) (kN s) (fun _ => rfl) (kN_size s hz) (Kb + 1) n _)
    (MkI w s n G Kb) (fun c X => c = .exit 0 ∧ MkI w s n G Kb n X)
    (fun k X Y h hb => h.later hb) (fun k X v h => h.other (Nat.lt_succ_self _) v) (fun k X h => h.le)
    (fun k X l o o' h hl ho hc => h.put (by rw [HS6.out] at hl; omega) ho hc) (fun c X l o o' h hl ho hc => ⟨h.1, h.2.put (by rw [HS6.out] at hl; omega) ho hc⟩) hI6 hT6
    (fun k => { tmps := #[.string s, .int .i64 n, undef, .pointer (some ⟨w.heap.size, 0, none⟩), .pointer (some ⟨w.heap.size + 1, 0, none⟩), .pointer (some ⟨w.heap.size + 1 + 1, 0, none⟩), .pointer (some ⟨Kb, 0, none⟩), .string (kN s (k + 1)), .int .i64 0, .int .i64 n, .bool false, .bool false, .int .i64 n, .bool false, .bool false, .int .i64 n, .slice (some ⟨G, 0, none⟩) 0 n, .string s, .func (.func 52) #[] #[.pointer (some ⟨Kb + 1, 0, none⟩)], .string (kN s (k + 1)), .int .i64 0, undef, undef, undef, undef, undef, undef, undef, undef, undef, undef, undef, undef, undef, undef], defers := [] }) ?assign ?body ?stop
  case assign =>
    intro l k W K hK
    gi_wp2
    exact hK
  case body =>
    intro l k W hI hT
    obtain ⟨a, ha⟩ : ∃ a, kN s (k + 1) = a := ⟨_, rfl⟩
    rw [ha]
    have cn := cell_row1 hI.num
    have ck := cell_row1 hI.keys
    have fk := free_row hI.keys
    have HI := Lib.hid hI
    have HA := Lib.hid ha
    by_cases hkn : k = n
    · subst hkn
      clear hI ha hI6 hT6
      gi_wp2
      exact ⟨KeepsOthers.refl _, rfl, HI.out⟩
    · have hlt : k + 1 ≤ n := by have := hI.le; omega
      have t2 : ((k : Int) == (n : Int)) = false := by simp; omega
      have hord := hI.ord
      have HLT := Lib.hid hlt
      have HT := Lib.hid hT
      clear hI ha hkn hI6 hT6 hT
      gi_wp2_with (first
        | (gi_at_builtin; refine wpListIn_append_fits _ rfl (.tmp 30) (.tmp 32) 41 rfl w.heap.size 9 i0 1 Try.underlying41 QI.out QZ1.out G k n ((ksL s k).map encS) rfl (own_below HI.out.own (stpA (Below.refl W.heap.size W) (.cells #[.string a] 9)) (Nat.le_refl _)) ⟨W.heap.size, 0, none⟩ 1 1 [.string a] rfl rfl (one_new _ _ _) (by simp [Value.oneCell']) HLT.out ?_; intro w9 hown9 hgr9; rw [← HA.out] at hown9; obtain ⟨hk9, hko, hT9, hI9⟩ := HI.out.more HLT.out (heap_lt HT.out) hgr9 hown9; have HKO := Lib.hid hko; have HT9 := Lib.hid hT9; have HI9 := Lib.hid hI9; have ck9 := cell_row1 hk9; have fk9 := free_row hk9; clear hown9 hgr9 hk9 hko hT9 hI9)
        | fail)
      exact ⟨HKO.out, HT9.out, HI9.out⟩
  case stop =>
    rintro D c W hD ⟨rfl, hI⟩ hK
    have ck := cell_row1 hI.keys
    have c1 := cell_row1 hI.r1
    have c2 := cell_row1 hI.r2
    have f1 := free_row hI.r1
    have f2 := free_row hI.r2
    have HI := Lib.hid hI
    have HK := Lib.hid hK
    clear hI hK hI6 hT6
    gi_wp2
    go_wp2
    have hI := HI.out
    have o := hI.ord
    obtain ⟨Va, hVa⟩ : ∃ Va, W.setCell ⟨w.heap.size + 1, 0, none⟩ (.slice (some ⟨G, 0, none⟩) n n) = Va := ⟨_, rfl⟩
    obtain ⟨V, hV⟩ : ∃ V, Va.setCell ⟨w.heap.size + 1 + 1, 0, none⟩ (.int .i64 0) = V := ⟨_, rfl⟩
    rw [hVa, hV, Exit.noGoto_ret]
    have a1 : Va.heap[w.heap.size + 1]? = some (.cells #[.slice (some ⟨G, 0, none⟩) n n] 41 (0, 0)) := by rw [← hVa]; exact row_set hI.r1 _
    have a2 : Va.heap[w.heap.size + 1 + 1]? = some (.cells #[.int .i64 0] 24 (0, 0)) := by rw [← hVa, heap_setCell_other _ _ _ _ (by simp)]; exact hI.r2
    have b1 : V.heap[w.heap.size + 1]? = some (.cells #[.slice (some ⟨G, 0, none⟩) n n] 41 (0, 0)) := by rw [← hV, heap_setCell_other _ _ _ _ (by simp)]; exact a1
    have b2 : V.heap[w.heap.size + 1 + 1]? = some (.cells #[.int .i64 0] 24 (0, 0)) := by rw [← hV]; exact row_set a2 _
    have hDk : w.heap.size + 1 + 1 < D := by have := HS6.out; omega
    have hKD : V.heap[D]? = some (.deferred (some [])) := by rw [← hV, ← hVa, heap_setCell_other _ _ _ _ (by simp; omega), heap_setCell_other _ _ _ _ (by simp; omega)]; exact HK.out
    have hown : V.ownsRow w.heap.size 9 1 (.slice (some ⟨G, 0, none⟩) n n) n ((ksL s n).map encS) := by
      rw [← hV, ← hVa]
      exact (hI.own.kept (grownBy_setCell' W _ _) (.inr (by simp [Value.ownBlock]; omega))).kept (grownBy_setCell' _ _ _) (.inr (by simp [Value.ownBlock]; omega))
    have hbel : Below w.heap.size w V := by
      rw [← hV, ← hVa]
      exact (hI.bel.setCell (by show _ ≤ w.heap.size + 1; omega) _).setCell (by show _ ≤ w.heap.size + 1 + 1; omega) _
    refine ⟨by simp, .inl ⟨_, _, rfl, run_takeDeferred hKD, ?_⟩⟩
    refine ⟨_, endsM _ _ _ _ ((World.putObj_heap_other (by omega)).trans b1) ((World.putObj_heap_other (by omega)).trans b2) rfl rfl, ?_⟩
    exact ⟨hbel.grown (grownBy_putObj' V D _) hbel.size (fun k e => by cases e; omega), _, _, rfl, Nat.le_refl _, (fun h => by cases h), (RdG.of_own (ownsRow_putObj hown _ hKD rfl)).1⟩

def MakeNo (q : Int) (w : World) (e : Ending) (w' : World) : Prop := e = .returned (.tuple #[.slice none 0 0, .int .i64 q]) ∧ Below w.heap.size w w'
/-- Make's results, refused. -/
structure MkX (w : World) (W : World) : Prop where
  r1 : W.heap[w.heap.size + 1]? = some (.cells #[.slice none 0 0] 41 (0, 0))
  r2 : W.heap[w.heap.size + 1 + 1]? = some (.cells #[.int .i64 4] 24 (0, 0))
  bel : Below w.heap.size w W
theorem MkX.put {w X : World} {l : Nat} {o' : Obj} (h : MkX w X) (hl : w.heap.size + 1 + 1 < l) : MkX w (X.putObj l o') :=
  ⟨(World.putObj_heap_other (by omega)).trans h.r1, (World.putObj_heap_other (by omega)).trans h.r2, h.bel.grown (grownBy_putObj' X l o') h.bel.size (fun k e => by cases e; omega)⟩
theorem MkX.of {w W : World} {s : ByteArray} {n G Kb k : Nat} (h : MkI w s n G Kb k W) : MkX w ((W.setCell ⟨w.heap.size + 1, 0, none⟩ (.slice none 0 0)).setCell ⟨w.heap.size + 1 + 1, 0, none⟩ (.int .i64 4)) :=
  ⟨(heap_setCell_other _ _ _ _ (by simp)).trans (row_set h.r1 _), row_set ((heap_setCell_other _ _ _ _ (by simp)).trans h.r2) _, (h.bel.setCell (by show _ ≤ w.heap.size + 1; omega) _).setCell (by show _ ≤ w.heap.size + 1 + 1; omega) _⟩

set_option maxHeartbeats 4000000 in
set_option maxRecDepth 100000 in
theorem make_many (s : ByteArray) (n : Nat) (w : World) (hz : 16384 < s.size) (hn : n ≤ 256) :
    Calls Try.prog 19 #[.string s, .int .i64 n] w (MakeNo 4 w) := by
  obtain ⟨i0, hi, hz0, hz1, hz2⟩ := info_parts infoS
  have QI := Lib.hid hi
  have QZ0 := Lib.hid hz0
  have QZ1 := Lib.hid hz1
  have QZ2 := Lib.hid hz2
  clear hi hz0 hz1 hz2
  refine (callsIn_wide (n := 9)).1 ?_
  refine callsIn_of_wp_marks Try.func19 rfl trivial ?_ rfl
  refine wpIn_wide.2 ?_
  simp only [Try.ntmps19, List.size_toArray, List.length_cons, List.length_nil, Nat.reduceAdd, Nat.reduceSub, Array.replicate_succ, Array.replicate_zero, List.push_toArray, List.append_toArray, List.nil_append, List.cons_append]
  have t0 : decide ((n : Int) < 0) = false := by simp
  have t1 : decide ((256 : Int) < (n : Int)) = false := by simp; omega
  go_upto_region 1 with fail
  obtain ⟨W3, hW3, hs3, h0, h1, h2, hb3⟩ := opn3n w (Obj.cells #[.int .i64 n] 3) (Obj.cells #[.slice none 0 0] 41) (Obj.cells #[.int .i64 0] 24)
  rw [hW3]
  have c0 := cell_row1 h0
  have H0 := Lib.hid h0
  have H1 := Lib.hid h1
  have H2 := Lib.hid h2
  have HS3 := Lib.hid hs3
  clear hW3 hs3 h0 h1 h2
  go_step3
  go_wp2_with (first
    | (at_make; refine wpList_make_own _ rfl _ _ 41 rfl w.heap.size 9 i0 (.string ByteArray.empty) 1 Try.underlying41 QI.out QZ0.out QZ1.out .i64 .i64 _ n rfl rfl rfl (by rw [QZ2.out]; omega) (by unfold maxLen; omega) hb3.size ?_; intro w4 hown hgr; have HO := Lib.hid hown; have HGR := Lib.hid hgr; clear hown hgr)
    | (go_at_call 37; (with_reducible refine (behind_any s _).mono ?_); rintro e w6 ⟨rfl, hw6⟩)
    | fail)
  go_step3
  go_wp2_with (first
    | (go_at_call 37; (with_reducible refine (behind_any s _).mono ?_); rintro e w6 ⟨rfl, hw6⟩)
    | fail)
  obtain ⟨G, hG⟩ : ∃ G, W3.heap.size = G := ⟨_, rfl⟩
  obtain ⟨Kb, hKb⟩ : ∃ Kb, w4.heap.size = Kb := ⟨_, rfl⟩
  obtain ⟨W6, hW6⟩ : ∃ W6, (w4.alloc (.cells #[.slice (some ⟨W3.heap.size, 0, none⟩) 0 n] 41)).alloc (.cells #[.string s] 9) = W6 := ⟨_, rfl⟩
  rw [hW6]
  clear hw6 w6
  have hgr := HGR.out
  have hG0 : G = w.heap.size + 1 + 1 + 1 := by rw [← hG]; exact HS3.out
  have hGK : G < Kb := by
    rcases HO.out.2 with ⟨h, _⟩ | ⟨g, cap, cur, h, _, hgb, _⟩
    · cases h
    · cases h
      have := heap_lt hgb
      omega
  have hb4 : Below w.heap.size w w4 := hb3.grown hgr hb3.size (fun k e => by cases e)
  have hb6 : Below w4.heap.size w4 W6 := by rw [← hW6]; exact stpA (stpA (Below.refl _ _) _) _
  have hs6 : W6.heap.size = Kb + 1 + 1 := by rw [← hW6, World.size_alloc, World.size_alloc, hKb]
  have k4 : ∀ q o, W3.heap[q]? = some o → W6.heap[q]? = some o := fun q o h => heap_kept ((hgr.block q (heap_lt h) (fun e => by cases e)).trans h) hb6
  have hk6 : W6.heap[Kb]? = some (.cells #[.slice (some ⟨G, 0, none⟩) 0 n] 41 (0, 0)) := by
    have := heap_alloc_new w4 (.cells #[.slice (some ⟨W3.heap.size, 0, none⟩) 0 n] 41)
    rw [hKb, hG] at this
    rw [← hW6, hG]
    exact heap_kept this (stpA (Below.refl _ _) _)
  have hT6 : W6.heap[Kb + 1]? = some (.cells #[.string s] 9 (0, 0)) := by
    have := heap_alloc_new (w4.alloc (.cells #[.slice (some ⟨W3.heap.size, 0, none⟩) 0 n] 41)) (.cells #[.string s] 9)
    rw [World.size_alloc, hKb] at this
    rw [← hW6]
    exact this
  have hI6 : MkI w s n G Kb 0 W6 := ⟨Nat.zero_le _, ⟨by omega, hGK⟩, k4 _ _ H0.out, k4 _ _ H1.out, k4 _ _ H2.out, hk6, by rw [← hG]; exact own_below HO.out hb6 (Nat.le_refl _), stp hb4 hb6⟩
  rw [hKb, hG]
  have HS6 := Lib.hid hs6
  have HG0 := Lib.hid hG0
  clear hG0 hgr hb4 hb6 k4 hk6 hs6 hW6 hKb hG HO HGR H0 H1 H2 HS3 hb3 c0 QZ0 QZ2
  refine (wpIn_wide (n := 9)).1 ?_
  refine rf_count (F := Fence.wide) (n := 9) rfl (by decide) (gf := 52) (lb := #[.pointer (some ⟨Kb + 1, 0, none⟩)]) rfl trivial (enters_of Try.func52 (by kernel_rfl) rfl)
    (encs := fun k => #[.string ⟨#[]⟩, .int .i64 4]) (T := Kb + 1) (M := 0) (tv := fun k => .string s) (tt := 9) (fun _ => rfl) (by rw [HS6.out]; omega) (behind1_many 8 (by decide) s hz (Kb + 1) _)
    (fun k X => k = 0 ∧ MkI w s n G Kb 0 X) (fun c X => c = .ret ∧ MkX w X)
    (fun k X Y h hb => ⟨h.1, h.2.later hb⟩) (fun k X v h => ⟨h.1, h.2.other (Nat.lt_succ_self _) v⟩) (fun k X h => Nat.le_of_eq h.1)
    (fun k X l o o' h hl ho hc => ⟨h.1, h.2.put (by rw [HS6.out] at hl; omega) ho hc⟩) (fun c X l o o' h hl ho hc => ⟨h.1, h.2.put (by rw [HS6.out] at hl; have := HG0.out; omega)⟩) ⟨rfl, hI6⟩ hT6
    (fun k => { tmps := #[.string s, .int .i64 n, undef, .pointer (some ⟨w.heap.size, 0, none⟩), .pointer (some ⟨w.heap.size + 1, 0, none⟩), .pointer (some ⟨w.heap.size + 1 + 1, 0, none⟩), .pointer (some ⟨Kb, 0, none⟩), .string ⟨#[]⟩, .int .i64 4, .int .i64 n, .bool false, .bool false, .int .i64 n, .bool false, .bool false, .int .i64 n, .slice (some ⟨G, 0, none⟩) 0 n, .string s, .func (.func 52) #[] #[.pointer (some ⟨Kb + 1, 0, none⟩)], .string ⟨#[]⟩, .int .i64 4, undef, undef, undef, undef, undef, undef, undef, undef, undef, undef, undef, undef, undef, undef], defers := [] }) ?assign ?body ?stop
  case assign =>
    intro l k W K hK
    gi_wp2
    exact hK
  case body =>
    rintro l k W ⟨rfl, hI⟩ hT
    have c1 := cell_row1 hI.r1
    have c2 := cell_row1 hI.r2
    have f1 := free_row hI.r1
    have f2 := free_row hI.r2
    have HI := Lib.hid hI
    clear hI hI6 hT6 hT
    gi_wp2
    exact ⟨(KeepsOthers.setCell _ _ _).trans (KeepsOthers.setCell _ _ _), rfl, MkX.of HI.out⟩
  case stop =>
    rintro D c V hD ⟨rfl, hX⟩ hKD
    have hDk : w.heap.size + 1 + 1 < D := by have := HS6.out; have := HG0.out; omega
    gi_wp2
    rw [Exit.noGoto_ret]
    refine ⟨by simp, .inl ⟨_, _, rfl, run_takeDeferred hKD, ?_⟩⟩
    refine ⟨_, endsM _ _ _ _ ((World.putObj_heap_other (by omega)).trans hX.r1) ((World.putObj_heap_other (by omega)).trans hX.r2) rfl rfl, ?_⟩
    exact ⟨rfl, hX.bel.grown (grownBy_putObj' V D _) hX.bel.size (fun k e => by cases e; omega)⟩

set_option maxHeartbeats 2000000 in
set_option maxRecDepth 100000 in
theorem make_arg (s : ByteArray) (n : Int) (w : World) (hn : n < 0 ∨ 256 < n) :
    Calls Try.prog 19 #[.string s, .int .i64 n] w (MakeNo 2 w) := by
  by_cases h0 : n < 0
  · clear hn
    go_enter Try.func19, Try.ntmps19
    go_upto_region 1 with fail
    obtain ⟨W3, hW3, hs3, r0, r1, r2, hb3⟩ := opn3n w (Obj.cells #[.int .i64 n] 3) (Obj.cells #[.slice none 0 0] 41) (Obj.cells #[.int .i64 0] 24)
    rw [hW3]
    have c0 := cell_row1 r0
    have c1 := cell_row1 r1
    have c2 := cell_row1 r2
    have f1 := free_row r1
    have f2 := free_row r2
    have R1 := Lib.hid r1
    have R2 := Lib.hid r2
    clear hW3 hs3 r0 r1 r2
    go_step3
    go_wp2
    rw [Exit.noGoto_ret]
    exact bodyPost_ret (v := .tuple #[.slice none 0 0, .int .i64 2]) (endsM _ _ _ _ ((heap_setCell_other _ _ _ _ (by simp)).trans (row_set R1.out _)) (row_set ((heap_setCell_other _ _ _ _ (by simp)).trans R2.out) _) rfl rfl) rfl ⟨rfl, (hb3.setCell (by show _ ≤ w.heap.size + 1; omega) _).setCell (by show _ ≤ w.heap.size + 1 + 1; omega) _⟩
  · have h1 : 256 < n := by omega
    have h2 : decide (n < 0) = false := by simpa using h0
    clear hn h0
    go_enter Try.func19, Try.ntmps19
    go_upto_region 1 with fail
    obtain ⟨W3, hW3, hs3, r0, r1, r2, hb3⟩ := opn3n w (Obj.cells #[.int .i64 n] 3) (Obj.cells #[.slice none 0 0] 41) (Obj.cells #[.int .i64 0] 24)
    rw [hW3]
    have c0 := cell_row1 r0
    have c1 := cell_row1 r1
    have c2 := cell_row1 r2
    have f1 := free_row r1
    have f2 := free_row r2
    have R1 := Lib.hid r1
    have R2 := Lib.hid r2
    clear hW3 hs3 r0 r1 r2
    go_step3
    go_wp2
    rw [Exit.noGoto_ret]
    exact bodyPost_ret (v := .tuple #[.slice none 0 0, .int .i64 2]) (endsM _ _ _ _ ((heap_setCell_other _ _ _ _ (by simp)).trans (row_set R1.out _)) (row_set ((heap_setCell_other _ _ _ _ (by simp)).trans R2.out) _) rfl rfl) rfl ⟨rfl, (hb3.setCell (by show _ ≤ w.heap.size + 1; omega) _).setCell (by show _ ≤ w.heap.size + 1 + 1; omega) _⟩
end Hx
end Go.Proofs.Ytmjcmlaeajglmaa
