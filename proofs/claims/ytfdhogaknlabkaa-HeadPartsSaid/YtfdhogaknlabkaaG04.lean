/-
  Texts of one seat, put together: AscG, AscJ, AscV, MemC.
-/
import Derived.Test.YtfdhogaknlabkaaG03
import Derived.RangeFuncBox
import Derived.RangeFuncOne
import Derived.Maps.AppendAt
import Derived.Sort.CutIn
import Derived.Test.YtfdhogaknlabkaaG00
import Derived.Deep.Slices
set_option linter.unusedSimpArgs false
set_option linter.unusedVariables false
namespace Go.Proofs.Ytfdhogaknlabkaa
open Go.RowKit Go.Shelf
namespace Hx
open As
set_option linter.unusedVariables false
abbrev TS : TypeId := 55
abbrev TE : TypeId := 29
abbrev TBa : TypeId := 4
abbrev TT : TypeId := 9
/-- List's variables. -/
def LI (w : World) (v : Value) (bd : Bool) (ls : List ByteArray) (W : World) : Prop :=
  Boxed W w.heap.size TS (.slice none 0 0) ∧ Boxed W (w.heap.size + 1) TE (.int .i64 0) ∧ Boxed W (w.heap.size + 1 + 1) TS v ∧ Boxed W (w.heap.size + 1 + 1 + 1) TBa (.bool bd) ∧
  W.ownsRow w.heap.size TT 1 v ls.length (ls.map encS) ∧ Below w.heap.size w W
/-- What is left when there are too many. -/
def LX (w : World) (W : World) : Prop :=
  Boxed W w.heap.size TS (.slice none 0 0) ∧ Boxed W (w.heap.size + 1) TE (.int .i64 4) ∧ Below w.heap.size w W
theorem boxed_below {W V : World} {B : Nat} {t : TypeId} {v : Value} (h : Boxed W B t v) (hb : Below W.heap.size W V) : Boxed V B t v := (hb.block B h.lt).trans h
theorem boxed_other {W : World} {B C : Nat} {t : TypeId} {v x : Value} (h : Boxed W B t v) (hn : B ≠ C) : Boxed (W.setCell ⟨C, 0, none⟩ x) B t v := (heap_setCell_other _ _ _ _ hn).trans h
theorem keeps_below7 {W V : World} (h : Below W.heap.size W V) : KeepsOthers W V := ⟨h.size, fun k o hk _ => (h.block k (heap_lt7 hk)).trans hk⟩
theorem KpT.refl (W : World) : KpT W W := ⟨Nat.le_refl _, fun _ _ _ h => h⟩
theorem KpT.trans {A B C : World} (h : KpT A B) (k : KpT B C) : KpT A C := ⟨Nat.le_trans h.1 k.1, fun i cs fz hi => k.2 i cs fz (h.2 i cs fz hi)⟩
theorem KpT.below {W V : World} (h : Below W.heap.size W V) : KpT W V := ⟨h.size, fun k cs fz hk => (h.block k (heap_lt7 hk)).trans hk⟩
theorem KpT.grown {W V : World} {row : Option Nat} (h : W.grownBy V row) (hr : ∀ r, row = some r → ∃ cs t fz, W.heap[r]? = some (.cells cs t fz) ∧ t ≠ 108) : KpT W V :=
  ⟨h.size, fun k cs fz hk => by
    refine (h.block k (heap_lt7 hk) ?_).trans hk
    intro e
    obtain ⟨cs', t', fz', h1, h2⟩ := hr k e.symm
    rw [hk] at h1
    cases h1
    exact h2 rfl⟩
theorem KpT.box {W : World} {B : Nat} {t : TypeId} {v : Value} (h : Boxed W B t v) (ht : t ≠ 108) (x : Value) : KpT W (W.setCell ⟨B, 0, none⟩ x) :=
  KpT.grown (grownBy_setCell' W B x) fun r e => by cases e; exact ⟨_, _, _, h, ht⟩
theorem KpT.put (W : World) (l : Nat) (o o' : Obj) (h : W.heap[l]? = some o) (hc : o.isCells = false) : KpT W (W.putObj l o') :=
  ⟨(grownBy_putObj' W l o').size, fun k cs fz hk => by
    refine ((grownBy_putObj' W l o').block k (heap_lt7 hk) ?_).trans hk
    intro e
    cases e
    rw [hk] at h
    cases h
    cases hc⟩
theorem own_belowS {W V : World} {base : Nat} {e : TypeId} {v : Value} {n : Nat} {xs : List Value} (h : W.ownsRow base e 1 v n xs) (hb : Below W.heap.size W V) : V.ownsRow base e 1 v n xs := by
  refine h.kept (show W.grownBy V none from ⟨hb.os, hb.tape, hb.output, hb.size, fun k hk _ => hb.block k hk⟩) ?_
  rcases h.2 with ⟨rfl, _⟩ | ⟨g, cap, cur, rfl, _⟩
  · exact .inl rfl
  · exact .inr (by simp [Value.ownBlock])
theorem LI.below {w W V : World} {v : Value} {bd : Bool} {ls : List ByteArray} (h : LI w v bd ls W) (hb : Below W.heap.size W V) : LI w v bd ls V := by
  obtain ⟨h1, h2, h3, h4, h5, h6⟩ := h
  exact ⟨boxed_below h1 hb, boxed_below h2 hb, boxed_below h3 hb, boxed_below h4 hb, own_belowS h5 hb, stp h6 hb⟩
theorem LI.bad {w W : World} {v : Value} {bd : Bool} {ls : List ByteArray} (h : LI w v bd ls W) (nb : Bool) : LI w v nb ls (W.setCell ⟨w.heap.size + 1 + 1 + 1, 0, none⟩ (.bool nb)) ∧ KpT W (W.setCell ⟨w.heap.size + 1 + 1 + 1, 0, none⟩ (.bool nb)) := by
  obtain ⟨h1, h2, h3, h4, h5, h6⟩ := h
  refine ⟨⟨boxed_other h1 (by omega), boxed_other h2 (by omega), boxed_other h3 (by omega), h4.set _, ?_, h6.setCell (by simp; omega) _⟩, KpT.box h4 (by decide) _⟩
  exact h5.kept (grownBy_setCell' W _ _) (.inr (h4.not_row (by decide) h5).symm)
theorem LI.push {w W w1 : World} {v v' : Value} {bd : Bool} {ls : List ByteArray} {y : ByteArray} {tmp : Obj} {k : Nat} (h : LI w v bd ls W) (hk : ls.length = k) (hown : w1.ownsRow w.heap.size TT 1 v' (k + 1) (ls.map encS ++ [y].map encS)) (hg : (W.alloc tmp).grownBy w1 v.ownBlock) :
    Boxed w1 (w.heap.size + 1 + 1) TS v ∧ LI w v' bd (ls ++ [y]) (w1.setCell ⟨w.heap.size + 1 + 1, 0, none⟩ v') ∧ KeepsOthers W (w1.setCell ⟨w.heap.size + 1 + 1, 0, none⟩ v') ∧ KpT W (w1.setCell ⟨w.heap.size + 1 + 1, 0, none⟩ v') := by
  subst hk
  obtain ⟨h1, h2, h3, h4, h5, h6⟩ := h
  obtain ⟨b1, b2, b3, b4, b5⟩ := h3.appended (by decide) h5 h6.size (by omega) hown hg
  have hrow : ∀ r, v.ownBlock = some r → ∃ cs fz, W.heap[r]? = some (.cells cs TT fz) := by
    intro r e
    rcases h5.2 with ⟨rfl, _⟩ | ⟨g, cap, cur, rfl, _, hgb, _⟩
    · simp [Value.ownBlock] at e
    · obtain rfl : g = r := by simpa [Value.ownBlock] using e
      exact ⟨_, _, hgb⟩
  have far : ∀ {B : Nat} {t : TypeId} {u : Value}, Boxed W B t u → t ≠ TT → B ≠ w.heap.size + 1 + 1 → Boxed (w1.setCell ⟨w.heap.size + 1 + 1, 0, none⟩ v') B t u := by
    intro B t u hB ht hn
    refine boxed_other ((hB.alloc tmp).kept hg ?_) hn
    exact hB.not_row ht h5
  refine ⟨b1, ⟨far h1 (by decide) (by omega), far h2 (by decide) (by omega), b2, far h4 (by decide) (by omega), ?_, h6.trans b5⟩, b4, ?_⟩
  · rw [List.length_append, List.map_append]
    exact b3
  · refine KpT.trans (KpT.trans (KpT.below (stpA (Below.refl _ _) tmp)) (KpT.grown hg ?_)) (KpT.box b1 (by decide) v')
    intro r e
    obtain ⟨cs, fz, hr⟩ := hrow r e
    exact ⟨cs, TT, fz, (Below.heap_alloc W tmp r (heap_lt7 hr)).trans hr, by decide⟩
theorem LI.many {w W : World} {v : Value} {bd : Bool} {ls : List ByteArray} (h : LI w v bd ls W) : LX w ((W.setCell ⟨w.heap.size, 0, none⟩ (.slice none 0 0)).setCell ⟨w.heap.size + 1, 0, none⟩ (.int .i64 4)) ∧ KeepsOthers W ((W.setCell ⟨w.heap.size, 0, none⟩ (.slice none 0 0)).setCell ⟨w.heap.size + 1, 0, none⟩ (.int .i64 4)) := by
  obtain ⟨h1, h2, h3, h4, h5, h6⟩ := h
  exact ⟨⟨boxed_other (h1.set _) (by omega), (boxed_other h2 (by omega)).set _, (h6.setCell (by simp) _).setCell (by simp) _⟩, (KeepsOthers.setCell _ _ _).trans (KeepsOthers.setCell _ _ _)⟩
theorem LI.own {w : World} {β : Type} (B : Nat) (hB : w.heap.size + 1 + 1 + 1 < B) (f : β → List ByteArray) (g : β → Bool) : OwnFrom B (fun s W => ∃ v, LI w v (g s) (f s) W) := by
  rintro s X Y row ⟨v, h1, h2, h3, h4, h5, h6⟩ hg hrow
  have ne : ∀ C, C ≤ w.heap.size + 1 + 1 + 1 → some C ≠ row := fun C hC e => by have := (hrow C e.symm).1; omega
  refine ⟨v, h1.kept hg (ne _ (by omega)), h2.kept hg (ne _ (by omega)), h3.kept hg (ne _ (by omega)), h4.kept hg (ne _ (by omega)), h5.kept hg ?_, h6.grown hg h6.size fun r e => by have := (hrow r e).1; omega⟩
  rcases h5.2 with ⟨rfl, _⟩ | ⟨gg, cap, cur, rfl, _, hgb, _⟩
  · exact .inl rfl
  · refine .inr fun e' => ?_
    obtain ⟨_, o, ho, hc⟩ := hrow gg (by simpa [Value.ownBlock] using e'.symm)
    rw [hgb] at ho; cases ho; cases hc
theorem LX.own {w : World} {β : Type} (B : Nat) (hB : w.heap.size + 1 + 1 + 1 < B) (p : β → Prop) : OwnFrom B (fun s W => p s ∧ LX w W) := by
  rintro s X Y row ⟨hp, h1, h2, h6⟩ hg hrow
  have ne : ∀ C, C ≤ w.heap.size + 1 + 1 + 1 → some C ≠ row := fun C hC e => by have := (hrow C e.symm).1; omega
  exact ⟨hp, h1.kept hg (ne _ (by omega)), h2.kept hg (ne _ (by omega)), h6.grown hg h6.size fun r e => by have := (hrow r e).1; omega⟩
theorem opIn_append_rdg {α : Type} {enc : α → Value} (h1c : ∀ x, (enc x).oneCell' = true) {F : Fence} {nF : Nat} {P : Program} {w : World} {o : Oper} {a : Act} {K : Act → World → Prop} {Q : Exit → Act → World → Prop} (s x : Operand) (t : TypeId)
    (ho : o.op = .call { callee := .builtin .append, args := #[s, x], argTypes := #[t, t] })
    (base : Nat) (e : TypeId) (i : TypeInfo) (z : Value) (bytes : Nat) (ht : P.underlying t = some (.slice e)) (hi : P.info? e = some i) (hz : i.zero = some z) (hsize : i.size = 1) (hby : i.bytes = bytes) (hb8 : bytes ≤ 16) (hzs : z.cells.size = 1)
    (v : Value) (n : Nat) (xs : List Value) (hs : a.eval s = v) (hown : w.ownsRow base e 1 v n xs)
    (ad : Addr) (m c : Nat) (l : List α) (hx : a.eval x = .slice (some ad) m c) (hr : RdG enc w w.heap.size (some ad) l) (hl : l.length = m) (hm0 : 0 < m) (hb : n + m ≤ 1000000000000) (hbase : base ≤ w.heap.size)
    (h : ∀ v' w', w'.ownsRow base e 1 v' (n + m) (xs ++ l.map enc) → w.grownBy w' v.ownBlock → K (a.put o.dst v') w') : o.wpIn F nF P a w K Q := by
  obtain ⟨v', w', hr', h2, h3, _⟩ := run_append_own (P := P) w base t o.type e i z 1 bytes ht hi hz hsize hby hzs (by decide) v n xs hown ad m c (l.map enc) (by rw [List.length_map]; omega) (by
    intro j u hu
    have hj : j < l.length := by
      have := (List.getElem?_eq_some_iff.1 hu).1
      simpa using this
    obtain ⟨b, off, he, _, hc⟩ := hr (by omega)
    cases he
    rw [addr_plain, hc j hj]
    rw [← hu]
    simp [hj]) (fun v hv => by obtain ⟨y, _, rfl⟩ := List.mem_map.1 hv; exact h1c y) (by unfold maxLen; omega) (Nat.le_trans (Nat.mul_le_mul hb (by omega)) (by decide)) hbase
  unfold Oper.wpIn
  refine ⟨by simp [Oper.about, ho, resolve, Target.leads, Sem.run_pure], ?_⟩
  rw [Oper.semAt_plain F _ _ (by rw [ho]; intro c hc'; cases hc')]
  simp [execOp, ho, resolve, invoke, builtin, hs, hx, hr', Result.andThen]
  exact h v' w' h2 h3
end Hx
end Go.Proofs.Ytfdhogaknlabkaa
namespace Go.Proofs.Ytfdhogaknlabkaa
open Go.RowKit Go.Shelf
namespace Hx
open As
set_option linter.unusedVariables false
attribute [local go_sem] Oper.semAt_some
theorem pts_of : ∀ (L : List (List UInt8)), (∀ p ∈ L, p.length ≤ 1000000) → ∃ xs : List Pt, xs.map (fun x => x.1.data.toList) = L
  | [], _ => ⟨[], rfl⟩
  | p :: L, h => by
    obtain ⟨xs, hx⟩ := pts_of L (fun q hq => h q (List.mem_cons_of_mem _ hq))
    exact ⟨⟨mkB p, h p (List.mem_cons_self ..)⟩ :: xs, by rw [List.map_cons, hx]; rfl⟩
theorem cutT_len (l : List UInt8) : ∀ p ∈ cutT l, p.length ≤ l.length := by
  intro p hp
  unfold cutT at hp
  rw [List.mem_flatMap] at hp
  obtain ⟨q, hq, hpq⟩ := hp
  unfold oneT at hpq
  split at hpq
  · simp at hpq
  · rw [List.mem_singleton] at hpq
    rw [hpq]
    exact Nat.le_trans (trim_len q) (cut_mem l q hq)
def lowP (x : Pt) : ByteArray := lowS x.1
def tokP (x : Pt) : Bool := isTok x.1.data.toList
theorem parts_pts {s : ByteArray} {xs : List Pt} (h : xs.map (fun x => x.1.data.toList) = cutT s.data.toList) : parts s.data.toList = xs.map (fun x => lows x.1.data.toList) := by
  rw [← cutT_low, ← h, List.map_map]
  rfl
theorem parts_len {s : ByteArray} {xs : List Pt} (h : xs.map (fun x => x.1.data.toList) = cutT s.data.toList) : (parts s.data.toList).length = xs.length := by rw [parts_pts h, List.length_map]
theorem parts_tok7 {s : ByteArray} {xs : List Pt} (h : xs.map (fun x => x.1.data.toList) = cutT s.data.toList) : (parts s.data.toList).all isTok = xs.all tokP := by
  rw [parts_pts h, List.all_map]
  congr 1
  funext x
  exact tok_lows _
theorem listE_many {s : ByteArray} {xs : List Pt} (h : xs.map (fun x => x.1.data.toList) = cutT s.data.toList) (hn : 16 < xs.length) : listE s.data.toList = 4 := by
  unfold listE
  rw [parts_len h, if_pos hn]
theorem listE_bad {s : ByteArray} {xs : List Pt} (h : xs.map (fun x => x.1.data.toList) = cutT s.data.toList) (hn : xs.length ≤ 16) (ht : xs.all tokP = false) : listE s.data.toList = 8 := by
  unfold listE
  rw [parts_len h, if_neg (by omega), parts_tok7 h, ht]
  rfl
theorem listE_good {s : ByteArray} {xs : List Pt} (h : xs.map (fun x => x.1.data.toList) = cutT s.data.toList) (hn : xs.length ≤ 16) (ht : xs.all tokP = true) : listE s.data.toList = 0 ∧ listS s = xs.map lowP := by
  have e : listE s.data.toList = 0 := by
    unfold listE
    rw [parts_len h, if_neg (by omega), parts_tok7 h, ht]
    rfl
  refine ⟨e, ?_⟩
  rw [listS_map s e, parts_pts h, List.map_map]
  rfl
theorem ends7 (tmps : Array Value) (V : World) (g2 g3 : Nat) {v : Value} {m : Int} (h2 : Boxed V g2 TS v) (h3 : Boxed V g3 TE (.int .i64 m))
    (p2 : tmps.getD 2 undef = .pointer (some ⟨g2, 0, none⟩)) (p3 : tmps.getD 3 undef = .pointer (some ⟨g3, 0, none⟩)) :
    (results Try.f79 tmps).run Try.prog V = .ok (.tuple #[v, .int .i64 m]) V := by
  have d2 := h2.cell
  have d3 := h3.cell
  simp only [Array.getD_eq_getD_getElem?] at p2 p3
  simp [results, Try.results79, go_sem, p2, p3, asAddr, d2, d3]
theorem below_of_drew7 {W w : World} (h : Below W.drew.heap.size W.drew w) : Below W.heap.size W w := ⟨h.os, h.tape, h.output, h.size, h.block⟩
/-- A round's end. -/
theorem body_end7 {w W W4 w5 V : World} {v : Value} {nb : Bool} {ls ls' : List ByteArray} {len : Nat} (hk : KeepsOthers W W4) (ht : KpT W W4) (hb : Below W4.heap.size W4 w5) (hk7 : KeepsOthers w5 V) (ht7 : KpT w5 V) (hl : LI w v nb ls V) (hls : ls = ls') (hn : len ≤ 16) {nb' : Bool} (hnb : nb = nb') :
    KeepsOthers W V ∧ KpT W V ∧ len ≤ 16 ∧ ∃ v, LI w v nb' ls' V := by
  subst hls hnb
  exact ⟨(hk.trans (keeps_below7 hb)).trans hk7, (ht.trans (KpT.below hb)).trans ht7, hn, v, hl⟩
theorem box_put {W : World} {B D : Nat} {t : TypeId} {v : Value} {o' : Obj} (h : Boxed W B t v) (hk : W.heap[D]? = some (.deferred (some []))) : Boxed (W.putObj D o') B t v := by
  refine h.kept (grownBy_putObj' W D o') ?_
  intro e
  cases e
  rw [show W.heap[B]? = _ from h] at hk
  cases hk
theorem own_box {W : World} {base B : Nat} {t e : TypeId} {u v : Value} {n : Nat} {xs : List Value} (h : W.ownsRow base e 1 v n xs) (hB : Boxed W B t u) (ht : t ≠ e) (x : Value) : (W.setCell ⟨B, 0, none⟩ x).ownsRow base e 1 v n xs :=
  h.kept (grownBy_setCell' W B x) (.inr (hB.not_row ht h).symm)
theorem RdG.nilS {α : Type} (enc : α → Value) (w : World) (B : Nat) : RdG enc w B none ([] : List α) := fun h => absurd h (by simp)
set_option maxHeartbeats 8000000 in
set_option maxRecDepth 100000 in
theorem list7 (s : ByteArray) (l : List ByteArray) (n : Nat) (q : Int) (w : World) (hm : s.size ≤ 1000000) (hl : listS s = l) (hn : l.length = n) (hq : (listE s.data.toList : Int) = q) :
    Calls Try.prog 79 #[.string s] w (ListTo l n q w) := by
  obtain ⟨i0, hi, hz0, hz1, hz2⟩ := info_parts infoS
  have HI0 := Lib.hid hi
  have HZ0 := Lib.hid hz0
  have HZ1 := Lib.hid hz1
  have HZ2 := Lib.hid hz2
  obtain ⟨xs, hxs⟩ := pts_of (cutT s.data.toList) (fun p hp => Nat.le_trans (cutT_len _ p hp) (by rw [ba_len7]; exact hm))
  have HXS := Lib.hid hxs
  have HM := Lib.hid hm
  have HL := Lib.hid hl
  have HN := Lib.hid hn
  have HQ := Lib.hid hq
  clear hm hl hn hq hi hz0 hz1 hz2 hxs
  refine (callsIn_wide (n := 9)).1 ?_
  refine callsIn_of_wp_marks Try.func79 rfl trivial ?_ rfl
  simp only [Try.ntmps79, List.size_toArray, List.length_cons, List.length_nil, Nat.reduceAdd, Nat.reduceSub, Array.replicate_succ, Array.replicate_zero, List.push_toArray, List.append_toArray, List.nil_append, List.cons_append]
  refine wpIn_wide.2 ?_
  go_wp2_with (first
    | (go_at_call 85; (with_reducible refine (parts_any s _).mono ?_); rintro e w1 ⟨rfl, rfl⟩)
    | fail)
  obtain ⟨W7, hW7⟩ : ∃ W7, (((((w.alloc (.cells #[.slice none 0 0] TS)).alloc (.cells #[.int .i64 0] TE)).alloc (.cells #[.slice none 0 0] TS)).alloc (.cells #[.bool false] TBa)).alloc (.cells #[.string s] TT)) = W7 := ⟨_, rfl⟩
  rw [hW7]
  have hs7 : W7.heap.size = w.heap.size + 1 + 1 + 1 + 1 + 1 := by rw [← hW7]; simp
  have hl7 : LI w (.slice none 0 0) false [] W7 := by
    rw [← hW7]
    refine ⟨?_, ?_, ?_, ?_, World.ownsRow_nil _ _ _ _, stpA (stpA (stpA (stpA (stpA (Below.refl _ _) _) _) _) _) _⟩
    · exact ((((Boxed.new w TS _).alloc _).alloc _).alloc _).alloc _
    · have := Boxed.new (w.alloc (.cells #[.slice none 0 0] TS)) TE (.int .i64 0)
      rw [World.size_alloc] at this
      exact ((this.alloc _).alloc _).alloc _
    · have := Boxed.new ((w.alloc (.cells #[.slice none 0 0] TS)).alloc (.cells #[.int .i64 0] TE)) TS (.slice none 0 0)
      rw [World.size_alloc, World.size_alloc] at this
      exact (this.alloc _).alloc _
    · have := Boxed.new (((w.alloc (.cells #[.slice none 0 0] TS)).alloc (.cells #[.int .i64 0] TE)).alloc (.cells #[.slice none 0 0] TS)) TBa (.bool false)
      rw [World.size_alloc, World.size_alloc, World.size_alloc] at this
      exact this.alloc _
  have hc7 : W7.cell? ⟨w.heap.size + 1 + 1 + 1 + 1, 0, none⟩ = some (.string s) := by
    rw [← hW7]
    have := Boxed.new ((((w.alloc (.cells #[.slice none 0 0] TS)).alloc (.cells #[.int .i64 0] TE)).alloc (.cells #[.slice none 0 0] TS)).alloc (.cells #[.bool false] TBa)) TT (.string s)
    rw [World.size_alloc, World.size_alloc, World.size_alloc, World.size_alloc] at this
    exact this.cell
  clear hW7
  refine (wpIn_wide (n := 9)).1 ?_
  refine wpIn_rangeFunc_ownF (F := Fence.wide) (n := 9) rfl (by decide) (gf := 90) (lb := #[.pointer (some ⟨w.heap.size + 1 + 1 + 1 + 1, 0, none⟩)]) rfl trivial (enters_of Try.func90 (by kernel_rfl) rfl)
    (encs := fun x : Pt => #[.string x.1]) (Kp := KpT) (S := fun ys => ys = xs) (Sp := fun pre => pre <+: xs) (N := xs.length) (w0 := W7) ?hseq (fun h k => KpT.trans h k) (fun W l o o' _ h1 h2 _ => KpT.put W l o o' h1 h2) (Below.refl _ _) (fun _ => rfl)
    (fun pre W => pre.length ≤ 16 ∧ ∃ v, LI w v (!(pre.all tokP)) (pre.map lowP) W) (fun c pre W => (c = .ret ∧ 16 < pre.length) ∧ LX w W)
    (fun s A B row hs hg hr => ⟨hs.1, LI.own (w := w) W7.heap.size (by omega) (fun pre : List Pt => pre.map lowP) (fun pre => !(pre.all tokP)) s A B row hs.2 hg hr⟩)
    (fun c => LX.own (w := w) W7.heap.size (by omega) (fun pre : List Pt => c = .ret ∧ 16 < pre.length)) ⟨by simp, _, hl7⟩
    (fun x => { tmps := #[.string s, undef, .pointer (some ⟨w.heap.size, 0, none⟩), .pointer (some ⟨w.heap.size + 1, 0, none⟩), .pointer (some ⟨w.heap.size + 1 + 1, 0, none⟩), .pointer (some ⟨w.heap.size + 1 + 1 + 1, 0, none⟩), .string x.1, .string s,
      .func (.func 90) #[] #[.pointer (some ⟨w.heap.size + 1 + 1 + 1 + 1, 0, none⟩)], .string x.1, undef, undef, undef, undef, undef, undef, undef, undef, undef, undef, undef, undef, undef, undef, undef, undef], defers := [] }) ?assign ?body ?done ?stop
  case hseq =>
    intro l J Jx W hW hJ hJx hY h0
    exact parts1_in 8 (by decide) l _ s xs HM.out HXS.out J Jx (fun ys A B h hb => hJ ys A B none h ⟨hb.os, hb.tape, hb.output, hb.size, fun k hk _ => hb.block k hk⟩ (fun r e => by cases e)) hY W ((hW.cell (p := ⟨w.heap.size + 1 + 1 + 1 + 1, 0, none⟩) (by show w.heap.size + 1 + 1 + 1 + 1 < _; omega)).trans hc7) (by have := hW.size; omega) h0
  case assign =>
    intro l x W K hK
    gi_wp2
    exact hK
  case body =>
    rintro lp pre x W ⟨h16, v, hli⟩ hlt
    have hcl := hli.2.2.1.cell
    have hcb := hli.2.2.2.1.cell
    have hfb := hli.2.2.2.1.frozen
    obtain ⟨A0, C0, rfl, hA0, _, _⟩ := own_any hli.2.2.2.2.1
    obtain ⟨m, hmm⟩ : ∃ m, (pre.map lowP).length = m := ⟨_, rfl⟩
    rw [hmm] at hli hcl
    have HMM := Lib.hid hmm
    have HLI := Lib.hid hli
    have HX : Hid (x.1.size ≤ 1000000) := x.2
    clear hli
    by_cases h17 : pre.length = 16
    · have hmq : m = 16 := by rw [← hmm, List.length_map]; exact h17
      have hq : ((m : Int) == 16) = true := by simp; omega
      have c0 := HLI.out.1.cell
      have f0 := HLI.out.1.frozen
      have e0 := HLI.out.2.1.cell
      have k0 := HLI.out.2.1.frozen
      have HR : Hid (16 < (pre ++ [x]).length) := by show 16 < _; simp; omega
      clear h17 hlt hmm hmq
      gi_wp2
      exact ⟨HLI.out.many.2, ⟨rfl, HR.out⟩, HLI.out.many.1⟩
    · have hlm : (pre.map lowP).length = pre.length := List.length_map _
      have h17' : ¬ (pre.map lowP).length = 16 := by omega
      have HLEN : Hid ((pre.map lowP).length ≤ 16) := by show _ ≤ _; omega
      have HPN : Hid ((pre ++ [x]).length ≤ 16) := by show _ ≤ _; simp; omega
      rw [hmm] at h17'
      have hq : ((m : Int) == 16) = false := by simp; omega
      obtain ⟨y, hy⟩ : ∃ y, lowS x.1 = y := ⟨_, rfl⟩
      have HY := Lib.hid hy
      have HLN : Hid (pre.map lowP ++ [y] = (pre ++ [x]).map lowP) := by show _ = _; rw [← hy, List.map_append]; rfl
      obtain ⟨tk, htk⟩ : ∃ tk, isTok x.1.data.toList = tk := ⟨_, rfl⟩
      have HTK := Lib.hid htk
      have hall : (pre ++ [x]).all tokP = (pre.all tokP && tk) := by rw [List.all_append, ← htk]; simp [tokP]
      clear hy htk hmm h17 hlm hlt h16
      cases hbd : pre.all tokP with
      | true =>
        rw [hbd] at hall hcb HLI
        rw [Bool.true_and] at hall
        clear hbd
        cases tk with
        | true =>
          have HNB : Hid (false = !((pre ++ [x]).all tokP)) := by show _ = _; rw [hall]; rfl
          clear hall
          gi_upto_region 2 with (first
            | (refine ⟨trivial, ?_⟩; gi_at_call 56; refine (CallsIn.inRound lp (callsIn_wide.2 (token7 x.1 true W HX.out HTK.out))).mono ?_; rintro e w3 ⟨rfl, hb3⟩; have HL3 := Lib.hid (HLI.out.below hb3); have c3 := HL3.out.2.2.2.1.cell; have f3 := HL3.out.2.2.2.1.frozen; have HB3 := Lib.hid hb3; clear hb3)
            | fail)
          obtain ⟨W4, hW4⟩ : ∃ W4, w3.setCell ⟨w.heap.size + 1 + 1 + 1, 0, none⟩ (.bool false) = W4 := ⟨_, rfl⟩
          have hL4 := HL3.out.bad false
          have HKB : Hid (KeepsOthers W W4) := by rw [← hW4]; exact (keeps_below7 HB3.out).trans (KeepsOthers.setCell _ _ _)
          rw [hW4] at hL4 ⊢
          have HTB : Hid (KpT W W4) := (KpT.below HB3.out).trans hL4.2
          have HL4 := Lib.hid hL4.1
          have c4 := hL4.1.2.2.1.cell
          clear hL4 hW4 hcl hcb hfb
          have hmo : Try.prog.follows .mixedOrders = true := by kernel_rfl
          refine wpIn_region_any hmo ?_
          change wpAnyIn _ _ _ _ _ _ _ _ _ (World.drew _)
          refine wpAnyIn_ready (rs := [0, 1]) (by kernel_rfl) (by simp) ?_
          refine AllReadyIn.cons rfl (fun K hK => ?_) ?_
          · skip
            go_simp
            refine hK _ _ ?_
            clear hK K
            refine wpAnyIn_ready (rs := [1]) (by kernel_rfl) (by simp) ?_
            refine AllReadyIn.cons rfl (fun K hK => ?_) AllReadyIn.nil
            go_simp
            refine hK _ _ ?_
            clear hK K
            refine wpAnyIn_ready (rs := [2]) (by kernel_rfl) (by simp) ?_
            refine AllReadyIn.cons rfl (fun K hK => ?_) AllReadyIn.nil
            go_simp
            refine ⟨trivial, ?_⟩
            gi_at_call 53
            refine (CallsIn.inRound lp (callsIn_wide.2 (lower7 x.1 y W4.drew HX.out HY.out))).mono ?_
            rintro e w5 ⟨rfl, hb5⟩
            have HL5 := Lib.hid (HL4.out.below (below_of_drew7 hb5))
            have hb5' := below_of_drew7 hb5
            have c5 := HL5.out.2.2.1.cell
            have c5a := (HL5.out.2.2.1.alloc (.cells #[.string y] 9)).cell
            have hown5 := HL5.out.2.2.2.2.1
            rw [HMM.out] at hown5
            have HOWN5 := Lib.hid hown5
            clear hown5
            have HB5 := Lib.hid hb5'
            clear hb5 hb5'
            refine hK _ _ ?_
            clear hK K
            refine wpAnyIn_ready (rs := [3]) (by kernel_rfl) (by simp) ?_
            refine AllReadyIn.cons rfl (fun K hK => ?_) AllReadyIn.nil
            go_simp
            refine hK _ _ ?_
            clear hK K
            refine wpAnyIn_ready (rs := [4]) (by kernel_rfl) (by simp) ?_
            refine AllReadyIn.cons rfl (fun K hK => ?_) AllReadyIn.nil
            rw [if_pos (by rfl)]
            refine opIn_append_rdg encS_one (.tmp 19) (.tmp 22) TS rfl w.heap.size TT i0 (.string ByteArray.empty) 16 Try.underlying55 HI0.out HZ0.out HZ1.out HZ2.out (by decide) rfl _ m _ rfl (HOWN5.out.alloc (.cells #[.string y] TT)) ⟨w5.heap.size, 0, none⟩ 1 1 [y] rfl (RdG.newS (enc := encS) w5 TT [y]) rfl (by decide) (by have := HLEN.out; have := HMM.out; omega) (by have := HL5.out.2.2.2.2.2.size; rw [World.size_alloc]; omega) ?_
            intro v6 w6 hown6 hgr6
            obtain ⟨A6, C6, rfl⟩ := ownsRow_succ hown6
            obtain ⟨b6, hL7, hK7, hT7⟩ := HL5.out.push HMM.out hown6 hgr6
            have c6 := b6.cell
            have f6 := b6.frozen
            have HL7 := Lib.hid hL7
            have HK7 := Lib.hid hK7
            have HT7 := Lib.hid hT7
            clear hL7 hK7 hT7 hown6 hgr6 b6
            refine hK _ _ ?_
            clear hK K
            refine wpAnyIn_ready (rs := [5]) (by kernel_rfl) (by simp) ?_
            refine AllReadyIn.cons rfl (fun K hK => ?_) AllReadyIn.nil
            go_simp
            refine hK _ _ ?_
            clear hK K
            refine wpAnyIn_done (by kernel_rfl) ?_ _
            gi_wp2
            exact body_end7 HKB.out HTB.out HB5.out HK7.out HT7.out HL7.out HLN.out HPN.out HNB.out
          refine AllReadyIn.cons rfl (fun K hK => ?_) AllReadyIn.nil
          go_simp
          refine hK _ _ ?_
          clear hK K
          refine wpAnyIn_ready (rs := [0, 2]) (by kernel_rfl) (by simp) ?_
          refine AllReadyIn.cons rfl (fun K hK => ?_) ?_
          · skip
            go_simp
            refine hK _ _ ?_
            clear hK K
            refine wpAnyIn_ready (rs := [2]) (by kernel_rfl) (by simp) ?_
            refine AllReadyIn.cons rfl (fun K hK => ?_) AllReadyIn.nil
            go_simp
            refine ⟨trivial, ?_⟩
            gi_at_call 53
            refine (CallsIn.inRound lp (callsIn_wide.2 (lower7 x.1 y W4.drew HX.out HY.out))).mono ?_
            rintro e w5 ⟨rfl, hb5⟩
            have HL5 := Lib.hid (HL4.out.below (below_of_drew7 hb5))
            have hb5' := below_of_drew7 hb5
            have c5 := HL5.out.2.2.1.cell
            have c5a := (HL5.out.2.2.1.alloc (.cells #[.string y] 9)).cell
            have hown5 := HL5.out.2.2.2.2.1
            rw [HMM.out] at hown5
            have HOWN5 := Lib.hid hown5
            clear hown5
            have HB5 := Lib.hid hb5'
            clear hb5 hb5'
            refine hK _ _ ?_
            clear hK K
            refine wpAnyIn_ready (rs := [3]) (by kernel_rfl) (by simp) ?_
            refine AllReadyIn.cons rfl (fun K hK => ?_) AllReadyIn.nil
            go_simp
            refine hK _ _ ?_
            clear hK K
            refine wpAnyIn_ready (rs := [4]) (by kernel_rfl) (by simp) ?_
            refine AllReadyIn.cons rfl (fun K hK => ?_) AllReadyIn.nil
            rw [if_pos (by rfl)]
            refine opIn_append_rdg encS_one (.tmp 19) (.tmp 22) TS rfl w.heap.size TT i0 (.string ByteArray.empty) 16 Try.underlying55 HI0.out HZ0.out HZ1.out HZ2.out (by decide) rfl _ m _ rfl (HOWN5.out.alloc (.cells #[.string y] TT)) ⟨w5.heap.size, 0, none⟩ 1 1 [y] rfl (RdG.newS (enc := encS) w5 TT [y]) rfl (by decide) (by have := HLEN.out; have := HMM.out; omega) (by have := HL5.out.2.2.2.2.2.size; rw [World.size_alloc]; omega) ?_
            intro v6 w6 hown6 hgr6
            obtain ⟨A6, C6, rfl⟩ := ownsRow_succ hown6
            obtain ⟨b6, hL7, hK7, hT7⟩ := HL5.out.push HMM.out hown6 hgr6
            have c6 := b6.cell
            have f6 := b6.frozen
            have HL7 := Lib.hid hL7
            have HK7 := Lib.hid hK7
            have HT7 := Lib.hid hT7
            clear hL7 hK7 hT7 hown6 hgr6 b6
            refine hK _ _ ?_
            clear hK K
            refine wpAnyIn_ready (rs := [5]) (by kernel_rfl) (by simp) ?_
            refine AllReadyIn.cons rfl (fun K hK => ?_) AllReadyIn.nil
            go_simp
            refine hK _ _ ?_
            clear hK K
            refine wpAnyIn_done (by kernel_rfl) ?_ _
            gi_wp2
            exact body_end7 HKB.out HTB.out HB5.out HK7.out HT7.out HL7.out HLN.out HPN.out HNB.out
          refine AllReadyIn.cons rfl (fun K hK => ?_) AllReadyIn.nil
          go_simp
          refine ⟨trivial, ?_⟩
          gi_at_call 53
          refine (CallsIn.inRound lp (callsIn_wide.2 (lower7 x.1 y W4.drew HX.out HY.out))).mono ?_
          rintro e w5 ⟨rfl, hb5⟩
          have HL5 := Lib.hid (HL4.out.below (below_of_drew7 hb5))
          have hb5' := below_of_drew7 hb5
          have c5 := HL5.out.2.2.1.cell
          have c5a := (HL5.out.2.2.1.alloc (.cells #[.string y] 9)).cell
          have hown5 := HL5.out.2.2.2.2.1
          rw [HMM.out] at hown5
          have HOWN5 := Lib.hid hown5
          clear hown5
          have HB5 := Lib.hid hb5'
          clear hb5 hb5'
          refine hK _ _ ?_
          clear hK K
          refine wpAnyIn_ready (rs := [0, 3]) (by kernel_rfl) (by simp) ?_
          refine AllReadyIn.cons rfl (fun K hK => ?_) ?_
          · skip
            go_simp
            refine hK _ _ ?_
            clear hK K
            refine wpAnyIn_ready (rs := [3]) (by kernel_rfl) (by simp) ?_
            refine AllReadyIn.cons rfl (fun K hK => ?_) AllReadyIn.nil
            go_simp
            refine hK _ _ ?_
            clear hK K
            refine wpAnyIn_ready (rs := [4]) (by kernel_rfl) (by simp) ?_
            refine AllReadyIn.cons rfl (fun K hK => ?_) AllReadyIn.nil
            rw [if_pos (by rfl)]
            refine opIn_append_rdg encS_one (.tmp 19) (.tmp 22) TS rfl w.heap.size TT i0 (.string ByteArray.empty) 16 Try.underlying55 HI0.out HZ0.out HZ1.out HZ2.out (by decide) rfl _ m _ rfl (HOWN5.out.alloc (.cells #[.string y] TT)) ⟨w5.heap.size, 0, none⟩ 1 1 [y] rfl (RdG.newS (enc := encS) w5 TT [y]) rfl (by decide) (by have := HLEN.out; have := HMM.out; omega) (by have := HL5.out.2.2.2.2.2.size; rw [World.size_alloc]; omega) ?_
            intro v6 w6 hown6 hgr6
            obtain ⟨A6, C6, rfl⟩ := ownsRow_succ hown6
            obtain ⟨b6, hL7, hK7, hT7⟩ := HL5.out.push HMM.out hown6 hgr6
            have c6 := b6.cell
            have f6 := b6.frozen
            have HL7 := Lib.hid hL7
            have HK7 := Lib.hid hK7
            have HT7 := Lib.hid hT7
            clear hL7 hK7 hT7 hown6 hgr6 b6
            refine hK _ _ ?_
            clear hK K
            refine wpAnyIn_ready (rs := [5]) (by kernel_rfl) (by simp) ?_
            refine AllReadyIn.cons rfl (fun K hK => ?_) AllReadyIn.nil
            go_simp
            refine hK _ _ ?_
            clear hK K
            refine wpAnyIn_done (by kernel_rfl) ?_ _
            gi_wp2
            exact body_end7 HKB.out HTB.out HB5.out HK7.out HT7.out HL7.out HLN.out HPN.out HNB.out
          refine AllReadyIn.cons rfl (fun K hK => ?_) AllReadyIn.nil
          go_simp
          refine hK _ _ ?_
          clear hK K
          refine wpAnyIn_ready (rs := [0]) (by kernel_rfl) (by simp) ?_
          refine AllReadyIn.cons rfl (fun K hK => ?_) AllReadyIn.nil
          go_simp
          refine hK _ _ ?_
          clear hK K
          refine wpAnyIn_ready (rs := [4]) (by kernel_rfl) (by simp) ?_
          refine AllReadyIn.cons rfl (fun K hK => ?_) AllReadyIn.nil
          rw [if_pos (by rfl)]
          refine opIn_append_rdg encS_one (.tmp 19) (.tmp 22) TS rfl w.heap.size TT i0 (.string ByteArray.empty) 16 Try.underlying55 HI0.out HZ0.out HZ1.out HZ2.out (by decide) rfl _ m _ rfl (HOWN5.out.alloc (.cells #[.string y] TT)) ⟨w5.heap.size, 0, none⟩ 1 1 [y] rfl (RdG.newS (enc := encS) w5 TT [y]) rfl (by decide) (by have := HLEN.out; have := HMM.out; omega) (by have := HL5.out.2.2.2.2.2.size; rw [World.size_alloc]; omega) ?_
          intro v6 w6 hown6 hgr6
          obtain ⟨A6, C6, rfl⟩ := ownsRow_succ hown6
          obtain ⟨b6, hL7, hK7, hT7⟩ := HL5.out.push HMM.out hown6 hgr6
          have c6 := b6.cell
          have f6 := b6.frozen
          have HL7 := Lib.hid hL7
          have HK7 := Lib.hid hK7
          have HT7 := Lib.hid hT7
          clear hL7 hK7 hT7 hown6 hgr6 b6
          refine hK _ _ ?_
          clear hK K
          refine wpAnyIn_ready (rs := [5]) (by kernel_rfl) (by simp) ?_
          refine AllReadyIn.cons rfl (fun K hK => ?_) AllReadyIn.nil
          go_simp
          refine hK _ _ ?_
          clear hK K
          refine wpAnyIn_done (by kernel_rfl) ?_ _
          gi_wp2
          exact body_end7 HKB.out HTB.out HB5.out HK7.out HT7.out HL7.out HLN.out HPN.out HNB.out
        | false =>
          have HNB : Hid (true = !((pre ++ [x]).all tokP)) := by show _ = _; rw [hall]; rfl
          clear hall
          gi_upto_region 2 with (first
            | (refine ⟨trivial, ?_⟩; gi_at_call 56; refine (CallsIn.inRound lp (callsIn_wide.2 (token7 x.1 false W HX.out HTK.out))).mono ?_; rintro e w3 ⟨rfl, hb3⟩; have HL3 := Lib.hid (HLI.out.below hb3); have c3 := HL3.out.2.2.2.1.cell; have f3 := HL3.out.2.2.2.1.frozen; have HB3 := Lib.hid hb3; clear hb3)
            | fail)
          obtain ⟨W4, hW4⟩ : ∃ W4, w3.setCell ⟨w.heap.size + 1 + 1 + 1, 0, none⟩ (.bool true) = W4 := ⟨_, rfl⟩
          have hL4 := HL3.out.bad true
          have HKB : Hid (KeepsOthers W W4) := by rw [← hW4]; exact (keeps_below7 HB3.out).trans (KeepsOthers.setCell _ _ _)
          rw [hW4] at hL4 ⊢
          have HTB : Hid (KpT W W4) := (KpT.below HB3.out).trans hL4.2
          have HL4 := Lib.hid hL4.1
          have c4 := hL4.1.2.2.1.cell
          clear hL4 hW4 hcl hcb hfb
          have hmo : Try.prog.follows .mixedOrders = true := by kernel_rfl
          refine wpIn_region_any hmo ?_
          change wpAnyIn _ _ _ _ _ _ _ _ _ (World.drew _)
          refine wpAnyIn_ready (rs := [0, 1]) (by kernel_rfl) (by simp) ?_
          refine AllReadyIn.cons rfl (fun K hK => ?_) ?_
          · skip
            go_simp
            refine hK _ _ ?_
            clear hK K
            refine wpAnyIn_ready (rs := [1]) (by kernel_rfl) (by simp) ?_
            refine AllReadyIn.cons rfl (fun K hK => ?_) AllReadyIn.nil
            go_simp
            refine hK _ _ ?_
            clear hK K
            refine wpAnyIn_ready (rs := [2]) (by kernel_rfl) (by simp) ?_
            refine AllReadyIn.cons rfl (fun K hK => ?_) AllReadyIn.nil
            go_simp
            refine ⟨trivial, ?_⟩
            gi_at_call 53
            refine (CallsIn.inRound lp (callsIn_wide.2 (lower7 x.1 y W4.drew HX.out HY.out))).mono ?_
            rintro e w5 ⟨rfl, hb5⟩
            have HL5 := Lib.hid (HL4.out.below (below_of_drew7 hb5))
            have hb5' := below_of_drew7 hb5
            have c5 := HL5.out.2.2.1.cell
            have c5a := (HL5.out.2.2.1.alloc (.cells #[.string y] 9)).cell
            have hown5 := HL5.out.2.2.2.2.1
            rw [HMM.out] at hown5
            have HOWN5 := Lib.hid hown5
            clear hown5
            have HB5 := Lib.hid hb5'
            clear hb5 hb5'
            refine hK _ _ ?_
            clear hK K
            refine wpAnyIn_ready (rs := [3]) (by kernel_rfl) (by simp) ?_
            refine AllReadyIn.cons rfl (fun K hK => ?_) AllReadyIn.nil
            go_simp
            refine hK _ _ ?_
            clear hK K
            refine wpAnyIn_ready (rs := [4]) (by kernel_rfl) (by simp) ?_
            refine AllReadyIn.cons rfl (fun K hK => ?_) AllReadyIn.nil
            rw [if_pos (by rfl)]
            refine opIn_append_rdg encS_one (.tmp 19) (.tmp 22) TS rfl w.heap.size TT i0 (.string ByteArray.empty) 16 Try.underlying55 HI0.out HZ0.out HZ1.out HZ2.out (by decide) rfl _ m _ rfl (HOWN5.out.alloc (.cells #[.string y] TT)) ⟨w5.heap.size, 0, none⟩ 1 1 [y] rfl (RdG.newS (enc := encS) w5 TT [y]) rfl (by decide) (by have := HLEN.out; have := HMM.out; omega) (by have := HL5.out.2.2.2.2.2.size; rw [World.size_alloc]; omega) ?_
            intro v6 w6 hown6 hgr6
            obtain ⟨A6, C6, rfl⟩ := ownsRow_succ hown6
            obtain ⟨b6, hL7, hK7, hT7⟩ := HL5.out.push HMM.out hown6 hgr6
            have c6 := b6.cell
            have f6 := b6.frozen
            have HL7 := Lib.hid hL7
            have HK7 := Lib.hid hK7
            have HT7 := Lib.hid hT7
            clear hL7 hK7 hT7 hown6 hgr6 b6
            refine hK _ _ ?_
            clear hK K
            refine wpAnyIn_ready (rs := [5]) (by kernel_rfl) (by simp) ?_
            refine AllReadyIn.cons rfl (fun K hK => ?_) AllReadyIn.nil
            go_simp
            refine hK _ _ ?_
            clear hK K
            refine wpAnyIn_done (by kernel_rfl) ?_ _
            gi_wp2
            exact body_end7 HKB.out HTB.out HB5.out HK7.out HT7.out HL7.out HLN.out HPN.out HNB.out
          refine AllReadyIn.cons rfl (fun K hK => ?_) AllReadyIn.nil
          go_simp
          refine hK _ _ ?_
          clear hK K
          refine wpAnyIn_ready (rs := [0, 2]) (by kernel_rfl) (by simp) ?_
          refine AllReadyIn.cons rfl (fun K hK => ?_) ?_
          · skip
            go_simp
            refine hK _ _ ?_
            clear hK K
            refine wpAnyIn_ready (rs := [2]) (by kernel_rfl) (by simp) ?_
            refine AllReadyIn.cons rfl (fun K hK => ?_) AllReadyIn.nil
            go_simp
            refine ⟨trivial, ?_⟩
            gi_at_call 53
            refine (CallsIn.inRound lp (callsIn_wide.2 (lower7 x.1 y W4.drew HX.out HY.out))).mono ?_
            rintro e w5 ⟨rfl, hb5⟩
            have HL5 := Lib.hid (HL4.out.below (below_of_drew7 hb5))
            have hb5' := below_of_drew7 hb5
            have c5 := HL5.out.2.2.1.cell
            have c5a := (HL5.out.2.2.1.alloc (.cells #[.string y] 9)).cell
            have hown5 := HL5.out.2.2.2.2.1
            rw [HMM.out] at hown5
            have HOWN5 := Lib.hid hown5
            clear hown5
            have HB5 := Lib.hid hb5'
            clear hb5 hb5'
            refine hK _ _ ?_
            clear hK K
            refine wpAnyIn_ready (rs := [3]) (by kernel_rfl) (by simp) ?_
            refine AllReadyIn.cons rfl (fun K hK => ?_) AllReadyIn.nil
            go_simp
            refine hK _ _ ?_
            clear hK K
            refine wpAnyIn_ready (rs := [4]) (by kernel_rfl) (by simp) ?_
            refine AllReadyIn.cons rfl (fun K hK => ?_) AllReadyIn.nil
            rw [if_pos (by rfl)]
            refine opIn_append_rdg encS_one (.tmp 19) (.tmp 22) TS rfl w.heap.size TT i0 (.string ByteArray.empty) 16 Try.underlying55 HI0.out HZ0.out HZ1.out HZ2.out (by decide) rfl _ m _ rfl (HOWN5.out.alloc (.cells #[.string y] TT)) ⟨w5.heap.size, 0, none⟩ 1 1 [y] rfl (RdG.newS (enc := encS) w5 TT [y]) rfl (by decide) (by have := HLEN.out; have := HMM.out; omega) (by have := HL5.out.2.2.2.2.2.size; rw [World.size_alloc]; omega) ?_
            intro v6 w6 hown6 hgr6
            obtain ⟨A6, C6, rfl⟩ := ownsRow_succ hown6
            obtain ⟨b6, hL7, hK7, hT7⟩ := HL5.out.push HMM.out hown6 hgr6
            have c6 := b6.cell
            have f6 := b6.frozen
            have HL7 := Lib.hid hL7
            have HK7 := Lib.hid hK7
            have HT7 := Lib.hid hT7
            clear hL7 hK7 hT7 hown6 hgr6 b6
            refine hK _ _ ?_
            clear hK K
            refine wpAnyIn_ready (rs := [5]) (by kernel_rfl) (by simp) ?_
            refine AllReadyIn.cons rfl (fun K hK => ?_) AllReadyIn.nil
            go_simp
            refine hK _ _ ?_
            clear hK K
            refine wpAnyIn_done (by kernel_rfl) ?_ _
            gi_wp2
            exact body_end7 HKB.out HTB.out HB5.out HK7.out HT7.out HL7.out HLN.out HPN.out HNB.out
          refine AllReadyIn.cons rfl (fun K hK => ?_) AllReadyIn.nil
          go_simp
          refine ⟨trivial, ?_⟩
          gi_at_call 53
          refine (CallsIn.inRound lp (callsIn_wide.2 (lower7 x.1 y W4.drew HX.out HY.out))).mono ?_
          rintro e w5 ⟨rfl, hb5⟩
          have HL5 := Lib.hid (HL4.out.below (below_of_drew7 hb5))
          have hb5' := below_of_drew7 hb5
          have c5 := HL5.out.2.2.1.cell
          have c5a := (HL5.out.2.2.1.alloc (.cells #[.string y] 9)).cell
          have hown5 := HL5.out.2.2.2.2.1
          rw [HMM.out] at hown5
          have HOWN5 := Lib.hid hown5
          clear hown5
          have HB5 := Lib.hid hb5'
          clear hb5 hb5'
          refine hK _ _ ?_
          clear hK K
          refine wpAnyIn_ready (rs := [0, 3]) (by kernel_rfl) (by simp) ?_
          refine AllReadyIn.cons rfl (fun K hK => ?_) ?_
          · skip
            go_simp
            refine hK _ _ ?_
            clear hK K
            refine wpAnyIn_ready (rs := [3]) (by kernel_rfl) (by simp) ?_
            refine AllReadyIn.cons rfl (fun K hK => ?_) AllReadyIn.nil
            go_simp
            refine hK _ _ ?_
            clear hK K
            refine wpAnyIn_ready (rs := [4]) (by kernel_rfl) (by simp) ?_
            refine AllReadyIn.cons rfl (fun K hK => ?_) AllReadyIn.nil
            rw [if_pos (by rfl)]
            refine opIn_append_rdg encS_one (.tmp 19) (.tmp 22) TS rfl w.heap.size TT i0 (.string ByteArray.empty) 16 Try.underlying55 HI0.out HZ0.out HZ1.out HZ2.out (by decide) rfl _ m _ rfl (HOWN5.out.alloc (.cells #[.string y] TT)) ⟨w5.heap.size, 0, none⟩ 1 1 [y] rfl (RdG.newS (enc := encS) w5 TT [y]) rfl (by decide) (by have := HLEN.out; have := HMM.out; omega) (by have := HL5.out.2.2.2.2.2.size; rw [World.size_alloc]; omega) ?_
            intro v6 w6 hown6 hgr6
            obtain ⟨A6, C6, rfl⟩ := ownsRow_succ hown6
            obtain ⟨b6, hL7, hK7, hT7⟩ := HL5.out.push HMM.out hown6 hgr6
            have c6 := b6.cell
            have f6 := b6.frozen
            have HL7 := Lib.hid hL7
            have HK7 := Lib.hid hK7
            have HT7 := Lib.hid hT7
            clear hL7 hK7 hT7 hown6 hgr6 b6
            refine hK _ _ ?_
            clear hK K
            refine wpAnyIn_ready (rs := [5]) (by kernel_rfl) (by simp) ?_
            refine AllReadyIn.cons rfl (fun K hK => ?_) AllReadyIn.nil
            go_simp
            refine hK _ _ ?_
            clear hK K
            refine wpAnyIn_done (by kernel_rfl) ?_ _
            gi_wp2
            exact body_end7 HKB.out HTB.out HB5.out HK7.out HT7.out HL7.out HLN.out HPN.out HNB.out
          refine AllReadyIn.cons rfl (fun K hK => ?_) AllReadyIn.nil
          go_simp
          refine hK _ _ ?_
          clear hK K
          refine wpAnyIn_ready (rs := [0]) (by kernel_rfl) (by simp) ?_
          refine AllReadyIn.cons rfl (fun K hK => ?_) AllReadyIn.nil
          go_simp
          refine hK _ _ ?_
          clear hK K
          refine wpAnyIn_ready (rs := [4]) (by kernel_rfl) (by simp) ?_
          refine AllReadyIn.cons rfl (fun K hK => ?_) AllReadyIn.nil
          rw [if_pos (by rfl)]
          refine opIn_append_rdg encS_one (.tmp 19) (.tmp 22) TS rfl w.heap.size TT i0 (.string ByteArray.empty) 16 Try.underlying55 HI0.out HZ0.out HZ1.out HZ2.out (by decide) rfl _ m _ rfl (HOWN5.out.alloc (.cells #[.string y] TT)) ⟨w5.heap.size, 0, none⟩ 1 1 [y] rfl (RdG.newS (enc := encS) w5 TT [y]) rfl (by decide) (by have := HLEN.out; have := HMM.out; omega) (by have := HL5.out.2.2.2.2.2.size; rw [World.size_alloc]; omega) ?_
          intro v6 w6 hown6 hgr6
          obtain ⟨A6, C6, rfl⟩ := ownsRow_succ hown6
          obtain ⟨b6, hL7, hK7, hT7⟩ := HL5.out.push HMM.out hown6 hgr6
          have c6 := b6.cell
          have f6 := b6.frozen
          have HL7 := Lib.hid hL7
          have HK7 := Lib.hid hK7
          have HT7 := Lib.hid hT7
          clear hL7 hK7 hT7 hown6 hgr6 b6
          refine hK _ _ ?_
          clear hK K
          refine wpAnyIn_ready (rs := [5]) (by kernel_rfl) (by simp) ?_
          refine AllReadyIn.cons rfl (fun K hK => ?_) AllReadyIn.nil
          go_simp
          refine hK _ _ ?_
          clear hK K
          refine wpAnyIn_done (by kernel_rfl) ?_ _
          gi_wp2
          exact body_end7 HKB.out HTB.out HB5.out HK7.out HT7.out HL7.out HLN.out HPN.out HNB.out
      | false =>
        rw [hbd] at hall hcb HLI
        rw [Bool.false_and] at hall
        have HNB : Hid (true = !((pre ++ [x]).all tokP)) := by show _ = _; rw [hall]; rfl
        clear hall hbd
        gi_upto_region 2 with fail
        refine ⟨trivial, ?_⟩
        gi_upto_region 1 with fail
        obtain ⟨W4, hW4⟩ : ∃ W4, W.setCell ⟨w.heap.size + 1 + 1 + 1, 0, none⟩ (.bool true) = W4 := ⟨_, rfl⟩
        have hL4 := HLI.out.bad true
        have HKB : Hid (KeepsOthers W W4) := by rw [← hW4]; exact KeepsOthers.setCell _ _ _
        rw [hW4] at hL4 ⊢
        have HTB : Hid (KpT W W4) := hL4.2
        have HL4 := Lib.hid hL4.1
        have c4 := hL4.1.2.2.1.cell
        clear hL4 hW4 hcl hcb hfb
        have hmo : Try.prog.follows .mixedOrders = true := by kernel_rfl
        refine wpIn_region_any hmo ?_
        change wpAnyIn _ _ _ _ _ _ _ _ _ (World.drew _)
        refine wpAnyIn_ready (rs := [0, 1]) (by kernel_rfl) (by simp) ?_
        refine AllReadyIn.cons rfl (fun K hK => ?_) ?_
        · skip
          go_simp
          refine hK _ _ ?_
          clear hK K
          refine wpAnyIn_ready (rs := [1]) (by kernel_rfl) (by simp) ?_
          refine AllReadyIn.cons rfl (fun K hK => ?_) AllReadyIn.nil
          go_simp
          refine hK _ _ ?_
          clear hK K
          refine wpAnyIn_ready (rs := [2]) (by kernel_rfl) (by simp) ?_
          refine AllReadyIn.cons rfl (fun K hK => ?_) AllReadyIn.nil
          go_simp
          refine ⟨trivial, ?_⟩
          gi_at_call 53
          refine (CallsIn.inRound lp (callsIn_wide.2 (lower7 x.1 y W4.drew HX.out HY.out))).mono ?_
          rintro e w5 ⟨rfl, hb5⟩
          have HL5 := Lib.hid (HL4.out.below (below_of_drew7 hb5))
          have hb5' := below_of_drew7 hb5
          have c5 := HL5.out.2.2.1.cell
          have c5a := (HL5.out.2.2.1.alloc (.cells #[.string y] 9)).cell
          have hown5 := HL5.out.2.2.2.2.1
          rw [HMM.out] at hown5
          have HOWN5 := Lib.hid hown5
          clear hown5
          have HB5 := Lib.hid hb5'
          clear hb5 hb5'
          refine hK _ _ ?_
          clear hK K
          refine wpAnyIn_ready (rs := [3]) (by kernel_rfl) (by simp) ?_
          refine AllReadyIn.cons rfl (fun K hK => ?_) AllReadyIn.nil
          go_simp
          refine hK _ _ ?_
          clear hK K
          refine wpAnyIn_ready (rs := [4]) (by kernel_rfl) (by simp) ?_
          refine AllReadyIn.cons rfl (fun K hK => ?_) AllReadyIn.nil
          rw [if_pos (by rfl)]
          refine opIn_append_rdg encS_one (.tmp 19) (.tmp 22) TS rfl w.heap.size TT i0 (.string ByteArray.empty) 16 Try.underlying55 HI0.out HZ0.out HZ1.out HZ2.out (by decide) rfl _ m _ rfl (HOWN5.out.alloc (.cells #[.string y] TT)) ⟨w5.heap.size, 0, none⟩ 1 1 [y] rfl (RdG.newS (enc := encS) w5 TT [y]) rfl (by decide) (by have := HLEN.out; have := HMM.out; omega) (by have := HL5.out.2.2.2.2.2.size; rw [World.size_alloc]; omega) ?_
          intro v6 w6 hown6 hgr6
          obtain ⟨A6, C6, rfl⟩ := ownsRow_succ hown6
          obtain ⟨b6, hL7, hK7, hT7⟩ := HL5.out.push HMM.out hown6 hgr6
          have c6 := b6.cell
          have f6 := b6.frozen
          have HL7 := Lib.hid hL7
          have HK7 := Lib.hid hK7
          have HT7 := Lib.hid hT7
          clear hL7 hK7 hT7 hown6 hgr6 b6
          refine hK _ _ ?_
          clear hK K
          refine wpAnyIn_ready (rs := [5]) (by kernel_rfl) (by simp) ?_
          refine AllReadyIn.cons rfl (fun K hK => ?_) AllReadyIn.nil
          go_simp
          refine hK _ _ ?_
          clear hK K
          refine wpAnyIn_done (by kernel_rfl) ?_ _
          gi_wp2
          exact body_end7 HKB.out HTB.out HB5.out HK7.out HT7.out HL7.out HLN.out HPN.out HNB.out
        refine AllReadyIn.cons rfl (fun K hK => ?_) AllReadyIn.nil
        go_simp
        refine hK _ _ ?_
        clear hK K
        refine wpAnyIn_ready (rs := [0, 2]) (by kernel_rfl) (by simp) ?_
        refine AllReadyIn.cons rfl (fun K hK => ?_) ?_
        · skip
          go_simp
          refine hK _ _ ?_
          clear hK K
          refine wpAnyIn_ready (rs := [2]) (by kernel_rfl) (by simp) ?_
          refine AllReadyIn.cons rfl (fun K hK => ?_) AllReadyIn.nil
          go_simp
          refine ⟨trivial, ?_⟩
          gi_at_call 53
          refine (CallsIn.inRound lp (callsIn_wide.2 (lower7 x.1 y W4.drew HX.out HY.out))).mono ?_
          rintro e w5 ⟨rfl, hb5⟩
          have HL5 := Lib.hid (HL4.out.below (below_of_drew7 hb5))
          have hb5' := below_of_drew7 hb5
          have c5 := HL5.out.2.2.1.cell
          have c5a := (HL5.out.2.2.1.alloc (.cells #[.string y] 9)).cell
          have hown5 := HL5.out.2.2.2.2.1
          rw [HMM.out] at hown5
          have HOWN5 := Lib.hid hown5
          clear hown5
          have HB5 := Lib.hid hb5'
          clear hb5 hb5'
          refine hK _ _ ?_
          clear hK K
          refine wpAnyIn_ready (rs := [3]) (by kernel_rfl) (by simp) ?_
          refine AllReadyIn.cons rfl (fun K hK => ?_) AllReadyIn.nil
          go_simp
          refine hK _ _ ?_
          clear hK K
          refine wpAnyIn_ready (rs := [4]) (by kernel_rfl) (by simp) ?_
          refine AllReadyIn.cons rfl (fun K hK => ?_) AllReadyIn.nil
          rw [if_pos (by rfl)]
          refine opIn_append_rdg encS_one (.tmp 19) (.tmp 22) TS rfl w.heap.size TT i0 (.string ByteArray.empty) 16 Try.underlying55 HI0.out HZ0.out HZ1.out HZ2.out (by decide) rfl _ m _ rfl (HOWN5.out.alloc (.cells #[.string y] TT)) ⟨w5.heap.size, 0, none⟩ 1 1 [y] rfl (RdG.newS (enc := encS) w5 TT [y]) rfl (by decide) (by have := HLEN.out; have := HMM.out; omega) (by have := HL5.out.2.2.2.2.2.size; rw [World.size_alloc]; omega) ?_
          intro v6 w6 hown6 hgr6
          obtain ⟨A6, C6, rfl⟩ := ownsRow_succ hown6
          obtain ⟨b6, hL7, hK7, hT7⟩ := HL5.out.push HMM.out hown6 hgr6
          have c6 := b6.cell
          have f6 := b6.frozen
          have HL7 := Lib.hid hL7
          have HK7 := Lib.hid hK7
          have HT7 := Lib.hid hT7
          clear hL7 hK7 hT7 hown6 hgr6 b6
          refine hK _ _ ?_
          clear hK K
          refine wpAnyIn_ready (rs := [5]) (by kernel_rfl) (by simp) ?_
          refine AllReadyIn.cons rfl (fun K hK => ?_) AllReadyIn.nil
          go_simp
          refine hK _ _ ?_
          clear hK K
          refine wpAnyIn_done (by kernel_rfl) ?_ _
          gi_wp2
          exact body_end7 HKB.out HTB.out HB5.out HK7.out HT7.out HL7.out HLN.out HPN.out HNB.out
        refine AllReadyIn.cons rfl (fun K hK => ?_) AllReadyIn.nil
        go_simp
        refine ⟨trivial, ?_⟩
        gi_at_call 53
        refine (CallsIn.inRound lp (callsIn_wide.2 (lower7 x.1 y W4.drew HX.out HY.out))).mono ?_
        rintro e w5 ⟨rfl, hb5⟩
        have HL5 := Lib.hid (HL4.out.below (below_of_drew7 hb5))
        have hb5' := below_of_drew7 hb5
        have c5 := HL5.out.2.2.1.cell
        have c5a := (HL5.out.2.2.1.alloc (.cells #[.string y] 9)).cell
        have hown5 := HL5.out.2.2.2.2.1
        rw [HMM.out] at hown5
        have HOWN5 := Lib.hid hown5
        clear hown5
        have HB5 := Lib.hid hb5'
        clear hb5 hb5'
        refine hK _ _ ?_
        clear hK K
        refine wpAnyIn_ready (rs := [0, 3]) (by kernel_rfl) (by simp) ?_
        refine AllReadyIn.cons rfl (fun K hK => ?_) ?_
        · skip
          go_simp
          refine hK _ _ ?_
          clear hK K
          refine wpAnyIn_ready (rs := [3]) (by kernel_rfl) (by simp) ?_
          refine AllReadyIn.cons rfl (fun K hK => ?_) AllReadyIn.nil
          go_simp
          refine hK _ _ ?_
          clear hK K
          refine wpAnyIn_ready (rs := [4]) (by kernel_rfl) (by simp) ?_
          refine AllReadyIn.cons rfl (fun K hK => ?_) AllReadyIn.nil
          rw [if_pos (by rfl)]
          refine opIn_append_rdg encS_one (.tmp 19) (.tmp 22) TS rfl w.heap.size TT i0 (.string ByteArray.empty) 16 Try.underlying55 HI0.out HZ0.out HZ1.out HZ2.out (by decide) rfl _ m _ rfl (HOWN5.out.alloc (.cells #[.string y] TT)) ⟨w5.heap.size, 0, none⟩ 1 1 [y] rfl (RdG.newS (enc := encS) w5 TT [y]) rfl (by decide) (by have := HLEN.out; have := HMM.out; omega) (by have := HL5.out.2.2.2.2.2.size; rw [World.size_alloc]; omega) ?_
          intro v6 w6 hown6 hgr6
          obtain ⟨A6, C6, rfl⟩ := ownsRow_succ hown6
          obtain ⟨b6, hL7, hK7, hT7⟩ := HL5.out.push HMM.out hown6 hgr6
          have c6 := b6.cell
          have f6 := b6.frozen
          have HL7 := Lib.hid hL7
          have HK7 := Lib.hid hK7
          have HT7 := Lib.hid hT7
          clear hL7 hK7 hT7 hown6 hgr6 b6
          refine hK _ _ ?_
          clear hK K
          refine wpAnyIn_ready (rs := [5]) (by kernel_rfl) (by simp) ?_
          refine AllReadyIn.cons rfl (fun K hK => ?_) AllReadyIn.nil
          go_simp
          refine hK _ _ ?_
          clear hK K
          refine wpAnyIn_done (by kernel_rfl) ?_ _
          gi_wp2
          exact body_end7 HKB.out HTB.out HB5.out HK7.out HT7.out HL7.out HLN.out HPN.out HNB.out
        refine AllReadyIn.cons rfl (fun K hK => ?_) AllReadyIn.nil
        go_simp
        refine hK _ _ ?_
        clear hK K
        refine wpAnyIn_ready (rs := [0]) (by kernel_rfl) (by simp) ?_
        refine AllReadyIn.cons rfl (fun K hK => ?_) AllReadyIn.nil
        go_simp
        refine hK _ _ ?_
        clear hK K
        refine wpAnyIn_ready (rs := [4]) (by kernel_rfl) (by simp) ?_
        refine AllReadyIn.cons rfl (fun K hK => ?_) AllReadyIn.nil
        rw [if_pos (by rfl)]
        refine opIn_append_rdg encS_one (.tmp 19) (.tmp 22) TS rfl w.heap.size TT i0 (.string ByteArray.empty) 16 Try.underlying55 HI0.out HZ0.out HZ1.out HZ2.out (by decide) rfl _ m _ rfl (HOWN5.out.alloc (.cells #[.string y] TT)) ⟨w5.heap.size, 0, none⟩ 1 1 [y] rfl (RdG.newS (enc := encS) w5 TT [y]) rfl (by decide) (by have := HLEN.out; have := HMM.out; omega) (by have := HL5.out.2.2.2.2.2.size; rw [World.size_alloc]; omega) ?_
        intro v6 w6 hown6 hgr6
        obtain ⟨A6, C6, rfl⟩ := ownsRow_succ hown6
        obtain ⟨b6, hL7, hK7, hT7⟩ := HL5.out.push HMM.out hown6 hgr6
        have c6 := b6.cell
        have f6 := b6.frozen
        have HL7 := Lib.hid hL7
        have HK7 := Lib.hid hK7
        have HT7 := Lib.hid hT7
        clear hL7 hK7 hT7 hown6 hgr6 b6
        refine hK _ _ ?_
        clear hK K
        refine wpAnyIn_ready (rs := [5]) (by kernel_rfl) (by simp) ?_
        refine AllReadyIn.cons rfl (fun K hK => ?_) AllReadyIn.nil
        go_simp
        refine hK _ _ ?_
        clear hK K
        refine wpAnyIn_done (by kernel_rfl) ?_ _
        gi_wp2
        exact body_end7 HKB.out HTB.out HB5.out HK7.out HT7.out HL7.out HLN.out HPN.out HNB.out

  case done =>
    rintro D ys W hD rfl ⟨h16, v, hli⟩ hK
    have hD2 : w.heap.size + 1 + 1 + 1 < D := by omega
    have h1 := hli.1
    have h2 := hli.2.1
    have c0 := hli.1.cell
    have f0 := hli.1.frozen
    have e0 := hli.2.1.cell
    have k0 := hli.2.1.frozen
    have cl := hli.2.2.1.cell
    have cb := hli.2.2.2.1.cell
    cases hall : ys.all tokP with
    | false =>
      rw [hall] at cb
      have hE := listE_bad HXS.out h16 hall
      obtain rfl : (8 : Int) = q := by rw [← HQ.out, hE]; rfl
      obtain rfl : [] = l := by rw [← HL.out, listS_nil s (by rw [hE]; decide)]
      obtain rfl : 0 = n := HN.out
      have hK2 : ((W.setCell ⟨w.heap.size, 0, none⟩ (.slice none 0 0)).setCell ⟨w.heap.size + 1, 0, none⟩ (.int .i64 8)).heap[D]? = some (.deferred (some [])) := ((heap_setCell_other _ _ _ _ (by simp; omega)).trans (heap_setCell_other _ _ _ _ (by simp; omega))).trans hK
      have b1 : Boxed ((W.setCell ⟨w.heap.size, 0, none⟩ (.slice none 0 0)).setCell ⟨w.heap.size + 1, 0, none⟩ (.int .i64 8)) w.heap.size TS (.slice none 0 0) := boxed_other (h1.set _) (by omega)
      have b2 : Boxed ((W.setCell ⟨w.heap.size, 0, none⟩ (.slice none 0 0)).setCell ⟨w.heap.size + 1, 0, none⟩ (.int .i64 8)) (w.heap.size + 1) TE (.int .i64 8) := (boxed_other h2 (by omega)).set _
      have hbb : Below w.heap.size w ((W.setCell ⟨w.heap.size, 0, none⟩ (.slice none 0 0)).setCell ⟨w.heap.size + 1, 0, none⟩ (.int .i64 8)) := (hli.2.2.2.2.2.setCell (by simp) _).setCell (by simp) _
      have HE := Lib.hid (And.intro hK2 (And.intro b1 (And.intro b2 hbb)))
      clear h1 h2 hli hK hK2 b1 b2 hbb hall hE
      go_wp2
      refine ⟨by simp, .inl ⟨_, _, rfl, run_takeDeferred HE.out.1, ?_⟩⟩
      exact ⟨_, ends7 _ _ _ _ (box_put HE.out.2.1 HE.out.1) (box_put HE.out.2.2.1 HE.out.1) rfl rfl, HE.out.2.2.2.grown (grownBy_putObj' _ D _) HE.out.2.2.2.size (fun k e => by cases e; omega), none, 0, rfl, fun _ => rfl, RdG.nilS _ _ _⟩
    | true =>
      rw [hall] at cb
      obtain ⟨hE, hS⟩ := listE_good HXS.out h16 hall
      obtain rfl : (0 : Int) = q := by rw [← HQ.out, hE]; rfl
      obtain rfl : ys.map lowP = l := by rw [← HL.out, hS]
      obtain ⟨A0, C0, rfl, hA0, hr0, _⟩ := own_any hli.2.2.2.2.1
      have hn := HN.out
      have ho := hli.2.2.2.2.1
      rw [hn] at hli cl ho
      have hK2 : ((W.setCell ⟨w.heap.size, 0, none⟩ (.slice A0 n C0)).setCell ⟨w.heap.size + 1, 0, none⟩ (.int .i64 0)).heap[D]? = some (.deferred (some [])) := ((heap_setCell_other _ _ _ _ (by simp; omega)).trans (heap_setCell_other _ _ _ _ (by simp; omega))).trans hK
      have b1 : Boxed ((W.setCell ⟨w.heap.size, 0, none⟩ (.slice A0 n C0)).setCell ⟨w.heap.size + 1, 0, none⟩ (.int .i64 0)) w.heap.size TS (.slice A0 n C0) := boxed_other (h1.set _) (by omega)
      have b2 : Boxed ((W.setCell ⟨w.heap.size, 0, none⟩ (.slice A0 n C0)).setCell ⟨w.heap.size + 1, 0, none⟩ (.int .i64 0)) (w.heap.size + 1) TE (.int .i64 0) := (boxed_other h2 (by omega)).set _
      have hbb : Below w.heap.size w ((W.setCell ⟨w.heap.size, 0, none⟩ (.slice A0 n C0)).setCell ⟨w.heap.size + 1, 0, none⟩ (.int .i64 0)) := (hli.2.2.2.2.2.setCell (by simp) _).setCell (by simp) _
      have hown : ((W.setCell ⟨w.heap.size, 0, none⟩ (.slice A0 n C0)).setCell ⟨w.heap.size + 1, 0, none⟩ (.int .i64 0)).ownsRow w.heap.size TT 1 (.slice A0 n C0) n ((ys.map lowP).map encS) :=
        own_box (own_box ho h1 (by decide) _) (boxed_other h2 (by omega)) (by decide) _
      have HO := Lib.hid hown
      have HE := Lib.hid (And.intro hK2 (And.intro b1 (And.intro b2 hbb)))
      have HA0 := Lib.hid hA0
      clear hn ho h1 h2 hli hK hK2 b1 b2 hbb hall hE hS hown hr0 hA0
      go_wp2
      refine ⟨by simp, .inl ⟨_, _, rfl, run_takeDeferred HE.out.1, ?_⟩⟩
      refine ⟨_, ends7 _ _ _ _ (box_put HE.out.2.1 HE.out.1) (box_put HE.out.2.2.1 HE.out.1) rfl rfl, HE.out.2.2.2.grown (grownBy_putObj' _ D _) HE.out.2.2.2.size (fun k e => by cases e; omega), A0, C0, rfl, HA0.out, ?_⟩
      exact (RdG.of_own (ownsRow_putObj HO.out _ HE.out.1 rfl)).1
  case stop =>
    rintro D c pre W hD hpre ⟨⟨rfl, h16⟩, h1, h2, h3⟩ hK
    have hlen : 16 < xs.length := Nat.lt_of_lt_of_le h16 hpre.length_le
    have hE := listE_many HXS.out hlen
    obtain rfl : (4 : Int) = q := by rw [← HQ.out, hE]; rfl
    obtain rfl : [] = l := by rw [← HL.out, listS_nil s (by rw [hE]; decide)]
    obtain rfl : 0 = n := HN.out
    have HE := Lib.hid (And.intro hK (And.intro h1 (And.intro h2 h3)))
    clear h1 h2 h3 hK hE hlen
    refine wpIn_wide.2 ?_
    go_wp2
    refine ⟨by simp, .inl ⟨_, _, rfl, run_takeDeferred HE.out.1, ?_⟩⟩
    exact ⟨_, ends7 _ _ _ _ (box_put HE.out.2.1 HE.out.1) (box_put HE.out.2.2.1 HE.out.1) rfl rfl, HE.out.2.2.2.grown (grownBy_putObj' _ D _) HE.out.2.2.2.size (fun k e => by cases e; omega), none, 0, rfl, fun _ => rfl, RdG.nilS _ _ _⟩
end Hx
end Go.Proofs.Ytfdhogaknlabkaa
namespace Go.Proofs.Ytfdhogaknlabkaa
open Go.RowKit
namespace Hx
open As
theorem listE_lits (l : List UInt8) : listE l = 0 ∨ listE l = 4 ∨ listE l = 8 := by
  unfold listE
  split
  · exact .inr (.inl rfl)
  · split
    · exact .inl rfl
    · exact .inr (.inr rfl)
end Hx
end Go.Proofs.Ytfdhogaknlabkaa
namespace Go.Proofs.Ytfdhogaknlabkaa
open Go.RowKit
namespace Hx
set_option linter.unusedVariables false
/-- How a run of k cells reads as something, all that it leads to lying below a block. -/
structure Cod (α : Type) where
  k : Nat
  R : World → Nat → List Value → α → Prop
  len : ∀ {w : World} {B : Nat} {cs : List Value} {x : α}, R w B cs x → cs.length = k
  keep : ∀ {w w' : World} {B B' : Nat} {cs : List Value} {x : α}, R w B cs x → B ≤ B' → (∀ b o, b < B → w'.cell? ⟨b, o, none⟩ = w.cell? ⟨b, o, none⟩) → R w' B' cs x
/-- The slice at address A reads as the list l, all below block B. -/
def RdC {α : Type} (C : Cod α) (w : World) (B : Nat) (A : Option Addr) (l : List α) : Prop :=
  0 < l.length → ∃ b off, A = some ⟨b, off, none⟩ ∧ b < B ∧ ∀ j (h : j < l.length), ∃ cs, C.R w B cs (l[j]'h) ∧ ∀ i (hi : i < cs.length), w.cell? ⟨b, off + j * C.k + i, none⟩ = some (cs[i]'hi)
section
variable {α : Type} {C : Cod α}
theorem RdC.keep {w w' : World} {B B' : Nat} {A : Option Addr} {l : List α} (h : RdC C w B A l) (hB : B ≤ B') (hk : ∀ b o, b < B → w'.cell? ⟨b, o, none⟩ = w.cell? ⟨b, o, none⟩) : RdC C w' B' A l := by
  intro hp
  obtain ⟨b, off, e, hb, hc⟩ := h hp
  refine ⟨b, off, e, by omega, fun j hj => ?_⟩
  obtain ⟨cs, h1, h2⟩ := hc j hj
  exact ⟨cs, C.keep h1 hB hk, fun i hi => (hk _ _ hb).trans (h2 i hi)⟩
theorem RdC.below {w w' : World} {B : Nat} {A : Option Addr} {l : List α} (h : RdC C w B A l) (hb : Below B w w') : RdC C w' B A l := h.keep (Nat.le_refl _) fun b o hlt => hb.cell (p := ⟨b, o, none⟩) hlt
theorem RdC.mono {w : World} {B B' : Nat} {A : Option Addr} {l : List α} (h : RdC C w B A l) (hB : B ≤ B') : RdC C w B' A l := h.keep hB fun _ _ _ => rfl
theorem RdC.on {w w' : World} {A : Option Addr} {l : List α} (h : RdC C w w.heap.size A l) (hb : Below w.heap.size w w') : RdC C w' w'.heap.size A l := (h.below hb).mono hb.size
theorem RdC.nil (w : World) (B : Nat) (A : Option Addr) : RdC C w B A [] := fun h => absurd h (by simp)
end
theorem Cod.below {α : Type} (C : Cod α) {w w' : World} {B : Nat} {cs : List Value} {x : α} (h : C.R w B cs x) (hb : Below B w w') : C.R w' B cs x := C.keep h (Nat.le_refl _) fun b o hlt => hb.cell (p := ⟨b, o, none⟩) hlt
theorem Cod.on {α : Type} (C : Cod α) {w w' : World} {cs : List Value} {x : α} (h : C.R w w.heap.size cs x) (hb : Below w.heap.size w w') : C.R w' w'.heap.size cs x := C.keep h hb.size fun b o hlt => hb.cell (p := ⟨b, o, none⟩) hlt
/-- A text; a slice. -/
def StC : Cod (List UInt8) where
  k := 1
  R _ _ cs l := ∃ s : ByteArray, cs = [.string s] ∧ s.data.toList = l
  len := by rintro _ _ _ _ ⟨s, rfl, _⟩; rfl
  keep := fun h _ _ => h
def SlC {α : Type} (C : Cod α) : Cod (List α) where
  k := 1
  R w B cs l := ∃ A c, cs = [.slice A l.length c] ∧ l.length ≤ c ∧ c ≤ maxLen ∧ (A = none → c = 0) ∧ RdC C w B A l
  len := by rintro _ _ _ _ ⟨A, c, rfl, _⟩; rfl
  keep := fun ⟨A, c, h1, h2, h3, h4, h5⟩ hB hk => ⟨A, c, h1, h2, h3, h4, h5.keep hB hk⟩
/-- What came in of a type reads so. -/
def Opens {H : Type} (enc : TypeId × Value → H) (P : Program) {α : Type} (C : Cod α) (t : TypeId) : Prop :=
  ∀ (W : World) (sp : Nat → Bool) (held : Bool) (fuel : Nat) (cs : List Value) (x : DataW H × List MemPlace), DataW.trod enc P W 0 sp held fuel t cs = some x → ∃ v, C.R W W.heap.size cs v
section
variable {H : Type} {enc : TypeId × Value → H} {P : Program}
theorem Opens.text {t : TypeId} (ht : P.underlying t = some .string) : Opens enc P StC t := fun W sp held fuel cs x h => by
  obtain ⟨s, rfl, _⟩ := DataW.trod_string ht h
  exact ⟨_, s, rfl, rfl⟩
theorem Opens.slice {α : Type} {C : Cod α} {t e : TypeId} (ht : P.underlying t = some (.slice e)) (hk : P.cellsOf e = C.k) (hk0 : 0 < C.k) (he : Opens enc P C e) : Opens enc P (SlC C) t := fun W sp held fuel cs x h => by
  rcases Go.Deep.open_slice ht h with ⟨rfl, _⟩ | ⟨a, len, cap, m, n, D, Pl, rfl, _, hl, hm, hmm, _, hel⟩
  · exact ⟨[], none, 0, rfl, Nat.le_refl _, Nat.zero_le _, fun _ => rfl, RdC.nil _ _ _⟩
  · have hlm : len ≤ m := by rw [hmm]; split <;> omega
    have each : ∀ i, i < len → ∃ v : α, ∃ cs', C.R W W.heap.size cs' v ∧ ∀ j (hj : j < cs'.length), W.cell? ((a.add (i * C.k)).add j) = some (cs'[j]'hj) := fun i hi => by
      obtain ⟨cs', h1, h2⟩ := hel i (by omega)
      obtain ⟨v, hv⟩ := he _ _ _ _ _ _ h2
      obtain ⟨_, k2, k3⟩ := World.cells?_some h1
      rw [hk] at k2 k3
      exact ⟨v, cs', hv, fun j hj => by rw [k3 j (by omega)]; exact List.getElem?_eq_getElem hj⟩
    by_cases hl0 : len = 0
    · subst hl0
      exact ⟨[], some a, cap, rfl, Nat.zero_le _, hm, fun h => (by cases h), RdC.nil _ _ _⟩
    · classical
      obtain ⟨v0, _⟩ := each 0 (by omega)
      let f : Nat → α := fun i => if hi : i < len then Classical.choose (each i hi) else v0
      have hf : ∀ i (hi : i < len), ∃ cs', C.R W W.heap.size cs' (f i) ∧ ∀ j (hj : j < cs'.length), W.cell? ((a.add (i * C.k)).add j) = some (cs'[j]'hj) := fun i hi => by
        show ∃ cs', C.R W W.heap.size cs' (if hi : i < len then Classical.choose (each i hi) else v0) ∧ _
        rw [dif_pos hi]
        exact Classical.choose_spec (each i hi)
      have hlen : ((List.range len).map f).length = len := by simp
      refine ⟨(List.range len).map f, some a, cap, by rw [hlen], by omega, hm, fun h => (by cases h), fun _ => ?_⟩
      obtain ⟨b, off, spot⟩ := a
      have hspot : spot = none := by
        obtain ⟨cs', h1, h2⟩ := hf 0 (by omega)
        have hc := C.len h1
        have := World.cell?_spot (h2 0 (by omega))
        simpa [Addr.add] using this
      subst hspot
      refine ⟨b, off, rfl, ?_, fun j hj => ?_⟩
      · obtain ⟨cs', h1, h2⟩ := hf 0 (by omega)
        have hc := C.len h1
        have := h2 0 (by omega)
        rw [addr_plain, addr_plain] at this
        exact World.block_lt_of_cell? (a := ⟨b, _, none⟩) W this
      · rw [hlen] at hj
        obtain ⟨cs', h1, h2⟩ := hf j hj
        refine ⟨cs', by simpa using h1, fun i hi => ?_⟩
        have := h2 i hi
        rw [addr_plain, addr_plain] at this
        exact this
end
theorem flat_at {β : Type} (f : β → List Value) (k : Nat) (hk : ∀ b, (f b).length = k) : ∀ (l : List β) (j i : Nat) (hj : j < l.length) (hi : i < k), (l.flatMap f)[j * k + i]? = some ((f (l[j]'hj))[i]'(by rw [hk]; exact hi)) := by
  intro l
  induction l with
  | nil => intro j i hj; simp at hj
  | cons b l ih =>
    intro j i hj hi
    rw [List.flatMap_cons]
    cases j with
    | zero =>
      rw [Nat.zero_mul, Nat.zero_add, List.getElem?_append_left (by rw [hk]; exact hi)]
      exact List.getElem?_eq_getElem _
    | succ j =>
      rw [List.getElem?_append_right (by rw [hk, Nat.succ_mul]; omega), hk, show (j + 1) * k + i - k = j * k + i by rw [Nat.succ_mul]; omega]
      exact ih j i (by simpa using hj) hi
theorem flat_len {β : Type} (f : β → List Value) (k : Nat) (hk : ∀ b, (f b).length = k) (l : List β) : (l.flatMap f).length = l.length * k := by
  induction l with
  | nil => simp
  | cons b l ih => rw [List.flatMap_cons, List.length_append, hk, ih, List.length_cons, Nat.succ_mul]; omega
/-- A row of the call's own, of elements of k cells, reads as a list. -/
theorem RdC.of_own {α β : Type} {C : Cod α} {w : World} {base : Nat} {e : TypeId} {A : Option Addr} {n c : Nat} (f : β → List Value) (val : β → α) (hk : ∀ b, (f b).length = C.k) (hk0 : 0 < C.k) (l : List β) (hR : ∀ b ∈ l, C.R w w.heap.size (f b) (val b))
    (h : w.ownsRow base e C.k (.slice A n c) n (l.flatMap f)) : RdC C w w.heap.size A (l.map val) ∧ l.length = n ∧ n ≤ c ∧ c ≤ maxLen ∧ (A = none → c = 0) := by
  have hl : l.length = n := by
    have := h.1
    rw [flat_len f C.k hk] at this
    exact Nat.eq_of_mul_eq_mul_right hk0 this
  rcases h.2 with ⟨e1, h0⟩ | ⟨g, cap, cur, hv, hb, hg, hnc, hcm, _, _⟩
  · injection e1 with e1 e2 e3
    subst e1 e3
    have : l = [] := List.eq_nil_of_length_eq_zero (by omega)
    subst this
    exact ⟨RdC.nil _ _ _, hl, by omega, Nat.zero_le _, fun _ => rfl⟩
  · injection hv with e1 e2 e3
    subst e1 e3
    have hlt : g < w.heap.size := (Array.getElem?_eq_some_iff.1 hg).1
    refine ⟨fun hp => ⟨g, 0, rfl, hlt, fun j hj => ?_⟩, hl, hnc, hcm, fun h => by cases h⟩
    have hj' : j < l.length := by simpa using hj
    refine ⟨f (l[j]'hj'), by simpa using hR _ (List.getElem_mem hj'), fun i hi => ?_⟩
    have hi' : i < C.k := by rw [hk] at hi; exact hi
    have := h.cells (g := g) rfl (j * C.k + i) _ (flat_at f C.k hk l j i hj' hi')
    rw [addr_plain] at this
    rw [Nat.zero_add, ← this, Nat.zero_add]
end Hx
end Go.Proofs.Ytfdhogaknlabkaa
