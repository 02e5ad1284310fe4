/-
  Plain facts for ascii.List: what its variables hold while it goes through the parts.
-/
import Derived.Test.YtncklfmpnbdmcaaAscI
import Derived.RangeFuncBox
import Derived.RangeFuncOne
import Derived.Maps.AppendAt
namespace Go.Proofs.Ytncklfmpnbdmcaa
open Go.RowKit Go.Shelf
namespace Hx
open As
set_option linter.unusedVariables false
abbrev TS : TypeId := 22
abbrev TE : TypeId := 23
abbrev TB : TypeId := 4
abbrev TT : TypeId := 9
/-- List's variables. -/
def LI (w : World) (v : Value) (bd : Bool) (ls : List ByteArray) (W : World) : Prop :=
  Boxed W w.heap.size TS (.slice none 0 0) ∧ Boxed W (w.heap.size + 1) TE (.int .i64 0) ∧ Boxed W (w.heap.size + 1 + 1) TS v ∧ Boxed W (w.heap.size + 1 + 1 + 1) TB (.bool bd) ∧
  W.ownsRow w.heap.size TT 1 v ls.length (ls.map encS) ∧ Below w.heap.size w W
/-- What is left when there are too many. -/
def LX (w : World) (W : World) : Prop :=
  Boxed W w.heap.size TS (.slice none 0 0) ∧ Boxed W (w.heap.size + 1) TE (.int .i64 4) ∧ Below w.heap.size w W
theorem boxed_below {W V : World} {B : Nat} {t : TypeId} {v : Value} (h : Boxed W B t v) (hb : Below W.heap.size W V) : Boxed V B t v := (hb.block B h.lt).trans h
theorem boxed_other {W : World} {B C : Nat} {t : TypeId} {v x : Value} (h : Boxed W B t v) (hn : B ≠ C) : Boxed (W.setCell ⟨C, 0, none⟩ x) B t v := (heap_setCell_other _ _ _ _ hn).trans h
theorem keeps_below7 {W V : World} (h : Below W.heap.size W V) : KeepsOthers W V := ⟨h.size, fun k o hk _ => (h.block k (heap_lt7 hk)).trans hk⟩
theorem KpT.refl (W : World) : KpT W W := ⟨Nat.le_refl _, fun _ _ _ h => h⟩
theorem KpT.trans {A B C : World} (h : KpT A B) (k : KpT B C) : KpT A C := ⟨Nat.le_trans h.1 k.1, fun i cs fz hi => k.2 i cs fz (h.2 i cs fz hi)⟩
theorem KpT.below {W V : World} (h : Below W.heap.size W V) : KpT W V := ⟨h.size, fun k cs fz hk => (h.block k (heap_lt7 hk)).trans hk⟩
theorem KpT.grown {W V : World} {row : Option Nat} (h : W.grownBy V row) (hr : ∀ r, row = some r → ∃ cs t fz, W.heap[r]? = some (.cells cs t fz) ∧ t ≠ 41) : KpT W V :=
  ⟨h.size, fun k cs fz hk => by
    refine (h.block k (heap_lt7 hk) ?_).trans hk
    intro e
    obtain ⟨cs', t', fz', h1, h2⟩ := hr k e.symm
    rw [hk] at h1
    cases h1
    exact h2 rfl⟩
theorem KpT.box {W : World} {B : Nat} {t : TypeId} {v : Value} (h : Boxed W B t v) (ht : t ≠ 41) (x : Value) : KpT W (W.setCell ⟨B, 0, none⟩ x) :=
  KpT.grown (grownBy_setCell' W B x) fun r e => by cases e; exact ⟨_, _, _, h, ht⟩
theorem KpT.put (W : World) (l : Nat) (o o' : Obj) (h : W.heap[l]? = some o) (hc : o.isCells = false) : KpT W (W.putObj l o') :=
  ⟨(grownBy_putObj' W l o').size, fun k cs fz hk => by
    refine ((grownBy_putObj' W l o').block k (heap_lt7 hk) ?_).trans hk
    intro e
    cases e
    rw [hk] at h
    cases h
    cases hc⟩
theorem own_belowS {W V : World} {base : Nat} {e : TypeId} {v : Value} {n : Nat} {xs : List Value} (h : W.ownsRow base e 1 v n xs) (hb : Below W.heap.size W V) : V.ownsRow base e 1 v n xs := by
  refine h.kept (show W.grownBy V none from ⟨hb.os, hb.tape, hb.output, hb.size, fun k hk _ => hb.block k hk⟩) ?_
  rcases h.2 with ⟨rfl, _⟩ | ⟨g, cap, cur, rfl, _⟩
  · exact .inl rfl
  · exact .inr (by simp [Value.ownBlock])
theorem LI.below {w W V : World} {v : Value} {bd : Bool} {ls : List ByteArray} (h : LI w v bd ls W) (hb : Below W.heap.size W V) : LI w v bd ls V := by
  obtain ⟨h1, h2, h3, h4, h5, h6⟩ := h
  exact ⟨boxed_below h1 hb, boxed_below h2 hb, boxed_below h3 hb, boxed_below h4 hb, own_belowS h5 hb, stp h6 hb⟩
theorem LI.bad {w W : World} {v : Value} {bd : Bool} {ls : List ByteArray} (h : LI w v bd ls W) (nb : Bool) : LI w v nb ls (W.setCell ⟨w.heap.size + 1 + 1 + 1, 0, none⟩ (.bool nb)) ∧ KpT W (W.setCell ⟨w.heap.size + 1 + 1 + 1, 0, none⟩ (.bool nb)) := by
  obtain ⟨h1, h2, h3, h4, h5, h6⟩ := h
  refine ⟨⟨boxed_other h1 (by omega), boxed_other h2 (by omega), boxed_other h3 (by omega), h4.set _, ?_, h6.setCell (by simp; omega) _⟩, KpT.box h4 (by decide) _⟩
  exact h5.kept (grownBy_setCell' W _ _) (.inr (h4.not_row (by decide) h5).symm)
theorem LI.push {w W w1 : World} {v v' : Value} {bd : Bool} {ls : List ByteArray} {y : ByteArray} {tmp : Obj} {k : Nat} (h : LI w v bd ls W) (hk : ls.length = k) (hown : w1.ownsRow w.heap.size TT 1 v' (k + 1) (ls.map encS ++ [y].map encS)) (hg : (W.alloc tmp).grownBy w1 v.ownBlock) :
    Boxed w1 (w.heap.size + 1 + 1) TS v ∧ LI w v' bd (ls ++ [y]) (w1.setCell ⟨w.heap.size + 1 + 1, 0, none⟩ v') ∧ KeepsOthers W (w1.setCell ⟨w.heap.size + 1 + 1, 0, none⟩ v') ∧ KpT W (w1.setCell ⟨w.heap.size + 1 + 1, 0, none⟩ v') := by
  subst hk
  obtain ⟨h1, h2, h3, h4, h5, h6⟩ := h
  obtain ⟨b1, b2, b3, b4, b5⟩ := h3.appended (by decide) h5 h6.size (by omega) hown hg
  have hrow : ∀ r, v.ownBlock = some r → ∃ cs fz, W.heap[r]? = some (.cells cs TT fz) := by
    intro r e
    rcases h5.2 with ⟨rfl, _⟩ | ⟨g, cap, cur, rfl, _, hgb, _⟩
    · simp [Value.ownBlock] at e
    · obtain rfl : g = r := by simpa [Value.ownBlock] using e
      exact ⟨_, _, hgb⟩
  have far : ∀ {B : Nat} {t : TypeId} {u : Value}, Boxed W B t u → t ≠ TT → B ≠ w.heap.size + 1 + 1 → Boxed (w1.setCell ⟨w.heap.size + 1 + 1, 0, none⟩ v') B t u := by
    intro B t u hB ht hn
    refine boxed_other ((hB.alloc tmp).kept hg ?_) hn
    exact hB.not_row ht h5
  refine ⟨b1, ⟨far h1 (by decide) (by omega), far h2 (by decide) (by omega), b2, far h4 (by decide) (by omega), ?_, h6.trans b5⟩, b4, ?_⟩
  · rw [List.length_append, List.map_append]
    exact b3
  · refine KpT.trans (KpT.trans (KpT.below (stpA (Below.refl _ _) tmp)) (KpT.grown hg ?_)) (KpT.box b1 (by decide) v')
    intro r e
    obtain ⟨cs, fz, hr⟩ := hrow r e
    exact ⟨cs, TT, fz, (Below.heap_alloc W tmp r (heap_lt7 hr)).trans hr, by decide⟩
theorem LI.many {w W : World} {v : Value} {bd : Bool} {ls : List ByteArray} (h : LI w v bd ls W) : LX w ((W.setCell ⟨w.heap.size, 0, none⟩ (.slice none 0 0)).setCell ⟨w.heap.size + 1, 0, none⟩ (.int .i64 4)) ∧ KeepsOthers W ((W.setCell ⟨w.heap.size, 0, none⟩ (.slice none 0 0)).setCell ⟨w.heap.size + 1, 0, none⟩ (.int .i64 4)) := by
  obtain ⟨h1, h2, h3, h4, h5, h6⟩ := h
  exact ⟨⟨boxed_other (h1.set _) (by omega), (boxed_other h2 (by omega)).set _, (h6.setCell (by simp) _).setCell (by simp) _⟩, (KeepsOthers.setCell _ _ _).trans (KeepsOthers.setCell _ _ _)⟩
theorem LI.own {w : World} {β : Type} (B : Nat) (hB : w.heap.size + 1 + 1 + 1 < B) (f : β → List ByteArray) (g : β → Bool) : OwnFrom B (fun s W => ∃ v, LI w v (g s) (f s) W) := by
  rintro s X Y row ⟨v, h1, h2, h3, h4, h5, h6⟩ hg hrow
  have ne : ∀ C, C ≤ w.heap.size + 1 + 1 + 1 → some C ≠ row := fun C hC e => by have := (hrow C e.symm).1; omega
  refine ⟨v, h1.kept hg (ne _ (by omega)), h2.kept hg (ne _ (by omega)), h3.kept hg (ne _ (by omega)), h4.kept hg (ne _ (by omega)), h5.kept hg ?_, h6.grown hg h6.size fun r e => by have := (hrow r e).1; omega⟩
  rcases h5.2 with ⟨rfl, _⟩ | ⟨gg, cap, cur, rfl, _, hgb, _⟩
  · exact .inl rfl
  · refine .inr fun e' => ?_
    obtain ⟨_, o, ho, hc⟩ := hrow gg (by simpa [Value.ownBlock] using e'.symm)
    rw [hgb] at ho; cases ho; cases hc
theorem LX.own {w : World} {β : Type} (B : Nat) (hB : w.heap.size + 1 + 1 + 1 < B) (p : β → Prop) : OwnFrom B (fun s W => p s ∧ LX w W) := by
  rintro s X Y row ⟨hp, h1, h2, h6⟩ hg hrow
  have ne : ∀ C, C ≤ w.heap.size + 1 + 1 + 1 → some C ≠ row := fun C hC e => by have := (hrow C e.symm).1; omega
  exact ⟨hp, h1.kept hg (ne _ (by omega)), h2.kept hg (ne _ (by omega)), h6.grown hg h6.size fun r e => by have := (hrow r e).1; omega⟩
theorem opIn_append_rdg {α : Type} {enc : α → Value} (h1c : ∀ x, (enc x).oneCell' = true) {F : Fence} {nF : Nat} {P : Program} {w : World} {o : Oper} {a : Act} {K : Act → World → Prop} {Q : Exit → Act → World → Prop} (s x : Operand) (t : TypeId)
    (ho : o.op = .call { callee := .builtin .append, args := #[s, x], argTypes := #[t, t] })
    (base : Nat) (e : TypeId) (i : TypeInfo) (z : Value) (bytes : Nat) (ht : P.underlying t = some (.slice e)) (hi : P.info? e = some i) (hz : i.zero = some z) (hsize : i.size = 1) (hby : i.bytes = bytes) (hb8 : bytes ≤ 16) (hzs : z.cells.size = 1)
    (v : Value) (n : Nat) (xs : List Value) (hs : a.eval s = v) (hown : w.ownsRow base e 1 v n xs)
    (ad : Addr) (m c : Nat) (l : List α) (hx : a.eval x = .slice (some ad) m c) (hr : RdG enc w w.heap.size (some ad) l) (hl : l.length = m) (hm0 : 0 < m) (hb : n + m ≤ 1000000000000) (hbase : base ≤ w.heap.size)
    (h : ∀ v' w', w'.ownsRow base e 1 v' (n + m) (xs ++ l.map enc) → w.grownBy w' v.ownBlock → K (a.put o.dst v') w') : o.wpIn F nF P a w K Q := by
  obtain ⟨v', w', hr', h2, h3, _⟩ := run_append_own (P := P) w base t o.type e i z 1 bytes ht hi hz hsize hby hzs (by decide) v n xs hown ad m c (l.map enc) (by rw [List.length_map]; omega) (by
    intro j u hu
    have hj : j < l.length := by
      have := (List.getElem?_eq_some_iff.1 hu).1
      simpa using this
    obtain ⟨b, off, he, _, hc⟩ := hr (by omega)
    cases he
    rw [addr_plain, hc j hj]
    rw [← hu]
    simp [hj]) (fun v hv => by obtain ⟨y, _, rfl⟩ := List.mem_map.1 hv; exact h1c y) (by unfold maxLen; omega) (Nat.le_trans (Nat.mul_le_mul hb (by omega)) (by decide)) hbase
  unfold Oper.wpIn
  refine ⟨by simp [Oper.about, ho, resolve, Target.leads, Sem.run_pure], ?_⟩
  rw [Oper.semAt_plain F _ _ (by rw [ho]; intro c hc'; cases hc')]
  simp [execOp, ho, resolve, invoke, builtin, hs, hx, hr', Result.andThen]
  exact h v' w' h2 h3
end Hx
end Go.Proofs.Ytncklfmpnbdmcaa
