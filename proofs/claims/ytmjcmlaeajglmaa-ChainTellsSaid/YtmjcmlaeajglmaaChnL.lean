/-
  A range over a function that has no end by itself: the loop's own body ends it, within a number of rounds that the caller names. The values that come are numbered; the function keeps one variable of its own.
-/
import Derived.Test.YtmjcmlaeajglmaaChnB
import Derived.RangeFuncNested
import Derived.RangeFuncBound
import Derived.RangeFuncCalls
import Derived.RangeFuncLeaves
import Derived.Shelf.Abstract
import Derived.Shelf.RegionOpen
import Derived.WalkKit
import Derived.OwnWalkIn
import Derived.TacticsInMore
import Derived.LoopNIn
import Derived.LoopIn
import Derived.RegionIn
import Derived.Outline
import Derived.Deep.LoopGhost
namespace Go.Proofs.Ytmjcmlaeajglmaa
open Go.RowKit Go.Shelf
namespace Hx
open Go Wd Sh
set_option linter.unusedVariables false
variable {F : Fence} {n : Nat} {P : Program}

/-- How the body of round k may be left: it goes on, the function's own variable as it was; or it leaves. -/
def cntPost (T : Nat) (I : Nat → World → Prop) (Ix : Code → World → Prop) (k : Nat) (W : World) : Exit → Act → World → Prop
  | .normal, _, V => KeepsOthers W V ∧ V.heap[T]? = W.heap[T]? ∧ I (k + 1) V
  | .ret, _, V => KeepsOthers W V ∧ Ix .ret V
  | .exit id, _, V => KeepsOthers W V ∧ Ix (.exit id) V
  | .goto t, _, V => KeepsOthers W V ∧ Ix (.goto t) V
  | .panic _, _, _ => False
  | .outgrown, _, _ => False

/-- What the function owes, whatever loop it is called by: each round but the last hands back true. -/
def CntSeq (F : Fence) (m : Nat) (P : Program) (gf : Nat) (lb : Array Value) (encs : Nat → Array Value) (T M B : Nat) (tv : Nat → Value) (tt : TypeId) : Prop :=
  ∀ (l : Nat) (J : Nat → World → Prop) (Jx : World → Prop) (W : World), B ≤ W.heap.size →
    (∀ k X Y, J k X → Below X.heap.size X Y → J k Y) → (∀ k X v, J k X → J k (X.setCell ⟨T, 0, none⟩ v)) → (∀ k X, J k X → k ≤ M) →
    (∀ k X, J k X → X.heap[T]? = some (.cells #[tv k] tt (0, 0)) → YieldAt F (m - 1) P l (encs k) X fun e V =>
      (e = .returned (.bool true) ∧ J (k + 1) V ∧ V.heap[T]? = X.heap[T]?) ∨ (e = .returned (.bool false) ∧ Jx V)) →
    J 0 W → W.heap[T]? = some (.cells #[tv 0] tt (0, 0)) →
    CallsIn F m P gf (#[.func (.yield l) #[] #[]] ++ lb) W fun e V => (∃ v, e = .returned v) ∧ Jx V

theorem rf_count {g : Operand} {ps : Array Tmp} {assign body : Code} {Q : Exit → Act → World → Prop} {a : Act} {w : World} (hro : F.round = none) (h1 : 1 ≤ n)
    {gf : Nat} {lb : Array Value} (hg : a.eval g = .func (.func gf) #[] lb) (hFg : F.fn gf) (eg : ∀ args w, (callFunc gf args).run P w = .ok (.enter gf args) w)
    {encs : Nat → Array Value} {T M : Nat} {tv : Nat → Value} {tt : TypeId} (hps : ∀ k, (encs k).size = ps.size) (hT : T < w.heap.size) (hseq : CntSeq F (n - 1) P gf lb encs T M w.heap.size tv tt)
    (I : Nat → World → Prop) (Ix : Code → World → Prop)
    (hIa : ∀ k X Y, I k X → Below X.heap.size X Y → I k Y) (hIb : ∀ k X v, I k X → I k (X.setCell ⟨T, 0, none⟩ v)) (hIM : ∀ k X, I k X → k ≤ M)
    (hIc : ∀ k X (l : Nat) (o o' : Obj), I k X → w.heap.size ≤ l → X.heap[l]? = some o → o.isCells = false → I k (X.putObj l o'))
    (hIx : ∀ c X (l : Nat) (o o' : Obj), Ix c X → w.heap.size ≤ l → X.heap[l]? = some o → o.isCells = false → Ix c (X.putObj l o'))
    (h0 : I 0 w) (hT0 : w.heap[T]? = some (.cells #[tv 0] tt (0, 0))) (a₁ : Nat → Act)
    (hassign : ∀ (l k : Nat) (W : World) (K : Act → World → Prop), K (a₁ k) W →
      assign.wpIn (F.inRound l) (n - 1 - 1) P (Exit.then K (fun _ _ _ => False)) { tmps := (ps.zip (encs k)).foldl (fun t (p, v) => t.setIfInBounds p v) a.tmps, defers := [] } W)
    (hbody : ∀ (l k : Nat) (W : World), I k W → W.heap[T]? = some (.cells #[tv k] tt (0, 0)) → body.wpIn (F.inRound l) (n - 1 - 1) P (cntPost T I Ix k W) (a₁ k) W)
    (hstop : ∀ (D : Nat) (c : Code) (W : World), w.heap.size ≤ D → Ix c W → W.heap[D]? = some (.deferred (some [])) → c.wpIn F n P Q { a with defers := { target := .collected D, args := #[] } :: a.defers } W) :
    (Code.rangeFunc g ps assign body).wpIn F n P Q a w := by
  refine wpIn_rangeFunc fun fn hfn => ?_
  rw [hro]
  obtain ⟨D, hD⟩ : ∃ D, w.heap.size = D := ⟨_, rfl⟩
  rw [hD] at hIc hIx hT hseq
  obtain ⟨r0, hr0⟩ : ∃ r0 : Loop, r0 = { state := .ready, pending := none, fn, tmps := a.tmps, params := ps, assign, body, defers := D } := ⟨_, rfl⟩
  obtain ⟨Wa, hWa⟩ : ∃ Wa, w.alloc (.deferred (some [])) = Wa := ⟨_, rfl⟩
  obtain ⟨Wb, hWb⟩ : ∃ Wb, Wa.alloc (.loop r0) = Wb := ⟨_, rfl⟩
  have hba : Below w.heap.size w Wa := by rw [← hWa]; exact (Below.refl _ _).alloc (Nat.le_refl _) _
  have hbb : Below Wa.heap.size Wa Wb := by rw [← hWb]; exact (Below.refl _ _).alloc (Nat.le_refl _) _
  have hsa : Wa.heap.size = D + 1 := by rw [← hWa, World.size_alloc, hD]
  have hda : Wa.heap[D]? = some (.deferred (some [])) := by rw [← hWa, ← hD]; exact World.alloc_heap_new w _
  have hdb : Wb.heap[D]? = some (.deferred (some [])) := (hbb.block D (by omega)).trans hda
  have hlb : Wb.heap[D + 1]? = some (.loop r0) := by rw [← hWb, ← hsa]; exact World.alloc_heap_new Wa _
  have hib : I 0 Wb := hIa _ _ _ (hIa _ _ _ h0 hba) hbb
  have htb : Wb.heap[T]? = some (.cells #[tv 0] tt (0, 0)) := (hbb.block T (by omega)).trans ((hba.block T (by omega)).trans hT0)
  refine ⟨D + 1, [{ target := .collected D, args := #[] }], Wb, { target := .fn (.func gf) lb, args := #[.func (.yield (D + 1)) #[] #[]] }, Wb, gf, #[.func (.yield (D + 1)) #[] #[]] ++ lb, Wb, ?_, ?_, ?_, ?_, fun _ => h1, ?_⟩
  · rw [← hWb, ← hWa, hr0, ← hD]; exact run_enterLoop_outer _ _ _ _ _
  · simp only [resolve, hg]
    simp [go_sem]
  · intro f' hf'
    simp [Target.leads] at hf'
    subst hf'
    exact hFg
  · simp [invoke, go_sem, eg]
  · refine (hseq (D + 1) (fun k X => I k X ∧ X.heap[D + 1]? = some (.loop r0) ∧ X.heap[D]? = some (.deferred (some [])))
      (fun X => ∃ c, Ix c X ∧ X.heap[D + 1]? = some (.loop { r0 with state := .done, pending := some c }) ∧ X.heap[D]? = some (.deferred (some []))) Wb (by have := hbb.size; omega)
      (fun k X Y h hb => ⟨hIa k X Y h.1 hb, heap_kept h.2.1 hb, heap_kept h.2.2 hb⟩)
      (fun k X v h => ⟨hIb k X v h.1, (heap_setCell_other X ⟨T, 0, none⟩ (D + 1) v (by show D + 1 ≠ T; omega)).trans h.2.1, (heap_setCell_other X ⟨T, 0, none⟩ D v (by show D ≠ T; omega)).trans h.2.2⟩)
      (fun k X h => hIM k X h.1) ?_ ⟨hib, hlb, hdb⟩ htb).mono ?_
    · rintro k X ⟨hi, hl, hd⟩ ht
      have hlt : D + 1 < X.heap.size := heap_lt hl
      have hy := run_yield (P := P) (args := encs k) hl (by rw [hr0]; exact hps k)
      rw [hr0] at hy
      refine ⟨fn, _, assign, body, hy, roundIn_of_wpIn hfn (hassign _ k X _ ⟨_, run_beginRound hl (by rw [hr0]), ?_⟩)⟩
      obtain ⟨Y, hY⟩ : ∃ Y, X.putObj (D + 1) (.loop { r0 with state := .busy }) = Y := ⟨_, rfl⟩
      rw [hY]
      have hly : Y.heap[D + 1]? = some (.loop { r0 with state := .busy }) := by rw [← hY]; exact World.putObj_heap_same hlt
      have hdy : Y.heap[D]? = some (.deferred (some [])) := by rw [← hY]; exact (World.putObj_heap_other (by omega)).trans hd
      have hty : Y.heap[T]? = X.heap[T]? := by rw [← hY]; exact World.putObj_heap_other (by omega)
      have hiy : I k Y := by rw [← hY]; exact hIc k X (D + 1) _ _ hi (by omega) hl rfl
      have back : ∀ (j : Option Code) (V : World), KeepsOthers Y V → ∃ V', (Instr.endRound (D + 1) j).run P V = .ok (.bool j.isNone) V' ∧ V' = V.putObj (D + 1) (.loop { r0 with state := if j.isNone then .ready else .done, pending := j }) ∧
          V.heap[D + 1]? = some (.loop { r0 with state := .busy }) ∧ V'.heap[D + 1]? = some (.loop { r0 with state := if j.isNone then .ready else .done, pending := j }) ∧ V'.heap[D]? = some (.deferred (some [])) ∧ V'.heap[T]? = V.heap[T]? := by
        intro j V hk
        have hlv := hk.same _ _ hly rfl
        exact ⟨_, run_endRound (P := P) j hlv, rfl, hlv, World.putObj_heap_same (heap_lt hlv), (World.putObj_heap_other (by omega)).trans (hk.same _ _ hdy rfl), World.putObj_heap_other (by omega)⟩
      have leave : ∀ (c : Code) (V : World), KeepsOthers Y V → Ix c V → ∃ v V', (Instr.endRound (D + 1) (some c)).run P V = .ok v V' ∧
          ((Ending.returned v = .returned (.bool true) ∧ (I (k + 1) V' ∧ V'.heap[D + 1]? = some (.loop r0) ∧ V'.heap[D]? = some (.deferred (some []))) ∧ V'.heap[T]? = X.heap[T]?) ∨
           (Ending.returned v = .returned (.bool false) ∧ ∃ c, Ix c V' ∧ V'.heap[D + 1]? = some (.loop { r0 with state := .done, pending := some c }) ∧ V'.heap[D]? = some (.deferred (some [])))) := by
        intro c V hk hx
        obtain ⟨V', hrun, hV', hlv, hl', hd', _⟩ := back (some c) V hk
        exact ⟨_, V', hrun, .inr ⟨rfl, c, by rw [hV']; exact hIx c V (D + 1) _ _ hx (by omega) hlv rfl, hl', hd'⟩⟩
      refine wpIn_mono (hbody _ k Y hiy (hty.trans ht)) ?_
      rintro e a3 V hp
      cases e with
      | normal =>
        obtain ⟨hk, ht3, hi3⟩ := hp
        obtain ⟨V', hrun, hV', hlv, hl', hd', ht'⟩ := back none V hk
        refine ⟨_, V', hrun, .inl ⟨rfl, ⟨by rw [hV']; exact hIc _ V (D + 1) _ _ hi3 (by omega) hlv rfl, ?_, hd'⟩, ht'.trans (ht3.trans hty)⟩⟩
        rw [hl', hr0]
        rfl
      | ret => exact leave _ V hp.1 hp.2
      | exit id => exact leave _ V hp.1 hp.2
      | goto t => exact leave _ V hp.1 hp.2
      | panic ch => exact hp.elim
      | outgrown => exact hp.elim
    · rintro e V ⟨⟨v, rfl⟩, c, hx, hl, hd⟩
      exact ⟨some c, _, run_endLoop (P := P) hl (by simp), hstop D c _ (Nat.le_of_eq hD) (hIx c V (D + 1) _ _ hx (by omega) hl rfl) ((World.putObj_heap_other (by omega)).trans hd)⟩
end Hx
end Go.Proofs.Ytmjcmlaeajglmaa
