/-
  Texts of one seat, put together: TreY.
-/
import Derived.Test.YtlfmjnocfkamaaaG23
import Derived.Test.YtlfmjnocfkamaaaG24
import Derived.Test.YtlfmjnocfkamaaaG25
import Derived.Test.YtlfmjnocfkamaaaG26
namespace Go.Proofs.Ytlfmjnocfkamaaa
open Go.RowKit
namespace Hx
open Lx Tr Tx Nmb Es
set_option linter.unusedVariables false
/-- A tree's slice as the program holds it. -/
structure LB where
  l : List Nd
  A : Option Addr
  c : Nat
def lbCells (b : LB) : List Value := [.slice b.A b.l.length b.c]
/-- The trees so far: an own row. -/
def LsSt (w0 : World) (L : List LB) (v : Value) (wr : World) : Prop :=
  wr.ownsRow w0.heap.size 22 1 v L.length (L.flatMap lbCells) ∧ (∀ b ∈ L, RdS NdS wr (Far w0.heap.size w0 wr v.ownBlock) b.A b.l ∧ b.l.length ≤ b.c ∧ b.c ≤ maxLen ∧ (b.A = none → b.c = 0)) ∧ Below w0.heap.size w0 wr
theorem LsSt.below {w wr w' : World} {L : List LB} {v : Value} (h : LsSt w L v wr) (hb : Below wr.heap.size wr w') : LsSt w L v w' :=
  ⟨own_belowK h.1 hb (Nat.le_refl _), fun b hm => ⟨(h.2.1 b hm).1.keep (fun k hk => hk.below hb) fun b o hk => hb.cell (p := ⟨b, o, none⟩) hk.2.1, (h.2.1 b hm).2⟩, stp h.2.2 hb⟩
theorem LsSt.more {w wr w2 w5 : World} {L : List LB} {b0 : LB} {v v5 : Value} (h : LsSt w L v wr) (hb : Below wr.heap.size wr w2) (hM : RdS NdS w2 (Far w.heap.size w w2 v.ownBlock) b0.A b0.l ∧ b0.l.length ≤ b0.c ∧ b0.c ≤ maxLen ∧ (b0.A = none → b0.c = 0))
    (hown : w5.ownsRow w.heap.size 22 1 v5 (L.length + 1) (L.flatMap lbCells ++ [.slice b0.A b0.l.length b0.c])) (hgr : w2.grownBy w5 v.ownBlock) (hlie : v5.ownBlock = v.ownBlock ∨ v5.ownBlock = some w2.heap.size) : LsSt w (L ++ [b0]) v5 w5 := by
  have h2 := h.below hb
  refine ⟨by rw [List.length_append, List.flatMap_append]; simpa [lbCells] using hown, fun b hm => ?_, h2.2.2.grown hgr ?_ fun k hk => (h.1.lt k hk).1⟩
  · have hb0 : RdS NdS w2 (Far w.heap.size w w2 v.ownBlock) b.A b.l ∧ b.l.length ≤ b.c ∧ b.c ≤ maxLen ∧ (b.A = none → b.c = 0) := by
      rcases List.mem_append.1 hm with hm | hm
      · exact h2.2.1 b hm
      · rw [List.mem_singleton] at hm; subst hm; exact hM
    refine ⟨hb0.1.keep (fun k hk => ⟨hk.1, Nat.lt_of_lt_of_le hk.2.1 hgr.size, ?_, fun hk2 o => (hgr.frozen_far ⟨k, o, none⟩ hk.2.1 hk.2.2.1).trans (hk.2.2.2 hk2 o)⟩) fun k o hk => hgr.cell_far ⟨k, o, none⟩ hk.2.1 hk.2.2.1, hb0.2⟩
    rcases hlie with e | e
    · rw [e]; exact hk.2.2.1
    · rw [e]
      intro e2
      injection e2 with e2
      have := hk.2.1
      omega
  · have := h2.2.2.size
    omega
theorem LsSt.read {w wr : World} {L : List LB} {A : Option Addr} {n c : Nat} (h : LsSt w L (.slice A n c) wr) : RdB (SlS NdS) wr A (L.map LB.l) ∧ L.length = n := by
  have hn : n = L.length := by
    have h1 := h.1
    rcases h1.2 with ⟨e, h0⟩ | ⟨g, cap, cur, hv, _⟩
    · injection e with _ e _; omega
    · injection hv with _ e _
  subst hn
  obtain ⟨r1, _⟩ := RdS.of_own (C := SlS NdS) (S := fun b => b < wr.heap.size) lbCells LB.l (fun _ => rfl) (by decide) L (fun b hm => ⟨b.A, b.c, rfl, (h.2.1 b hm).2.1, (h.2.1 b hm).2.2.1, (h.2.1 b hm).2.2.2, (h.2.1 b hm).1.mono fun k hk => hk.2.1⟩) (fun g hg => (h.1.lt g hg).2) h.1
  exact ⟨r1, rfl⟩
/-- A tree that was copied, put behind. -/
theorem NdOut.far {w W w' : World} {v : List Nd} {A : Option Addr} {c : Nat} {row : Option Nat} (h : NdOut W.heap.size W v A c w') (hs : w.heap.size ≤ W.heap.size) (hrow : ∀ k, row = some k → k < W.heap.size) :
    RdS NdS w' (Far w.heap.size w w' row) A v ∧ v.length ≤ c ∧ c ≤ maxLen ∧ (A = Option.none → c = 0) :=
  ⟨h.rd.mono fun k hk => ⟨Nat.le_trans hs hk.1, hk.2.1, fun e => by have := hrow k e.symm; have := hk.1; omega, fun _ => hk.2.2.2 hk.1⟩, h.le, h.cm, h.nil⟩
theorem putN_small {n : Nd} {ls : List (List Nd)} {out : List Nd} {er : Int} (h : putN n ls = (out, er)) (hs : SmallN n) (hsm : ∀ v ∈ ls, ∀ b ∈ v, SmallN b) : (∀ b ∈ out, SmallN b) ∧ out.length ≤ 512 := by
  unfold putN at h
  split at h
  · split at h
    · split at h
      · obtain ⟨rfl, _⟩ := (Prod.mk.injEq _ _ _ _).mp h
        exact ⟨(fun b hb => by cases hb), by simp⟩
      · rename_i h512
        split at h
        · obtain ⟨rfl, _⟩ := (Prod.mk.injEq _ _ _ _).mp h
          refine ⟨fun b hb => ?_, by rw [List.length_cons]; omega⟩
          rcases List.mem_cons.1 hb with rfl | hb
          · exact hs.many _
          · obtain ⟨l, hl, hbl⟩ := List.mem_flatten.1 hb
            exact hsm l hl b hbl
        · obtain ⟨rfl, _⟩ := (Prod.mk.injEq _ _ _ _).mp h
          exact ⟨(fun b hb => by cases hb), by simp⟩
    · obtain ⟨rfl, _⟩ := (Prod.mk.injEq _ _ _ _).mp h
      exact ⟨(fun b hb => by cases hb), by simp⟩
  · obtain ⟨rfl, _⟩ := (Prod.mk.injEq _ _ _ _).mp h
    exact ⟨(fun b hb => by cases hb), by simp⟩
theorem putN_er {n : Nd} {ls : List (List Nd)} {out : List Nd} {er : Int} (h : putN n ls = (out, er)) : (er == er) = true := by simp
theorem infoSl : (Try.prog.info? 22).map (fun i => (i.zero, i.size, i.bytes)) = some (some (.slice none 0 0), 1, 24) := by kernel_rfl
section
variable {H : Type} {enc : TypeId × Value → H}
theorem opens_lists : Opens enc Try.prog (SlC (SlC NdS.old)) 54 := Opens.slice (C := SlC NdS.old) Try.underlying54 (by kernel_rfl) (by decide) opens_nodes
end
theorem RdC.toL {w : World} {A : Option Addr} {ls : List (List Nd)} (h : RdC (SlC NdS.old) w w.heap.size A ls) : RdB (SlS NdS) w A ls := h
theorem RdC.toN {w : World} {A : Option Addr} {l : List Nd} (h : RdC NdS.old w w.heap.size A l) : RdB NdS w A l := h
end Hx
end Go.Proofs.Ytlfmjnocfkamaaa
