/-
  Texts of one seat, put together: LeaN, LeaO, LexB, LexWr, MemE, SpaM.
-/
import Derived.Test.YtioiifdcgdoanaaGreatDoorIn07
import Derived.Test.YtioiifdcgdoanaaGreatDoorIn08
import Derived.Test.YtioiifdcgdoanaaGreatDoorIn06
import Derived.Test.YtioiifdcgdoanaaGreatDoorIn05
import Derived.Deep.LoopGhost
import Derived.Laws.AppendOwnNone
import Derived.Test.YtioiifdcgdoanaaGreatDoorIn02
import Derived.Maps.AppendAt
import Derived.Deep.AppendLies
namespace Go.Proofs.YtioiifdcgdoanaaGreatDoor
open Go.RowKit
namespace Hx
open Lx Tx Nmb Es
set_option linter.unusedVariables false
def TkIn (ts : List Tk) (A : Option Addr) (c : Nat) (w : World) : Prop := RdC TkC w w.heap.size A ts ∧ ts.length ≤ c ∧ c ≤ maxLen ∧ (A = none → c = 0)
theorem TkIn.on {ts : List Tk} {A : Option Addr} {c : Nat} {w w' : World} (h : TkIn ts A c w) (hb : Below w.heap.size w w') : TkIn ts A c w' := ⟨h.1.on hb, h.2⟩
theorem name9 (s : ByteArray) (w : World) (hm : s.size ≤ 1000000) (b : Bool) (h : nameL s.data.toList = b) :
    Calls Tryz.prog 29 #[.string s] w fun e w' => e = .returned (.bool b) ∧ Below w.heap.size w w' :=
  (name9q s w hm b h).mono fun e w' ⟨h1, h2⟩ => ⟨h1, h2 ▸ Below.refl _ _⟩
end Hx
end Go.Proofs.YtioiifdcgdoanaaGreatDoor
namespace Go.Proofs.YtioiifdcgdoanaaGreatDoor
open Go.RowKit
namespace Hx
open Lx Tr
set_option linter.unusedVariables false
theorem RdS.of_own {α β : Type} {C : CodS α} {w : World} {S : Nat → Prop} {base : Nat} {e : TypeId} {A : Option Addr} {n c : Nat} (f : β → List Value) (val : β → α) (hk : ∀ b, (f b).length = C.k) (hk0 : 0 < C.k) (l : List β) (hR : ∀ b ∈ l, C.R w S (f b) (val b)) (hS : ∀ g, (Value.slice A n c).ownBlock = some g → S g)
    (h : w.ownsRow base e C.k (.slice A n c) n (l.flatMap f)) : RdS C w S A (l.map val) ∧ l.length = n ∧ n ≤ c ∧ c ≤ maxLen ∧ (A = none → c = 0) := by
  have hl : l.length = n := by
    have := h.1
    rw [flat_len f C.k hk] at this
    exact Nat.eq_of_mul_eq_mul_right hk0 this
  rcases h.2 with ⟨e1, h0⟩ | ⟨g, cap, cur, hv, hb, hg, hnc, hcm, _, _⟩
  · injection e1 with e1 e2 e3
    subst e1 e3
    have : l = [] := List.eq_nil_of_length_eq_zero (by omega)
    subst this
    exact ⟨RdS.nil _ _ _, hl, by omega, Nat.zero_le _, fun _ => rfl⟩
  · injection hv with e1 e2 e3
    subst e1 e3
    refine ⟨fun hp => ⟨g, 0, rfl, hS g rfl, fun j hj => ?_⟩, hl, hnc, hcm, fun h => by cases h⟩
    have hj' : j < l.length := by simpa using hj
    refine ⟨f (l[j]'hj'), by simpa using hR _ (List.getElem_mem hj'), fun i hi => ?_⟩
    have hi' : i < C.k := by rw [hk] at hi; exact hi
    have := h.cells (g := g) rfl (j * C.k + i) _ (flat_at f C.k hk l j i hj' hi')
    rw [addr_plain] at this
    rw [Nat.zero_add, ← this, Nat.zero_add]
structure AB where
  x : ByteArray
  y : ByteArray
  z : ByteArray
def abCells (b : AB) : List Value := [.string b.x, .string b.y, .string b.z]
def abVal (b : AB) : At := ⟨b.x.data.toList, b.y.data.toList, b.z.data.toList⟩
def abOf (a : At) : AB := ⟨⟨a.space.toArray⟩, ⟨a.name.toArray⟩, ⟨a.value.toArray⟩⟩
theorem abVal_of (a : At) : abVal (abOf a) = a := by cases a; simp [abVal, abOf]
theorem map_abOf (l : List At) : (l.map abOf).map abVal = l := by
  rw [List.map_map]
  exact (List.map_congr_left (g := id) fun a _ => abVal_of a).trans (List.map_id _)
theorem ab_R (w : World) (S : Nat → Prop) (b : AB) : AtS.R w S (abCells b) (abVal b) := ⟨b.x, b.y, b.z, rfl, rfl, rfl, rfl⟩
structure NB where
  n : Nd
  x : ByteArray
  y : ByteArray
  z : ByteArray
  A : Option Addr
  c : Nat
def nbCells (b : NB) : List Value := ndCells b.n b.x b.y b.z b.A b.c
def Far (lo : Nat) (w0 wr : World) (row : Option Nat) (k : Nat) : Prop := lo ≤ k ∧ k < wr.heap.size ∧ some k ≠ row ∧ (w0.heap.size ≤ k → ∀ o, wr.frozen? ⟨k, o, none⟩ = false)
theorem Far.below {lo k : Nat} {w0 wr w' : World} {row : Option Nat} (h : Far lo w0 wr row k) (hb : Below wr.heap.size wr w') : Far lo w0 w' row k :=
  ⟨h.1, Nat.lt_of_lt_of_le h.2.1 hb.size, h.2.2.1, fun hk o => (hb.frozen (p := ⟨k, o, none⟩) h.2.1).trans (h.2.2.2 hk o)⟩
def NdSt (lo : Nat) (w0 : World) (L : List NB) (v : Value) (wr : World) : Prop :=
  wr.ownsRow w0.heap.size 28 6 v L.length (L.flatMap nbCells) ∧ (∀ b ∈ L, NdIn b.n b.x b.y b.z b.A b.c wr (Far lo w0 wr v.ownBlock)) ∧ Below w0.heap.size w0 wr
theorem NdSt.nil (lo : Nat) {w wr : World} (hb : Below w.heap.size w wr) : NdSt lo w [] (.slice none 0 0) wr := ⟨World.ownsRow_nil _ _ _ _, (fun b hb => by cases hb), hb⟩
theorem NdSt.below {lo : Nat} {w wr w' : World} {L : List NB} {v : Value} (h : NdSt lo w L v wr) (hb : Below wr.heap.size wr w') : NdSt lo w L v w' :=
  ⟨own_belowK h.1 hb (Nat.le_refl _), fun b hm => (h.2.1 b hm).keep (fun k hk => hk.below hb) fun b o hk => hb.cell (p := ⟨b, o, none⟩) hk.2.1, stp h.2.2 hb⟩
theorem NdSt.more {lo : Nat} {w wr w2 w5 : World} {L M : List NB} {v v5 : Value} (h : NdSt lo w L v wr) (hb : Below wr.heap.size wr w2) (hM : ∀ b ∈ M, NdIn b.n b.x b.y b.z b.A b.c w2 (Far lo w w2 v.ownBlock))
    (hown : w5.ownsRow w.heap.size 28 6 v5 (L.length + M.length) (L.flatMap nbCells ++ M.flatMap nbCells)) (hgr : w2.grownBy w5 v.ownBlock) (hlie : v5.ownBlock = v.ownBlock ∨ v5.ownBlock = some w2.heap.size) : NdSt lo w (L ++ M) v5 w5 := by
  have h2 := h.below hb
  refine ⟨by rw [List.length_append, List.flatMap_append]; exact hown, fun b hm => ?_, h2.2.2.grown hgr ?_ fun k hk => (h.1.lt k hk).1⟩
  · have hb0 : NdIn b.n b.x b.y b.z b.A b.c w2 (Far lo w w2 v.ownBlock) := by
      rcases List.mem_append.1 hm with hm | hm
      · exact h2.2.1 b hm
      · exact hM b hm
    refine hb0.keep (fun k hk => ⟨hk.1, Nat.lt_of_lt_of_le hk.2.1 hgr.size, ?_, fun hk2 o => (hgr.frozen_far ⟨k, o, none⟩ hk.2.1 hk.2.2.1).trans (hk.2.2.2 hk2 o)⟩) fun k o hk => hgr.cell_far ⟨k, o, none⟩ hk.2.1 hk.2.2.1
    rcases hlie with e | e
    · rw [e]; exact hk.2.2.1
    · rw [e]
      intro e2
      injection e2 with e2
      have := hk.2.1
      omega
  · have := h2.2.2.size
    omega
structure NdOut (lo : Nat) (w0 : World) (v : List Nd) (A : Option Addr) (c : Nat) (w : World) : Prop where
  rd : RdS NdS w (Far lo w0 w none) A v
  le : v.length ≤ c
  cm : c ≤ maxLen
  nil : A = none → c = 0
theorem NdOut.below {lo : Nat} {w0 : World} {v : List Nd} {A : Option Addr} {c : Nat} {w w' : World} (h : NdOut lo w0 v A c w) (hb : Below w.heap.size w w') : NdOut lo w0 v A c w' :=
  ⟨h.rd.keep (fun k hk => hk.below hb) fun b o hk => hb.cell (p := ⟨b, o, none⟩) hk.2.1, h.le, h.cm, h.nil⟩
theorem NdOut.all {lo : Nat} {w0 : World} {v : List Nd} {A : Option Addr} {c : Nat} {w : World} (h : NdOut lo w0 v A c w) : RdB NdS w A v := h.rd.mono fun b hb => hb.2.1
theorem NdOut.none (lo : Nat) (w0 w : World) : NdOut lo w0 [] none 0 w := ⟨RdS.nil _ _ _, Nat.le_refl _, Nat.zero_le _, fun _ => rfl⟩
theorem NdSt.read {lo : Nat} {w wr : World} {L : List NB} {A : Option Addr} {n c : Nat} (h : NdSt lo w L (.slice A n c) wr) (hlo : lo ≤ w.heap.size) : NdOut lo w (L.map NB.n) A c wr ∧ L.length = n := by
  have hn : n = L.length := by
    have h1 := h.1
    rcases h1.2 with ⟨e, h0⟩ | ⟨g, cap, cur, hv, _⟩
    · injection e with _ e _; omega
    · injection hv with _ e _
  subst hn
  obtain ⟨r1, r2, r3, r4, r5⟩ := RdS.of_own (C := NdS) (S := Far lo w wr none) nbCells NB.n (fun _ => rfl) (by decide) L (fun b hm => ⟨b.x, b.y, b.z, b.A, b.c, rfl, (h.2.1 b hm).keep (fun k hk => ⟨hk.1, hk.2.1, by simp, hk.2.2.2⟩) fun _ _ _ => rfl⟩) (fun g hg => by
    have h3 := h.1.lt g hg
    refine ⟨by omega, h3.2, by simp, fun _ o => ?_⟩
    rcases h.1.2 with ⟨e, h0⟩ | ⟨g', cap, cur, hv, hb', hg', _⟩
    · rw [e] at hg; cases hg
    · rw [hv] at hg
      have : g' = g := by simpa [Value.ownBlock] using hg
      subst this
      exact freeV wr _ o _ _ hg') h.1
  exact ⟨⟨r1, by rw [List.length_map]; exact r3, r4, r5⟩, rfl⟩
theorem ats_own {lo base : Nat} {w0 w : World} {A : Option Addr} {n c : Nat} {row : Option Nat} {l : List At} (h : w.ownsRow base 25 3 (.slice A n c) n ((l.map abOf).flatMap abCells)) (hlo : lo ≤ base) (hrow : ∀ k, row = some k → k < base) :
    RdS AtS w (Far lo w0 w row) A l ∧ l.length = n ∧ n ≤ c ∧ c ≤ maxLen ∧ (A = none → c = 0) := by
  obtain ⟨r1, r2, r3, r4, r5⟩ := RdS.of_own (C := AtS) (S := Far lo w0 w row) abCells abVal (fun _ => rfl) (by decide) (l.map abOf) (fun b _ => ab_R _ _ b) (fun g hg => by
    have h3 := h.lt g hg
    refine ⟨by omega, h3.2, fun e => ?_, fun _ o => ?_⟩
    · have := hrow g e.symm
      omega
    · rcases h.2 with ⟨e, h0⟩ | ⟨g', cap, cur, hv, hb', hg', _⟩
      · rw [e] at hg; cases hg
      · rw [hv] at hg
        have : g' = g := by simpa [Value.ownBlock] using hg
        subst this
        exact freeV w _ o _ _ hg') h
  rw [map_abOf] at r1
  rw [List.length_map] at r2
  exact ⟨r1, r2, r3, r4, r5⟩
theorem infoNd : (Tryz.prog.info? 28).map (fun i => (i.zero, i.size, i.bytes)) = some (some (.agg #[.int .u8 0, .string ⟨#[]⟩, .string ⟨#[]⟩, .slice none 0 0, .string ⟨#[]⟩, .int .i64 0]), 6, 88) := by kernel_rfl
theorem infoAt : (Tryz.prog.info? 25).map (fun i => (i.zero, i.size, i.bytes)) = some (some (.agg #[.string ⟨#[]⟩, .string ⟨#[]⟩, .string ⟨#[]⟩]), 3, 48) := by kernel_rfl
theorem sizeNd : (Tryz.prog.info? 28).map (·.size) = some 6 := by kernel_rfl
theorem sizeAt : (Tryz.prog.info? 25).map (·.size) = some 3 := by kernel_rfl
end Hx
end Go.Proofs.YtioiifdcgdoanaaGreatDoor
namespace Go.Proofs.YtioiifdcgdoanaaGreatDoor
namespace Ns
open Lx Tr Tx Nmb Es
set_option linter.unusedVariables false
def walkK (g : List Nd → (List Nd × Bool) × List Nd) : Nat → List Nd → (List Nd × Bool) × List Nd
  | 0, l => (([], true), l)
  | k + 1, l => (((g l).1.1 ++ (walkK g k (g l).2).1.1, (g l).1.2 && (walkK g k (g l).2).1.2), (walkK g k (g l).2).2)
def walkD {ε : Type} (f : ε → Nd → Nd × Bool) (dn : ε → Nd → ε) : Nat → ε → List Nd → (List Nd × Bool) × List Nd
  | _, _, [] => (([], true), [])
  | 0, _, n :: l => (([n], true), l)
  | d + 1, e, n :: l => if n.kind = 2 then (([n], true), l) else
    (((f e n).1 :: (walkK (walkD f dn d (dn e n)) n.many.toNat l).1.1, (f e n).2 && (walkK (walkD f dn d (dn e n)) n.many.toNat l).1.2), (walkK (walkD f dn d (dn e n)) n.many.toNat l).2)
theorem atsOk_iff {l : List At} : atsOk l = true ↔ (∀ a ∈ l, fullL a.name = true ∧ okT a.value = true ∧ okT a.space = true) ∧ (l.map key).Nodup ∧ l.length ≤ 16 := by
  unfold atsOk
  rw [Bool.and_eq_true, Bool.and_eq_true, decide_eq_true_eq, decide_eq_true_eq, List.all_eq_true, and_assoc]
  refine and_congr ⟨fun h a ha => ?_, fun h a ha => ?_⟩ Iff.rfl
  · have := h a ha
    unfold atOk at this
    rw [Bool.and_eq_true, Bool.and_eq_true] at this
    exact ⟨this.1.1, this.1.2, this.2⟩
  · unfold atOk
    rw [(h a ha).1, (h a ha).2.1, (h a ha).2.2]; rfl
section gen
variable {ε ι : Type} {f : ε → Nd → Nd × Bool} {dn : ε → Nd → ε} {f2 : ι → Nd → Nd × Bool} {dn2 : ι → Nd → ι}
theorem walkK_rest {d : Nat} (hd : ∀ l r e, restD d l = some r → (walkD f dn d e l).2 = r ∧ (walkD f dn d e l).1.1.length + r.length = l.length) (e : ε) : ∀ (k : Nat) (b : Bool) (l : List Nd) (b' : Bool) (r : List Nd), kidsD (restD d) k b l = some (b', r) → (walkK (walkD f dn d e) k l).2 = r ∧ (walkK (walkD f dn d e) k l).1.1.length + r.length = l.length := by
  intro k
  induction k with
  | zero =>
    intro b l b' r h
    rw [kidsD] at h
    obtain ⟨rfl, rfl⟩ := (Prod.mk.injEq _ _ _ _).mp (Option.some.inj h)
    rw [walkK]
    exact ⟨rfl, by simp⟩
  | succ k ih =>
    intro b l b' r h
    cases l with
    | nil => rw [kidsD] at h; cases h
    | cons n l =>
      rw [kidsD] at h
      by_cases hb : b = true ∧ n.kind = 2
      · rw [if_pos hb] at h; cases h
      · rw [if_neg hb] at h
        cases hn : restD d (n :: l) with
        | none => rw [hn] at h; cases h
        | some y =>
          rw [hn] at h
          obtain ⟨h1, h2⟩ := hd _ _ e hn
          obtain ⟨h3, h4⟩ := ih _ _ _ _ h
          rw [walkK, h1]
          refine ⟨h3, ?_⟩
          show ((walkD f dn d e (n :: l)).1.1 ++ (walkK (walkD f dn d e) k y).1.1).length + r.length = _
          rw [List.length_append]
          omega
theorem walkD_rest : ∀ (d : Nat) (l r : List Nd) (e : ε), restD d l = some r → (walkD f dn d e l).2 = r ∧ (walkD f dn d e l).1.1.length + r.length = l.length := by
  intro d
  induction d with
  | zero =>
    intro l r e h
    cases l with
    | nil => rw [restD] at h; cases h
    | cons n l =>
      rw [restD] at h
      by_cases hn : ndOk n = true ∧ n.kind = 2
      · rw [if_pos hn] at h
        injection h with h
        subst h
        rw [walkD]
        exact ⟨rfl, by simp; omega⟩
      · rw [if_neg hn] at h; cases h
  | succ d ih =>
    intro l r e h
    cases l with
    | nil => rw [restD] at h; cases h
    | cons n l =>
      rw [restD] at h
      by_cases hn : ndOk n = true ∧ 0 ≤ n.many
      · rw [if_pos hn] at h
        cases hk : kidsD (restD d) n.many.toNat false l with
        | none => rw [hk] at h; cases h
        | some y =>
          rw [hk] at h
          obtain ⟨b', y⟩ := y
          have h : y = r := Option.some.inj h
          subst h
          rw [walkD]
          by_cases h2 : n.kind = 2
          · rw [if_pos h2]
            have hm := (ndOk_two hn.1 h2).1
            rw [hm] at hk
            have hk : some (false, l) = some (b', y) := hk
            obtain ⟨_, rfl⟩ := (Prod.mk.injEq _ _ _ _).mp (Option.some.inj hk)
            exact ⟨rfl, by simp; omega⟩
          · rw [if_neg h2]
            obtain ⟨h3, h4⟩ := walkK_rest ih (dn e n) _ _ _ _ _ hk
            exact ⟨h3, by show ((f e n).1 :: (walkK (walkD f dn d (dn e n)) n.many.toNat l).1.1).length + y.length = _; rw [List.length_cons, List.length_cons]; omega⟩
      · rw [if_neg hn] at h; cases h
end gen
end Ns
end Go.Proofs.YtioiifdcgdoanaaGreatDoor
