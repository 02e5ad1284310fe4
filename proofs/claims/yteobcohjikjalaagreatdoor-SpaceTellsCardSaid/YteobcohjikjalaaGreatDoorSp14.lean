/-
  Texts of one seat, put together: MemE, SpaM, SpaN, SpaA, MapK.
-/
import Derived.Test.YteobcohjikjalaaGreatDoorSp03
import Derived.Test.YteobcohjikjalaaGreatDoorSp13
import Derived.Laws.AppendOwnNone
import Derived.Maps.AppendAt
import Derived.Deep.AppendLies
import Derived.Test.YteobcohjikjalaaGreatDoorSp00
import Derived.Shelf.SlMaps.Clone
import Derived.DeepKeys4
import Derived.WideKeyEntry
set_option linter.unusedSimpArgs false
namespace Go.Proofs.YteobcohjikjalaaGreatDoor
open Go.RowKit
namespace Hx
open Lx Tr
set_option linter.unusedVariables false
theorem RdS.of_own {α β : Type} {C : CodS α} {w : World} {S : Nat → Prop} {base : Nat} {e : TypeId} {A : Option Addr} {n c : Nat} (f : β → List Value) (val : β → α) (hk : ∀ b, (f b).length = C.k) (hk0 : 0 < C.k) (l : List β) (hR : ∀ b ∈ l, C.R w S (f b) (val b)) (hS : ∀ g, (Value.slice A n c).ownBlock = some g → S g)
    (h : w.ownsRow base e C.k (.slice A n c) n (l.flatMap f)) : RdS C w S A (l.map val) ∧ l.length = n ∧ n ≤ c ∧ c ≤ maxLen ∧ (A = none → c = 0) := by
  have hl : l.length = n := by
    have := h.1
    rw [flat_len f C.k hk] at this
    exact Nat.eq_of_mul_eq_mul_right hk0 this
  rcases h.2 with ⟨e1, h0⟩ | ⟨g, cap, cur, hv, hb, hg, hnc, hcm, _, _⟩
  · injection e1 with e1 e2 e3
    subst e1 e3
    have : l = [] := List.eq_nil_of_length_eq_zero (by omega)
    subst this
    exact ⟨RdS.nil _ _ _, hl, by omega, Nat.zero_le _, fun _ => rfl⟩
  · injection hv with e1 e2 e3
    subst e1 e3
    refine ⟨fun hp => ⟨g, 0, rfl, hS g rfl, fun j hj => ?_⟩, hl, hnc, hcm, fun h => by cases h⟩
    have hj' : j < l.length := by simpa using hj
    refine ⟨f (l[j]'hj'), by simpa using hR _ (List.getElem_mem hj'), fun i hi => ?_⟩
    have hi' : i < C.k := by rw [hk] at hi; exact hi
    have := h.cells (g := g) rfl (j * C.k + i) _ (flat_at f C.k hk l j i hj' hi')
    rw [addr_plain] at this
    rw [Nat.zero_add, ← this, Nat.zero_add]
structure AB where
  x : ByteArray
  y : ByteArray
  z : ByteArray
def abCells (b : AB) : List Value := [.string b.x, .string b.y, .string b.z]
def abVal (b : AB) : At := ⟨b.x.data.toList, b.y.data.toList, b.z.data.toList⟩
def abOf (a : At) : AB := ⟨⟨a.space.toArray⟩, ⟨a.name.toArray⟩, ⟨a.value.toArray⟩⟩
theorem abVal_of (a : At) : abVal (abOf a) = a := by cases a; simp [abVal, abOf]
theorem map_abOf (l : List At) : (l.map abOf).map abVal = l := by
  rw [List.map_map]
  exact (List.map_congr_left (g := id) fun a _ => abVal_of a).trans (List.map_id _)
theorem ab_R (w : World) (S : Nat → Prop) (b : AB) : AtS.R w S (abCells b) (abVal b) := ⟨b.x, b.y, b.z, rfl, rfl, rfl, rfl⟩
theorem ats_news {w : World} {S : Nat → Prop} {ad : Addr} {l : List At} (h : RdS AtS w S (some ad) l) : ∀ (j : Nat) (u : Value), ((l.map abOf).flatMap abCells)[j]? = some u → w.cell? (ad.add j) = some u := by
  intro j u hu
  have hlen := flat_len abCells 3 (fun _ => rfl) (l.map abOf)
  rw [List.length_map] at hlen
  have hj := (List.getElem?_eq_some_iff.1 hu).1
  have hq : j / 3 < l.length := by omega
  obtain ⟨b, off, x, y, z, e, _, hx, hy, hz, c0, c1, c2⟩ := at_at h hq
  injection e with e
  subst e
  have hat := flat_at abCells 3 (fun _ => rfl) (l.map abOf) (j / 3) (j % 3) (by rw [List.length_map]; exact hq) (by omega)
  rw [show j / 3 * 3 + j % 3 = j by omega, hu] at hat
  rw [addr_plain]
  have ex : x = ⟨(l[j / 3]'hq).space.toArray⟩ := ba_x (by rw [hx])
  have ey : y = ⟨(l[j / 3]'hq).name.toArray⟩ := ba_x (by rw [hy])
  have ez : z = ⟨(l[j / 3]'hq).value.toArray⟩ := ba_x (by rw [hz])
  rcases (show j % 3 = 0 ∨ j % 3 = 1 ∨ j % 3 = 2 by omega) with h0 | h0 | h0
  · rw [show off + j = off + j / 3 * 3 by omega, Option.some.inj hat, c0]
    simp [h0, abCells, abOf, ex]
  · rw [show off + j = off + j / 3 * 3 + 1 by omega, Option.some.inj hat, c1]
    simp [h0, abCells, abOf, ey]
  · rw [show off + j = off + j / 3 * 3 + 2 by omega, Option.some.inj hat, c2]
    simp [h0, abCells, abOf, ez]
theorem ab_one (l : List AB) : ∀ u ∈ l.flatMap abCells, u.oneCell' = true := by
  intro u hu
  obtain ⟨p, _, h⟩ := List.mem_flatMap.1 hu
  simp [abCells] at h
  rcases h with rfl | rfl | rfl <;> rfl
theorem wpList_append_ats {P : Program} {w : World} {ops : Array Oper} {rest : List Oper} {o : Oper} {a : Act} {Q : Exit → Act → World → Prop} (hgd : o.guard = none) (s x : Operand) (t : TypeId)
    (ho : o.op = .call { callee := .builtin .append, args := #[s, x], argTypes := #[t, t] })
    (base : Nat) (e : TypeId) (i : TypeInfo) (z : Value) (ht : P.underlying t = some (.slice e)) (hi : P.info? e = some i) (hz : i.zero = some z) (hsize : i.size = 3) (hby : i.bytes = 48) (hzs : z.cells.size = 3)
    (v : Value) (hs : a.eval s = v) (hown : w.ownsRow base e 3 v 0 [])
    (S : Nat → Prop) (A : Option Addr) (m c : Nat) (l : List At) (hx : a.eval x = .slice A m c) (hr : RdS AtS w S A l) (hl : l.length = m) (hc0 : A = none → c = 0) (hb : m ≤ 1000000) (hbase : base ≤ w.heap.size)
    (h : ∀ v' w', w'.ownsRow base e 3 v' m ((l.map abOf).flatMap abCells) → w.grownBy w' v.ownBlock → wpList P ops Q rest (a.put o.dst v') w') : wpList P ops Q (o :: rest) a w := by
  have hlen := flat_len abCells 3 (fun _ => rfl) (l.map abOf)
  rw [List.length_map, hl] at hlen
  rcases A with _ | ad
  · have h0 : l = [] := by
      rcases Nat.eq_zero_or_pos l.length with h0 | h0
      · exact List.eq_nil_of_length_eq_zero h0
      · obtain ⟨_, _, he, _⟩ := hr h0
        cases he
    subst h0
    obtain rfl : 0 = m := hl
    rw [hc0 rfl] at hx
    exact wpList_append_own_none hgd s x t ho base e i 3 ht hi v 0 [] hs hown hx (h v w hown (World.grownBy.refl _ _))
  · refine wpList_append_own w hgd s x t ho base e i z 3 48 ht hi hz hsize hby hzs (by decide) v 0 [] hs hown ad m c ((l.map abOf).flatMap abCells) hx hlen (ats_news hr) (ab_one _) (by unfold maxLen; omega) (by omega) hbase (fun v' w' h1 h2 _ => ?_)
    rw [Nat.zero_add, List.nil_append] at h1
    exact h v' w' h1 h2
structure NB where
  n : Nd
  x : ByteArray
  y : ByteArray
  z : ByteArray
  A : Option Addr
  c : Nat
def nbCells (b : NB) : List Value := ndCells b.n b.x b.y b.z b.A b.c
theorem nb_one (l : List NB) : ∀ u ∈ l.flatMap nbCells, u.oneCell' = true := by
  intro u hu
  obtain ⟨p, _, h⟩ := List.mem_flatMap.1 hu
  simp [nbCells, ndCells] at h
  rcases h with rfl | rfl | rfl | rfl | rfl | rfl <;> rfl
theorem nodes_of {w : World} {S : Nat → Prop} {ad : Addr} {l : List Nd} (h : RdS NdS w S (some ad) l) :
    ∃ M : List NB, M.map NB.n = l ∧ (∀ b ∈ M, NdIn b.n b.x b.y b.z b.A b.c w S) ∧ ∀ (j : Nat) (u : Value), (M.flatMap nbCells)[j]? = some u → w.cell? (ad.add j) = some u := by
  have each : ∀ i : Fin l.length, ∃ b : NB, b.n = l[i.1]'i.2 ∧ NdIn b.n b.x b.y b.z b.A b.c w S ∧ ∀ (k : Nat) (hk : k < (nbCells b).length), w.cell? (ad.add (i.1 * 6 + k)) = some ((nbCells b)[k]'hk) := by
    intro i
    obtain ⟨b, off, cs, e, hb, ⟨x, y, z, A, c, rfl, hin⟩, hc⟩ := h.at i.2
    injection e with e
    subst e
    refine ⟨⟨l[i.1]'i.2, x, y, z, A, c⟩, rfl, hin, fun k hk => ?_⟩
    rw [addr_plain, ← Nat.add_assoc]
    exact hc k hk
  let f : Fin l.length → NB := fun i => Classical.choose (each i)
  have hf : ∀ i, (f i).n = l[i.1]'i.2 ∧ NdIn (f i).n (f i).x (f i).y (f i).z (f i).A (f i).c w S ∧ ∀ (k : Nat) (hk : k < (nbCells (f i)).length), w.cell? (ad.add (i.1 * 6 + k)) = some ((nbCells (f i))[k]'hk) := fun i => Classical.choose_spec (each i)
  refine ⟨List.ofFn f, ?_, ?_, ?_⟩
  · apply List.ext_getElem
    · simp
    · intro i h1 h2
      rw [List.getElem_map, List.getElem_ofFn]
      exact (hf _).1
  · intro b hb
    obtain ⟨i, rfl⟩ := List.mem_ofFn.1 hb
    exact (hf i).2.1
  · intro j u hu
    have hlen := flat_len nbCells 6 (fun _ => rfl) (List.ofFn f)
    rw [List.length_ofFn] at hlen
    have hj := (List.getElem?_eq_some_iff.1 hu).1
    have hq : j / 6 < l.length := by omega
    have hat := flat_at nbCells 6 (fun _ => rfl) (List.ofFn f) (j / 6) (j % 6) (by rw [List.length_ofFn]; exact hq) (by omega)
    rw [show j / 6 * 6 + j % 6 = j by omega, hu] at hat
    have h3 := (hf ⟨j / 6, hq⟩).2.2 (j % 6) (by show _ < 6; omega)
    rw [show j / 6 * 6 + j % 6 = j by omega] at h3
    rw [h3, Option.some.inj hat]
    congr 1
    simp
def Far (lo : Nat) (w0 wr : World) (row : Option Nat) (k : Nat) : Prop := lo ≤ k ∧ k < wr.heap.size ∧ some k ≠ row ∧ (w0.heap.size ≤ k → ∀ o, wr.frozen? ⟨k, o, none⟩ = false)
theorem Far.below {lo k : Nat} {w0 wr w' : World} {row : Option Nat} (h : Far lo w0 wr row k) (hb : Below wr.heap.size wr w') : Far lo w0 w' row k :=
  ⟨h.1, Nat.lt_of_lt_of_le h.2.1 hb.size, h.2.2.1, fun hk o => (hb.frozen (p := ⟨k, o, none⟩) h.2.1).trans (h.2.2.2 hk o)⟩
def NdSt (lo : Nat) (w0 : World) (L : List NB) (v : Value) (wr : World) : Prop :=
  wr.ownsRow w0.heap.size 39 6 v L.length (L.flatMap nbCells) ∧ (∀ b ∈ L, NdIn b.n b.x b.y b.z b.A b.c wr (Far lo w0 wr v.ownBlock)) ∧ Below w0.heap.size w0 wr
theorem NdSt.nil (lo : Nat) {w wr : World} (hb : Below w.heap.size w wr) : NdSt lo w [] (.slice none 0 0) wr := ⟨World.ownsRow_nil _ _ _ _, (fun b hb => by cases hb), hb⟩
theorem NdSt.below {lo : Nat} {w wr w' : World} {L : List NB} {v : Value} (h : NdSt lo w L v wr) (hb : Below wr.heap.size wr w') : NdSt lo w L v w' :=
  ⟨own_belowK h.1 hb (Nat.le_refl _), fun b hm => (h.2.1 b hm).keep (fun k hk => hk.below hb) fun b o hk => hb.cell (p := ⟨b, o, none⟩) hk.2.1, stp h.2.2 hb⟩
theorem NdSt.more {lo : Nat} {w wr w2 w5 : World} {L M : List NB} {v v5 : Value} (h : NdSt lo w L v wr) (hb : Below wr.heap.size wr w2) (hM : ∀ b ∈ M, NdIn b.n b.x b.y b.z b.A b.c w2 (Far lo w w2 v.ownBlock))
    (hown : w5.ownsRow w.heap.size 39 6 v5 (L.length + M.length) (L.flatMap nbCells ++ M.flatMap nbCells)) (hgr : w2.grownBy w5 v.ownBlock) (hlie : v5.ownBlock = v.ownBlock ∨ v5.ownBlock = some w2.heap.size) : NdSt lo w (L ++ M) v5 w5 := by
  have h2 := h.below hb
  refine ⟨by rw [List.length_append, List.flatMap_append]; exact hown, fun b hm => ?_, h2.2.2.grown hgr ?_ fun k hk => (h.1.lt k hk).1⟩
  · have hb0 : NdIn b.n b.x b.y b.z b.A b.c w2 (Far lo w w2 v.ownBlock) := by
      rcases List.mem_append.1 hm with hm | hm
      · exact h2.2.1 b hm
      · exact hM b hm
    refine hb0.keep (fun k hk => ⟨hk.1, Nat.lt_of_lt_of_le hk.2.1 hgr.size, ?_, fun hk2 o => (hgr.frozen_far ⟨k, o, none⟩ hk.2.1 hk.2.2.1).trans (hk.2.2.2 hk2 o)⟩) fun k o hk => hgr.cell_far ⟨k, o, none⟩ hk.2.1 hk.2.2.1
    rcases hlie with e | e
    · rw [e]; exact hk.2.2.1
    · rw [e]
      intro e2
      injection e2 with e2
      have := hk.2.1
      omega
  · have := h2.2.2.size
    omega
structure NdOut (lo : Nat) (w0 : World) (v : List Nd) (A : Option Addr) (c : Nat) (w : World) : Prop where
  rd : RdS NdS w (Far lo w0 w none) A v
  le : v.length ≤ c
  cm : c ≤ maxLen
  nil : A = none → c = 0
theorem NdOut.below {lo : Nat} {w0 : World} {v : List Nd} {A : Option Addr} {c : Nat} {w w' : World} (h : NdOut lo w0 v A c w) (hb : Below w.heap.size w w') : NdOut lo w0 v A c w' :=
  ⟨h.rd.keep (fun k hk => hk.below hb) fun b o hk => hb.cell (p := ⟨b, o, none⟩) hk.2.1, h.le, h.cm, h.nil⟩
theorem NdOut.all {lo : Nat} {w0 : World} {v : List Nd} {A : Option Addr} {c : Nat} {w : World} (h : NdOut lo w0 v A c w) : RdB NdS w A v := h.rd.mono fun b hb => hb.2.1
theorem NdOut.none (lo : Nat) (w0 w : World) : NdOut lo w0 [] none 0 w := ⟨RdS.nil _ _ _, Nat.le_refl _, Nat.zero_le _, fun _ => rfl⟩
theorem NdSt.read {lo : Nat} {w wr : World} {L : List NB} {A : Option Addr} {n c : Nat} (h : NdSt lo w L (.slice A n c) wr) (hlo : lo ≤ w.heap.size) : NdOut lo w (L.map NB.n) A c wr ∧ L.length = n := by
  have hn : n = L.length := by
    have h1 := h.1
    rcases h1.2 with ⟨e, h0⟩ | ⟨g, cap, cur, hv, _⟩
    · injection e with _ e _; omega
    · injection hv with _ e _
  subst hn
  obtain ⟨r1, r2, r3, r4, r5⟩ := RdS.of_own (C := NdS) (S := Far lo w wr none) nbCells NB.n (fun _ => rfl) (by decide) L (fun b hm => ⟨b.x, b.y, b.z, b.A, b.c, rfl, (h.2.1 b hm).keep (fun k hk => ⟨hk.1, hk.2.1, by simp, hk.2.2.2⟩) fun _ _ _ => rfl⟩) (fun g hg => by
    have h3 := h.1.lt g hg
    refine ⟨by omega, h3.2, by simp, fun _ o => ?_⟩
    rcases h.1.2 with ⟨e, h0⟩ | ⟨g', cap, cur, hv, hb', hg', _⟩
    · rw [e] at hg; cases hg
    · rw [hv] at hg
      have : g' = g := by simpa [Value.ownBlock] using hg
      subst this
      exact freeV wr _ o _ _ hg') h.1
  exact ⟨⟨r1, by rw [List.length_map]; exact r3, r4, r5⟩, rfl⟩
theorem ats_own {lo base : Nat} {w0 w : World} {A : Option Addr} {n c : Nat} {row : Option Nat} {l : List At} (h : w.ownsRow base 41 3 (.slice A n c) n ((l.map abOf).flatMap abCells)) (hlo : lo ≤ base) (hrow : ∀ k, row = some k → k < base) :
    RdS AtS w (Far lo w0 w row) A l ∧ l.length = n ∧ n ≤ c ∧ c ≤ maxLen ∧ (A = none → c = 0) := by
  obtain ⟨r1, r2, r3, r4, r5⟩ := RdS.of_own (C := AtS) (S := Far lo w0 w row) abCells abVal (fun _ => rfl) (by decide) (l.map abOf) (fun b _ => ab_R _ _ b) (fun g hg => by
    have h3 := h.lt g hg
    refine ⟨by omega, h3.2, fun e => ?_, fun _ o => ?_⟩
    · have := hrow g e.symm
      omega
    · rcases h.2 with ⟨e, h0⟩ | ⟨g', cap, cur, hv, hb', hg', _⟩
      · rw [e] at hg; cases hg
      · rw [hv] at hg
        have : g' = g := by simpa [Value.ownBlock] using hg
        subst this
        exact freeV w _ o _ _ hg') h
  rw [map_abOf] at r1
  rw [List.length_map] at r2
  exact ⟨r1, r2, r3, r4, r5⟩
theorem infoNd : (Tryz.prog.info? 39).map (fun i => (i.zero, i.size, i.bytes)) = some (some (.agg #[.int .u8 0, .string ⟨#[]⟩, .string ⟨#[]⟩, .slice none 0 0, .string ⟨#[]⟩, .int .i64 0]), 6, 88) := by kernel_rfl
theorem infoAt : (Tryz.prog.info? 41).map (fun i => (i.zero, i.size, i.bytes)) = some (some (.agg #[.string ⟨#[]⟩, .string ⟨#[]⟩, .string ⟨#[]⟩]), 3, 48) := by kernel_rfl
theorem sizeNd : (Tryz.prog.info? 39).map (·.size) = some 6 := by kernel_rfl
theorem sizeAt : (Tryz.prog.info? 41).map (·.size) = some 3 := by kernel_rfl
end Hx
end Go.Proofs.YteobcohjikjalaaGreatDoor
set_option linter.unusedSimpArgs false
namespace Go.Proofs.YteobcohjikjalaaGreatDoor
namespace Ns
open Lx Tr Tx Nmb Es
set_option linter.unusedVariables false
def walkK (g : List Nd → (List Nd × Bool) × List Nd) : Nat → List Nd → (List Nd × Bool) × List Nd
  | 0, l => (([], true), l)
  | k + 1, l => (((g l).1.1 ++ (walkK g k (g l).2).1.1, (g l).1.2 && (walkK g k (g l).2).1.2), (walkK g k (g l).2).2)
def walkD {ε : Type} (f : ε → Nd → Nd × Bool) (dn : ε → Nd → ε) : Nat → ε → List Nd → (List Nd × Bool) × List Nd
  | _, _, [] => (([], true), [])
  | 0, _, n :: l => (([n], true), l)
  | d + 1, e, n :: l => if n.kind = 2 then (([n], true), l) else
    (((f e n).1 :: (walkK (walkD f dn d (dn e n)) n.many.toNat l).1.1, (f e n).2 && (walkK (walkD f dn d (dn e n)) n.many.toNat l).1.2), (walkK (walkD f dn d (dn e n)) n.many.toNat l).2)
theorem atsOk_iff {l : List At} : atsOk l = true ↔ (∀ a ∈ l, fullL a.name = true ∧ okT a.value = true ∧ okT a.space = true) ∧ (l.map key).Nodup ∧ l.length ≤ 16 := by
  unfold atsOk
  rw [Bool.and_eq_true, Bool.and_eq_true, decide_eq_true_eq, decide_eq_true_eq, List.all_eq_true, and_assoc]
  refine and_congr ⟨fun h a ha => ?_, fun h a ha => ?_⟩ Iff.rfl
  · have := h a ha
    unfold atOk at this
    rw [Bool.and_eq_true, Bool.and_eq_true] at this
    exact ⟨this.1.1, this.1.2, this.2⟩
  · unfold atOk
    rw [(h a ha).1, (h a ha).2.1, (h a ha).2.2]; rfl
section gen
variable {ε ι : Type} {f : ε → Nd → Nd × Bool} {dn : ε → Nd → ε} {f2 : ι → Nd → Nd × Bool} {dn2 : ι → Nd → ι}
theorem walkK_rest {d : Nat} (hd : ∀ l r e, restD d l = some r → (walkD f dn d e l).2 = r ∧ (walkD f dn d e l).1.1.length + r.length = l.length) (e : ε) : ∀ (k : Nat) (b : Bool) (l : List Nd) (b' : Bool) (r : List Nd), kidsD (restD d) k b l = some (b', r) → (walkK (walkD f dn d e) k l).2 = r ∧ (walkK (walkD f dn d e) k l).1.1.length + r.length = l.length := by
  intro k
  induction k with
  | zero =>
    intro b l b' r h
    rw [kidsD] at h
    obtain ⟨rfl, rfl⟩ := (Prod.mk.injEq _ _ _ _).mp (Option.some.inj h)
    rw [walkK]
    exact ⟨rfl, by simp⟩
  | succ k ih =>
    intro b l b' r h
    cases l with
    | nil => rw [kidsD] at h; cases h
    | cons n l =>
      rw [kidsD] at h
      by_cases hb : b = true ∧ n.kind = 2
      · rw [if_pos hb] at h; cases h
      · rw [if_neg hb] at h
        cases hn : restD d (n :: l) with
        | none => rw [hn] at h; cases h
        | some y =>
          rw [hn] at h
          obtain ⟨h1, h2⟩ := hd _ _ e hn
          obtain ⟨h3, h4⟩ := ih _ _ _ _ h
          rw [walkK, h1]
          refine ⟨h3, ?_⟩
          show ((walkD f dn d e (n :: l)).1.1 ++ (walkK (walkD f dn d e) k y).1.1).length + r.length = _
          rw [List.length_append]
          omega
theorem walkD_rest : ∀ (d : Nat) (l r : List Nd) (e : ε), restD d l = some r → (walkD f dn d e l).2 = r ∧ (walkD f dn d e l).1.1.length + r.length = l.length := by
  intro d
  induction d with
  | zero =>
    intro l r e h
    cases l with
    | nil => rw [restD] at h; cases h
    | cons n l =>
      rw [restD] at h
      by_cases hn : ndOk n = true ∧ n.kind = 2
      · rw [if_pos hn] at h
        injection h with h
        subst h
        rw [walkD]
        exact ⟨rfl, by simp; omega⟩
      · rw [if_neg hn] at h; cases h
  | succ d ih =>
    intro l r e h
    cases l with
    | nil => rw [restD] at h; cases h
    | cons n l =>
      rw [restD] at h
      by_cases hn : ndOk n = true ∧ 0 ≤ n.many
      · rw [if_pos hn] at h
        cases hk : kidsD (restD d) n.many.toNat false l with
        | none => rw [hk] at h; cases h
        | some y =>
          rw [hk] at h
          obtain ⟨b', y⟩ := y
          have h : y = r := Option.some.inj h
          subst h
          rw [walkD]
          by_cases h2 : n.kind = 2
          · rw [if_pos h2]
            have hm := (ndOk_two hn.1 h2).1
            rw [hm] at hk
            have hk : some (false, l) = some (b', y) := hk
            obtain ⟨_, rfl⟩ := (Prod.mk.injEq _ _ _ _).mp (Option.some.inj hk)
            exact ⟨rfl, by simp; omega⟩
          · rw [if_neg h2]
            obtain ⟨h3, h4⟩ := walkK_rest ih (dn e n) _ _ _ _ _ hk
            exact ⟨h3, by show ((f e n).1 :: (walkK (walkD f dn d (dn e n)) n.many.toNat l).1.1).length + y.length = _; rw [List.length_cons, List.length_cons]; omega⟩
      · rw [if_neg hn] at h; cases h
end gen
def xmlns5 : List UInt8 := [120, 109, 108, 110, 115]
def xml3 : List UInt8 := [120, 109, 108]
def ofXml : List UInt8 := [104, 116, 116, 112, 58, 47, 47, 119, 119, 119, 46, 119, 51, 46, 111, 114, 103, 47, 88, 77, 76, 47, 49, 57, 57, 56, 47, 110, 97, 109, 101, 115, 112, 97, 99, 101]
def ofXmlns : List UInt8 := [104, 116, 116, 112, 58, 47, 47, 119, 119, 119, 46, 119, 51, 46, 111, 114, 103, 47, 50, 48, 48, 48, 47, 120, 109, 108, 110, 115, 47]
def decl (nm : List UInt8) : Option (List UInt8) := match cutC nm with
  | some (a, b) => if a = xmlns5 then some b else none
  | none => if nm = xmlns5 then some [] else none
def rightD (p v : List UInt8) : Bool := if p = xml3 then decide (v = ofXml) else decide (p ≠ xmlns5) && decide (v ≠ ofXml) && decide (v ≠ ofXmlns) && (decide (p = []) || decide (v ≠ []))
def declL : List At → List UInt8 → Option (List UInt8)
  | [], _ => none
  | a :: l, p => if decl a.name = some p then some a.value else declL l p
def lookE : List (List At) → List UInt8 → List UInt8 × Bool
  | [], p => if p = xml3 then (ofXml, true) else ([], decide (p = []))
  | l :: E, p => match declL l p with
    | some v => (v, true)
    | none => lookE E p
def nameP (nm : List UInt8) : List UInt8 × List UInt8 := match cutC nm with
  | some x => x
  | none => ([], nm)
def atE (E : List (List At)) (a : At) : At × Bool := match cutC a.name with
  | some (x, y) => (⟨(lookE E x).1, y, a.value⟩, (lookE E x).2)
  | none => (⟨[], a.name, a.value⟩, true)
def hasK (l : List At) (a : At) : Bool := l.any fun b => decide (key b = key a)
def atsE (E : List (List At)) : List At → List At → List At × Bool
  | acc, [] => (acc, true)
  | acc, a :: l => match decl a.name with
    | some p => ((atsE E acc l).1, rightD p a.value && (atsE E acc l).2)
    | none => ((atsE E (acc ++ [(atE E a).1]) l).1, ((atE E a).2 && !hasK acc (atE E a).1) && (atsE E (acc ++ [(atE E a).1]) l).2)
def ndE (E : List (List At)) (n : Nd) : Nd × Bool := (⟨1, (lookE E (nameP n.name).1).1, (nameP n.name).2, (atsE E [] n.attrs).1, [], n.many⟩, (lookE E (nameP n.name).1).2 && (atsE E [] n.attrs).2)
def resF (E : List (List At)) (n : Nd) : Nd × Bool := ndE (n.attrs :: E) n
def resDn (E : List (List At)) (n : Nd) : List (List At) := n.attrs :: E
def resW (v : List Nd) : (List Nd × Bool) × List Nd := walkD resF resDn 12 [] v
def resolveR (v : List Nd) : List Nd × Int := if mayV v = true ∧ rawV v = true then (if (resW v).1.2 = true then ((resW v).1.1, 0) else ([], 110)) else ([], 8)
def mayAn (a : At) : Bool := nameL a.name && !(decide (a.space = []) && decide (a.name = xmlns5)) && decide (a.space ≠ ofXmlns)
def mayNs (n : Nd) : Bool := (decide (n.kind ≠ 1) || nameL n.name) && decide (n.space ≠ ofXml) && decide (n.space ≠ ofXmlns) && n.attrs.all mayAn
def mayS (v : List Nd) : Bool := v.all mayNs && mayV v
def checkS (v : List Nd) : Int := if mayS v = true then 0 else 8
def spacesL : List (List UInt8) → List At → List (List UInt8)
  | acc, [] => acc
  | acc, a :: l => if a.space = [] ∨ a.space = ofXml ∨ a.space ∈ acc then spacesL acc l else spacesL (acc ++ [a.space]) l
def prefN (i : Nat) : List UInt8 := 110 :: dg (i + 1)
def bareA (S : List (List UInt8)) (a : At) : At :=
  if a.space = [] then ⟨[], a.name, a.value⟩ else if a.space = ofXml then ⟨[], xml3 ++ 58 :: a.name, a.value⟩ else ⟨[], prefN (S.idxOf a.space) ++ 58 :: a.name, a.value⟩
def numD : Nat → List (List UInt8) → List At
  | _, [] => []
  | i, s :: S => ⟨[], xmlns5 ++ 58 :: prefN i, s⟩ :: numD (i + 1) S
def ownD (outer : List UInt8) (n : Nd) : List At := if n.space = outer then [] else [⟨[], xmlns5, n.space⟩]
def bareL (outer : List UInt8) (n : Nd) : List At := ownD outer n ++ (numD 0 (spacesL [] n.attrs) ++ n.attrs.map (bareA (spacesL [] n.attrs)))
def bareN (outer : List UInt8) (n : Nd) : Nd := ⟨1, [], n.name, bareL outer n, [], n.many⟩
def bareF (outer : List UInt8) (n : Nd) : Nd × Bool := (bareN outer n, decide ((bareL outer n).length ≤ 16))
def bareDn (outer : List UInt8) (n : Nd) : List UInt8 := n.space
def bareW (v : List Nd) (outer : List UInt8) : (List Nd × Bool) × List Nd := walkD bareF bareDn 12 outer v
def bareR (v : List Nd) (outer : List UInt8) : List Nd × Int := if mayS v = true ∧ okT outer = true ∧ outer ≠ ofXml ∧ outer ≠ ofXmlns then (if (bareW v outer).1.2 = true then ((bareW v outer).1.1, 0) else ([], 4)) else ([], 8)
theorem cutC_put : ∀ {a b : List UInt8}, (58 : UInt8) ∉ a → cutC (a ++ 58 :: b) = some (a, b)
  | [], b, _ => by rw [List.nil_append, cutC, if_pos rfl]
  | c :: a, b, h => by
    rw [List.mem_cons, not_or] at h
    rw [List.cons_append, cutC, if_neg (Ne.symm h.1), cutC_put h.2]
    rfl
theorem cutC_out : ∀ {l : List UInt8}, (58 : UInt8) ∉ l → cutC l = none
  | [], _ => rfl
  | c :: l, h => by
    rw [List.mem_cons, not_or] at h
    rw [cutC, if_neg (Ne.symm h.1), cutC_out h.2]
    rfl
theorem nameL_58 {l : List UInt8} (h : nameL l = true) : (58 : UInt8) ∉ l := fun hm => by
  have := nameL_all h 58 hm
  revert this
  decide
theorem nameL_cut {l : List UInt8} (h : nameL l = true) : cutC l = none := cutC_out (nameL_58 h)
theorem xmlns_name : nameL xmlns5 = true := by decide +kernel
theorem declL_app : ∀ (l m : List At) (p : List UInt8), declL (l ++ m) p = match declL l p with | some v => some v | none => declL m p
  | [], m, p => rfl
  | a :: l, m, p => by
    rw [List.cons_append, declL, declL]
    by_cases h : decl a.name = some p
    · rw [if_pos h, if_pos h]
    · rw [if_neg h, if_neg h]
      exact declL_app l m p
theorem declL_no : ∀ {l : List At} {p : List UInt8}, (∀ a ∈ l, decl a.name ≠ some p) → declL l p = none
  | [], p, _ => rfl
  | a :: l, p, h => by
    rw [declL, if_neg (h a List.mem_cons_self)]
    exact declL_no fun b hb => h b (List.mem_cons_of_mem _ hb)
theorem declL_mem : ∀ {l : List At} {p v : List UInt8}, declL l p = some v → ∃ a ∈ l, decl a.name = some p ∧ a.value = v
  | [], p, v, h => by cases h
  | a :: l, p, v, h => by
    rw [declL] at h
    by_cases hd : decl a.name = some p
    · rw [if_pos hd] at h
      exact ⟨a, List.mem_cons_self, hd, Option.some.inj h⟩
    · rw [if_neg hd] at h
      obtain ⟨b, hb, h1⟩ := declL_mem h
      exact ⟨b, List.mem_cons_of_mem _ hb, h1⟩
theorem numD_len : ∀ (i : Nat) (S : List (List UInt8)), (numD i S).length = S.length
  | _, [] => rfl
  | i, s :: S => by rw [numD, List.length_cons, numD_len, List.length_cons]
theorem spacesL_mem : ∀ (l : List At) (acc : List (List UInt8)), (∀ s ∈ acc, s ∈ spacesL acc l) ∧ (∀ a ∈ l, a.space ≠ [] → a.space ≠ ofXml → a.space ∈ spacesL acc l) ∧ ∀ s ∈ spacesL acc l, s ∈ acc ∨ ∃ a ∈ l, a.space = s ∧ s ≠ [] ∧ s ≠ ofXml
  | [], acc => ⟨fun s h => h, (fun a h => by cases h), fun s h => .inl h⟩
  | a :: l, acc => by
    rw [spacesL]
    by_cases h : a.space = [] ∨ a.space = ofXml ∨ a.space ∈ acc
    · rw [if_pos h]
      obtain ⟨h1, h2, h3⟩ := spacesL_mem l acc
      refine ⟨h1, fun b hb k1 k2 => ?_, fun s hs => ?_⟩
      · rcases List.mem_cons.1 hb with rfl | hb
        · rcases h with h | h | h
          · exact absurd h k1
          · exact absurd h k2
          · exact h1 _ h
        · exact h2 b hb k1 k2
      · rcases h3 s hs with k | ⟨b, hb, k⟩
        · exact .inl k
        · exact .inr ⟨b, List.mem_cons_of_mem _ hb, k⟩
    · rw [if_neg h]
      obtain ⟨h1, h2, h3⟩ := spacesL_mem l (acc ++ [a.space])
      refine ⟨fun s hs => h1 s (List.mem_append.2 (.inl hs)), fun b hb k1 k2 => ?_, fun s hs => ?_⟩
      · rcases List.mem_cons.1 hb with rfl | hb
        · exact h1 _ (List.mem_append.2 (.inr (List.mem_singleton.2 rfl)))
        · exact h2 b hb k1 k2
      · rcases h3 s hs with k | ⟨b, hb, k⟩
        · rcases List.mem_append.1 k with k | k
          · exact .inl k
          · obtain rfl := List.mem_singleton.1 k
            exact .inr ⟨a, List.mem_cons_self, rfl, fun e => h (.inl e), fun e => h (.inr (.inl e))⟩
        · exact .inr ⟨b, List.mem_cons_of_mem _ hb, k⟩
theorem fullL_cut {l a b : List UInt8} (h : fullL l = true) (hc : cutC l = some (a, b)) : nameL a = true ∧ nameL b = true := by
  unfold fullL at h
  rw [hc] at h
  simp only [Bool.and_eq_true] at h
  exact ⟨h.2, h.1⟩
theorem mayS_iff {v : List Nd} : mayS v = true ↔ (∀ n ∈ v, mayNs n = true) ∧ mayV v = true := by
  unfold mayS
  rw [Bool.and_eq_true, List.all_eq_true]
end Ns
end Go.Proofs.YteobcohjikjalaaGreatDoor
set_option linter.unusedSimpArgs false
namespace Go.Proofs.YteobcohjikjalaaGreatDoor
open Go.RowKit
namespace Hx
open Lx Tr Tx Nmb Es Ns
set_option maxRecDepth 100000
set_option maxHeartbeats 16000000
set_option linter.unusedVariables false
def atV (a : AB) : Value := .agg #[.string a.x, .string a.y, .string a.z]
def keyV (k : List UInt8) : Value := .string ⟨k.toArray⟩
def lookD : List (List UInt8 × AB) → List UInt8 → Option AB
  | [], _ => none
  | p :: D, k => if p.1 = k then some p.2 else lookD D k
def insD : List (List UInt8 × AB) → List UInt8 → AB → List (List UInt8 × AB)
  | [], k, a => [(k, a)]
  | p :: D, k, a => if p.1 = k then (k, a) :: D else p :: insD D k a
theorem lookD_ins : ∀ (D : List (List UInt8 × AB)) (k : List UInt8) (a : AB) (j : List UInt8), lookD (insD D k a) j = if k = j then some a else lookD D j
  | [], k, a, j => rfl
  | p :: D, k, a, j => by
    rw [insD]
    by_cases h : p.1 = k
    · rw [if_pos h, lookD, lookD]
      by_cases hj : k = j
      · rw [if_pos hj, if_pos hj]
      · rw [if_neg hj, if_neg hj, if_neg (by rw [h]; exact hj)]
    · rw [if_neg h, lookD, lookD, lookD_ins D k a j]
      by_cases hj : p.1 = j
      · rw [if_pos hj, if_pos hj, if_neg (by rw [← hj]; exact fun e => h e.symm)]
      · rw [if_neg hj, if_neg hj]
def MapD (w : World) (b : Nat) (D : List (List UInt8 × AB)) : Prop := ∃ (es : Array MapEntry) (clock : Nat), w.heap[b]? = some (.map es clock) ∧ es.toList.map (fun e => (e.key, e.val)) = D.map fun p => (keyV p.1, atV p.2)
theorem MapD.kept {w w' : World} {b : Nat} {D : List (List UInt8 × AB)} (h : MapD w b D) (hb : w'.heap[b]? = w.heap[b]?) : MapD w' b D := by
  obtain ⟨es, clock, h1, h2⟩ := h
  exact ⟨es, clock, hb.trans h1, h2⟩
theorem keyV_same (k j : List UInt8) : Instr.sameNow .string (keyV k) (keyV j) = some (decide (k = j)) := by
  obtain ⟨r, h1, h2⟩ := MapKept.sameNow_of_keys (d := .string) (a := keyV k) (b := keyV j) trivial trivial
  rw [h1]
  congr 1
  by_cases h : k = j
  · rw [decide_eq_true h]
    exact h2.2 (by rw [h])
  · rw [decide_eq_false h]
    refine Bool.eq_false_iff.2 fun hr => h ?_
    have e := h2.1 hr
    unfold keyV at e
    injection e with e
    have := congrArg (fun b : ByteArray => b.data.toList) e
    simpa using this
theorem find_key (k : List UInt8) : ∀ (es : List MapEntry) (D : List (List UInt8 × AB)) (i : Nat), es.map (fun e => (e.key, e.val)) = D.map (fun p => (keyV p.1, atV p.2)) →
    (lookD D k = none ∧ Instr.findNow .string (keyV k) es i = some none ∧ insD D k = fun a => D ++ [(k, a)]) ∨ ∃ (a : AB) (D1 D2 : List (List UInt8 × AB)), lookD D k = some a ∧ Instr.findNow .string (keyV k) es i = some (some (i + D1.length, atV a)) ∧ D = D1 ++ (k, a) :: D2 ∧ insD D k = fun a' => D1 ++ (k, a') :: D2
  | [], [], i, _ => .inl ⟨rfl, rfl, rfl⟩
  | [], _ :: _, i, h => by cases h
  | _ :: _, [], i, h => by cases h
  | e :: es, p :: D, i, h => by
    rw [List.map_cons, List.map_cons] at h
    injection h with h1 h2
    injection h1 with h3 h4
    rw [lookD, Instr.findNow, h3, keyV_same]
    by_cases hp : p.1 = k
    · right
      refine ⟨p.2, [], D, by rw [if_pos hp], ?_, by rw [← hp]; rfl, by funext a; rw [insD, if_pos hp]; rfl⟩
      rw [decide_eq_true hp.symm, h4]
      rfl
    · rw [decide_eq_false fun e => hp e.symm, if_neg hp]
      rcases find_key k es D (i + 1) h2 with ⟨k1, k2, k3⟩ | ⟨a, D1, D2, k1, k2, k3, k4⟩
      · left
        refine ⟨k1, k2, ?_⟩
        funext a
        rw [insD, if_neg hp, k3]
        rfl
      · right
        refine ⟨a, p :: D1, D2, k1, ?_, by rw [k3]; rfl, by funext a'; rw [insD, if_neg hp, k4]; rfl⟩
        dsimp only
        rw [k2, List.length_cons]
        congr 3
        omega
theorem underD : Tryz.prog.underlying 46 = some (.map 9 41) := by kernel_rfl
theorem run_lookD {w : World} {b : Nat} {D : List (List UInt8 × AB)} (h : MapD w b D) (s : ByteArray) (k : List UInt8) (hs : s.data.toList = k) :
    (Instr.lookup 46 (.map (some b)) (.string s) true).run Tryz.prog w = .ok (.tuple #[atV ((lookD D k).getD ⟨⟨#[]⟩, ⟨#[]⟩, ⟨#[]⟩⟩), .bool (lookD D k).isSome]) w := by
  obtain ⟨es, clock, hb, he⟩ := h
  have hkv : Value.string s = keyV k := by unfold keyV; rw [← hs, ← ba_eq5 s]
  rw [hkv]
  have hk : MapKept.IsKey .string (keyV k) := trivial
  have hc := MapKept.run_checkKey (w := w) Tryz.underlying9 hk es.isEmpty 9999
  rcases find_key k es.toList D 0 he with ⟨k1, k2, _⟩ | ⟨a, D1, D2, k1, k2, _, _⟩
  · have hf := MapKept.run_findKey (w := w) Tryz.underlying9 k2
    rw [k1]
    simp [Instr.lookup, run_underlying underD, MapKept.run_getObj_map hb, hc, hf, Result.andThen, atV]
  · have hf := MapKept.run_findKey (w := w) Tryz.underlying9 k2
    rw [k1]
    simp [Instr.lookup, run_underlying underD, MapKept.run_getObj_map hb, hc, hf, Result.andThen]
theorem run_updD {w : World} {b : Nat} {D : List (List UInt8 × AB)} (h : MapD w b D) (s : ByteArray) (k : List UInt8) (hs : s.data.toList = k) (a : AB) :
    ∃ w', (Instr.mapUpdate 46 (.map (some b)) (.string s) (atV a)).run Tryz.prog w = .ok () w' ∧ MapD w' b (insD D k a) ∧ w'.heap.size = w.heap.size ∧ (∀ q, q ≠ b → w'.heap[q]? = w.heap[q]?) ∧ ∀ B, B ≤ b → Below B w w' := by
  obtain ⟨es, clock, hb, he⟩ := h
  have hkv : Value.string s = keyV k := by unfold keyV; rw [← hs, ← ba_eq5 s]
  rw [hkv]
  have hk : MapKept.IsKey .string (keyV k) := trivial
  have hc := MapKept.run_checkKey (w := w) Tryz.underlying9 hk false 9999
  have hbel : ∀ (o : Obj) (B : Nat), B ≤ b → Below B w { w with heap := w.heap.setIfInBounds b o } := fun o B hB => ⟨rfl, rfl, rfl, by simp, fun q hq => (MapKept.heap_set hb).2 q (by omega)⟩
  rcases find_key k es.toList D 0 he with ⟨k1, k2, k3⟩ | ⟨a0, D1, D2, k1, k2, k3, k4⟩
  · have hf := MapKept.run_findKey (w := w) Tryz.underlying9 k2
    refine ⟨_, ?_, ⟨_, _, (MapKept.heap_set (o' := .map (es.push ⟨keyV k, atV a, clock⟩) (clock + 1)) hb).1, ?_⟩, by simp, (MapKept.heap_set hb).2, hbel _⟩
    · simp [Instr.mapUpdate, run_underlying underD, MapKept.run_getObj_map hb, hc, hf, MapKept.run_setObj_map _ hb, Result.andThen]
    · rw [k3]
      simp [he]
  · have hf := MapKept.run_findKey (w := w) Tryz.underlying9 k2
    rw [Nat.zero_add] at hf
    have hlen : es.toList.length = D.length := by have := congrArg List.length he; simpa using this
    have hj : D1.length < es.size := by rw [← Array.length_toList, hlen, k3]; simp
    have hkey : (es[D1.length]'hj).key = keyV k := by
      have := congrArg (fun l => l[D1.length]?) he
      simp [k3] at this
      obtain ⟨e0, h1, h2, _⟩ := this
      rw [Array.getElem?_eq_getElem hj] at h1
      rw [Option.some.inj h1]
      exact h2
    have hst := MapKept.run_keyThatStays (P := Tryz.prog) (w := w) hk
    refine ⟨_, ?_, ⟨_, _, (MapKept.heap_set (o' := .map (es.modify D1.length fun e => { e with key := keyV k, val := atV a }) clock) hb).1, ?_⟩, by simp, (MapKept.heap_set hb).2, hbel _⟩
    · simp [Instr.mapUpdate, run_underlying underD, MapKept.run_getObj_map hb, hc, hf, hkey, hst, hj, MapKept.run_setObj_map _ hb, Result.andThen]
    · rw [k4, Array.toList_modify]
      rw [k3] at he
      have hs : es.toList = es.toList.take D1.length ++ (es[D1.length]'hj) :: es.toList.drop (D1.length + 1) := by
        rw [← Array.getElem_toList, ← List.drop_eq_getElem_cons (by simpa using hj), List.take_append_drop]
      have hl1 : (es.toList.take D1.length).length = D1.length := by rw [List.length_take, Array.length_toList]; exact Nat.min_eq_left (Nat.le_of_lt hj)
      obtain ⟨l1, hl1'⟩ : ∃ l1, es.toList.take D1.length = l1 := ⟨_, rfl⟩
      obtain ⟨l2, hl2'⟩ : ∃ l2, es.toList.drop (D1.length + 1) = l2 := ⟨_, rfl⟩
      obtain ⟨x, hx⟩ : ∃ x, es[D1.length]'hj = x := ⟨_, rfl⟩
      rw [hl1', hl2', hx] at hs
      rw [hl1'] at hl1
      rw [hs] at he ⊢
      rw [List.map_append, List.map_append, List.map_cons, List.map_cons] at he
      obtain ⟨e1, e2⟩ := List.append_inj he (by rw [List.length_map, List.length_map, hl1])
      have e3 := (List.cons.inj e2).2
      have hmod : ∀ (l1 : List MapEntry) (x : MapEntry) (l2 : List MapEntry) (f : MapEntry → MapEntry), (l1 ++ x :: l2).modify l1.length f = l1 ++ f x :: l2 := fun l1 x l2 f => by
        induction l1 with
        | nil => rfl
        | cons y l1 ih => rw [List.cons_append, List.length_cons, List.modify_succ_cons, ih]; rfl
      rw [← hl1, hmod, List.map_append, List.map_append, List.map_cons, List.map_cons, e1, e3]
theorem clone11 (b : Nat) (D : List (List UInt8 × AB)) (w : World) (h : MapD w b D) : Calls Tryz.prog 18 #[.map (some b)] w fun e w' => e = .returned (.map (some w.heap.size)) ∧ MapD w' w.heap.size D ∧ Below w.heap.size w w' ∧ w'.heap.size = w.heap.size + 1 := by
  obtain ⟨es, clock, hb, he⟩ := h
  have hq := fun w => run_eql_map_nil_sl (P := Tryz.prog) w 46 _ _ (some b) underD
  go_enter Tryz.func18, Tryz.ntmps18
  go_wp2
  rw [run_callFunc_extern Tryz.func37 (by kernel_rfl) (by kernel_rfl) (by kernel_rfl) (e := Extern.MapsClone.clone) (by kernel_rfl), run_maps_clone_sl w 46 hb]
  simp only [Result.andThen]
  rw [Oper.upon_value]
  go_wp2
  rw [run_typeAssert_map_sl _ 46 _ _ _ _ underD]
  simp only [Result.andThen]
  rw [Oper.upon_value]
  go_wp2
  go_ret
  exact ⟨rfl, ⟨es, clock, heap_alloc_new w _, he⟩, stpA (Below.refl _ _) _, World.size_alloc ..⟩
end Hx
end Go.Proofs.YteobcohjikjalaaGreatDoor
set_option linter.unusedSimpArgs false
namespace Go.Proofs.YteobcohjikjalaaGreatDoor
open Go.RowKit
namespace Hx
open Lx Tr
set_option maxRecDepth 100000
set_option maxHeartbeats 16000000
set_option linter.unusedVariables false
abbrev Ky := List UInt8 × List UInt8
def kyV (p : Ky) : Value := .agg #[.string ⟨p.1.toArray⟩, .string ⟨p.2.toArray⟩, .string ⟨#[]⟩]
theorem laidOutK : laidOutB Tryz.prog = true := by kernel_rfl
theorem rowK : (41 : TypeId) < Tryz.prog.types.size := of_decide_eq_true (by kernel_rfl)
theorem lawK : WideMaps.KeyLaw Tryz.prog 41 := deep_law_laid laidOutK (m := 2) (by omega) rowK (by kernel_rfl) (by rw [Tryz.underlying41])
theorem keyTK : Tryz.prog.keyType 41 = true := by kernel_rfl
def SmallK (p : Ky) : Prop := p.1.length ≤ 1000000 ∧ p.2.length ≤ 1000000
theorem keyOfK {p : Ky} (h : SmallK p) : ∃ l, keyOf Tryz.prog 41 (kyV p) = some l := by
  obtain ⟨c1, _, _, _, c3, _⟩ := cells_oneN
  have h1 : (⟨p.1.toArray⟩ : ByteArray).size ≤ maxLen := by
    have := h.1
    show p.1.toArray.size ≤ maxLen
    rw [List.size_toArray]
    unfold maxLen
    omega
  have h2 : (⟨p.2.toArray⟩ : ByteArray).size ≤ maxLen := by
    have := h.2
    show p.2.toArray.size ≤ maxLen
    rw [List.size_toArray]
    unfold maxLen
    omega
  have hf : (kyV p).formed Tryz.prog 41 = true := by
    unfold kyV
    simp [Value.formed, Tryz.underlying41, c3]
  have hk := keyTK
  unfold keyOf
  rw [Tryz.underlying41]
  dsimp only
  rw [if_pos (by rw [hk, hf]; rfl)]
  obtain ⟨m, hm⟩ : ∃ m, Tryz.prog.types.size + 1 = m + 2 := ⟨Tryz.prog.types.size - 1, by have h9 : (41 : Nat) < Tryz.prog.types.size := rowK; omega⟩
  rw [hm]
  simp [kyV, Value.cells, c1, c3, Program.keyLits, Tryz.underlying41, Tryz.underlying9, h1, h2, show (⟨#[]⟩ : ByteArray).size ≤ maxLen from Nat.zero_le _]
theorem kyV_inj {p q : Ky} (h : kyV p = kyV q) : p = q := by
  unfold kyV at h
  simp at h
  exact Prod.ext h.1 h.2
def MapN (w : World) (b : Nat) (D : List Ky) (m : Nat) : Prop := ((∀ p ∈ D, SmallK p) ∧ D.Nodup) ∧
  ∃ (es : Array MapEntry) (clock : Nat), w.heap[b]? = some (.map es clock) ∧ (∀ e ∈ es.toList, e.born < clock) ∧ (es.toList.map (·.born)).Nodup ∧ es.toList.map (·.key) = D.map kyV ∧ ∀ e ∈ es.toList, ∃ c : Nat, e.val = .int .i64 c ∧ c ≤ m
def addK (D : List Ky) (p : Ky) : List Ky := if p ∈ D then D else D ++ [p]
theorem MapN.kept {w w' : World} {b : Nat} {D : List Ky} {m : Nat} (h : MapN w b D m) (hb : w'.heap[b]? = w.heap[b]?) : MapN w' b D m := by
  obtain ⟨h0, es, clock, h1, h2⟩ := h
  exact ⟨h0, es, clock, hb.trans h1, h2⟩
structure Only (b : Nat) (w w' : World) : Prop where
  os : w'.os = w.os
  tape : w'.tape = w.tape
  output : w'.output = w.output
  size : w'.heap.size = w.heap.size
  block : ∀ k, k ≠ b → w'.heap[k]? = w.heap[k]?
theorem Only.below {b B : Nat} {w w' : World} (h : Only b w w') (hB : B ≤ b) : Below B w w' := ⟨h.os, h.tape, h.output, by rw [h.size]; exact Nat.le_refl _, fun k hk => h.block k (by omega)⟩
theorem Only.trans {b : Nat} {w w1 w2 : World} (h : Only b w w1) (k : Only b w1 w2) : Only b w w2 := ⟨k.os.trans h.os, k.tape.trans h.tape, k.output.trans h.output, k.size.trans h.size, fun x hx => (k.block x hx).trans (h.block x hx)⟩
theorem Only.set {b : Nat} {w : World} {o o' : Obj} (hb : w.heap[b]? = some o) : Only b w { w with heap := w.heap.setIfInBounds b o' } :=
  ⟨rfl, rfl, rfl, by simp, fun k hk => (MapKept.heap_set hb).2 k hk⟩
def T0 : TypeId := 96
theorem underK : Tryz.prog.underlying T0 = some (.map 41 3) := by kernel_rfl
theorem map_step {w : World} {b : Nat} {D : List Ky} {m : Nat} {p : Ky} (h : MapN w b D m) (hp : SmallK p) :
    ∃ (c st : Nat) (W1 W2 : World), c ≤ m ∧ (Instr.lookup T0 (.map (some b)) (kyV p) false).run Tryz.prog w = .ok (.int .i64 c) w ∧
      (Instr.mapEntry T0 (.map (some b)) (kyV p)).run Tryz.prog w = .ok (.tuple #[.int .i64 c, .int .i64 st]) W1 ∧
      (Instr.lookup T0 (.map (some b)) (kyV p) false).run Tryz.prog W1 = .ok (.int .i64 c) W1 ∧
      (Instr.entryStore T0 (.map (some b)) (.int .i64 st) (.int .i64 ((c : Int) + 1))).run Tryz.prog W1 = .ok () W2 ∧ MapN W2 b (addK D p) (m + 1) ∧ Only b w W1 ∧ Only b W1 W2 := by
  obtain ⟨⟨h0, h9⟩, es, clock, hb, h1, h2, h3, h4⟩ := h
  obtain ⟨l, hl⟩ := keyOfK hp
  have hks : ∀ e ∈ es.toList, ∃ l, keyOf Tryz.prog 41 e.key = some l := by
    intro e he
    have : e.key ∈ D.map kyV := by rw [← h3]; exact List.mem_map.2 ⟨e, he, rfl⟩
    obtain ⟨q, hq, e2⟩ := List.mem_map.1 this
    rw [← e2]
    exact keyOfK (h0 q hq)
  have hmem : p ∈ D ↔ ∃ e ∈ es.toList, e.key = kyV p := by
    constructor
    · intro hq
      have : kyV p ∈ es.toList.map (·.key) := by rw [h3]; exact List.mem_map.2 ⟨p, hq, rfl⟩
      obtain ⟨e, he, e2⟩ := List.mem_map.1 this
      exact ⟨e, he, e2⟩
    · rintro ⟨e, he, e2⟩
      have : e.key ∈ D.map kyV := by rw [← h3]; exact List.mem_map.2 ⟨e, he, rfl⟩
      obtain ⟨q, hq, e3⟩ := List.mem_map.1 this
      rw [← kyV_inj (e3.trans e2)]
      exact hq
  have look : ∀ (W : World) (es' : Array MapEntry) (cl : Nat) (v : Value) (r : Option (Nat × Value)), W.heap[b]? = some (.map es' cl) → (Instr.findKey 41 (kyV p) es'.toList).run Tryz.prog W = .ok r W → (match r with | some (_, x) => x | none => .int .i64 0) = v →
      (Instr.lookup T0 (.map (some b)) (kyV p) false).run Tryz.prog W = .ok v W := by
    intro W es' cl v r hW hf hv
    subst hv
    cases r with
    | none => simp [Instr.lookup, run_underlying underK, MapKept.run_getObj_map hW, lawK.check W es'.isEmpty hl, hf, Result.andThen]
    | some q => simp [Instr.lookup, run_underlying underK, MapKept.run_getObj_map hW, lawK.check W es'.isEmpty hl, hf, Result.andThen]
  rcases lawK.find w hl es.toList hks with ⟨f1, f2⟩ | ⟨j, e0, f1, f2, f3⟩
  · have hnot : p ∉ D := fun hq => by
      obtain ⟨e, he, e2⟩ := hmem.1 hq
      exact f2 e he e2
    have ho := Only.set (o' := .map (es.push ⟨kyV p, .int .i64 0, clock⟩) (clock + 1)) hb
    obtain ⟨W1, hW1⟩ : ∃ W1, ({ w with heap := w.heap.setIfInBounds b (.map (es.push ⟨kyV p, .int .i64 0, clock⟩) (clock + 1)) } : World) = W1 := ⟨_, rfl⟩
    rw [hW1] at ho
    have hb1 : W1.heap[b]? = some (.map (es.push ⟨kyV p, .int .i64 0, clock⟩) (clock + 1)) := by
      rw [← hW1]
      exact (MapKept.heap_set hb).1
    have ho2 := Only.set (o' := .map (es.push ⟨kyV p, .int .i64 (((0 : Nat) : Int) + 1), clock⟩) (clock + 1)) hb1
    have hidx : (es.push ⟨kyV p, .int .i64 0, clock⟩).findIdx? (fun e => ((e.born : Nat) : Int) == ((clock : Nat) : Int)) = some es.size := by
      rw [WideElems.findIdx_arr]
      have := WideElems.findIdx_born (l := (es.push ⟨kyV p, .int .i64 0, clock⟩).toList) (j := es.size) (e0 := ⟨kyV p, .int .i64 0, clock⟩) (by
        simp only [Array.toList_push, List.map_append, List.map_cons, List.map_nil]
        refine List.nodup_append.2 ⟨h2, by simp, fun a ha c hc e1 => ?_⟩
        simp only [List.mem_singleton] at hc
        obtain ⟨x, hx, rfl⟩ := List.mem_map.1 ha
        have := h1 x hx
        omega) (by simp)
      exact this
    have hmod : (es.push ⟨kyV p, .int .i64 0, clock⟩).modify es.size (fun e => { e with val := .int .i64 (((0 : Nat) : Int) + 1) }) = es.push ⟨kyV p, .int .i64 (((0 : Nat) : Int) + 1), clock⟩ := by
      apply Array.ext'
      rw [Array.toList_modify, Array.toList_push, Array.toList_push, ← Array.length_toList, WideElems.modify_last]
    have hks1 : ∀ e ∈ (es.push ⟨kyV p, .int .i64 0, clock⟩).toList, ∃ l, keyOf Tryz.prog 41 e.key = some l := by
      intro e he
      rw [Array.toList_push] at he
      rcases List.mem_append.1 he with he | he
      · exact hks e he
      · rw [List.mem_singleton] at he
        subst he
        exact ⟨l, hl⟩
    have hl1 : (Instr.lookup T0 (.map (some b)) (kyV p) false).run Tryz.prog W1 = .ok (.int .i64 0) W1 := by
      rcases lawK.find W1 hl _ hks1 with ⟨_, g2⟩ | ⟨j, e0, g1, g2, g3⟩
      · exact absurd rfl (g2 ⟨kyV p, .int .i64 0, clock⟩ (by simp))
      · refine look W1 _ _ _ _ hb1 g1 ?_
        have hm := List.mem_of_getElem? g2
        rw [Array.toList_push] at hm
        rcases List.mem_append.1 hm with hm | hm
        · exact absurd g3 (f2 e0 hm)
        · rw [List.mem_singleton] at hm
          rw [hm]
    refine ⟨0, clock, W1, _, Nat.zero_le _, look w es clock _ none hb f1 rfl, ?_, hl1, ?_, ?_, ho, ho2⟩
    · rw [← hW1]
      simp [Instr.mapEntry, run_underlying underK, MapKept.run_getObj_map hb, lawK.check w false hl, f1, MapKept.run_setObj_map _ hb, Result.andThen, goInt]
    · simp [Instr.entryStore, MapKept.run_getObj_map hb1, asInt, asIntOf, hidx, MapKept.run_setObj_map _ hb1, Result.andThen]
      rw [show (es.push ⟨kyV p, .int .i64 0, clock⟩).modify es.size (fun e => { e with val := .int .i64 1 }) = es.push ⟨kyV p, .int .i64 1, clock⟩ from hmod]
    · unfold addK
      rw [if_neg hnot]
      refine ⟨⟨fun q hq => ?_, List.nodup_append.2 ⟨h9, by simp, fun a ha c hc e => ?_⟩⟩, _, _, (MapKept.heap_set hb1).1, ?_, ?_, ?_, ?_⟩
      · rcases List.mem_append.1 hq with hq | hq
        · exact h0 q hq
        · rw [List.mem_singleton] at hq; rw [hq]; exact hp
      · rw [List.mem_singleton] at hc
        exact hnot (hc ▸ e ▸ ha)
      · intro e he
        rw [Array.toList_push] at he
        rcases List.mem_append.1 he with he | he
        · have := h1 e he; omega
        · rw [List.mem_singleton] at he; rw [he]; exact Nat.lt_succ_self _
      · rw [Array.toList_push, List.map_append]
        refine List.nodup_append.2 ⟨h2, by simp, fun a ha c hc e1 => ?_⟩
        simp only [List.map_cons, List.map_nil, List.mem_singleton] at hc
        obtain ⟨x, hx, rfl⟩ := List.mem_map.1 ha
        have := h1 x hx
        omega
      · rw [Array.toList_push, List.map_append, h3, List.map_append]
        rfl
      · intro e he
        rw [Array.toList_push] at he
        rcases List.mem_append.1 he with he | he
        · obtain ⟨c, hc, hcm⟩ := h4 e he
          exact ⟨c, hc, by omega⟩
        · rw [List.mem_singleton] at he
          subst he
          exact ⟨1, rfl, by omega⟩
  · have hin : p ∈ D := hmem.2 ⟨e0, List.mem_of_getElem? f2, f3⟩
    obtain ⟨c, hc, hcm⟩ := h4 e0 (List.mem_of_getElem? f2)
    have hj : es[j]? = some e0 := by simpa using f2
    have hsame : es.modify j (fun e => { e with key := kyV p }) = es := by
      apply Array.ext'
      rw [Array.toList_modify, ChangeMaps.modify_eq_set _ _ _ _ f2]
      have : ({ e0 with key := kyV p } : MapEntry) = e0 := by rw [← f3]
      rw [this]
      exact WideElems.set_self _ _ _ f2
    have ho := Only.set (o' := .map es clock) hb
    obtain ⟨W1, hW1⟩ : ∃ W1, ({ w with heap := w.heap.setIfInBounds b (.map es clock) } : World) = W1 := ⟨_, rfl⟩
    rw [hW1] at ho
    have hb1 : W1.heap[b]? = some (.map es clock) := by
      rw [← hW1]
      exact (MapKept.heap_set hb).1
    have ho2 := Only.set (o' := .map (es.modify j (fun e => { e with val := .int .i64 ((c : Int) + 1) })) clock) hb1
    have hidx : es.findIdx? (fun e => ((e.born : Nat) : Int) == ((e0.born : Nat) : Int)) = some j := by
      rw [WideElems.findIdx_arr]
      exact WideElems.findIdx_born h2 f2
    have hl1 : (Instr.lookup T0 (.map (some b)) (kyV p) false).run Tryz.prog W1 = .ok (.int .i64 c) W1 := by
      rcases lawK.find W1 hl _ hks with ⟨_, g2⟩ | ⟨j', e', g1, g2, g3⟩
      · exact absurd f3 (g2 e0 (List.mem_of_getElem? f2))
      · refine look W1 _ _ _ _ hb1 g1 ?_
        obtain ⟨hjl, hje⟩ := List.getElem?_eq_some_iff.1 f2
        obtain ⟨hjl', hje'⟩ := List.getElem?_eq_some_iff.1 g2
        have hnd : (es.toList.map (·.key)).Nodup := by
          rw [h3]
          exact List.Pairwise.map _ (fun a b hab e => hab (kyV_inj e)) h9
        have hjj : j' = j := by
          refine (List.getElem_inj (h₀ := by rw [List.length_map]; exact hjl') (h₁ := by rw [List.length_map]; exact hjl) hnd).1 ?_
          rw [List.getElem_map, List.getElem_map, hje, hje', f3, g3]
        subst hjj
        have g4 : e0 = e' := Option.some.inj (f2.symm.trans g2)
        rw [← g4]
        exact hc
    refine ⟨c, e0.born, W1, _, hcm, look w es clock _ _ hb f1 hc, ?_, hl1, ?_, ?_, ho, ho2⟩
    · rw [← hW1]
      simp [Instr.mapEntry, run_underlying underK, MapKept.run_getObj_map hb, lawK.check w false hl, f1, hj, f3, lawK.stays w hl, hsame, MapKept.run_setObj_map _ hb, Result.andThen, goInt, hc]
    · simp [Instr.entryStore, MapKept.run_getObj_map hb1, asInt, asIntOf, hidx, MapKept.run_setObj_map _ hb1, Result.andThen]
    · unfold addK
      rw [if_pos hin]
      have hset : (es.modify j (fun e => { e with val := .int .i64 ((c : Int) + 1) })).toList = es.toList.set j { e0 with val := .int .i64 ((c : Int) + 1) } := by
        rw [Array.toList_modify, ChangeMaps.modify_eq_set _ _ _ _ f2]
      refine ⟨⟨h0, h9⟩, _, _, (MapKept.heap_set hb1).1, ?_, ?_, ?_, ?_⟩
      · intro e he
        rw [hset] at he
        rcases List.mem_or_eq_of_mem_set he with he | he
        · exact h1 e he
        · rw [he]; exact h1 e0 (List.mem_of_getElem? f2)
      · rw [hset, List.map_set, WideElems.set_self _ _ _ (by rw [List.getElem?_map, f2]; rfl)]
        exact h2
      · rw [hset, List.map_set, WideElems.set_self _ _ _ (by rw [List.getElem?_map, f2]; rfl)]
        exact h3
      · intro e he
        rw [hset] at he
        rcases List.mem_or_eq_of_mem_set he with he | he
        · obtain ⟨c', hc', hcm'⟩ := h4 e he
          exact ⟨c', hc', by omega⟩
        · rw [he]
          exact ⟨c + 1, by simp, by omega⟩
end Hx
end Go.Proofs.YteobcohjikjalaaGreatDoor
