/-
  Texts of one seat, put together: SrbB, SrbC, SrbD.
-/
import Derived.Test.YteobcohjikjalaaGreatDoorSp30
import Derived.Test.YteobcohjikjalaaGreatDoorSp26
import Derived.Test.YteobcohjikjalaaGreatDoorSp14
import Derived.Test.YteobcohjikjalaaGreatDoorSp19
import Derived.Sort.CutIn
import Derived.Deep.DeepCutAuto
set_option linter.unusedSimpArgs false
namespace Go.Proofs.YteobcohjikjalaaGreatDoor
open Go.RowKit
namespace Hx
open Lx Tr Tx Nmb Es Ns
set_option linter.unusedVariables false
set_option linter.unusedSimpArgs false
theorem places_takes {g : List Nd → Option (List Nd)} : ∀ (m k p : Nat) (l : List Nd), k ≤ m → (places g m p l).take k = (places g k p l).take k := by
  intro m
  induction m with
  | zero =>
    intro k p l hk
    obtain rfl : k = 0 := by omega
    rfl
  | succ m ih =>
    intro k p l hk
    cases k with
    | zero => rfl
    | succ k =>
      rw [places, places, List.take_succ_cons, List.take_succ_cons]
      cases g l with
      | none => rfl
      | some r => exact congrArg _ (ih k _ r (by omega))
theorem under_ats {v : List Nd} {p j m : Nat} {b b0 : Bool} {r : List Nd} {p' : Nat} (hp : p < v.length) (hm : (v[p]'hp).many.toNat = m) (hall : kidsD (restD 12) m false (v.drop (p + 1)) = some (b0, r)) (hj : j < m) (h : kidsD (restD 12) j false (v.drop (p + 1)) = some (b, v.drop p')) (hp' : p' ≤ v.length) :
    (under v p).length = m ∧ (under v p)[j]? = some p' := by
  have hU : under v p = places (restD 12) m (p + 1) (v.drop (p + 1)) := by unfold under; rw [List.getElem?_eq_getElem hp, ← hm]
  obtain ⟨h1, _⟩ := places_lt (restD_loc 12) m (p + 1) _ _ _ _ hall
  have h2 := places_next (restD_loc 12) j (p + 1) false b _ _ h
  obtain ⟨h3, _⟩ := places_lt (restD_loc 12) j (p + 1) _ _ _ _ h
  have hl := kidsD_len h
  rw [List.length_drop, List.length_drop] at hl
  rw [List.length_drop, List.length_drop, show p + 1 + (v.length - (p + 1) - (v.length - p')) = p' by omega] at h2
  refine ⟨by rw [hU, h1], ?_⟩
  have h4 := places_takes (g := restD 12) m (j + 1) (p + 1) (v.drop (p + 1)) (by omega)
  have h5 : ((places (restD 12) m (p + 1) (v.drop (p + 1))).take (j + 1))[j]? = (places (restD 12) m (p + 1) (v.drop (p + 1)))[j]? := by
    rw [List.getElem?_take]
    simp
  rw [hU, ← h5, h4, h2, List.getElem?_take, if_pos (by omega), List.getElem?_append_right (by omega), h3]
  simp
theorem ints_ats {w W : World} {l : List Nat} {A : Option Addr} {c : Nat} (h : W.ownsRow w.heap.size 3 1 (.slice A l.length c) l.length ((zs l).map encZ)) (hp : 0 < l.length) :
    ∃ g, A = some ⟨g, 0, none⟩ ∧ w.heap.size ≤ g ∧ g < W.heap.size ∧ ∀ j (hj : j < l.length), W.cell? ⟨g, j, none⟩ = some (.int .i64 ((l[j]'hj : Nat) : Int)) := by
  have h9 := h
  rcases h.2 with ⟨e, h0⟩ | ⟨g, cap, cur, hv, _⟩
  · injection e with _ e _
    omega
  · injection hv with e1 e2 e3
    subst e1
    have hlt := h9.lt g rfl
    refine ⟨g, rfl, hlt.1, hlt.2, fun j hj => ?_⟩
    have := h9.cells (g := g) rfl j (.int .i64 ((l[j]'hj : Nat) : Int)) (by
      rw [List.getElem?_map, zs, List.getElem?_map, List.getElem?_eq_getElem hj]
      rfl)
    rw [addr_plain, Nat.zero_add] at this
    exact this
theorem walkK_snocs {g : List Nd → (List Nd × Bool) × List Nd} : ∀ (j : Nat) (l : List Nd), walkK g (j + 1) l = (((walkK g j l).1.1 ++ (g (walkK g j l).2).1.1, (walkK g j l).1.2 && (g (walkK g j l).2).1.2), (g (walkK g j l).2).2) := by
  intro j
  induction j with
  | zero => intro l; simp [walkK]
  | succ j ih =>
    intro l
    have h1 : ∀ k, walkK g (k + 1) l = (((g l).1.1 ++ (walkK g k (g l).2).1.1, (g l).1.2 && (walkK g k (g l).2).1.2), (walkK g k (g l).2).2) := fun k => by rw [walkK]
    rw [h1 (j + 1), ih, h1 j]
    simp [Bool.and_assoc]
theorem walkD_elems {ε : Type} {f : ε → Nd → Nd × Bool} {dn : ε → Nd → ε} {d : Nat} {e : ε} {n : Nd} {l : List Nd} (hk : n.kind ≠ 2) : walkD f dn (d + 1) e (n :: l) = (((f e n).1 :: (walkK (walkD f dn d (dn e n)) n.many.toNat l).1.1, (f e n).2 && (walkK (walkD f dn d (dn e n)) n.many.toNat l).1.2), (walkK (walkD f dn d (dn e n)) n.many.toNat l).2) := by
  rw [walkD, if_neg hk]

def UndTo (ul : List Nat) (m : Nat) (W : World) (e : Ending) (w' : World) : Prop := ∃ A c', e = .returned (.slice A m c') ∧ (0 < m → ∃ g, A = some ⟨g, 0, none⟩ ∧ W.heap.size ≤ g ∧ g < w'.heap.size ∧ ∀ (j q : Nat), ul[j]? = some q → w'.cell? ⟨g, j, none⟩ = some (.int .i64 (q : Int))) ∧ Below W.heap.size W w'
theorem UndTo.of {ul : List Nat} {m : Nat} {W w' : World} {e : Ending} (h : IntsTo ul W e w') (hm : ul.length = m) : UndTo ul m W e w' := by
  obtain ⟨hb, A, c, rfl, _, _, ho⟩ := h
  refine ⟨A, c, by rw [hm], fun h0 => ?_, hb⟩
  obtain ⟨g, rfl, h1, h2, h3⟩ := ints_ats ho (by omega)
  refine ⟨g, rfl, h1, h2, fun j q hq => ?_⟩
  obtain ⟨hj, e⟩ := List.getElem?_eq_some_iff.1 hq
  rw [h3 j hj, e]
def Ot (B : Nat) (w0 wr : World) (row : Option Nat) (k : Nat) : Prop := (k < B ∨ w0.heap.size ≤ k) ∧ k < wr.heap.size ∧ some k ≠ row
theorem Ot.below {B k : Nat} {w0 wr w' : World} {row : Option Nat} (h : Ot B w0 wr row k) (hb : Below wr.heap.size wr w') : Ot B w0 w' row k := ⟨h.1, Nat.lt_of_lt_of_le h.2.1 hb.size, h.2.2⟩
def OtSt (B : Nat) (w0 : World) (L : List NB) (v : Value) (wr : World) : Prop :=
  wr.ownsRow w0.heap.size 39 6 v L.length (L.flatMap nbCells) ∧ (∀ b ∈ L, NdIn b.n b.x b.y b.z b.A b.c wr (Ot B w0 wr v.ownBlock)) ∧ Below w0.heap.size w0 wr
theorem OtSt.below {B : Nat} {w wr w' : World} {L : List NB} {v : Value} (h : OtSt B w L v wr) (hb : Below wr.heap.size wr w') : OtSt B w L v w' :=
  ⟨own_belowK h.1 hb (Nat.le_refl _), fun b hm => (h.2.1 b hm).keep (fun k hk => hk.below hb) fun b o hk => hb.cell (p := ⟨b, o, none⟩) hk.2.1, stp h.2.2 hb⟩
theorem OtSt.one {B : Nat} {w w1 : World} (hb : Below w.heap.size w w1) (nb : NB) (h : NdIn nb.n nb.x nb.y nb.z nb.A nb.c w1 (Ot B w w1 none)) : OtSt B w [nb] (.slice (some ⟨w1.heap.size, 0, none⟩) 1 1) (w1.alloc (.cells (nbCells nb).toArray 39)) := by
  have hk := stpA (Below.refl w1.heap.size w1) (.cells (nbCells nb).toArray 39)
  refine ⟨⟨by simp [nbCells, ndCells], .inr ⟨w1.heap.size, 1, (nbCells nb).toArray, rfl, hb.size, heap_alloc_new _ _, Nat.le_refl _, by decide, by simp [nbCells, ndCells], by simp [nbCells, ndCells]⟩⟩, fun b' hb' => ?_, stp hb hk⟩
  obtain rfl := List.mem_singleton.1 hb'
  refine h.keep (fun k hkk => ⟨hkk.1, Nat.lt_of_lt_of_le hkk.2.1 hk.size, fun e => ?_⟩) fun b o hkk => hk.cell (p := ⟨b, o, none⟩) hkk.2.1
  have e3 : k = w1.heap.size := by simpa [Value.ownBlock] using e
  have := hkk.2.1
  omega
theorem OtSt.more {B : Nat} {w wr w2 w5 : World} {L M : List NB} {v v5 : Value} (hB : B ≤ w.heap.size) (h : OtSt B w L v wr) (hb : Below wr.heap.size wr w2) (hM : ∀ b ∈ M, NdIn b.n b.x b.y b.z b.A b.c w2 (Ot B wr w2 none))
    (hown : w5.ownsRow w.heap.size 39 6 v5 (L.length + M.length) (L.flatMap nbCells ++ M.flatMap nbCells)) (hgr : w2.grownBy w5 v.ownBlock) (hlie : v5.ownBlock = v.ownBlock ∨ v5.ownBlock = some w2.heap.size) : OtSt B w (L ++ M) v5 w5 := by
  have h2 := h.below hb
  have hsz := h.2.2.size
  refine ⟨by rw [List.length_append, List.flatMap_append]; exact hown, fun b hm => ?_, h2.2.2.grown hgr ?_ fun k hk => (h.1.lt k hk).1⟩
  · have hb0 : NdIn b.n b.x b.y b.z b.A b.c w2 (Ot B w w2 v.ownBlock) := by
      rcases List.mem_append.1 hm with hm | hm
      · exact h2.2.1 b hm
      · refine (hM b hm).keep (fun k hk => ⟨?_, hk.2.1, fun e => ?_⟩) fun _ _ _ => rfl
        · rcases hk.1 with h3 | h3
          · exact .inl h3
          · exact .inr (by omega)
        · have h3 := h.1.lt k e.symm
          rcases hk.1 with h4 | h4 <;> omega
    refine hb0.keep (fun k hk => ⟨hk.1, Nat.lt_of_lt_of_le hk.2.1 hgr.size, ?_⟩) fun k o hk => hgr.cell_far ⟨k, o, none⟩ hk.2.1 hk.2.2
    rcases hlie with e | e
    · rw [e]; exact hk.2.2
    · rw [e]
      intro e2
      injection e2 with e2
      have := hk.2.1
      omega
  · have := h2.2.2.size
    omega
structure OtRd (B : Nat) (w0 : World) (v : List Nd) (A : Option Addr) (c : Nat) (w : World) : Prop where
  rd : RdS NdS w (Ot B w0 w none) A v
  le : v.length ≤ c
  cm : c ≤ maxLen
  nil : A = none → c = 0
theorem OtRd.below {B : Nat} {w0 w w' : World} {v : List Nd} {A : Option Addr} {c : Nat} (h : OtRd B w0 v A c w) (hb : Below w.heap.size w w') : OtRd B w0 v A c w' :=
  ⟨h.rd.keep (fun k hk => hk.below hb) fun b o hk => hb.cell (p := ⟨b, o, none⟩) hk.2.1, h.le, h.cm, h.nil⟩
theorem OtRd.all {B : Nat} {w0 w : World} {v : List Nd} {A : Option Addr} {c : Nat} (h : OtRd B w0 v A c w) : RdB NdS w A v := h.rd.mono fun b hb => hb.2.1
theorem OtSt.read {B : Nat} {w wr : World} {L : List NB} {A : Option Addr} {n c : Nat} (h : OtSt B w L (.slice A n c) wr) : OtRd B w (L.map NB.n) A c wr ∧ L.length = n := by
  have hn : n = L.length := by
    have h1 := h.1
    rcases h1.2 with ⟨e, h0⟩ | ⟨g, cap, cur, hv, _⟩
    · injection e with _ e _; omega
    · injection hv with _ e _
  subst hn
  obtain ⟨r1, r2, r3, r4, r5⟩ := RdS.of_own (C := NdS) (S := Ot B w wr none) nbCells NB.n (fun _ => rfl) (by decide) L (fun b hm => ⟨b.x, b.y, b.z, b.A, b.c, rfl, (h.2.1 b hm).keep (fun k hk => ⟨hk.1, hk.2.1, by simp⟩) fun _ _ _ => rfl⟩) (fun g hg => by
    have h3 := h.1.lt g hg
    exact ⟨.inr h3.1, h3.2, by simp⟩) h.1
  exact ⟨⟨r1, by rw [List.length_map]; exact r3, r4, r5⟩, rfl⟩
def OtTo (B : Nat) (l : List Nd) (q : Bool) (w : World) (e : Ending) (w' : World) : Prop := ∃ A c, e = .returned (.tuple #[.slice A l.length c, .bool q]) ∧ OtRd B w l A c w' ∧ Below w.heap.size w w'
theorem OtRd.out {B : Nat} {w0 w : World} {l : List Nd} {A : Option Addr} {c : Nat} (h : OtRd B w0 l A c w) (hl : 0 < l.length) : ∃ (ad : Addr) (M : List NB), A = some ad ∧ M.map NB.n = l ∧ (∀ b ∈ M, NdIn b.n b.x b.y b.z b.A b.c w (Ot B w0 w none)) ∧ ∀ (j : Nat) (u : Value), (M.flatMap nbCells)[j]? = some u → w.cell? (ad.add j) = some u := by
  obtain ⟨b, off, _, _, _, _, _, hA, _⟩ := nd_at h.rd hl
  have h2 := h.rd
  rw [hA] at h2
  obtain ⟨M, h3, h4, h5⟩ := nodes_of h2
  exact ⟨_, M, hA, h3, h4, h5⟩
theorem nb_len (M : List NB) : (M.flatMap nbCells).length = M.length * 6 := by rw [flat_len nbCells 6 (fun _ => rfl) M]
end Hx
end Go.Proofs.YteobcohjikjalaaGreatDoor
set_option linter.unusedSimpArgs false
namespace Go.Proofs.YteobcohjikjalaaGreatDoor
open Go.RowKit
namespace Hx
open Lx Tr Tx Nmb Es Ns
set_option maxRecDepth 100000
set_option maxHeartbeats 16000000
set_option linter.unusedVariables false
set_option linter.unusedSimpArgs false
section
variable {P : Program} {ops : Array Oper} {Q : Exit → Act → World → Prop} {md : Region.Mode} {S : World → Prop} {z : Nat}
theorem pickZ {i : Nat} {oi : Oper} {rest : List Oper} {fuel : Nat} {listed : Array Bool} {a : Act} {w : World} (hd : ops.toList.drop i = oi :: rest)
    (h : ∀ K' : Act → World → Prop, Shut (∀ a w, (i ≠ z → S w) → ((i ≠ z → S w) → wpAnyZ P md ops Q S z fuel (listed.setIfInBounds i true) a w) → K' a w) → if Region.wanted oi (yielded ops a.tmps) = true then Oper.wp P oi a w K' Q else K' (a.put oi.dst undef) w) :
    wpOp P ops Q i (fun a' w' => (i ≠ z → S w') ∧ wpAnyZ P md ops Q S z fuel (listed.setIfInBounds i true) a' w') a w := by
  have hi : ops[i]? = some oi := by
    have e : (ops.toList.drop i)[0]? = some oi := by rw [hd]; rfl
    rw [List.getElem?_drop, Nat.add_zero] at e
    simpa using e
  have := h (fun a' w' => (i ≠ z → S w') ∧ wpAnyZ P md ops Q S z fuel (listed.setIfInBounds i true) a' w') (fun a w hS hk => ⟨hS, hk hS⟩)
  unfold wpOp
  simp only [hi]
  by_cases hw : Region.wanted oi (yielded ops a.tmps) = true
  · rw [if_pos hw] at this ⊢
    exact .inl this
  · rw [if_neg hw] at this ⊢
    exact this
theorem forkZ {i j : Nat} {fuel : Nat} {listed : Array Bool} {a : Act} {w : World} (hr : Region.ready md ops listed = [i, j])
    (h1 : wpOp P ops Q i (fun a' w' => (i ≠ z → S w') ∧ wpAnyZ P md ops Q S z fuel (listed.setIfInBounds i true) a' w') a w)
    (h2 : wpOp P ops Q j (fun a' w' => (j ≠ z → S w') ∧ wpAnyZ P md ops Q S z fuel (listed.setIfInBounds j true) a' w') a w) : wpAnyZ P md ops Q S z (fuel + 1) listed a w := by
  refine ⟨fun h0 => (by rw [hr] at h0; cases h0), fun k hk => ?_⟩
  rw [hr] at hk
  rcases List.mem_cons.1 hk with rfl | hk
  · exact h1
  · obtain rfl := List.mem_singleton.1 hk
    exact h2
end
theorem OtSt.add {B : Nat} {w w2 w5 : World} {L M : List NB} {v v5 : Value} (h : OtSt B w L v w2) (hM : ∀ b ∈ M, NdIn b.n b.x b.y b.z b.A b.c w2 (Ot B w w2 v.ownBlock))
    (hown : w5.ownsRow w.heap.size 39 6 v5 (L.length + M.length) (L.flatMap nbCells ++ M.flatMap nbCells)) (hgr : w2.grownBy w5 v.ownBlock) (hlie : v5.ownBlock = v.ownBlock ∨ v5.ownBlock = some w2.heap.size) : OtSt B w (L ++ M) v5 w5 := by
  refine ⟨by rw [List.length_append, List.flatMap_append]; exact hown, fun b hm => ?_, h.2.2.grown hgr h.2.2.size fun k hk => (h.1.lt k hk).1⟩
  have hb0 : NdIn b.n b.x b.y b.z b.A b.c w2 (Ot B w w2 v.ownBlock) := by
    rcases List.mem_append.1 hm with hm | hm
    · exact h.2.1 b hm
    · exact hM b hm
  refine hb0.keep (fun k hk => ⟨hk.1, Nat.lt_of_lt_of_le hk.2.1 hgr.size, ?_⟩) fun k o hk => hgr.cell_far ⟨k, o, none⟩ hk.2.1 hk.2.2
  rcases hlie with e | e
  · rw [e]; exact hk.2.2
  · rw [e]
    intro e2
    injection e2 with e2
    have := hk.2.1
    omega
theorem step_append_nds {w0 w : World} {B : Nat} {ops : Array Oper} {o : Oper} {a : Act} {K : Act → World → Prop} {Q : Exit → Act → World → Prop} {E : Prop} (hgd : o.guard = none) (s x : Operand)
    (ho : o.op = .call { callee := .builtin .append, args := #[s, x], argTypes := #[22, 22] })
    (L M : List NB) (v : Value) (hs : a.eval s = v) (h : OtSt B w0 L v w) (A : Option Addr) (m c : Nat) (hx : a.eval x = .slice A m c) (hm : M.length = m) (hA : A = none → m = 0 ∧ c = 0)
    (hc : ∀ ad, A = some ad → ∀ (j : Nat) (u : Value), (M.flatMap nbCells)[j]? = some u → w.cell? (ad.add j) = some u) (hM : ∀ b ∈ M, NdIn b.n b.x b.y b.z b.A b.c w (Ot B w0 w v.ownBlock)) (hb : L.length + m ≤ 1000000)
    (hk : ∀ v' w', OtSt B w0 (L ++ M) v' w' → w.grownBy w' v.ownBlock → (v'.ownBlock = v.ownBlock ∨ v'.ownBlock = some w.heap.size) → K (a.put o.dst v') w') : if Region.wanted o (yielded ops a.tmps) = true then Oper.wp Tryz.prog o a w K Q else E := by
  have hw : Region.wanted o (yielded ops a.tmps) = true := by simp [Region.wanted, hgd]
  rw [if_pos hw]
  obtain ⟨i0, hi, hz0, hz1, hz2⟩ := info_parts infoNd
  have key : ∃ v' w', (Builtin.append_ #[22, 22] o.type #[v, .slice A m c]).run Tryz.prog w = .ok v' w' ∧ OtSt B w0 (L ++ M) v' w' ∧ w.grownBy w' v.ownBlock ∧ (v'.ownBlock = v.ownBlock ∨ v'.ownBlock = some w.heap.size) := by
    rcases A with _ | ad
    · obtain ⟨h1, h2⟩ := hA rfl
      have hM0 : M = [] := List.eq_nil_of_length_eq_zero (by omega)
      subst hM0
      subst h1
      subst h2
      exact ⟨v, w, run_append_owned_none w w0.heap.size 22 o.type 39 i0 6 Tryz.underlying22 hi v L.length _ h.1, by rw [List.append_nil]; exact h, World.grownBy.refl _ _, .inl rfl⟩
    · obtain ⟨v', w', hr, h2, h3, _, h5⟩ := run_append_own_at (P := Tryz.prog) w w0.heap.size 22 o.type 39 i0 _ 6 88 Tryz.underlying22 hi hz0 hz1 hz2 rfl (by decide) v L.length _ h.1 ad m c (M.flatMap nbCells) (by rw [nb_len, hm]) (hc ad rfl) (nb_one M) (by unfold maxLen; omega) (by omega) h.2.2.size
      exact ⟨v', w', hr, h.add hM (by rw [hm]; exact h2) h3 h5, h3, h5⟩
  obtain ⟨v', w', hr, h1, h2, h3⟩ := key
  unfold Oper.wp execOp
  simp only [ho, resolve, invoke, builtin, Sem.run_bind, Sem.run_pure, Result.andThen_ok, List.map_toArray, List.map_cons, List.map_nil, hs, hx, hr]
  exact hk v' w' h1 h2 h3
theorem own_empty6 (w : World) (T : TypeId) (b : Nat) (hb : b ≤ w.heap.size) (k : Nat) : (w.alloc (.cells #[] T)).ownsRow b T k (.slice (some ⟨w.heap.size, 0, none⟩) 0 0) 0 [] :=
  ⟨by simp, .inr ⟨w.heap.size, 0, #[], rfl, hb, heap_alloc_new _ _, Nat.le_refl _, Nat.zero_le _, by simp, by simp⟩⟩
theorem nd_ot {B : Nat} {w w1 : World} {n : Nd} {x y t : ByteArray} {A1 : Option Addr} {c1 : Nat} (h : NdIn n x y t A1 c1 w (fun b => b < B)) (hB : B ≤ w.heap.size) (hb : Below w.heap.size w w1) (row : Option Nat) (hrow : ∀ k, row = some k → w.heap.size ≤ k) : NdIn n x y t A1 c1 w1 (Ot B w w1 row) :=
  h.keep (fun k hk => ⟨.inl hk, Nat.lt_of_lt_of_le (Nat.lt_of_lt_of_le hk hB) hb.size, fun e => by have := hrow k e.symm; have hk' : k < B := hk; omega⟩) fun b o hk => hb.cell (p := ⟨b, o, none⟩) (Nat.lt_of_lt_of_le hk hB)

def RWalk (B : Nat) (A : Option Addr) (n c : Nat) (v : List Nd) (d : Nat) : Prop := ∀ (p : Nat) (r path : List Nd) (A2 : Option Addr) (c2 : Nat) (w : World), p < v.length → restD d (v.drop p) = some r → RdS NdS w (fun b => b < B) A v → B ≤ w.heap.size → RdB NdS w A2 path → path.length + d ≤ 12 → (∀ x ∈ path, SmallN x) → (A2 = none → c2 = 0) →
  Calls Tryz.prog 24 #[.slice A n c, .int .i64 p, .slice A2 path.length c2] w (OtTo B (walkD resF resDn d (stackE path) (v.drop p)).1.1 (walkD resF resDn d (stackE path) (v.drop p)).1.2 w)
theorem walkD_texts {ε : Type} {f : ε → Nd → Nd × Bool} {dn : ε → Nd → ε} {d : Nat} {e : ε} {n : Nd} {l : List Nd} (h : n.kind = 2) : (walkD f dn d e (n :: l)).1 = ([n], true) := by
  cases d with
  | zero => rw [walkD]
  | succ d => rw [walkD, if_pos h]
theorem rwalk_text (B : Nat) (A : Option Addr) (n c : Nat) (v : List Nd) (hn : v.length = n) (hl : n ≤ 512) (d p : Nat) (path : List Nd) (A2 : Option Addr) (c2 : Nat) (w : World) (hp : p < v.length) (hrd : RdS NdS w (fun b => b < B) A v) (hB : B ≤ w.heap.size) (hk : (v[p]'hp).kind = 2) :
    Calls Tryz.prog 24 #[.slice A n c, .int .i64 p, .slice A2 path.length c2] w (OtTo B (walkD resF resDn d (stackE path) (v.drop p)).1.1 (walkD resF resDn d (stackE path) (v.drop p)).1.2 w) := by
  obtain ⟨b0, off, x, y, t, A1, c1, hA, hbB, hin, q0, q1, q2, q3, q4, q5⟩ := nd_at hrd hp
  have hdr := List.drop_eq_getElem_cons hp
  obtain ⟨nd, hnd⟩ : ∃ nd, v[p]'hp = nd := ⟨_, rfl⟩
  rw [hnd] at hin q0 q3 q5 hdr hk
  rw [hdr, walkD_texts hk]
  rw [hk, show ((2 : Nat) : Int) = 2 from rfl] at q0
  have bp : (0 : Int) ≤ (p : Int) ∧ (p : Int) < (n : Int) := by omega
  have HIN := Lib.hid hin
  have HB := Lib.hid hB
  have HK := Lib.hid hk
  obtain ⟨n1, hn1⟩ : ∃ n1, nd.attrs.length = n1 := ⟨_, rfl⟩
  rw [hn1] at q3
  have HN1 := Lib.hid hn1
  obtain ⟨mm, hmm⟩ : ∃ mm, nd.many = mm := ⟨_, rfl⟩
  rw [hmm] at q5
  have HM1 := Lib.hid hmm
  subst hA
  clear hin hnd hdr hrd hbB hn1 hmm hk hB
  go_enter Tryz.func24, Tryz.ntmps24
  go_wp2_with fail
  go_ret2
  have hst := OtSt.one (B := B) (w := w) (w1 := w) (Below.refl _ _) ⟨nd, x, y, t, A1, c1⟩ (nd_ot HIN.out HB.out (Below.refl _ _) none (fun k h => by cases h))
  have e : (nbCells ⟨nd, x, y, t, A1, c1⟩).toArray = #[.int .u8 2, .string x, .string y, .slice A1 n1 c1, .string t, .int .i64 mm] := by
    unfold nbCells ndCells
    dsimp only
    rw [HK.out, HN1.out, HM1.out]
    rfl
  rw [e] at hst
  exact ⟨_, _, rfl, hst.read.1, hst.2.2⟩


theorem blk_at {w : World} {b : Nat} {cs : List Value} {T : TypeId} (h : w.heap[b]? = some (.cells cs.toArray T (0, 0))) : ∀ (j : Nat) (u : Value), cs[j]? = some u → w.cell? ((⟨b, 0, none⟩ : Addr).add j) = some u := by
  intro j u hu
  rw [addr_plain, Nat.zero_add]
  simp [World.cell?, h, hu]
theorem nd_otB {B : Nat} {w w1 : World} {n : Nd} {x y t : ByteArray} {A1 : Option Addr} {c1 : Nat} (h : NdIn n x y t A1 c1 w (fun b => b < B)) (hB : B ≤ w.heap.size) (hb : Below w.heap.size w w1) (row : Option Nat) (hrow : ∀ k, row = some k → w.heap.size ≤ k) : NdIn n x y t A1 c1 w1 (Ot w.heap.size w w1 row) :=
  nd_ot (h.keep (fun k hk => Nat.lt_of_lt_of_le hk hB) fun _ _ _ => rfl) (Nat.le_refl _) hb row hrow
theorem nd_made {B : Nat} {w wc w1 W3 : World} {s u : ByteArray} {A4 : Option Addr} {c4 g m : Nat} {L : List AB} (hown : w1.ownsRow g 41 3 (.slice A4 L.length c4) L.length (L.flatMap abCells)) (hg : w.heap.size ≤ g) (hb : Below w1.heap.size w1 W3) (hm : m ≤ 1000000) :
    NdIn ⟨1, s.data.toList, u.data.toList, L.map abVal, [], (m : Int)⟩ s u ⟨#[]⟩ A4 c4 W3 (Ot B w W3 none) := by
  have h3 := own_belowK hown hb (Nat.le_refl _)
  obtain ⟨r1, r2, r3, r4, r5⟩ := RdS.of_own (C := AtS) (S := Ot B w W3 none) abCells abVal (fun _ => rfl) (by decide) L (fun b _ => ab_R _ _ b) (fun k hk => by
    have := h3.lt k hk
    exact ⟨.inr (by omega), this.2, by simp⟩) h3
  exact ⟨rfl, rfl, rfl, r1, by rw [List.length_map]; exact r3, r4, r5, by show 1 < 256; decide, by show _ ≤ (m : Int); omega, by show (m : Int) ≤ _; omega⟩
theorem st_made {B : Nat} {w w1 W2 : World} {s u : ByteArray} {A4 : Option Addr} {c4 g m : Nat} {L : List AB} (hb0 : Below w.heap.size w W2) (hown : w1.ownsRow g 41 3 (.slice A4 L.length c4) L.length (L.flatMap abCells)) (hg : w.heap.size ≤ g) (hb : Below w1.heap.size w1 W2) (hm : m ≤ 1000000) :
    OtSt B w [⟨⟨1, s.data.toList, u.data.toList, L.map abVal, [], (m : Int)⟩, s, u, ⟨#[]⟩, A4, c4⟩] (.slice (some ⟨W2.heap.size, 0, none⟩) 1 1) (W2.alloc (.cells #[.int .u8 1, .string s, .string u, .slice A4 L.length c4, .string ⟨#[]⟩, .int .i64 (m : Int)] 39)) := by
  have h := OtSt.one (B := B) hb0 ⟨⟨1, s.data.toList, u.data.toList, L.map abVal, [], (m : Int)⟩, s, u, ⟨#[]⟩, A4, c4⟩ (nd_made (wc := w) hown hg hb hm)
  have e : (nbCells ⟨⟨1, s.data.toList, u.data.toList, L.map abVal, [], (m : Int)⟩, s, u, ⟨#[]⟩, A4, c4⟩).toArray = #[.int .u8 1, .string s, .string u, .slice A4 L.length c4, .string ⟨#[]⟩, .int .i64 (m : Int)] := by
    unfold nbCells ndCells
    dsimp only
    rw [List.length_map]
    rfl
  rw [e] at h
  exact h
theorem path_of {w : World} {A2 : Option Addr} {path : List Nd} {p0 c2 : Nat} (h : RdB NdS w A2 path) (hp : path.length = p0) (hn : A2 = none → c2 = 0) : ∃ Mp : List NB, Mp.map NB.n = path ∧ Mp.length = p0 ∧ (A2 = none → p0 = 0 ∧ c2 = 0) ∧ (∀ ad, A2 = some ad → ∀ W, Below w.heap.size w W → ∀ (j : Nat) (u : Value), (Mp.flatMap nbCells)[j]? = some u → W.cell? (ad.add j) = some u) ∧ ∀ b ∈ Mp, NdIn b.n b.x b.y b.z b.A b.c w (fun k => k < w.heap.size) := by
  cases A2 with
  | none =>
    have h0 : path = [] := by
      rcases Nat.eq_zero_or_pos path.length with h0 | h0
      · exact List.eq_nil_of_length_eq_zero h0
      · obtain ⟨_, _, _, _, _, _, _, e, _⟩ := nd_at h h0
        cases e
    subst h0
    exact ⟨[], rfl, hp, fun _ => ⟨hp.symm, hn rfl⟩, (fun ad e => by cases e), (fun b hb => by cases hb)⟩
  | some ad =>
    obtain ⟨M, h1, h2, h3⟩ := nodes_of h
    refine ⟨M, h1, by rw [← hp, ← h1, List.length_map], (fun e => by cases e), fun ad' e W hW j u hu => ?_, h2⟩
    injection e with e
    subst e
    have hc := h3 j u hu
    exact (hW.cell (World.block_lt_of_cell? _ _ hc)).trans hc

theorem rwalk_elem (B : Nat) (A : Option Addr) (n c : Nat) (v : List Nd) (hn : v.length = n) (hl : n ≤ 512) (hsm : ∀ n ∈ v, SmallN n) (d p : Nat) (r path : List Nd) (A2 : Option Addr) (c2 : Nat) (w : World) (hp : p < v.length) (hr : restD (d + 1) (v.drop p) = some r) (hrd : RdS NdS w (fun b => b < B) A v) (hB : B ≤ w.heap.size) (hpr : RdB NdS w A2 path) (hpl : path.length + (d + 1) ≤ 12) (hps : ∀ x ∈ path, SmallN x) (hpn : A2 = none → c2 = 0) (hk : (v[p]'hp).kind = 1) (ih : RWalk B A n c v d) :
    Calls Tryz.prog 24 #[.slice A n c, .int .i64 p, .slice A2 path.length c2] w (OtTo B (walkD resF resDn (d + 1) (stackE path) (v.drop p)).1.1 (walkD resF resDn (d + 1) (stackE path) (v.drop p)).1.2 w) := by
  obtain ⟨b0, off, x, y, t, A1, c1, hA, hbB, hin, q0, q1, q2, q3, q4, q5⟩ := nd_at hrd hp
  have hdr := List.drop_eq_getElem_cons hp
  have hs := hsm _ (List.getElem_mem hp)
  obtain ⟨nd, hnd⟩ : ∃ nd, v[p]'hp = nd := ⟨_, rfl⟩
  rw [hnd] at hin q0 q3 q5 hdr hk hs
  rw [hk, show ((1 : Nat) : Int) = 1 from rfl] at q0
  have bp : (0 : Int) ≤ (p : Int) ∧ (p : Int) < (n : Int) := by omega
  obtain ⟨n1, hn1⟩ : ∃ n1, nd.attrs.length = n1 := ⟨_, rfl⟩
  rw [hn1] at q3
  have hr12 := restD_le (show d + 1 ≤ 12 by omega) hr
  have hrr := hr
  rw [hdr] at hrr
  obtain ⟨_, hm0, bb, hkk⟩ := restD_ok hrr
  rw [Nat.add_sub_cancel] at hkk
  obtain ⟨m, hmn⟩ : ∃ m : Nat, nd.many = (m : Int) := ⟨nd.many.toNat, by omega⟩
  rw [hmn, Int.toNat_natCast] at hkk
  have hkl := kidsD_len hkk
  rw [List.length_drop] at hkl
  obtain ⟨ul, hul⟩ : ∃ ul, under v p = ul := ⟨_, rfl⟩
  have hrdb : RdB NdS w A v := hrd.mono fun k hk => Nat.lt_of_lt_of_le hk hB
  have hun : ∀ W, Below w.heap.size w W → Calls Tryz.prog 47 #[.slice A n c, .int .i64 p] W (IntsTo (under v p) W) := fun W hW => runder10 A n c v p r W (hrdb.on hW) hn (by omega) hsm (by omega) hr12
  have hua : ∀ (j : Nat) (b : Bool) (p' : Nat), j < m → kidsD (restD d) j false (v.drop (p + 1)) = some (b, v.drop p') → p' ≤ v.length → ul.length = m ∧ ul[j]? = some p' := fun j b p' hj hkd hp' => by
    rw [← hul]
    exact under_ats (j := j) (m := m) (b := b) (b0 := bb) (r := r) (p' := p') hp (by rw [hnd, hmn, Int.toNat_natCast]) (kidsD_le (by omega) hkk) hj (kidsD_le (by omega) hkd) hp'
  have hulen : ul.length = m := by
    by_cases h0 : m = 0
    · obtain ⟨h1, _⟩ := places_lt (restD_loc 12) m (p + 1) _ _ _ _ (kidsD_le (show d ≤ 12 by omega) hkk)
      rw [← hul]
      unfold under
      rw [List.getElem?_eq_getElem hp]
      dsimp only
      rw [hnd, hmn, Int.toNat_natCast]
      exact h1
    · exact (hua 0 false (p + 1) (by omega) (by rw [kidsD]) (by omega)).1
  have HUN : Hid (∀ W, Below w.heap.size w W → Calls Tryz.prog 47 #[.slice A n c, .int .i64 p] W (UndTo ul m W)) := Lib.hid fun W hW => (by rw [← hul]; exact hun W hW : Calls Tryz.prog 47 #[.slice A n c, .int .i64 p] W (IntsTo ul W)).mono fun e w' h => UndTo.of h hulen
  have HUA : Hid (∀ (j : Nat) (b : Bool) (p' : Nat), j < m → kidsD (restD d) j false (v.drop (p + 1)) = some (b, v.drop p') → p' ≤ v.length → ul[j]? = some p') := Lib.hid fun j b p' h1 h2 h3 => (hua j b p' h1 h2 h3).2
  have HKD := Lib.hid hkk
  have HIH := Lib.hid ih
  have HLN := Lib.hid hn
  have HMB : Hid (m ≤ 512) := Lib.hid (by omega)
  have bm5 : (m : Int) ≤ 512 := by omega
  have HMN : Hid (nd.many = (m : Int)) := Lib.hid hmn
  obtain ⟨mm, hmm⟩ : ∃ mm, nd.many = mm := ⟨_, rfl⟩
  rw [hmm] at q5
  rw [hmn] at hmm
  subst hmm
  obtain ⟨i0, hi, hz0, hz1, hz2⟩ := info_parts infoNd
  have HI := Lib.hid hi
  have HZ0 := Lib.hid hz0
  have HZ1 := Lib.hid hz1
  have HZ2 := Lib.hid hz2
  obtain ⟨p0, hp0⟩ : ∃ p0, path.length = p0 := ⟨_, rfl⟩
  have HIN := Lib.hid hin
  have HB := Lib.hid hB
  have HK := Lib.hid hk
  have HN1 := Lib.hid hn1
  have HM1 := HMN
  have HP0 := Lib.hid hp0
  have HRD := Lib.hid hrd
  have HPR := Lib.hid hpr
  have HPN := Lib.hid hpn
  have HPS := Lib.hid hps
  have HPL := Lib.hid hpl
  have HSM := Lib.hid hs
  have HBB : Hid (b0 < B) := Lib.hid hbB
  have HCE : Hid (nbCells ⟨nd, x, y, t, A1, c1⟩ = [.int .u8 1, .string x, .string y, .slice A1 n1 c1, .string t, .int .i64 (m : Int)]) := Lib.hid (by
    unfold nbCells ndCells
    dsimp only
    rw [hk, hn1, hmn]
    rfl)
  have HS : Hid (∀ W, Below w.heap.size w W → W.cell? ⟨b0, off + p * 6, none⟩ = some (.int .u8 1) ∧ W.cell? ⟨b0, off + p * 6 + 1, none⟩ = some (.string x) ∧ W.cell? ⟨b0, off + p * 6 + 2, none⟩ = some (.string y) ∧ W.cell? ⟨b0, off + p * 6 + 3, none⟩ = some (.slice A1 n1 c1) ∧ W.cell? ⟨b0, off + p * 6 + 4, none⟩ = some (.string t) ∧ W.cell? ⟨b0, off + p * 6 + 5, none⟩ = some (.int .i64 (m : Int))) := Lib.hid fun W hW => by
    have hlt : b0 < w.heap.size := Nat.lt_of_lt_of_le hbB hB
    have k := fun o => hW.cell (p := ⟨b0, o, none⟩) hlt
    exact ⟨(k _).trans q0, (k _).trans q1, (k _).trans q2, (k _).trans q3, (k _).trans q4, (k _).trans q5⟩
  obtain ⟨Mp, hm4, hm0, hm1, hm2, hm3⟩ := path_of hpr hp0 hpn
  have HM0 := Lib.hid hm0
  have HM1 := Lib.hid hm1
  have HM2 := Lib.hid hm2
  have HM3 := Lib.hid hm3
  have HM4 := Lib.hid hm4
  have HCF : Hid (([⟨nd, x, y, t, A1, c1⟩] : List NB).flatMap nbCells = [.int .u8 1, .string x, .string y, .slice A1 n1 c1, .string t, .int .i64 (m : Int)]) := Lib.hid (by rw [List.flatMap_cons, List.flatMap_nil, List.append_nil]; exact HCE.out)
  have hp12 : p0 ≤ 12 := by omega
  clear hm0 hm1 hm2 hm3 hm4
  subst hA
  rw [hp0, hdr]
  clear hin hnd hrd hbB hn1 hk hB hpr hpn hps hp0 hs hr12 hrr hm0 hkk hkl hul hrdb hun hua hulen hmn hi hz0 hz1 hz2 ih hr
  go_enter Tryz.func24, Tryz.ntmps24
  go_upto_region 3 with fail
  go_cut [8] (fun s8 wx => ∃ (A3 : Option Addr) (c3 : Nat), s8 = .slice A3 (p0 + 1) c3 ∧ RdB NdS wx A3 (path ++ [nd]) ∧ (A3 = none → c3 = 0) ∧ Below w.heap.size w wx)
  case first =>
    refine wp_region_noPanic ?_
    refine wp_region_Z (fun W => W.cell? ⟨b0, off + p * 6, none⟩ = some (.int .u8 1) ∧ W.cell? ⟨b0, off + p * 6 + 1, none⟩ = some (.string x) ∧ W.cell? ⟨b0, off + p * 6 + 2, none⟩ = some (.string y) ∧ W.cell? ⟨b0, off + p * 6 + 3, none⟩ = some (.slice A1 n1 c1) ∧ W.cell? ⟨b0, off + p * 6 + 4, none⟩ = some (.string t) ∧ W.cell? ⟨b0, off + p * 6 + 5, none⟩ = some (.int .i64 (m : Int))) 9 (by kernel_rfl) ?_
    have hS := HS.out w.drew (Below.refl _ _).drew
    refine takeZ (i := 1) (v := .slice A2 p0 c2) rfl (by kernel_rfl) (by kernel_rfl) (by kernel_rfl) (by kernel_rfl) (fun _ _ _ h => h) (Or.inl ⟨by rfl, ?_⟩) hS ?_
    · intro w' hSw; (try dsimp only at hSw); obtain ⟨z0, z1, z2, z3, z4, z5⟩ := hSw; go_simp
    try simp only [Act.put, List.setIfInBounds_toArray, List.set_cons_zero, List.set_cons_succ]
    refine takeZ (i := 3) (v := .slice (some ⟨b0, off, none⟩) n c) rfl (by kernel_rfl) (by kernel_rfl) (by kernel_rfl) (by kernel_rfl) (fun _ _ _ h => h) (Or.inl ⟨by rfl, ?_⟩) hS ?_
    · intro w' hSw; (try dsimp only at hSw); obtain ⟨z0, z1, z2, z3, z4, z5⟩ := hSw; go_simp
    try simp only [Act.put, List.setIfInBounds_toArray, List.set_cons_zero, List.set_cons_succ]
    refine takeZ (i := 4) (v := .int .i64 p) rfl (by kernel_rfl) (by kernel_rfl) (by kernel_rfl) (by kernel_rfl) (fun _ _ _ h => h) (Or.inl ⟨by rfl, ?_⟩) hS ?_
    · intro w' hSw; (try dsimp only at hSw); obtain ⟨z0, z1, z2, z3, z4, z5⟩ := hSw; go_simp
    try simp only [Act.put, List.setIfInBounds_toArray, List.set_cons_zero, List.set_cons_succ]
    refine takeZ (i := 5) (v := .pointer (some ⟨b0, off + p * 6, none⟩)) rfl (by kernel_rfl) (by kernel_rfl) (by kernel_rfl) (by kernel_rfl) (fun _ _ _ h => h) (Or.inl ⟨by rfl, ?_⟩) hS ?_
    · intro w' hSw; (try dsimp only at hSw); obtain ⟨z0, z1, z2, z3, z4, z5⟩ := hSw; go_simp
    try simp only [Act.put, List.setIfInBounds_toArray, List.set_cons_zero, List.set_cons_succ]
    refine takeZ (i := 6) (v := .agg #[.int .u8 1, .string x, .string y, .slice A1 n1 c1, .string t, .int .i64 (m : Int)]) rfl (by kernel_rfl) (by kernel_rfl) (by kernel_rfl) (by kernel_rfl) (fun _ _ _ h => h) (Or.inl ⟨by rfl, ?_⟩) hS ?_
    · intro w' hSw; (try dsimp only at hSw); obtain ⟨z0, z1, z2, z3, z4, z5⟩ := hSw; go_simp
    try simp only [Act.put, List.setIfInBounds_toArray, List.set_cons_zero, List.set_cons_succ]
    refine forkZ (i := 0) (j := 7) (by kernel_rfl) ?_ ?_
    · obtain ⟨W1, hW1⟩ : ∃ W', World.drew (World.alloc w (.cells #[] 39)) = W' := ⟨_, rfl⟩
      have BW1 : Below w.heap.size w W1 := by rw [← hW1]; exact (stpA (Below.refl w.heap.size w) _).drew
      have OW1 : OtSt w.heap.size w [] (.slice (some ⟨w.heap.size, 0, none⟩) 0 0) W1 := ⟨by rw [← hW1]; exact own_empty6 w _ _ (Nat.le_refl _) 6, (fun b hb => by cases hb), BW1⟩
      have ZW1 : W1.heap.size = w.heap.size + 1 := by rw [← hW1]; exact World.size_alloc _ _
      refine pickZ (i := 0) rfl (fun K hK => ?_)
      go_simp
      refine hK.out _ _ (fun _ => HS.out W1 BW1) (fun _ => ?_)
      clear hK K hW1
      try simp only [Act.put, List.setIfInBounds_toArray, List.set_cons_zero, List.set_cons_succ]
      refine forkZ (i := 2) (j := 7) (by kernel_rfl) ?_ ?_
      · refine pickZ (i := 2) rfl (fun K hK => ?_)
        refine step_append_nds rfl (.tmp 27) (.tmp 28) rfl [] Mp (.slice (some ⟨w.heap.size, 0, none⟩) 0 0) rfl OW1 A2 p0 c2 rfl HM0.out HM1.out (fun ad e => HM2.out ad e W1 BW1) (fun b hb => nd_ot (HM3.out b hb) (Nat.le_refl _) BW1 _ (fun k e => (OW1.1.lt k e).1)) (by rw [List.length_nil]; omega) ?_
        intro vW2 W2 OW2 gW2 lW2
        rw [List.nil_append] at OW2
        have BW2 := OW2.2.2
        refine hK.out _ _ (fun _ => HS.out W2 BW2) (fun _ => ?_)
        clear hK K
        try simp only [Act.put, List.setIfInBounds_toArray, List.set_cons_zero, List.set_cons_succ]
        obtain ⟨W3, hW3⟩ : ∃ W', World.alloc W2 (.cells #[.int .u8 1, .string x, .string y, .slice A1 n1 c1, .string t, .int .i64 (m : Int)] 39) = W' := ⟨_, rfl⟩
        have BW3 : Below w.heap.size w W3 := by rw [← hW3]; exact stpA BW2 _
        have GW3 : W3.heap[W2.heap.size]? = some (.cells #[.int .u8 1, .string x, .string y, .slice A1 n1 c1, .string t, .int .i64 (m : Int)] 39 (0, 0)) := by rw [← hW3]; exact heap_alloc_new W2 _
        have OW3 := OW2.below (w' := W3) (by rw [← hW3]; exact stpA (Below.refl _ _) _)
        refine stepZ (i := 7) (by kernel_rfl) rfl (fun K hK => ?_)
        go_simp
        refine hK.out _ _ (fun _ => HS.out W3 BW3) (fun _ => ?_)
        clear hK K hW3
        try simp only [Act.put, List.setIfInBounds_toArray, List.set_cons_zero, List.set_cons_succ]
        refine stepZ (i := 8) (by kernel_rfl) rfl (fun K hK => ?_)
        refine step_append_nds rfl (.tmp 29) (.tmp 34) rfl Mp [⟨nd, x, y, t, A1, c1⟩] vW2 rfl OW3 (some ⟨W2.heap.size, 0, none⟩) 1 1 rfl rfl (fun h => by cases h) (fun ad e => by injection e with e; subst e; rw [HCF.out]; exact blk_at GW3) (fun b hb => by obtain rfl := List.mem_singleton.1 hb; exact nd_otB HIN.out HB.out BW3 _ (fun k e => (OW3.1.lt k e).1)) (by rw [HM0.out]; omega) ?_
        intro v9 W9 O9 _ _
        obtain ⟨A9, c9, rfl⟩ := own_form2 O9.1
        have B9 := O9.2.2
        have hlen : (Mp ++ [(⟨nd, x, y, t, A1, c1⟩ : NB)]).length = p0 + 1 := by rw [List.length_append, HM0.out]; rfl
        obtain ⟨R9, _⟩ := O9.read
        rw [List.map_append, HM4.out] at R9
        have N9 := Lib.hid R9.nil
        have D9 := Lib.hid R9.all
        rw [hlen]
        refine hK.out _ _ (fun _ => HS.out W9 B9) (fun _ => ?_)
        clear hK K
        try simp only [Act.put, List.setIfInBounds_toArray, List.set_cons_zero, List.set_cons_succ]
        refine stepZ (i := 9) (by kernel_rfl) rfl (fun K hK => ?_)
        go_simp
        refine hK.out _ _ (fun h => absurd rfl h) (fun _ => ?_)
        clear hK K
        try simp only [Act.put, List.setIfInBounds_toArray, List.set_cons_zero, List.set_cons_succ]
        refine doneZ (by kernel_rfl) ?_ _
        refine NoPanic.normal ?_
        go_wp2_with fail
        go_meet
        exact ⟨A9, c9, rfl, D9.out, N9.out, B9⟩
      · obtain ⟨W2, hW2⟩ : ∃ W', World.alloc W1 (.cells #[.int .u8 1, .string x, .string y, .slice A1 n1 c1, .string t, .int .i64 (m : Int)] 39) = W' := ⟨_, rfl⟩
        have BW2 : Below w.heap.size w W2 := by rw [← hW2]; exact stpA BW1 _
        have GW2 : W2.heap[(w.heap.size + 1)]? = some (.cells #[.int .u8 1, .string x, .string y, .slice A1 n1 c1, .string t, .int .i64 (m : Int)] 39 (0, 0)) := by rw [← hW2, ← ZW1]; exact heap_alloc_new W1 _
        have OW2 := OW1.below (w' := W2) (by rw [← hW2]; exact stpA (Below.refl _ _) _)
        refine pickZ (i := 7) rfl (fun K hK => ?_)
        go_simp
        refine hK.out _ _ (fun _ => HS.out W2 BW2) (fun _ => ?_)
        clear hK K hW2
        try simp only [Act.put, List.setIfInBounds_toArray, List.set_cons_zero, List.set_cons_succ]
        refine stepZ (i := 2) (by kernel_rfl) rfl (fun K hK => ?_)
        refine step_append_nds rfl (.tmp 27) (.tmp 28) rfl [] Mp (.slice (some ⟨w.heap.size, 0, none⟩) 0 0) rfl OW2 A2 p0 c2 rfl HM0.out HM1.out (fun ad e => HM2.out ad e W2 BW2) (fun b hb => nd_ot (HM3.out b hb) (Nat.le_refl _) BW2 _ (fun k e => (OW2.1.lt k e).1)) (by rw [List.length_nil]; omega) ?_
        intro vW3 W3 OW3 gW3 lW3
        rw [List.nil_append] at OW3
        have BW3 := OW3.2.2
        have GW3 : W3.heap[(w.heap.size + 1)]? = some (.cells #[.int .u8 1, .string x, .string y, .slice A1 n1 c1, .string t, .int .i64 (m : Int)] 39 (0, 0)) := (gW3.block _ (lt_heap GW2) (fun e => by simp [Value.ownBlock] at e)).trans GW2
        refine hK.out _ _ (fun _ => HS.out W3 BW3) (fun _ => ?_)
        clear hK K
        try simp only [Act.put, List.setIfInBounds_toArray, List.set_cons_zero, List.set_cons_succ]
        refine stepZ (i := 8) (by kernel_rfl) rfl (fun K hK => ?_)
        refine step_append_nds rfl (.tmp 29) (.tmp 34) rfl Mp [⟨nd, x, y, t, A1, c1⟩] vW3 rfl OW3 (some ⟨(w.heap.size + 1), 0, none⟩) 1 1 rfl rfl (fun h => by cases h) (fun ad e => by injection e with e; subst e; rw [HCF.out]; exact blk_at GW3) (fun b hb => by obtain rfl := List.mem_singleton.1 hb; exact nd_otB HIN.out HB.out BW3 _ (fun k e => (OW3.1.lt k e).1)) (by rw [HM0.out]; omega) ?_
        intro v9 W9 O9 _ _
        obtain ⟨A9, c9, rfl⟩ := own_form2 O9.1
        have B9 := O9.2.2
        have hlen : (Mp ++ [(⟨nd, x, y, t, A1, c1⟩ : NB)]).length = p0 + 1 := by rw [List.length_append, HM0.out]; rfl
        obtain ⟨R9, _⟩ := O9.read
        rw [List.map_append, HM4.out] at R9
        have N9 := Lib.hid R9.nil
        have D9 := Lib.hid R9.all
        rw [hlen]
        refine hK.out _ _ (fun _ => HS.out W9 B9) (fun _ => ?_)
        clear hK K
        try simp only [Act.put, List.setIfInBounds_toArray, List.set_cons_zero, List.set_cons_succ]
        refine stepZ (i := 9) (by kernel_rfl) rfl (fun K hK => ?_)
        go_simp
        refine hK.out _ _ (fun h => absurd rfl h) (fun _ => ?_)
        clear hK K
        try simp only [Act.put, List.setIfInBounds_toArray, List.set_cons_zero, List.set_cons_succ]
        refine doneZ (by kernel_rfl) ?_ _
        refine NoPanic.normal ?_
        go_wp2_with fail
        go_meet
        exact ⟨A9, c9, rfl, D9.out, N9.out, B9⟩
    · obtain ⟨W1, hW1⟩ : ∃ W', World.drew (World.alloc w (.cells #[.int .u8 1, .string x, .string y, .slice A1 n1 c1, .string t, .int .i64 (m : Int)] 39)) = W' := ⟨_, rfl⟩
      have BW1 : Below w.heap.size w W1 := by rw [← hW1]; exact (stpA (Below.refl w.heap.size w) _).drew
      have GW1 : W1.heap[w.heap.size]? = some (.cells #[.int .u8 1, .string x, .string y, .slice A1 n1 c1, .string t, .int .i64 (m : Int)] 39 (0, 0)) := by rw [← hW1]; exact heap_alloc_new w _
      have ZW1 : W1.heap.size = w.heap.size + 1 := by rw [← hW1]; exact World.size_alloc _ _
      refine pickZ (i := 7) rfl (fun K hK => ?_)
      go_simp
      refine hK.out _ _ (fun _ => HS.out W1 BW1) (fun _ => ?_)
      clear hK K hW1
      try simp only [Act.put, List.setIfInBounds_toArray, List.set_cons_zero, List.set_cons_succ]
      obtain ⟨W2, hW2⟩ : ∃ W', World.alloc W1 (.cells #[] 39) = W' := ⟨_, rfl⟩
      have BW2 : Below w.heap.size w W2 := by rw [← hW2]; exact stpA BW1 _
      have OW2 : OtSt w.heap.size w [] (.slice (some ⟨w.heap.size + 1, 0, none⟩) 0 0) W2 := ⟨by rw [← hW2, ← ZW1]; exact own_empty6 W1 _ _ BW1.size 6, (fun b hb => by cases hb), BW2⟩
      have GW2 : W2.heap[w.heap.size]? = some (.cells #[.int .u8 1, .string x, .string y, .slice A1 n1 c1, .string t, .int .i64 (m : Int)] 39 (0, 0)) := by rw [← hW2]; exact (Below.heap_alloc W1 _ _ (lt_heap GW1)).trans GW1
      refine stepZ (i := 0) (by kernel_rfl) rfl (fun K hK => ?_)
      go_simp
      refine hK.out _ _ (fun _ => HS.out W2 BW2) (fun _ => ?_)
      clear hK K hW2
      try simp only [Act.put, List.setIfInBounds_toArray, List.set_cons_zero, List.set_cons_succ]
      refine stepZ (i := 2) (by kernel_rfl) rfl (fun K hK => ?_)
      refine step_append_nds rfl (.tmp 27) (.tmp 28) rfl [] Mp (.slice (some ⟨w.heap.size + 1, 0, none⟩) 0 0) rfl OW2 A2 p0 c2 rfl HM0.out HM1.out (fun ad e => HM2.out ad e W2 BW2) (fun b hb => nd_ot (HM3.out b hb) (Nat.le_refl _) BW2 _ (fun k e => (OW2.1.lt k e).1)) (by rw [List.length_nil]; omega) ?_
      intro vW3 W3 OW3 gW3 lW3
      rw [List.nil_append] at OW3
      have BW3 := OW3.2.2
      have GW3 : W3.heap[w.heap.size]? = some (.cells #[.int .u8 1, .string x, .string y, .slice A1 n1 c1, .string t, .int .i64 (m : Int)] 39 (0, 0)) := (gW3.block _ (lt_heap GW2) (fun e => by simp [Value.ownBlock] at e)).trans GW2
      refine hK.out _ _ (fun _ => HS.out W3 BW3) (fun _ => ?_)
      clear hK K
      try simp only [Act.put, List.setIfInBounds_toArray, List.set_cons_zero, List.set_cons_succ]
      refine stepZ (i := 8) (by kernel_rfl) rfl (fun K hK => ?_)
      refine step_append_nds rfl (.tmp 29) (.tmp 34) rfl Mp [⟨nd, x, y, t, A1, c1⟩] vW3 rfl OW3 (some ⟨w.heap.size, 0, none⟩) 1 1 rfl rfl (fun h => by cases h) (fun ad e => by injection e with e; subst e; rw [HCF.out]; exact blk_at GW3) (fun b hb => by obtain rfl := List.mem_singleton.1 hb; exact nd_otB HIN.out HB.out BW3 _ (fun k e => (OW3.1.lt k e).1)) (by rw [HM0.out]; omega) ?_
      intro v9 W9 O9 _ _
      obtain ⟨A9, c9, rfl⟩ := own_form2 O9.1
      have B9 := O9.2.2
      have hlen : (Mp ++ [(⟨nd, x, y, t, A1, c1⟩ : NB)]).length = p0 + 1 := by rw [List.length_append, HM0.out]; rfl
      obtain ⟨R9, _⟩ := O9.read
      rw [List.map_append, HM4.out] at R9
      have N9 := Lib.hid R9.nil
      have D9 := Lib.hid R9.all
      rw [hlen]
      refine hK.out _ _ (fun _ => HS.out W9 B9) (fun _ => ?_)
      clear hK K
      try simp only [Act.put, List.setIfInBounds_toArray, List.set_cons_zero, List.set_cons_succ]
      refine stepZ (i := 9) (by kernel_rfl) rfl (fun K hK => ?_)
      go_simp
      refine hK.out _ _ (fun h => absurd rfl h) (fun _ => ?_)
      clear hK K
      try simp only [Act.put, List.setIfInBounds_toArray, List.set_cons_zero, List.set_cons_succ]
      refine doneZ (by kernel_rfl) ?_ _
      refine NoPanic.normal ?_
      go_wp2_with fail
      go_meet
      exact ⟨A9, c9, rfl, D9.out, N9.out, B9⟩
  case rest =>
    obtain ⟨A3, c3, rfl, hd3, hn3, hb3⟩ := hcut
    have HSS : Hid (∀ x ∈ path ++ [nd], SmallN x) := Lib.hid (fun x hx => by
      rcases List.mem_append.1 hx with h | h
      · exact HPS.out x h
      · obtain rfl := List.mem_singleton.1 h
        exact HSM.out)
    have HDL : Hid ((path ++ [nd]).length = p0 + 1) := Lib.hid (by rw [List.length_append, HP0.out]; rfl)
    have HND := Lib.hid (rnode11 A3 p0 c3 (path ++ [nd]) wc hd3 HDL.out (by omega) HSS.out nd (by rw [← HP0.out]; simp))
    have HD3 := Lib.hid hd3
    have HN3 := Lib.hid hn3
    have HB3 := Lib.hid hb3
    clear hd3 hn3 hb3
    go_wp2_with (first
      | (go_at_call 46; (with_reducible refine (HND.out).mono ?_); rintro e1 w1 ⟨s, u, A4, c4, L, q0, g, rfl, hndE, hg1, hown1, hb1⟩; rw [HMN.out] at hndE ⊢; have HNE := Lib.hid hndE; have HG1 := Lib.hid hg1; have HO1 := Lib.hid hown1; have HB1 := Lib.hid hb1; clear hndE hg1 hown1 hb1)
      | (refine wpList_store_row rfl _ _ _ rfl w1.heap.size #[.int .u8 1, .string s, .string u, .slice A4 L.length c4, .string ⟨#[]⟩, .int .i64 (m : Int)] rfl rfl 39 zNd6 (heap_alloc_new _ _) sizeNd rfl (oneNd6 _ _ _ _ _ _ _ _) ?_
         rw [World.setRow_alloc_new]
         obtain ⟨W2, hW2, hr2, hb2⟩ := opnV w1 (.cells #[.int .u8 1, .string s, .string u, .slice A4 L.length c4, .string ⟨#[]⟩, .int .i64 (m : Int)] 39)
         rw [hW2]
         have HB2 := Lib.hid hb2
         have HR2 := Lib.hid hr2
         clear hW2 hr2 hb2)
      | (refine wpList_load_row rfl _ _ rfl w1.heap.size rfl 39 #[.int .u8 1, .string s, .string u, .slice A4 L.length c4, .string ⟨#[]⟩, .int .i64 (m : Int)] (0, 0) _ HR2.out Tryz.underlying39 rfl sizeNd ?_)
      | (go_at_call 47
         obtain ⟨W3, hW3⟩ : ∃ W3, W2.alloc (.cells #[.int .u8 1, .string s, .string u, .slice A4 L.length c4, .string ⟨#[]⟩, .int .i64 (m : Int)] 39) = W3 := ⟨_, rfl⟩
         have hB2 : Below w.heap.size w W2 := HB3.out.trans ((HB1.out.trans (HB2.out.mono HB1.out.size)).mono HB3.out.size)
         have hS3 : OtSt B w [⟨⟨1, s.data.toList, u.data.toList, L.map abVal, [], (m : Int)⟩, s, u, ⟨#[]⟩, A4, c4⟩] (.slice (some ⟨W2.heap.size, 0, none⟩) 1 1) W3 := by
           rw [← hW3]
           exact st_made hB2 HO1.out (Nat.le_trans HB3.out.size HG1.out) HB2.out (Nat.le_trans HMB.out (by decide))
         have hB33 := hS3.2.2
         have HS3 := Lib.hid hS3
         have HC3 : Hid (Below wc.heap.size wc W3) := Lib.hid (by rw [← hW3]; exact stpA (HB1.out.trans (HB2.out.mono HB1.out.size)) _)
         have HCW : Hid (wc.heap.size ≤ W2.heap.size) := Lib.hid (HB1.out.trans (HB2.out.mono HB1.out.size)).size
         have HZ3 : Hid (W3.heap.size = W2.heap.size + 1) := Lib.hid (by rw [← hW3]; exact World.size_alloc _ _)
         rw [hW3]
         clear hW3 hB2 hS3
         (with_reducible refine (HUN.out W3 hB33).mono ?_)
         rintro e6 w6 ⟨A6, c6, rfl, hu6, hb6⟩
         have HU6 := Lib.hid hu6
         have HB6 := Lib.hid hb6
         clear hu6 hb6 hB33)
      | fail)
    have HE1 : Hid (stackE (path ++ [nd]) = nd.attrs :: stackE path) := Lib.hid (by unfold stackE; simp)
    have HW := Lib.hid (walkD_elems (f := resF) (dn := resDn) (d := d) (e := stackE path) (n := nd) (l := v.drop (p + 1)) (by rw [HK.out]; decide))
    go_loopg [10, 11, 13, 14, 15] m (fun gg x10 x11 i x14 x15 wr => ∃ (j : Nat) (b' : Bool) (p' : Nat) (M : List NB) (V' : Value) (q : Bool), j + gg = m ∧ i = .int .i64 j ∧ x11 = V' ∧ x10 = .bool q ∧ kidsD (restD d) j false (v.drop (p + 1)) = some (b', v.drop p') ∧ p' ≤ n ∧ OtSt B w ([⟨⟨1, s.data.toList, u.data.toList, L.map abVal, [], (m : Int)⟩, s, u, ⟨#[]⟩, A4, c4⟩] ++ M) V' wr ∧ M.map NB.n = (walkK (walkD resF resDn d (stackE (path ++ [nd]))) j (v.drop (p + 1))).1.1 ∧ (q0 && (walkK (walkD resF resDn d (stackE (path ++ [nd]))) j (v.drop (p + 1))).1.2) = q ∧ Below wc.heap.size wc wr ∧ (∀ g, V'.ownBlock = some g → wc.heap.size ≤ g) ∧ (0 < m → ∃ g, A6 = some ⟨g, 0, none⟩ ∧ g < wr.heap.size ∧ some g ≠ V'.ownBlock ∧ ∀ (j q : Nat), ul[j]? = some q → wr.cell? ⟨g, j, none⟩ = some (.int .i64 (q : Int))))
    case atStart =>
      refine ⟨0, false, p + 1, [], _, q0, by omega, rfl, rfl, rfl, by rw [kidsD], by have := HLN.out; omega, by rw [List.append_nil]; exact HS3.out.below HB6.out, by simp [walkK], by simp [walkK], stp HC3.out HB6.out, (fun g h => by have h2 : W2.heap.size = g := (by simpa [Value.ownBlock] using h); have := HCW.out; omega), fun h0 => ?_⟩
      obtain ⟨g6, e, h1, h2, h3⟩ := HU6.out h0
      refine ⟨g6, e, h2, fun e2 => ?_, h3⟩
      have e3 : g6 = W2.heap.size := by simpa [Value.ownBlock] using e2
      have := HZ3.out
      omega
    case round =>
      obtain ⟨j, b', p', M, V', q, hjg, rfl, rfl, rfl, hkd, hpn', hst, hM, hq, hbc, hvb, hu⟩ := hrel
      have HVB := Lib.hid hvb
      have HST := Lib.hid hst
      have HMM2 := Lib.hid hM
      have HQ := Lib.hid hq
      have HBC := Lib.hid hbc
      have hrest := (walkK_rest (f := resF) (dn := resDn) (fun l r e h => walkD_rest d l r e h) (stackE (path ++ [nd])) j false _ b' _ hkd).1
      obtain ⟨LL, hLL⟩ : ∃ LL, [⟨⟨1, s.data.toList, u.data.toList, L.map abVal, [], (m : Int)⟩, s, u, ⟨#[]⟩, A4, c4⟩] ++ M = LL := ⟨_, rfl⟩
      have HLL := Lib.hid hLL
      rw [hLL] at HST hst
      have hlb : LL.length ≤ 600 := by
        have h1 := (walkK_rest (f := resF) (dn := resDn) (fun l r e h => walkD_rest d l r e h) (stackE (path ++ [nd])) j false _ b' _ hkd).2
        rw [← hM, List.length_map, List.length_drop, List.length_drop] at h1
        have := HLN.out
        rw [← hLL, List.length_append, List.length_singleton]
        omega
      have HLB := Lib.hid hlb
      by_cases hlt : j < m
      · have hlt2 : (j : Int) < (m : Int) := by omega
        obtain ⟨hp2, r2, h1, h2, h3⟩ := kids_more HKD.out hkd hlt
        obtain ⟨g6, rfl, hg6, hg6n, hci0⟩ := hu (by omega)
        have hci := hci0 j p' (HUA.out j b' p' hlt hkd (by have := HLN.out; omega))
        have HCI0 := Lib.hid hci0
        have HG6 := Lib.hid (And.intro hg6 hg6n)
        have hwl := walkD_rest (f := resF) (dn := resDn) d _ _ (stackE (path ++ [nd])) h1
        have hrl := restD_len h1
        have HC : Hid (Calls Tryz.prog 24 #[.slice (some ⟨b0, off, none⟩) n c, .int .i64 p', .slice A3 (p0 + 1) c3] wr fun e w' => ∃ (ad : Addr) (M2 : List NB) (cx : Nat), e = .returned (.tuple #[.slice (some ad) M2.length cx, .bool (walkD resF resDn d (stackE (path ++ [nd])) (v.drop p')).1.2]) ∧ M2.map NB.n = (walkD resF resDn d (stackE (path ++ [nd])) (v.drop p')).1.1 ∧ (∀ b ∈ M2, NdIn b.n b.x b.y b.z b.A b.c w' (Ot B wr w' none)) ∧ (∀ (j : Nat) (u : Value), (M2.flatMap nbCells)[j]? = some u → w'.cell? (ad.add j) = some u) ∧ Below wr.heap.size wr w') := Lib.hid (by
          have hcc := HIH.out p' r2 (path ++ [nd]) A3 c3 wr hp2 h1 (HRD.out.keep (fun _ h => h) fun b o hb => hst.2.2.cell (p := ⟨b, o, none⟩) (Nat.lt_of_lt_of_le hb HB.out)) (Nat.le_trans HB.out hst.2.2.size) (HD3.out.on hbc) (by rw [HDL.out]; have := HPL.out; have := HP0.out; omega) HSS.out HN3.out
          rw [HDL.out] at hcc
          refine hcc.mono fun e w' hh => ?_
          obtain ⟨Ax, cx, rfl, hrdx, hbx⟩ := hh
          obtain ⟨ad, M2, rfl, hM2, hN2, hC2⟩ := hrdx.out (by omega)
          exact ⟨ad, M2, cx, by rw [← hM2, List.length_map], hM2, hN2, hC2, hbx⟩)
        obtain ⟨p3, hp3⟩ : ∃ p3, v.length - r2.length = p3 := ⟨_, rfl⟩
        rw [hp3] at h2
        have H2 := Lib.hid h2
        have HP3 : Hid (p3 ≤ n) := Lib.hid (by have := HLN.out; omega)
        obtain ⟨qx, hqx⟩ : ∃ qx, (walkD resF resDn d (stackE (path ++ [nd])) (v.drop p')).1.2 = qx := ⟨_, rfl⟩
        rw [hqx] at HC
        have HSN : Hid ((walkK (walkD resF resDn d (stackE (path ++ [nd]))) (j + 1) (v.drop (p + 1))).1 = ((walkK (walkD resF resDn d (stackE (path ++ [nd]))) j (v.drop (p + 1))).1.1 ++ (walkD resF resDn d (stackE (path ++ [nd])) (v.drop p')).1.1, (walkK (walkD resF resDn d (stackE (path ++ [nd]))) j (v.drop (p + 1))).1.2 && qx)) := Lib.hid (by rw [walkK_snocs, hrest, hqx])
        have HTB : Hid ((walkD resF resDn d (stackE (path ++ [nd])) (v.drop p')).1.1.length ≤ 512) := Lib.hid (by have := hwl.2; rw [List.length_drop] at this; have := HLN.out; omega)
        clear hkd h1 h2 h3 hp3 hst hM hrest hci0 hlb hLL hq hbc hvb hu hwl hrl hqx hg6 hg6n
        cases q with
        | false =>
          go_wp2_with (first
            | (go_at_call 24; (with_reducible refine (HC.out).mono ?_); rintro e2 w2 ⟨ad2, M2, cx2, rfl, hM2, hn2, ht2, hb2⟩; have HM2 := Lib.hid hM2; have HN2 := Lib.hid hn2; have HT2 := Lib.hid ht2; have HB2' := Lib.hid hb2; have HMB2 : Hid (M2.length ≤ 512) := Lib.hid (by have := HTB.out; rw [← hM2, List.length_map] at this; exact this); clear hM2 hn2 ht2 hb2)
            | (at_builtin; refine wpList_append_own_at _ rfl (.tmp 66) (.tmp 67) 22 rfl w.heap.size 39 i0 (.agg #[.int .u8 0, .string ⟨#[]⟩, .string ⟨#[]⟩, .slice none 0 0, .string ⟨#[]⟩, .int .i64 0]) 6 88 Tryz.underlying22 HI.out HZ0.out HZ1.out HZ2.out rfl (by decide) _ LL.length _ rfl (HST.out.below HB2'.out).1 ad2 M2.length cx2 (M2.flatMap nbCells) rfl (nb_len M2) HT2.out (nb_one M2) (by have := HLB.out; have := HMB2.out; unfold maxLen; omega) (by have := HLB.out; have := HMB2.out; omega) (HST.out.below HB2'.out).2.2.size ?_
               intro v5 w9 hown9 hgr9 _ hlie9
               have HT9 := Lib.hid (OtSt.more HB.out HST.out HB2'.out HN2.out hown9 hgr9 hlie9)
               have HC9 : Hid (Below wc.heap.size wc w9) := Lib.hid ((stp HBC.out HB2'.out).grown hgr9 (stp HBC.out HB2'.out).size HVB.out)
               have HU9 : Hid (g6 < w9.heap.size ∧ some g6 ≠ v5.ownBlock ∧ ∀ (j q : Nat), ul[j]? = some q → w9.cell? ⟨g6, j, none⟩ = some (.int .i64 (q : Int))) := Lib.hid ⟨by have := hgr9.size; have := HB2'.out.size; have := HG6.out.1; omega, fun e => by
                 rcases hlie9 with h | h
                 · rw [h] at e; exact HG6.out.2 e
                 · rw [h] at e; injection e with e; have := HB2'.out.size; have := HG6.out.1; omega, fun j q hj => (hgr9.cell_far ⟨g6, j, none⟩ (by have := HB2'.out.size; have := HG6.out.1; show g6 < _; omega) HG6.out.2).trans ((HB2'.out.cell (p := ⟨g6, j, none⟩) HG6.out.1).trans (HCI0.out j q hj))⟩
               have HL9 : Hid (∀ g, v5.ownBlock = some g → wc.heap.size ≤ g) := Lib.hid (fun g h => by
                 rcases hlie9 with e | e
                 · rw [e] at h; exact HVB.out g h
                 · rw [e] at h
                   injection h with h
                   have := (stp HBC.out HB2'.out).size
                   omega)
               clear hown9 hgr9 hlie9)
            | fail)
          go_roundg (gk - 1)
          case measure => omega
          case rel =>
            refine ⟨j + 1, _, p3, M ++ M2, _, false, by omega, by go_num, rfl, rfl, H2.out, HP3.out, by rw [← List.append_assoc, HLL.out]; exact HT9.out, by rw [List.map_append, HMM2.out, HM2.out, HSN.out], ?_, HC9.out, HL9.out, fun _ => ⟨g6, rfl, HU9.out⟩⟩
            rw [HSN.out, ← Bool.and_assoc, HQ.out]
            simp
        | true =>
          go_wp2_with (first
            | (go_at_call 24; (with_reducible refine (HC.out).mono ?_); rintro e2 w2 ⟨ad2, M2, cx2, rfl, hM2, hn2, ht2, hb2⟩; have HM2 := Lib.hid hM2; have HN2 := Lib.hid hn2; have HT2 := Lib.hid ht2; have HB2' := Lib.hid hb2; have HMB2 : Hid (M2.length ≤ 512) := Lib.hid (by have := HTB.out; rw [← hM2, List.length_map] at this; exact this); clear hM2 hn2 ht2 hb2)
            | (at_builtin; refine wpList_append_own_at _ rfl (.tmp 66) (.tmp 67) 22 rfl w.heap.size 39 i0 (.agg #[.int .u8 0, .string ⟨#[]⟩, .string ⟨#[]⟩, .slice none 0 0, .string ⟨#[]⟩, .int .i64 0]) 6 88 Tryz.underlying22 HI.out HZ0.out HZ1.out HZ2.out rfl (by decide) _ LL.length _ rfl (HST.out.below HB2'.out).1 ad2 M2.length cx2 (M2.flatMap nbCells) rfl (nb_len M2) HT2.out (nb_one M2) (by have := HLB.out; have := HMB2.out; unfold maxLen; omega) (by have := HLB.out; have := HMB2.out; omega) (HST.out.below HB2'.out).2.2.size ?_
               intro v5 w9 hown9 hgr9 _ hlie9
               have HT9 := Lib.hid (OtSt.more HB.out HST.out HB2'.out HN2.out hown9 hgr9 hlie9)
               have HC9 : Hid (Below wc.heap.size wc w9) := Lib.hid ((stp HBC.out HB2'.out).grown hgr9 (stp HBC.out HB2'.out).size HVB.out)
               have HU9 : Hid (g6 < w9.heap.size ∧ some g6 ≠ v5.ownBlock ∧ ∀ (j q : Nat), ul[j]? = some q → w9.cell? ⟨g6, j, none⟩ = some (.int .i64 (q : Int))) := Lib.hid ⟨by have := hgr9.size; have := HB2'.out.size; have := HG6.out.1; omega, fun e => by
                 rcases hlie9 with h | h
                 · rw [h] at e; exact HG6.out.2 e
                 · rw [h] at e; injection e with e; have := HB2'.out.size; have := HG6.out.1; omega, fun j q hj => (hgr9.cell_far ⟨g6, j, none⟩ (by have := HB2'.out.size; have := HG6.out.1; show g6 < _; omega) HG6.out.2).trans ((HB2'.out.cell (p := ⟨g6, j, none⟩) HG6.out.1).trans (HCI0.out j q hj))⟩
               have HL9 : Hid (∀ g, v5.ownBlock = some g → wc.heap.size ≤ g) := Lib.hid (fun g h => by
                 rcases hlie9 with e | e
                 · rw [e] at h; exact HVB.out g h
                 · rw [e] at h
                   injection h with h
                   have := (stp HBC.out HB2'.out).size
                   omega)
               clear hown9 hgr9 hlie9)
            | fail)
          go_roundg (gk - 1)
          case measure => omega
          case rel =>
            refine ⟨j + 1, _, p3, M ++ M2, _, qx, by omega, by go_num, rfl, rfl, H2.out, HP3.out, by rw [← List.append_assoc, HLL.out]; exact HT9.out, by rw [List.map_append, HMM2.out, HM2.out, HSN.out], ?_, HC9.out, HL9.out, fun _ => ⟨g6, rfl, HU9.out⟩⟩
            rw [HSN.out, ← Bool.and_assoc, HQ.out]
            simp
      · obtain rfl : j = m := by omega
        have hjj : ¬ ((j : Int) < (j : Int)) := by omega
        obtain ⟨A9, c9, rfl⟩ := own_form2 HST.out.1
        clear hkd hst hM hrest hlb hLL hq hbc hvb hu
        go_wp2_with fail
        go_ret2
        obtain ⟨R9, _⟩ := HST.out.read
        have hl : LL.map NB.n = (walkD resF resDn (d + 1) (stackE path) (nd :: v.drop (p + 1))).1.1 := by
          rw [HW.out, ← HLL.out, List.map_append, HMM2.out]
          show [_] ++ _ = _
          unfold resF resDn
          rw [← HE1.out, HNE.out, HMN.out]
          rfl
        have hqq : (walkD resF resDn (d + 1) (stackE path) (nd :: v.drop (p + 1))).1.2 = q := by
          rw [HW.out, ← HQ.out]
          unfold resF resDn
          rw [← HE1.out, HNE.out, HMN.out]
          rfl
        rw [hl] at R9
        rw [hqq]
        refine ⟨A9, c9, ?_, R9, HST.out.2.2⟩
        show Ending.returned (.tuple #[.slice A9 LL.length c9, .bool q]) = _
        rw [← hl, List.length_map]

end Hx
end Go.Proofs.YteobcohjikjalaaGreatDoor
