/-
  Plain facts on memory, for slices of elements of whatever cells: what a run of cells reads as; a slice that reads as a list of such; what a slice that came in reads as.
-/
import Derived.Test.YtichboamakgabaaMem
import Derived.Deep.Slices
namespace Go.Proofs.Ytichboamakgabaa
open Go.RowKit
namespace Hx
set_option linter.unusedVariables false
/-- How a run of k cells reads as something, all that it leads to lying below a block. -/
structure Cod (α : Type) where
  k : Nat
  R : World → Nat → List Value → α → Prop
  len : ∀ {w : World} {B : Nat} {cs : List Value} {x : α}, R w B cs x → cs.length = k
  keep : ∀ {w w' : World} {B B' : Nat} {cs : List Value} {x : α}, R w B cs x → B ≤ B' → (∀ b o, b < B → w'.cell? ⟨b, o, none⟩ = w.cell? ⟨b, o, none⟩) → R w' B' cs x
/-- The slice at address A reads as the list l, all below block B. -/
def RdC {α : Type} (C : Cod α) (w : World) (B : Nat) (A : Option Addr) (l : List α) : Prop :=
  0 < l.length → ∃ b off, A = some ⟨b, off, none⟩ ∧ b < B ∧ ∀ j (h : j < l.length), ∃ cs, C.R w B cs (l[j]'h) ∧ ∀ i (hi : i < cs.length), w.cell? ⟨b, off + j * C.k + i, none⟩ = some (cs[i]'hi)
section
variable {α : Type} {C : Cod α}
theorem RdC.keep {w w' : World} {B B' : Nat} {A : Option Addr} {l : List α} (h : RdC C w B A l) (hB : B ≤ B') (hk : ∀ b o, b < B → w'.cell? ⟨b, o, none⟩ = w.cell? ⟨b, o, none⟩) : RdC C w' B' A l := by
  intro hp
  obtain ⟨b, off, e, hb, hc⟩ := h hp
  refine ⟨b, off, e, by omega, fun j hj => ?_⟩
  obtain ⟨cs, h1, h2⟩ := hc j hj
  exact ⟨cs, C.keep h1 hB hk, fun i hi => (hk _ _ hb).trans (h2 i hi)⟩
theorem RdC.below {w w' : World} {B : Nat} {A : Option Addr} {l : List α} (h : RdC C w B A l) (hb : Below B w w') : RdC C w' B A l := h.keep (Nat.le_refl _) fun b o hlt => hb.cell (p := ⟨b, o, none⟩) hlt
theorem RdC.mono {w : World} {B B' : Nat} {A : Option Addr} {l : List α} (h : RdC C w B A l) (hB : B ≤ B') : RdC C w B' A l := h.keep hB fun _ _ _ => rfl
theorem RdC.on {w w' : World} {A : Option Addr} {l : List α} (h : RdC C w w.heap.size A l) (hb : Below w.heap.size w w') : RdC C w' w'.heap.size A l := (h.below hb).mono hb.size
theorem RdC.nil (w : World) (B : Nat) (A : Option Addr) : RdC C w B A [] := fun h => absurd h (by simp)
end
theorem Cod.below {α : Type} (C : Cod α) {w w' : World} {B : Nat} {cs : List Value} {x : α} (h : C.R w B cs x) (hb : Below B w w') : C.R w' B cs x := C.keep h (Nat.le_refl _) fun b o hlt => hb.cell (p := ⟨b, o, none⟩) hlt
theorem Cod.on {α : Type} (C : Cod α) {w w' : World} {cs : List Value} {x : α} (h : C.R w w.heap.size cs x) (hb : Below w.heap.size w w') : C.R w' w'.heap.size cs x := C.keep h hb.size fun b o hlt => hb.cell (p := ⟨b, o, none⟩) hlt
/-- A text; a slice. -/
def StC : Cod (List UInt8) where
  k := 1
  R _ _ cs l := ∃ s : ByteArray, cs = [.string s] ∧ s.data.toList = l
  len := by rintro _ _ _ _ ⟨s, rfl, _⟩; rfl
  keep := fun h _ _ => h
def SlC {α : Type} (C : Cod α) : Cod (List α) where
  k := 1
  R w B cs l := ∃ A c, cs = [.slice A l.length c] ∧ l.length ≤ c ∧ c ≤ maxLen ∧ (A = none → c = 0) ∧ RdC C w B A l
  len := by rintro _ _ _ _ ⟨A, c, rfl, _⟩; rfl
  keep := fun ⟨A, c, h1, h2, h3, h4, h5⟩ hB hk => ⟨A, c, h1, h2, h3, h4, h5.keep hB hk⟩
/-- What came in of a type reads so. -/
def Opens {H : Type} (enc : TypeId × Value → H) (P : Program) {α : Type} (C : Cod α) (t : TypeId) : Prop :=
  ∀ (W : World) (sp : Nat → Bool) (held : Bool) (fuel : Nat) (cs : List Value) (x : DataW H × List MemPlace), DataW.trod enc P W 0 sp held fuel t cs = some x → ∃ v, C.R W W.heap.size cs v
section
variable {H : Type} {enc : TypeId × Value → H} {P : Program}
theorem Opens.text {t : TypeId} (ht : P.underlying t = some .string) : Opens enc P StC t := fun W sp held fuel cs x h => by
  obtain ⟨s, rfl, _⟩ := DataW.trod_string ht h
  exact ⟨_, s, rfl, rfl⟩
theorem Opens.slice {α : Type} {C : Cod α} {t e : TypeId} (ht : P.underlying t = some (.slice e)) (hk : P.cellsOf e = C.k) (hk0 : 0 < C.k) (he : Opens enc P C e) : Opens enc P (SlC C) t := fun W sp held fuel cs x h => by
  rcases Go.Deep.open_slice ht h with ⟨rfl, _⟩ | ⟨a, len, cap, m, n, D, Pl, rfl, _, hl, hm, hmm, _, hel⟩
  · exact ⟨[], none, 0, rfl, Nat.le_refl _, Nat.zero_le _, fun _ => rfl, RdC.nil _ _ _⟩
  · have hlm : len ≤ m := by rw [hmm]; split <;> omega
    have each : ∀ i, i < len → ∃ v : α, ∃ cs', C.R W W.heap.size cs' v ∧ ∀ j (hj : j < cs'.length), W.cell? ((a.add (i * C.k)).add j) = some (cs'[j]'hj) := fun i hi => by
      obtain ⟨cs', h1, h2⟩ := hel i (by omega)
      obtain ⟨v, hv⟩ := he _ _ _ _ _ _ h2
      obtain ⟨_, k2, k3⟩ := World.cells?_some h1
      rw [hk] at k2 k3
      exact ⟨v, cs', hv, fun j hj => by rw [k3 j (by omega)]; exact List.getElem?_eq_getElem hj⟩
    by_cases hl0 : len = 0
    · subst hl0
      exact ⟨[], some a, cap, rfl, Nat.zero_le _, hm, fun h => (by cases h), RdC.nil _ _ _⟩
    · classical
      obtain ⟨v0, _⟩ := each 0 (by omega)
      let f : Nat → α := fun i => if hi : i < len then Classical.choose (each i hi) else v0
      have hf : ∀ i (hi : i < len), ∃ cs', C.R W W.heap.size cs' (f i) ∧ ∀ j (hj : j < cs'.length), W.cell? ((a.add (i * C.k)).add j) = some (cs'[j]'hj) := fun i hi => by
        show ∃ cs', C.R W W.heap.size cs' (if hi : i < len then Classical.choose (each i hi) else v0) ∧ _
        rw [dif_pos hi]
        exact Classical.choose_spec (each i hi)
      have hlen : ((List.range len).map f).length = len := by simp
      refine ⟨(List.range len).map f, some a, cap, by rw [hlen], by omega, hm, fun h => (by cases h), fun _ => ?_⟩
      obtain ⟨b, off, spot⟩ := a
      have hspot : spot = none := by
        obtain ⟨cs', h1, h2⟩ := hf 0 (by omega)
        have hc := C.len h1
        have := World.cell?_spot (h2 0 (by omega))
        simpa [Addr.add] using this
      subst hspot
      refine ⟨b, off, rfl, ?_, fun j hj => ?_⟩
      · obtain ⟨cs', h1, h2⟩ := hf 0 (by omega)
        have hc := C.len h1
        have := h2 0 (by omega)
        rw [addr_plain, addr_plain] at this
        exact World.block_lt_of_cell? (a := ⟨b, _, none⟩) W this
      · rw [hlen] at hj
        obtain ⟨cs', h1, h2⟩ := hf j hj
        refine ⟨cs', by simpa using h1, fun i hi => ?_⟩
        have := h2 i hi
        rw [addr_plain, addr_plain] at this
        exact this
end
theorem flat_at {β : Type} (f : β → List Value) (k : Nat) (hk : ∀ b, (f b).length = k) : ∀ (l : List β) (j i : Nat) (hj : j < l.length) (hi : i < k), (l.flatMap f)[j * k + i]? = some ((f (l[j]'hj))[i]'(by rw [hk]; exact hi)) := by
  intro l
  induction l with
  | nil => intro j i hj; simp at hj
  | cons b l ih =>
    intro j i hj hi
    rw [List.flatMap_cons]
    cases j with
    | zero =>
      rw [Nat.zero_mul, Nat.zero_add, List.getElem?_append_left (by rw [hk]; exact hi)]
      exact List.getElem?_eq_getElem _
    | succ j =>
      rw [List.getElem?_append_right (by rw [hk, Nat.succ_mul]; omega), hk, show (j + 1) * k + i - k = j * k + i by rw [Nat.succ_mul]; omega]
      exact ih j i (by simpa using hj) hi
theorem flat_len {β : Type} (f : β → List Value) (k : Nat) (hk : ∀ b, (f b).length = k) (l : List β) : (l.flatMap f).length = l.length * k := by
  induction l with
  | nil => simp
  | cons b l ih => rw [List.flatMap_cons, List.length_append, hk, ih, List.length_cons, Nat.succ_mul]; omega
/-- A row of the call's own, of elements of k cells, reads as a list. -/
theorem RdC.of_own {α β : Type} {C : Cod α} {w : World} {base : Nat} {e : TypeId} {A : Option Addr} {n c : Nat} (f : β → List Value) (val : β → α) (hk : ∀ b, (f b).length = C.k) (hk0 : 0 < C.k) (l : List β) (hR : ∀ b ∈ l, C.R w w.heap.size (f b) (val b))
    (h : w.ownsRow base e C.k (.slice A n c) n (l.flatMap f)) : RdC C w w.heap.size A (l.map val) ∧ l.length = n ∧ n ≤ c ∧ c ≤ maxLen ∧ (A = none → c = 0) := by
  have hl : l.length = n := by
    have := h.1
    rw [flat_len f C.k hk] at this
    exact Nat.eq_of_mul_eq_mul_right hk0 this
  rcases h.2 with ⟨e1, h0⟩ | ⟨g, cap, cur, hv, hb, hg, hnc, hcm, _, _⟩
  · injection e1 with e1 e2 e3
    subst e1 e3
    have : l = [] := List.eq_nil_of_length_eq_zero (by omega)
    subst this
    exact ⟨RdC.nil _ _ _, hl, by omega, Nat.zero_le _, fun _ => rfl⟩
  · injection hv with e1 e2 e3
    subst e1 e3
    have hlt : g < w.heap.size := (Array.getElem?_eq_some_iff.1 hg).1
    refine ⟨fun hp => ⟨g, 0, rfl, hlt, fun j hj => ?_⟩, hl, hnc, hcm, fun h => by cases h⟩
    have hj' : j < l.length := by simpa using hj
    refine ⟨f (l[j]'hj'), by simpa using hR _ (List.getElem_mem hj'), fun i hi => ?_⟩
    have hi' : i < C.k := by rw [hk] at hi; exact hi
    have := h.cells (g := g) rfl (j * C.k + i) _ (flat_at f C.k hk l j i hj' hi')
    rw [addr_plain] at this
    rw [Nat.zero_add, ← this, Nat.zero_add]
end Hx
end Go.Proofs.Ytichboamakgabaa
