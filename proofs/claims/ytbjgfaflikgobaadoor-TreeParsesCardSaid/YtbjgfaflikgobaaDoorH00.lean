/-
  Texts of one seat, put together: Mem, MemC, TextM, NumM, EscM, LexM.
-/
import Derived.Test.YtbjgfaflikgobaaDoorRows
import Derived.WalkKit
import Derived.WalkSpells
import Derived.WalkLawsBesides
import Derived.Lib.OthersKept
import Derived.WalkSmall
import Derived.Lib.Hide
import Derived.Laws.BytesArg
import Derived.Laws.IdiomStrings
import Derived.Laws.AppendOwnNone
import Derived.ProofKit
import Derived.OpenShut
import Derived.ShutString
import Derived.ChangeOld
import Derived.Below
import Derived.Deep.Slices
import GoSem.Core.Utf8
namespace Go.Proofs.YtbjgfaflikgobaaDoor
open Go.RowKit
namespace Hx

/-- The slice at address A reads as the bytes l, all below block B. -/
def RdA (w : World) (B : Nat) (A : Option Addr) (l : List UInt8) : Prop :=
  0 < l.length → ∃ b off, A = some ⟨b, off, none⟩ ∧ b < B ∧ ∀ j (h : j < l.length), w.cell? ⟨b, off + j, none⟩ = some (.int .u8 (l[j]'h).toNat)

theorem RdA.keep {w w' : World} {B B' : Nat} {A : Option Addr} {l : List UInt8} (h : RdA w B A l) (hB : B ≤ B') (hk : ∀ b o, b < B → w'.cell? ⟨b, o, none⟩ = w.cell? ⟨b, o, none⟩) : RdA w' B' A l := by
  intro hp
  obtain ⟨b, off, e, hb, hc⟩ := h hp
  exact ⟨b, off, e, by omega, fun j hj => (hk _ _ hb).trans (hc j hj)⟩
theorem RdA.below {w w' : World} {B : Nat} {A : Option Addr} {l : List UInt8} (h : RdA w B A l) (hb : Below B w w') : RdA w' B A l :=
  h.keep (Nat.le_refl _) fun b o hlt => hb.cell (p := ⟨b, o, none⟩) hlt
theorem RdA.mono {w : World} {B B' : Nat} {A : Option Addr} {l : List UInt8} (h : RdA w B A l) (hB : B ≤ B') : RdA w B' A l := h.keep hB fun _ _ _ => rfl
theorem RdA.nil (w : World) (B : Nat) (A : Option Addr) : RdA w B A [] := fun h => absurd h (by simp)
theorem addr_plain (b o i : Nat) : (⟨b, o, none⟩ : Addr).add i = ⟨b, o + i, none⟩ := by
  unfold Addr.add
  split <;> simp_all
theorem RdA.of_own {w : World} {base : Nat} {e : TypeId} {A : Option Addr} {n c : Nat} {l : List UInt8} (h : w.ownsRow base e 1 (.slice A n c) n (Lib.byteCells l)) : RdA w w.heap.size A l ∧ l.length = n := by
  have hl : l.length = n := by have := h.1; rw [Lib.byteCells_length] at this; omega
  refine ⟨fun hp => ?_, hl⟩
  rcases h.2 with ⟨_, h0⟩ | ⟨g, cap, cur, hv, _, hg, _⟩
  · omega
  injection hv with hA _ _
  subst hA
  have hlt : g < w.heap.size := (Array.getElem?_eq_some_iff.1 hg).1
  refine ⟨g, 0, rfl, hlt, fun j hj => ?_⟩
  have := h.cells (g := g) rfl j (.int .u8 (l[j]'hj).toNat) (by simp [Lib.byteCells, hj])
  rw [addr_plain] at this
  exact this
theorem own_form {w : World} {base : Nat} {e : TypeId} {v : Value} {n : Nat} {xs : List Value} (h : w.ownsRow base e 1 v n xs) : ∃ A c, v = .slice A n c := by
  rcases h.2 with ⟨rfl, rfl⟩ | ⟨g, cap, cur, rfl, _⟩
  · exact ⟨none, 0, rfl⟩
  · exact ⟨_, cap, rfl⟩
theorem own_below {w w' : World} {B base : Nat} {e : TypeId} {v : Value} {n : Nat} {xs : List Value} (h : w.ownsRow base e 1 v n xs) (hb : Below B w w') (hB : w.heap.size ≤ B) : w'.ownsRow base e 1 v n xs := by
  refine h.kept (row := none) ⟨hb.os, hb.tape, hb.output, hb.size, fun k hk _ => hb.block k (by omega)⟩ ?_
  cases v.ownBlock
  · exact .inl rfl
  · exact .inr (by simp)

theorem RdA.new (w : World) (t : TypeId) (l : List UInt8) : RdA (w.alloc (.cells (Lib.byteCells l).toArray t)) (w.heap.size + 1) (some ⟨w.heap.size, 0, none⟩) l := by
  intro _
  refine ⟨_, _, rfl, Nat.lt_succ_self _, fun j hj => ?_⟩
  rw [World.cell?_alloc_new]
  simp [Lib.byteCells, hj]
theorem RdA.newS (w : World) (t : TypeId) (l : List UInt8) : RdA (w.alloc (.cells (Lib.byteCells l).toArray t)) (w.alloc (.cells (Lib.byteCells l).toArray t)).heap.size (some ⟨w.heap.size, 0, none⟩) l :=
  (RdA.new w t l).mono (by simp)

/-- string(b). -/
theorem conv_str {P : Program} {w : World} {B src dst e : Nat} {A : Option Addr} {n c : Nat} {l : List UInt8} (h : RdA w B A l) (hn : l.length = n)
    (hs : P.underlying src = some (.slice e)) (he : P.underlying e = some (.int .u8)) (hd : P.underlying dst = some .string) :
    (convert src dst (.slice A n c)).run P w = .ok (.string ⟨l.toArray⟩) w := by
  subst hn
  rcases Nat.eq_zero_or_pos l.length with h0 | h0
  · have hl : l = [] := List.eq_nil_of_length_eq_zero h0
    subst hl
    rcases A with _ | a
    · exact run_convert_bytes_nil w src e hs he _ _ dst hd
    · exact run_convert_bytes_back w src dst e a c [] hs he hd (fun j hj => absurd hj (by simp))
  · obtain ⟨b, off, rfl, _, hc⟩ := h h0
    exact run_convert_bytes_back w src dst e _ c l hs he hd (fun j hj => by rw [addr_plain]; exact hc j hj)


theorem stp {a b c : World} (h : Below a.heap.size a b) (k : Below b.heap.size b c) : Below a.heap.size a c := h.trans (k.mono h.size)
theorem stpA {a b : World} (h : Below a.heap.size a b) (o : Obj) : Below a.heap.size a (b.alloc o) := h.alloc h.size o

end Hx
end Go.Proofs.YtbjgfaflikgobaaDoor
namespace Go.Proofs.YtbjgfaflikgobaaDoor
open Go.RowKit
namespace Hx
set_option linter.unusedVariables false
/-- How a run of k cells reads as something, all that it leads to lying below a block. -/
structure Cod (α : Type) where
  k : Nat
  R : World → Nat → List Value → α → Prop
  len : ∀ {w : World} {B : Nat} {cs : List Value} {x : α}, R w B cs x → cs.length = k
  keep : ∀ {w w' : World} {B B' : Nat} {cs : List Value} {x : α}, R w B cs x → B ≤ B' → (∀ b o, b < B → w'.cell? ⟨b, o, none⟩ = w.cell? ⟨b, o, none⟩) → R w' B' cs x
/-- The slice at address A reads as the list l, all below block B. -/
def RdC {α : Type} (C : Cod α) (w : World) (B : Nat) (A : Option Addr) (l : List α) : Prop :=
  0 < l.length → ∃ b off, A = some ⟨b, off, none⟩ ∧ b < B ∧ ∀ j (h : j < l.length), ∃ cs, C.R w B cs (l[j]'h) ∧ ∀ i (hi : i < cs.length), w.cell? ⟨b, off + j * C.k + i, none⟩ = some (cs[i]'hi)
section
variable {α : Type} {C : Cod α}
theorem RdC.keep {w w' : World} {B B' : Nat} {A : Option Addr} {l : List α} (h : RdC C w B A l) (hB : B ≤ B') (hk : ∀ b o, b < B → w'.cell? ⟨b, o, none⟩ = w.cell? ⟨b, o, none⟩) : RdC C w' B' A l := by
  intro hp
  obtain ⟨b, off, e, hb, hc⟩ := h hp
  refine ⟨b, off, e, by omega, fun j hj => ?_⟩
  obtain ⟨cs, h1, h2⟩ := hc j hj
  exact ⟨cs, C.keep h1 hB hk, fun i hi => (hk _ _ hb).trans (h2 i hi)⟩
theorem RdC.below {w w' : World} {B : Nat} {A : Option Addr} {l : List α} (h : RdC C w B A l) (hb : Below B w w') : RdC C w' B A l := h.keep (Nat.le_refl _) fun b o hlt => hb.cell (p := ⟨b, o, none⟩) hlt
theorem RdC.mono {w : World} {B B' : Nat} {A : Option Addr} {l : List α} (h : RdC C w B A l) (hB : B ≤ B') : RdC C w B' A l := h.keep hB fun _ _ _ => rfl
theorem RdC.on {w w' : World} {A : Option Addr} {l : List α} (h : RdC C w w.heap.size A l) (hb : Below w.heap.size w w') : RdC C w' w'.heap.size A l := (h.below hb).mono hb.size
theorem RdC.nil (w : World) (B : Nat) (A : Option Addr) : RdC C w B A [] := fun h => absurd h (by simp)
end
theorem Cod.below {α : Type} (C : Cod α) {w w' : World} {B : Nat} {cs : List Value} {x : α} (h : C.R w B cs x) (hb : Below B w w') : C.R w' B cs x := C.keep h (Nat.le_refl _) fun b o hlt => hb.cell (p := ⟨b, o, none⟩) hlt
theorem Cod.on {α : Type} (C : Cod α) {w w' : World} {cs : List Value} {x : α} (h : C.R w w.heap.size cs x) (hb : Below w.heap.size w w') : C.R w' w'.heap.size cs x := C.keep h hb.size fun b o hlt => hb.cell (p := ⟨b, o, none⟩) hlt
/-- A text; a slice. -/
def StC : Cod (List UInt8) where
  k := 1
  R _ _ cs l := ∃ s : ByteArray, cs = [.string s] ∧ s.data.toList = l
  len := by rintro _ _ _ _ ⟨s, rfl, _⟩; rfl
  keep := fun h _ _ => h
def SlC {α : Type} (C : Cod α) : Cod (List α) where
  k := 1
  R w B cs l := ∃ A c, cs = [.slice A l.length c] ∧ l.length ≤ c ∧ c ≤ maxLen ∧ (A = none → c = 0) ∧ RdC C w B A l
  len := by rintro _ _ _ _ ⟨A, c, rfl, _⟩; rfl
  keep := fun ⟨A, c, h1, h2, h3, h4, h5⟩ hB hk => ⟨A, c, h1, h2, h3, h4, h5.keep hB hk⟩
/-- What came in of a type reads so. -/
def Opens {H : Type} (enc : TypeId × Value → H) (P : Program) {α : Type} (C : Cod α) (t : TypeId) : Prop :=
  ∀ (W : World) (sp : Nat → Bool) (held : Bool) (fuel : Nat) (cs : List Value) (x : DataW H × List MemPlace), DataW.trod enc P W 0 sp held fuel t cs = some x → ∃ v, C.R W W.heap.size cs v
section
variable {H : Type} {enc : TypeId × Value → H} {P : Program}
theorem Opens.text {t : TypeId} (ht : P.underlying t = some .string) : Opens enc P StC t := fun W sp held fuel cs x h => by
  obtain ⟨s, rfl, _⟩ := DataW.trod_string ht h
  exact ⟨_, s, rfl, rfl⟩
theorem Opens.slice {α : Type} {C : Cod α} {t e : TypeId} (ht : P.underlying t = some (.slice e)) (hk : P.cellsOf e = C.k) (hk0 : 0 < C.k) (he : Opens enc P C e) : Opens enc P (SlC C) t := fun W sp held fuel cs x h => by
  rcases Go.Deep.open_slice ht h with ⟨rfl, _⟩ | ⟨a, len, cap, m, n, D, Pl, rfl, _, hl, hm, hmm, _, hel⟩
  · exact ⟨[], none, 0, rfl, Nat.le_refl _, Nat.zero_le _, fun _ => rfl, RdC.nil _ _ _⟩
  · have hlm : len ≤ m := by rw [hmm]; split <;> omega
    have each : ∀ i, i < len → ∃ v : α, ∃ cs', C.R W W.heap.size cs' v ∧ ∀ j (hj : j < cs'.length), W.cell? ((a.add (i * C.k)).add j) = some (cs'[j]'hj) := fun i hi => by
      obtain ⟨cs', h1, h2⟩ := hel i (by omega)
      obtain ⟨v, hv⟩ := he _ _ _ _ _ _ h2
      obtain ⟨_, k2, k3⟩ := World.cells?_some h1
      rw [hk] at k2 k3
      exact ⟨v, cs', hv, fun j hj => by rw [k3 j (by omega)]; exact List.getElem?_eq_getElem hj⟩
    by_cases hl0 : len = 0
    · subst hl0
      exact ⟨[], some a, cap, rfl, Nat.zero_le _, hm, fun h => (by cases h), RdC.nil _ _ _⟩
    · classical
      obtain ⟨v0, _⟩ := each 0 (by omega)
      let f : Nat → α := fun i => if hi : i < len then Classical.choose (each i hi) else v0
      have hf : ∀ i (hi : i < len), ∃ cs', C.R W W.heap.size cs' (f i) ∧ ∀ j (hj : j < cs'.length), W.cell? ((a.add (i * C.k)).add j) = some (cs'[j]'hj) := fun i hi => by
        show ∃ cs', C.R W W.heap.size cs' (if hi : i < len then Classical.choose (each i hi) else v0) ∧ _
        rw [dif_pos hi]
        exact Classical.choose_spec (each i hi)
      have hlen : ((List.range len).map f).length = len := by simp
      refine ⟨(List.range len).map f, some a, cap, by rw [hlen], by omega, hm, fun h => (by cases h), fun _ => ?_⟩
      obtain ⟨b, off, spot⟩ := a
      have hspot : spot = none := by
        obtain ⟨cs', h1, h2⟩ := hf 0 (by omega)
        have hc := C.len h1
        have := World.cell?_spot (h2 0 (by omega))
        simpa [Addr.add] using this
      subst hspot
      refine ⟨b, off, rfl, ?_, fun j hj => ?_⟩
      · obtain ⟨cs', h1, h2⟩ := hf 0 (by omega)
        have hc := C.len h1
        have := h2 0 (by omega)
        rw [addr_plain, addr_plain] at this
        exact World.block_lt_of_cell? (a := ⟨b, _, none⟩) W this
      · rw [hlen] at hj
        obtain ⟨cs', h1, h2⟩ := hf j hj
        refine ⟨cs', by simpa using h1, fun i hi => ?_⟩
        have := h2 i hi
        rw [addr_plain, addr_plain] at this
        exact this
end
theorem flat_at {β : Type} (f : β → List Value) (k : Nat) (hk : ∀ b, (f b).length = k) : ∀ (l : List β) (j i : Nat) (hj : j < l.length) (hi : i < k), (l.flatMap f)[j * k + i]? = some ((f (l[j]'hj))[i]'(by rw [hk]; exact hi)) := by
  intro l
  induction l with
  | nil => intro j i hj; simp at hj
  | cons b l ih =>
    intro j i hj hi
    rw [List.flatMap_cons]
    cases j with
    | zero =>
      rw [Nat.zero_mul, Nat.zero_add, List.getElem?_append_left (by rw [hk]; exact hi)]
      exact List.getElem?_eq_getElem _
    | succ j =>
      rw [List.getElem?_append_right (by rw [hk, Nat.succ_mul]; omega), hk, show (j + 1) * k + i - k = j * k + i by rw [Nat.succ_mul]; omega]
      exact ih j i (by simpa using hj) hi
theorem flat_len {β : Type} (f : β → List Value) (k : Nat) (hk : ∀ b, (f b).length = k) (l : List β) : (l.flatMap f).length = l.length * k := by
  induction l with
  | nil => simp
  | cons b l ih => rw [List.flatMap_cons, List.length_append, hk, ih, List.length_cons, Nat.succ_mul]; omega
/-- A row of the call's own, of elements of k cells, reads as a list. -/
theorem RdC.of_own {α β : Type} {C : Cod α} {w : World} {base : Nat} {e : TypeId} {A : Option Addr} {n c : Nat} (f : β → List Value) (val : β → α) (hk : ∀ b, (f b).length = C.k) (hk0 : 0 < C.k) (l : List β) (hR : ∀ b ∈ l, C.R w w.heap.size (f b) (val b))
    (h : w.ownsRow base e C.k (.slice A n c) n (l.flatMap f)) : RdC C w w.heap.size A (l.map val) ∧ l.length = n ∧ n ≤ c ∧ c ≤ maxLen ∧ (A = none → c = 0) := by
  have hl : l.length = n := by
    have := h.1
    rw [flat_len f C.k hk] at this
    exact Nat.eq_of_mul_eq_mul_right hk0 this
  rcases h.2 with ⟨e1, h0⟩ | ⟨g, cap, cur, hv, hb, hg, hnc, hcm, _, _⟩
  · injection e1 with e1 e2 e3
    subst e1 e3
    have : l = [] := List.eq_nil_of_length_eq_zero (by omega)
    subst this
    exact ⟨RdC.nil _ _ _, hl, by omega, Nat.zero_le _, fun _ => rfl⟩
  · injection hv with e1 e2 e3
    subst e1 e3
    have hlt : g < w.heap.size := (Array.getElem?_eq_some_iff.1 hg).1
    refine ⟨fun hp => ⟨g, 0, rfl, hlt, fun j hj => ?_⟩, hl, hnc, hcm, fun h => by cases h⟩
    have hj' : j < l.length := by simpa using hj
    refine ⟨f (l[j]'hj'), by simpa using hR _ (List.getElem_mem hj'), fun i hi => ?_⟩
    have hi' : i < C.k := by rw [hk] at hi; exact hi
    have := h.cells (g := g) rfl (j * C.k + i) _ (flat_at f C.k hk l j i hj' hi')
    rw [addr_plain] at this
    rw [Nat.zero_add, ← this, Nat.zero_add]
end Hx
end Go.Proofs.YtbjgfaflikgobaaDoor
namespace Go.Proofs.YtbjgfaflikgobaaDoor
namespace Tx
open Go

/-- A scalar value. -/
def sv (n : Nat) : Bool := decide (n < 55296) || (decide (57344 ≤ n) && decide (n ≤ 1114111))
/-- May a code point be? -/
def may (n : Int) : Bool := if n < 32 then decide (n = 9) || decide (n = 10) || decide (n = 13) else decide (n ≤ 1114111) && (decide (n < 55296) || decide (57343 < n)) && decide (n ≠ 65534) && decide (n ≠ 65535)
theorem may_sv {n : Int} (h : may n = true) : 0 ≤ n ∧ n ≤ 1114111 ∧ sv n.toNat = true := by
  unfold may at h
  split at h
  · simp at h
    refine ⟨by omega, by omega, ?_⟩
    simp [sv]; omega
  · simp at h
    refine ⟨by omega, by omega, ?_⟩
    simp [sv]; omega
theorem sv_le {n : Nat} (h : sv n = true) : n ≤ 1114111 := by simp [sv] at h; omega

def bt (n : Nat) : UInt8 := UInt8.ofNat n
theorem bt_nat (n : Nat) (h : n < 256) : (bt n).toNat = n := by unfold bt; rw [UInt8.toNat_ofNat']; omega
/-- A scalar value's bytes. -/
def enc (n : Nat) : List UInt8 :=
  if n < 128 then [bt n]
  else if n < 2048 then [bt (192 + n / 64), bt (128 + n % 64)]
  else if n < 65536 then [bt (224 + n / 4096), bt (128 + n / 64 % 64), bt (128 + n % 64)]
  else [bt (240 + n / 262144), bt (128 + n / 4096 % 64), bt (128 + n / 64 % 64), bt (128 + n % 64)]
theorem enc_length (n : Nat) : 1 ≤ (enc n).length ∧ (enc n).length ≤ 4 := by
  unfold enc
  split
  · simp
  · split
    · simp
    · split <;> simp
/-- A byte that goes on. -/
def cont (b : UInt8) : Bool := decide (b.toNat / 64 = 2)
/-- The scalar value that bytes begin with, and how many they are. -/
def decL : List UInt8 → Option (Nat × Nat)
  | [] => none
  | a :: r =>
    if a.toNat < 128 then some (a.toNat, 1)
    else if a.toNat / 32 = 6 then
      match r with
      | b :: _ => if cont b && decide (128 ≤ a.toNat % 32 * 64 + b.toNat % 64) then some (a.toNat % 32 * 64 + b.toNat % 64, 2) else none
      | [] => none
    else if a.toNat / 16 = 14 then
      match r with
      | b :: c :: _ => if cont b && cont c && decide (2048 ≤ a.toNat % 16 * 4096 + b.toNat % 64 * 64 + c.toNat % 64) && sv (a.toNat % 16 * 4096 + b.toNat % 64 * 64 + c.toNat % 64) then some (a.toNat % 16 * 4096 + b.toNat % 64 * 64 + c.toNat % 64, 3) else none
      | _ => none
    else if a.toNat / 8 = 30 then
      match r with
      | b :: c :: d :: _ => if cont b && cont c && cont d && decide (65536 ≤ a.toNat % 8 * 262144 + b.toNat % 64 * 4096 + c.toNat % 64 * 64 + d.toNat % 64) && sv (a.toNat % 8 * 262144 + b.toNat % 64 * 4096 + c.toNat % 64 * 64 + d.toNat % 64) then some (a.toNat % 8 * 262144 + b.toNat % 64 * 4096 + c.toNat % 64 * 64 + d.toNat % 64, 4) else none
      | _ => none
    else none

theorem dec_enc (n : Nat) (h : sv n = true) (r : List UInt8) : decL (enc n ++ r) = some (n, (enc n).length) := by
  have hb := sv_le h
  unfold enc
  by_cases h1 : n < 128
  · rw [if_pos h1]
    simp only [List.cons_append, List.nil_append, decL, List.length_cons, List.length_nil]
    rw [bt_nat n (by omega), if_pos h1]
  · rw [if_neg h1]
    by_cases h2 : n < 2048
    · rw [if_pos h2]
      have e0 := bt_nat (192 + n / 64) (by omega)
      have e1 := bt_nat (128 + n % 64) (by omega)
      simp only [List.cons_append, List.nil_append, decL, List.length_cons, List.length_nil, cont, e0, e1]
      rw [if_neg (by omega), if_pos (by omega)]
      have v : (192 + n / 64) % 32 * 64 + (128 + n % 64) % 64 = n := by omega
      rw [v, if_pos (by simp; omega)]
    · rw [if_neg h2]
      by_cases h3 : n < 65536
      · rw [if_pos h3]
        have e0 := bt_nat (224 + n / 4096) (by omega)
        have e1 := bt_nat (128 + n / 64 % 64) (by omega)
        have e2 := bt_nat (128 + n % 64) (by omega)
        simp only [List.cons_append, List.nil_append, decL, List.length_cons, List.length_nil, cont, e0, e1, e2]
        rw [if_neg (by omega), if_neg (by omega), if_pos (by omega)]
        have v : (224 + n / 4096) % 16 * 4096 + (128 + n / 64 % 64) % 64 * 64 + (128 + n % 64) % 64 = n := by omega
        rw [v, if_pos (by simp [h]; omega)]
      · rw [if_neg h3]
        have e0 := bt_nat (240 + n / 262144) (by omega)
        have e1 := bt_nat (128 + n / 4096 % 64) (by omega)
        have e2 := bt_nat (128 + n / 64 % 64) (by omega)
        have e3 := bt_nat (128 + n % 64) (by omega)
        simp only [List.cons_append, List.nil_append, decL, List.length_cons, List.length_nil, cont, e0, e1, e2, e3]
        rw [if_neg (by omega), if_neg (by omega), if_neg (by omega), if_pos (by omega)]
        have v : (240 + n / 262144) % 8 * 262144 + (128 + n / 4096 % 64) % 64 * 4096 + (128 + n / 64 % 64) % 64 * 64 + (128 + n % 64) % 64 = n := by omega
        rw [v, if_pos (by simp [h]; omega)]

theorem bt_of (a : UInt8) (n : Nat) (h : a.toNat = n) : bt n = a := by subst h; exact UInt8.ofNat_toNat
theorem dec_sound (l : List UInt8) (n k : Nat) (h : decL l = some (n, k)) : sv n = true ∧ k = (enc n).length ∧ ∃ r, l = enc n ++ r := by
  cases l with
  | nil => simp [decL] at h
  | cons a r =>
    have ha := a.toNat_lt
    unfold decL at h
    dsimp only at h
    by_cases h1 : a.toNat < 128
    · rw [if_pos h1] at h
      obtain ⟨rfl, rfl⟩ : a.toNat = n ∧ 1 = k := by simpa using h
      have e : enc a.toNat = [a] := by unfold enc; rw [if_pos h1, bt_of a _ rfl]
      rw [e]
      exact ⟨by simp [sv]; omega, rfl, r, rfl⟩
    · rw [if_neg h1] at h
      by_cases h2 : a.toNat / 32 = 6
      · rw [if_pos h2] at h
        cases r with
        | nil => simp at h
        | cons b r =>
          have hb := b.toNat_lt
          simp only at h
          split at h
          · rename_i hc
            simp only [cont, Bool.and_eq_true, decide_eq_true_eq] at hc
            obtain ⟨rfl, rfl⟩ : a.toNat % 32 * 64 + b.toNat % 64 = n ∧ 2 = k := by simpa using h
            have e : enc (a.toNat % 32 * 64 + b.toNat % 64) = [a, b] := by
              unfold enc
              rw [if_neg (by omega), if_pos (by omega), bt_of a _ (by omega), bt_of b _ (by omega)]
            rw [e]
            exact ⟨by simp [sv]; omega, rfl, r, rfl⟩
          · cases h
      · rw [if_neg h2] at h
        by_cases h3 : a.toNat / 16 = 14
        · rw [if_pos h3] at h
          match r, h with
          | [], h => simp at h
          | [b], h => simp at h
          | b :: c :: r, h =>
            have hb := b.toNat_lt
            have hc := c.toNat_lt
            simp only at h
            split at h
            · rename_i hd
              simp only [cont, Bool.and_eq_true, decide_eq_true_eq] at hd
              obtain ⟨hx, rfl⟩ : a.toNat % 16 * 4096 + b.toNat % 64 * 64 + c.toNat % 64 = n ∧ 3 = k := by simpa using h
              rw [hx] at hd
              have e : enc n = [a, b, c] := by
                unfold enc
                rw [if_neg (by omega), if_neg (by omega), if_pos (by omega), bt_of a _ (by omega), bt_of b _ (by omega), bt_of c _ (by omega)]
              rw [e]
              exact ⟨hd.2, rfl, r, rfl⟩
            · cases h
        · rw [if_neg h3] at h
          by_cases h4 : a.toNat / 8 = 30
          · rw [if_pos h4] at h
            match r, h with
            | [], h => simp at h
            | [b], h => simp at h
            | [b, c], h => simp at h
            | b :: c :: d :: r, h =>
              have hb := b.toNat_lt
              have hc := c.toNat_lt
              have hd := d.toNat_lt
              simp only at h
              split at h
              · rename_i hq
                simp only [cont, Bool.and_eq_true, decide_eq_true_eq] at hq
                obtain ⟨hx, rfl⟩ : a.toNat % 8 * 262144 + b.toNat % 64 * 4096 + c.toNat % 64 * 64 + d.toNat % 64 = n ∧ 4 = k := by simpa using h
                rw [hx] at hq
                have e : enc n = [a, b, c, d] := by
                  unfold enc
                  rw [if_neg (by omega), if_neg (by omega), if_neg (by omega), bt_of a _ (by omega), bt_of b _ (by omega), bt_of c _ (by omega), bt_of d _ (by omega)]
                rw [e]
                exact ⟨hq.2, rfl, r, rfl⟩
              · cases h
          · rw [if_neg h4] at h
            cases h

theorem enc_pre {n m : Nat} (hn : sv n = true) (hm : sv m = true) {r r' : List UInt8} (h : enc n ++ r = enc m ++ r') : n = m ∧ r = r' := by
  have h1 := dec_enc n hn r
  rw [h, dec_enc m hm r'] at h1
  obtain ⟨rfl, _⟩ : m = n ∧ (enc m).length = (enc n).length := by simpa using h1
  exact ⟨rfl, List.append_cancel_left h⟩
/-- The code point that bytes begin with, if it may be. -/
def one (l : List UInt8) : Option (Nat × Nat) := (decL l).filter fun p => may p.1
theorem one_enc (n : Nat) (h : may n = true) (r : List UInt8) : one (enc n ++ r) = some (n, (enc n).length) := by
  have hs := (may_sv h).2.2
  rw [Int.toNat_natCast] at hs
  rw [one, dec_enc n hs r]
  simp [h]
theorem one_sound {l : List UInt8} {n k : Nat} (h : one l = some (n, k)) : may n = true ∧ sv n = true ∧ k = (enc n).length ∧ ∃ r, l = enc n ++ r := by
  unfold one at h
  rw [Option.filter_eq_some_iff] at h
  obtain ⟨h1, h2⟩ := h
  obtain ⟨a, b, c⟩ := dec_sound l n k h1
  exact ⟨h2, a, b, c⟩
/-- Code points' bytes. -/
def encs (l : List Nat) : List UInt8 := l.flatMap enc
theorem encs_nil : encs [] = [] := rfl
theorem encs_cons (n : Nat) (l : List Nat) : encs (n :: l) = enc n ++ encs l := by simp [encs]
theorem encs_append (a b : List Nat) : encs (a ++ b) = encs a ++ encs b := by simp [encs]
/-- All may be. -/
def mays (l : List Nat) : Prop := ∀ n ∈ l, may (n : Int) = true
theorem mays_nil : mays [] := fun _ h => by cases h
theorem mays_cons {n : Nat} {l : List Nat} : mays (n :: l) ↔ may (n : Int) = true ∧ mays l := by simp [mays]
theorem mays_append {a b : List Nat} : mays (a ++ b) ↔ mays a ∧ mays b := by
  unfold mays
  constructor
  · intro h
    exact ⟨fun n hn => h n (by simp [hn]), fun n hn => h n (by simp [hn])⟩
  · rintro ⟨h1, h2⟩ n hn
    rcases List.mem_append.1 hn with h | h
    · exact h1 n h
    · exact h2 n h
theorem nat_sv {n : Nat} (h : may (n : Int) = true) : sv n = true := by
  have := (may_sv h).2.2
  rwa [Int.toNat_natCast] at this
theorem encs_split : ∀ (ms ns : List Nat) (y : List UInt8), mays ms → mays ns → encs ns = encs ms ++ y → ∃ rest, ns = ms ++ rest ∧ y = encs rest
  | [], ns, y, _, _, h => ⟨ns, rfl, by simpa [encs] using h.symm⟩
  | m :: ms, ns, y, h1, h2, h => by
    rw [mays_cons] at h1
    rw [encs_cons, List.append_assoc] at h
    cases ns with
    | nil =>
      have := congrArg List.length h
      have := (enc_length m).1
      simp [encs] at *
      omega
    | cons n ns =>
      rw [mays_cons] at h2
      rw [encs_cons] at h
      obtain ⟨rfl, h3⟩ := enc_pre (nat_sv h2.1) (nat_sv h1.1) h
      obtain ⟨rest, rfl, e⟩ := encs_split ms ns y h1.2 h2.2 h3
      exact ⟨rest, rfl, e⟩

/-- The code points of bytes, so many at most. -/
def ptsF : Nat → List UInt8 → Option (List Nat)
  | _, [] => some []
  | 0, _ :: _ => none
  | f + 1, a :: l => match one (a :: l) with
    | none => none
    | some (n, k) => (ptsF f ((a :: l).drop k)).map (n :: ·)
/-- A text's code points; none: it is no text. -/
def pts (l : List UInt8) : Option (List Nat) := ptsF l.length l
theorem ptsF_encs : ∀ (f : Nat) (ns : List Nat), mays ns → (encs ns).length ≤ f → ptsF f (encs ns) = some ns
  | f, [], _, _ => by cases f <;> rfl
  | f, n :: ns, h, hl => by
    rw [mays_cons] at h
    have h1 := (enc_length n).1
    have h4 := one_enc n h.1 (encs ns)
    rw [encs_cons] at *
    rw [List.length_append] at hl
    cases f with
    | zero => omega
    | succ f =>
      have e : ∃ a r, enc n ++ encs ns = a :: r := by
        cases hq : enc n with
        | nil => rw [hq] at h1; simp at h1
        | cons a r => exact ⟨a, r ++ encs ns, rfl⟩
      obtain ⟨a, r, e⟩ := e
      rw [e] at h4 ⊢
      rw [ptsF, h4]
      have ed : (a :: r).drop (enc n).length = encs ns := by rw [← e, List.drop_left]
      simp only [ed]
      rw [ptsF_encs f ns h.2 (by omega)]
      rfl
theorem ptsF_sound : ∀ (f : Nat) (l : List UInt8) (ns : List Nat), ptsF f l = some ns → l = encs ns ∧ mays ns
  | f, [], ns, h => by
    have : ns = [] := by cases f <;> simpa [ptsF] using h.symm
    subst this
    exact ⟨rfl, mays_nil⟩
  | 0, a :: l, ns, h => by simp [ptsF] at h
  | f + 1, a :: l, ns, h => by
    rw [ptsF] at h
    cases ho : one (a :: l) with
    | none => rw [ho] at h; cases h
    | some p =>
      obtain ⟨n, k⟩ := p
      rw [ho] at h
      obtain ⟨h1, _, rfl, r, hr⟩ := one_sound ho
      simp only [Option.map_eq_some_iff] at h
      obtain ⟨ms, h2, rfl⟩ := h
      rw [hr, List.drop_left] at h2
      obtain ⟨e, hm⟩ := ptsF_sound f r ms h2
      exact ⟨by rw [hr, encs_cons, e], mays_cons.2 ⟨h1, hm⟩⟩
theorem pts_iff (l : List UInt8) (ns : List Nat) : pts l = some ns ↔ l = encs ns ∧ mays ns := by
  constructor
  · exact ptsF_sound _ _ _
  · rintro ⟨rfl, h⟩
    exact ptsF_encs _ _ h (Nat.le_refl _)
theorem pts_encs {ns : List Nat} (h : mays ns) : pts (encs ns) = some ns := (pts_iff _ _).2 ⟨rfl, h⟩
/-- One step of the way through a text. -/
theorem pts_step (l : List UInt8) (h : l ≠ []) : pts l = match one l with | none => none | some (n, k) => (pts (l.drop k)).map (n :: ·) := by
  cases ho : one l with
  | none =>
    cases hp : pts l with
    | none => rfl
    | some ns =>
      obtain ⟨e, hm⟩ := (pts_iff _ _).1 hp
      cases ns with
      | nil => exact absurd e h
      | cons n ns =>
        rw [mays_cons] at hm
        rw [e, encs_cons, one_enc n hm.1] at ho
        cases ho
  | some p =>
    obtain ⟨n, k⟩ := p
    obtain ⟨h1, _, rfl, r, rfl⟩ := one_sound ho
    simp only [List.drop_left]
    cases hp : pts r with
    | none =>
      cases hq : pts (enc n ++ r) with
      | none => rfl
      | some ns =>
        obtain ⟨e, hm⟩ := (pts_iff _ _).1 hq
        obtain ⟨rest, _, e2⟩ := encs_split [n] ns r (mays_cons.2 ⟨h1, mays_nil⟩) hm (by rw [← e, encs_cons, encs_nil, List.append_nil])
        have hm2 : mays rest := by
          rename_i e1
          rw [e1] at hm
          exact (mays_append.1 hm).2
        rw [e2, pts_encs hm2] at hp
        cases hp
    | some ms =>
      obtain ⟨e, hm⟩ := (pts_iff _ _).1 hp
      rw [e, ← encs_cons]
      exact pts_encs (mays_cons.2 ⟨h1, hm⟩)

/-- A byte that goes on begins nothing. -/
theorem dec_cont (b : UInt8) (r : List UInt8) (h : cont b = true) : decL (b :: r) = none := by
  have hb : b.toNat / 64 = 2 := by simpa [cont] using h
  unfold decL
  dsimp only
  rw [if_neg (by omega), if_neg (by omega), if_neg (by omega), if_neg (by omega)]
theorem one_cont (b : UInt8) (r : List UInt8) (h : cont b = true) : one (b :: r) = none := by rw [one, dec_cont b r h]; rfl
/-- What stands behind the first byte of a scalar value goes on. -/
theorem enc_cont (n : Nat) (h : sv n = true) (j : Nat) (h0 : 0 < j) (hj : j < (enc n).length) : ∃ b r, (enc n).drop j = b :: r ∧ cont b = true := by
  have hb := sv_le h
  have c : ∀ m, m < 64 → cont (bt (128 + m)) = true := fun m hm => by unfold cont; rw [bt_nat _ (by omega)]; simp; omega
  revert hj
  unfold enc
  split
  · intro hj; simp at hj; omega
  · split
    · intro hj
      obtain rfl : j = 1 := by simp at hj; omega
      exact ⟨_, _, rfl, c _ (by omega)⟩
    · split
      · intro hj
        have : j = 1 ∨ j = 2 := by simp at hj; omega
        rcases this with rfl | rfl
        · exact ⟨_, _, rfl, c _ (by omega)⟩
        · exact ⟨_, _, rfl, c _ (by omega)⟩
      · intro hj
        have : j = 1 ∨ j = 2 ∨ j = 3 := by simp at hj; omega
        rcases this with rfl | rfl | rfl
        · exact ⟨_, _, rfl, c _ (by omega)⟩
        · exact ⟨_, _, rfl, c _ (by omega)⟩
        · exact ⟨_, _, rfl, c _ (by omega)⟩
/-- A place in a text is the beginning of a code point, or lies inside one. -/
theorem place : ∀ (ns : List Nat) (k : Nat), k < (encs ns).length → (∃ a b, ns = a ++ b ∧ k = (encs a).length ∧ b ≠ []) ∨ (∃ a n b j, ns = a ++ n :: b ∧ k = (encs a).length + j ∧ 0 < j ∧ j < (enc n).length)
  | [], k, h => by simp [encs] at h
  | n :: ns, k, h => by
    rw [encs_cons, List.length_append] at h
    by_cases h0 : k = 0
    · subst h0; exact .inl ⟨[], n :: ns, rfl, rfl, by simp⟩
    · by_cases h1 : k < (enc n).length
      · exact .inr ⟨[], n, ns, k, rfl, by simp [encs], by omega, h1⟩
      · rcases place ns (k - (enc n).length) (by omega) with ⟨a, b, rfl, e, hb⟩ | ⟨a, m, b, j, rfl, e, h2, h3⟩
        · exact .inl ⟨n :: a, b, rfl, by rw [encs_cons, List.length_append]; omega, hb⟩
        · exact .inr ⟨n :: a, m, b, j, rfl, by rw [encs_cons, List.length_append]; omega, h2, h3⟩
/-- A text is cut between code points, and nowhere else. -/
theorem cut (ns : List Nat) (hm : mays ns) (k : Nat) (hk : k < (encs ns).length) :
    ((one ((encs ns).drop k)).isSome = true ∧ (pts ((encs ns).take k)).isSome = true ∧ (pts ((encs ns).drop k)).isSome = true) ∨
    (one ((encs ns).drop k) = none ∧ pts ((encs ns).take k) = none ∧ pts ((encs ns).drop k) = none) := by
  rcases place ns k hk with ⟨a, b, rfl, rfl, hb⟩ | ⟨a, n, b, j, rfl, rfl, h0, hj⟩
  · rw [mays_append] at hm
    rw [encs_append, List.drop_left, List.take_left]
    refine .inl ⟨?_, by rw [pts_encs hm.1]; rfl, by rw [pts_encs hm.2]; rfl⟩
    cases b with
    | nil => exact absurd rfl hb
    | cons n b =>
      rw [encs_cons, one_enc n (mays_cons.1 hm.2).1]
      rfl
  · rw [mays_append, mays_cons] at hm
    have hn := nat_sv hm.2.1
    obtain ⟨x, r, hx, hc⟩ := enc_cont n hn j h0 hj
    have hd : (encs (a ++ n :: b)).drop ((encs a).length + j) = x :: (r ++ encs b) := by
      rw [encs_append, encs_cons, List.drop_append, List.drop_of_length_le (by omega), List.nil_append, show (encs a).length + j - (encs a).length = j by omega, List.drop_append, hx, show j - (enc n).length = 0 by omega]
      rfl
    have ho : one (x :: (r ++ encs b)) = none := one_cont x _ hc
    have ht : (encs (a ++ n :: b)).take ((encs a).length + j) = encs a ++ (enc n).take j := by
      rw [encs_append, encs_cons, List.take_append, List.take_of_length_le (by omega), show (encs a).length + j - (encs a).length = j by omega, List.take_append, show j - (enc n).length = 0 by omega]
      simp
    rw [hd, ht]
    refine .inr ⟨ho, ?_, ?_⟩
    · cases hp : pts (encs a ++ (enc n).take j) with
      | none => rfl
      | some ms =>
        obtain ⟨e, hms⟩ := (pts_iff _ _).1 hp
        obtain ⟨rest, rfl, er⟩ := encs_split a ms _ hm.1 hms e.symm
        rw [mays_append] at hms
        cases rest with
        | nil =>
          have := congrArg List.length er
          rw [List.length_take, encs_nil, List.length_nil] at this
          omega
        | cons m rest =>
          rw [encs_cons] at er
          have hmm := nat_sv (mays_cons.1 hms.2).1
          have e2 : enc n ++ [] = enc m ++ (encs rest ++ (enc n).drop j) := by rw [List.append_nil, ← List.append_assoc, ← er, List.take_append_drop]
          obtain ⟨rfl, e3⟩ := enc_pre hn hmm e2
          have := congrArg List.length e3
          rw [List.length_append, List.length_drop] at this
          simp at this
          omega
    · rw [pts_step _ (by simp), ho]

/-- The bytes of a lesser value differ at a place within both, and are less there. -/
theorem enc_less (n m : Nat) (hn : sv n = true) (hm : sv m = true) (h : n < m) : ∃ p u v x y, enc n = p ++ u :: x ∧ enc m = p ++ v :: y ∧ u < v := by
  have h1 := sv_le hn
  have h2 := sv_le hm
  have lt : ∀ a b, a < b → b < 256 → bt a < bt b := fun a b hab hb => by
    rw [UInt8.lt_iff_toNat_lt, bt_nat a (by omega), bt_nat b hb]; exact hab
  unfold enc
  by_cases a1 : n < 128
  · rw [if_pos a1]
    split
    · exact ⟨[], _, _, _, _, rfl, rfl, lt _ _ h (by omega)⟩
    · split
      · exact ⟨[], _, _, _, _, rfl, rfl, lt _ _ (by omega) (by omega)⟩
      · split
        · exact ⟨[], _, _, _, _, rfl, rfl, lt _ _ (by omega) (by omega)⟩
        · exact ⟨[], _, _, _, _, rfl, rfl, lt _ _ (by omega) (by omega)⟩
  · rw [if_neg a1, if_neg (show ¬ m < 128 by omega)]
    by_cases a2 : n < 2048
    · rw [if_pos a2]
      split
      · by_cases q : n / 64 = m / 64
        · exact ⟨[bt (192 + n / 64)], _, _, _, _, rfl, by rw [q]; rfl, lt _ _ (by omega) (by omega)⟩
        · exact ⟨[], _, _, _, _, rfl, rfl, lt _ _ (by omega) (by omega)⟩
      · split
        · exact ⟨[], _, _, _, _, rfl, rfl, lt _ _ (by omega) (by omega)⟩
        · exact ⟨[], _, _, _, _, rfl, rfl, lt _ _ (by omega) (by omega)⟩
    · rw [if_neg a2, if_neg (show ¬ m < 2048 by omega)]
      by_cases a3 : n < 65536
      · rw [if_pos a3]
        split
        · by_cases q : n / 4096 = m / 4096
          · by_cases q2 : n / 64 % 64 = m / 64 % 64
            · exact ⟨[bt (224 + n / 4096), bt (128 + n / 64 % 64)], _, _, _, _, rfl, by rw [q, q2]; rfl, lt _ _ (by omega) (by omega)⟩
            · exact ⟨[bt (224 + n / 4096)], _, _, _, _, rfl, by rw [q]; rfl, lt _ _ (by omega) (by omega)⟩
          · exact ⟨[], _, _, _, _, rfl, rfl, lt _ _ (by omega) (by omega)⟩
        · exact ⟨[], _, _, _, _, rfl, rfl, lt _ _ (by omega) (by omega)⟩
      · rw [if_neg a3, if_neg (show ¬ m < 65536 by omega)]
        by_cases q : n / 262144 = m / 262144
        · by_cases q2 : n / 4096 % 64 = m / 4096 % 64
          · by_cases q3 : n / 64 % 64 = m / 64 % 64
            · exact ⟨[bt (240 + n / 262144), bt (128 + n / 4096 % 64), bt (128 + n / 64 % 64)], _, _, _, _, rfl, by rw [q, q2, q3]; rfl, lt _ _ (by omega) (by omega)⟩
            · exact ⟨[bt (240 + n / 262144), bt (128 + n / 4096 % 64)], _, _, _, _, rfl, by rw [q, q2]; rfl, lt _ _ (by omega) (by omega)⟩
          · exact ⟨[bt (240 + n / 262144)], _, _, _, _, rfl, by rw [q]; rfl, lt _ _ (by omega) (by omega)⟩
        · exact ⟨[], _, _, _, _, rfl, rfl, lt _ _ (by omega) (by omega)⟩
theorem lex_at (p : List UInt8) (u v : UInt8) (x y : List UInt8) (h : u < v) : p ++ u :: x < p ++ v :: y := by
  induction p with
  | nil => exact List.Lex.rel h
  | cons a p ih => exact List.Lex.cons ih
theorem lex_cancel (p x y : List UInt8) : p ++ x < p ++ y ↔ x < y := by
  induction p with
  | nil => rfl
  | cons a p ih =>
    rw [List.cons_append, List.cons_append, List.cons_lt_cons_iff, ih]
    simp
/-- Texts are in the order of their code points. -/
theorem order : ∀ (a b : List Nat), mays a → mays b → (encs a < encs b ↔ a < b)
  | [], [], _, _ => by simp [encs]
  | [], n :: b, _, _ => by
    have h1 := (enc_length n).1
    rw [encs_cons]
    cases hq : enc n with
    | nil => rw [hq] at h1; simp at h1
    | cons x r => simp [encs]
  | n :: a, [], _, _ => by simp [encs]
  | n :: a, m :: b, ha, hb => by
    rw [mays_cons] at ha hb
    rw [encs_cons, encs_cons, List.cons_lt_cons_iff]
    rcases Nat.lt_trichotomy n m with h | h | h
    · obtain ⟨p, u, v, x, y, e1, e2, hl⟩ := enc_less n m (nat_sv ha.1) (nat_sv hb.1) h
      rw [e1, e2, List.append_assoc, List.append_assoc]
      simp only [List.cons_append, h, true_or, iff_true]
      exact lex_at p u v _ _ hl
    · subst h
      rw [lex_cancel, order a b ha.2 hb.2]
      simp
    · obtain ⟨p, u, v, x, y, e1, e2, hl⟩ := enc_less m n (nat_sv hb.1) (nat_sv ha.1) h
      rw [e1, e2, List.append_assoc, List.append_assoc]
      have k : p ++ (u :: x ++ encs b) < p ++ (v :: y ++ encs a) := lex_at p u v _ _ hl
      have nk : ¬ (p ++ (v :: y ++ encs a) < p ++ (u :: x ++ encs b)) := fun q => absurd (List.lt_trans k q) (List.lt_irrefl _)
      simp only [nk, false_iff]
      omega
end Tx
end Go.Proofs.YtbjgfaflikgobaaDoor
namespace Go.Proofs.YtbjgfaflikgobaaDoor
namespace Nmb
set_option linter.unusedVariables false
/-- The digit of n. -/
def dgt (n : Nat) : UInt8 := UInt8.ofNat (48 + n)
/-- The decimal digits of n. -/
def dg (n : Nat) : List UInt8 := if h : n < 10 then [dgt n] else dg (n / 10) ++ [dgt (n % 10)]
termination_by n
decreasing_by omega
def isDg (b : UInt8) : Bool := decide (48 ≤ b.toNat) && decide (b.toNat ≤ 57)
/-- The number that digits tell. -/
def val (l : List UInt8) : Nat := l.foldl (fun n b => 10 * n + (b.toNat - 48)) 0
/-- Is that a number's text, however great? -/
def okN (l : List UInt8) : Bool := !l.isEmpty && l.all isDg && (l.length == 1 || l.head? != some 48)
/-- The greatest number. -/
def most : Nat := 9007199254740991
/-- The number whose text that is. -/
def readN (l : List UInt8) : Option Nat := if okN l && decide (val l ≤ most) then some (val l) else none
/-- A level's text. -/
def sgn (n : Int) : List UInt8 := if n < 0 then 45 :: dg (-n).toNat else dg n.toNat
/-- A version's text. -/
def ver (n m : Nat) : List UInt8 := dg n ++ 46 :: dg m
end Nmb
end Go.Proofs.YtbjgfaflikgobaaDoor
namespace Go.Proofs.YtbjgfaflikgobaaDoor
namespace Es
open Go Tx Nmb
theorem u8_every (p : UInt8 → Prop) [DecidablePred p] (h : ∀ n : Fin 256, p (UInt8.ofNat n.val)) (c : UInt8) : p c := by
  have := h ⟨c.toNat, c.toNat_lt⟩
  simpa using this
/-- How a byte is written. -/
def escb (q : Bool) (c : UInt8) : List UInt8 :=
  if c = 38 then [38, 97, 109, 112, 59] else if c = 60 then [38, 108, 116, 59] else if c = 62 then [38, 103, 116, 59] else if c = 13 then [38, 35, 49, 51, 59]
  else if q = true ∧ c = 34 then [38, 113, 117, 111, 116, 59] else if q = true ∧ c = 9 then [38, 35, 57, 59] else if q = true ∧ c = 10 then [38, 35, 49, 48, 59] else [c]
/-- A text as it is written. -/
def escL (q : Bool) (l : List UInt8) : List UInt8 := l.flatMap (escb q)
theorem escL_cons (q : Bool) (c : UInt8) (l : List UInt8) : escL q (c :: l) = escb q c ++ escL q l := by simp [escL]
/-- What a hexadecimal digit tells. -/
def hxv (c : UInt8) : Option Nat := if 48 ≤ c.toNat ∧ c.toNat ≤ 57 then some (c.toNat - 48) else if 97 ≤ c.toNat ∧ c.toNat ≤ 102 then some (c.toNat - 87) else if 65 ≤ c.toNat ∧ c.toNat ≤ 70 then some (c.toNat - 55) else none
def hexF (l : List UInt8) : Option Nat := l.foldl (fun a c => a.bind fun n => (hxv c).map fun d => 16 * n + d) (some 0)
def hexV (l : List UInt8) : Option Nat := if l = [] ∨ 6 < l.length ∨ l.head? = some 48 then none else hexF l
/-- The code point of a reference's number. -/
def numL (l : List UInt8) : Option Nat := ((match l with | 120 :: r => hexV r | _ => readN l)).filter fun n => may n
/-- What a reference's inside tells. -/
def meantL (l : List UInt8) : Option (List UInt8) :=
  if l = [97, 109, 112] then some [38] else if l = [108, 116] then some [60] else if l = [103, 116] then some [62] else if l = [113, 117, 111, 116] then some [34] else if l = [97, 112, 111, 115] then some [39]
  else match l with | 35 :: r => (numL r).map enc | _ => none
/-- What stands ahead of the first semicolon, and behind it. -/
def semi : List UInt8 → Option (List UInt8 × List UInt8)
  | [] => none
  | c :: r => if c = 59 then some ([], r) else (semi r).map fun p => (c :: p.1, p.2)
theorem semi_some : ∀ (l x r : List UInt8), semi l = some (x, r) → l = x ++ 59 :: r ∧ (59 : UInt8) ∉ x
  | [], x, r, h => by cases h
  | c :: l, x, r, h => by
    rw [semi] at h
    split at h
    · rename_i hc
      cases h
      exact ⟨by rw [hc]; rfl, by simp⟩
    · rename_i hc
      rw [Option.map_eq_some_iff] at h
      obtain ⟨⟨y, t⟩, h1, h2⟩ := h
      cases h2
      obtain ⟨e, hn⟩ := semi_some l y _ h1
      refine ⟨by rw [e]; rfl, ?_⟩
      intro hm
      rcases List.mem_cons.1 hm with h | h
      · exact hc h.symm
      · exact hn h
/-- What is read, in so many steps at most. -/
def rdF : Nat → List UInt8 → Option (List UInt8)
  | _, [] => some []
  | 0, _ :: _ => none
  | f + 1, c :: r => if c = 60 then none else if c = 38 then (match semi r with
      | none => none
      | some (x, t) => match meantL x with
        | none => none
        | some y => (rdF f t).map (y ++ ·)) else (rdF f r).map (c :: ·)
def rd (l : List UInt8) : Option (List UInt8) := rdF l.length l
theorem rdF_same : ∀ (f g : Nat) (l : List UInt8), l.length ≤ f → l.length ≤ g → rdF f l = rdF g l
  | f, g, [], _, _ => by cases f <;> cases g <;> rfl
  | 0, g, c :: r, h, _ => by simp at h
  | f + 1, 0, c :: r, _, h => by simp at h
  | f + 1, g + 1, c :: r, h1, h2 => by
    simp only [List.length_cons] at h1 h2
    rw [rdF, rdF]
    by_cases h60 : c = 60
    · rw [if_pos h60, if_pos h60]
    · rw [if_neg h60, if_neg h60]
      by_cases h38 : c = 38
      · rw [if_pos h38, if_pos h38]
        cases hs : semi r with
        | none => rfl
        | some p =>
          obtain ⟨x, t⟩ := p
          have hl := congrArg List.length (semi_some r x t hs).1
          simp only [List.length_append, List.length_cons] at hl
          simp only
          rw [rdF_same f g t (by omega) (by omega)]
      · rw [if_neg h38, if_neg h38, rdF_same f g r (by omega) (by omega)]
theorem rd_bad (r : List UInt8) : rd (60 :: r) = none := by unfold rd; rw [List.length_cons, rdF, if_pos rfl]
theorem rd_byte (c : UInt8) (r : List UInt8) (h1 : c ≠ 60) (h2 : c ≠ 38) : rd (c :: r) = (rd r).map (c :: ·) := by
  unfold rd
  rw [List.length_cons, rdF, if_neg h1, if_neg h2]
theorem rd_amp (r : List UInt8) : rd (38 :: r) = match semi r with
    | none => none
    | some (x, t) => match meantL x with
      | none => none
      | some y => (rd t).map (y ++ ·) := by
  unfold rd
  rw [List.length_cons, rdF, if_neg (by decide), if_pos rfl]
  cases hs : semi r with
  | none => rfl
  | some p =>
    obtain ⟨x, t⟩ := p
    have hl := congrArg List.length (semi_some r x t hs).1
    simp only [List.length_append, List.length_cons] at hl
    simp only
    rw [rdF_same r.length t.length t (by omega) (Nat.le_refl _)]
theorem escb_len (q : Bool) (c : UInt8) : 1 ≤ (escb q c).length ∧ (escb q c).length ≤ 6 := by
  cases q
  · exact u8_every (fun c => 1 ≤ (escb false c).length ∧ (escb false c).length ≤ 6) (by decide +kernel) c
  · exact u8_every (fun c => 1 ≤ (escb true c).length ∧ (escb true c).length ≤ 6) (by decide +kernel) c
theorem escL_len (q : Bool) (l : List UInt8) : l.length ≤ (escL q l).length ∧ (escL q l).length ≤ 6 * l.length := by
  induction l with
  | nil => simp [escL]
  | cons c l ih =>
    have := escb_len q c
    rw [escL_cons, List.length_append, List.length_cons]
    omega
/-- The code points of what is written. -/
def escn (q : Bool) (n : Nat) : List Nat := if n < 128 then (escb q (bt n)).map UInt8.toNat else [n]
theorem enc_far (n : Nat) (h : 128 ≤ n) (hs : sv n = true) : ∀ x ∈ enc n, 128 ≤ x.toNat := by
  have hb := sv_le hs
  unfold enc
  rw [if_neg (by omega)]
  intro x hx
  split at hx
  · simp only [List.mem_cons, List.not_mem_nil, or_false] at hx
    rcases hx with rfl | rfl <;> rw [bt_nat _ (by omega)] <;> omega
  · split at hx
    · simp only [List.mem_cons, List.not_mem_nil, or_false] at hx
      rcases hx with rfl | rfl | rfl <;> rw [bt_nat _ (by omega)] <;> omega
    · simp only [List.mem_cons, List.not_mem_nil, or_false] at hx
      rcases hx with rfl | rfl | rfl | rfl <;> rw [bt_nat _ (by omega)] <;> omega
theorem pts_app {a b : List UInt8} (ha : (pts a).isSome = true) (hb : (pts b).isSome = true) : (pts (a ++ b)).isSome = true := by
  obtain ⟨na, h1⟩ := Option.isSome_iff_exists.1 ha
  obtain ⟨nb, h2⟩ := Option.isSome_iff_exists.1 hb
  obtain ⟨e1, m1⟩ := (pts_iff a na).1 h1
  obtain ⟨e2, m2⟩ := (pts_iff b nb).1 h2
  rw [e1, e2, ← encs_append, pts_encs (mays_append.2 ⟨m1, m2⟩)]
  rfl
end Es
end Go.Proofs.YtbjgfaflikgobaaDoor
namespace Go.Proofs.YtbjgfaflikgobaaDoor
namespace Lx
open Tx Nmb Es
set_option linter.unusedVariables false
/-- An attribute; a token. -/
structure Pr where
  name : List UInt8
  value : List UInt8
structure Tk where
  kind : Nat
  name : List UInt8
  attrs : List Pr
  text : List UInt8
def ltr (c : UInt8) : Bool := (decide (97 ≤ c.toNat) && decide (c.toNat ≤ 122)) || (decide (65 ≤ c.toNat) && decide (c.toNat ≤ 90)) || c == 95
def nch (c : UInt8) : Bool := ltr c || (decide (48 ≤ c.toNat) && decide (c.toNat ≤ 57)) || c == 46 || c == 45
def wch (c : UInt8) : Bool := nch c || c == 58
def blk (c : UInt8) : Bool := c == 32 || c == 9 || c == 10 || c == 13
/-- Is that a name? -/
def nameL : List UInt8 → Bool
  | [] => false
  | c :: r => ltr c && r.all nch
/-- What stands ahead of the first colon, and behind it. -/
def cutC : List UInt8 → Option (List UInt8 × List UInt8)
  | [] => none
  | c :: r => if c = 58 then some ([], r) else (cutC r).map fun p => (c :: p.1, p.2)
def fullL (l : List UInt8) : Bool := match cutC l with | some (a, b) => nameL b && nameL a | none => nameL l
theorem cutC_some : ∀ {l a b : List UInt8}, cutC l = some (a, b) → l = a ++ 58 :: b ∧ (58 : UInt8) ∉ a := by
  intro l
  induction l with
  | nil => intro a b h; cases h
  | cons c r ih =>
    intro a b h
    unfold cutC at h
    by_cases hc : c = 58
    · rw [if_pos hc] at h
      obtain ⟨rfl, rfl⟩ := (Prod.mk.injEq _ _ _ _).mp (Option.some.inj h)
      exact ⟨by rw [hc]; rfl, by simp⟩
    · rw [if_neg hc] at h
      cases hr : cutC r with
      | none => rw [hr] at h; cases h
      | some p =>
        rw [hr] at h
        obtain ⟨rfl, rfl⟩ := (Prod.mk.injEq _ _ _ _).mp (Option.some.inj h)
        obtain ⟨h1, h2⟩ := ih (a := p.1) (b := p.2) hr
        exact ⟨by rw [h1]; rfl, by rw [List.mem_cons, not_or]; exact ⟨Ne.symm hc, h2⟩⟩
theorem nch_of_ltr {c : UInt8} (h : ltr c = true) : nch c = true := by unfold nch; rw [h]; rfl
theorem nameL_all {l : List UInt8} (h : nameL l = true) : ∀ c ∈ l, nch c = true := by
  cases l with
  | nil => cases h
  | cons c r =>
    unfold nameL at h
    rw [Bool.and_eq_true] at h
    intro x hx
    rcases List.mem_cons.1 hx with rfl | hx
    · exact nch_of_ltr h.1
    · exact List.all_eq_true.1 h.2 x hx
theorem fullL_all {l : List UInt8} (h : fullL l = true) : ∀ c ∈ l, wch c = true := by
  unfold fullL at h
  cases hc : cutC l with
  | none =>
    rw [hc] at h
    intro x hx
    unfold wch
    rw [nameL_all h x hx]
    rfl
  | some p =>
    obtain ⟨a, b⟩ := p
    rw [hc] at h
    simp only [Bool.and_eq_true] at h
    obtain ⟨rfl, _⟩ := cutC_some hc
    intro x hx
    unfold wch
    rcases List.mem_append.1 hx with hx | hx
    · rw [nameL_all h.2 x hx]; rfl
    · rcases List.mem_cons.1 hx with rfl | hx
      · decide
      · rw [nameL_all h.1 x hx]; rfl
theorem fullL_ne {l : List UInt8} (h : fullL l = true) : l ≠ [] := by rintro rfl; cases h
theorem wch_far {c : UInt8} (h : wch c = true) : blk c = false ∧ c ≠ 61 ∧ c ≠ 62 ∧ c ≠ 47 ∧ c ≠ 60 ∧ c ≠ 34 ∧ c ≠ 39 ∧ c.toNat < 128 ∧ 45 ≤ c.toNat := by
  revert h
  exact u8_every (fun c => wch c = true → blk c = false ∧ c ≠ 61 ∧ c ≠ 62 ∧ c ≠ 47 ∧ c ≠ 60 ∧ c ≠ 34 ∧ c ≠ 39 ∧ c.toNat < 128 ∧ 45 ≤ c.toNat) (by decide +kernel) c
theorem blk_far {c : UInt8} (h : blk c = true) : wch c = false ∧ c ≠ 61 ∧ c ≠ 62 ∧ c ≠ 47 ∧ c ≠ 60 ∧ c ≠ 34 ∧ c ≠ 39 ∧ c.toNat < 128 := by
  revert h
  exact u8_every (fun c => blk c = true → wch c = false ∧ c ≠ 61 ∧ c ≠ 62 ∧ c ≠ 47 ∧ c ≠ 60 ∧ c ≠ 34 ∧ c ≠ 39 ∧ c.toNat < 128) (by decide +kernel) c
/-- Taken while, and dropped while, ahead of what is other. -/
theorem tw_app {p : UInt8 → Bool} {a b : List UInt8} (ha : ∀ c ∈ a, p c = true) (hb : ∀ c r, b = c :: r → p c = false) : (a ++ b).takeWhile p = a ∧ (a ++ b).dropWhile p = b := by
  induction a with
  | nil =>
    cases b with
    | nil => exact ⟨rfl, rfl⟩
    | cons c r =>
      have := hb c r rfl
      simp [this]
  | cons c a ih =>
    have hc := ha c (by simp)
    obtain ⟨h1, h2⟩ := ih (fun x hx => ha x (by simp [hx]))
    simp only [List.cons_append, List.takeWhile_cons, List.dropWhile_cons, hc, if_true, h1, h2]
    refine ⟨?_, ?_⟩ <;> first | rfl | trivial
theorem tw_split (p : UInt8 → Bool) (l : List UInt8) : l = l.takeWhile p ++ l.dropWhile p ∧ (∀ c ∈ l.takeWhile p, p c = true) ∧ ∀ c r, l.dropWhile p = c :: r → p c = false := by
  induction l with
  | nil => exact ⟨rfl, by simp, fun c r h => by cases h⟩
  | cons c l ih =>
    by_cases hc : p c = true
    · simp only [List.takeWhile_cons, List.dropWhile_cons, hc, if_true]
      refine ⟨by rw [List.cons_append, ← ih.1], fun x hx => ?_, ih.2.2⟩
      rcases List.mem_cons.1 hx with rfl | hx
      · exact hc
      · exact ih.2.1 x hx
    · simp only [List.takeWhile_cons, List.dropWhile_cons, hc]
      refine ⟨rfl, by simp, fun x r h => ?_⟩
      obtain ⟨rfl, _⟩ := List.cons.inj h
      exact Bool.eq_false_iff.2 hc
/-- The full name that a text begins with; none: empty. -/
def wordL (l : List UInt8) : List UInt8 := if fullL (l.takeWhile wch) then l.takeWhile wch else []
theorem wordL_app {a b : List UInt8} (ha : fullL a = true) (hb : ∀ c r, b = c :: r → wch c = false) : wordL (a ++ b) = a := by
  unfold wordL
  rw [(tw_app (fullL_all ha) hb).1, if_pos ha]
theorem wordL_ne {l : List UInt8} (h : wordL l ≠ []) : fullL (wordL l) = true ∧ l = wordL l ++ l.dropWhile wch ∧ (∀ c r, l.dropWhile wch = c :: r → wch c = false) := by
  unfold wordL at h ⊢
  by_cases hf : fullL (l.takeWhile wch) = true
  · rw [if_pos hf] at h ⊢
    obtain ⟨h1, _, h3⟩ := tw_split wch l
    exact ⟨hf, h1, h3⟩
  · rw [if_neg hf] at h
    exact absurd rfl h
/-- What a value tells. -/
def toldL (l : List UInt8) : Option (List UInt8) := rd (l.map fun c => if blk c then 32 else c)
/-- What stands ahead of a sign, and behind it. -/
def cutQ (q : UInt8) : List UInt8 → Option (List UInt8 × List UInt8)
  | [] => none
  | c :: r => if c = q then some ([], r) else (cutQ q r).map fun p => (c :: p.1, p.2)
theorem cutQ_some {q : UInt8} : ∀ {l a b : List UInt8}, cutQ q l = some (a, b) → l = a ++ q :: b ∧ q ∉ a := by
  intro l
  induction l with
  | nil => intro a b h; cases h
  | cons c r ih =>
    intro a b h
    unfold cutQ at h
    by_cases hc : c = q
    · rw [if_pos hc] at h
      obtain ⟨rfl, rfl⟩ := (Prod.mk.injEq _ _ _ _).mp (Option.some.inj h)
      exact ⟨by rw [hc]; rfl, by simp⟩
    · rw [if_neg hc] at h
      cases hr : cutQ q r with
      | none => rw [hr] at h; cases h
      | some p =>
        rw [hr] at h
        obtain ⟨rfl, rfl⟩ := (Prod.mk.injEq _ _ _ _).mp (Option.some.inj h)
        obtain ⟨h1, h2⟩ := ih (a := p.1) (b := p.2) hr
        exact ⟨by rw [h1]; rfl, by rw [List.mem_cons, not_or]; exact ⟨Ne.symm hc, h2⟩⟩
theorem cutQ_of {q : UInt8} : ∀ {a : List UInt8} (b : List UInt8), q ∉ a → cutQ q (a ++ q :: b) = some (a, b) := by
  intro a
  induction a with
  | nil => intro b _; show (if q = q then _ else _) = _; rw [if_pos rfl]
  | cons c a ih =>
    intro b h
    rw [List.mem_cons, not_or] at h
    show (if c = q then _ else _) = _
    rw [if_neg (Ne.symm h.1)]
    show Option.map _ (cutQ q (a ++ q :: b)) = _
    rw [ih b h.2]
    rfl
/-- A value that begins here, and what stands behind it. -/
def valL (l : List UInt8) : Option (List UInt8 × List UInt8) := match l with
  | [] => none
  | q :: r => if q = 34 ∨ q = 39 then match cutQ q r with | none => none | some (raw, y) => (toldL raw).map fun v => (v, y) else none
/-- The attribute that a text begins with, and what stands behind it. -/
def attrL (l : List UInt8) : Option (Pr × List UInt8) :=
  if wordL l = [] then none else
  match (l.drop (wordL l).length).dropWhile blk with
  | [] => none
  | c :: r => if c = 61 then (valL (r.dropWhile blk)).map fun p => (⟨wordL l, p.1⟩, p.2) else none
theorem valL_iff (l v r : List UInt8) : valL l = some (v, r) ↔ ∃ q raw, l = q :: (raw ++ q :: r) ∧ (q = 34 ∨ q = 39) ∧ q ∉ raw ∧ toldL raw = some v := by
  constructor
  · intro h
    unfold valL at h
    cases l with
    | nil => cases h
    | cons q s =>
      dsimp only at h
      by_cases hq : q = 34 ∨ q = 39
      · rw [if_pos hq] at h
        cases hc : cutQ q s with
        | none => rw [hc] at h; cases h
        | some p =>
          obtain ⟨raw, y⟩ := p
          rw [hc] at h
          dsimp only at h
          obtain ⟨e1, e2⟩ := cutQ_some hc
          cases ht : toldL raw with
          | none => rw [ht] at h; cases h
          | some v' =>
            rw [ht] at h
            obtain ⟨rfl, rfl⟩ := (Prod.mk.injEq _ _ _ _).mp (Option.some.inj h)
            exact ⟨q, raw, by rw [e1], hq, e2, ht⟩
      · rw [if_neg hq] at h
        cases h
  · rintro ⟨q, raw, rfl, hq, hn, ht⟩
    unfold valL
    dsimp only
    rw [if_pos hq, cutQ_of _ hn]
    dsimp only
    rw [ht]
    rfl
theorem attrL_iff (l r : List UInt8) (p : Pr) : attrL l = some (p, r) ↔ ∃ g1 g2 x, l = p.name ++ (g1 ++ 61 :: (g2 ++ x)) ∧ fullL p.name = true ∧ (∀ c ∈ g1, blk c = true) ∧ (∀ c ∈ g2, blk c = true) ∧ valL x = some (p.value, r) := by
  constructor
  · intro h
    unfold attrL at h
    by_cases hw : wordL l = []
    · rw [if_pos hw] at h; cases h
    · rw [if_neg hw] at h
      obtain ⟨h1, h2, h3⟩ := wordL_ne hw
      have hd : l.drop (wordL l).length = l.dropWhile wch := by
        conv => lhs; arg 2; rw [h2]
        rw [List.drop_left]
      rw [hd] at h
      obtain ⟨e1, e2, e3⟩ := tw_split blk (l.dropWhile wch)
      cases hr : (l.dropWhile wch).dropWhile blk with
      | nil => rw [hr] at h; cases h
      | cons c s =>
        rw [hr] at h
        dsimp only at h
        by_cases hc : c = 61
        · rw [if_pos hc] at h
          obtain ⟨f1, f2, f3⟩ := tw_split blk s
          cases hv : valL (s.dropWhile blk) with
          | none => rw [hv] at h; cases h
          | some y =>
            rw [hv] at h
            obtain ⟨rfl, rfl⟩ := (Prod.mk.injEq _ _ _ _).mp (Option.some.inj h)
            refine ⟨_, _, _, ?_, h1, e2, f2, hv⟩
            show l = wordL l ++ _
            rw [← f1, ← hc, ← hr, ← e1]
            exact h2
        · rw [if_neg hc] at h; cases h
  · rintro ⟨g1, g2, x, rfl, hf, h1, h2, hv⟩
    have hb : ∀ c r, g1 ++ 61 :: (g2 ++ x) = c :: r → wch c = false := by
      intro c r e
      cases g1 with
      | nil => obtain ⟨rfl, _⟩ := List.cons.inj e; decide
      | cons d g => obtain ⟨rfl, _⟩ := List.cons.inj e; exact (blk_far (h1 d (by simp))).1
    have hw := wordL_app hf hb
    unfold attrL
    rw [hw, if_neg (fullL_ne hf), List.drop_left, (tw_app h1 (fun c r e => by obtain ⟨rfl, _⟩ := List.cons.inj e; decide)).2]
    dsimp only
    rw [if_pos rfl]
    have hx : ∀ c r, x = c :: r → blk c = false := by
      rintro c r' rfl
      obtain ⟨q, raw, e, hq, _⟩ := (valL_iff _ _ _).1 hv
      obtain ⟨rfl, _⟩ := List.cons.inj e
      rcases hq with rfl | rfl <;> decide
    rw [(tw_app h2 hx).2, hv]
    rfl
theorem attrL_len {l r : List UInt8} {p : Pr} (h : attrL l = some (p, r)) : r.length + p.name.length + 3 ≤ l.length := by
  obtain ⟨g1, g2, x, rfl, h1, h2, h3, h4⟩ := (attrL_iff _ _ _).1 h
  obtain ⟨q, raw, rfl, h5, h6, h7⟩ := (valL_iff _ _ _).1 h4
  simp only [List.length_append, List.length_cons]
  omega
/-- Has one of some a name? -/
def hasL (l : List Pr) (name : List UInt8) : Bool := l.any fun p => decide (p.name = name)
/-- What stands behind a tag's name: is it bare, its attributes, and what stands behind it. -/
def tagF : Nat → List Pr → List UInt8 → Option (Bool × List Pr × List UInt8)
  | 0, _, _ => none
  | f + 1, acc, l => match l.dropWhile blk with
    | [] => none
    | c :: x => if c = 62 then some (false, acc, x) else if c = 47 ∧ x.head? = some 62 then some (true, acc, x.tail) else
      match attrL (c :: x) with
      | none => none
      | some (p, y) => if l.length = (c :: x).length ∨ hasL acc p.name = true then none else tagF f (acc ++ [p]) y
/-- The closing tag whose < and / stand ahead of a text. -/
def shutL (l : List UInt8) : Option (Tk × List UInt8) :=
  if wordL l = [] then none else
  match (l.drop (wordL l).length).dropWhile blk with
  | [] => none
  | c :: r => if c = 62 then some (⟨2, wordL l, [], []⟩, r) else none
/-- The tag whose < stands ahead of a text. -/
def tagL (l : List UInt8) : Option (Tk × List UInt8) :=
  if l.head? = some 47 then shutL l.tail else
  if wordL l = [] then none else
  (tagF (l.length + 1) [] (l.drop (wordL l).length)).map fun p => (⟨if p.1 then 3 else 1, wordL l, p.2.1, []⟩, p.2.2)
def txt (c : UInt8) : Bool := c != 60
/-- The token that a text begins with, and what stands behind it. -/
def oneL (l : List UInt8) : Option (Tk × List UInt8) := match l with
  | [] => none
  | c :: r => if c = 60 then tagL r else (rd (l.takeWhile txt)).map fun x => (⟨4, [], [], x⟩, l.dropWhile txt)
theorem dropWhile_len (p : UInt8 → Bool) (l : List UInt8) : (l.dropWhile p).length ≤ l.length := by
  have := congrArg List.length (tw_split p l).1
  rw [List.length_append] at this
  omega
/-- What stands behind a tag's name, put together of its parts. -/
inductive TagI : List Pr → List UInt8 → Bool → List Pr → List UInt8 → Prop
  | shut (acc : List Pr) (g x : List UInt8) : (∀ c ∈ g, blk c = true) → TagI acc (g ++ 62 :: x) false acc x
  | bare (acc : List Pr) (g x : List UInt8) : (∀ c ∈ g, blk c = true) → TagI acc (g ++ 47 :: 62 :: x) true acc x
  | attr (acc : List Pr) (g l y : List UInt8) (p : Pr) (b : Bool) (at1 : List Pr) (x : List UInt8) : (∀ c ∈ g, blk c = true) → g ≠ [] → attrL l = some (p, y) → hasL acc p.name = false → TagI (acc ++ [p]) y b at1 x → TagI acc (g ++ l) b at1 x
theorem attrL_head {c : UInt8} {x : List UInt8} {q : Pr × List UInt8} (h : attrL (c :: x) = some q) : wch c = true := by
  obtain ⟨p, y⟩ := q
  obtain ⟨g1, g2, z, e, hf, _⟩ := (attrL_iff _ _ _).1 h
  have hn := fullL_ne hf
  cases hp : p.name with
  | nil => exact absurd hp hn
  | cons d r =>
    rw [hp] at e
    obtain ⟨rfl, _⟩ := List.cons.inj e
    exact fullL_all hf c (by rw [hp]; simp)
theorem tagF_iff : ∀ (f : Nat) (acc : List Pr) (l : List UInt8) (b : Bool) (at1 : List Pr) (x : List UInt8), l.length < f → (tagF f acc l = some (b, at1, x) ↔ TagI acc l b at1 x) := by
  intro f
  induction f with
  | zero => intro acc l b at1 x h; omega
  | succ f ih =>
    intro acc l b at1 x hl
    have hsp := tw_split blk l
    constructor
    · intro h
      unfold tagF at h
      cases hd : l.dropWhile blk with
      | nil => rw [hd] at h; cases h
      | cons c r =>
        rw [hd] at h hsp
        dsimp only at h
        rw [hsp.1]
        by_cases c1 : c = 62
        · rw [if_pos c1] at h
          obtain ⟨rfl, rfl, rfl⟩ : false = b ∧ acc = at1 ∧ r = x := by simpa using h
          rw [c1]
          exact .shut _ _ _ hsp.2.1
        · rw [if_neg c1] at h
          by_cases c2 : c = 47 ∧ r.head? = some 62
          · rw [if_pos c2] at h
            obtain ⟨rfl, rfl, rfl⟩ : true = b ∧ acc = at1 ∧ r.tail = x := by simpa using h
            rw [c2.1]
            cases r with
            | nil => exact absurd c2.2 (by simp)
            | cons d r =>
              obtain rfl : d = 62 := by simpa using c2.2
              exact .bare _ _ _ hsp.2.1
          · rw [if_neg c2] at h
            cases ha : attrL (c :: r) with
            | none => rw [ha] at h; cases h
            | some q =>
              obtain ⟨p, y⟩ := q
              rw [ha] at h
              dsimp only at h
              have hal := attrL_len ha
              have hdl := dropWhile_len blk l
              rw [hd] at hdl
              by_cases c3 : l.length = (c :: r).length ∨ hasL acc p.name = true
              · rw [if_pos c3] at h; cases h
              · rw [if_neg c3] at h
                rw [not_or] at c3
                refine .attr _ _ _ _ p _ _ _ hsp.2.1 ?_ ha (Bool.eq_false_iff.2 c3.2) ((ih _ _ _ _ _ (by omega)).1 h)
                intro hg
                apply c3.1
                have := congrArg List.length hsp.1
                rw [hg] at this
                exact this
    · intro h
      unfold tagF
      cases h with
      | shut _ g _ hg =>
        rw [(tw_app hg (fun c r e => by obtain ⟨rfl, _⟩ := List.cons.inj e; decide)).2]
        rfl
      | bare _ g _ hg =>
        rw [(tw_app hg (fun c r e => by obtain ⟨rfl, _⟩ := List.cons.inj e; decide)).2]
        rfl
      | attr _ g l' y p _ _ _ hg hn ha hh ht =>
        cases hl' : l' with
        | nil => rw [hl'] at ha; cases ha
        | cons c r =>
          rw [hl'] at ha hl
          have hw := attrL_head ha
          obtain ⟨w1, _, w3, w4, _⟩ := wch_far hw
          rw [(tw_app hg (fun d s e => by obtain ⟨rfl, _⟩ := List.cons.inj e; exact w1)).2]
          dsimp only
          have hal := attrL_len ha
          rw [if_neg w3, if_neg (fun h => w4 h.1), ha]
          dsimp only
          rw [if_neg (by
            rw [not_or]
            refine ⟨fun e => hn ?_, by rw [hh]; simp⟩
            rw [List.length_append] at e
            exact List.eq_nil_of_length_eq_zero (by omega))]
          rw [List.length_append] at hl
          exact (ih _ _ _ _ _ (by omega)).2 ht
theorem TagI.len {acc : List Pr} {l : List UInt8} {b : Bool} {at1 : List Pr} {x : List UInt8} (h : TagI acc l b at1 x) : x.length < l.length := by
  induction h with
  | shut acc g x hg => simp; omega
  | bare acc g x hg => simp; omega
  | attr acc g l y p b at1 x hg hn ha hh _ ih =>
    have := attrL_len ha
    rw [List.length_append]
    omega
theorem TagI.first {acc : List Pr} {l : List UInt8} {b : Bool} {at1 : List Pr} {x : List UInt8} (h : TagI acc l b at1 x) : ∀ c r, l = c :: r → wch c = false := by
  intro c r e
  cases h with
  | shut _ g _ hg =>
    cases g with
    | nil => obtain ⟨rfl, _⟩ := List.cons.inj e; decide
    | cons d g => obtain ⟨rfl, _⟩ := List.cons.inj e; exact (blk_far (hg d (by simp))).1
  | bare _ g _ hg =>
    cases g with
    | nil => obtain ⟨rfl, _⟩ := List.cons.inj e; decide
    | cons d g => obtain ⟨rfl, _⟩ := List.cons.inj e; exact (blk_far (hg d (by simp))).1
  | attr _ g l' y p _ _ _ hg hn _ _ _ =>
    cases g with
    | nil => exact absurd rfl hn
    | cons d g => obtain ⟨rfl, _⟩ := List.cons.inj e; exact (blk_far (hg d (by simp))).1
/-- A tag, put together of its parts. -/
theorem shutL_iff (l r : List UInt8) (t : Tk) : shutL l = some (t, r) ↔ ∃ g, l = t.name ++ (g ++ 62 :: r) ∧ fullL t.name = true ∧ (∀ c ∈ g, blk c = true) ∧ t = ⟨2, t.name, [], []⟩ := by
  constructor
  · intro h
    unfold shutL at h
    by_cases hw : wordL l = []
    · rw [if_pos hw] at h; cases h
    · rw [if_neg hw] at h
      obtain ⟨h1, h2, h3⟩ := wordL_ne hw
      have hd : l.drop (wordL l).length = l.dropWhile wch := by
        conv => lhs; arg 2; rw [h2]
        rw [List.drop_left]
      rw [hd] at h
      obtain ⟨e1, e2, e3⟩ := tw_split blk (l.dropWhile wch)
      cases hr : (l.dropWhile wch).dropWhile blk with
      | nil => rw [hr] at h; cases h
      | cons c s =>
        rw [hr] at h
        dsimp only at h
        by_cases hc : c = 62
        · rw [if_pos hc] at h
          obtain ⟨rfl, rfl⟩ := (Prod.mk.injEq _ _ _ _).mp (Option.some.inj h)
          refine ⟨_, ?_, h1, e2, rfl⟩
          show l = wordL l ++ _
          rw [← hc, ← hr, ← e1]
          exact h2
        · rw [if_neg hc] at h; cases h
  · rintro ⟨g, rfl, hf, hg, ht⟩
    have hb : ∀ c s, g ++ 62 :: r = c :: s → wch c = false := by
      intro c s e
      cases g with
      | nil => obtain ⟨rfl, _⟩ := List.cons.inj e; decide
      | cons d g => obtain ⟨rfl, _⟩ := List.cons.inj e; exact (blk_far (hg d (by simp))).1
    unfold shutL
    rw [wordL_app hf hb, if_neg (fullL_ne hf), List.drop_left, (tw_app hg (fun c s e => by obtain ⟨rfl, _⟩ := List.cons.inj e; decide)).2]
    dsimp only
    rw [if_pos rfl, ← ht]
theorem fullL_head {l : List UInt8} (h : fullL l = true) (z : List UInt8) : (l ++ z).head? ≠ some 47 := by
  cases l with
  | nil => cases h
  | cons c r =>
    intro e
    obtain rfl : c = 47 := by simpa using e
    have := fullL_all h 47 (by simp)
    exact absurd this (by decide)
theorem tagL_iff (l r : List UInt8) (t : Tk) : tagL l = some (t, r) ↔ (∃ g, l = 47 :: (t.name ++ (g ++ 62 :: r)) ∧ fullL t.name = true ∧ (∀ c ∈ g, blk c = true) ∧ t = ⟨2, t.name, [], []⟩) ∨
    (∃ b y, l = t.name ++ y ∧ fullL t.name = true ∧ TagI [] y b t.attrs r ∧ t = ⟨if b then 3 else 1, t.name, t.attrs, []⟩) := by
  constructor
  · intro h
    unfold tagL at h
    by_cases h0 : l.head? = some 47
    · rw [if_pos h0] at h
      left
      cases l with
      | nil => cases h0
      | cons c s =>
        obtain rfl : c = 47 := by simpa using h0
        obtain ⟨g, e, h1, h2, h3⟩ := (shutL_iff _ _ _).1 h
        exact ⟨g, by rw [← e]; rfl, h1, h2, h3⟩
    · rw [if_neg h0] at h
      right
      by_cases hw : wordL l = []
      · rw [if_pos hw] at h; cases h
      · rw [if_neg hw] at h
        obtain ⟨h1, h2, h3⟩ := wordL_ne hw
        have hd : l.drop (wordL l).length = l.dropWhile wch := by
          conv => lhs; arg 2; rw [h2]
          rw [List.drop_left]
        rw [hd] at h
        cases ht : tagF (l.length + 1) [] (l.dropWhile wch) with
        | none => rw [ht] at h; cases h
        | some q =>
          obtain ⟨b, at1, x⟩ := q
          rw [ht] at h
          obtain ⟨rfl, rfl⟩ := (Prod.mk.injEq _ _ _ _).mp (Option.some.inj h)
          exact ⟨b, _, h2, h1, (tagF_iff _ _ _ _ _ _ (by have := dropWhile_len wch l; omega)).1 ht, rfl⟩
  · rintro (⟨g, rfl, h1, h2, h3⟩ | ⟨b, y, rfl, h1, h2, h3⟩)
    · unfold tagL
      rw [if_pos (show (47 :: (t.name ++ (g ++ 62 :: r))).head? = some 47 from rfl)]
      exact (shutL_iff _ _ _).2 ⟨g, rfl, h1, h2, h3⟩
    · unfold tagL
      rw [if_neg (fullL_head h1 _), wordL_app h1 h2.first, if_neg (fullL_ne h1), List.drop_left, (tagF_iff _ _ _ _ _ _ (by rw [List.length_append]; omega)).2 h2]
      show some ((⟨if b then 3 else 1, t.name, t.attrs, []⟩ : Tk), r) = _
      rw [← h3]
theorem tagL_len {l r : List UInt8} {t : Tk} (h : tagL l = some (t, r)) : r.length < l.length := by
  rcases (tagL_iff _ _ _).1 h with ⟨g, rfl, h1, h2, h3⟩ | ⟨q, y, e, h1, h2, h3⟩
  · simp; omega
  · have := h2.len
    rw [e, List.length_append]
    omega
theorem oneL_len {l r : List UInt8} {t : Tk} (h : oneL l = some (t, r)) : r.length < l.length := by
  cases l with
  | nil => cases h
  | cons c s =>
    unfold oneL at h
    dsimp only at h
    by_cases hc : c = 60
    · rw [if_pos hc] at h
      have := tagL_len h
      simp
      omega
    · rw [if_neg hc] at h
      have ht : txt c = true := by simpa [txt] using hc
      cases hr : rd ((c :: s).takeWhile txt) with
      | none => rw [hr] at h; cases h
      | some x =>
        rw [hr] at h
        obtain ⟨_, rfl⟩ := (Prod.mk.injEq _ _ _ _).mp (Option.some.inj h)
        simp only [List.dropWhile_cons, ht, if_true]
        have := dropWhile_len txt s
        simp
        omega
end Lx
end Go.Proofs.YtbjgfaflikgobaaDoor
