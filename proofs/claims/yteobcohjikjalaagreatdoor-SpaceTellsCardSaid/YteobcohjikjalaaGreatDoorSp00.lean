/-
  Texts of one seat, put together: Mem, MapA, MemC, TextM.
-/
import Derived.Test.YteobcohjikjalaaGreatDoorRows
import Derived.WalkKit
import Derived.WalkSpells
import Derived.WalkLawsBesides
import Derived.Lib.OthersKept
import Derived.WalkSmall
import Derived.Lib.Hide
import Derived.Laws.BytesArg
import Derived.Laws.IdiomStrings
import Derived.Laws.AppendOwnNone
import Derived.ProofKit
import Derived.OpenShut
import Derived.ShutString
import Derived.ChangeOld
import Derived.Below
import Derived.MapKept
import Derived.Deep.Slices
import GoSem.Core.Utf8
set_option linter.unusedSimpArgs false
namespace Go.Proofs.YteobcohjikjalaaGreatDoor
open Go.RowKit
namespace Hx

def RdA (w : World) (B : Nat) (A : Option Addr) (l : List UInt8) : Prop :=
  0 < l.length → ∃ b off, A = some ⟨b, off, none⟩ ∧ b < B ∧ ∀ j (h : j < l.length), w.cell? ⟨b, off + j, none⟩ = some (.int .u8 (l[j]'h).toNat)

theorem RdA.keep {w w' : World} {B B' : Nat} {A : Option Addr} {l : List UInt8} (h : RdA w B A l) (hB : B ≤ B') (hk : ∀ b o, b < B → w'.cell? ⟨b, o, none⟩ = w.cell? ⟨b, o, none⟩) : RdA w' B' A l := by
  intro hp
  obtain ⟨b, off, e, hb, hc⟩ := h hp
  exact ⟨b, off, e, by omega, fun j hj => (hk _ _ hb).trans (hc j hj)⟩
theorem RdA.below {w w' : World} {B : Nat} {A : Option Addr} {l : List UInt8} (h : RdA w B A l) (hb : Below B w w') : RdA w' B A l :=
  h.keep (Nat.le_refl _) fun b o hlt => hb.cell (p := ⟨b, o, none⟩) hlt
theorem RdA.mono {w : World} {B B' : Nat} {A : Option Addr} {l : List UInt8} (h : RdA w B A l) (hB : B ≤ B') : RdA w B' A l := h.keep hB fun _ _ _ => rfl
theorem RdA.nil (w : World) (B : Nat) (A : Option Addr) : RdA w B A [] := fun h => absurd h (by simp)
theorem addr_plain (b o i : Nat) : (⟨b, o, none⟩ : Addr).add i = ⟨b, o + i, none⟩ := by
  unfold Addr.add
  split <;> simp_all
theorem RdA.of_own {w : World} {base : Nat} {e : TypeId} {A : Option Addr} {n c : Nat} {l : List UInt8} (h : w.ownsRow base e 1 (.slice A n c) n (Lib.byteCells l)) : RdA w w.heap.size A l ∧ l.length = n := by
  have hl : l.length = n := by have := h.1; rw [Lib.byteCells_length] at this; omega
  refine ⟨fun hp => ?_, hl⟩
  rcases h.2 with ⟨_, h0⟩ | ⟨g, cap, cur, hv, _, hg, _⟩
  · omega
  injection hv with hA _ _
  subst hA
  have hlt : g < w.heap.size := (Array.getElem?_eq_some_iff.1 hg).1
  refine ⟨g, 0, rfl, hlt, fun j hj => ?_⟩
  have := h.cells (g := g) rfl j (.int .u8 (l[j]'hj).toNat) (by simp [Lib.byteCells, hj])
  rw [addr_plain] at this
  exact this
theorem own_form {w : World} {base : Nat} {e : TypeId} {v : Value} {n : Nat} {xs : List Value} (h : w.ownsRow base e 1 v n xs) : ∃ A c, v = .slice A n c := by
  rcases h.2 with ⟨rfl, rfl⟩ | ⟨g, cap, cur, rfl, _⟩
  · exact ⟨none, 0, rfl⟩
  · exact ⟨_, cap, rfl⟩
theorem own_below {w w' : World} {B base : Nat} {e : TypeId} {v : Value} {n : Nat} {xs : List Value} (h : w.ownsRow base e 1 v n xs) (hb : Below B w w') (hB : w.heap.size ≤ B) : w'.ownsRow base e 1 v n xs := by
  refine h.kept (row := none) ⟨hb.os, hb.tape, hb.output, hb.size, fun k hk _ => hb.block k (by omega)⟩ ?_
  cases v.ownBlock
  · exact .inl rfl
  · exact .inr (by simp)

theorem RdA.new (w : World) (t : TypeId) (l : List UInt8) : RdA (w.alloc (.cells (Lib.byteCells l).toArray t)) (w.heap.size + 1) (some ⟨w.heap.size, 0, none⟩) l := by
  intro _
  refine ⟨_, _, rfl, Nat.lt_succ_self _, fun j hj => ?_⟩
  rw [World.cell?_alloc_new]
  simp [Lib.byteCells, hj]
theorem RdA.newS (w : World) (t : TypeId) (l : List UInt8) : RdA (w.alloc (.cells (Lib.byteCells l).toArray t)) (w.alloc (.cells (Lib.byteCells l).toArray t)).heap.size (some ⟨w.heap.size, 0, none⟩) l :=
  (RdA.new w t l).mono (by simp)
theorem ret_b {x y : Bool} (h : x = y) : Ending.returned (.bool x) = .returned (.bool y) := by rw [h]

theorem conv_str {P : Program} {w : World} {B src dst e : Nat} {A : Option Addr} {n c : Nat} {l : List UInt8} (h : RdA w B A l) (hn : l.length = n)
    (hs : P.underlying src = some (.slice e)) (he : P.underlying e = some (.int .u8)) (hd : P.underlying dst = some .string) :
    (convert src dst (.slice A n c)).run P w = .ok (.string ⟨l.toArray⟩) w := by
  subst hn
  rcases Nat.eq_zero_or_pos l.length with h0 | h0
  · have hl : l = [] := List.eq_nil_of_length_eq_zero h0
    subst hl
    rcases A with _ | a
    · exact run_convert_bytes_nil w src e hs he _ _ dst hd
    · exact run_convert_bytes_back w src dst e a c [] hs he hd (fun j hj => absurd hj (by simp))
  · obtain ⟨b, off, rfl, _, hc⟩ := h h0
    exact run_convert_bytes_back w src dst e _ c l hs he hd (fun j hj => by rw [addr_plain]; exact hc j hj)

theorem conv_one {P : Program} (w : World) {src dst e : Nat} (c : UInt8) (hs : P.underlying src = some (.slice e)) (he : P.underlying e = some (.int .u8)) (hd : P.underlying dst = some .string) :
    (convert src dst (.slice (some ⟨w.heap.size, 0, none⟩) 1 1)).run P (w.alloc (.cells #[.int .u8 c.toNat] e)) = .ok (.string ⟨#[c]⟩) (w.alloc (.cells #[.int .u8 c.toNat] e)) :=
  conv_str (RdA.new w e [c]) rfl hs he hd

theorem stp {a b c : World} (h : Below a.heap.size a b) (k : Below b.heap.size b c) : Below a.heap.size a c := h.trans (k.mono h.size)
theorem stpA {a b : World} (h : Below a.heap.size a b) (o : Obj) : Below a.heap.size a (b.alloc o) := h.alloc h.size o

end Hx
end Go.Proofs.YteobcohjikjalaaGreatDoor
set_option linter.unusedSimpArgs false
namespace Go.Proofs.YteobcohjikjalaaGreatDoor
open Go.RowKit
namespace Hx
set_option linter.unusedVariables false
theorem wpList_ins {P : Program} {w : World} {ops : Array Oper} {rest : List Oper} {o : Oper} {a : Act} {Q : Exit → Act → World → Prop}
    (hg : o.guard = none) (m x v : Operand) (t : TypeId) (hop : o.op = Op.insert t m x v) {w' : World} {mv kv vv : Value} (hm : a.eval m = mv) (hx : a.eval x = kv) (hv : a.eval v = vv)
    (hrun : (Instr.mapUpdate t mv kv vv).run P w = .ok () w') (hK : wpList P ops Q rest (a.put o.dst undef) w') : wpList P ops Q (o :: rest) a w := by
  refine wpList_plain hg fun K' hK' => ?_
  unfold Oper.wp
  simp [execOp, hop, hm, hx, hv, hrun, Result.andThen]
  exact hK' _ _ hK
theorem wpList_look {P : Program} {w : World} {ops : Array Oper} {rest : List Oper} {o : Oper} {a : Act} {Q : Exit → Act → World → Prop}
    (hg : o.guard = none) (m x : Operand) (t : TypeId) (hop : o.op = Op.lookup t m x true) {mv kv v : Value} (hm : a.eval m = mv) (hx : a.eval x = kv)
    (hrun : (Instr.lookup t mv kv true).run P w = .ok v w) (hK : wpList P ops Q rest (a.put o.dst v) w) : wpList P ops Q (o :: rest) a w := by
  refine wpList_plain hg fun K' hK' => ?_
  unfold Oper.wp
  simp [execOp, hop, hm, hx, hrun, Result.andThen]
  exact hK' _ _ hK
structure Cod (α : Type) where
  k : Nat
  R : World → Nat → List Value → α → Prop
  len : ∀ {w : World} {B : Nat} {cs : List Value} {x : α}, R w B cs x → cs.length = k
  keep : ∀ {w w' : World} {B B' : Nat} {cs : List Value} {x : α}, R w B cs x → B ≤ B' → (∀ b o, b < B → w'.cell? ⟨b, o, none⟩ = w.cell? ⟨b, o, none⟩) → R w' B' cs x
def RdC {α : Type} (C : Cod α) (w : World) (B : Nat) (A : Option Addr) (l : List α) : Prop :=
  0 < l.length → ∃ b off, A = some ⟨b, off, none⟩ ∧ b < B ∧ ∀ j (h : j < l.length), ∃ cs, C.R w B cs (l[j]'h) ∧ ∀ i (hi : i < cs.length), w.cell? ⟨b, off + j * C.k + i, none⟩ = some (cs[i]'hi)
section
variable {α : Type} {C : Cod α}
theorem RdC.keep {w w' : World} {B B' : Nat} {A : Option Addr} {l : List α} (h : RdC C w B A l) (hB : B ≤ B') (hk : ∀ b o, b < B → w'.cell? ⟨b, o, none⟩ = w.cell? ⟨b, o, none⟩) : RdC C w' B' A l := by
  intro hp
  obtain ⟨b, off, e, hb, hc⟩ := h hp
  refine ⟨b, off, e, by omega, fun j hj => ?_⟩
  obtain ⟨cs, h1, h2⟩ := hc j hj
  exact ⟨cs, C.keep h1 hB hk, fun i hi => (hk _ _ hb).trans (h2 i hi)⟩
theorem RdC.below {w w' : World} {B : Nat} {A : Option Addr} {l : List α} (h : RdC C w B A l) (hb : Below B w w') : RdC C w' B A l := h.keep (Nat.le_refl _) fun b o hlt => hb.cell (p := ⟨b, o, none⟩) hlt
theorem RdC.mono {w : World} {B B' : Nat} {A : Option Addr} {l : List α} (h : RdC C w B A l) (hB : B ≤ B') : RdC C w B' A l := h.keep hB fun _ _ _ => rfl
theorem RdC.on {w w' : World} {A : Option Addr} {l : List α} (h : RdC C w w.heap.size A l) (hb : Below w.heap.size w w') : RdC C w' w'.heap.size A l := (h.below hb).mono hb.size
theorem RdC.nil (w : World) (B : Nat) (A : Option Addr) : RdC C w B A [] := fun h => absurd h (by simp)
end
theorem Cod.below {α : Type} (C : Cod α) {w w' : World} {B : Nat} {cs : List Value} {x : α} (h : C.R w B cs x) (hb : Below B w w') : C.R w' B cs x := C.keep h (Nat.le_refl _) fun b o hlt => hb.cell (p := ⟨b, o, none⟩) hlt
theorem Cod.on {α : Type} (C : Cod α) {w w' : World} {cs : List Value} {x : α} (h : C.R w w.heap.size cs x) (hb : Below w.heap.size w w') : C.R w' w'.heap.size cs x := C.keep h hb.size fun b o hlt => hb.cell (p := ⟨b, o, none⟩) hlt
def StC : Cod (List UInt8) where
  k := 1
  R _ _ cs l := ∃ s : ByteArray, cs = [.string s] ∧ s.data.toList = l
  len := by rintro _ _ _ _ ⟨s, rfl, _⟩; rfl
  keep := fun h _ _ => h
def SlC {α : Type} (C : Cod α) : Cod (List α) where
  k := 1
  R w B cs l := ∃ A c, cs = [.slice A l.length c] ∧ l.length ≤ c ∧ c ≤ maxLen ∧ (A = none → c = 0) ∧ RdC C w B A l
  len := by rintro _ _ _ _ ⟨A, c, rfl, _⟩; rfl
  keep := fun ⟨A, c, h1, h2, h3, h4, h5⟩ hB hk => ⟨A, c, h1, h2, h3, h4, h5.keep hB hk⟩
def Opens {H : Type} (enc : TypeId × Value → H) (P : Program) {α : Type} (C : Cod α) (t : TypeId) : Prop :=
  ∀ (W : World) (sp : Nat → Bool) (held : Bool) (fuel : Nat) (cs : List Value) (x : DataW H × List MemPlace), DataW.trod enc P W 0 sp held fuel t cs = some x → ∃ v, C.R W W.heap.size cs v
section
variable {H : Type} {enc : TypeId × Value → H} {P : Program}
theorem Opens.text {t : TypeId} (ht : P.underlying t = some .string) : Opens enc P StC t := fun W sp held fuel cs x h => by
  obtain ⟨s, rfl, _⟩ := DataW.trod_string ht h
  exact ⟨_, s, rfl, rfl⟩
theorem Opens.slice {α : Type} {C : Cod α} {t e : TypeId} (ht : P.underlying t = some (.slice e)) (hk : P.cellsOf e = C.k) (hk0 : 0 < C.k) (he : Opens enc P C e) : Opens enc P (SlC C) t := fun W sp held fuel cs x h => by
  rcases Go.Deep.open_slice ht h with ⟨rfl, _⟩ | ⟨a, len, cap, m, n, D, Pl, rfl, _, hl, hm, hmm, _, hel⟩
  · exact ⟨[], none, 0, rfl, Nat.le_refl _, Nat.zero_le _, fun _ => rfl, RdC.nil _ _ _⟩
  · have hlm : len ≤ m := by rw [hmm]; split <;> omega
    have each : ∀ i, i < len → ∃ v : α, ∃ cs', C.R W W.heap.size cs' v ∧ ∀ j (hj : j < cs'.length), W.cell? ((a.add (i * C.k)).add j) = some (cs'[j]'hj) := fun i hi => by
      obtain ⟨cs', h1, h2⟩ := hel i (by omega)
      obtain ⟨v, hv⟩ := he _ _ _ _ _ _ h2
      obtain ⟨_, k2, k3⟩ := World.cells?_some h1
      rw [hk] at k2 k3
      exact ⟨v, cs', hv, fun j hj => by rw [k3 j (by omega)]; exact List.getElem?_eq_getElem hj⟩
    by_cases hl0 : len = 0
    · subst hl0
      exact ⟨[], some a, cap, rfl, Nat.zero_le _, hm, fun h => (by cases h), RdC.nil _ _ _⟩
    · classical
      obtain ⟨v0, _⟩ := each 0 (by omega)
      let f : Nat → α := fun i => if hi : i < len then Classical.choose (each i hi) else v0
      have hf : ∀ i (hi : i < len), ∃ cs', C.R W W.heap.size cs' (f i) ∧ ∀ j (hj : j < cs'.length), W.cell? ((a.add (i * C.k)).add j) = some (cs'[j]'hj) := fun i hi => by
        show ∃ cs', C.R W W.heap.size cs' (if hi : i < len then Classical.choose (each i hi) else v0) ∧ _
        rw [dif_pos hi]
        exact Classical.choose_spec (each i hi)
      have hlen : ((List.range len).map f).length = len := by simp
      refine ⟨(List.range len).map f, some a, cap, by rw [hlen], by omega, hm, fun h => (by cases h), fun _ => ?_⟩
      obtain ⟨b, off, spot⟩ := a
      have hspot : spot = none := by
        obtain ⟨cs', h1, h2⟩ := hf 0 (by omega)
        have hc := C.len h1
        have := World.cell?_spot (h2 0 (by omega))
        simpa [Addr.add] using this
      subst hspot
      refine ⟨b, off, rfl, ?_, fun j hj => ?_⟩
      · obtain ⟨cs', h1, h2⟩ := hf 0 (by omega)
        have hc := C.len h1
        have := h2 0 (by omega)
        rw [addr_plain, addr_plain] at this
        exact World.block_lt_of_cell? (a := ⟨b, _, none⟩) W this
      · rw [hlen] at hj
        obtain ⟨cs', h1, h2⟩ := hf j hj
        refine ⟨cs', by simpa using h1, fun i hi => ?_⟩
        have := h2 i hi
        rw [addr_plain, addr_plain] at this
        exact this
end
theorem flat_at {β : Type} (f : β → List Value) (k : Nat) (hk : ∀ b, (f b).length = k) : ∀ (l : List β) (j i : Nat) (hj : j < l.length) (hi : i < k), (l.flatMap f)[j * k + i]? = some ((f (l[j]'hj))[i]'(by rw [hk]; exact hi)) := by
  intro l
  induction l with
  | nil => intro j i hj; simp at hj
  | cons b l ih =>
    intro j i hj hi
    rw [List.flatMap_cons]
    cases j with
    | zero =>
      rw [Nat.zero_mul, Nat.zero_add, List.getElem?_append_left (by rw [hk]; exact hi)]
      exact List.getElem?_eq_getElem _
    | succ j =>
      rw [List.getElem?_append_right (by rw [hk, Nat.succ_mul]; omega), hk, show (j + 1) * k + i - k = j * k + i by rw [Nat.succ_mul]; omega]
      exact ih j i (by simpa using hj) hi
theorem flat_len {β : Type} (f : β → List Value) (k : Nat) (hk : ∀ b, (f b).length = k) (l : List β) : (l.flatMap f).length = l.length * k := by
  induction l with
  | nil => simp
  | cons b l ih => rw [List.flatMap_cons, List.length_append, hk, ih, List.length_cons, Nat.succ_mul]; omega
theorem RdC.of_own {α β : Type} {C : Cod α} {w : World} {base : Nat} {e : TypeId} {A : Option Addr} {n c : Nat} (f : β → List Value) (val : β → α) (hk : ∀ b, (f b).length = C.k) (hk0 : 0 < C.k) (l : List β) (hR : ∀ b ∈ l, C.R w w.heap.size (f b) (val b))
    (h : w.ownsRow base e C.k (.slice A n c) n (l.flatMap f)) : RdC C w w.heap.size A (l.map val) ∧ l.length = n ∧ n ≤ c ∧ c ≤ maxLen ∧ (A = none → c = 0) := by
  have hl : l.length = n := by
    have := h.1
    rw [flat_len f C.k hk] at this
    exact Nat.eq_of_mul_eq_mul_right hk0 this
  rcases h.2 with ⟨e1, h0⟩ | ⟨g, cap, cur, hv, hb, hg, hnc, hcm, _, _⟩
  · injection e1 with e1 e2 e3
    subst e1 e3
    have : l = [] := List.eq_nil_of_length_eq_zero (by omega)
    subst this
    exact ⟨RdC.nil _ _ _, hl, by omega, Nat.zero_le _, fun _ => rfl⟩
  · injection hv with e1 e2 e3
    subst e1 e3
    have hlt : g < w.heap.size := (Array.getElem?_eq_some_iff.1 hg).1
    refine ⟨fun hp => ⟨g, 0, rfl, hlt, fun j hj => ?_⟩, hl, hnc, hcm, fun h => by cases h⟩
    have hj' : j < l.length := by simpa using hj
    refine ⟨f (l[j]'hj'), by simpa using hR _ (List.getElem_mem hj'), fun i hi => ?_⟩
    have hi' : i < C.k := by rw [hk] at hi; exact hi
    have := h.cells (g := g) rfl (j * C.k + i) _ (flat_at f C.k hk l j i hj' hi')
    rw [addr_plain] at this
    rw [Nat.zero_add, ← this, Nat.zero_add]
end Hx
end Go.Proofs.YteobcohjikjalaaGreatDoor
set_option linter.unusedSimpArgs false
namespace Go.Proofs.YteobcohjikjalaaGreatDoor
namespace Tx
open Go

def sv (n : Nat) : Bool := decide (n < 55296) || (decide (57344 ≤ n) && decide (n ≤ 1114111))
def may (n : Int) : Bool := if n < 32 then decide (n = 9) || decide (n = 10) || decide (n = 13) else decide (n ≤ 1114111) && (decide (n < 55296) || decide (57343 < n)) && decide (n ≠ 65534) && decide (n ≠ 65535)
theorem may_sv {n : Int} (h : may n = true) : 0 ≤ n ∧ n ≤ 1114111 ∧ sv n.toNat = true := by
  unfold may at h
  split at h
  · simp at h
    refine ⟨by omega, by omega, ?_⟩
    simp [sv]; omega
  · simp at h
    refine ⟨by omega, by omega, ?_⟩
    simp [sv]; omega
theorem sv_le {n : Nat} (h : sv n = true) : n ≤ 1114111 := by simp [sv] at h; omega

def bt (n : Nat) : UInt8 := UInt8.ofNat n
theorem bt_nat (n : Nat) (h : n < 256) : (bt n).toNat = n := by unfold bt; rw [UInt8.toNat_ofNat']; omega
def enc (n : Nat) : List UInt8 :=
  if n < 128 then [bt n]
  else if n < 2048 then [bt (192 + n / 64), bt (128 + n % 64)]
  else if n < 65536 then [bt (224 + n / 4096), bt (128 + n / 64 % 64), bt (128 + n % 64)]
  else [bt (240 + n / 262144), bt (128 + n / 4096 % 64), bt (128 + n / 64 % 64), bt (128 + n % 64)]
theorem enc_length (n : Nat) : 1 ≤ (enc n).length ∧ (enc n).length ≤ 4 := by
  unfold enc
  split
  · simp
  · split
    · simp
    · split <;> simp
def cont (b : UInt8) : Bool := decide (b.toNat / 64 = 2)
def decL : List UInt8 → Option (Nat × Nat)
  | [] => none
  | a :: r =>
    if a.toNat < 128 then some (a.toNat, 1)
    else if a.toNat / 32 = 6 then
      match r with
      | b :: _ => if cont b && decide (128 ≤ a.toNat % 32 * 64 + b.toNat % 64) then some (a.toNat % 32 * 64 + b.toNat % 64, 2) else none
      | [] => none
    else if a.toNat / 16 = 14 then
      match r with
      | b :: c :: _ => if cont b && cont c && decide (2048 ≤ a.toNat % 16 * 4096 + b.toNat % 64 * 64 + c.toNat % 64) && sv (a.toNat % 16 * 4096 + b.toNat % 64 * 64 + c.toNat % 64) then some (a.toNat % 16 * 4096 + b.toNat % 64 * 64 + c.toNat % 64, 3) else none
      | _ => none
    else if a.toNat / 8 = 30 then
      match r with
      | b :: c :: d :: _ => if cont b && cont c && cont d && decide (65536 ≤ a.toNat % 8 * 262144 + b.toNat % 64 * 4096 + c.toNat % 64 * 64 + d.toNat % 64) && sv (a.toNat % 8 * 262144 + b.toNat % 64 * 4096 + c.toNat % 64 * 64 + d.toNat % 64) then some (a.toNat % 8 * 262144 + b.toNat % 64 * 4096 + c.toNat % 64 * 64 + d.toNat % 64, 4) else none
      | _ => none
    else none

theorem dec_enc (n : Nat) (h : sv n = true) (r : List UInt8) : decL (enc n ++ r) = some (n, (enc n).length) := by
  have hb := sv_le h
  unfold enc
  by_cases h1 : n < 128
  · rw [if_pos h1]
    simp only [List.cons_append, List.nil_append, decL, List.length_cons, List.length_nil]
    rw [bt_nat n (by omega), if_pos h1]
  · rw [if_neg h1]
    by_cases h2 : n < 2048
    · rw [if_pos h2]
      have e0 := bt_nat (192 + n / 64) (by omega)
      have e1 := bt_nat (128 + n % 64) (by omega)
      simp only [List.cons_append, List.nil_append, decL, List.length_cons, List.length_nil, cont, e0, e1]
      rw [if_neg (by omega), if_pos (by omega)]
      have v : (192 + n / 64) % 32 * 64 + (128 + n % 64) % 64 = n := by omega
      rw [v, if_pos (by simp; omega)]
    · rw [if_neg h2]
      by_cases h3 : n < 65536
      · rw [if_pos h3]
        have e0 := bt_nat (224 + n / 4096) (by omega)
        have e1 := bt_nat (128 + n / 64 % 64) (by omega)
        have e2 := bt_nat (128 + n % 64) (by omega)
        simp only [List.cons_append, List.nil_append, decL, List.length_cons, List.length_nil, cont, e0, e1, e2]
        rw [if_neg (by omega), if_neg (by omega), if_pos (by omega)]
        have v : (224 + n / 4096) % 16 * 4096 + (128 + n / 64 % 64) % 64 * 64 + (128 + n % 64) % 64 = n := by omega
        rw [v, if_pos (by simp [h]; omega)]
      · rw [if_neg h3]
        have e0 := bt_nat (240 + n / 262144) (by omega)
        have e1 := bt_nat (128 + n / 4096 % 64) (by omega)
        have e2 := bt_nat (128 + n / 64 % 64) (by omega)
        have e3 := bt_nat (128 + n % 64) (by omega)
        simp only [List.cons_append, List.nil_append, decL, List.length_cons, List.length_nil, cont, e0, e1, e2, e3]
        rw [if_neg (by omega), if_neg (by omega), if_neg (by omega), if_pos (by omega)]
        have v : (240 + n / 262144) % 8 * 262144 + (128 + n / 4096 % 64) % 64 * 4096 + (128 + n / 64 % 64) % 64 * 64 + (128 + n % 64) % 64 = n := by omega
        rw [v, if_pos (by simp [h]; omega)]

theorem bt_of (a : UInt8) (n : Nat) (h : a.toNat = n) : bt n = a := by subst h; exact UInt8.ofNat_toNat
theorem dec_sound (l : List UInt8) (n k : Nat) (h : decL l = some (n, k)) : sv n = true ∧ k = (enc n).length ∧ ∃ r, l = enc n ++ r := by
  cases l with
  | nil => simp [decL] at h
  | cons a r =>
    have ha := a.toNat_lt
    unfold decL at h
    dsimp only at h
    by_cases h1 : a.toNat < 128
    · rw [if_pos h1] at h
      obtain ⟨rfl, rfl⟩ : a.toNat = n ∧ 1 = k := by simpa using h
      have e : enc a.toNat = [a] := by unfold enc; rw [if_pos h1, bt_of a _ rfl]
      rw [e]
      exact ⟨by simp [sv]; omega, rfl, r, rfl⟩
    · rw [if_neg h1] at h
      by_cases h2 : a.toNat / 32 = 6
      · rw [if_pos h2] at h
        cases r with
        | nil => simp at h
        | cons b r =>
          have hb := b.toNat_lt
          simp only at h
          split at h
          · rename_i hc
            simp only [cont, Bool.and_eq_true, decide_eq_true_eq] at hc
            obtain ⟨rfl, rfl⟩ : a.toNat % 32 * 64 + b.toNat % 64 = n ∧ 2 = k := by simpa using h
            have e : enc (a.toNat % 32 * 64 + b.toNat % 64) = [a, b] := by
              unfold enc
              rw [if_neg (by omega), if_pos (by omega), bt_of a _ (by omega), bt_of b _ (by omega)]
            rw [e]
            exact ⟨by simp [sv]; omega, rfl, r, rfl⟩
          · cases h
      · rw [if_neg h2] at h
        by_cases h3 : a.toNat / 16 = 14
        · rw [if_pos h3] at h
          match r, h with
          | [], h => simp at h
          | [b], h => simp at h
          | b :: c :: r, h =>
            have hb := b.toNat_lt
            have hc := c.toNat_lt
            simp only at h
            split at h
            · rename_i hd
              simp only [cont, Bool.and_eq_true, decide_eq_true_eq] at hd
              obtain ⟨hx, rfl⟩ : a.toNat % 16 * 4096 + b.toNat % 64 * 64 + c.toNat % 64 = n ∧ 3 = k := by simpa using h
              rw [hx] at hd
              have e : enc n = [a, b, c] := by
                unfold enc
                rw [if_neg (by omega), if_neg (by omega), if_pos (by omega), bt_of a _ (by omega), bt_of b _ (by omega), bt_of c _ (by omega)]
              rw [e]
              exact ⟨hd.2, rfl, r, rfl⟩
            · cases h
        · rw [if_neg h3] at h
          by_cases h4 : a.toNat / 8 = 30
          · rw [if_pos h4] at h
            match r, h with
            | [], h => simp at h
            | [b], h => simp at h
            | [b, c], h => simp at h
            | b :: c :: d :: r, h =>
              have hb := b.toNat_lt
              have hc := c.toNat_lt
              have hd := d.toNat_lt
              simp only at h
              split at h
              · rename_i hq
                simp only [cont, Bool.and_eq_true, decide_eq_true_eq] at hq
                obtain ⟨hx, rfl⟩ : a.toNat % 8 * 262144 + b.toNat % 64 * 4096 + c.toNat % 64 * 64 + d.toNat % 64 = n ∧ 4 = k := by simpa using h
                rw [hx] at hq
                have e : enc n = [a, b, c, d] := by
                  unfold enc
                  rw [if_neg (by omega), if_neg (by omega), if_neg (by omega), bt_of a _ (by omega), bt_of b _ (by omega), bt_of c _ (by omega), bt_of d _ (by omega)]
                rw [e]
                exact ⟨hq.2, rfl, r, rfl⟩
              · cases h
          · rw [if_neg h4] at h
            cases h

theorem enc_pre {n m : Nat} (hn : sv n = true) (hm : sv m = true) {r r' : List UInt8} (h : enc n ++ r = enc m ++ r') : n = m ∧ r = r' := by
  have h1 := dec_enc n hn r
  rw [h, dec_enc m hm r'] at h1
  obtain ⟨rfl, _⟩ : m = n ∧ (enc m).length = (enc n).length := by simpa using h1
  exact ⟨rfl, List.append_cancel_left h⟩
def one (l : List UInt8) : Option (Nat × Nat) := (decL l).filter fun p => may p.1
theorem one_enc (n : Nat) (h : may n = true) (r : List UInt8) : one (enc n ++ r) = some (n, (enc n).length) := by
  have hs := (may_sv h).2.2
  rw [Int.toNat_natCast] at hs
  rw [one, dec_enc n hs r]
  simp [h]
theorem one_sound {l : List UInt8} {n k : Nat} (h : one l = some (n, k)) : may n = true ∧ sv n = true ∧ k = (enc n).length ∧ ∃ r, l = enc n ++ r := by
  unfold one at h
  rw [Option.filter_eq_some_iff] at h
  obtain ⟨h1, h2⟩ := h
  obtain ⟨a, b, c⟩ := dec_sound l n k h1
  exact ⟨h2, a, b, c⟩
def encs (l : List Nat) : List UInt8 := l.flatMap enc
theorem encs_nil : encs [] = [] := rfl
theorem encs_cons (n : Nat) (l : List Nat) : encs (n :: l) = enc n ++ encs l := by simp [encs]
theorem encs_append (a b : List Nat) : encs (a ++ b) = encs a ++ encs b := by simp [encs]
def mays (l : List Nat) : Prop := ∀ n ∈ l, may (n : Int) = true
theorem mays_nil : mays [] := fun _ h => by cases h
theorem mays_cons {n : Nat} {l : List Nat} : mays (n :: l) ↔ may (n : Int) = true ∧ mays l := by simp [mays]
theorem mays_append {a b : List Nat} : mays (a ++ b) ↔ mays a ∧ mays b := by
  unfold mays
  constructor
  · intro h
    exact ⟨fun n hn => h n (by simp [hn]), fun n hn => h n (by simp [hn])⟩
  · rintro ⟨h1, h2⟩ n hn
    rcases List.mem_append.1 hn with h | h
    · exact h1 n h
    · exact h2 n h
theorem nat_sv {n : Nat} (h : may (n : Int) = true) : sv n = true := by
  have := (may_sv h).2.2
  rwa [Int.toNat_natCast] at this
theorem encs_split : ∀ (ms ns : List Nat) (y : List UInt8), mays ms → mays ns → encs ns = encs ms ++ y → ∃ rest, ns = ms ++ rest ∧ y = encs rest
  | [], ns, y, _, _, h => ⟨ns, rfl, by simpa [encs] using h.symm⟩
  | m :: ms, ns, y, h1, h2, h => by
    rw [mays_cons] at h1
    rw [encs_cons, List.append_assoc] at h
    cases ns with
    | nil =>
      have := congrArg List.length h
      have := (enc_length m).1
      simp [encs] at *
      omega
    | cons n ns =>
      rw [mays_cons] at h2
      rw [encs_cons] at h
      obtain ⟨rfl, h3⟩ := enc_pre (nat_sv h2.1) (nat_sv h1.1) h
      obtain ⟨rest, rfl, e⟩ := encs_split ms ns y h1.2 h2.2 h3
      exact ⟨rest, rfl, e⟩

def ptsF : Nat → List UInt8 → Option (List Nat)
  | _, [] => some []
  | 0, _ :: _ => none
  | f + 1, a :: l => match one (a :: l) with
    | none => none
    | some (n, k) => (ptsF f ((a :: l).drop k)).map (n :: ·)
def pts (l : List UInt8) : Option (List Nat) := ptsF l.length l
theorem ptsF_encs : ∀ (f : Nat) (ns : List Nat), mays ns → (encs ns).length ≤ f → ptsF f (encs ns) = some ns
  | f, [], _, _ => by cases f <;> rfl
  | f, n :: ns, h, hl => by
    rw [mays_cons] at h
    have h1 := (enc_length n).1
    have h4 := one_enc n h.1 (encs ns)
    rw [encs_cons] at *
    rw [List.length_append] at hl
    cases f with
    | zero => omega
    | succ f =>
      have e : ∃ a r, enc n ++ encs ns = a :: r := by
        cases hq : enc n with
        | nil => rw [hq] at h1; simp at h1
        | cons a r => exact ⟨a, r ++ encs ns, rfl⟩
      obtain ⟨a, r, e⟩ := e
      rw [e] at h4 ⊢
      rw [ptsF, h4]
      have ed : (a :: r).drop (enc n).length = encs ns := by rw [← e, List.drop_left]
      simp only [ed]
      rw [ptsF_encs f ns h.2 (by omega)]
      rfl
theorem ptsF_sound : ∀ (f : Nat) (l : List UInt8) (ns : List Nat), ptsF f l = some ns → l = encs ns ∧ mays ns
  | f, [], ns, h => by
    have : ns = [] := by cases f <;> simpa [ptsF] using h.symm
    subst this
    exact ⟨rfl, mays_nil⟩
  | 0, a :: l, ns, h => by simp [ptsF] at h
  | f + 1, a :: l, ns, h => by
    rw [ptsF] at h
    cases ho : one (a :: l) with
    | none => rw [ho] at h; cases h
    | some p =>
      obtain ⟨n, k⟩ := p
      rw [ho] at h
      obtain ⟨h1, _, rfl, r, hr⟩ := one_sound ho
      simp only [Option.map_eq_some_iff] at h
      obtain ⟨ms, h2, rfl⟩ := h
      rw [hr, List.drop_left] at h2
      obtain ⟨e, hm⟩ := ptsF_sound f r ms h2
      exact ⟨by rw [hr, encs_cons, e], mays_cons.2 ⟨h1, hm⟩⟩
theorem pts_iff (l : List UInt8) (ns : List Nat) : pts l = some ns ↔ l = encs ns ∧ mays ns := by
  constructor
  · exact ptsF_sound _ _ _
  · rintro ⟨rfl, h⟩
    exact ptsF_encs _ _ h (Nat.le_refl _)
theorem pts_encs {ns : List Nat} (h : mays ns) : pts (encs ns) = some ns := (pts_iff _ _).2 ⟨rfl, h⟩
theorem pts_step (l : List UInt8) (h : l ≠ []) : pts l = match one l with | none => none | some (n, k) => (pts (l.drop k)).map (n :: ·) := by
  cases ho : one l with
  | none =>
    cases hp : pts l with
    | none => rfl
    | some ns =>
      obtain ⟨e, hm⟩ := (pts_iff _ _).1 hp
      cases ns with
      | nil => exact absurd e h
      | cons n ns =>
        rw [mays_cons] at hm
        rw [e, encs_cons, one_enc n hm.1] at ho
        cases ho
  | some p =>
    obtain ⟨n, k⟩ := p
    obtain ⟨h1, _, rfl, r, rfl⟩ := one_sound ho
    simp only [List.drop_left]
    cases hp : pts r with
    | none =>
      cases hq : pts (enc n ++ r) with
      | none => rfl
      | some ns =>
        obtain ⟨e, hm⟩ := (pts_iff _ _).1 hq
        obtain ⟨rest, _, e2⟩ := encs_split [n] ns r (mays_cons.2 ⟨h1, mays_nil⟩) hm (by rw [← e, encs_cons, encs_nil, List.append_nil])
        have hm2 : mays rest := by
          rename_i e1
          rw [e1] at hm
          exact (mays_append.1 hm).2
        rw [e2, pts_encs hm2] at hp
        cases hp
    | some ms =>
      obtain ⟨e, hm⟩ := (pts_iff _ _).1 hp
      rw [e, ← encs_cons]
      exact pts_encs (mays_cons.2 ⟨h1, hm⟩)

theorem dec_cont (b : UInt8) (r : List UInt8) (h : cont b = true) : decL (b :: r) = none := by
  have hb : b.toNat / 64 = 2 := by simpa [cont] using h
  unfold decL
  dsimp only
  rw [if_neg (by omega), if_neg (by omega), if_neg (by omega), if_neg (by omega)]
theorem one_cont (b : UInt8) (r : List UInt8) (h : cont b = true) : one (b :: r) = none := by rw [one, dec_cont b r h]; rfl
theorem enc_cont (n : Nat) (h : sv n = true) (j : Nat) (h0 : 0 < j) (hj : j < (enc n).length) : ∃ b r, (enc n).drop j = b :: r ∧ cont b = true := by
  have hb := sv_le h
  have c : ∀ m, m < 64 → cont (bt (128 + m)) = true := fun m hm => by unfold cont; rw [bt_nat _ (by omega)]; simp; omega
  revert hj
  unfold enc
  split
  · intro hj; simp at hj; omega
  · split
    · intro hj
      obtain rfl : j = 1 := by simp at hj; omega
      exact ⟨_, _, rfl, c _ (by omega)⟩
    · split
      · intro hj
        have : j = 1 ∨ j = 2 := by simp at hj; omega
        rcases this with rfl | rfl
        · exact ⟨_, _, rfl, c _ (by omega)⟩
        · exact ⟨_, _, rfl, c _ (by omega)⟩
      · intro hj
        have : j = 1 ∨ j = 2 ∨ j = 3 := by simp at hj; omega
        rcases this with rfl | rfl | rfl
        · exact ⟨_, _, rfl, c _ (by omega)⟩
        · exact ⟨_, _, rfl, c _ (by omega)⟩
        · exact ⟨_, _, rfl, c _ (by omega)⟩
theorem place : ∀ (ns : List Nat) (k : Nat), k < (encs ns).length → (∃ a b, ns = a ++ b ∧ k = (encs a).length ∧ b ≠ []) ∨ (∃ a n b j, ns = a ++ n :: b ∧ k = (encs a).length + j ∧ 0 < j ∧ j < (enc n).length)
  | [], k, h => by simp [encs] at h
  | n :: ns, k, h => by
    rw [encs_cons, List.length_append] at h
    by_cases h0 : k = 0
    · subst h0; exact .inl ⟨[], n :: ns, rfl, rfl, by simp⟩
    · by_cases h1 : k < (enc n).length
      · exact .inr ⟨[], n, ns, k, rfl, by simp [encs], by omega, h1⟩
      · rcases place ns (k - (enc n).length) (by omega) with ⟨a, b, rfl, e, hb⟩ | ⟨a, m, b, j, rfl, e, h2, h3⟩
        · exact .inl ⟨n :: a, b, rfl, by rw [encs_cons, List.length_append]; omega, hb⟩
        · exact .inr ⟨n :: a, m, b, j, rfl, by rw [encs_cons, List.length_append]; omega, h2, h3⟩
theorem cut (ns : List Nat) (hm : mays ns) (k : Nat) (hk : k < (encs ns).length) :
    ((one ((encs ns).drop k)).isSome = true ∧ (pts ((encs ns).take k)).isSome = true ∧ (pts ((encs ns).drop k)).isSome = true) ∨
    (one ((encs ns).drop k) = none ∧ pts ((encs ns).take k) = none ∧ pts ((encs ns).drop k) = none) := by
  rcases place ns k hk with ⟨a, b, rfl, rfl, hb⟩ | ⟨a, n, b, j, rfl, rfl, h0, hj⟩
  · rw [mays_append] at hm
    rw [encs_append, List.drop_left, List.take_left]
    refine .inl ⟨?_, by rw [pts_encs hm.1]; rfl, by rw [pts_encs hm.2]; rfl⟩
    cases b with
    | nil => exact absurd rfl hb
    | cons n b =>
      rw [encs_cons, one_enc n (mays_cons.1 hm.2).1]
      rfl
  · rw [mays_append, mays_cons] at hm
    have hn := nat_sv hm.2.1
    obtain ⟨x, r, hx, hc⟩ := enc_cont n hn j h0 hj
    have hd : (encs (a ++ n :: b)).drop ((encs a).length + j) = x :: (r ++ encs b) := by
      rw [encs_append, encs_cons, List.drop_append, List.drop_of_length_le (by omega), List.nil_append, show (encs a).length + j - (encs a).length = j by omega, List.drop_append, hx, show j - (enc n).length = 0 by omega]
      rfl
    have ho : one (x :: (r ++ encs b)) = none := one_cont x _ hc
    have ht : (encs (a ++ n :: b)).take ((encs a).length + j) = encs a ++ (enc n).take j := by
      rw [encs_append, encs_cons, List.take_append, List.take_of_length_le (by omega), show (encs a).length + j - (encs a).length = j by omega, List.take_append, show j - (enc n).length = 0 by omega]
      simp
    rw [hd, ht]
    refine .inr ⟨ho, ?_, ?_⟩
    · cases hp : pts (encs a ++ (enc n).take j) with
      | none => rfl
      | some ms =>
        obtain ⟨e, hms⟩ := (pts_iff _ _).1 hp
        obtain ⟨rest, rfl, er⟩ := encs_split a ms _ hm.1 hms e.symm
        rw [mays_append] at hms
        cases rest with
        | nil =>
          have := congrArg List.length er
          rw [List.length_take, encs_nil, List.length_nil] at this
          omega
        | cons m rest =>
          rw [encs_cons] at er
          have hmm := nat_sv (mays_cons.1 hms.2).1
          have e2 : enc n ++ [] = enc m ++ (encs rest ++ (enc n).drop j) := by rw [List.append_nil, ← List.append_assoc, ← er, List.take_append_drop]
          obtain ⟨rfl, e3⟩ := enc_pre hn hmm e2
          have := congrArg List.length e3
          rw [List.length_append, List.length_drop] at this
          simp at this
          omega
    · rw [pts_step _ (by simp), ho]

theorem enc_less (n m : Nat) (hn : sv n = true) (hm : sv m = true) (h : n < m) : ∃ p u v x y, enc n = p ++ u :: x ∧ enc m = p ++ v :: y ∧ u < v := by
  have h1 := sv_le hn
  have h2 := sv_le hm
  have lt : ∀ a b, a < b → b < 256 → bt a < bt b := fun a b hab hb => by
    rw [UInt8.lt_iff_toNat_lt, bt_nat a (by omega), bt_nat b hb]; exact hab
  unfold enc
  by_cases a1 : n < 128
  · rw [if_pos a1]
    split
    · exact ⟨[], _, _, _, _, rfl, rfl, lt _ _ h (by omega)⟩
    · split
      · exact ⟨[], _, _, _, _, rfl, rfl, lt _ _ (by omega) (by omega)⟩
      · split
        · exact ⟨[], _, _, _, _, rfl, rfl, lt _ _ (by omega) (by omega)⟩
        · exact ⟨[], _, _, _, _, rfl, rfl, lt _ _ (by omega) (by omega)⟩
  · rw [if_neg a1, if_neg (show ¬ m < 128 by omega)]
    by_cases a2 : n < 2048
    · rw [if_pos a2]
      split
      · by_cases q : n / 64 = m / 64
        · exact ⟨[bt (192 + n / 64)], _, _, _, _, rfl, by rw [q]; rfl, lt _ _ (by omega) (by omega)⟩
        · exact ⟨[], _, _, _, _, rfl, rfl, lt _ _ (by omega) (by omega)⟩
      · split
        · exact ⟨[], _, _, _, _, rfl, rfl, lt _ _ (by omega) (by omega)⟩
        · exact ⟨[], _, _, _, _, rfl, rfl, lt _ _ (by omega) (by omega)⟩
    · rw [if_neg a2, if_neg (show ¬ m < 2048 by omega)]
      by_cases a3 : n < 65536
      · rw [if_pos a3]
        split
        · by_cases q : n / 4096 = m / 4096
          · by_cases q2 : n / 64 % 64 = m / 64 % 64
            · exact ⟨[bt (224 + n / 4096), bt (128 + n / 64 % 64)], _, _, _, _, rfl, by rw [q, q2]; rfl, lt _ _ (by omega) (by omega)⟩
            · exact ⟨[bt (224 + n / 4096)], _, _, _, _, rfl, by rw [q]; rfl, lt _ _ (by omega) (by omega)⟩
          · exact ⟨[], _, _, _, _, rfl, rfl, lt _ _ (by omega) (by omega)⟩
        · exact ⟨[], _, _, _, _, rfl, rfl, lt _ _ (by omega) (by omega)⟩
      · rw [if_neg a3, if_neg (show ¬ m < 65536 by omega)]
        by_cases q : n / 262144 = m / 262144
        · by_cases q2 : n / 4096 % 64 = m / 4096 % 64
          · by_cases q3 : n / 64 % 64 = m / 64 % 64
            · exact ⟨[bt (240 + n / 262144), bt (128 + n / 4096 % 64), bt (128 + n / 64 % 64)], _, _, _, _, rfl, by rw [q, q2, q3]; rfl, lt _ _ (by omega) (by omega)⟩
            · exact ⟨[bt (240 + n / 262144), bt (128 + n / 4096 % 64)], _, _, _, _, rfl, by rw [q, q2]; rfl, lt _ _ (by omega) (by omega)⟩
          · exact ⟨[bt (240 + n / 262144)], _, _, _, _, rfl, by rw [q]; rfl, lt _ _ (by omega) (by omega)⟩
        · exact ⟨[], _, _, _, _, rfl, rfl, lt _ _ (by omega) (by omega)⟩
theorem lex_at (p : List UInt8) (u v : UInt8) (x y : List UInt8) (h : u < v) : p ++ u :: x < p ++ v :: y := by
  induction p with
  | nil => exact List.Lex.rel h
  | cons a p ih => exact List.Lex.cons ih
theorem lex_cancel (p x y : List UInt8) : p ++ x < p ++ y ↔ x < y := by
  induction p with
  | nil => rfl
  | cons a p ih =>
    rw [List.cons_append, List.cons_append, List.cons_lt_cons_iff, ih]
    simp
theorem order : ∀ (a b : List Nat), mays a → mays b → (encs a < encs b ↔ a < b)
  | [], [], _, _ => by simp [encs]
  | [], n :: b, _, _ => by
    have h1 := (enc_length n).1
    rw [encs_cons]
    cases hq : enc n with
    | nil => rw [hq] at h1; simp at h1
    | cons x r => simp [encs]
  | n :: a, [], _, _ => by simp [encs]
  | n :: a, m :: b, ha, hb => by
    rw [mays_cons] at ha hb
    rw [encs_cons, encs_cons, List.cons_lt_cons_iff]
    rcases Nat.lt_trichotomy n m with h | h | h
    · obtain ⟨p, u, v, x, y, e1, e2, hl⟩ := enc_less n m (nat_sv ha.1) (nat_sv hb.1) h
      rw [e1, e2, List.append_assoc, List.append_assoc]
      simp only [List.cons_append, h, true_or, iff_true]
      exact lex_at p u v _ _ hl
    · subst h
      rw [lex_cancel, order a b ha.2 hb.2]
      simp
    · obtain ⟨p, u, v, x, y, e1, e2, hl⟩ := enc_less m n (nat_sv hb.1) (nat_sv ha.1) h
      rw [e1, e2, List.append_assoc, List.append_assoc]
      have k : p ++ (u :: x ++ encs b) < p ++ (v :: y ++ encs a) := lex_at p u v _ _ hl
      have nk : ¬ (p ++ (v :: y ++ encs a) < p ++ (u :: x ++ encs b)) := fun q => absurd (List.lt_trans k q) (List.lt_irrefl _)
      simp only [nk, false_iff]
      omega
end Tx
end Go.Proofs.YteobcohjikjalaaGreatDoor
