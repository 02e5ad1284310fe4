/-
  Texts of one seat, put together: Mem, MapA, MemC, TextM, NumM, EscM.
-/
import Derived.Test.YtlhjcdkkmloamaaGreatDoorRows
import Derived.WalkKit
import Derived.WalkSpells
import Derived.WalkLawsBesides
import Derived.Lib.OthersKept
import Derived.WalkSmall
import Derived.Lib.Hide
import Derived.Laws.BytesArg
import Derived.Laws.IdiomStrings
import Derived.Laws.AppendOwnNone
import Derived.ProofKit
import Derived.OpenShut
import Derived.ShutString
import Derived.ChangeOld
import Derived.Below
import Derived.MapKept
import Derived.Deep.Slices
import GoSem.Core.Utf8
set_option linter.unusedSimpArgs false
namespace Go.Proofs.YtlhjcdkkmloamaaGreatDoor
open Go.RowKit
namespace Hx

def RdA (w : World) (B : Nat) (A : Option Addr) (l : List UInt8) : Prop :=
  0 < l.length → ∃ b off, A = some ⟨b, off, none⟩ ∧ b < B ∧ ∀ j (h : j < l.length), w.cell? ⟨b, off + j, none⟩ = some (.int .u8 (l[j]'h).toNat)

theorem RdA.keep {w w' : World} {B B' : Nat} {A : Option Addr} {l : List UInt8} (h : RdA w B A l) (hB : B ≤ B') (hk : ∀ b o, b < B → w'.cell? ⟨b, o, none⟩ = w.cell? ⟨b, o, none⟩) : RdA w' B' A l := by
  intro hp
  obtain ⟨b, off, e, hb, hc⟩ := h hp
  exact ⟨b, off, e, by omega, fun j hj => (hk _ _ hb).trans (hc j hj)⟩
theorem RdA.below {w w' : World} {B : Nat} {A : Option Addr} {l : List UInt8} (h : RdA w B A l) (hb : Below B w w') : RdA w' B A l :=
  h.keep (Nat.le_refl _) fun b o hlt => hb.cell (p := ⟨b, o, none⟩) hlt
theorem RdA.mono {w : World} {B B' : Nat} {A : Option Addr} {l : List UInt8} (h : RdA w B A l) (hB : B ≤ B') : RdA w B' A l := h.keep hB fun _ _ _ => rfl
theorem RdA.nil (w : World) (B : Nat) (A : Option Addr) : RdA w B A [] := fun h => absurd h (by simp)
theorem addr_plain (b o i : Nat) : (⟨b, o, none⟩ : Addr).add i = ⟨b, o + i, none⟩ := by
  unfold Addr.add
  split <;> simp_all
theorem RdA.of_own {w : World} {base : Nat} {e : TypeId} {A : Option Addr} {n c : Nat} {l : List UInt8} (h : w.ownsRow base e 1 (.slice A n c) n (Lib.byteCells l)) : RdA w w.heap.size A l ∧ l.length = n := by
  have hl : l.length = n := by have := h.1; rw [Lib.byteCells_length] at this; omega
  refine ⟨fun hp => ?_, hl⟩
  rcases h.2 with ⟨_, h0⟩ | ⟨g, cap, cur, hv, _, hg, _⟩
  · omega
  injection hv with hA _ _
  subst hA
  have hlt : g < w.heap.size := (Array.getElem?_eq_some_iff.1 hg).1
  refine ⟨g, 0, rfl, hlt, fun j hj => ?_⟩
  have := h.cells (g := g) rfl j (.int .u8 (l[j]'hj).toNat) (by simp [Lib.byteCells, hj])
  rw [addr_plain] at this
  exact this
theorem own_form {w : World} {base : Nat} {e : TypeId} {v : Value} {n : Nat} {xs : List Value} (h : w.ownsRow base e 1 v n xs) : ∃ A c, v = .slice A n c := by
  rcases h.2 with ⟨rfl, rfl⟩ | ⟨g, cap, cur, rfl, _⟩
  · exact ⟨none, 0, rfl⟩
  · exact ⟨_, cap, rfl⟩

theorem RdA.new (w : World) (t : TypeId) (l : List UInt8) : RdA (w.alloc (.cells (Lib.byteCells l).toArray t)) (w.heap.size + 1) (some ⟨w.heap.size, 0, none⟩) l := by
  intro _
  refine ⟨_, _, rfl, Nat.lt_succ_self _, fun j hj => ?_⟩
  rw [World.cell?_alloc_new]
  simp [Lib.byteCells, hj]
theorem RdA.newS (w : World) (t : TypeId) (l : List UInt8) : RdA (w.alloc (.cells (Lib.byteCells l).toArray t)) (w.alloc (.cells (Lib.byteCells l).toArray t)).heap.size (some ⟨w.heap.size, 0, none⟩) l :=
  (RdA.new w t l).mono (by simp)
theorem bytes_one (l : List UInt8) : ∀ v ∈ Lib.byteCells l, v.oneCell' = true := by
  intro v hv
  obtain ⟨b, _, rfl⟩ := List.mem_map.1 hv
  rfl
theorem ret_b {x y : Bool} (h : x = y) : Ending.returned (.bool x) = .returned (.bool y) := by rw [h]

theorem conv_str {P : Program} {w : World} {B src dst e : Nat} {A : Option Addr} {n c : Nat} {l : List UInt8} (h : RdA w B A l) (hn : l.length = n)
    (hs : P.underlying src = some (.slice e)) (he : P.underlying e = some (.int .u8)) (hd : P.underlying dst = some .string) :
    (convert src dst (.slice A n c)).run P w = .ok (.string ⟨l.toArray⟩) w := by
  subst hn
  rcases Nat.eq_zero_or_pos l.length with h0 | h0
  · have hl : l = [] := List.eq_nil_of_length_eq_zero h0
    subst hl
    rcases A with _ | a
    · exact run_convert_bytes_nil w src e hs he _ _ dst hd
    · exact run_convert_bytes_back w src dst e a c [] hs he hd (fun j hj => absurd hj (by simp))
  · obtain ⟨b, off, rfl, _, hc⟩ := h h0
    exact run_convert_bytes_back w src dst e _ c l hs he hd (fun j hj => by rw [addr_plain]; exact hc j hj)
theorem wpList_append_rd {P : Program} {w : World} {ops : Array Oper} {rest : List Oper} {o : Oper} {a : Act} {Q : Exit → Act → World → Prop} (hgd : o.guard = none) (s x : Operand) (t : TypeId)
    (ho : o.op = .call { callee := .builtin .append, args := #[s, x], argTypes := #[t, t] })
    (base : Nat) (e : TypeId) (i : TypeInfo) (z : Value) (ht : P.underlying t = some (.slice e)) (hi : P.info? e = some i) (hz : i.zero = some z) (hsize : i.size = 1) (hby : i.bytes = 1) (hzs : z.cells.size = 1)
    (v : Value) (n : Nat) (xs : List Value) (hs : a.eval s = v) (hown : w.ownsRow base e 1 v n xs)
    (B : Nat) (A : Option Addr) (m c : Nat) (l : List UInt8) (hx : a.eval x = .slice A m c) (hr : RdA w B A l) (hl : l.length = m) (hc0 : A = none → c = 0) (hb : n + m ≤ 100000000000) (hbase : base ≤ w.heap.size)
    (h : ∀ v' w', w'.ownsRow base e 1 v' (n + m) (xs ++ Lib.byteCells l) → w.grownBy w' v.ownBlock → wpList P ops Q rest (a.put o.dst v') w') : wpList P ops Q (o :: rest) a w := by
  rcases A with _ | ad
  · have h0 : l = [] := by
      rcases Nat.eq_zero_or_pos l.length with h0 | h0
      · exact List.eq_nil_of_length_eq_zero h0
      · obtain ⟨_, _, he, _⟩ := hr h0
        cases he
    subst h0
    obtain rfl : 0 = m := hl
    rw [hc0 rfl] at hx
    exact wpList_append_own_none hgd s x t ho base e i 1 ht hi v n xs hs hown hx (h v w (by simpa [Lib.byteCells] using hown) (World.grownBy.refl _ _))
  · refine wpList_append_own w hgd s x t ho base e i z 1 1 ht hi hz hsize hby hzs (by decide) v n xs hs hown ad m c (Lib.byteCells l) hx (by rw [Lib.byteCells_length]; omega) ?_ (bytes_one l) (by unfold maxLen; omega) (by omega) hbase (fun v' w' h1 h2 _ => h v' w' h1 h2)
    intro j u hu
    have hj : j < l.length := by
      have := (List.getElem?_eq_some_iff.1 hu).1
      simpa [Lib.byteCells] using this
    obtain ⟨b, off, he, _, hc⟩ := hr (by omega)
    cases he
    rw [addr_plain, hc j hj]
    simpa [Lib.byteCells, hj] using hu


theorem stp {a b c : World} (h : Below a.heap.size a b) (k : Below b.heap.size b c) : Below a.heap.size a c := h.trans (k.mono h.size)
theorem stpA {a b : World} (h : Below a.heap.size a b) (o : Obj) : Below a.heap.size a (b.alloc o) := h.alloc h.size o

end Hx
end Go.Proofs.YtlhjcdkkmloamaaGreatDoor
namespace Go.Proofs.YtlhjcdkkmloamaaGreatDoor
open Go.RowKit
namespace Hx
set_option linter.unusedVariables false
theorem kept_at {w w' : World} {B M : Nat} {o : Obj} (h : w.heap[M]? = some o) (hb : Below B w w') (hM : M < B) : w'.heap[M]? = some o := (hb.block M hM).trans h
theorem bel_in {w w' w0 : World} {B n : Nat} (h0 : Below n w0 w) (h : Below B w w') (hn : n ≤ B) : Below n w0 w' := h0.trans (h.mono hn)
theorem push_set (w : World) (x y : Obj) : ({ w.alloc x with heap := (w.alloc x).heap.setIfInBounds w.heap.size y } : World) = w.alloc y := by
  have h : (w.heap.push x).setIfInBounds w.heap.size y = w.heap.push y := by
    apply Array.ext_getElem?
    intro i
    rw [Array.getElem?_setIfInBounds, Array.getElem?_push, Array.getElem?_push]
    by_cases e : i = w.heap.size
    · subst e; simp
    · rw [if_neg (fun h => e h.symm), if_neg e, if_neg e]
  show ({ w with heap := (w.heap.push x).setIfInBounds w.heap.size y } : World) = { w with heap := w.heap.push y }
  rw [h]
theorem run_ins {P : Program} {w : World} {t k e : TypeId} {kd : TypeDesc} {es : Array MapEntry} {n : Nat} {key val : Value}
    (ht : P.underlying t = some (.map k e)) (hk : P.underlying k = some kd) (hkd : MapKept.IsKey kd key) (hf : Instr.findNow kd key es.toList 0 = some none) :
    (Instr.mapUpdate t (.map (some w.heap.size)) key val).run P (w.alloc (.map es n)) = .ok () (w.alloc (.map (es.push ⟨key, val, n⟩) (n + 1))) := by
  have hb : (w.alloc (.map es n)).heap[w.heap.size]? = some (.map es n) := heap_alloc_new w _
  have hc := MapKept.run_checkKey (w := w.alloc (.map es n)) hk hkd false 9999
  have hfk : (Instr.findKey k key es.toList).run P (w.alloc (.map es n)) = .ok none (w.alloc (.map es n)) := by
    simp [Instr.findKey, run_underlying hk, hf, Result.andThen]
  simp [Instr.mapUpdate, run_underlying ht, MapKept.run_getObj_map hb, hc, hfk, MapKept.run_setObj_map _ hb, Result.andThen]
  exact push_set w _ _
theorem run_ins_at {P : Program} {w : World} {t k e : TypeId} {kd : TypeDesc} {es : Array MapEntry} {n b : Nat} {key val : Value} (hb : w.heap.size = b)
    (ht : P.underlying t = some (.map k e)) (hk : P.underlying k = some kd) (hkd : MapKept.IsKey kd key) (hf : Instr.findNow kd key es.toList 0 = some none) :
    (Instr.mapUpdate t (.map (some b)) key val).run P (w.alloc (.map es n)) = .ok () (w.alloc (.map (es.push ⟨key, val, n⟩) (n + 1))) := by
  subst hb
  exact run_ins ht hk hkd hf
def lookV (z : Value) : Option (Nat × Value) → Value
  | some (_, v) => .tuple #[v, .bool true]
  | none => .tuple #[z, .bool false]
theorem run_look {P : Program} {w : World} {t k e : TypeId} {kd : TypeDesc} {b : Nat} {es : Array MapEntry} {n : Nat} {key z : Value} {r : Option (Nat × Value)}
    (ht : P.underlying t = some (.map k e)) (hk : P.underlying k = some kd) (hkd : MapKept.IsKey kd key) (hb : w.heap[b]? = some (.map es n)) (he : es.isEmpty = false)
    (hz : (zeroValue e).run P w = .ok z w) (hf : Instr.findNow kd key es.toList 0 = some r) :
    (Instr.lookup t (.map (some b)) key true).run P w = .ok (lookV z r) w := by
  have hc := MapKept.run_checkKey (w := w) hk hkd es.isEmpty 9999
  have hfk : (Instr.findKey k key es.toList).run P w = .ok r w := by
    simp [Instr.findKey, run_underlying hk, hf, Result.andThen]
  cases r with
  | none => simp [Instr.lookup, run_underlying ht, MapKept.run_getObj_map hb, hc, hfk, hz, Result.andThen, lookV]
  | some p => simp [Instr.lookup, run_underlying ht, MapKept.run_getObj_map hb, hc, hfk, Result.andThen, lookV]
theorem wpList_ins {P : Program} {w : World} {ops : Array Oper} {rest : List Oper} {o : Oper} {a : Act} {Q : Exit → Act → World → Prop}
    (hg : o.guard = none) (m x v : Operand) (t : TypeId) (hop : o.op = Op.insert t m x v) {w' : World} {mv kv vv : Value} (hm : a.eval m = mv) (hx : a.eval x = kv) (hv : a.eval v = vv)
    (hrun : (Instr.mapUpdate t mv kv vv).run P w = .ok () w') (hK : wpList P ops Q rest (a.put o.dst undef) w') : wpList P ops Q (o :: rest) a w := by
  refine wpList_plain hg fun K' hK' => ?_
  unfold Oper.wp
  simp [execOp, hop, hm, hx, hv, hrun, Result.andThen]
  exact hK' _ _ hK
theorem wpList_look {P : Program} {w : World} {ops : Array Oper} {rest : List Oper} {o : Oper} {a : Act} {Q : Exit → Act → World → Prop}
    (hg : o.guard = none) (m x : Operand) (t : TypeId) (hop : o.op = Op.lookup t m x true) {mv kv v : Value} (hm : a.eval m = mv) (hx : a.eval x = kv)
    (hrun : (Instr.lookup t mv kv true).run P w = .ok v w) (hK : wpList P ops Q rest (a.put o.dst v) w) : wpList P ops Q (o :: rest) a w := by
  refine wpList_plain hg fun K' hK' => ?_
  unfold Oper.wp
  simp [execOp, hop, hm, hx, hrun, Result.andThen]
  exact hK' _ _ hK
structure Cod (α : Type) where
  k : Nat
  R : World → Nat → List Value → α → Prop
  len : ∀ {w : World} {B : Nat} {cs : List Value} {x : α}, R w B cs x → cs.length = k
  keep : ∀ {w w' : World} {B B' : Nat} {cs : List Value} {x : α}, R w B cs x → B ≤ B' → (∀ b o, b < B → w'.cell? ⟨b, o, none⟩ = w.cell? ⟨b, o, none⟩) → R w' B' cs x
def RdC {α : Type} (C : Cod α) (w : World) (B : Nat) (A : Option Addr) (l : List α) : Prop :=
  0 < l.length → ∃ b off, A = some ⟨b, off, none⟩ ∧ b < B ∧ ∀ j (h : j < l.length), ∃ cs, C.R w B cs (l[j]'h) ∧ ∀ i (hi : i < cs.length), w.cell? ⟨b, off + j * C.k + i, none⟩ = some (cs[i]'hi)
section
variable {α : Type} {C : Cod α}
theorem RdC.keep {w w' : World} {B B' : Nat} {A : Option Addr} {l : List α} (h : RdC C w B A l) (hB : B ≤ B') (hk : ∀ b o, b < B → w'.cell? ⟨b, o, none⟩ = w.cell? ⟨b, o, none⟩) : RdC C w' B' A l := by
  intro hp
  obtain ⟨b, off, e, hb, hc⟩ := h hp
  refine ⟨b, off, e, by omega, fun j hj => ?_⟩
  obtain ⟨cs, h1, h2⟩ := hc j hj
  exact ⟨cs, C.keep h1 hB hk, fun i hi => (hk _ _ hb).trans (h2 i hi)⟩
theorem RdC.below {w w' : World} {B : Nat} {A : Option Addr} {l : List α} (h : RdC C w B A l) (hb : Below B w w') : RdC C w' B A l := h.keep (Nat.le_refl _) fun b o hlt => hb.cell (p := ⟨b, o, none⟩) hlt
theorem RdC.mono {w : World} {B B' : Nat} {A : Option Addr} {l : List α} (h : RdC C w B A l) (hB : B ≤ B') : RdC C w B' A l := h.keep hB fun _ _ _ => rfl
theorem RdC.on {w w' : World} {A : Option Addr} {l : List α} (h : RdC C w w.heap.size A l) (hb : Below w.heap.size w w') : RdC C w' w'.heap.size A l := (h.below hb).mono hb.size
theorem RdC.nil (w : World) (B : Nat) (A : Option Addr) : RdC C w B A [] := fun h => absurd h (by simp)
end
theorem Cod.below {α : Type} (C : Cod α) {w w' : World} {B : Nat} {cs : List Value} {x : α} (h : C.R w B cs x) (hb : Below B w w') : C.R w' B cs x := C.keep h (Nat.le_refl _) fun b o hlt => hb.cell (p := ⟨b, o, none⟩) hlt
theorem Cod.on {α : Type} (C : Cod α) {w w' : World} {cs : List Value} {x : α} (h : C.R w w.heap.size cs x) (hb : Below w.heap.size w w') : C.R w' w'.heap.size cs x := C.keep h hb.size fun b o hlt => hb.cell (p := ⟨b, o, none⟩) hlt
section
variable {H : Type} {enc : TypeId × Value → H} {P : Program}
end
theorem flat_at {β : Type} (f : β → List Value) (k : Nat) (hk : ∀ b, (f b).length = k) : ∀ (l : List β) (j i : Nat) (hj : j < l.length) (hi : i < k), (l.flatMap f)[j * k + i]? = some ((f (l[j]'hj))[i]'(by rw [hk]; exact hi)) := by
  intro l
  induction l with
  | nil => intro j i hj; simp at hj
  | cons b l ih =>
    intro j i hj hi
    rw [List.flatMap_cons]
    cases j with
    | zero =>
      rw [Nat.zero_mul, Nat.zero_add, List.getElem?_append_left (by rw [hk]; exact hi)]
      exact List.getElem?_eq_getElem _
    | succ j =>
      rw [List.getElem?_append_right (by rw [hk, Nat.succ_mul]; omega), hk, show (j + 1) * k + i - k = j * k + i by rw [Nat.succ_mul]; omega]
      exact ih j i (by simpa using hj) hi
theorem flat_len {β : Type} (f : β → List Value) (k : Nat) (hk : ∀ b, (f b).length = k) (l : List β) : (l.flatMap f).length = l.length * k := by
  induction l with
  | nil => simp
  | cons b l ih => rw [List.flatMap_cons, List.length_append, hk, ih, List.length_cons, Nat.succ_mul]; omega
theorem RdC.of_own {α β : Type} {C : Cod α} {w : World} {base : Nat} {e : TypeId} {A : Option Addr} {n c : Nat} (f : β → List Value) (val : β → α) (hk : ∀ b, (f b).length = C.k) (hk0 : 0 < C.k) (l : List β) (hR : ∀ b ∈ l, C.R w w.heap.size (f b) (val b))
    (h : w.ownsRow base e C.k (.slice A n c) n (l.flatMap f)) : RdC C w w.heap.size A (l.map val) ∧ l.length = n ∧ n ≤ c ∧ c ≤ maxLen ∧ (A = none → c = 0) := by
  have hl : l.length = n := by
    have := h.1
    rw [flat_len f C.k hk] at this
    exact Nat.eq_of_mul_eq_mul_right hk0 this
  rcases h.2 with ⟨e1, h0⟩ | ⟨g, cap, cur, hv, hb, hg, hnc, hcm, _, _⟩
  · injection e1 with e1 e2 e3
    subst e1 e3
    have : l = [] := List.eq_nil_of_length_eq_zero (by omega)
    subst this
    exact ⟨RdC.nil _ _ _, hl, by omega, Nat.zero_le _, fun _ => rfl⟩
  · injection hv with e1 e2 e3
    subst e1 e3
    have hlt : g < w.heap.size := (Array.getElem?_eq_some_iff.1 hg).1
    refine ⟨fun hp => ⟨g, 0, rfl, hlt, fun j hj => ?_⟩, hl, hnc, hcm, fun h => by cases h⟩
    have hj' : j < l.length := by simpa using hj
    refine ⟨f (l[j]'hj'), by simpa using hR _ (List.getElem_mem hj'), fun i hi => ?_⟩
    have hi' : i < C.k := by rw [hk] at hi; exact hi
    have := h.cells (g := g) rfl (j * C.k + i) _ (flat_at f C.k hk l j i hj' hi')
    rw [addr_plain] at this
    rw [Nat.zero_add, ← this, Nat.zero_add]
end Hx
end Go.Proofs.YtlhjcdkkmloamaaGreatDoor
namespace Go.Proofs.YtlhjcdkkmloamaaGreatDoor
namespace Tx
open Go

def sv (n : Nat) : Bool := decide (n < 55296) || (decide (57344 ≤ n) && decide (n ≤ 1114111))
def may (n : Int) : Bool := if n < 32 then decide (n = 9) || decide (n = 10) || decide (n = 13) else decide (n ≤ 1114111) && (decide (n < 55296) || decide (57343 < n)) && decide (n ≠ 65534) && decide (n ≠ 65535)
theorem may_sv {n : Int} (h : may n = true) : 0 ≤ n ∧ n ≤ 1114111 ∧ sv n.toNat = true := by
  unfold may at h
  split at h
  · simp at h
    refine ⟨by omega, by omega, ?_⟩
    simp [sv]; omega
  · simp at h
    refine ⟨by omega, by omega, ?_⟩
    simp [sv]; omega
theorem sv_le {n : Nat} (h : sv n = true) : n ≤ 1114111 := by simp [sv] at h; omega

def bt (n : Nat) : UInt8 := UInt8.ofNat n
theorem bt_nat (n : Nat) (h : n < 256) : (bt n).toNat = n := by unfold bt; rw [UInt8.toNat_ofNat']; omega
def enc (n : Nat) : List UInt8 :=
  if n < 128 then [bt n]
  else if n < 2048 then [bt (192 + n / 64), bt (128 + n % 64)]
  else if n < 65536 then [bt (224 + n / 4096), bt (128 + n / 64 % 64), bt (128 + n % 64)]
  else [bt (240 + n / 262144), bt (128 + n / 4096 % 64), bt (128 + n / 64 % 64), bt (128 + n % 64)]
theorem enc_length (n : Nat) : 1 ≤ (enc n).length ∧ (enc n).length ≤ 4 := by
  unfold enc
  split
  · simp
  · split
    · simp
    · split <;> simp
def cont (b : UInt8) : Bool := decide (b.toNat / 64 = 2)
def decL : List UInt8 → Option (Nat × Nat)
  | [] => none
  | a :: r =>
    if a.toNat < 128 then some (a.toNat, 1)
    else if a.toNat / 32 = 6 then
      match r with
      | b :: _ => if cont b && decide (128 ≤ a.toNat % 32 * 64 + b.toNat % 64) then some (a.toNat % 32 * 64 + b.toNat % 64, 2) else none
      | [] => none
    else if a.toNat / 16 = 14 then
      match r with
      | b :: c :: _ => if cont b && cont c && decide (2048 ≤ a.toNat % 16 * 4096 + b.toNat % 64 * 64 + c.toNat % 64) && sv (a.toNat % 16 * 4096 + b.toNat % 64 * 64 + c.toNat % 64) then some (a.toNat % 16 * 4096 + b.toNat % 64 * 64 + c.toNat % 64, 3) else none
      | _ => none
    else if a.toNat / 8 = 30 then
      match r with
      | b :: c :: d :: _ => if cont b && cont c && cont d && decide (65536 ≤ a.toNat % 8 * 262144 + b.toNat % 64 * 4096 + c.toNat % 64 * 64 + d.toNat % 64) && sv (a.toNat % 8 * 262144 + b.toNat % 64 * 4096 + c.toNat % 64 * 64 + d.toNat % 64) then some (a.toNat % 8 * 262144 + b.toNat % 64 * 4096 + c.toNat % 64 * 64 + d.toNat % 64, 4) else none
      | _ => none
    else none

theorem dec_enc (n : Nat) (h : sv n = true) (r : List UInt8) : decL (enc n ++ r) = some (n, (enc n).length) := by
  have hb := sv_le h
  unfold enc
  by_cases h1 : n < 128
  · rw [if_pos h1]
    simp only [List.cons_append, List.nil_append, decL, List.length_cons, List.length_nil]
    rw [bt_nat n (by omega), if_pos h1]
  · rw [if_neg h1]
    by_cases h2 : n < 2048
    · rw [if_pos h2]
      have e0 := bt_nat (192 + n / 64) (by omega)
      have e1 := bt_nat (128 + n % 64) (by omega)
      simp only [List.cons_append, List.nil_append, decL, List.length_cons, List.length_nil, cont, e0, e1]
      rw [if_neg (by omega), if_pos (by omega)]
      have v : (192 + n / 64) % 32 * 64 + (128 + n % 64) % 64 = n := by omega
      rw [v, if_pos (by simp; omega)]
    · rw [if_neg h2]
      by_cases h3 : n < 65536
      · rw [if_pos h3]
        have e0 := bt_nat (224 + n / 4096) (by omega)
        have e1 := bt_nat (128 + n / 64 % 64) (by omega)
        have e2 := bt_nat (128 + n % 64) (by omega)
        simp only [List.cons_append, List.nil_append, decL, List.length_cons, List.length_nil, cont, e0, e1, e2]
        rw [if_neg (by omega), if_neg (by omega), if_pos (by omega)]
        have v : (224 + n / 4096) % 16 * 4096 + (128 + n / 64 % 64) % 64 * 64 + (128 + n % 64) % 64 = n := by omega
        rw [v, if_pos (by simp [h]; omega)]
      · rw [if_neg h3]
        have e0 := bt_nat (240 + n / 262144) (by omega)
        have e1 := bt_nat (128 + n / 4096 % 64) (by omega)
        have e2 := bt_nat (128 + n / 64 % 64) (by omega)
        have e3 := bt_nat (128 + n % 64) (by omega)
        simp only [List.cons_append, List.nil_append, decL, List.length_cons, List.length_nil, cont, e0, e1, e2, e3]
        rw [if_neg (by omega), if_neg (by omega), if_neg (by omega), if_pos (by omega)]
        have v : (240 + n / 262144) % 8 * 262144 + (128 + n / 4096 % 64) % 64 * 4096 + (128 + n / 64 % 64) % 64 * 64 + (128 + n % 64) % 64 = n := by omega
        rw [v, if_pos (by simp [h]; omega)]

theorem bt_of (a : UInt8) (n : Nat) (h : a.toNat = n) : bt n = a := by subst h; exact UInt8.ofNat_toNat
theorem dec_sound (l : List UInt8) (n k : Nat) (h : decL l = some (n, k)) : sv n = true ∧ k = (enc n).length ∧ ∃ r, l = enc n ++ r := by
  cases l with
  | nil => simp [decL] at h
  | cons a r =>
    have ha := a.toNat_lt
    unfold decL at h
    dsimp only at h
    by_cases h1 : a.toNat < 128
    · rw [if_pos h1] at h
      obtain ⟨rfl, rfl⟩ : a.toNat = n ∧ 1 = k := by simpa using h
      have e : enc a.toNat = [a] := by unfold enc; rw [if_pos h1, bt_of a _ rfl]
      rw [e]
      exact ⟨by simp [sv]; omega, rfl, r, rfl⟩
    · rw [if_neg h1] at h
      by_cases h2 : a.toNat / 32 = 6
      · rw [if_pos h2] at h
        cases r with
        | nil => simp at h
        | cons b r =>
          have hb := b.toNat_lt
          simp only at h
          split at h
          · rename_i hc
            simp only [cont, Bool.and_eq_true, decide_eq_true_eq] at hc
            obtain ⟨rfl, rfl⟩ : a.toNat % 32 * 64 + b.toNat % 64 = n ∧ 2 = k := by simpa using h
            have e : enc (a.toNat % 32 * 64 + b.toNat % 64) = [a, b] := by
              unfold enc
              rw [if_neg (by omega), if_pos (by omega), bt_of a _ (by omega), bt_of b _ (by omega)]
            rw [e]
            exact ⟨by simp [sv]; omega, rfl, r, rfl⟩
          · cases h
      · rw [if_neg h2] at h
        by_cases h3 : a.toNat / 16 = 14
        · rw [if_pos h3] at h
          match r, h with
          | [], h => simp at h
          | [b], h => simp at h
          | b :: c :: r, h =>
            have hb := b.toNat_lt
            have hc := c.toNat_lt
            simp only at h
            split at h
            · rename_i hd
              simp only [cont, Bool.and_eq_true, decide_eq_true_eq] at hd
              obtain ⟨hx, rfl⟩ : a.toNat % 16 * 4096 + b.toNat % 64 * 64 + c.toNat % 64 = n ∧ 3 = k := by simpa using h
              rw [hx] at hd
              have e : enc n = [a, b, c] := by
                unfold enc
                rw [if_neg (by omega), if_neg (by omega), if_pos (by omega), bt_of a _ (by omega), bt_of b _ (by omega), bt_of c _ (by omega)]
              rw [e]
              exact ⟨hd.2, rfl, r, rfl⟩
            · cases h
        · rw [if_neg h3] at h
          by_cases h4 : a.toNat / 8 = 30
          · rw [if_pos h4] at h
            match r, h with
            | [], h => simp at h
            | [b], h => simp at h
            | [b, c], h => simp at h
            | b :: c :: d :: r, h =>
              have hb := b.toNat_lt
              have hc := c.toNat_lt
              have hd := d.toNat_lt
              simp only at h
              split at h
              · rename_i hq
                simp only [cont, Bool.and_eq_true, decide_eq_true_eq] at hq
                obtain ⟨hx, rfl⟩ : a.toNat % 8 * 262144 + b.toNat % 64 * 4096 + c.toNat % 64 * 64 + d.toNat % 64 = n ∧ 4 = k := by simpa using h
                rw [hx] at hq
                have e : enc n = [a, b, c, d] := by
                  unfold enc
                  rw [if_neg (by omega), if_neg (by omega), if_neg (by omega), bt_of a _ (by omega), bt_of b _ (by omega), bt_of c _ (by omega), bt_of d _ (by omega)]
                rw [e]
                exact ⟨hq.2, rfl, r, rfl⟩
              · cases h
          · rw [if_neg h4] at h
            cases h

theorem enc_pre {n m : Nat} (hn : sv n = true) (hm : sv m = true) {r r' : List UInt8} (h : enc n ++ r = enc m ++ r') : n = m ∧ r = r' := by
  have h1 := dec_enc n hn r
  rw [h, dec_enc m hm r'] at h1
  obtain ⟨rfl, _⟩ : m = n ∧ (enc m).length = (enc n).length := by simpa using h1
  exact ⟨rfl, List.append_cancel_left h⟩
def one (l : List UInt8) : Option (Nat × Nat) := (decL l).filter fun p => may p.1
theorem one_enc (n : Nat) (h : may n = true) (r : List UInt8) : one (enc n ++ r) = some (n, (enc n).length) := by
  have hs := (may_sv h).2.2
  rw [Int.toNat_natCast] at hs
  rw [one, dec_enc n hs r]
  simp [h]
theorem one_sound {l : List UInt8} {n k : Nat} (h : one l = some (n, k)) : may n = true ∧ sv n = true ∧ k = (enc n).length ∧ ∃ r, l = enc n ++ r := by
  unfold one at h
  rw [Option.filter_eq_some_iff] at h
  obtain ⟨h1, h2⟩ := h
  obtain ⟨a, b, c⟩ := dec_sound l n k h1
  exact ⟨h2, a, b, c⟩
def encs (l : List Nat) : List UInt8 := l.flatMap enc
theorem encs_nil : encs [] = [] := rfl
theorem encs_cons (n : Nat) (l : List Nat) : encs (n :: l) = enc n ++ encs l := by simp [encs]
theorem encs_append (a b : List Nat) : encs (a ++ b) = encs a ++ encs b := by simp [encs]
def mays (l : List Nat) : Prop := ∀ n ∈ l, may (n : Int) = true
theorem mays_nil : mays [] := fun _ h => by cases h
theorem mays_cons {n : Nat} {l : List Nat} : mays (n :: l) ↔ may (n : Int) = true ∧ mays l := by simp [mays]
theorem mays_append {a b : List Nat} : mays (a ++ b) ↔ mays a ∧ mays b := by
  unfold mays
  constructor
  · intro h
    exact ⟨fun n hn => h n (by simp [hn]), fun n hn => h n (by simp [hn])⟩
  · rintro ⟨h1, h2⟩ n hn
    rcases List.mem_append.1 hn with h | h
    · exact h1 n h
    · exact h2 n h
theorem nat_sv {n : Nat} (h : may (n : Int) = true) : sv n = true := by
  have := (may_sv h).2.2
  rwa [Int.toNat_natCast] at this
theorem encs_split : ∀ (ms ns : List Nat) (y : List UInt8), mays ms → mays ns → encs ns = encs ms ++ y → ∃ rest, ns = ms ++ rest ∧ y = encs rest
  | [], ns, y, _, _, h => ⟨ns, rfl, by simpa [encs] using h.symm⟩
  | m :: ms, ns, y, h1, h2, h => by
    rw [mays_cons] at h1
    rw [encs_cons, List.append_assoc] at h
    cases ns with
    | nil =>
      have := congrArg List.length h
      have := (enc_length m).1
      simp [encs] at *
      omega
    | cons n ns =>
      rw [mays_cons] at h2
      rw [encs_cons] at h
      obtain ⟨rfl, h3⟩ := enc_pre (nat_sv h2.1) (nat_sv h1.1) h
      obtain ⟨rest, rfl, e⟩ := encs_split ms ns y h1.2 h2.2 h3
      exact ⟨rest, rfl, e⟩

def ptsF : Nat → List UInt8 → Option (List Nat)
  | _, [] => some []
  | 0, _ :: _ => none
  | f + 1, a :: l => match one (a :: l) with
    | none => none
    | some (n, k) => (ptsF f ((a :: l).drop k)).map (n :: ·)
def pts (l : List UInt8) : Option (List Nat) := ptsF l.length l
theorem ptsF_encs : ∀ (f : Nat) (ns : List Nat), mays ns → (encs ns).length ≤ f → ptsF f (encs ns) = some ns
  | f, [], _, _ => by cases f <;> rfl
  | f, n :: ns, h, hl => by
    rw [mays_cons] at h
    have h1 := (enc_length n).1
    have h4 := one_enc n h.1 (encs ns)
    rw [encs_cons] at *
    rw [List.length_append] at hl
    cases f with
    | zero => omega
    | succ f =>
      have e : ∃ a r, enc n ++ encs ns = a :: r := by
        cases hq : enc n with
        | nil => rw [hq] at h1; simp at h1
        | cons a r => exact ⟨a, r ++ encs ns, rfl⟩
      obtain ⟨a, r, e⟩ := e
      rw [e] at h4 ⊢
      rw [ptsF, h4]
      have ed : (a :: r).drop (enc n).length = encs ns := by rw [← e, List.drop_left]
      simp only [ed]
      rw [ptsF_encs f ns h.2 (by omega)]
      rfl
theorem ptsF_sound : ∀ (f : Nat) (l : List UInt8) (ns : List Nat), ptsF f l = some ns → l = encs ns ∧ mays ns
  | f, [], ns, h => by
    have : ns = [] := by cases f <;> simpa [ptsF] using h.symm
    subst this
    exact ⟨rfl, mays_nil⟩
  | 0, a :: l, ns, h => by simp [ptsF] at h
  | f + 1, a :: l, ns, h => by
    rw [ptsF] at h
    cases ho : one (a :: l) with
    | none => rw [ho] at h; cases h
    | some p =>
      obtain ⟨n, k⟩ := p
      rw [ho] at h
      obtain ⟨h1, _, rfl, r, hr⟩ := one_sound ho
      simp only [Option.map_eq_some_iff] at h
      obtain ⟨ms, h2, rfl⟩ := h
      rw [hr, List.drop_left] at h2
      obtain ⟨e, hm⟩ := ptsF_sound f r ms h2
      exact ⟨by rw [hr, encs_cons, e], mays_cons.2 ⟨h1, hm⟩⟩
theorem pts_iff (l : List UInt8) (ns : List Nat) : pts l = some ns ↔ l = encs ns ∧ mays ns := by
  constructor
  · exact ptsF_sound _ _ _
  · rintro ⟨rfl, h⟩
    exact ptsF_encs _ _ h (Nat.le_refl _)
theorem pts_encs {ns : List Nat} (h : mays ns) : pts (encs ns) = some ns := (pts_iff _ _).2 ⟨rfl, h⟩
theorem pts_step (l : List UInt8) (h : l ≠ []) : pts l = match one l with | none => none | some (n, k) => (pts (l.drop k)).map (n :: ·) := by
  cases ho : one l with
  | none =>
    cases hp : pts l with
    | none => rfl
    | some ns =>
      obtain ⟨e, hm⟩ := (pts_iff _ _).1 hp
      cases ns with
      | nil => exact absurd e h
      | cons n ns =>
        rw [mays_cons] at hm
        rw [e, encs_cons, one_enc n hm.1] at ho
        cases ho
  | some p =>
    obtain ⟨n, k⟩ := p
    obtain ⟨h1, _, rfl, r, rfl⟩ := one_sound ho
    simp only [List.drop_left]
    cases hp : pts r with
    | none =>
      cases hq : pts (enc n ++ r) with
      | none => rfl
      | some ns =>
        obtain ⟨e, hm⟩ := (pts_iff _ _).1 hq
        obtain ⟨rest, _, e2⟩ := encs_split [n] ns r (mays_cons.2 ⟨h1, mays_nil⟩) hm (by rw [← e, encs_cons, encs_nil, List.append_nil])
        have hm2 : mays rest := by
          rename_i e1
          rw [e1] at hm
          exact (mays_append.1 hm).2
        rw [e2, pts_encs hm2] at hp
        cases hp
    | some ms =>
      obtain ⟨e, hm⟩ := (pts_iff _ _).1 hp
      rw [e, ← encs_cons]
      exact pts_encs (mays_cons.2 ⟨h1, hm⟩)

theorem dec_cont (b : UInt8) (r : List UInt8) (h : cont b = true) : decL (b :: r) = none := by
  have hb : b.toNat / 64 = 2 := by simpa [cont] using h
  unfold decL
  dsimp only
  rw [if_neg (by omega), if_neg (by omega), if_neg (by omega), if_neg (by omega)]
theorem one_cont (b : UInt8) (r : List UInt8) (h : cont b = true) : one (b :: r) = none := by rw [one, dec_cont b r h]; rfl
theorem enc_cont (n : Nat) (h : sv n = true) (j : Nat) (h0 : 0 < j) (hj : j < (enc n).length) : ∃ b r, (enc n).drop j = b :: r ∧ cont b = true := by
  have hb := sv_le h
  have c : ∀ m, m < 64 → cont (bt (128 + m)) = true := fun m hm => by unfold cont; rw [bt_nat _ (by omega)]; simp; omega
  revert hj
  unfold enc
  split
  · intro hj; simp at hj; omega
  · split
    · intro hj
      obtain rfl : j = 1 := by simp at hj; omega
      exact ⟨_, _, rfl, c _ (by omega)⟩
    · split
      · intro hj
        have : j = 1 ∨ j = 2 := by simp at hj; omega
        rcases this with rfl | rfl
        · exact ⟨_, _, rfl, c _ (by omega)⟩
        · exact ⟨_, _, rfl, c _ (by omega)⟩
      · intro hj
        have : j = 1 ∨ j = 2 ∨ j = 3 := by simp at hj; omega
        rcases this with rfl | rfl | rfl
        · exact ⟨_, _, rfl, c _ (by omega)⟩
        · exact ⟨_, _, rfl, c _ (by omega)⟩
        · exact ⟨_, _, rfl, c _ (by omega)⟩
theorem place : ∀ (ns : List Nat) (k : Nat), k < (encs ns).length → (∃ a b, ns = a ++ b ∧ k = (encs a).length ∧ b ≠ []) ∨ (∃ a n b j, ns = a ++ n :: b ∧ k = (encs a).length + j ∧ 0 < j ∧ j < (enc n).length)
  | [], k, h => by simp [encs] at h
  | n :: ns, k, h => by
    rw [encs_cons, List.length_append] at h
    by_cases h0 : k = 0
    · subst h0; exact .inl ⟨[], n :: ns, rfl, rfl, by simp⟩
    · by_cases h1 : k < (enc n).length
      · exact .inr ⟨[], n, ns, k, rfl, by simp [encs], by omega, h1⟩
      · rcases place ns (k - (enc n).length) (by omega) with ⟨a, b, rfl, e, hb⟩ | ⟨a, m, b, j, rfl, e, h2, h3⟩
        · exact .inl ⟨n :: a, b, rfl, by rw [encs_cons, List.length_append]; omega, hb⟩
        · exact .inr ⟨n :: a, m, b, j, rfl, by rw [encs_cons, List.length_append]; omega, h2, h3⟩
theorem cut (ns : List Nat) (hm : mays ns) (k : Nat) (hk : k < (encs ns).length) :
    ((one ((encs ns).drop k)).isSome = true ∧ (pts ((encs ns).take k)).isSome = true ∧ (pts ((encs ns).drop k)).isSome = true) ∨
    (one ((encs ns).drop k) = none ∧ pts ((encs ns).take k) = none ∧ pts ((encs ns).drop k) = none) := by
  rcases place ns k hk with ⟨a, b, rfl, rfl, hb⟩ | ⟨a, n, b, j, rfl, rfl, h0, hj⟩
  · rw [mays_append] at hm
    rw [encs_append, List.drop_left, List.take_left]
    refine .inl ⟨?_, by rw [pts_encs hm.1]; rfl, by rw [pts_encs hm.2]; rfl⟩
    cases b with
    | nil => exact absurd rfl hb
    | cons n b =>
      rw [encs_cons, one_enc n (mays_cons.1 hm.2).1]
      rfl
  · rw [mays_append, mays_cons] at hm
    have hn := nat_sv hm.2.1
    obtain ⟨x, r, hx, hc⟩ := enc_cont n hn j h0 hj
    have hd : (encs (a ++ n :: b)).drop ((encs a).length + j) = x :: (r ++ encs b) := by
      rw [encs_append, encs_cons, List.drop_append, List.drop_of_length_le (by omega), List.nil_append, show (encs a).length + j - (encs a).length = j by omega, List.drop_append, hx, show j - (enc n).length = 0 by omega]
      rfl
    have ho : one (x :: (r ++ encs b)) = none := one_cont x _ hc
    have ht : (encs (a ++ n :: b)).take ((encs a).length + j) = encs a ++ (enc n).take j := by
      rw [encs_append, encs_cons, List.take_append, List.take_of_length_le (by omega), show (encs a).length + j - (encs a).length = j by omega, List.take_append, show j - (enc n).length = 0 by omega]
      simp
    rw [hd, ht]
    refine .inr ⟨ho, ?_, ?_⟩
    · cases hp : pts (encs a ++ (enc n).take j) with
      | none => rfl
      | some ms =>
        obtain ⟨e, hms⟩ := (pts_iff _ _).1 hp
        obtain ⟨rest, rfl, er⟩ := encs_split a ms _ hm.1 hms e.symm
        rw [mays_append] at hms
        cases rest with
        | nil =>
          have := congrArg List.length er
          rw [List.length_take, encs_nil, List.length_nil] at this
          omega
        | cons m rest =>
          rw [encs_cons] at er
          have hmm := nat_sv (mays_cons.1 hms.2).1
          have e2 : enc n ++ [] = enc m ++ (encs rest ++ (enc n).drop j) := by rw [List.append_nil, ← List.append_assoc, ← er, List.take_append_drop]
          obtain ⟨rfl, e3⟩ := enc_pre hn hmm e2
          have := congrArg List.length e3
          rw [List.length_append, List.length_drop] at this
          simp at this
          omega
    · rw [pts_step _ (by simp), ho]

theorem enc_less (n m : Nat) (hn : sv n = true) (hm : sv m = true) (h : n < m) : ∃ p u v x y, enc n = p ++ u :: x ∧ enc m = p ++ v :: y ∧ u < v := by
  have h1 := sv_le hn
  have h2 := sv_le hm
  have lt : ∀ a b, a < b → b < 256 → bt a < bt b := fun a b hab hb => by
    rw [UInt8.lt_iff_toNat_lt, bt_nat a (by omega), bt_nat b hb]; exact hab
  unfold enc
  by_cases a1 : n < 128
  · rw [if_pos a1]
    split
    · exact ⟨[], _, _, _, _, rfl, rfl, lt _ _ h (by omega)⟩
    · split
      · exact ⟨[], _, _, _, _, rfl, rfl, lt _ _ (by omega) (by omega)⟩
      · split
        · exact ⟨[], _, _, _, _, rfl, rfl, lt _ _ (by omega) (by omega)⟩
        · exact ⟨[], _, _, _, _, rfl, rfl, lt _ _ (by omega) (by omega)⟩
  · rw [if_neg a1, if_neg (show ¬ m < 128 by omega)]
    by_cases a2 : n < 2048
    · rw [if_pos a2]
      split
      · by_cases q : n / 64 = m / 64
        · exact ⟨[bt (192 + n / 64)], _, _, _, _, rfl, by rw [q]; rfl, lt _ _ (by omega) (by omega)⟩
        · exact ⟨[], _, _, _, _, rfl, rfl, lt _ _ (by omega) (by omega)⟩
      · split
        · exact ⟨[], _, _, _, _, rfl, rfl, lt _ _ (by omega) (by omega)⟩
        · exact ⟨[], _, _, _, _, rfl, rfl, lt _ _ (by omega) (by omega)⟩
    · rw [if_neg a2, if_neg (show ¬ m < 2048 by omega)]
      by_cases a3 : n < 65536
      · rw [if_pos a3]
        split
        · by_cases q : n / 4096 = m / 4096
          · by_cases q2 : n / 64 % 64 = m / 64 % 64
            · exact ⟨[bt (224 + n / 4096), bt (128 + n / 64 % 64)], _, _, _, _, rfl, by rw [q, q2]; rfl, lt _ _ (by omega) (by omega)⟩
            · exact ⟨[bt (224 + n / 4096)], _, _, _, _, rfl, by rw [q]; rfl, lt _ _ (by omega) (by omega)⟩
          · exact ⟨[], _, _, _, _, rfl, rfl, lt _ _ (by omega) (by omega)⟩
        · exact ⟨[], _, _, _, _, rfl, rfl, lt _ _ (by omega) (by omega)⟩
      · rw [if_neg a3, if_neg (show ¬ m < 65536 by omega)]
        by_cases q : n / 262144 = m / 262144
        · by_cases q2 : n / 4096 % 64 = m / 4096 % 64
          · by_cases q3 : n / 64 % 64 = m / 64 % 64
            · exact ⟨[bt (240 + n / 262144), bt (128 + n / 4096 % 64), bt (128 + n / 64 % 64)], _, _, _, _, rfl, by rw [q, q2, q3]; rfl, lt _ _ (by omega) (by omega)⟩
            · exact ⟨[bt (240 + n / 262144), bt (128 + n / 4096 % 64)], _, _, _, _, rfl, by rw [q, q2]; rfl, lt _ _ (by omega) (by omega)⟩
          · exact ⟨[bt (240 + n / 262144)], _, _, _, _, rfl, by rw [q]; rfl, lt _ _ (by omega) (by omega)⟩
        · exact ⟨[], _, _, _, _, rfl, rfl, lt _ _ (by omega) (by omega)⟩
theorem lex_at (p : List UInt8) (u v : UInt8) (x y : List UInt8) (h : u < v) : p ++ u :: x < p ++ v :: y := by
  induction p with
  | nil => exact List.Lex.rel h
  | cons a p ih => exact List.Lex.cons ih
theorem lex_cancel (p x y : List UInt8) : p ++ x < p ++ y ↔ x < y := by
  induction p with
  | nil => rfl
  | cons a p ih =>
    rw [List.cons_append, List.cons_append, List.cons_lt_cons_iff, ih]
    simp
theorem order : ∀ (a b : List Nat), mays a → mays b → (encs a < encs b ↔ a < b)
  | [], [], _, _ => by simp [encs]
  | [], n :: b, _, _ => by
    have h1 := (enc_length n).1
    rw [encs_cons]
    cases hq : enc n with
    | nil => rw [hq] at h1; simp at h1
    | cons x r => simp [encs]
  | n :: a, [], _, _ => by simp [encs]
  | n :: a, m :: b, ha, hb => by
    rw [mays_cons] at ha hb
    rw [encs_cons, encs_cons, List.cons_lt_cons_iff]
    rcases Nat.lt_trichotomy n m with h | h | h
    · obtain ⟨p, u, v, x, y, e1, e2, hl⟩ := enc_less n m (nat_sv ha.1) (nat_sv hb.1) h
      rw [e1, e2, List.append_assoc, List.append_assoc]
      simp only [List.cons_append, h, true_or, iff_true]
      exact lex_at p u v _ _ hl
    · subst h
      rw [lex_cancel, order a b ha.2 hb.2]
      simp
    · obtain ⟨p, u, v, x, y, e1, e2, hl⟩ := enc_less m n (nat_sv hb.1) (nat_sv ha.1) h
      rw [e1, e2, List.append_assoc, List.append_assoc]
      have k : p ++ (u :: x ++ encs b) < p ++ (v :: y ++ encs a) := lex_at p u v _ _ hl
      have nk : ¬ (p ++ (v :: y ++ encs a) < p ++ (u :: x ++ encs b)) := fun q => absurd (List.lt_trans k q) (List.lt_irrefl _)
      simp only [nk, false_iff]
      omega
end Tx
end Go.Proofs.YtlhjcdkkmloamaaGreatDoor
namespace Go.Proofs.YtlhjcdkkmloamaaGreatDoor
namespace Nmb
set_option linter.unusedVariables false
def dgt (n : Nat) : UInt8 := UInt8.ofNat (48 + n)
theorem dgt_nat {n : Nat} (h : n < 10) : (dgt n).toNat = 48 + n := by unfold dgt; rw [UInt8.toNat_ofNat']; omega
def dg (n : Nat) : List UInt8 := if h : n < 10 then [dgt n] else dg (n / 10) ++ [dgt (n % 10)]
termination_by n
decreasing_by omega
theorem dg_small {n : Nat} (h : n < 10) : dg n = [dgt n] := by rw [dg, dif_pos h]
theorem dg_more {n : Nat} (h : 10 ≤ n) : dg n = dg (n / 10) ++ [dgt (n % 10)] := by rw [dg, dif_neg (by omega)]
def isDg (b : UInt8) : Bool := decide (48 ≤ b.toNat) && decide (b.toNat ≤ 57)
theorem isDg_dgt {n : Nat} (h : n < 10) : isDg (dgt n) = true := by unfold isDg; rw [dgt_nat h]; simp; omega
theorem dgt_of {b : UInt8} (h : isDg b = true) : dgt (b.toNat - 48) = b := by
  simp only [isDg, Bool.and_eq_true, decide_eq_true_eq] at h
  unfold dgt
  rw [show 48 + (b.toNat - 48) = b.toNat by omega]
  exact UInt8.ofNat_toNat
def val (l : List UInt8) : Nat := l.foldl (fun n b => 10 * n + (b.toNat - 48)) 0
theorem val_nil : val [] = 0 := rfl
theorem val_snoc (l : List UInt8) (b : UInt8) : val (l ++ [b]) = 10 * val l + (b.toNat - 48) := by unfold val; rw [List.foldl_append]; rfl
theorem val_dg (n : Nat) : val (dg n) = n := by
  induction n using Nat.strongRecOn with
  | ind n ih =>
    by_cases h : n < 10
    · rw [dg_small h, ← List.nil_append [dgt n], val_snoc, val_nil, dgt_nat h]
      omega
    · rw [dg_more (by omega), val_snoc, ih (n / 10) (by omega), dgt_nat (by omega)]
      omega
theorem dg_all (n : Nat) : (dg n).all isDg = true := by
  induction n using Nat.strongRecOn with
  | ind n ih =>
    by_cases h : n < 10
    · rw [dg_small h]; simp [isDg_dgt h]
    · rw [dg_more (by omega), List.all_append, ih (n / 10) (by omega)]
      simp [isDg_dgt (show n % 10 < 10 by omega)]
theorem dg_length (n : Nat) : 1 ≤ (dg n).length := by
  by_cases h : n < 10
  · rw [dg_small h]; simp
  · rw [dg_more (by omega)]; simp
theorem dg_ne (n : Nat) : dg n ≠ [] := fun h => by have := dg_length n; rw [h] at this; simp at this
theorem head_app {l r : List UInt8} (h : l ≠ []) : (l ++ r).head? = l.head? := by
  cases l with
  | nil => exact absurd rfl h
  | cons a l => rfl
theorem dg_first (n : Nat) (h0 : 0 < n) : (dg n).head? ≠ some 48 := by
  induction n using Nat.strongRecOn with
  | ind n ih =>
    by_cases h : n < 10
    · rw [dg_small h]
      simp only [List.head?_cons, ne_eq, Option.some.injEq]
      intro q
      have := congrArg UInt8.toNat q
      rw [dgt_nat h] at this
      simp at this
      omega
    · rw [dg_more (by omega), head_app (dg_ne _)]
      exact ih (n / 10) (by omega) (by omega)
def okN (l : List UInt8) : Bool := !l.isEmpty && l.all isDg && (l.length == 1 || l.head? != some 48)
theorem okN_dg (n : Nat) : okN (dg n) = true := by
  unfold okN
  rw [dg_all]
  by_cases h : n = 0
  · subst h
    rw [dg_small (by omega)]
    rfl
  · have h1 := dg_first n (by omega)
    have h2 := dg_ne n
    simp [h1, h2]
theorem val_pos (l : List UInt8) (h : l.all isDg = true) (hn : l ≠ []) (hf : l.head? ≠ some 48) : 0 < val l := by
  cases l with
  | nil => exact absurd rfl hn
  | cons b r =>
    simp only [List.head?_cons, ne_eq, Option.some.injEq] at hf
    rw [List.all_cons, Bool.and_eq_true] at h
    have hb : 0 < b.toNat - 48 := by
      have h1 := h.1
      simp only [isDg, Bool.and_eq_true, decide_eq_true_eq] at h1
      have : b.toNat ≠ 48 := fun q => hf (UInt8.toNat_inj.1 (by rw [q]; rfl))
      omega
    have gen : ∀ (r : List UInt8) (x : Nat), 0 < x → 0 < r.foldl (fun n b => 10 * n + (b.toNat - 48)) x := by
      intro r
      induction r with
      | nil => exact fun x hx => hx
      | cons c r ih => exact fun x hx => ih (10 * x + (c.toNat - 48)) (by omega)
    exact gen r (10 * 0 + (b.toNat - 48)) (by omega)
theorem dg_val (l : List UInt8) (h : okN l = true) : dg (val l) = l := by
  simp only [okN, Bool.and_eq_true, Bool.or_eq_true, bne_iff_ne, beq_iff_eq, Bool.not_eq_true', List.isEmpty_eq_false_iff] at h
  obtain ⟨⟨hn, ha⟩, hf⟩ := h
  obtain ⟨k, hk⟩ : ∃ k, l.length = k := ⟨_, rfl⟩
  induction k generalizing l with
  | zero => exact absurd (List.eq_nil_of_length_eq_zero hk) hn
  | succ k ih =>
    obtain ⟨r, b, rfl⟩ : ∃ r b, l = r ++ [b] := ⟨l.dropLast, l.getLast hn, (List.dropLast_concat_getLast hn).symm⟩
    rw [List.all_append, Bool.and_eq_true] at ha
    have hb : isDg b = true := by simpa using ha.2
    have hb2 := hb
    simp only [isDg, Bool.and_eq_true, decide_eq_true_eq] at hb2
    rw [val_snoc]
    by_cases hr : r = []
    · subst hr
      rw [val_nil, dg_small (by omega), show 10 * 0 + (b.toNat - 48) = b.toNat - 48 by omega, dgt_of hb]
      rfl
    · have hrl : 0 < r.length := List.length_pos_iff.2 hr
      have hf' : r.head? ≠ some 48 := by
        rcases hf with hf | hf
        · rw [List.length_append] at hf; simp only [List.length_cons, List.length_nil] at hf; omega
        · rw [head_app hr] at hf; exact hf
      have hp := val_pos r ha.1 hr hf'
      have hrk : r.length = k := by rw [List.length_append] at hk; simpa using hk
      have hi : dg (val r) = r := by apply ih <;> first | exact ha.1 | assumption | exact Or.inr hf'
      rw [dg_more (by omega), show (10 * val r + (b.toNat - 48)) / 10 = val r by omega, show (10 * val r + (b.toNat - 48)) % 10 = b.toNat - 48 by omega, hi, dgt_of hb]
def most : Nat := 9007199254740991
def readN (l : List UInt8) : Option Nat := if okN l && decide (val l ≤ most) then some (val l) else none
theorem readN_iff (l : List UInt8) (n : Nat) : readN l = some n ↔ l = dg n ∧ n ≤ most := by
  unfold readN
  constructor
  · intro h
    split at h
    · rename_i hc
      rw [Bool.and_eq_true, decide_eq_true_eq] at hc
      injection h with h
      subst h
      exact ⟨(dg_val l hc.1).symm, hc.2⟩
    · cases h
  · rintro ⟨rfl, h⟩
    rw [okN_dg, val_dg, if_pos (by simpa using h)]
theorem dg_not (n : Nat) (b : UInt8) (hb : isDg b = false) : b ∉ dg n := fun h => by
  have := List.all_eq_true.1 (dg_all n) b h
  rw [hb] at this
  cases this
end Nmb
end Go.Proofs.YtlhjcdkkmloamaaGreatDoor
namespace Go.Proofs.YtlhjcdkkmloamaaGreatDoor
namespace Es
open Go Tx Nmb
theorem u8_every (p : UInt8 → Prop) [DecidablePred p] (h : ∀ n : Fin 256, p (UInt8.ofNat n.val)) (c : UInt8) : p c := by
  have := h ⟨c.toNat, c.toNat_lt⟩
  simpa using this
def escb (q : Bool) (c : UInt8) : List UInt8 :=
  if c = 38 then [38, 97, 109, 112, 59] else if c = 60 then [38, 108, 116, 59] else if c = 62 then [38, 103, 116, 59] else if c = 13 then [38, 35, 49, 51, 59]
  else if q = true ∧ c = 34 then [38, 113, 117, 111, 116, 59] else if q = true ∧ c = 9 then [38, 35, 57, 59] else if q = true ∧ c = 10 then [38, 35, 49, 48, 59] else [c]
def escL (q : Bool) (l : List UInt8) : List UInt8 := l.flatMap (escb q)
theorem escL_cons (q : Bool) (c : UInt8) (l : List UInt8) : escL q (c :: l) = escb q c ++ escL q l := by simp [escL]
def hxv (c : UInt8) : Option Nat := if 48 ≤ c.toNat ∧ c.toNat ≤ 57 then some (c.toNat - 48) else if 97 ≤ c.toNat ∧ c.toNat ≤ 102 then some (c.toNat - 87) else if 65 ≤ c.toNat ∧ c.toNat ≤ 70 then some (c.toNat - 55) else none
def hexF (l : List UInt8) : Option Nat := l.foldl (fun a c => a.bind fun n => (hxv c).map fun d => 16 * n + d) (some 0)
theorem hexF_snoc (l : List UInt8) (c : UInt8) : hexF (l ++ [c]) = (hexF l).bind fun n => (hxv c).map fun d => 16 * n + d := by simp [hexF]
def hexV (l : List UInt8) : Option Nat := if l = [] ∨ 6 < l.length ∨ l.head? = some 48 then none else hexF l
def numL (l : List UInt8) : Option Nat := ((match l with | 120 :: r => hexV r | _ => readN l)).filter fun n => may n
def meantL (l : List UInt8) : Option (List UInt8) :=
  if l = [97, 109, 112] then some [38] else if l = [108, 116] then some [60] else if l = [103, 116] then some [62] else if l = [113, 117, 111, 116] then some [34] else if l = [97, 112, 111, 115] then some [39]
  else match l with | 35 :: r => (numL r).map enc | _ => none
def semi : List UInt8 → Option (List UInt8 × List UInt8)
  | [] => none
  | c :: r => if c = 59 then some ([], r) else (semi r).map fun p => (c :: p.1, p.2)
theorem semi_some : ∀ (l x r : List UInt8), semi l = some (x, r) → l = x ++ 59 :: r ∧ (59 : UInt8) ∉ x
  | [], x, r, h => by cases h
  | c :: l, x, r, h => by
    rw [semi] at h
    split at h
    · rename_i hc
      cases h
      exact ⟨by rw [hc]; rfl, by simp⟩
    · rename_i hc
      rw [Option.map_eq_some_iff] at h
      obtain ⟨⟨y, t⟩, h1, h2⟩ := h
      cases h2
      obtain ⟨e, hn⟩ := semi_some l y _ h1
      refine ⟨by rw [e]; rfl, ?_⟩
      intro hm
      rcases List.mem_cons.1 hm with h | h
      · exact hc h.symm
      · exact hn h
theorem semi_of (x r : List UInt8) (h : (59 : UInt8) ∉ x) : semi (x ++ 59 :: r) = some (x, r) := by
  induction x with
  | nil => simp [semi]
  | cons c x ih =>
    rw [List.cons_append, semi, if_neg (fun e => h (by simp [e])), ih (fun hm => h (by simp [hm]))]
    rfl
theorem semi_none (l : List UInt8) (h : (59 : UInt8) ∉ l) : semi l = none := by
  induction l with
  | nil => rfl
  | cons c l ih =>
    rw [semi, if_neg (fun e => h (by simp [e])), ih (fun hm => h (by simp [hm]))]
    rfl
def rdF : Nat → List UInt8 → Option (List UInt8)
  | _, [] => some []
  | 0, _ :: _ => none
  | f + 1, c :: r => if c = 60 then none else if c = 38 then (match semi r with
      | none => none
      | some (x, t) => match meantL x with
        | none => none
        | some y => (rdF f t).map (y ++ ·)) else (rdF f r).map (c :: ·)
def rd (l : List UInt8) : Option (List UInt8) := rdF l.length l
theorem rdF_same : ∀ (f g : Nat) (l : List UInt8), l.length ≤ f → l.length ≤ g → rdF f l = rdF g l
  | f, g, [], _, _ => by cases f <;> cases g <;> rfl
  | 0, g, c :: r, h, _ => by simp at h
  | f + 1, 0, c :: r, _, h => by simp at h
  | f + 1, g + 1, c :: r, h1, h2 => by
    simp only [List.length_cons] at h1 h2
    rw [rdF, rdF]
    by_cases h60 : c = 60
    · rw [if_pos h60, if_pos h60]
    · rw [if_neg h60, if_neg h60]
      by_cases h38 : c = 38
      · rw [if_pos h38, if_pos h38]
        cases hs : semi r with
        | none => rfl
        | some p =>
          obtain ⟨x, t⟩ := p
          have hl := congrArg List.length (semi_some r x t hs).1
          simp only [List.length_append, List.length_cons] at hl
          simp only
          rw [rdF_same f g t (by omega) (by omega)]
      · rw [if_neg h38, if_neg h38, rdF_same f g r (by omega) (by omega)]
theorem rd_bad (r : List UInt8) : rd (60 :: r) = none := by unfold rd; rw [List.length_cons, rdF, if_pos rfl]
theorem rd_byte (c : UInt8) (r : List UInt8) (h1 : c ≠ 60) (h2 : c ≠ 38) : rd (c :: r) = (rd r).map (c :: ·) := by
  unfold rd
  rw [List.length_cons, rdF, if_neg h1, if_neg h2]
theorem rd_amp (r : List UInt8) : rd (38 :: r) = match semi r with
    | none => none
    | some (x, t) => match meantL x with
      | none => none
      | some y => (rd t).map (y ++ ·) := by
  unfold rd
  rw [List.length_cons, rdF, if_neg (by decide), if_pos rfl]
  cases hs : semi r with
  | none => rfl
  | some p =>
    obtain ⟨x, t⟩ := p
    have hl := congrArg List.length (semi_some r x t hs).1
    simp only [List.length_append, List.length_cons] at hl
    simp only
    rw [rdF_same r.length t.length t (by omega) (Nat.le_refl _)]
theorem rd_app : ∀ (n : Nat) (a b z : List UInt8), a.length ≤ n → rd a = some z → rd (a ++ b) = (rd b).map (z ++ ·)
  | n, [], b, z, _, h => by
    cases h
    simp
  | 0, c :: a, b, z, h, _ => by simp at h
  | n + 1, c :: a, b, z, hn, h => by
    simp only [List.length_cons] at hn
    rw [List.cons_append]
    by_cases h60 : c = 60
    · subst h60; rw [rd_bad] at h; cases h
    · by_cases h38 : c = 38
      · subst h38
        rw [rd_amp] at h ⊢
        cases hs : semi a with
        | none => rw [hs] at h; cases h
        | some p =>
          obtain ⟨x, t⟩ := p
          obtain ⟨e, hx⟩ := semi_some a x t hs
          rw [hs] at h
          have e2 : semi (a ++ b) = some (x, t ++ b) := by rw [e, List.append_assoc]; exact semi_of x (t ++ b) hx
          rw [e2]
          simp only at h ⊢
          cases hm : meantL x with
          | none => rw [hm] at h; cases h
          | some y =>
            rw [hm] at h
            simp only at h ⊢
            rw [Option.map_eq_some_iff] at h
            obtain ⟨u, hu, rfl⟩ := h
            have hl := congrArg List.length e
            simp only [List.length_append, List.length_cons] at hl
            rw [rd_app n t b u (by omega) hu]
            cases rd b <;> simp
      · rw [rd_byte c a h60 h38] at h
        rw [rd_byte c (a ++ b) h60 h38]
        rw [Option.map_eq_some_iff] at h
        obtain ⟨u, hu, rfl⟩ := h
        rw [rd_app n a b u (by omega) hu]
        cases rd b <;> simp
theorem rd_append (a b z : List UInt8) (h : rd a = some z) : rd (a ++ b) = (rd b).map (z ++ ·) := rd_app a.length a b z (Nat.le_refl _) h
theorem escb_len (q : Bool) (c : UInt8) : 1 ≤ (escb q c).length ∧ (escb q c).length ≤ 6 := by
  cases q
  · exact u8_every (fun c => 1 ≤ (escb false c).length ∧ (escb false c).length ≤ 6) (by decide +kernel) c
  · exact u8_every (fun c => 1 ≤ (escb true c).length ∧ (escb true c).length ≤ 6) (by decide +kernel) c
theorem escL_len (q : Bool) (l : List UInt8) : l.length ≤ (escL q l).length ∧ (escL q l).length ≤ 6 * l.length := by
  induction l with
  | nil => simp [escL]
  | cons c l ih =>
    have := escb_len q c
    rw [escL_cons, List.length_append, List.length_cons]
    omega
theorem enc_far (n : Nat) (h : 128 ≤ n) (hs : sv n = true) : ∀ x ∈ enc n, 128 ≤ x.toNat := by
  have hb := sv_le hs
  unfold enc
  rw [if_neg (by omega)]
  intro x hx
  split at hx
  · simp only [List.mem_cons, List.not_mem_nil, or_false] at hx
    rcases hx with rfl | rfl <;> rw [bt_nat _ (by omega)] <;> omega
  · split at hx
    · simp only [List.mem_cons, List.not_mem_nil, or_false] at hx
      rcases hx with rfl | rfl | rfl <;> rw [bt_nat _ (by omega)] <;> omega
    · simp only [List.mem_cons, List.not_mem_nil, or_false] at hx
      rcases hx with rfl | rfl | rfl | rfl <;> rw [bt_nat _ (by omega)] <;> omega
theorem pts_app {a b : List UInt8} (ha : (pts a).isSome = true) (hb : (pts b).isSome = true) : (pts (a ++ b)).isSome = true := by
  obtain ⟨na, h1⟩ := Option.isSome_iff_exists.1 ha
  obtain ⟨nb, h2⟩ := Option.isSome_iff_exists.1 hb
  obtain ⟨e1, m1⟩ := (pts_iff a na).1 h1
  obtain ⟨e2, m2⟩ := (pts_iff b nb).1 h2
  rw [e1, e2, ← encs_append, pts_encs (mays_append.2 ⟨m1, m2⟩)]
  rfl
end Es
end Go.Proofs.YtlhjcdkkmloamaaGreatDoor
