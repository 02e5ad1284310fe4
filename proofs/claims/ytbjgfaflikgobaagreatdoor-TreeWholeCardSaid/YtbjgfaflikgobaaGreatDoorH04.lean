/-
  Texts of one seat, put together: TextS, WordM, MemG, TextT, TextU.
-/
import Derived.Test.YtbjgfaflikgobaaGreatDoorH03
import Derived.BigQuiet
import Derived.Deep.RegionWith
import Derived.Laws.BitsAllLaws
import Derived.Test.YtbjgfaflikgobaaGreatDoorH00
import Derived.Deep.AppendLies
namespace Go.Proofs.YtbjgfaflikgobaaGreatDoor
open Go.RowKit
namespace Hx
open Tx
set_option linter.unusedVariables false
theorem ba_eq5 (s : ByteArray) : s = ⟨s.data.toList.toArray⟩ := by cases s; simp
theorem ba_len5 (s : ByteArray) : s.data.toList.length = s.size := by rw [Array.length_toList]; rfl
theorem seq_b5 (a b : ByteArray) : (a.toList == b.toList) = decide (a = b) := by
  rw [Bool.eq_iff_iff]
  simp only [beq_iff_eq, decide_eq_true_eq, ByteArray.toList_eq]
  constructor
  · intro h
    cases a; cases b
    simpa using h
  · intro h; rw [h]


end Hx
end Go.Proofs.YtbjgfaflikgobaaGreatDoor
namespace Go.Proofs.YtbjgfaflikgobaaGreatDoor
namespace Wd
open Go

abbrev W32 := BitVec 32

/-- x turned up by k places. -/
def rot (x : W32) (k : Nat) : W32 := x <<< k ||| x >>> (32 - k)
/-- x turned by n. -/
def trn (x : W32) (n : Int) : W32 := rot x (n % 32).toNat


/-- y's bit, where x's is 1, else z's. -/
def chs (x y z : W32) : W32 := (x &&& y) ||| (~~~x &&& z)
def odd (x y z : W32) : W32 := x ^^^ y ^^^ z
def mst (x y z : W32) : W32 := (x &&& y) ||| (x &&& z) ||| (y &&& z)


/-- The number whose bits below k are f's. -/
def bvn (f : Nat → Bool) : Nat → Nat
  | 0 => 0
  | k + 1 => bvn f k + (f k).toNat * 2 ^ k

/-- A bit as a number. -/
def bt (x : W32) (i : Nat) : Nat := x.toNat / 2 ^ i % 2


/-- The sum of words, whole. -/
def smN (l : List W32) : Nat := (l.map BitVec.toNat).sum
def sm (l : List W32) : Nat := smN l % 4294967296

/-- A word's bytes. -/
def w4 (x : W32) : List UInt8 := [(x.toNat / 16777216).toUInt8, (x.toNat / 65536 % 256).toUInt8, (x.toNat / 256 % 256).toUInt8, (x.toNat % 256).toUInt8]
def bytesL (l : List W32) : List UInt8 := l.flatMap w4

/-- The first r bytes of the j-th four, as a number. -/
def pw (b : List UInt8) (j : Nat) : Nat → Nat
  | 0 => 0
  | r + 1 => 256 * pw b j r + (b.getD (4 * j + r) 0).toNat
/-- The n words behind 'at' bytes. -/
def rowW (b : List UInt8) (n at_ : Nat) : List W32 := (List.range n).map fun j => BitVec.ofNat 32 (pw b j (min 4 (at_ - 4 * j)))
/-- The words whose bytes b is. -/
def wordL (b : List UInt8) : List W32 := (List.range (b.length / 4)).map fun j => BitVec.ofNat 32 (pw b j 4)
/-- The first k words. -/
def wordK (b : List UInt8) (k : Nat) : List W32 := (List.range k).map fun j => BitVec.ofNat 32 (pw b j 4)
end Wd
end Go.Proofs.YtbjgfaflikgobaaGreatDoor
namespace Go.Proofs.YtbjgfaflikgobaaGreatDoor
open Go.RowKit
namespace Hx

/-- The slice at address A reads as the list l, each element one cell, all below block B. -/
def RdG {α : Type} (enc : α → Value) (w : World) (B : Nat) (A : Option Addr) (l : List α) : Prop :=
  0 < l.length → ∃ b off, A = some ⟨b, off, none⟩ ∧ b < B ∧ ∀ j (h : j < l.length), w.cell? ⟨b, off + j, none⟩ = some (enc (l[j]'h))

section
variable {α : Type} {enc : α → Value}
theorem RdG.keep {w w' : World} {B B' : Nat} {A : Option Addr} {l : List α} (h : RdG enc w B A l) (hB : B ≤ B') (hk : ∀ b o, b < B → w'.cell? ⟨b, o, none⟩ = w.cell? ⟨b, o, none⟩) : RdG enc w' B' A l := by
  intro hp
  obtain ⟨b, off, e, hb, hc⟩ := h hp
  exact ⟨b, off, e, by omega, fun j hj => (hk _ _ hb).trans (hc j hj)⟩
theorem RdG.below {w w' : World} {B : Nat} {A : Option Addr} {l : List α} (h : RdG enc w B A l) (hb : Below B w w') : RdG enc w' B A l :=
  h.keep (Nat.le_refl _) fun b o hlt => hb.cell (p := ⟨b, o, none⟩) hlt
theorem RdG.mono {w : World} {B B' : Nat} {A : Option Addr} {l : List α} (h : RdG enc w B A l) (hB : B ≤ B') : RdG enc w B' A l := h.keep hB fun _ _ _ => rfl
/-- Kept through a stretch of the run, up to its end's size. -/
theorem RdG.on {w w' : World} {A : Option Addr} {l : List α} (h : RdG enc w w.heap.size A l) (hb : Below w.heap.size w w') : RdG enc w' w'.heap.size A l := (h.below hb).mono hb.size
theorem RdG.nil (w : World) (B : Nat) (A : Option Addr) : RdG enc w B A [] := fun h => absurd h (by simp)
theorem RdG.of_own {w : World} {base : Nat} {e : TypeId} {A : Option Addr} {n c : Nat} {l : List α} (h : w.ownsRow base e 1 (.slice A n c) n (l.map enc)) : RdG enc w w.heap.size A l ∧ l.length = n := by
  have hl : l.length = n := by have := h.1; rw [List.length_map] at this; omega
  refine ⟨fun hp => ?_, hl⟩
  rcases h.2 with ⟨_, h0⟩ | ⟨g, cap, cur, hv, _, hg, _⟩
  · omega
  injection hv with hA _ _
  subst hA
  have hlt : g < w.heap.size := (Array.getElem?_eq_some_iff.1 hg).1
  refine ⟨g, 0, rfl, hlt, fun j hj => ?_⟩
  have := h.cells (g := g) rfl j (enc (l[j]'hj)) (by simp [hj])
  rw [addr_plain] at this
  exact this
theorem RdG.new (w : World) (t : TypeId) (l : List α) : RdG enc (w.alloc (.cells (l.map enc).toArray t)) (w.heap.size + 1) (some ⟨w.heap.size, 0, none⟩) l := by
  intro _
  refine ⟨_, _, rfl, Nat.lt_succ_self _, fun j hj => ?_⟩
  rw [World.cell?_alloc_new]
  simp [hj]
theorem RdG.newS (w : World) (t : TypeId) (l : List α) : RdG enc (w.alloc (.cells (l.map enc).toArray t)) (w.alloc (.cells (l.map enc).toArray t)).heap.size (some ⟨w.heap.size, 0, none⟩) l :=
  (RdG.new w t l).mono (by simp)
/-- A piece of a slice. -/
theorem RdG.piece {w : World} {B b off : Nat} {l : List α} (h : RdG enc w B (some ⟨b, off, none⟩) l) (k n : Nat) (hk : k + n ≤ l.length) : RdG enc w B (some ⟨b, off + k, none⟩) ((l.drop k).take n) := by
  intro hp
  have hl : ((l.drop k).take n).length = n := by rw [List.length_take, List.length_drop]; omega
  obtain ⟨b', off', e, hb, hc⟩ := h (by omega)
  injection e with e
  injection e with e1 e2
  subst e1 e2
  refine ⟨_, _, rfl, hb, fun j hj => ?_⟩
  have := hc (k + j) (by omega)
  rw [← Nat.add_assoc] at this
  rw [this]
  simp
end

/-- append(own, b...) of a slice of one-cell elements, whatever its address. -/
theorem wpList_append_rdg {α : Type} {enc : α → Value} (h1c : ∀ x, (enc x).oneCell' = true) {P : Program} {w : World} {ops : Array Oper} {rest : List Oper} {o : Oper} {a : Act} {Q : Exit → Act → World → Prop} (hgd : o.guard = none) (s x : Operand) (t : TypeId)
    (ho : o.op = .call { callee := .builtin .append, args := #[s, x], argTypes := #[t, t] })
    (base : Nat) (e : TypeId) (i : TypeInfo) (z : Value) (bytes : Nat) (ht : P.underlying t = some (.slice e)) (hi : P.info? e = some i) (hz : i.zero = some z) (hsize : i.size = 1) (hby : i.bytes = bytes) (hb8 : bytes ≤ 16) (hzs : z.cells.size = 1)
    (v : Value) (n : Nat) (xs : List Value) (hs : a.eval s = v) (hown : w.ownsRow base e 1 v n xs)
    (B : Nat) (A : Option Addr) (m c : Nat) (l : List α) (hx : a.eval x = .slice A m c) (hr : RdG enc w B A l) (hl : l.length = m) (hc0 : A = none → c = 0) (hb : n + m ≤ 1000000000000) (hbase : base ≤ w.heap.size)
    (h : ∀ v' w', w'.ownsRow base e 1 v' (n + m) (xs ++ l.map enc) → w.grownBy w' v.ownBlock → wpList P ops Q rest (a.put o.dst v') w') : wpList P ops Q (o :: rest) a w := by
  rcases A with _ | ad
  · have h0 : l = [] := by
      rcases Nat.eq_zero_or_pos l.length with h0 | h0
      · exact List.eq_nil_of_length_eq_zero h0
      · obtain ⟨_, _, he, _⟩ := hr h0
        cases he
    subst h0
    obtain rfl : 0 = m := hl
    rw [hc0 rfl] at hx
    exact wpList_append_own_none hgd s x t ho base e i 1 ht hi v n xs hs hown hx (h v w (by simpa using hown) (World.grownBy.refl _ _))
  · refine wpList_append_own w hgd s x t ho base e i z 1 bytes ht hi hz hsize hby hzs (by decide) v n xs hs hown ad m c (l.map enc) hx (by rw [List.length_map]; omega) ?_ (fun v hv => by obtain ⟨y, _, rfl⟩ := List.mem_map.1 hv; exact h1c y) (by unfold maxLen; omega) (Nat.le_trans (Nat.mul_le_mul hb hb8) (by decide)) hbase (fun v' w' h1 h2 _ => h v' w' h1 h2)
    intro j u hu
    have hj : j < l.length := by
      have := (List.getElem?_eq_some_iff.1 hu).1
      simpa using this
    obtain ⟨b, off, he, _, hc⟩ := hr (by omega)
    cases he
    rw [addr_plain, hc j hj]
    simpa [hj] using hu

/-- The same at a step of a region that draws its order. -/
theorem step_append_rdg {α : Type} {enc : α → Value} (h1c : ∀ x, (enc x).oneCell' = true) {P : Program} {w : World} {ops : Array Oper} {o : Oper} {a : Act} {K : Act → World → Prop} {Q : Exit → Act → World → Prop} {E : Prop} (hgd : o.guard = none) (s x : Operand) (t : TypeId)
    (ho : o.op = .call { callee := .builtin .append, args := #[s, x], argTypes := #[t, t] })
    (base : Nat) (e : TypeId) (i : TypeInfo) (z : Value) (bytes : Nat) (ht : P.underlying t = some (.slice e)) (hi : P.info? e = some i) (hz : i.zero = some z) (hsize : i.size = 1) (hby : i.bytes = bytes) (hb8 : bytes ≤ 16) (hzs : z.cells.size = 1)
    (v : Value) (n : Nat) (xs : List Value) (hs : a.eval s = v) (hown : w.ownsRow base e 1 v n xs)
    (B : Nat) (A : Option Addr) (m c : Nat) (l : List α) (hx : a.eval x = .slice A m c) (hr : RdG enc w B A l) (hl : l.length = m) (hc0 : A = none → c = 0) (hb : n + m ≤ 1000000000000) (hbase : base ≤ w.heap.size)
    (h : ∀ v' w', w'.ownsRow base e 1 v' (n + m) (xs ++ l.map enc) → w.grownBy w' v.ownBlock → K (a.put o.dst v') w') : if Region.wanted o (yielded ops a.tmps) = true then Oper.wp P o a w K Q else E := by
  have hw : Region.wanted o (yielded ops a.tmps) = true := by simp [Region.wanted, hgd]
  rw [if_pos hw]
  have key : ∃ v' w', (Builtin.append_ #[t, t] o.type #[v, .slice A m c]).run P w = .ok v' w' ∧ w'.ownsRow base e 1 v' (n + m) (xs ++ l.map enc) ∧ w.grownBy w' v.ownBlock := by
    rcases A with _ | ad
    · have h0 : l = [] := by
        rcases Nat.eq_zero_or_pos l.length with h0 | h0
        · exact List.eq_nil_of_length_eq_zero h0
        · obtain ⟨_, _, he, _⟩ := hr h0
          cases he
      subst h0
      obtain rfl : 0 = m := hl
      rw [hc0 rfl]
      exact ⟨v, w, run_append_owned_none w base t o.type e i 1 ht hi v n xs hown, by simpa using hown, World.grownBy.refl _ _⟩
    · obtain ⟨v', w', hr', h2, h3, _⟩ := run_append_own (P := P) w base t o.type e i z 1 bytes ht hi hz hsize hby hzs (by decide) v n xs hown ad m c (l.map enc) (by rw [List.length_map]; omega) (by
          intro j u hu
          have hj : j < l.length := by
            have := (List.getElem?_eq_some_iff.1 hu).1
            simpa using this
          obtain ⟨b, off, he, _, hc⟩ := hr (by omega)
          cases he
          rw [addr_plain, hc j hj]
          simpa [hj] using hu) (fun v hv => by obtain ⟨y, _, rfl⟩ := List.mem_map.1 hv; exact h1c y) (by unfold maxLen; omega) (Nat.le_trans (Nat.mul_le_mul hb hb8) (by decide)) hbase
      exact ⟨v', w', hr', h2, h3⟩
  obtain ⟨v', w', hrun, h2, h3⟩ := key
  unfold Oper.wp execOp
  simp only [ho, resolve, invoke, builtin, Sem.run_bind, Sem.run_pure, Result.andThen_ok, List.map_toArray, List.map_cons, List.map_nil, hs, hx, hrun]
  exact h v' w' h2 h3


/-- Words. -/
def encW (x : Wd.W32) : Value := .int .u32 (x.toNat : Int)
abbrev RdW := @RdG Wd.W32 encW
theorem bounds_i64 {n : Int} (h : (Lit.int .i64 n).wf = true) : -9223372036854775808 ≤ n ∧ n ≤ 9223372036854775807 := by
  simp only [Lit.wf, Bool.and_eq_true, decide_eq_true_eq] at h
  have h1 : IntKind.i64.min = -9223372036854775808 := rfl
  have h2 : IntKind.i64.max = 9223372036854775807 := rfl
  omega
end Hx
end Go.Proofs.YtbjgfaflikgobaaGreatDoor
namespace Go.Proofs.YtbjgfaflikgobaaGreatDoor
open Go.RowKit
namespace Hx
open Tx
set_option linter.unusedVariables false

/-- A number, as a value. -/
def encZ (z : Int) : Value := .int .i64 z
theorem encZ_one (z : Int) : (encZ z).oneCell' = true := rfl
abbrev RdZ := @RdG Int encZ
/-- Code points, as numbers. -/
def zs (l : List Nat) : List Int := l.map fun n : Nat => (n : Int)
theorem zs_length (l : List Nat) : (zs l).length = l.length := by simp [zs]
theorem zs_append (a b : List Nat) : zs (a ++ b) = zs a ++ zs b := by simp [zs]
theorem infoZ : (Tryz.prog.info? 3).map (fun i => (i.zero, i.size, i.bytes)) = some (some (.int .i64 0), 1, 8) := by kernel_rfl
theorem extract_drop (s : ByteArray) (a : Nat) : s.extract a s.size = ⟨(s.data.toList.drop a).toArray⟩ := by
  have := ByteArray.extract_mk s.data.toList a s.size
  rw [← ba_eq5] at this
  rw [this, List.take_of_length_le (by rw [List.length_drop, ba_len5]; omega)]
theorem one_le {l : List UInt8} {n k : Nat} (h : one l = some (n, k)) : 1 ≤ k ∧ k ≤ l.length ∧ n ≤ 1114111 := by
  obtain ⟨_, hs, rfl, r, rfl⟩ := one_sound h
  exact ⟨(enc_length n).1, by rw [List.length_append]; omega, sv_le hs⟩

/-- What All answers. -/
def AllTo (l : List UInt8) (w : World) (e : Ending) (w' : World) : Prop := Below w.heap.size w w' ∧
  ((∃ ns A c, pts l = some ns ∧ e = .returned (.tuple #[.slice A ns.length c, .bool true]) ∧ (A = none → c = 0) ∧ RdZ w' w'.heap.size A (zs ns)) ∨ (pts l = none ∧ e = .returned (.tuple #[.slice none 0 0, .bool false])))
def strSize : Value → Nat
  | .string t => t.size
  | _ => 0

/-- The error of a text. -/
def chkE (s : ByteArray) : Int := if 16384 < s.size then 4 else if (pts s.data.toList).isSome then 0 else 50
end Hx
end Go.Proofs.YtbjgfaflikgobaaGreatDoor
namespace Go.Proofs.YtbjgfaflikgobaaGreatDoor
open Go.RowKit
namespace Hx
open Tx
set_option linter.unusedVariables false


theorem infoU8 : (Tryz.prog.info? 5).map (fun i => (i.zero, i.size, i.bytes)) = some (some (.int .u8 0), 1, 1) := by kernel_rfl
/-- The bytes of numbers that may be. -/
def byL (l : List Int) : List UInt8 := encs (l.map Int.toNat)
theorem byL_snoc (l : List Int) (z : Int) : byL (l ++ [z]) = byL l ++ enc z.toNat := by
  unfold byL
  rw [List.map_append, encs_append]
  simp [encs]
/-- The text of numbers, and the error. -/
def ofR (l : List Int) : ByteArray × Int := if l.all may then (if 16384 < (byL l).length then (⟨#[]⟩, 4) else (⟨(byL l).toArray⟩, 0)) else (⟨#[]⟩, 50)
theorem all_take (l : List Int) (k : Nat) (h : k < l.length) (h1 : (l.take k).all may = true) (h2 : may (l[k]'h) = true) : (l.take (k + 1)).all may = true := by
  rw [List.take_succ_eq_append_getElem h, List.all_append, h1]
  simp [h2]
theorem not_all_may (l : List Int) (k : Nat) (h : k < l.length) (h2 : may (l[k]'h) = false) : l.all may = false := by
  rw [List.all_eq_false]
  exact ⟨l[k]'h, List.getElem_mem h, by simp [h2]⟩
theorem chk_lits (s : ByteArray) : chkE s = 0 ∨ chkE s = 4 ∨ chkE s = 50 := by
  unfold chkE
  split
  · exact .inr (.inl rfl)
  · split
    · exact .inl rfl
    · exact .inr (.inr rfl)
/-- What stands at a place. -/
def nextR (l : List UInt8) : Nat × Nat × Nat := match one l with | none => (0, 0, 50) | some (p, k) => (p, k, 0)
end Hx
end Go.Proofs.YtbjgfaflikgobaaGreatDoor
