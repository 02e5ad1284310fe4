/-
  Texts of one seat, put together: TextN, TextR, TextO, TextS, WordM, MemG.
-/
import Derived.Test.YtlhjcdkkmloamaaGreatDoorSp00
import Derived.ChangeAlike
import Derived.RegionTactic
import Derived.IntWalk
import Derived.Deep.RegionHeld3
import Derived.BigQuiet
import Derived.Deep.RegionWith
import Derived.Laws.BitsAllLaws
import Derived.Deep.AppendLies
set_option linter.unusedSimpArgs false
namespace Go.Proofs.YtlhjcdkkmloamaaGreatDoor
namespace Tx
open Go

theorem get_drop (s : ByteArray) (i k : Nat) : s.get! (i + k) = (s.data.toList.drop i).getD k default := by
  rw [List.getD_eq_getElem?_getD, List.getElem?_drop]
  show s.data[i + k]! = _
  rw [getElem!_def, Array.getElem?_toList]
  cases s.data[i + k]? <;> rfl
theorem size_drop (s : ByteArray) (i k : Nat) : (i + k < s.size) = (k < (s.data.toList.drop i).length) := by
  have e : s.data.toList.length = s.size := by rw [Array.length_toList]; rfl
  rw [List.length_drop, e]
  apply propext
  omega
set_option linter.unusedSimpArgs false in
set_option maxRecDepth 100000 in
theorem decode_eq (s : ByteArray) (i : Nat) (h : i < s.size) : Utf8.decode s i = match decL (s.data.toList.drop i) with | some p => p | none => (65533, 1) := by
  have hp : 0 < (s.data.toList.drop i).length := by rw [← size_drop]; exact h
  unfold Utf8.decode
  simp only [get_drop, size_drop]
  generalize s.data.toList.drop i = l at hp
  have hv : ∀ c : Nat, Utf8.valid (c : Int) = sv c := by
    intro c
    unfold Utf8.valid sv
    rw [Bool.eq_iff_iff]
    simp
    omega
  have hh : ∀ a : UInt8, (a.toNat / 64 == 2) = cont a := by
    intro a
    unfold cont
    rw [Bool.eq_iff_iff]
    simp
  have hre : Utf8.runeError = 65533 := rfl
  cases l with
  | nil => simp at hp
  | cons a r =>
    have ha := a.toNat_lt
    simp only [List.getD_cons_zero, List.length_cons]
    unfold decL
    dsimp only
    by_cases h1 : a.toNat < 128
    · rw [if_pos h1, if_pos h1]
    · rw [if_neg h1, if_neg h1]
      by_cases h2 : a.toNat / 32 = 6
      · rw [if_pos h2]
        cases r with
        | nil => simp [h2, hre]
        | cons b r =>
          simp only [h2, List.getD_cons_succ, List.getD_cons_zero, hh, List.length_cons, beq_self_eq_true, Bool.true_and]
          obtain ⟨x, hx⟩ : ∃ x, a.toNat % 32 * 64 + b.toNat % 64 = x := ⟨_, rfl⟩
          simp only [hx]
          cases hc : cont b
          · simp [hre]
          · by_cases hq : 128 ≤ x
            · simp [hq]
            · simp [hq, hre]
      · rw [if_neg h2]
        by_cases h3 : a.toNat / 16 = 14
        · rw [if_pos h3]
          match r with
          | [] => simp [h2, h3, hre]
          | [b] => simp [h2, h3, hre]
          | b :: c :: r =>
            simp only [h3, List.getD_cons_succ, List.getD_cons_zero, hh, List.length_cons, beq_self_eq_true, Bool.true_and]
            obtain ⟨x, hx⟩ : ∃ x, a.toNat % 16 * 4096 + b.toNat % 64 * 64 + c.toNat % 64 = x := ⟨_, rfl⟩
            simp only [hx]
            cases hb : cont b <;> cases hc : cont c
            · simp [h2, hre]
            · simp [h2, hre]
            · simp [h2, hre]
            · by_cases hq : 2048 ≤ x
              · cases hs : sv x <;> simp [h2, hv, hq, hs, hre]
              · simp [h2, hq, hre]
        · rw [if_neg h3]
          by_cases h4 : a.toNat / 8 = 30
          · rw [if_pos h4]
            match r with
            | [] => simp [h2, h3, h4, hre]
            | [b] => simp [h2, h3, h4, hre]
            | [b, c] => simp [h2, h3, h4, hre]
            | b :: c :: d :: r =>
              simp only [h4, List.getD_cons_succ, List.getD_cons_zero, hh, List.length_cons, beq_self_eq_true, Bool.true_and]
              obtain ⟨x, hx⟩ : ∃ x, a.toNat % 8 * 262144 + b.toNat % 64 * 4096 + c.toNat % 64 * 64 + d.toNat % 64 = x := ⟨_, rfl⟩
              simp only [hx]
              cases hb : cont b <;> cases hc : cont c <;> cases hd : cont d
              · simp [h2, h3, hre]
              · simp [h2, h3, hre]
              · simp [h2, h3, hre]
              · simp [h2, h3, hre]
              · simp [h2, h3, hre]
              · simp [h2, h3, hre]
              · simp [h2, h3, hre]
              · by_cases hq : 65536 ≤ x
                · cases hs : sv x <;> simp [h2, h3, hv, hq, hs, hre]
                · simp [h2, h3, hq, hre]
          · rw [if_neg h4]
            simp [h2, h3, h4, hre]
theorem encode_eq (n : Nat) (h : sv n = true) : Utf8.encode (n : Int) = ⟨(enc n).toArray⟩ := by
  have hv : Utf8.valid (n : Int) = true := by
    simp [sv] at h
    simp [Utf8.valid]
    omega
  unfold Utf8.encode enc
  simp only [hv, if_true, Int.toNat_natCast]
  by_cases h1 : n < 128
  · rw [if_pos h1, if_pos h1]; rfl
  · rw [if_neg h1, if_neg h1]
    by_cases h2 : n < 2048
    · rw [if_pos h2, if_pos h2]; rfl
    · rw [if_neg h2, if_neg h2]
      by_cases h3 : n < 65536
      · rw [if_pos h3, if_pos h3]; rfl
      · rw [if_neg h3, if_neg h3]; rfl
end Tx
end Go.Proofs.YtlhjcdkkmloamaaGreatDoor
namespace Go.Proofs.YtlhjcdkkmloamaaGreatDoor
open Go.RowKit
namespace Hx
open Tx
set_option linter.unusedVariables false

theorem may_low {n : Int} (h : n < 32) : may n = (decide (n = 9) || decide (n = 10) || decide (n = 13)) := by unfold may; rw [if_pos h]
theorem may_high {n : Int} (h : ¬ n < 32) : may n = (decide (n ≤ 1114111) && (decide (n < 55296) || decide (57343 < n)) && decide (n ≠ 65534) && decide (n ≠ 65535)) := by unfold may; rw [if_neg h]
def hd (c : Nat) : Nat × Nat := if c < 128 then (1, c) else if 192 ≤ c ∧ c < 224 then (2, c - 192) else if 224 ≤ c ∧ c < 240 then (3, c - 224) else if 240 ≤ c ∧ c < 248 then (4, c - 240) else (0, 0)
end Hx
end Go.Proofs.YtlhjcdkkmloamaaGreatDoor
namespace Go.Proofs.YtlhjcdkkmloamaaGreatDoor
open Go.RowKit
namespace Tx
open Go Hx
end Tx
namespace Hx
open Go
end Hx
end Go.Proofs.YtlhjcdkkmloamaaGreatDoor
namespace Go.Proofs.YtlhjcdkkmloamaaGreatDoor
open Go.RowKit
namespace Hx
open Tx
set_option linter.unusedVariables false
theorem ba_eq5 (s : ByteArray) : s = ⟨s.data.toList.toArray⟩ := by cases s; simp
theorem ba_len5 (s : ByteArray) : s.data.toList.length = s.size := by rw [Array.length_toList]; rfl
theorem seq_b5 (a b : ByteArray) : (a.toList == b.toList) = decide (a = b) := by
  rw [Bool.eq_iff_iff]
  simp only [beq_iff_eq, decide_eq_true_eq, ByteArray.toList_eq]
  constructor
  · intro h
    cases a; cases b
    simpa using h
  · intro h; rw [h]

end Hx
end Go.Proofs.YtlhjcdkkmloamaaGreatDoor
namespace Go.Proofs.YtlhjcdkkmloamaaGreatDoor
namespace Wd
open Go

abbrev W32 := BitVec 32






def bt (x : W32) (i : Nat) : Nat := x.toNat / 2 ^ i % 2



def w4 (x : W32) : List UInt8 := [(x.toNat / 16777216).toUInt8, (x.toNat / 65536 % 256).toUInt8, (x.toNat / 256 % 256).toUInt8, (x.toNat % 256).toUInt8]

def pw (b : List UInt8) (j : Nat) : Nat → Nat
  | 0 => 0
  | r + 1 => 256 * pw b j r + (b.getD (4 * j + r) 0).toNat
def wordL (b : List UInt8) : List W32 := (List.range (b.length / 4)).map fun j => BitVec.ofNat 32 (pw b j 4)
end Wd
end Go.Proofs.YtlhjcdkkmloamaaGreatDoor
namespace Go.Proofs.YtlhjcdkkmloamaaGreatDoor
open Go.RowKit
namespace Hx

def RdG {α : Type} (enc : α → Value) (w : World) (B : Nat) (A : Option Addr) (l : List α) : Prop :=
  0 < l.length → ∃ b off, A = some ⟨b, off, none⟩ ∧ b < B ∧ ∀ j (h : j < l.length), w.cell? ⟨b, off + j, none⟩ = some (enc (l[j]'h))

section
variable {α : Type} {enc : α → Value}
theorem RdG.keep {w w' : World} {B B' : Nat} {A : Option Addr} {l : List α} (h : RdG enc w B A l) (hB : B ≤ B') (hk : ∀ b o, b < B → w'.cell? ⟨b, o, none⟩ = w.cell? ⟨b, o, none⟩) : RdG enc w' B' A l := by
  intro hp
  obtain ⟨b, off, e, hb, hc⟩ := h hp
  exact ⟨b, off, e, by omega, fun j hj => (hk _ _ hb).trans (hc j hj)⟩
theorem RdG.below {w w' : World} {B : Nat} {A : Option Addr} {l : List α} (h : RdG enc w B A l) (hb : Below B w w') : RdG enc w' B A l :=
  h.keep (Nat.le_refl _) fun b o hlt => hb.cell (p := ⟨b, o, none⟩) hlt
theorem RdG.mono {w : World} {B B' : Nat} {A : Option Addr} {l : List α} (h : RdG enc w B A l) (hB : B ≤ B') : RdG enc w B' A l := h.keep hB fun _ _ _ => rfl
theorem RdG.on {w w' : World} {A : Option Addr} {l : List α} (h : RdG enc w w.heap.size A l) (hb : Below w.heap.size w w') : RdG enc w' w'.heap.size A l := (h.below hb).mono hb.size
theorem RdG.nil (w : World) (B : Nat) (A : Option Addr) : RdG enc w B A [] := fun h => absurd h (by simp)
theorem RdG.of_own {w : World} {base : Nat} {e : TypeId} {A : Option Addr} {n c : Nat} {l : List α} (h : w.ownsRow base e 1 (.slice A n c) n (l.map enc)) : RdG enc w w.heap.size A l ∧ l.length = n := by
  have hl : l.length = n := by have := h.1; rw [List.length_map] at this; omega
  refine ⟨fun hp => ?_, hl⟩
  rcases h.2 with ⟨_, h0⟩ | ⟨g, cap, cur, hv, _, hg, _⟩
  · omega
  injection hv with hA _ _
  subst hA
  have hlt : g < w.heap.size := (Array.getElem?_eq_some_iff.1 hg).1
  refine ⟨g, 0, rfl, hlt, fun j hj => ?_⟩
  have := h.cells (g := g) rfl j (enc (l[j]'hj)) (by simp [hj])
  rw [addr_plain] at this
  exact this
theorem RdG.new (w : World) (t : TypeId) (l : List α) : RdG enc (w.alloc (.cells (l.map enc).toArray t)) (w.heap.size + 1) (some ⟨w.heap.size, 0, none⟩) l := by
  intro _
  refine ⟨_, _, rfl, Nat.lt_succ_self _, fun j hj => ?_⟩
  rw [World.cell?_alloc_new]
  simp [hj]
theorem RdG.newS (w : World) (t : TypeId) (l : List α) : RdG enc (w.alloc (.cells (l.map enc).toArray t)) (w.alloc (.cells (l.map enc).toArray t)).heap.size (some ⟨w.heap.size, 0, none⟩) l :=
  (RdG.new w t l).mono (by simp)
end


theorem step_append_rdg {α : Type} {enc : α → Value} (h1c : ∀ x, (enc x).oneCell' = true) {P : Program} {w : World} {ops : Array Oper} {o : Oper} {a : Act} {K : Act → World → Prop} {Q : Exit → Act → World → Prop} {E : Prop} (hgd : o.guard = none) (s x : Operand) (t : TypeId)
    (ho : o.op = .call { callee := .builtin .append, args := #[s, x], argTypes := #[t, t] })
    (base : Nat) (e : TypeId) (i : TypeInfo) (z : Value) (bytes : Nat) (ht : P.underlying t = some (.slice e)) (hi : P.info? e = some i) (hz : i.zero = some z) (hsize : i.size = 1) (hby : i.bytes = bytes) (hb8 : bytes ≤ 16) (hzs : z.cells.size = 1)
    (v : Value) (n : Nat) (xs : List Value) (hs : a.eval s = v) (hown : w.ownsRow base e 1 v n xs)
    (B : Nat) (A : Option Addr) (m c : Nat) (l : List α) (hx : a.eval x = .slice A m c) (hr : RdG enc w B A l) (hl : l.length = m) (hc0 : A = none → c = 0) (hb : n + m ≤ 1000000000000) (hbase : base ≤ w.heap.size)
    (h : ∀ v' w', w'.ownsRow base e 1 v' (n + m) (xs ++ l.map enc) → w.grownBy w' v.ownBlock → K (a.put o.dst v') w') : if Region.wanted o (yielded ops a.tmps) = true then Oper.wp P o a w K Q else E := by
  have hw : Region.wanted o (yielded ops a.tmps) = true := by simp [Region.wanted, hgd]
  rw [if_pos hw]
  have key : ∃ v' w', (Builtin.append_ #[t, t] o.type #[v, .slice A m c]).run P w = .ok v' w' ∧ w'.ownsRow base e 1 v' (n + m) (xs ++ l.map enc) ∧ w.grownBy w' v.ownBlock := by
    rcases A with _ | ad
    · have h0 : l = [] := by
        rcases Nat.eq_zero_or_pos l.length with h0 | h0
        · exact List.eq_nil_of_length_eq_zero h0
        · obtain ⟨_, _, he, _⟩ := hr h0
          cases he
      subst h0
      obtain rfl : 0 = m := hl
      rw [hc0 rfl]
      exact ⟨v, w, run_append_owned_none w base t o.type e i 1 ht hi v n xs hown, by simpa using hown, World.grownBy.refl _ _⟩
    · obtain ⟨v', w', hr', h2, h3, _⟩ := run_append_own (P := P) w base t o.type e i z 1 bytes ht hi hz hsize hby hzs (by decide) v n xs hown ad m c (l.map enc) (by rw [List.length_map]; omega) (by
          intro j u hu
          have hj : j < l.length := by
            have := (List.getElem?_eq_some_iff.1 hu).1
            simpa using this
          obtain ⟨b, off, he, _, hc⟩ := hr (by omega)
          cases he
          rw [addr_plain, hc j hj]
          simpa [hj] using hu) (fun v hv => by obtain ⟨y, _, rfl⟩ := List.mem_map.1 hv; exact h1c y) (by unfold maxLen; omega) (Nat.le_trans (Nat.mul_le_mul hb hb8) (by decide)) hbase
      exact ⟨v', w', hr', h2, h3⟩
  obtain ⟨v', w', hrun, h2, h3⟩ := key
  unfold Oper.wp execOp
  simp only [ho, resolve, invoke, builtin, Sem.run_bind, Sem.run_pure, Result.andThen_ok, List.map_toArray, List.map_cons, List.map_nil, hs, hx, hrun]
  exact h v' w' h2 h3


end Hx
end Go.Proofs.YtlhjcdkkmloamaaGreatDoor
