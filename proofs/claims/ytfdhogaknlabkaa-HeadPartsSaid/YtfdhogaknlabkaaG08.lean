/-
  Texts of one seat, put together: TextO, TextS, TextT, TextU.
-/
import Derived.Test.YtfdhogaknlabkaaG07
import Derived.BigQuiet
import Derived.Deep.RegionWith
import Derived.Test.YtfdhogaknlabkaaG00
set_option linter.unusedSimpArgs false
set_option linter.unusedVariables false
namespace Go.Proofs.Ytfdhogaknlabkaa
open Go.RowKit
namespace Tx
open Go Hx
/-- Bits put behind bits. -/
def fd (b : Nat) (l : List UInt8) : Nat := l.foldl (fun n c => 64 * n + c.toNat % 64) b
theorem fd_snoc (b : Nat) (l : List UInt8) (c : UInt8) : fd b (l ++ [c]) = 64 * fd b l + c.toNat % 64 := by simp [fd]
theorem hd_le (c : Nat) : (hd c).1 ≤ 4 ∧ (hd c).2 ≤ 127 := by
  unfold hd
  split
  · simp; omega
  · split
    · simp; omega
    · split
      · simp; omega
      · split <;> simp; omega
/-- What is read tells so much. -/
theorem one_ref {l : List UInt8} {n k : Nat} (h : one l = some (n, k)) : ∃ a r b, l = a :: r ∧ hd a.toNat = (k, b) ∧ k ≠ 0 ∧ k ≤ l.length ∧ fd b (r.take (k - 1)) = n ∧ may n = true ∧ enc n = l.take k := by
  obtain ⟨hm, hs, rfl, r, rfl⟩ := one_sound h
  have hb := sv_le hs
  rw [List.take_left]
  unfold enc
  by_cases h1 : n < 128
  · simp only [if_pos h1]
    refine ⟨bt n, r, n, rfl, ?_, by simp, by simp, rfl, hm, trivial⟩
    rw [bt_nat _ (by omega), hd, if_pos h1]
    rfl
  · simp only [if_neg h1]
    by_cases h2 : n < 2048
    · simp only [if_pos h2]
      refine ⟨_, _, n / 64, rfl, ?_, by simp, by simp, ?_, hm, trivial⟩
      · rw [bt_nat _ (by omega), hd, if_neg (by omega), if_pos (by omega)]
        exact Prod.ext rfl (by show _ - _ = _; omega)
      · simp [fd, bt_nat (128 + n % 64) (by omega)]
        omega
    · simp only [if_neg h2]
      by_cases h3 : n < 65536
      · simp only [if_pos h3]
        refine ⟨_, _, n / 4096, rfl, ?_, by simp, by simp, ?_, hm, trivial⟩
        · rw [bt_nat _ (by omega), hd, if_neg (by omega), if_neg (by omega), if_pos (by omega)]
          exact Prod.ext rfl (by show _ - _ = _; omega)
        · simp [fd, bt_nat (128 + n % 64) (by omega), bt_nat (128 + n / 64 % 64) (by omega)]
          omega
      · simp only [if_neg h3]
        refine ⟨_, _, n / 262144, rfl, ?_, by simp, by simp, ?_, hm, trivial⟩
        · rw [bt_nat _ (by omega), hd, if_neg (by omega), if_neg (by omega), if_neg (by omega), if_pos (by omega)]
          exact Prod.ext rfl (by show _ - _ = _; omega)
        · simp [fd, bt_nat (128 + n % 64) (by omega), bt_nat (128 + n / 64 % 64) (by omega), bt_nat (128 + n / 4096 % 64) (by omega)]
          omega
theorem one_ref2 {l : List UInt8} {n k : Nat} (hm : may n = true) (hk : k ≤ l.length) (he : enc n = l.take k) : one l = some (n, k) := by
  have e : l = enc n ++ l.drop k := by rw [he, List.take_append_drop]
  have hl : k = (enc n).length := by rw [he, List.length_take]; omega
  rw [e, one_enc n hm, ← hl]
end Tx
namespace Hx
open Go
/-- One operation of a drawn region, taken first; the operation written out. -/
theorem takeD {P : Program} {ops : Array Oper} {Q : Exit → Act → World → Prop} {md : Region.Mode} {S : World → Prop} {i : Nat} {oi : Oper} {rest : List Oper} {v : Value} {fuel : Nat} {listed : Array Bool} {a : Act} {w : World} (hd : ops.toList.drop i = oi :: rest)
    (hs : Region.noSelect ops = true) (hf : Region.free md ops listed i = true) (hr : (Region.ready md ops listed).contains i = true)
    (hQ : ∀ c a w, Q (.panic c) (a.put oi.dst v) w → Q (.panic c) a w) (hy : YieldsIf P ops S oi v a) (hS : S w)
    (h : wpAnyH P md ops Q S fuel (listed.setIfInBounds i true) (a.put oi.dst v) w) : wpAnyH P md ops Q S (fuel + 1) listed a w := by
  refine wpAnyH_take (i := i) ?_ hs hf hr hQ hy hS h
  have e : (ops.toList.drop i)[0]? = some oi := by rw [hd]; rfl
  rw [List.getElem?_drop, Nat.add_zero] at e
  simpa using e
end Hx
end Go.Proofs.Ytfdhogaknlabkaa
namespace Go.Proofs.Ytfdhogaknlabkaa
open Go.RowKit
namespace Hx
open Tx
set_option linter.unusedVariables false
theorem ba_eq5 (s : ByteArray) : s = ⟨s.data.toList.toArray⟩ := by cases s; simp
theorem ba_len5 (s : ByteArray) : s.data.toList.length = s.size := by rw [Array.length_toList]; rfl
theorem seq_b5 (a b : ByteArray) : (a.toList == b.toList) = decide (a = b) := by
  rw [Bool.eq_iff_iff]
  simp only [beq_iff_eq, decide_eq_true_eq, ByteArray.toList_eq]
  constructor
  · intro h
    cases a; cases b
    simpa using h
  · intro h; rw [h]
theorem extract_list (s : ByteArray) (k : Nat) : s.extract 0 k = ⟨(s.data.toList.take k).toArray⟩ := by
  have := ByteArray.extract_mk s.data.toList 0 k
  rw [← ba_eq5] at this
  rw [this]
  simp
theorem pow_le (j : Nat) (h : j ≤ 3) : 64 ^ j ≤ 262144 := by
  have : j = 0 ∨ j = 1 ∨ j = 2 ∨ j = 3 := by omega
  rcases this with rfl | rfl | rfl | rfl <;> decide

theorem below_dn5 {B : Nat} {a w : World} (h : Below B a w) (q : Nat) : Below B a (w.drewN q) := ⟨h.os, h.tape, h.output, h.size, h.block⟩
theorem below_of_drew5 {W w : World} (h : Below W.drew.heap.size W.drew w) : Below W.heap.size W w := ⟨h.os, h.tape, h.output, h.size, h.block⟩
end Hx
end Go.Proofs.Ytfdhogaknlabkaa
namespace Go.Proofs.Ytfdhogaknlabkaa
open Go.RowKit
namespace Hx
open Tx
set_option linter.unusedVariables false

/-- A number, as a value. -/
def encZ (z : Int) : Value := .int .i64 z
theorem encZ_one (z : Int) : (encZ z).oneCell' = true := rfl
abbrev RdZ := @RdG Int encZ
/-- Code points, as numbers. -/
def zs (l : List Nat) : List Int := l.map fun n : Nat => (n : Int)
theorem zs_length (l : List Nat) : (zs l).length = l.length := by simp [zs]
theorem zs_append (a b : List Nat) : zs (a ++ b) = zs a ++ zs b := by simp [zs]
theorem infoZ : (Try.prog.info? 3).map (fun i => (i.zero, i.size, i.bytes)) = some (some (.int .i64 0), 1, 8) := by kernel_rfl
theorem extract_drop (s : ByteArray) (a : Nat) : s.extract a s.size = ⟨(s.data.toList.drop a).toArray⟩ := by
  have := ByteArray.extract_mk s.data.toList a s.size
  rw [← ba_eq5] at this
  rw [this, List.take_of_length_le (by rw [List.length_drop, ba_len5]; omega)]
theorem list_mk (l : List UInt8) : (⟨l.toArray⟩ : ByteArray).data.toList = l := rfl
theorem size_mk5 (l : List UInt8) : (⟨l.toArray⟩ : ByteArray).size = l.length := rfl
theorem one_le {l : List UInt8} {n k : Nat} (h : one l = some (n, k)) : 1 ≤ k ∧ k ≤ l.length ∧ n ≤ 1114111 := by
  obtain ⟨_, hs, rfl, r, rfl⟩ := one_sound h
  exact ⟨(enc_length n).1, by rw [List.length_append]; omega, sv_le hs⟩

/-- What All answers. -/
def AllTo (l : List UInt8) (w : World) (e : Ending) (w' : World) : Prop := Below w.heap.size w w' ∧
  ((∃ ns A c, pts l = some ns ∧ e = .returned (.tuple #[.slice A ns.length c, .bool true]) ∧ (A = none → c = 0) ∧ RdZ w' w'.heap.size A (zs ns)) ∨ (pts l = none ∧ e = .returned (.tuple #[.slice none 0 0, .bool false])))
def strSize : Value → Nat
  | .string t => t.size
  | _ => 0
/-- The error of a text. -/
def chkE (s : ByteArray) : Int := if 16384 < s.size then 4 else if (pts s.data.toList).isSome then 0 else 50
end Hx
end Go.Proofs.Ytfdhogaknlabkaa
namespace Go.Proofs.Ytfdhogaknlabkaa
open Go.RowKit
namespace Hx
open Tx
set_option linter.unusedVariables false

/-- A slice of numbers that came in reads as a list. -/
theorem rdZ_of_row {w : World} {x : Addr} {len cap : Nat} {vs : List Int} (hl : len ≤ cap) (hz : vs.length = cap)
    (hcell : ∀ i, i < vs.length → w.cell? (x.add i) = some (.int .i64 (vs.getD i 0))) (_hwz : ∀ n ∈ vs, (Lit.int .i64 n).wf = true) :
    ∃ l : List Int, RdZ w w.heap.size (some x) l ∧ l.length = len := by
  refine ⟨vs.take len, fun hp => ?_, by simp; omega⟩
  have hp' : 0 < len := by
    simp at hp
    omega
  obtain ⟨b, off, spot⟩ := x
  have hspot : spot = none := by simpa [Addr.add] using World.cell?_spot (hcell 0 (by omega))
  subst hspot
  refine ⟨b, off, rfl, ?_, fun j hj => ?_⟩
  · have := hcell 0 (by omega)
    rw [addr_plain] at this
    exact World.block_lt_of_cell? (a := ⟨b, off + 0, none⟩) w this
  · have hj' : j < len := by
      simp at hj
      omega
    have hjz : j < vs.length := by omega
    have := hcell j hjz
    rw [addr_plain] at this
    rw [this]
    simp [List.getD, hjz, encZ]

theorem chk_ok {s : ByteArray} (h : chkE s = 0) : ∃ ns, pts s.data.toList = some ns ∧ s.size ≤ 16384 := by
  unfold chkE at h
  by_cases h1 : 16384 < s.size
  · rw [if_pos h1] at h; cases h
  · rw [if_neg h1] at h
    cases hp : pts s.data.toList with
    | none => rw [hp] at h; cases h
    | some ns => exact ⟨ns, rfl, by omega⟩
theorem infoU8 : (Try.prog.info? 5).map (fun i => (i.zero, i.size, i.bytes)) = some (some (.int .u8 0), 1, 1) := by kernel_rfl
/-- The bytes of numbers that may be. -/
def byL (l : List Int) : List UInt8 := encs (l.map Int.toNat)
theorem byL_length (l : List Int) : (byL l).length ≤ 4 * l.length := by
  unfold byL
  induction l with
  | nil => simp [encs]
  | cons z l ih =>
    rw [List.map_cons, encs_cons, List.length_append]
    have := (enc_length z.toNat).2
    simp only [List.length_cons]
    omega
theorem byL_snoc (l : List Int) (z : Int) : byL (l ++ [z]) = byL l ++ enc z.toNat := by
  unfold byL
  rw [List.map_append, encs_append]
  simp [encs]
/-- The text of numbers, and the error. -/
def ofR (l : List Int) : ByteArray × Int := if l.all may then (if 16384 < (byL l).length then (⟨#[]⟩, 4) else (⟨(byL l).toArray⟩, 0)) else (⟨#[]⟩, 50)
theorem all_take (l : List Int) (k : Nat) (h : k < l.length) (h1 : (l.take k).all may = true) (h2 : may (l[k]'h) = true) : (l.take (k + 1)).all may = true := by
  rw [List.take_succ_eq_append_getElem h, List.all_append, h1]
  simp [h2]
theorem not_all_may (l : List Int) (k : Nat) (h : k < l.length) (h2 : may (l[k]'h) = false) : l.all may = false := by
  rw [List.all_eq_false]
  exact ⟨l[k]'h, List.getElem_mem h, by simp [h2]⟩
theorem chk_lits (s : ByteArray) : chkE s = 0 ∨ chkE s = 4 ∨ chkE s = 50 := by
  unfold chkE
  split
  · exact .inr (.inl rfl)
  · split
    · exact .inl rfl
    · exact .inr (.inr rfl)
theorem of_lits (l : List Int) : (ofR l).2 = 0 ∨ (ofR l).2 = 4 ∨ (ofR l).2 = 50 := by
  unfold ofR
  split
  · split
    · exact .inr (.inl rfl)
    · exact .inl rfl
  · exact .inr (.inr rfl)
/-- What stands at a place. -/
def nextR (l : List UInt8) : Nat × Nat × Nat := match one l with | none => (0, 0, 50) | some (p, k) => (p, k, 0)
theorem nextR_match (l : List UInt8) (p k q : Nat) (h : nextR l = (p, k, q)) : match one l with | none => p = 0 ∧ k = 0 ∧ q = 50 | some (p', k') => p = p' ∧ k = k' ∧ q = 0 := by
  unfold nextR at h
  cases ho : one l with
  | none => rw [ho] at h; cases h; exact ⟨rfl, rfl, rfl⟩
  | some x => obtain ⟨a, b⟩ := x; rw [ho] at h; cases h; exact ⟨rfl, rfl, rfl⟩
theorem nextR_lits {l : List UInt8} {p k q : Nat} (h : nextR l = (p, k, q)) : q = 0 ∨ q = 50 := by
  unfold nextR at h
  split at h
  · cases h; exact .inr rfl
  · cases h; exact .inl rfl
end Hx
end Go.Proofs.Ytfdhogaknlabkaa
