/-
  Plain facts on memory, for slices of one-cell elements of whatever kind: a slice that reads as a list; append of one to a row of the call's own; words of 32 bits.
-/
import Derived.Test.YtphakhklhicolaaDoorMem
import Derived.Test.YtphakhklhicolaaDoorWordM
import Derived.Deep.AppendLies
namespace Go.Proofs.YtphakhklhicolaaDoor
open Go.RowKit
namespace Hx

/-- The slice at address A reads as the list l, each element one cell, all below block B. -/
def RdG {α : Type} (enc : α → Value) (w : World) (B : Nat) (A : Option Addr) (l : List α) : Prop :=
  0 < l.length → ∃ b off, A = some ⟨b, off, none⟩ ∧ b < B ∧ ∀ j (h : j < l.length), w.cell? ⟨b, off + j, none⟩ = some (enc (l[j]'h))

section
variable {α : Type} {enc : α → Value}
theorem RdG.keep {w w' : World} {B B' : Nat} {A : Option Addr} {l : List α} (h : RdG enc w B A l) (hB : B ≤ B') (hk : ∀ b o, b < B → w'.cell? ⟨b, o, none⟩ = w.cell? ⟨b, o, none⟩) : RdG enc w' B' A l := by
  intro hp
  obtain ⟨b, off, e, hb, hc⟩ := h hp
  exact ⟨b, off, e, by omega, fun j hj => (hk _ _ hb).trans (hc j hj)⟩
theorem RdG.below {w w' : World} {B : Nat} {A : Option Addr} {l : List α} (h : RdG enc w B A l) (hb : Below B w w') : RdG enc w' B A l :=
  h.keep (Nat.le_refl _) fun b o hlt => hb.cell (p := ⟨b, o, none⟩) hlt
theorem RdG.mono {w : World} {B B' : Nat} {A : Option Addr} {l : List α} (h : RdG enc w B A l) (hB : B ≤ B') : RdG enc w B' A l := h.keep hB fun _ _ _ => rfl
/-- Kept through a stretch of the run, up to its end's size. -/
theorem RdG.on {w w' : World} {A : Option Addr} {l : List α} (h : RdG enc w w.heap.size A l) (hb : Below w.heap.size w w') : RdG enc w' w'.heap.size A l := (h.below hb).mono hb.size
theorem RdG.nil (w : World) (B : Nat) (A : Option Addr) : RdG enc w B A [] := fun h => absurd h (by simp)
theorem RdG.of_own {w : World} {base : Nat} {e : TypeId} {A : Option Addr} {n c : Nat} {l : List α} (h : w.ownsRow base e 1 (.slice A n c) n (l.map enc)) : RdG enc w w.heap.size A l ∧ l.length = n := by
  have hl : l.length = n := by have := h.1; rw [List.length_map] at this; omega
  refine ⟨fun hp => ?_, hl⟩
  rcases h.2 with ⟨_, h0⟩ | ⟨g, cap, cur, hv, _, hg, _⟩
  · omega
  injection hv with hA _ _
  subst hA
  have hlt : g < w.heap.size := (Array.getElem?_eq_some_iff.1 hg).1
  refine ⟨g, 0, rfl, hlt, fun j hj => ?_⟩
  have := h.cells (g := g) rfl j (enc (l[j]'hj)) (by simp [hj])
  rw [addr_plain] at this
  exact this
theorem RdG.new (w : World) (t : TypeId) (l : List α) : RdG enc (w.alloc (.cells (l.map enc).toArray t)) (w.heap.size + 1) (some ⟨w.heap.size, 0, none⟩) l := by
  intro _
  refine ⟨_, _, rfl, Nat.lt_succ_self _, fun j hj => ?_⟩
  rw [World.cell?_alloc_new]
  simp [hj]
theorem RdG.newS (w : World) (t : TypeId) (l : List α) : RdG enc (w.alloc (.cells (l.map enc).toArray t)) (w.alloc (.cells (l.map enc).toArray t)).heap.size (some ⟨w.heap.size, 0, none⟩) l :=
  (RdG.new w t l).mono (by simp)
/-- A piece of a slice. -/
theorem RdG.piece {w : World} {B b off : Nat} {l : List α} (h : RdG enc w B (some ⟨b, off, none⟩) l) (k n : Nat) (hk : k + n ≤ l.length) : RdG enc w B (some ⟨b, off + k, none⟩) ((l.drop k).take n) := by
  intro hp
  have hl : ((l.drop k).take n).length = n := by rw [List.length_take, List.length_drop]; omega
  obtain ⟨b', off', e, hb, hc⟩ := h (by omega)
  injection e with e
  injection e with e1 e2
  subst e1 e2
  refine ⟨_, _, rfl, hb, fun j hj => ?_⟩
  have := hc (k + j) (by omega)
  rw [← Nat.add_assoc] at this
  rw [this]
  simp
end

/-- append(own, b...) of a slice of one-cell elements, whatever its address. -/
theorem wpList_append_rdg {α : Type} {enc : α → Value} (h1c : ∀ x, (enc x).oneCell' = true) {P : Program} {w : World} {ops : Array Oper} {rest : List Oper} {o : Oper} {a : Act} {Q : Exit → Act → World → Prop} (hgd : o.guard = none) (s x : Operand) (t : TypeId)
    (ho : o.op = .call { callee := .builtin .append, args := #[s, x], argTypes := #[t, t] })
    (base : Nat) (e : TypeId) (i : TypeInfo) (z : Value) (bytes : Nat) (ht : P.underlying t = some (.slice e)) (hi : P.info? e = some i) (hz : i.zero = some z) (hsize : i.size = 1) (hby : i.bytes = bytes) (hb8 : bytes ≤ 16) (hzs : z.cells.size = 1)
    (v : Value) (n : Nat) (xs : List Value) (hs : a.eval s = v) (hown : w.ownsRow base e 1 v n xs)
    (B : Nat) (A : Option Addr) (m c : Nat) (l : List α) (hx : a.eval x = .slice A m c) (hr : RdG enc w B A l) (hl : l.length = m) (hc0 : A = none → c = 0) (hb : n + m ≤ 1000000000000) (hbase : base ≤ w.heap.size)
    (h : ∀ v' w', w'.ownsRow base e 1 v' (n + m) (xs ++ l.map enc) → w.grownBy w' v.ownBlock → wpList P ops Q rest (a.put o.dst v') w') : wpList P ops Q (o :: rest) a w := by
  rcases A with _ | ad
  · have h0 : l = [] := by
      rcases Nat.eq_zero_or_pos l.length with h0 | h0
      · exact List.eq_nil_of_length_eq_zero h0
      · obtain ⟨_, _, he, _⟩ := hr h0
        cases he
    subst h0
    obtain rfl : 0 = m := hl
    rw [hc0 rfl] at hx
    exact wpList_append_own_none hgd s x t ho base e i 1 ht hi v n xs hs hown hx (h v w (by simpa using hown) (World.grownBy.refl _ _))
  · refine wpList_append_own w hgd s x t ho base e i z 1 bytes ht hi hz hsize hby hzs (by decide) v n xs hs hown ad m c (l.map enc) hx (by rw [List.length_map]; omega) ?_ (fun v hv => by obtain ⟨y, _, rfl⟩ := List.mem_map.1 hv; exact h1c y) (by unfold maxLen; omega) (Nat.le_trans (Nat.mul_le_mul hb hb8) (by decide)) hbase (fun v' w' h1 h2 _ => h v' w' h1 h2)
    intro j u hu
    have hj : j < l.length := by
      have := (List.getElem?_eq_some_iff.1 hu).1
      simpa using this
    obtain ⟨b, off, he, _, hc⟩ := hr (by omega)
    cases he
    rw [addr_plain, hc j hj]
    simpa [hj] using hu

/-- The same at a step of a region that draws its order. -/
theorem step_append_rdg {α : Type} {enc : α → Value} (h1c : ∀ x, (enc x).oneCell' = true) {P : Program} {w : World} {ops : Array Oper} {o : Oper} {a : Act} {K : Act → World → Prop} {Q : Exit → Act → World → Prop} {E : Prop} (hgd : o.guard = none) (s x : Operand) (t : TypeId)
    (ho : o.op = .call { callee := .builtin .append, args := #[s, x], argTypes := #[t, t] })
    (base : Nat) (e : TypeId) (i : TypeInfo) (z : Value) (bytes : Nat) (ht : P.underlying t = some (.slice e)) (hi : P.info? e = some i) (hz : i.zero = some z) (hsize : i.size = 1) (hby : i.bytes = bytes) (hb8 : bytes ≤ 16) (hzs : z.cells.size = 1)
    (v : Value) (n : Nat) (xs : List Value) (hs : a.eval s = v) (hown : w.ownsRow base e 1 v n xs)
    (B : Nat) (A : Option Addr) (m c : Nat) (l : List α) (hx : a.eval x = .slice A m c) (hr : RdG enc w B A l) (hl : l.length = m) (hc0 : A = none → c = 0) (hb : n + m ≤ 1000000000000) (hbase : base ≤ w.heap.size)
    (h : ∀ v' w', w'.ownsRow base e 1 v' (n + m) (xs ++ l.map enc) → w.grownBy w' v.ownBlock → K (a.put o.dst v') w') : if Region.wanted o (yielded ops a.tmps) = true then Oper.wp P o a w K Q else E := by
  have hw : Region.wanted o (yielded ops a.tmps) = true := by simp [Region.wanted, hgd]
  rw [if_pos hw]
  have key : ∃ v' w', (Builtin.append_ #[t, t] o.type #[v, .slice A m c]).run P w = .ok v' w' ∧ w'.ownsRow base e 1 v' (n + m) (xs ++ l.map enc) ∧ w.grownBy w' v.ownBlock := by
    rcases A with _ | ad
    · have h0 : l = [] := by
        rcases Nat.eq_zero_or_pos l.length with h0 | h0
        · exact List.eq_nil_of_length_eq_zero h0
        · obtain ⟨_, _, he, _⟩ := hr h0
          cases he
      subst h0
      obtain rfl : 0 = m := hl
      rw [hc0 rfl]
      exact ⟨v, w, run_append_owned_none w base t o.type e i 1 ht hi v n xs hown, by simpa using hown, World.grownBy.refl _ _⟩
    · obtain ⟨v', w', hr', h2, h3, _⟩ := run_append_own (P := P) w base t o.type e i z 1 bytes ht hi hz hsize hby hzs (by decide) v n xs hown ad m c (l.map enc) (by rw [List.length_map]; omega) (by
          intro j u hu
          have hj : j < l.length := by
            have := (List.getElem?_eq_some_iff.1 hu).1
            simpa using this
          obtain ⟨b, off, he, _, hc⟩ := hr (by omega)
          cases he
          rw [addr_plain, hc j hj]
          simpa [hj] using hu) (fun v hv => by obtain ⟨y, _, rfl⟩ := List.mem_map.1 hv; exact h1c y) (by unfold maxLen; omega) (Nat.le_trans (Nat.mul_le_mul hb hb8) (by decide)) hbase
      exact ⟨v', w', hr', h2, h3⟩
  obtain ⟨v', w', hrun, h2, h3⟩ := key
  unfold Oper.wp execOp
  simp only [ho, resolve, invoke, builtin, Sem.run_bind, Sem.run_pure, Result.andThen_ok, List.map_toArray, List.map_cons, List.map_nil, hs, hx, hrun]
  exact h v' w' h2 h3

/-- s[k:] and s[:k] of a slice, with an address that reads as the list's end, or beginning. -/
theorem slice_from {α : Type} {enc : α → Value} {P : Program} (t e : TypeId) (ht : P.underlying t = some (.slice e)) (i : TypeInfo) (hi : P.info? e = some i) (hsz : i.size = 1) {w : World} {B : Nat} {A : Option Addr} {l : List α} {n c : Nat} (hr : RdG enc w B A l) (hn : l.length = n) (hc0 : A = none → c = 0) (k : Nat) (hk : k ≤ n) (hnc : n ≤ c) :
    ∃ A', RdG enc w B A' (l.drop k) ∧ (A' = none → c - k = 0) ∧ ∀ W, (Instr.slice t (.slice A n c) (some (.int .i64 (k : Int))) none none).run P W = .ok (.slice A' (n - k) (c - k)) W := by
  have htt : P.underlying t = some (.slice (P.elem t)) := by rw [show P.elem t = e by simp [Program.elem, ht]]; exact ht
  have he : P.elem t = e := by simp [Program.elem, ht]
  have run : ∀ W, (Instr.slice t (.slice A n c) (some (.int .i64 (k : Int))) none none).run P W = .ok (.slice (if c = k then A else A.map (·.add (k * 1))) (n - k) (c - k)) W := by
    intro W
    have hs : (sizeOf e).run P W = .ok 1 W := by simp [sizeOf, typeInfo, hi, hsz]
    rw [run_slice_l W t A n c htt .i64 (k : Int) (by omega) (by omega), he, hs]
    rfl
  by_cases hck : c = k
  · refine ⟨A, ?_, fun _ => by omega, fun W => by rw [run W, if_pos hck]⟩
    have : l.drop k = [] := List.drop_eq_nil_of_le (by omega)
    rw [this]
    exact RdG.nil _ _ _
  · refine ⟨A.map (·.add (k * 1)), ?_, ?_, fun W => by rw [run W, if_neg hck]⟩
    · intro hp
      have hlt : k < l.length := by rw [List.length_drop] at hp; omega
      obtain ⟨b, off, rfl, hb, hc⟩ := hr (by omega)
      refine ⟨b, off + k, by simp [addr_plain], hb, fun j hj => ?_⟩
      have hj' : k + j < l.length := by rw [List.length_drop] at hj; omega
      have := hc (k + j) hj'
      rw [← Nat.add_assoc] at this
      rw [this]
      simp
    · intro h
      have : A = none := by simpa using h
      have := hc0 this
      omega
theorem slice_to {α : Type} {enc : α → Value} {P : Program} (t e : TypeId) (ht : P.underlying t = some (.slice e)) (i : TypeInfo) (hi : P.info? e = some i) (hsz : i.size = 1) {w : World} {B : Nat} {A : Option Addr} {l : List α} {n c : Nat} (hr : RdG enc w B A l) (hn : l.length = n) (hc0 : A = none → c = 0) (k : Nat) (hk : k ≤ n) (hnc : n ≤ c) :
    ∃ A', RdG enc w B A' (l.take k) ∧ (A' = none → c = 0) ∧ ∀ W, (Instr.slice t (.slice A n c) none (some (.int .i64 (k : Int))) none).run P W = .ok (.slice A' k c) W := by
  have htt : P.underlying t = some (.slice (P.elem t)) := by rw [show P.elem t = e by simp [Program.elem, ht]]; exact ht
  have he : P.elem t = e := by simp [Program.elem, ht]
  have run : ∀ W, (Instr.slice t (.slice A n c) none (some (.int .i64 (k : Int))) none).run P W = .ok (.slice (if c = 0 then A else A.map (·.add (0 * 1))) (k - 0) (c - 0)) W := by
    intro W
    have hs : (sizeOf e).run P W = .ok 1 W := by simp [sizeOf, typeInfo, hi, hsz]
    rw [run_slice_h W t A n c htt .i64 (k : Int) (by omega) (by omega), he, hs]
    rfl
  by_cases hck : c = 0
  · refine ⟨A, ?_, fun _ => hck, fun W => by rw [run W, if_pos hck]; rfl⟩
    have : l.take k = [] := by have : k = 0 := by omega
                               simp [this]
    rw [this]
    exact RdG.nil _ _ _
  · refine ⟨A.map (·.add (0 * 1)), ?_, ?_, fun W => by rw [run W, if_neg hck]; rfl⟩
    · intro hp
      have hlt : 0 < l.length := by rw [List.length_take] at hp; omega
      obtain ⟨b, off, rfl, hb, hc⟩ := hr hlt
      refine ⟨b, off, by simp [addr_plain], hb, fun j hj => ?_⟩
      have hj' : j < l.length := by rw [List.length_take] at hj; omega
      rw [hc j hj']
      simp
    · intro h
      have : A = none := by simpa using h
      exact hc0 this

/-- Words. -/
def encW (x : Wd.W32) : Value := .int .u32 (x.toNat : Int)
theorem encW_one (x : Wd.W32) : (encW x).oneCell' = true := rfl
abbrev RdW := @RdG Wd.W32 encW
theorem bounds_u32 {n : Int} (h : (Lit.int .u32 n).wf = true) : 0 ≤ n ∧ n ≤ 4294967295 := by
  simp only [Lit.wf, Bool.and_eq_true, decide_eq_true_eq] at h
  have h1 : IntKind.u32.min = 0 := rfl
  have h2 : IntKind.u32.max = 4294967295 := rfl
  omega
theorem bounds_i64 {n : Int} (h : (Lit.int .i64 n).wf = true) : -9223372036854775808 ≤ n ∧ n ≤ 9223372036854775807 := by
  simp only [Lit.wf, Bool.and_eq_true, decide_eq_true_eq] at h
  have h1 : IntKind.i64.min = -9223372036854775808 := rfl
  have h2 : IntKind.i64.max = 9223372036854775807 := rfl
  omega
theorem word_of {n : Int} (h : (Lit.int .u32 n).wf = true) : ∃ x : Wd.W32, n = (x.toNat : Int) := by
  have := bounds_u32 h
  refine ⟨BitVec.ofNat 32 n.toNat, ?_⟩
  rw [BitVec.toNat_ofNat]
  omega
theorem word_lt (x : Wd.W32) : ((x.toNat : Nat) : Int) < 4294967296 := by have := x.isLt; omega
/-- What a slice of words that came in reads as. -/
theorem rdW_of_row {w : World} {x : Addr} {len cap : Nat} {zs : List Int} (hl : len ≤ cap) (hz : zs.length = cap)
    (hcell : ∀ i, i < zs.length → w.cell? (x.add i) = some (.int .u32 (zs.getD i 0))) (hwz : ∀ n ∈ zs, (Lit.int .u32 n).wf = true) :
    ∃ l : List Wd.W32, RdW w w.heap.size (some x) l ∧ l.length = len := by
  refine ⟨(zs.take len).map fun n => BitVec.ofNat 32 n.toNat, fun hp => ?_, by simp; omega⟩
  have hp' : 0 < len := by
    simp at hp
    omega
  obtain ⟨b, off, spot⟩ := x
  have hspot : spot = none := by simpa [Addr.add] using World.cell?_spot (hcell 0 (by omega))
  subst hspot
  refine ⟨b, off, rfl, ?_, fun j hj => ?_⟩
  · have := hcell 0 (by omega)
    rw [addr_plain] at this
    exact World.block_lt_of_cell? (a := ⟨b, off + 0, none⟩) w this
  · have hj' : j < len := by
      simp at hj
      omega
    have hjz : j < zs.length := by omega
    have := hcell j hjz
    rw [addr_plain] at this
    rw [this]
    have hw := bounds_u32 (hwz _ (List.getElem_mem hjz))
    simp [List.getD, hjz, encW]
    omega
theorem ret_w {a b : Int} (h : a = b) : Ending.returned (.int .u32 a) = .returned (.int .u32 b) := by rw [h]
theorem ret_i {a b : Int} (h : a = b) : Ending.returned (.int .i64 a) = .returned (.int .i64 b) := by rw [h]
end Hx
end Go.Proofs.YtphakhklhicolaaDoor
