/-
  Texts of one seat, put together: LexY, LexZ, LexQ, LexK, LexJ, LexG.
-/
import Derived.Test.YtlhjcdkkmloamaaGreatDoorSp05
import Derived.Maps.AppendAt
import Derived.Deep.RegionHeld3
import Derived.Deep.QuietTactic
import Derived.Test.YtlhjcdkkmloamaaGreatDoorSp04
set_option linter.unusedSimpArgs false
namespace Go.Proofs.YtlhjcdkkmloamaaGreatDoor
open Go.RowKit
namespace Hx
open Lx Tx Nmb Es
set_option linter.unusedVariables false
theorem lexE_same : ∀ (f g n : Nat) (l : List UInt8), l.length ≤ f → l.length ≤ g → lexE f n l = lexE g n l := by
  intro f
  induction f with
  | zero =>
    intro g n l h1 h2
    obtain rfl := List.eq_nil_of_length_eq_zero (Nat.le_zero.1 h1)
    cases g <;> rfl
  | succ f ih =>
    intro g n l h1 h2
    cases l with
    | nil => cases g <;> rfl
    | cons c l =>
      cases g with
      | zero => simp at h2
      | succ g =>
        unfold lexE
        cases ho : oneL (c :: l) with
        | none => rfl
        | some r =>
          obtain ⟨t, y⟩ := r
          have hl := oneL_len ho
          rw [List.length_cons] at h1 h2 hl
          dsimp only
          rw [ih g (n + 1) y (by omega) (by omega)]
def lexG (n : Nat) (l : List UInt8) : Except (Int × Nat) (List Tk) := lexE l.length n l
theorem lexG_none {l : List UInt8} {p n : Nat} (hp : p < l.length) (h : oneL (l.drop p) = none) : lexG n (l.drop p) = .error (if n = 512 then 4 else 80, l.length - p) := by
  unfold lexG
  have hl : (l.drop p).length = l.length - p := List.length_drop
  cases hd : l.drop p with
  | nil => rw [hd] at hl; simp at hl; omega
  | cons c x =>
    rw [hd] at h hl
    rw [← hl, List.length_cons]
    unfold lexE
    rw [h]
theorem lexG_many {l r : List UInt8} {t : Tk} {p n : Nat} (hp : p < l.length) (h : oneL (l.drop p) = some (t, r)) (hb : n = 512 ∨ 16 < t.attrs.length) : lexG n (l.drop p) = .error (4, l.length - p) := by
  unfold lexG
  have hl : (l.drop p).length = l.length - p := List.length_drop
  cases hd : l.drop p with
  | nil => rw [hd] at hl; simp at hl; omega
  | cons c x =>
    rw [hd] at h hl
    rw [← hl, List.length_cons]
    unfold lexE
    rw [h]
    dsimp only
    rw [if_pos hb]
theorem lexG_next {l r : List UInt8} {t : Tk} {p n : Nat} (hp : p < l.length) (h : oneL (l.drop p) = some (t, r)) (hb : ¬ (n = 512 ∨ 16 < t.attrs.length)) : lexG n (l.drop p) = (lexG (n + 1) r).map (t :: ·) := by
  unfold lexG
  have hl : (l.drop p).length = l.length - p := List.length_drop
  cases hd : l.drop p with
  | nil => rw [hd] at hl; simp at hl; omega
  | cons c x =>
    rw [hd] at h hl
    have h2 := oneL_len h
    rw [List.length_cons] at h2 ⊢
    conv => lhs; unfold lexE
    rw [h]
    dsimp only
    rw [if_neg hb, lexE_same x.length r.length (n + 1) r (by omega) (Nat.le_refl _)]
theorem lexR_in {l : List UInt8} (h1 : l.length ≤ 16384) (h2 : isP l = true) : lexR l = (match lexG 0 l with | .ok ts => (ts, 0, 0) | .error (e, k) => ([], (l.length : Int) - k, e)) := by
  unfold lexR lexG
  rw [if_neg (by omega), if_pos h2]
  cases lexE l.length 0 l <;> rfl
theorem map_error {α β : Type} {ε : Type} {e : ε} {x : Except ε α} (f : α → β) (h : x = .error e) : x.map f = .error e := by rw [h]; rfl
theorem lexR_err {l : List UInt8} {p n : Nat} {e : Int} {f : List Tk → List Tk} (h1 : l.length ≤ 16384) (h2 : isP l = true) (hp : p ≤ l.length) (hG : lexG 0 l = (lexG n (l.drop p)).map f) (h : lexG n (l.drop p) = .error (e, l.length - p)) : lexR l = ([], (p : Int), e) := by
  rw [lexR_in h1 h2, hG, map_error f h]
  dsimp only
  rw [show ((l.length : Nat) : Int) - ((l.length - p : Nat) : Int) = (p : Int) by omega]
theorem oneL_suffix {l r : List UInt8} {t : Tk} (h : oneL l = some (t, r)) : ∃ k, k ≤ l.length ∧ r = l.drop k := by
  rcases oneL_kind h with ⟨h1, s, rfl, ht⟩ | ⟨h1, h2, a, x, rfl, _⟩
  · obtain ⟨_, k, hk, e⟩ := tagL_suffix ht
    exact ⟨k + 1, by simp; omega, by rw [e]; rfl⟩
  · exact ⟨a.length, by simp, by rw [List.drop_left]⟩
structure TB where
  x : ByteArray
  A : Option Addr
  c : Nat
  u : ByteArray
  t : Tk
def tbCells (b : TB) : List Value := [.int .u8 (b.t.kind : Int), .string b.x, .slice b.A b.t.attrs.length b.c, .string b.u]
def LexSt (w : World) (L : List TB) (v : Value) (wr : World) : Prop :=
  wr.ownsRow w.heap.size 84 4 v L.length (L.flatMap tbCells) ∧ (∀ b ∈ L, TkC.R wr wr.heap.size (tbCells b) b.t ∧ (0 < b.t.attrs.length → ∀ ad, b.A = some ad → some ad.block ≠ v.ownBlock)) ∧ Below w.heap.size w wr
theorem LexSt.below {w wr w' : World} {L : List TB} {v : Value} (h : LexSt w L v wr) (hb : Below wr.heap.size wr w') : LexSt w L v w' :=
  ⟨own_belowK h.1 hb (Nat.le_refl _), fun b hm => ⟨TkC.keep (h.2.1 b hm).1 hb.size (fun bl o hlt => hb.cell (p := ⟨bl, o, none⟩) hlt), (h.2.1 b hm).2⟩, stp h.2.2 hb⟩
def LexTo (s : ByteArray) (w : World) (e : Ending) (w' : World) : Prop := Below w.heap.size w w' ∧
  ∃ (ts : List Tk) (n er : Int) (A : Option Addr) (c : Nat), lexR s.data.toList = (ts, n, er) ∧ e = .returned (.tuple #[.slice A ts.length c, .int .i64 n, .int .i64 er]) ∧ RdC TkC w' w'.heap.size A ts ∧ ts.length ≤ c ∧ c ≤ maxLen ∧ (A = none → c = 0)
theorem LexTo.bad {s : ByteArray} {w w' : World} {n er : Int} (hb : Below w.heap.size w w') (h : lexR s.data.toList = ([], n, er)) : LexTo s w (.returned (.tuple #[.slice none 0 0, .int .i64 n, .int .i64 er])) w' :=
  ⟨hb, [], n, er, none, 0, h, rfl, RdC.nil _ _ _, Nat.le_refl _, Nat.zero_le _, fun _ => rfl⟩
theorem LexTo.good {s : ByteArray} {w wr : World} {L : List TB} {A : Option Addr} {c : Nat} (h : LexSt w L (.slice A L.length c) wr) (hl : lexR s.data.toList = (L.map TB.t, 0, 0)) : LexTo s w (.returned (.tuple #[.slice A L.length c, .int .i64 0, .int .i64 0])) wr := by
  obtain ⟨h1, _, h3, h4, h5⟩ := RdC.of_own (C := TkC) tbCells TB.t (fun _ => rfl) (by decide) L (fun b hm => (h.2.1 b hm).1) h.1
  exact ⟨h.2.2, L.map TB.t, 0, 0, A, c, hl, by rw [List.length_map], h1, by rw [List.length_map]; exact h3, h4, h5⟩
theorem infoTk : (Tryz.prog.info? 84).map (fun i => (i.zero, i.size, i.bytes)) = some (some (.agg #[.int .u8 0, .string ⟨#[]⟩, .slice none 0 0, .string ⟨#[]⟩]), 4, 64) := by kernel_rfl
theorem tb_one (k : Int) (x : ByteArray) (A : Option Addr) (n c : Nat) (u : ByteArray) : ∀ v ∈ [Value.int .u8 k, .string x, .slice A n c, .string u], v.oneCell' = true := by simp [Value.oneCell']
theorem LexSt.next {w wr w1 w5 : World} {L : List TB} {A A4 A1 : Option Addr} {c c4 c1 : Nat} {x u : ByteArray} {t : Tk} {o1 o2 : Obj} (h : LexSt w L (.slice A L.length c) wr) (hb : Below wr.heap.size wr w1)
    (hR : TkR wr.heap.size w1 #[.int .u8 (t.kind : Int), .string x, .slice A1 t.attrs.length c1, .string u] t)
    (hown : w5.ownsRow w.heap.size 84 4 (.slice A4 (L.length + 1) c4) (L.length + 1) (L.flatMap tbCells ++ [.int .u8 (t.kind : Int), .string x, .slice A1 t.attrs.length c1, .string u]))
    (hgr : ((w1.alloc o1).alloc o2).grownBy w5 (Value.slice A L.length c).ownBlock)
    (hlie : (Value.slice A4 (L.length + 1) c4).ownBlock = (Value.slice A L.length c).ownBlock ∨ (Value.slice A4 (L.length + 1) c4).ownBlock = some ((w1.alloc o1).alloc o2).heap.size) :
    LexSt w (L ++ [⟨x, A1, c1, u, t⟩]) (.slice A4 (L.length + 1) c4) w5 := by
  have hb2 : Below w1.heap.size w1 ((w1.alloc o1).alloc o2) := stpA (stpA (Below.refl _ _) _) _
  have h1 := (h.below hb).below hb2
  have hlen : (L ++ [(⟨x, A1, c1, u, t⟩ : TB)]).length = L.length + 1 := by simp
  have hfar : ∀ (A' : Option Addr) (l : List Pr), RdC PrC ((w1.alloc o1).alloc o2) ((w1.alloc o1).alloc o2).heap.size A' l → (0 < l.length → ∀ ad, A' = some ad → some ad.block ≠ (Value.slice A L.length c).ownBlock) → RdC PrC w5 w5.heap.size A' l := by
    intro A' l hr hne hp
    obtain ⟨b, off, rfl, hlt, hc⟩ := hr hp
    refine ⟨b, off, rfl, Nat.lt_of_lt_of_le hlt hgr.size, fun j hj => ?_⟩
    obtain ⟨cs', k1, k2⟩ := hc j hj
    exact ⟨cs', k1, fun i hi => hgr.cell (k2 i hi) (hne hp ⟨b, off, none⟩ rfl)⟩
  have hw1 := hb.size
  have hown0 : ∀ k, (Value.slice A L.length c).ownBlock = some k → w.heap.size ≤ k ∧ k < wr.heap.size := fun k hk => h.1.lt k hk
  have hnew : ∀ (B : TB), (0 < B.t.attrs.length → ∀ ad, B.A = some ad → some ad.block ≠ (Value.slice A L.length c).ownBlock) → TkC.R ((w1.alloc o1).alloc o2) ((w1.alloc o1).alloc o2).heap.size (tbCells B) B.t → TkC.R w5 w5.heap.size (tbCells B) B.t ∧ ((0 < B.t.attrs.length → ∀ ad, B.A = some ad → some ad.block ≠ (Value.slice A4 (L.length + 1) c4).ownBlock)) := by
    intro B hne hk
    obtain ⟨x', A', c', u', e1, e2, e3, e4, e5, e6, e7, e8⟩ := hk
    have e1' := e1
    unfold tbCells at e1'
    injection e1' with _ e1'
    injection e1' with _ e1'
    injection e1' with e9 _
    injection e9 with e9 _ _
    subst e9
    refine ⟨⟨x', _, c', u', e1, e2, e3, e4, e5, e6, e7, hfar _ _ e8 hne⟩, fun hp ad e => ?_⟩
    rcases hlie with h6 | h6
    · rw [h6]; exact hne hp ad e
    · rw [h6]
      obtain ⟨b, off, e10, hlt, _⟩ := e8 hp
      rw [e] at e10
      injection e10 with e10
      subst e10
      intro e11
      injection e11 with e11
      dsimp only at e11 hlt
      omega
  refine ⟨by rw [hlen, List.flatMap_append]; simpa [tbCells] using hown, fun b hm => ?_, h1.2.2.grown hgr ?_ ?_⟩
  · rcases List.mem_append.1 hm with hm | hm
    · exact hnew b (h1.2.1 b hm).2 (h1.2.1 b hm).1
    · obtain rfl := List.mem_singleton.1 hm
      refine hnew _ (fun _ ad e => ?_) (TkC.keep hR.1 hb2.size fun bl o hlt => hb2.cell (p := ⟨bl, o, none⟩) hlt)
      intro e2
      have := hR.2 A1 _ c1 rfl ad e
      have := (hown0 _ e2.symm).2
      omega
  · rw [World.size_alloc, World.size_alloc]
    have := h.2.2.size
    omega
  · intro k hk
    exact (hown0 k hk).1
deriving instance DecidableEq for Pr
deriving instance DecidableEq for Tk
theorem take_step {α : Type} {l m : List α} {k : Nat} (h1 : k < l.length) (h2 : k < m.length) (h : l.take k = m.take k) (he : l[k]'h1 = m[k]'h2) : l.take (k + 1) = m.take (k + 1) := by
  rw [List.take_succ_eq_append_getElem h1, List.take_succ_eq_append_getElem h2, h, he]
theorem ne_at {α : Type} {l m : List α} {k : Nat} (h1 : k < l.length) (h2 : k < m.length) (he : l[k]'h1 ≠ m[k]'h2) : l ≠ m := by
  rintro rfl
  exact he rfl
theorem RdC.take {α : Type} {C : Cod α} {w : World} {B : Nat} {A : Option Addr} {l : List α} (h : RdC C w B A l) (k : Nat) : RdC C w B A (l.take k) := by
  intro hp
  have hl := List.length_take (i := k) (l := l)
  obtain ⟨b, off, e, hb, hc⟩ := h (by omega)
  refine ⟨b, off, e, hb, fun j hj => ?_⟩
  obtain ⟨cs, h1, h2⟩ := hc j (by omega)
  exact ⟨cs, by rw [List.getElem_take]; exact h1, h2⟩
theorem chk9_ok {y : ByteArray} (h : okT y.data.toList = true) : chkE y = 0 := by
  unfold okT at h
  rw [Bool.and_eq_true, decide_eq_true_eq, ba_l] at h
  unfold chkE
  rw [if_neg (by omega), if_pos (show (pts y.data.toList).isSome = true from h.2)]
theorem chk9_bad {y : ByteArray} (h : okT y.data.toList = false) : chkE y ≠ 0 := by
  unfold chkE
  by_cases h1 : 16384 < y.size
  · rw [if_pos h1]; decide
  · rw [if_neg h1]
    by_cases h2 : (pts y.data.toList).isSome = true
    · exfalso
      unfold okT at h
      rw [ba_l, decide_eq_true (by omega), show isP y.data.toList = true from h2] at h
      cases h
    · rw [if_neg h2]; decide
def TkV (t : Tk) (x u : ByteArray) (A : Option Addr) (cp : Nat) : Value := .agg #[.int .u8 (t.kind : Int), .string x, .slice A t.attrs.length cp, .string u]
structure TkAt (t : Tk) (x u : ByteArray) (A : Option Addr) (cp : Nat) (w : World) : Prop where
  name : x.data.toList = t.name
  text : u.data.toList = t.text
  attrs : RdC PrC w w.heap.size A t.attrs
  le : t.attrs.length ≤ cp
  ns : x.size ≤ 1000000
  us : u.size ≤ 1000000
  al : t.attrs.length ≤ 1000000
  sz : ∀ p ∈ t.attrs, p.name.length ≤ 1000000 ∧ p.value.length ≤ 1000000
theorem TkAt.on {t : Tk} {x u : ByteArray} {A : Option Addr} {cp : Nat} {w w' : World} (h : TkAt t x u A cp w) (hb : Below w.heap.size w w') : TkAt t x u A cp w' := ⟨h.name, h.text, h.attrs.on hb, h.le, h.ns, h.us, h.al, h.sz⟩
theorem box_cell {w w1 : World} {cs : Array Value} {T : TypeId} (hb : Below (w.alloc (.cells cs T)).heap.size (w.alloc (.cells cs T)) w1) (i : Nat) (v : Value) (h : cs[i]? = some v) : w1.cell? ⟨w.heap.size, i, none⟩ = some v ∧ w.heap.size < w1.heap.size := by
  have hs := hb.size
  simp at hs
  refine ⟨?_, by omega⟩
  rw [hb.cell (p := ⟨w.heap.size, i, none⟩) (by simp)]
  simp [h]
theorem emp_l (s : ByteArray) : s.toList.isEmpty = s.data.toList.isEmpty := by rw [ByteArray.toList_eq]
def checkR (t : Tk) : Int := if mayT t then 0 else 8
theorem bel_in9 {w w' w0 : World} (h0 : Below w0.heap.size w0 w) (h : Below w.heap.size w w') : Below w0.heap.size w0 w' := h0.trans (h.mono h0.size)
end Hx
end Go.Proofs.YtlhjcdkkmloamaaGreatDoor
