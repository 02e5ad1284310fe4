/-
  Texts of one seat, put together: EscT, LexT, LexU, LexV, LexW, LexX.
-/
import Derived.Test.YtlhjcdkkmloamaaGreatDoorSp04
import Derived.Test.YtlhjcdkkmloamaaGreatDoorSp02
import Derived.Lib.ConvBytes
import Derived.Lib.BufferMore
import Derived.Test.YtlhjcdkkmloamaaGreatDoorSp01
set_option linter.unusedSimpArgs false
namespace Go.Proofs.YtlhjcdkkmloamaaGreatDoor
open Go.RowKit
namespace Hx
open Tx Nmb Es
set_option linter.unusedVariables false
theorem meantL_len {x y : List UInt8} (h : meantL x = some y) : y.length ≤ 4 := by
  unfold meantL at h
  repeat (split at h; · (cases h; simp))
  split at h
  · rw [Option.map_eq_some_iff] at h
    obtain ⟨n, _, rfl⟩ := h
    exact (enc_length n).2
  · cases h
theorem extract_mid8 (s : ByteArray) (a b : Nat) : s.extract a b = ⟨((s.data.toList.drop a).take (b - a)).toArray⟩ := by
  have := ByteArray.extract_mk s.data.toList a b
  rw [← ba_eq5] at this
  exact this
def getR (s : ByteArray) : ByteArray × Int := if chkE s ≠ 0 then (⟨#[]⟩, chkE s) else match rd s.data.toList with | some x => (⟨x.toArray⟩, 0) | none => (⟨#[]⟩, 80)
end Hx
end Go.Proofs.YtlhjcdkkmloamaaGreatDoor
namespace Go.Proofs.YtlhjcdkkmloamaaGreatDoor
open Go.RowKit
namespace Hx
open Lx Tx Nmb Es
set_option linter.unusedVariables false
theorem seq_l (a b : ByteArray) : (a.toList == b.toList) = decide (a.data.toList = b.data.toList) := by
  rw [Bool.eq_iff_iff]
  simp only [beq_iff_eq, decide_eq_true_eq, ByteArray.toList_eq]
def sp (c : UInt8) : UInt8 := if blk c then 32 else c
def zPr : Array Value := #[.string ⟨#[]⟩, .string ⟨#[]⟩]
theorem onePr (x y : ByteArray) : (#[Value.string x, Value.string y] : Array Value).all (·.oneCell') = true := by simp [Value.oneCell']
theorem sizePr : (Tryz.prog.info? 111).map (·.size) = some 2 := by kernel_rfl
def zTk : Array Value := #[.int .u8 0, .string ⟨#[]⟩, .slice none 0 0, .string ⟨#[]⟩]
theorem oneTk (k : Int) (x : ByteArray) (v : Value) (y : ByteArray) (hv : v.oneCell' = true := by rfl) : (#[Value.int .u8 k, Value.string x, v, Value.string y] : Array Value).all (·.oneCell') = true := by simp [Value.oneCell'] at hv ⊢; exact hv
theorem sizeTk : (Tryz.prog.info? 84).map (·.size) = some 4 := by kernel_rfl
abbrev PB := ByteArray × ByteArray
def prCells (p : PB) : List Value := [.string p.1, .string p.2]
def prVal (p : PB) : Pr := ⟨p.1.data.toList, p.2.data.toList⟩
theorem prCells_R (w : World) (B : Nat) (p : PB) : PrC.R w B (prCells p) (prVal p) := ⟨p.1, p.2, rfl, rfl, rfl⟩
theorem own_attrs {w : World} {base : Nat} {A : Option Addr} {n c : Nat} {l : List PB} (h : w.ownsRow base 111 2 (.slice A n c) n (l.flatMap prCells)) : RdC PrC w w.heap.size A (l.map prVal) ∧ l.length = n ∧ n ≤ c ∧ c ≤ maxLen ∧ (A = none → c = 0) :=
  RdC.of_own (C := PrC) prCells prVal (fun _ => rfl) (by decide) l (fun b _ => prCells_R _ _ b) h
def TkR (B : Nat) (w : World) (cs : Array Value) (t : Tk) : Prop := TkC.R w w.heap.size cs.toList t ∧ ∀ A n c, cs[2]? = some (.slice A n c) → ∀ ad, A = some ad → B ≤ ad.block
theorem attrL_suffix {l r : List UInt8} {p : Pr} (h : attrL l = some (p, r)) : ∃ k, k ≤ l.length ∧ r = l.drop k := by
  obtain ⟨g1, g2, x, rfl, _, _, _, h4⟩ := (attrL_iff _ _ _).1 h
  obtain ⟨q, raw, rfl, _⟩ := (valL_iff _ _ _).1 h4
  refine ⟨(p.name ++ (g1 ++ 61 :: (g2 ++ q :: (raw ++ [q])))).length, by simp <;> omega, ?_⟩
  have e : p.name ++ (g1 ++ 61 :: (g2 ++ q :: (raw ++ q :: r))) = (p.name ++ (g1 ++ 61 :: (g2 ++ q :: (raw ++ [q])))) ++ r := by simp
  rw [e, List.drop_left]
theorem TkC_plain (w : World) (k : Nat) (hk : k < 256) (x : ByteArray) : TkC.R w w.heap.size (#[Value.int .u8 (k : Int), .string x, .slice none 0 0, .string ⟨#[]⟩] : Array Value).toList ⟨k, x.data.toList, [], []⟩ :=
  ⟨x, none, 0, ⟨#[]⟩, rfl, hk, rfl, rfl, Nat.le_refl _, Nat.zero_le _, fun _ => rfl, RdC.nil _ _ _⟩
theorem TkR_plain (B : Nat) (w : World) (k : Nat) (hk : k < 256) (x : ByteArray) : TkR B w #[Value.int .u8 (k : Int), .string x, .slice none 0 0, .string ⟨#[]⟩] ⟨k, x.data.toList, [], []⟩ :=
  ⟨TkC_plain w k hk x, fun A n c h ad e => by
    have h' : Value.slice none 0 0 = .slice A n c := Option.some.inj h
    injection h' with h1 _ _
    rw [← h1] at e
    cases e⟩
theorem cellV (w : World) (g k : Nat) (cs : Array Value) (t : TypeId) (fr : Nat × Nat) (h : w.heap[g]? = some (.cells cs t fr)) : w.cell? ⟨g, k, none⟩ = cs[k]? := by simp [World.cell?, h]
theorem freeV (w : World) (g k : Nat) (cs : Array Value) (t : TypeId) (h : w.heap[g]? = some (.cells cs t (0, 0))) : w.frozen? ⟨g, k, none⟩ = false := by simp [World.frozen?, h]
theorem own_setRow {w : World} {base : Nat} {e : TypeId} {size : Nat} {v : Value} {n : Nat} {xs : List Value} (h : w.ownsRow base e size v n xs) (R : Nat) (hR : R < base) (cs : Array Value) : (w.setRow R cs).ownsRow base e size v n xs := by
  refine ⟨h.1, ?_⟩
  rcases h.2 with h0 | ⟨g, cap, cur, hv, hb, hg, rest⟩
  · exact .inl h0
  · exact .inr ⟨g, cap, cur, hv, hb, (setRow_other w R g cs (by omega)).trans hg, rest⟩
theorem infoPr : (Tryz.prog.info? 111).map (fun i => (i.zero, i.size, i.bytes)) = some (some (.agg #[.string ⟨#[]⟩, .string ⟨#[]⟩]), 2, 32) := by kernel_rfl
theorem own_form2 {w : World} {base : Nat} {e : TypeId} {size : Nat} {v : Value} {n : Nat} {xs : List Value} (h : w.ownsRow base e size v n xs) : ∃ A c, v = .slice A n c := by
  rcases h.2 with ⟨rfl, rfl⟩ | ⟨g, cap, cur, rfl, _⟩
  · exact ⟨none, 0, rfl⟩
  · exact ⟨_, cap, rfl⟩
theorem TkC_made {w : World} {g : Nat} {L : List PB} {v : Value} (k : Nat) (hk : k < 256) (t : ByteArray) (h : w.ownsRow (g + 1) 111 2 v L.length (L.flatMap prCells)) :
    TkC.R w w.heap.size (#[Value.int .u8 (k : Int), .string t, v, .string ⟨#[]⟩] : Array Value).toList ⟨k, t.data.toList, L.map prVal, []⟩ := by
  obtain ⟨A, c, rfl⟩ := own_form2 h
  obtain ⟨h1, h2, h3, h4, h5⟩ := own_attrs h
  exact ⟨t, A, c, ⟨#[]⟩, by simp, hk, rfl, rfl, by simpa using h3, h4, h5, h1⟩
theorem TkC_set {w : World} {g R : Nat} {L : List PB} {v : Value} {cs : Array Value} (h : w.ownsRow (g + 1) 111 2 v L.length (L.flatMap prCells)) (hR : R < g) (k : Nat) (hk : k < 256) (t : ByteArray) :
    TkC.R (w.setRow R cs) (w.setRow R cs).heap.size (#[Value.int .u8 (k : Int), .string t, v, .string ⟨#[]⟩] : Array Value).toList ⟨k, t.data.toList, L.map prVal, []⟩ := TkC_made k hk t (own_setRow h R (by omega) cs)
theorem TkR_set {w : World} {B g R : Nat} {L : List PB} {A : Option Addr} {c : Nat} {cs : Array Value} (h : w.ownsRow (g + 1) 111 2 (.slice A L.length c) L.length (L.flatMap prCells)) (hR : R < g) (hB : B ≤ R) (k : Nat) (hk : k < 256) (t : ByteArray) :
    TkR B (w.setRow R cs) #[Value.int .u8 (k : Int), .string t, .slice A L.length c, .string ⟨#[]⟩] ⟨k, t.data.toList, L.map prVal, []⟩ := by
  refine ⟨TkC_set h hR k hk t, fun A' n c' e ad e2 => ?_⟩
  have h' : Value.slice A L.length c = .slice A' n c' := Option.some.inj e
  injection h' with h1 _ _
  rcases h.2 with ⟨h3, _⟩ | ⟨g', cap, cur, hv, hb, _⟩
  · injection h3 with h3 _ _
    rw [← h1, h3] at e2
    cases e2
  · injection hv with h3 _ _
    rw [← h1, h3] at e2
    injection e2 with e2
    rw [← e2]
    show B ≤ g'
    omega
theorem own_belowK {w w' : World} {B base : Nat} {e : TypeId} {size : Nat} {v : Value} {n : Nat} {xs : List Value} (h : w.ownsRow base e size v n xs) (hb : Below B w w') (hB : w.heap.size ≤ B) : w'.ownsRow base e size v n xs := by
  refine h.kept (row := none) ⟨hb.os, hb.tape, hb.output, hb.size, fun k hk _ => hb.block k (by omega)⟩ ?_
  cases v.ownBlock
  · exact .inl rfl
  · exact .inr (by simp)
theorem new_at (w : World) (cs : List Value) (t : TypeId) (B : Nat) (hB : w.heap.size = B) : ∀ (j : Nat) (u : Value), cs[j]? = some u → (w.alloc (.cells cs.toArray t)).cell? ((⟨B, 0, none⟩ : Addr).add j) = some u := fun j u h => by
  subst hB
  rw [addr_plain, World.cell?_alloc_new]
  simpa using h
theorem set_other (w : World) (g k b : Nat) (x : Value) (h : b ≠ g) : (w.setCell ⟨g, k, none⟩ x).heap[b]? = w.heap[b]? := by
  unfold World.setCell
  dsimp only
  rw [Array.getElem?_modify, if_neg (fun e => h e.symm)]
theorem own_setCell {w : World} {base : Nat} {e : TypeId} {size : Nat} {v : Value} {n : Nat} {xs : List Value} (h : w.ownsRow base e size v n xs) (R k : Nat) (hR : R < base) (x : Value) : (w.setCell ⟨R, k, none⟩ x).ownsRow base e size v n xs := by
  refine ⟨h.1, ?_⟩
  rcases h.2 with h0 | ⟨g, cap, cur, hv, hb, hg, rest⟩
  · exact .inl h0
  · exact .inr ⟨g, cap, cur, hv, hb, (set_other w R k g x (by omega)).trans hg, rest⟩
theorem TagI_suffix {acc : List Pr} {y : List UInt8} {b : Bool} {at1 : List Pr} {r : List UInt8} (h : TagI acc y b at1 r) : ∃ p, y = p ++ r := by
  induction h with
  | shut acc g x _ => exact ⟨g ++ [62], by simp⟩
  | bare acc g x _ => exact ⟨g ++ [47, 62], by simp⟩
  | attr acc g l y p b at1 x _ _ ha _ _ ih =>
    obtain ⟨q, rfl⟩ := ih
    obtain ⟨k, _, e⟩ := attrL_suffix ha
    refine ⟨g ++ (l.take k ++ q), ?_⟩
    conv => lhs; rw [← List.take_append_drop k l, ← e]
    simp
theorem tagL_suffix {l r : List UInt8} {t : Tk} (h : tagL l = some (t, r)) : r.length ≤ l.length ∧ ∃ k, k ≤ l.length ∧ r = l.drop k := by
  obtain ⟨p, rfl⟩ : ∃ p, l = p ++ r := by
    rcases (tagL_iff _ _ _).1 h with ⟨g, rfl, _⟩ | ⟨b, y, rfl, _, hi, _⟩
    · exact ⟨47 :: (t.name ++ (g ++ [62])), by simp⟩
    · obtain ⟨q, rfl⟩ := TagI_suffix hi
      exact ⟨t.name ++ q, by simp⟩
  exact ⟨by simp, p.length, by simp, by rw [List.drop_left]⟩
end Hx
end Go.Proofs.YtlhjcdkkmloamaaGreatDoor
