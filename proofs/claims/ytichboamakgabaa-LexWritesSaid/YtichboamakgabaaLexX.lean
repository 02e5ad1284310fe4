/-
  The document's own lex: one.
-/
import Derived.Test.YtichboamakgabaaLexW
namespace Go.Proofs.Ytichboamakgabaa
open Go.RowKit
namespace Hx
open Lx Tx Nmb Es
set_option linter.unusedVariables false
theorem oneL_tagA {l : List UInt8} {a : Nat} (h : a < l.length) (h1 : l[a]'h = 60) : oneL (l.drop a) = tagL (l.drop (a + 1)) := by
  rw [List.drop_eq_getElem_cons h, h1]
  unfold oneL
  dsimp only
  rw [if_pos rfl]
theorem oneL_txt {l : List UInt8} {a j : Nat} (h : a < l.length) (h1 : l[a]'h ≠ 60) (h2 : (l.drop a).takeWhile txt = (l.drop a).take j) (h3 : j ≤ (l.drop a).length) : oneL (l.drop a) = (rd ((l.drop a).take j)).map fun x => (⟨4, [], [], x⟩, l.drop (a + j)) := by
  have e : ((l.drop a).takeWhile txt).length = j := by rw [h2, List.length_take]; omega
  have d := dw_drop txt l a
  rw [e] at d
  rw [← h2, ← d, List.drop_eq_getElem_cons h]
  unfold oneL
  dsimp only
  rw [if_neg h1]
theorem TagI_suffix {acc : List Pr} {y : List UInt8} {b : Bool} {at1 : List Pr} {r : List UInt8} (h : TagI acc y b at1 r) : ∃ p, y = p ++ r := by
  induction h with
  | shut acc g x _ => exact ⟨g ++ [62], by simp⟩
  | bare acc g x _ => exact ⟨g ++ [47, 62], by simp⟩
  | attr acc g l y p b at1 x _ _ ha _ _ ih =>
    obtain ⟨q, rfl⟩ := ih
    obtain ⟨k, _, e⟩ := attrL_suffix ha
    refine ⟨g ++ (l.take k ++ q), ?_⟩
    conv => lhs; rw [← List.take_append_drop k l, ← e]
    simp
theorem tagL_suffix {l r : List UInt8} {t : Tk} (h : tagL l = some (t, r)) : r.length ≤ l.length ∧ ∃ k, k ≤ l.length ∧ r = l.drop k := by
  obtain ⟨p, rfl⟩ : ∃ p, l = p ++ r := by
    rcases (tagL_iff _ _ _).1 h with ⟨g, rfl, _⟩ | ⟨b, y, rfl, _, hi, _⟩
    · exact ⟨47 :: (t.name ++ (g ++ [62])), by simp⟩
    · obtain ⟨q, rfl⟩ := TagI_suffix hi
      exact ⟨t.name ++ q, by simp⟩
  exact ⟨by simp, p.length, by simp, by rw [List.drop_left]⟩
theorem cell_setRow (w : World) (R b o : Nat) (cs : Array Value) (h : R < b) : (w.setRow R cs).cell? ⟨b, o, none⟩ = w.cell? ⟨b, o, none⟩ := by
  unfold World.cell?
  dsimp only
  rw [setRow_other w R b cs (by omega)]
theorem RdC_row {w : World} {A : Option Addr} {l : List Pr} (h : RdC PrC w w.heap.size A l) (R : Nat) (cs : Array Value) (hA : ∀ ad, A = some ad → R < ad.block) : RdC PrC (w.setRow R cs) (w.setRow R cs).heap.size A l := by
  intro hp
  obtain ⟨b, off, rfl, hb, hc⟩ := h hp
  refine ⟨b, off, rfl, by simpa [World.setRow] using hb, fun j hj => ?_⟩
  obtain ⟨cs', h1, h2⟩ := hc j hj
  exact ⟨cs', h1, fun i hi => (cell_setRow w R b _ cs (hA _ rfl)).trans (h2 i hi)⟩
theorem TkR_row {w : World} {B : Nat} {cs : Array Value} {t : Tk} (h : TkR B w cs t) (R : Nat) (hR : R < B) (cs' : Array Value) (B' : Nat) (hB : B' ≤ B) : TkR B' (w.setRow R cs') cs t := by
  obtain ⟨⟨x, A, c, u, h1, h2, h3, h4, h5, h6, h7, h8⟩, h9⟩ := h
  refine ⟨⟨x, A, c, u, h1, h2, h3, h4, h5, h6, h7, RdC_row h8 R cs' fun ad e => ?_⟩, fun A n c e ad e2 => Nat.le_trans hB (h9 A n c e ad e2)⟩
  exact Nat.lt_of_lt_of_le hR (h9 A _ c (by rw [← Array.getElem?_toList, h1]; rfl) ad e)
theorem TkR_text (B : Nat) (w : World) (x : ByteArray) : TkR B w #[Value.int .u8 4, .string ⟨#[]⟩, .slice none 0 0, .string x] ⟨4, [], [], x.data.toList⟩ :=
  ⟨⟨⟨#[]⟩, none, 0, x, rfl, (by decide : 4 < 256), rfl, rfl, Nat.le_refl _, Nat.zero_le _, fun _ => rfl, RdC.nil _ _ _⟩, fun A n c h ad e => by
    have h' : Value.slice none 0 0 = .slice A n c := Option.some.inj h
    injection h' with h1 _ _
    rw [← h1] at e
    cases e⟩
/-- What one answers. -/
def OneTo (s : ByteArray) (a : Nat) (w : World) (e : Ending) (w' : World) : Prop := Below w.heap.size w w' ∧
  ((oneL (s.data.toList.drop a) = none ∧ e = .returned (.tuple #[.agg #[.int .u8 0, .string ⟨#[]⟩, .slice none 0 0, .string ⟨#[]⟩], .int .i64 (-1)])) ∨
   (∃ (cs : Array Value) (t : Tk) (n : Nat), oneL (s.data.toList.drop a) = some (t, s.data.toList.drop n) ∧ n ≤ s.size ∧ TkR w.heap.size w' cs t ∧ e = .returned (.tuple #[.agg cs, .int .i64 n])))
end Hx
end Go.Proofs.Ytichboamakgabaa
