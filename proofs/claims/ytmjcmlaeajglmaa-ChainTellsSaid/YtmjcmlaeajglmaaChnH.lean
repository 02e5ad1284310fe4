/-
  What the laws of layer 4 need besides: hex.Is by its answer, hex.Put of a digest in a variable, a text as its bytes.
-/
import Derived.Test.YtmjcmlaeajglmaaChnE
namespace Go.Proofs.Ytmjcmlaeajglmaa
open Go.RowKit
namespace Hx
open Go Wd Sh
set_option linter.unusedVariables false
theorem hexis_b (s : ByteArray) (w : World) (b : Bool) (h : isK s = b) :
    Calls Try.prog 28 #[.string s, .int .i64 40] w fun e w' => e = .returned (.bool b) ∧ Below w.heap.size w w' := by
  have := is_any s 40 w
  rw [show (decide ((s.size : Int) = 40) && allD s.data.toList) = b from h] at this
  exact this
theorem put_key (g : Nat) (D : List UInt8) (ks : ByteArray) (hD : D.length = 20) (hk : ks = ⟨(putL D).toArray⟩) (w : World) (h : w.heap[g]? = some (.cells (D.map encB).toArray 23 (0, 0))) :
    Calls Try.prog 29 #[.slice (some ⟨g, 0, none⟩) 20 20] w fun e w' => e = .returned (.string ks) ∧ Below w.heap.size w w' := by
  have hb : Blk encB w g 23 D := h
  have := put_any (some ⟨g, 0, none⟩) 20 20 D w (rdA_rdB.1 hb.slice) hD (by decide)
  rw [← hk] at this
  exact this
theorem keyB_mk (l : List UInt8) : keyB ⟨l.toArray⟩ = ⟨(putL (dig l)).toArray⟩ := rfl
theorem fit_parts (stored key : ByteArray) (b c d : Bool) (h1 : isK stored = b) (h2 : isK key = c) (h3 : decide (keyB key = stored) = d) : fitB stored key = (b && c && d) := by
  unfold fitB
  rw [h1, h2, h3]
theorem nm_hx (n : Nat) (h : n < 16) : isD (hx n).toNat = true := by
  have all : ∀ j : Fin 16, isD (hx j.val).toNat = true := by decide
  exact all ⟨n, h⟩
theorem all_put (l : List UInt8) : allD (putL l) = true := by
  induction l with
  | nil => rfl
  | cons a l ih =>
    have e : putL (a :: l) = hx (a.toNat / 16) :: hx (a.toNat % 16) :: putL l := by simp [putL, two]
    have hc := a.toNat_lt
    unfold allD at *
    rw [e, List.all_cons, List.all_cons, ih]
    unfold isd
    rw [nm_hx _ (by omega), nm_hx _ (by omega)]
    rfl
theorem isK_keyB (s : ByteArray) : isK (keyB s) = true := by
  unfold isK
  rw [keyB_size]
  show (true && allD (putL (dig s.data.toList))) = true
  rw [all_put]
  rfl
theorem fit_kN (s : ByteArray) (j : Nat) : fitB (kN s (j + 2)) (kN s (j + 1)) = true := by
  unfold fitB
  show (isK (keyB (kN s (j + 1))) && isK (keyB (kN s j)) && decide (keyB (kN s (j + 1)) = keyB (kN s (j + 1)))) = true
  rw [isK_keyB, isK_keyB]
  simp
/-- What Make answers, as cells. -/
def MakeCells (s : ByteArray) (n : Nat) (w : World) (e : Ending) (w' : World) : Prop := Below w.heap.size w w' ∧ ∃ g o c, e = .returned (.tuple #[.slice (some ⟨g, o, none⟩) n c, .int .i64 0]) ∧ g < w'.heap.size ∧ ∀ j, j < n → w'.cell? ⟨g, o + j, none⟩ = some (.string (kN s (j + 1)))
theorem make_cells (s : ByteArray) (n : Nat) (w : World) (hz : s.size ≤ 16384) (hn : n ≤ 256) (hp : 0 < n) : Calls Try.prog 19 #[.string s, .int .i64 n] w (MakeCells s n w) := by
  refine (make_ok s n w hz hn).mono fun e w' ⟨hb, A, c, he, hc, hz, hr⟩ => ?_
  obtain ⟨g, o, rfl, hg, hcell⟩ := hr (by rw [ksL_length]; exact hp)
  refine ⟨hb, g, o, c, he, hg, fun j hj => ?_⟩
  rw [hcell j (by rw [ksL_length]; exact hj)]
  simp [ksL, encS]
end Hx
end Go.Proofs.Ytmjcmlaeajglmaa
