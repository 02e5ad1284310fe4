/-
  Plain lemmas: what is put is got, and the other way round.
-/
import Derived.Test.YtmgdhkgkjimmoaaHexF
namespace Go.Proofs.Ytmgdhkgkjimmoaa
open Go.RowKit
namespace Hx

theorem putL_even (m : List UInt8) : ∀ i, (h : i < m.length) → (putL m)[2 * i]? = some (hx ((m[i]'h).toNat / 16)) ∧ (putL m)[2 * i + 1]? = some (hx ((m[i]'h).toNat % 16)) := by
  induction m with
  | nil => intro i h; exact absurd h (by simp)
  | cons a m ih =>
    intro i h
    have e : putL (a :: m) = hx (a.toNat / 16) :: hx (a.toNat % 16) :: putL m := by simp [putL, two]
    rw [e]
    cases i with
    | zero => exact ⟨rfl, rfl⟩
    | succ i =>
      have := ih i (by simpa using h)
      rw [show 2 * (i + 1) = 2 * i + 1 + 1 by omega, show 2 * i + 1 + 1 + 1 = (2 * i + 1) + 1 + 1 by omega]
      simpa using this
theorem getL_put (l : List UInt8) : getL (putL l) l.length = l := by
  apply List.ext_getElem (by simp [getL])
  intro i h1 h2
  have ⟨a, b⟩ := putL_even l i h2
  have hc := (l[i]'h2).toNat_lt
  have q1 := (nm_hx ((l[i]'h2).toNat / 16) (by omega)).1
  have q2 := (nm_hx ((l[i]'h2).toNat % 16) (by omega)).1
  have e : ((getL (putL l) l.length)[i]'h1) = bt (putL l) i := by simp [getL]
  rw [e]
  apply UInt8.toNat_inj.1
  have := bt_int (putL l) i
  rw [List.getD_eq_getElem?_getD, List.getD_eq_getElem?_getD, a, b] at this
  simp only [Option.getD_some] at this
  rw [q1, q2] at this
  omega
theorem all_put (l : List UInt8) : allD (putL l) = true := by
  induction l with
  | nil => rfl
  | cons a l ih =>
    have e : putL (a :: l) = hx (a.toNat / 16) :: hx (a.toNat % 16) :: putL l := by simp [putL, two]
    have hc := a.toNat_lt
    unfold allD at *
    rw [e, List.all_cons, List.all_cons, ih]
    unfold dig
    rw [(nm_hx _ (by omega)).2, (nm_hx _ (by omega)).2]
    rfl
theorem size_mk (l : List UInt8) : (⟨l.toArray⟩ : ByteArray).size = l.length := rfl
theorem ok_put (l : List UInt8) : okS ⟨(putL l).toArray⟩ = true := by
  unfold okS
  rw [size_mk, putL_length]
  simp [all_put]
set_option maxRecDepth 100000 in
theorem hx_nm : ∀ n : Fin 256, dig n.val.toUInt8 = true → hx (nm n.val.toUInt8.toNat).toNat = n.val.toUInt8 := by decide
theorem hx_dig (c : UInt8) (h : dig c = true) : hx (nm c.toNat).toNat = c := by
  have hc := c.toNat_lt
  have := hx_nm ⟨c.toNat, by omega⟩
  simp only [Nat.toUInt8, UInt8.ofNat_toNat] at this
  exact this h
theorem putL_get (s : ByteArray) (h : okS s = true) : putL (getL s.data.toList (s.size / 2)) = s.data.toList := by
  unfold okS at h
  simp only [Bool.and_eq_true, decide_eq_true_eq] at h
  obtain ⟨he, ha⟩ := h
  have hl : s.data.toList.length = s.size := by simp
  unfold allD at ha
  rw [List.all_eq_true] at ha
  apply List.ext_getElem?
  intro j
  by_cases hj : j < s.size
  · have hi : j / 2 < (getL s.data.toList (s.size / 2)).length := by rw [getL_length]; omega
    have ⟨a, b⟩ := putL_even (getL s.data.toList (s.size / 2)) (j / 2) hi
    have e : ((getL s.data.toList (s.size / 2))[j / 2]'hi) = bt s.data.toList (j / 2) := by simp [getL]
    rw [e] at a b
    have hb := bt_int s.data.toList (j / 2)
    have h0 : 2 * (j / 2) < s.data.toList.length := by omega
    have h1 : 2 * (j / 2) + 1 < s.data.toList.length := by omega
    rw [List.getD_eq_getElem?_getD, List.getD_eq_getElem?_getD, List.getElem?_eq_getElem h0, List.getElem?_eq_getElem h1] at hb
    simp only [Option.getD_some] at hb
    have n0 := nm_bd ((s.data.toList[2 * (j / 2)]'h0).toNat)
    have n1 := nm_bd ((s.data.toList[2 * (j / 2) + 1]'h1).toNat)
    have d0 := hx_dig _ (ha _ (List.getElem_mem h0))
    have d1 := hx_dig _ (ha _ (List.getElem_mem h1))
    rcases Nat.mod_two_eq_zero_or_one j with hm | hm
    · rw [show (bt s.data.toList (j / 2)).toNat / 16 = (nm (s.data.toList[2 * (j / 2)]'h0).toNat).toNat by omega, d0, ← List.getElem?_eq_getElem h0, show 2 * (j / 2) = j by omega] at a
      exact a
    · rw [show (bt s.data.toList (j / 2)).toNat % 16 = (nm (s.data.toList[2 * (j / 2) + 1]'h1).toNat).toNat by omega, d1, ← List.getElem?_eq_getElem h1, show 2 * (j / 2) + 1 = j by omega] at b
      exact b
  · rw [List.getElem?_eq_none (by rw [putL_length, getL_length]; omega), List.getElem?_eq_none (by omega)]

/-- hex.Get of what hex.Put made. -/
def GotPut (l : List UInt8) (n : Nat) (w : World) (e : Ending) (w' : World) : Prop :=
  Below w.heap.size w w' ∧ ∃ A c, e = .returned (.tuple #[.slice A n c, .int .i64 0]) ∧ RdA w' w'.heap.size A l
theorem get_put (l : List UInt8) (n : Nat) (w : World) (hn : l.length = n) (hm : n ≤ 8000) : Calls Try.prog 8 #[.string ⟨(putL l).toArray⟩] w (GotPut l n w) := by
  subst hn
  have hs : (⟨(putL l).toArray⟩ : ByteArray).size = 2 * l.length := by rw [size_mk, putL_length]
  refine (get_ok ⟨(putL l).toArray⟩ w (by rw [hs]; omega) (ok_put l)).mono fun e w' ⟨hb, A, c, he, hr⟩ => ?_
  rw [hs, show 2 * l.length / 2 = l.length by omega] at he hr
  have hd : (⟨(putL l).toArray⟩ : ByteArray).data.toList = putL l := rfl
  rw [hd, getL_put] at hr
  exact ⟨hb, A, c, he, hr⟩
theorem not_ok (s : ByteArray) (h : okS s = false) : s.size % 2 = 1 ∨ s.size % 2 = 0 ∧ allD s.data.toList = false := by
  unfold okS at h
  rcases Nat.mod_two_eq_zero_or_one s.size with h0 | h0
  · exact .inr ⟨h0, by simpa [h0] using h⟩
  · exact .inl h0
theorem mk_list (s : ByteArray) : (⟨s.data.toList.toArray⟩ : ByteArray) = s := by simp
end Hx
end Go.Proofs.Ytmgdhkgkjimmoaa
