/-
  Contracts of package chain's plain functions: Next, isKey, Fits, Take.
-/
import Derived.Test.YtmjcmlaeajglmaaHexI
import Derived.Test.YtmjcmlaeajglmaaShaF
import Derived.Defers
namespace Go.Proofs.Ytmjcmlaeajglmaa
open Go.RowKit
namespace Hx
open Go Wd Sh
set_option linter.unusedVariables false

/-- The key behind a text. -/
def keyB (s : ByteArray) : ByteArray := ⟨(putL (dig s.data.toList)).toArray⟩
/-- Is a text a key? -/
def isK (s : ByteArray) : Bool := decide ((s.size : Int) = 40) && allD s.data.toList
/-- Does a key fit? -/
def fitB (stored key : ByteArray) : Bool := isK stored && isK key && decide (keyB key = stored)
theorem isK_size {s : ByteArray} (h : isK s = true) : s.size = 40 := by
  have h1 : (s.size : Int) = 40 := of_decide_eq_true (Bool.and_eq_true_iff.1 h).1
  omega
theorem ba_eq (s : ByteArray) : s = ⟨s.data.toList.toArray⟩ := by cases s; simp
theorem seq_b (a b : ByteArray) : (a.toList == b.toList) = decide (a = b) := by
  rw [Bool.eq_iff_iff]
  simp only [beq_iff_eq, decide_eq_true_eq, ByteArray.toList_eq]
  constructor
  · intro h
    cases a; cases b
    simpa using h
  · intro h; rw [h]
theorem ba_len (s : ByteArray) : s.data.toList.length = s.size := by rw [Array.length_toList]; rfl

set_option maxHeartbeats 2000000 in
set_option maxRecDepth 100000 in
theorem next_ok (s : ByteArray) (w : World) (hm : s.size ≤ 16384) (ks : ByteArray) (hk : keyB s = ks) :
    Calls Try.prog 21 #[.string s] w fun e w' => e = .returned (.tuple #[.string ks, .int .i64 0]) ∧ Below w.heap.size w w' := by
  obtain ⟨l, hl⟩ : ∃ l, s.data.toList = l := ⟨_, rfl⟩
  obtain rfl : s = ⟨l.toArray⟩ := by rw [← hl]
  have hlen : l.length ≤ 16384 := by rw [← hl, ba_len]; exact hm
  obtain ⟨D, hD⟩ : ∃ D, dig l = D := ⟨_, rfl⟩
  have hw : ks = ⟨(putL D).toArray⟩ := by rw [← hk, ← hD]; simp [keyB]
  obtain ⟨C, WB, hconv, hrd, hb1⟩ := str_bytes l w
  have hDl : D.length = 20 := by rw [← hD]; exact dig_length l
  have HD := Lib.hid hD
  have HW := Lib.hid hw
  have HRD := Lib.hid hrd
  have HS1 : Hid ((Try.prog.info? 23).map (·.size) = some ((D.map encB).toArray).size) := by show _ = _; rw [List.size_toArray, List.length_map, hDl]; kernel_rfl
  have HS2 : Hid (z20.size = ((D.map encB).toArray).size) := by show (20 : Nat) = _; rw [List.size_toArray, List.length_map, hDl]
  have HDL := Lib.hid hDl
  clear hD hw hrd hDl hk hl hm
  go_enter Try.func21, Try.ntmps21
  go_wp2_with (first
    | (go_at_call 10; (with_reducible refine (of_ok64 (some ⟨w.heap.size, 0, none⟩) l.length C l WB HRD.out rfl (fun h => by cases h) hlen D HD.out).mono ?_); rintro e w2 ⟨rfl, hb2⟩)
    | (refine wpList_store_row rfl _ _ _ rfl w2.heap.size ((D.map encB).toArray) rfl rfl 23 z20 (heap_alloc_new _ _) HS1.out HS2.out (map_one encB_one _) ?_)
    | fail)
  have hb3 := stpA (stp hb1 hb2) (.cells (D.map encB).toArray 23)
  have hblk : Blk encB (w2.alloc (.cells (D.map encB).toArray 23)) w2.heap.size 23 D := heap_alloc_new _ _
  have HP : Hid (Calls Try.prog 29 #[.slice (some ⟨w2.heap.size, 0, none⟩) 20 20] (w2.alloc (.cells (D.map encB).toArray 23)) (fun e w' => e = .returned (.string ks) ∧ Below (w2.alloc (.cells (D.map encB).toArray 23)).heap.size (w2.alloc (.cells (D.map encB).toArray 23)) w')) := by
    have := put_any (some ⟨w2.heap.size, 0, none⟩) 20 20 D (w2.alloc (.cells (D.map encB).toArray 23)) (rdA_rdB.1 hblk.slice) HDL.out (by decide)
    rw [← HW.out] at this
    exact this
  rw [World.setRow_alloc_new]
  clear hblk
  go_wp2_with (go_at_call 29; (with_reducible refine HP.out.mono ?_); rintro e w4 ⟨rfl, hb4⟩)
  go_ret2
  exact ⟨rfl, stp hb3 hb4⟩

set_option maxHeartbeats 2000000 in
set_option maxRecDepth 100000 in
theorem next_many (s : ByteArray) (w : World) (hm : 16384 < s.size) :
    Calls Try.prog 21 #[.string s] w fun e w' => e = .returned (.tuple #[.string ⟨#[]⟩, .int .i64 4]) ∧ Below w.heap.size w w' := by
  obtain ⟨l, hl⟩ : ∃ l, s.data.toList = l := ⟨_, rfl⟩
  obtain rfl : s = ⟨l.toArray⟩ := by rw [← hl]
  have hlen : 16384 < l.length := by rw [← hl, ba_len]; exact hm
  obtain ⟨C, WB, hconv, hrd, hb1⟩ := str_bytes l w
  clear hrd hl hm
  go_enter Try.func21, Try.ntmps21
  go_wp2_with (first
    | (go_at_call 10; (with_reducible refine (of_many64 (some ⟨w.heap.size, 0, none⟩) l.length C WB hlen).mono ?_); rintro e w2 ⟨rfl, hb2⟩)
    | (refine wpList_store_row rfl _ _ _ rfl w2.heap.size z20 rfl rfl 23 z20 (heap_alloc_new _ _) size22 rfl z20_one ?_; rw [World.setRow_alloc_new])
    | fail)
  go_ret2
  exact ⟨rfl, stpA (stp hb1 hb2) _⟩

set_option maxRecDepth 100000 in
theorem iskey_b (s : ByteArray) (w : World) (b : Bool) (h : isK s = b) :
    Calls Try.prog 39 #[.string s] w fun e w' => e = .returned (.bool b) ∧ Below w.heap.size w w' := by
  have H : Hid (Calls Try.prog 28 #[.string s, .int .i64 40] w fun e w' => e = .returned (.bool b) ∧ Below w.heap.size w w') := by
    have := is_any s 40 w
    rw [show (decide ((s.size : Int) = 40) && allD s.data.toList) = b from h] at this
    exact this
  clear h
  go_enter Try.func39, Try.ntmps39
  go_wp2_with (go_at_call 28; (with_reducible refine H.out.mono ?_); rintro e w1 ⟨rfl, hb1⟩)
  go_ret
  exact ⟨rfl, hb1⟩

set_option maxHeartbeats 1000000 in
set_option maxRecDepth 100000 in
theorem fits_b (stored key : ByteArray) (w : World) (b : Bool) (h : fitB stored key = b) :
    Calls Try.prog 26 #[.string stored, .string key] w fun e w' => e = .returned (.bool b) ∧ Below w.heap.size w w' := by
  unfold fitB at h
  cases h1 : isK stored
  · rw [h1] at h
    obtain rfl : b = false := by simpa using h.symm
    have H1 := Lib.hid h1
    clear h h1
    go_enter Try.func26, Try.ntmps26
    go_wp2_with (go_at_call 39; (with_reducible refine (iskey_b stored w false H1.out).mono ?_); rintro e w1 ⟨rfl, hb1⟩)
    go_ret
    exact ⟨rfl, hb1⟩
  · cases h2 : isK key
    · rw [h1, h2] at h
      obtain rfl : b = false := by simpa using h.symm
      have H1 := Lib.hid h1
      have H2 := Lib.hid h2
      clear h h1 h2
      go_enter Try.func26, Try.ntmps26
      go_wp2_with (first
        | (go_at_call 39; (with_reducible refine (iskey_b stored w true H1.out).mono ?_); rintro e w1 ⟨rfl, hb1⟩)
        | (go_at_call 39; (with_reducible refine (iskey_b key w1 false H2.out).mono ?_); rintro e w2 ⟨rfl, hb2⟩)
        | fail)
      go_ret
      exact ⟨rfl, stp hb1 hb2⟩
    · rw [h1, h2] at h
      obtain ⟨ks, hk⟩ : ∃ ks, keyB key = ks := ⟨_, rfl⟩
      rw [hk] at h
      have hb : decide (ks = stored) = b := by simpa using h
      have hsz : key.size ≤ 16384 := by have := isK_size h2; omega
      have hq : (ks.toList == stored.toList) = b := by rw [seq_b]; exact hb
      have H1 := Lib.hid h1
      have H2 := Lib.hid h2
      have HK := Lib.hid hk
      have HS := Lib.hid hsz
      clear h h1 h2 hk hb hsz
      go_enter Try.func26, Try.ntmps26
      go_wp2_with (first
        | (go_at_call 39; (with_reducible refine (iskey_b stored w true H1.out).mono ?_); rintro e w1 ⟨rfl, hb1⟩)
        | (go_at_call 39; (with_reducible refine (iskey_b key w1 true H2.out).mono ?_); rintro e w2 ⟨rfl, hb2⟩)
        | (go_at_call 21; (with_reducible refine (next_ok key w2 HS.out ks HK.out).mono ?_); rintro e w3 ⟨rfl, hb3⟩)
        | fail)
      go_ret
      exact ⟨rfl, stp (stp hb1 hb2) hb3⟩
end Hx
end Go.Proofs.Ytmjcmlaeajglmaa
