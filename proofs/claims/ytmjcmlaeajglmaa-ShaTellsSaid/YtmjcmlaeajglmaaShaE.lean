/-
  Contracts of the laws' helpers: 'is', 'alive'; sha.Of and sha.Pad of too many.
-/
import Derived.Test.YtmjcmlaeajglmaaShaO
import Derived.Test.YtmjcmlaeajglmaaHexP
import Derived.Lib.ConvBytes
import Derived.Deep.WholeRow
namespace Go.Proofs.Ytmjcmlaeajglmaa
open Go.RowKit
namespace Hx
open Go Wd Sh
set_option linter.unusedVariables false

theorem str_bytes (l : List UInt8) (w : World) : ∃ C WB, (convert 9 22 (.string ⟨l.toArray⟩)).run Try.prog w = .ok (.slice (some ⟨w.heap.size, 0, none⟩) l.length C) WB ∧ RdA WB WB.heap.size (some ⟨w.heap.size, 0, none⟩) l ∧ Below w.heap.size w WB := by
  have h := Lib.run_convert_string_bytes (P := Try.prog) w 9 22 5 ⟨l.toArray⟩ Try.underlying9 Try.underlying22 Try.underlying5
  refine ⟨_, _, h, ?_, ⟨rfl, rfl, rfl, by rw [Lib.bytesWorld_size]; omega, fun k hk => Lib.bytesWorld_at_old w _ _ k hk⟩⟩
  intro hp
  refine ⟨w.heap.size, 0, rfl, by rw [Lib.bytesWorld_size]; omega, fun j hj => ?_⟩
  have hs : (⟨l.toArray⟩ : ByteArray).size = l.length := by simp [ByteArray.size]
  rw [Nat.zero_add, Lib.bytesWorld_cell w _ _ j (by rw [hs]; exact hj)]
  simp [List.getD_eq_getElem?_getD, hj]

set_option maxHeartbeats 2000000 in
set_option maxRecDepth 100000 in
theorem is_yes (s ws : ByteArray) (l D : List UInt8) (w : World) (hs : s = ⟨l.toArray⟩) (hD : dig l = D) (hw : ws = ⟨(putL D).toArray⟩) (hl : l.length ≤ 16384) :
    Calls Try.prog 35 #[.string s, .string ws] w fun e w' => e = .returned (.bool true) ∧ Below w.heap.size w w' := by
  subst hs
  obtain ⟨C, WB, hconv, hrd, hb1⟩ := str_bytes l w
  have hDl : D.length = 20 := by rw [← hD]; exact dig_length l
  have HD := Lib.hid hD
  have HW := Lib.hid hw
  have HRD := Lib.hid hrd
  have HS1 : Hid ((Try.prog.info? 23).map (·.size) = some ((D.map encB).toArray).size) := by show _ = _; rw [List.size_toArray, List.length_map, hDl]; kernel_rfl
  have HS2 : Hid (z20.size = ((D.map encB).toArray).size) := by show (20 : Nat) = _; rw [List.size_toArray, List.length_map, hDl]
  have HDL := Lib.hid hDl
  clear hD hw hrd hDl
  go_enter Try.func35, Try.ntmps35
  go_wp2_with (first
    | (go_at_call 10; (with_reducible refine (of_ok64 (some ⟨w.heap.size, 0, none⟩) l.length C l WB HRD.out rfl (fun h => by cases h) hl D HD.out).mono ?_); rintro e w2 ⟨rfl, hb2⟩)
    | (refine wpList_store_row rfl _ _ _ rfl w2.heap.size ((D.map encB).toArray) rfl rfl 23 z20 (heap_alloc_new _ _) HS1.out HS2.out (map_one encB_one _) ?_)
    | fail)
  have hb3 := stpA (stp hb1 hb2) (.cells (D.map encB).toArray 23)
  have hblk : Blk encB (w2.alloc (.cells (D.map encB).toArray 23)) w2.heap.size 23 D := heap_alloc_new _ _
  have HP : Hid (Calls Try.prog 29 #[.slice (some ⟨w2.heap.size, 0, none⟩) 20 20] (w2.alloc (.cells (D.map encB).toArray 23)) (fun e w' => e = .returned (.string ws) ∧ Below (w2.alloc (.cells (D.map encB).toArray 23)).heap.size (w2.alloc (.cells (D.map encB).toArray 23)) w')) := by
    have := put_any (some ⟨w2.heap.size, 0, none⟩) 20 20 D (w2.alloc (.cells (D.map encB).toArray 23)) (rdA_rdB.1 hblk.slice) HDL.out (by decide)
    rw [← HW.out] at this
    exact this
  rw [World.setRow_alloc_new]
  clear hblk
  go_wp2_with (go_at_call 29; (with_reducible refine HP.out.mono ?_); rintro e w4 ⟨rfl, hb4⟩)
  go_ret
  exact ⟨rfl, stp hb3 hb4⟩
theorem is_abc (w : World) : Calls Try.prog 35 #[.string ⟨#[97, 98, 99]⟩, .string ⟨#[97, 57, 57, 57, 51, 101, 51, 54, 52, 55, 48, 54, 56, 49, 54, 97, 98, 97, 51, 101, 50, 53, 55, 49, 55, 56, 53, 48, 99, 50, 54, 99, 57, 99, 100, 48, 100, 56, 57, 100]⟩] w fun e w' => e = .returned (.bool true) ∧ Below w.heap.size w w' :=
  is_yes _ _ [97, 98, 99] [0xa9, 0x99, 0x3e, 0x36, 0x47, 0x06, 0x81, 0x6a, 0xba, 0x3e, 0x25, 0x71, 0x78, 0x50, 0xc2, 0x6c, 0x9c, 0xd0, 0xd8, 0x9d] w rfl dig_abc (by decide +kernel) (by decide)
theorem is_none (w : World) : Calls Try.prog 35 #[.string ⟨#[]⟩, .string ⟨#[100, 97, 51, 57, 97, 51, 101, 101, 53, 101, 54, 98, 52, 98, 48, 100, 51, 50, 53, 53, 98, 102, 101, 102, 57, 53, 54, 48, 49, 56, 57, 48, 97, 102, 100, 56, 48, 55, 48, 57]⟩] w fun e w' => e = .returned (.bool true) ∧ Below w.heap.size w w' :=
  is_yes _ _ [] [0xda, 0x39, 0xa3, 0xee, 0x5e, 0x6b, 0x4b, 0x0d, 0x32, 0x55, 0xbf, 0xef, 0x95, 0x60, 0x18, 0x90, 0xaf, 0xd8, 0x07, 0x09] w rfl dig_none (by decide +kernel) (by decide)
theorem is_long (w : World) : Calls Try.prog 35 #[.string ⟨#[97, 98, 99, 100, 98, 99, 100, 101, 99, 100, 101, 102, 100, 101, 102, 103, 101, 102, 103, 104, 102, 103, 104, 105, 103, 104, 105, 106, 104, 105, 106, 107, 105, 106, 107, 108, 106, 107, 108, 109, 107, 108, 109, 110, 108, 109, 110, 111, 109, 110, 111, 112, 110, 111, 112, 113]⟩, .string ⟨#[56, 52, 57, 56, 51, 101, 52, 52, 49, 99, 51, 98, 100, 50, 54, 101, 98, 97, 97, 101, 52, 97, 97, 49, 102, 57, 53, 49, 50, 57, 101, 53, 101, 53, 52, 54, 55, 48, 102, 49]⟩] w fun e w' => e = .returned (.bool true) ∧ Below w.heap.size w w' :=
  is_yes _ _ [97, 98, 99, 100, 98, 99, 100, 101, 99, 100, 101, 102, 100, 101, 102, 103, 101, 102, 103, 104, 102, 103, 104, 105, 103, 104, 105, 106, 104, 105, 106, 107, 105, 106, 107, 108, 106, 107, 108, 109, 107, 108, 109, 110, 108, 109, 110, 111, 109, 110, 111, 112, 110, 111, 112, 113] [0x84, 0x98, 0x3e, 0x44, 0x1c, 0x3b, 0xd2, 0x6e, 0xba, 0xae, 0x4a, 0xa1, 0xf9, 0x51, 0x29, 0xe5, 0xe5, 0x46, 0x70, 0xf1] w rfl dig_long (by decide +kernel) (by decide)
set_option maxHeartbeats 1000000 in
set_option maxRecDepth 100000 in
theorem alive_any (w : World) : Calls Try.prog 14 #[] w fun e w' => e = .returned (.bool true) ∧ Below w.heap.size w w' := by
  go_enter Try.func14, Try.ntmps14
  go_wp2_with (first
    | (go_at_call 35; (with_reducible refine (is_abc w).mono ?_); rintro e w1 ⟨rfl, hb1⟩)
    | (go_at_call 35; (with_reducible refine (is_none w1).mono ?_); rintro e w2 ⟨rfl, hb2⟩)
    | fail)
  go_ret
  exact ⟨rfl, stp hb1 hb2⟩

end Hx
end Go.Proofs.Ytmjcmlaeajglmaa
