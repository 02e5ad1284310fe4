/-
  HeadFrame: a content is told to be long in one way at most, and a field of another name counts for nothing: for all fields (40 at most, 3,000 bytes) and every field (1,000 bytes at most for name and value).
-/
import Derived.Test.YtfdhogaknlabkaaG18
import Derived.HandedShaped
import Derived.Shelf.Vars
import Derived.WalkKit
import Derived.ProofKit
import Derived.OpenShut
import Derived.ShutString
import Derived.ChangeOld
import Derived.Below
namespace Go.Proofs.Ytfdhogaknlabkaa.headFrame
open Go.ChangeShapes Go.WideShapes Go.ChangeAt Go.RowKit
open Go.ChangeMaps (open_string shut_string)
open Hx Lx Hd
set_option linter.unusedVariables false

theorem own : ownKnob Try.prog.godebug = none := by kernel_rfl
theorem laidOut : laidOutB Try.prog = true := by kernel_rfl

theorem own_emptyB (w : World) (o : Obj) (T : TypeId) (k : Nat) : ((w.alloc o).alloc (.cells #[] T)).ownsRow (w.heap.size + 1) T k (.slice (some ⟨w.heap.size + 1, 0, none⟩) 0 0) 0 [] := by
  have := own_empty (w.alloc o) T k
  rwa [World.size_alloc] at this
theorem nb_grown {W w4 : World} {b : Nat} {o : Obj} {row : Option Nat} (h : W.heap[b]? = some o) (hg : W.grownBy w4 row) (hne : some b ≠ row) : w4.heap[b]? = some o := (hg.block b (Array.getElem?_eq_some_iff.1 h).1 hne).trans h
theorem rdc_one {W : World} {b : Nat} {x y : ByteArray} {T : TypeId} {fr : Nat × Nat} (h : W.heap[b]? = some (.cells #[.string x, .string y] T fr)) : RdC PrC W W.heap.size (some ⟨b, 0, none⟩) [⟨x.data.toList, y.data.toList⟩] := by
  intro _
  refine ⟨b, 0, rfl, (Array.getElem?_eq_some_iff.1 h).1, fun j hj => ?_⟩
  obtain rfl : j = 0 := by simp at hj; exact hj
  refine ⟨[.string x, .string y], ⟨x, y, rfl, rfl, rfl⟩, fun i hi => ?_⟩
  rw [cellV _ _ _ _ _ _ h]
  match i, hi with
  | 0, _ => rfl
  | 1, _ => rfl
theorem row_plus {W : World} {base n c : Nat} {A : Option Addr} {l l2 : List Pr} (h : W.ownsRow base 25 2 (.slice A n c) n ((l.map pbOf).flatMap prCells ++ (l2.map pbOf).flatMap prCells)) : RdC PrC W W.heap.size A (l ++ l2) := by
  rw [← List.flatMap_append, ← List.map_append] at h
  have := (own_attrs h).1
  rw [map_pbOf] at this
  exact this
set_option maxHeartbeats 8000000 in
set_option maxRecDepth 100000 in
theorem fr_great (A : Option Addr) (n cp : Nat) (l : List Pr) (x y : ByteArray) (w : World) (hr : RdC PrC w w.heap.size A l) (hn : l.length = n) (hx : n ≤ 9223372036854775807) (hz : A = none → cp = 0) (hX : Mx w) (hg : greatH l = true) : Calls Try.prog 8 #[.slice A n cp, .agg #[.string x, .string y]] w fun e w' => e = .returned (.bool true) ∧ Below w.heap.size w w' := by
  have hb0 : Below w.heap.size w (w.alloc (.cells #[.string x, .string y] 25)) := stpA (Below.refl _ _) _
  have HA := Lib.hid (alive14 (w.alloc (.cells #[.string x, .string y] 25)) (hX.below hb0))
  have HR0 := Lib.hid (hr.on hb0)
  have HCL : Hid (∀ W, Below (w.alloc (.cells #[.string x, .string y] 25)).heap.size (w.alloc (.cells #[.string x, .string y] 25)) W → W.cell? ⟨w.heap.size, 0, none⟩ = some (.string x) ∧ W.cell? ⟨w.heap.size, 1, none⟩ = some (.string y)) := Lib.hid fun W h => ⟨cellV _ _ 0 _ _ _ (kept_heap (heap_alloc_new w _) h), cellV _ _ 1 _ _ _ (kept_heap (heap_alloc_new w _) h)⟩
  have HWF : Hid (∀ W, Below (w.alloc (.cells #[.string x, .string y] 25)).heap.size (w.alloc (.cells #[.string x, .string y] 25)) W → Below w.heap.size w W) := Lib.hid fun W h => stp hb0 h
  have HG : Hid (∀ W, Below (w.alloc (.cells #[.string x, .string y] 25)).heap.size (w.alloc (.cells #[.string x, .string y] 25)) W → Calls Try.prog 20 #[.slice A n cp] W fun e w' => e = .returned (.bool true) ∧ Below W.heap.size W w') := Lib.hid fun W hW => rgreat14 A n cp l W (HR0.out.on hW) hn hx true hg
  clear hr hn hx hX hg hz hb0
  go_enter Try.func8, Try.ntmps8
  go_wp2_with (first
    | (go_at_call 16; (with_reducible refine (HA.out).mono ?_); rintro e w1 ⟨rfl, hb1⟩; have HB1 := Lib.hid hb1; clear hb1)
    | (go_at_call 20; (with_reducible refine (HG.out w1 HB1.out).mono ?_); rintro e w2 ⟨rfl, hb2⟩; have HB2 := Lib.hid (stp HB1.out hb2); obtain ⟨cx2, cy2⟩ := HCL.out _ HB2.out; clear hb2)
    | fail)
  go_ret
  exact ⟨rfl, HWF.out _ HB2.out⟩
set_option maxHeartbeats 8000000 in
set_option maxRecDepth 100000 in
theorem fr_ln (A : Option Addr) (n cp : Nat) (l : List Pr) (x y : ByteArray) (w : World) (hr : RdC PrC w w.heap.size A l) (hn : l.length = n) (hx : n ≤ 9223372036854775807) (hz : A = none → cp = 0) (hX : Mx w) (hg : greatH l = false) (hs : 1000 < x.size) : Calls Try.prog 8 #[.slice A n cp, .agg #[.string x, .string y]] w fun e w' => e = .returned (.bool true) ∧ Below w.heap.size w w' := by
  have hb0 : Below w.heap.size w (w.alloc (.cells #[.string x, .string y] 25)) := stpA (Below.refl _ _) _
  have HA := Lib.hid (alive14 (w.alloc (.cells #[.string x, .string y] 25)) (hX.below hb0))
  have HR0 := Lib.hid (hr.on hb0)
  have HCL : Hid (∀ W, Below (w.alloc (.cells #[.string x, .string y] 25)).heap.size (w.alloc (.cells #[.string x, .string y] 25)) W → W.cell? ⟨w.heap.size, 0, none⟩ = some (.string x) ∧ W.cell? ⟨w.heap.size, 1, none⟩ = some (.string y)) := Lib.hid fun W h => ⟨cellV _ _ 0 _ _ _ (kept_heap (heap_alloc_new w _) h), cellV _ _ 1 _ _ _ (kept_heap (heap_alloc_new w _) h)⟩
  have HWF : Hid (∀ W, Below (w.alloc (.cells #[.string x, .string y] 25)).heap.size (w.alloc (.cells #[.string x, .string y] 25)) W → Below w.heap.size w W) := Lib.hid fun W h => stp hb0 h
  have HG : Hid (∀ W, Below (w.alloc (.cells #[.string x, .string y] 25)).heap.size (w.alloc (.cells #[.string x, .string y] 25)) W → Calls Try.prog 20 #[.slice A n cp] W fun e w' => e = .returned (.bool false) ∧ Below W.heap.size W w') := Lib.hid fun W hW => rgreat14 A n cp l W (HR0.out.on hW) hn hx false hg
  have d1 : decide ((1000 : Int) < (x.size : Int)) = true := decide_eq_true (by omega)
  clear hr hn hx hX hg hz hb0 hs
  go_enter Try.func8, Try.ntmps8
  go_wp2_with (first
    | (go_at_call 16; (with_reducible refine (HA.out).mono ?_); rintro e w1 ⟨rfl, hb1⟩; have HB1 := Lib.hid hb1; clear hb1)
    | (go_at_call 20; (with_reducible refine (HG.out w1 HB1.out).mono ?_); rintro e w2 ⟨rfl, hb2⟩; have HB2 := Lib.hid (stp HB1.out hb2); obtain ⟨cx2, cy2⟩ := HCL.out _ HB2.out; clear hb2)
    | fail)
  go_ret
  exact ⟨rfl, HWF.out _ HB2.out⟩
set_option maxHeartbeats 8000000 in
set_option maxRecDepth 100000 in
theorem fr_lv (A : Option Addr) (n cp : Nat) (l : List Pr) (x y : ByteArray) (w : World) (hr : RdC PrC w w.heap.size A l) (hn : l.length = n) (hx : n ≤ 9223372036854775807) (hz : A = none → cp = 0) (hX : Mx w) (hg : greatH l = false) (hs0 : ¬ 1000 < x.size) (hs : 1000 < y.size) : Calls Try.prog 8 #[.slice A n cp, .agg #[.string x, .string y]] w fun e w' => e = .returned (.bool true) ∧ Below w.heap.size w w' := by
  have hb0 : Below w.heap.size w (w.alloc (.cells #[.string x, .string y] 25)) := stpA (Below.refl _ _) _
  have HA := Lib.hid (alive14 (w.alloc (.cells #[.string x, .string y] 25)) (hX.below hb0))
  have HR0 := Lib.hid (hr.on hb0)
  have HCL : Hid (∀ W, Below (w.alloc (.cells #[.string x, .string y] 25)).heap.size (w.alloc (.cells #[.string x, .string y] 25)) W → W.cell? ⟨w.heap.size, 0, none⟩ = some (.string x) ∧ W.cell? ⟨w.heap.size, 1, none⟩ = some (.string y)) := Lib.hid fun W h => ⟨cellV _ _ 0 _ _ _ (kept_heap (heap_alloc_new w _) h), cellV _ _ 1 _ _ _ (kept_heap (heap_alloc_new w _) h)⟩
  have HWF : Hid (∀ W, Below (w.alloc (.cells #[.string x, .string y] 25)).heap.size (w.alloc (.cells #[.string x, .string y] 25)) W → Below w.heap.size w W) := Lib.hid fun W h => stp hb0 h
  have HG : Hid (∀ W, Below (w.alloc (.cells #[.string x, .string y] 25)).heap.size (w.alloc (.cells #[.string x, .string y] 25)) W → Calls Try.prog 20 #[.slice A n cp] W fun e w' => e = .returned (.bool false) ∧ Below W.heap.size W w') := Lib.hid fun W hW => rgreat14 A n cp l W (HR0.out.on hW) hn hx false hg
  have d1 : decide ((1000 : Int) < (x.size : Int)) = false := decide_eq_false (by omega)
  have d2 : decide ((1000 : Int) < (y.size : Int)) = true := decide_eq_true (by omega)
  clear hr hn hx hX hg hz hb0 hs hs0
  go_enter Try.func8, Try.ntmps8
  go_wp2_with (first
    | (go_at_call 16; (with_reducible refine (HA.out).mono ?_); rintro e w1 ⟨rfl, hb1⟩; have HB1 := Lib.hid hb1; clear hb1)
    | (go_at_call 20; (with_reducible refine (HG.out w1 HB1.out).mono ?_); rintro e w2 ⟨rfl, hb2⟩; have HB2 := Lib.hid (stp HB1.out hb2); obtain ⟨cx2, cy2⟩ := HCL.out _ HB2.out; clear hb2)
    | fail)
  go_ret
  exact ⟨rfl, HWF.out _ HB2.out⟩
set_option maxHeartbeats 32000000 in
set_option maxRecDepth 100000 in
theorem fr_c1a (A : Option Addr) (n cp : Nat) (l : List Pr) (x y : ByteArray) (w : World) (hr : RdC PrC w w.heap.size A l) (hn : l.length = n) (hx : n ≤ 9223372036854775807) (hz : A = none → cp = 0) (hX : Mx w) (m0 m1 : Nat) (hmx0 : (findH l nCoding).length = m0) (hmx1 : (findH l nLength).length = m1) (K1 K2 : Nat) (k1 : Int) (hk1 : (K1 : Int) = k1) (hk2 : (K2 : Int) = k1) (N1 : Int) (hf1 : frameH l = (K1, N1, 140)) (hf2 : frameH (l ++ [⟨x.data.toList, y.data.toList⟩]) = (K2, N1, 140)) (hb1 : decide (lowS x = lowS ⟨#[116, 114, 97, 110, 115, 102, 101, 114, 45, 101, 110, 99, 111, 100, 105, 110, 103]⟩) = false) (hb2 : decide (lowS x = lowS ⟨#[99, 111, 110, 116, 101, 110, 116, 45, 108, 101, 110, 103, 116, 104]⟩) = false) (hg : greatH l = false) (hs0 : ¬ 1000 < x.size) (hs : ¬ 1000 < y.size) (hq : 1 < m0 + m1) : Calls Try.prog 8 #[.slice A n cp, .agg #[.string x, .string y]] w fun e w' => e = .returned (.bool true) ∧ Below w.heap.size w w' := by
  have hb0 : Below w.heap.size w (w.alloc (.cells #[.string x, .string y] 25)) := stpA (Below.refl _ _) _
  have HA := Lib.hid (alive14 (w.alloc (.cells #[.string x, .string y] 25)) (hX.below hb0))
  have HR0 := Lib.hid (hr.on hb0)
  have HCL : Hid (∀ W, Below (w.alloc (.cells #[.string x, .string y] 25)).heap.size (w.alloc (.cells #[.string x, .string y] 25)) W → W.cell? ⟨w.heap.size, 0, none⟩ = some (.string x) ∧ W.cell? ⟨w.heap.size, 1, none⟩ = some (.string y)) := Lib.hid fun W h => ⟨cellV _ _ 0 _ _ _ (kept_heap (heap_alloc_new w _) h), cellV _ _ 1 _ _ _ (kept_heap (heap_alloc_new w _) h)⟩
  have HWF : Hid (∀ W, Below (w.alloc (.cells #[.string x, .string y] 25)).heap.size (w.alloc (.cells #[.string x, .string y] 25)) W → Below w.heap.size w W) := Lib.hid fun W h => stp hb0 h
  have HG : Hid (∀ W, Below (w.alloc (.cells #[.string x, .string y] 25)).heap.size (w.alloc (.cells #[.string x, .string y] 25)) W → Calls Try.prog 20 #[.slice A n cp] W fun e w' => e = .returned (.bool false) ∧ Below W.heap.size W w') := Lib.hid fun W hW => rgreat14 A n cp l W (HR0.out.on hW) hn hx false hg
  obtain ⟨g1, g2, g3⟩ := great_no14 hg
  obtain ⟨j0, hj, hy0, hy1, hy2⟩ := info_parts infoPr
  have HI := Lib.hid hj
  have HZ0 := Lib.hid hy0
  have HZ1 := Lib.hid hy1
  have HZ2 := Lib.hid hy2
  have HN := Lib.hid hn
  have HNZ := Lib.hid hz
  have d1 : decide ((1000 : Int) < (x.size : Int)) = false := decide_eq_false (by omega)
  have d2 : decide ((1000 : Int) < (y.size : Int)) = false := decide_eq_false (by omega)
  have hn40 : n ≤ 40 := by omega
  have HN40 := Lib.hid hn40
  have hm1 : n + 1 ≤ 1000 := by omega
  have HXS : Hid (x.size ≤ 1000000) := Lib.hid (by omega)
  have hsm2 : SmP (l ++ [⟨x.data.toList, y.data.toList⟩]) := fun p hp => by
    rcases List.mem_append.1 hp with hp | hp
    · exact g2 p hp
    · rw [List.mem_singleton] at hp
      subst hp
      dsimp only
      rw [ba_l, ba_l]
      omega
  have HF1 : Hid (∀ W, Below (w.alloc (.cells #[.string x, .string y] 25)).heap.size (w.alloc (.cells #[.string x, .string y] 25)) W → Calls Try.prog 25 #[.slice A n cp] W fun e w' => e = .returned (.tuple #[.int .u8 k1, .int .i64 N1, .int .i64 140]) ∧ Below W.heap.size W w') := Lib.hid fun W hW => by
    have t := frame14 A n cp l W (HR0.out.on hW) hn (by omega) g2 K1 N1 140 hf1
    rw [hk1] at t
    exact t
  have HF2 : Hid (∀ A5 c5 W, RdC PrC W W.heap.size A5 (l ++ [⟨x.data.toList, y.data.toList⟩]) → Calls Try.prog 25 #[.slice A5 (n + 1) c5] W fun e w' => e = .returned (.tuple #[.int .u8 k1, .int .i64 N1, .int .i64 140]) ∧ Below W.heap.size W w') := Lib.hid fun A5 c5 W h => by
    have t := frame14 A5 (n + 1) c5 _ W h (by rw [List.length_append, hn]; rfl) hm1 hsm2 K2 N1 140 hf2
    rw [hk2] at t
    exact t
  have HS1 : Hid (∀ W, Calls Try.prog 32 #[.string x, .string ⟨#[116, 114, 97, 110, 115, 102, 101, 114, 45, 101, 110, 99, 111, 100, 105, 110, 103]⟩] W fun e w' => e = .returned (.bool false) ∧ Below W.heap.size W w') := Lib.hid fun W => same7 x ⟨#[116, 114, 97, 110, 115, 102, 101, 114, 45, 101, 110, 99, 111, 100, 105, 110, 103]⟩ false W HXS.out (by decide) hb1
  have HS2 : Hid (∀ W, Calls Try.prog 32 #[.string x, .string ⟨#[99, 111, 110, 116, 101, 110, 116, 45, 108, 101, 110, 103, 116, 104]⟩] W fun e w' => e = .returned (.bool false) ∧ Below W.heap.size W w') := Lib.hid fun W => same7 x ⟨#[99, 111, 110, 116, 101, 110, 116, 45, 108, 101, 110, 103, 116, 104]⟩ false W HXS.out (by decide) hb2
  have HD0 : Hid (∀ W, Below (w.alloc (.cells #[.string x, .string y] 25)).heap.size (w.alloc (.cells #[.string x, .string y] 25)) W → Calls Try.prog 30 #[.slice A n cp, .string ⟨#[116, 114, 97, 110, 115, 102, 101, 114, 45, 101, 110, 99, 111, 100, 105, 110, 103]⟩] W fun e w' => Below W.heap.size W w' ∧ ∃ A c, e = .returned (.slice A m0 c)) := Lib.hid fun W hW => (find14 A n cp l ⟨#[116, 114, 97, 110, 115, 102, 101, 114, 45, 101, 110, 99, 111, 100, 105, 110, 103]⟩ W (HR0.out.on hW) hn (by omega) g2 (by decide)).mono fun e w' ⟨q1, A, c, q2, _, _⟩ => ⟨q1, A, c, hmx0 ▸ q2⟩
  have HD1 : Hid (∀ W, Below (w.alloc (.cells #[.string x, .string y] 25)).heap.size (w.alloc (.cells #[.string x, .string y] 25)) W → Calls Try.prog 30 #[.slice A n cp, .string ⟨#[99, 111, 110, 116, 101, 110, 116, 45, 108, 101, 110, 103, 116, 104]⟩] W fun e w' => Below W.heap.size W w' ∧ ∃ A c, e = .returned (.slice A m1 c)) := Lib.hid fun W hW => (find14 A n cp l ⟨#[99, 111, 110, 116, 101, 110, 116, 45, 108, 101, 110, 103, 116, 104]⟩ W (HR0.out.on hW) hn (by omega) g2 (by decide)).mono fun e w' ⟨q1, A, c, q2, _, _⟩ => ⟨q1, A, c, hmx1 ▸ q2⟩
  have hmb : m0 + m1 ≤ 80 := by
    have f0 := find_len l nCoding
    have f1 := find_len l nLength
    rw [hmx0] at f0
    rw [hmx1] at f1
    omega
  have dm : decide ((1 : Int) < (m0 : Int) + (m1 : Int)) = true := decide_eq_true (by omega)
  have hmi : (m0 : Int) + (m1 : Int) ≤ 80 := by omega
  have q1 : (k1 == k1) = true := by simp
  have q2 : (N1 == N1) = true := by simp
  clear hr hn hx hX hg hz hb0 hs hs0 g1 g2 g3 hn40 hm1 hsm2 hmx0 hmx1 hk1 hk2 hf1 hf2 hb1 hb2 hj hy0 hy1 hy2 hq hmb
  go_enter Try.func8, Try.ntmps8
  go_wp2_with (first
    | (go_at_call 16; (with_reducible refine (HA.out).mono ?_); rintro e w1 ⟨rfl, hb1⟩; have HB1 := Lib.hid hb1; clear hb1)
    | (go_at_call 20; (with_reducible refine (HG.out w1 HB1.out).mono ?_); rintro e w2 ⟨rfl, hb2⟩; have HB2 := Lib.hid (stp HB1.out hb2); obtain ⟨cx2, cy2⟩ := HCL.out _ HB2.out; clear hb2)
    | (go_at_call 25; (with_reducible refine (HF1.out w2 HB2.out).mono ?_); rintro e w3 ⟨rfl, hb3⟩; have HB3 := Lib.hid (stp HB2.out hb3); obtain ⟨cx3, cy3⟩ := HCL.out _ HB3.out; clear hb3)
    | fail)
  have HW3 : Hid (∀ W, Below w3.heap.size w3 W → Below (w.alloc (.cells #[.string x, .string y] 25)).heap.size (w.alloc (.cells #[.string x, .string y] 25)) W) := Lib.hid fun W h => stp HB3.out h
  have HK : Hid (∀ W, Below w3.heap.size w3 W → W.cell? ⟨w.heap.size, 0, none⟩ = some (.string x) ∧ W.cell? ⟨w.heap.size, 1, none⟩ = some (.string y)) := Lib.hid fun W h => HCL.out _ (stp HB3.out h)
  have RL : Hid (∀ W, Below w3.heap.size w3 W → RdC PrC W W.heap.size A l) := Lib.hid fun W h => HR0.out.on (stp HB3.out h)
  have OA : Hid (∀ W, Below (w3.alloc (.cells #[] 25)).heap.size (w3.alloc (.cells #[] 25)) W → W.ownsRow w3.heap.size 25 2 (.slice (some ⟨w3.heap.size, 0, none⟩) 0 0) 0 []) := Lib.hid fun W h => own_belowK (own_empty w3 _ 2) h (Nat.le_refl _)
  have OC : Hid (∀ W, Below ((w3.alloc (.cells #[.string x, .string y] 25)).alloc (.cells #[] 25)).heap.size ((w3.alloc (.cells #[.string x, .string y] 25)).alloc (.cells #[] 25)) W → W.ownsRow (w3.heap.size + 1) 25 2 (.slice (some ⟨w3.heap.size + 1, 0, none⟩) 0 0) 0 []) := Lib.hid fun W h => own_belowK (own_emptyB w3 _ _ 2) h (Nat.le_refl _)
  have PB_ : Hid (∀ W, Below ((w3.alloc (.cells #[] 25)).alloc (.cells #[.string x, .string y] 25)).heap.size ((w3.alloc (.cells #[] 25)).alloc (.cells #[.string x, .string y] 25)) W → W.heap[w3.heap.size + 1]? = some (.cells #[.string x, .string y] 25 (0, 0))) := Lib.hid fun W h => kept_heap (by have := heap_alloc_new (w3.alloc (.cells #[] 25)) (.cells #[.string x, .string y] 25); rw [World.size_alloc] at this; exact this) h
  have PC_ : Hid (∀ W, Below (w3.alloc (.cells #[.string x, .string y] 25)).heap.size (w3.alloc (.cells #[.string x, .string y] 25)) W → W.heap[w3.heap.size]? = some (.cells #[.string x, .string y] 25 (0, 0))) := Lib.hid fun W h => kept_heap (heap_alloc_new w3 _) h
  go_region_held3 (fun W => W.cell? ⟨w.heap.size, 0, none⟩ = some (.string x) ∧ W.cell? ⟨w.heap.size, 1, none⟩ = some (.string y))
    (first | exact HK.out _ (by first | exact Below.refl _ _ | exact (Below.refl _ _).drew | exact stpA (Below.refl _ _) _ | exact (stpA (Below.refl _ _) _).drew | exact stpA (Below.refl _ _).drew _ | exact stpA (stpA (Below.refl _ _) _) _ | exact (stpA (stpA (Below.refl _ _) _) _).drew | exact stpA (stpA (Below.refl _ _) _).drew _ | exact stpA (stpA (Below.refl _ _).drew _) _) | exact HK.out _ K6.out | exact HK.out _ K5.out | exact HK.out _ K4.out | exact HK.out _ (stpA K4.out _) | exact HK.out _ (stpA K4.out _).drew)
    ((first
    | (refine step_append_prs (by rfl) (.tmp 42) (.tmp 43) 28 (by rfl) w3.heap.size 25 j0 (.agg #[.string ⟨#[]⟩, .string ⟨#[]⟩]) Try.underlying28 HI.out HZ0.out HZ1.out HZ2.out rfl _ 0 [] (by rfl) (OA.out _ (by first | exact Below.refl _ _ | exact (Below.refl _ _).drew)) _ A n cp l (by rfl) (RL.out _ (by first | exact Below.refl _ _ | exact (Below.refl _ _).drew | exact stpA (Below.refl _ _) _ | exact (stpA (Below.refl _ _) _).drew | exact stpA (Below.refl _ _).drew _ | exact stpA (stpA (Below.refl _ _) _) _ | exact (stpA (stpA (Below.refl _ _) _) _).drew | exact stpA (stpA (Below.refl _ _) _).drew _ | exact stpA (stpA (Below.refl _ _).drew _) _)) HN.out HNZ.out (by have := HN40.out; omega) (by simp; try omega) ?_; intro v4 w4 hown4 hgr4; rw [Nat.zero_add, List.nil_append] at hown4; obtain ⟨A4, c4, rfl⟩ := own_form2 hown4; have HO4 := Lib.hid hown4; have K4 : Hid (Below w3.heap.size w3 w4) := Lib.hid (Below.grown (by first | exact Below.refl _ _ | exact (Below.refl _ _).drew | exact stpA (Below.refl _ _) _ | exact (stpA (Below.refl _ _) _).drew | exact stpA (Below.refl _ _).drew _ | exact stpA (stpA (Below.refl _ _) _) _ | exact (stpA (stpA (Below.refl _ _) _) _).drew | exact stpA (stpA (Below.refl _ _) _).drew _ | exact stpA (stpA (Below.refl _ _).drew _) _) hgr4 (by simp; try omega) (fun g hg => by cases hg; first | exact Nat.le_refl _ | exact Nat.le_succ _)); clear hown4 hgr4)
    | (refine step_append_prs (by rfl) (.tmp 42) (.tmp 43) 28 (by rfl) w3.heap.size 25 j0 (.agg #[.string ⟨#[]⟩, .string ⟨#[]⟩]) Try.underlying28 HI.out HZ0.out HZ1.out HZ2.out rfl _ 0 [] (by rfl) (OA.out _ (by first | exact stpA (Below.refl _ _) _ | exact (stpA (Below.refl _ _) _).drew)) _ A n cp l (by rfl) (RL.out _ (by first | exact Below.refl _ _ | exact (Below.refl _ _).drew | exact stpA (Below.refl _ _) _ | exact (stpA (Below.refl _ _) _).drew | exact stpA (Below.refl _ _).drew _ | exact stpA (stpA (Below.refl _ _) _) _ | exact (stpA (stpA (Below.refl _ _) _) _).drew | exact stpA (stpA (Below.refl _ _) _).drew _ | exact stpA (stpA (Below.refl _ _).drew _) _)) HN.out HNZ.out (by have := HN40.out; omega) (by simp; try omega) ?_; intro v4 w4 hown4 hgr4; rw [Nat.zero_add, List.nil_append] at hown4; obtain ⟨A4, c4, rfl⟩ := own_form2 hown4; have HO4 := Lib.hid hown4; have K4 : Hid (Below w3.heap.size w3 w4) := Lib.hid (Below.grown (by first | exact Below.refl _ _ | exact (Below.refl _ _).drew | exact stpA (Below.refl _ _) _ | exact (stpA (Below.refl _ _) _).drew | exact stpA (Below.refl _ _).drew _ | exact stpA (stpA (Below.refl _ _) _) _ | exact (stpA (stpA (Below.refl _ _) _) _).drew | exact stpA (stpA (Below.refl _ _) _).drew _ | exact stpA (stpA (Below.refl _ _).drew _) _) hgr4 (by simp; try omega) (fun g hg => by cases hg; first | exact Nat.le_refl _ | exact Nat.le_succ _)); have NB := Lib.hid (nb_grown (PB_.out _ (by first | exact Below.refl _ _ | exact (Below.refl _ _).drew)) hgr4 (fun e => by simp [Value.ownBlock] at e; try omega)); clear hown4 hgr4)
    | (refine step_append_prs (by rfl) (.tmp 42) (.tmp 43) 28 (by rfl) (w3.heap.size + 1) 25 j0 (.agg #[.string ⟨#[]⟩, .string ⟨#[]⟩]) Try.underlying28 HI.out HZ0.out HZ1.out HZ2.out rfl _ 0 [] (by rfl) (OC.out _ (by first | exact Below.refl _ _ | exact (Below.refl _ _).drew)) _ A n cp l (by rfl) (RL.out _ (by first | exact Below.refl _ _ | exact (Below.refl _ _).drew | exact stpA (Below.refl _ _) _ | exact (stpA (Below.refl _ _) _).drew | exact stpA (Below.refl _ _).drew _ | exact stpA (stpA (Below.refl _ _) _) _ | exact (stpA (stpA (Below.refl _ _) _) _).drew | exact stpA (stpA (Below.refl _ _) _).drew _ | exact stpA (stpA (Below.refl _ _).drew _) _)) HN.out HNZ.out (by have := HN40.out; omega) (by simp; try omega) ?_; intro v4 w4 hown4 hgr4; rw [Nat.zero_add, List.nil_append] at hown4; obtain ⟨A4, c4, rfl⟩ := own_form2 hown4; have HO4 := Lib.hid hown4; have K4 : Hid (Below w3.heap.size w3 w4) := Lib.hid (Below.grown (by first | exact Below.refl _ _ | exact (Below.refl _ _).drew | exact stpA (Below.refl _ _) _ | exact (stpA (Below.refl _ _) _).drew | exact stpA (Below.refl _ _).drew _ | exact stpA (stpA (Below.refl _ _) _) _ | exact (stpA (stpA (Below.refl _ _) _) _).drew | exact stpA (stpA (Below.refl _ _) _).drew _ | exact stpA (stpA (Below.refl _ _).drew _) _) hgr4 (by simp; try omega) (fun g hg => by cases hg; first | exact Nat.le_refl _ | exact Nat.le_succ _)); have NC := Lib.hid (nb_grown (PC_.out _ (by first | exact stpA (Below.refl _ _) _ | exact (stpA (Below.refl _ _) _).drew)) hgr4 (fun e => by simp [Value.ownBlock] at e; try omega)); clear hown4 hgr4)
    | (refine step_append_prs (by rfl) (.tmp 44) (.tmp 46) 28 (by rfl) w3.heap.size 25 j0 (.agg #[.string ⟨#[]⟩, .string ⟨#[]⟩]) Try.underlying28 HI.out HZ0.out HZ1.out HZ2.out rfl _ n _ (by rfl) (own_belowK HO4.out (by first | exact stpA (Below.refl _ _) _ | exact (stpA (Below.refl _ _) _).drew) (Nat.le_refl _)) _ _ 1 1 [⟨x.data.toList, y.data.toList⟩] (by rfl) (rdc_one (by first | exact heap_alloc_new w4 _ | exact heap_alloc_new w4 _)) rfl (fun h => by cases h) (by have := HN40.out; omega) (by have := K4.out.size; first | omega | (simp; omega)) ?_; intro v5 w5 hown5 hgr5; obtain ⟨A5, c5, rfl⟩ := own_form2 hown5; have R5 := Lib.hid (row_plus hown5); have K5 : Hid (Below w3.heap.size w3 w5) := Lib.hid (Below.grown (by first | exact K4.out | exact stpA K4.out _ | exact (stpA K4.out _).drew) hgr5 (by have := K4.out.size; first | omega | (simp; omega)) (fun g hg => by have := (HO4.out.lt _ hg).1; omega)); clear hown5 hgr5)
    | (refine step_append_prs (by rfl) (.tmp 44) (.tmp 46) 28 (by rfl) w3.heap.size 25 j0 (.agg #[.string ⟨#[]⟩, .string ⟨#[]⟩]) Try.underlying28 HI.out HZ0.out HZ1.out HZ2.out rfl _ n _ (by rfl) (HO4.out) _ _ 1 1 [⟨x.data.toList, y.data.toList⟩] (by rfl) (rdc_one NB.out) rfl (fun h => by cases h) (by have := HN40.out; omega) (by have := K4.out.size; first | omega | (simp; omega)) ?_; intro v5 w5 hown5 hgr5; obtain ⟨A5, c5, rfl⟩ := own_form2 hown5; have R5 := Lib.hid (row_plus hown5); have K5 : Hid (Below w3.heap.size w3 w5) := Lib.hid (Below.grown (by first | exact K4.out | exact stpA K4.out _ | exact (stpA K4.out _).drew) hgr5 (by have := K4.out.size; first | omega | (simp; omega)) (fun g hg => by have := (HO4.out.lt _ hg).1; omega)); clear hown5 hgr5)
    | (refine step_append_prs (by rfl) (.tmp 44) (.tmp 46) 28 (by rfl) (w3.heap.size + 1) 25 j0 (.agg #[.string ⟨#[]⟩, .string ⟨#[]⟩]) Try.underlying28 HI.out HZ0.out HZ1.out HZ2.out rfl _ n _ (by rfl) (HO4.out) _ _ 1 1 [⟨x.data.toList, y.data.toList⟩] (by rfl) (rdc_one NC.out) rfl (fun h => by cases h) (by have := HN40.out; omega) (by have := lt_heap NC.out; first | omega | (simp; omega)) ?_; intro v5 w5 hown5 hgr5; obtain ⟨A5, c5, rfl⟩ := own_form2 hown5; have R5 := Lib.hid (row_plus hown5); have K5 : Hid (Below w3.heap.size w3 w5) := Lib.hid (Below.grown (by first | exact K4.out | exact stpA K4.out _ | exact (stpA K4.out _).drew) hgr5 (by have := K4.out.size; first | omega | (simp; omega)) (fun g hg => by have := (HO4.out.lt _ hg).1; omega)); clear hown5 hgr5)
    | (go_at_call 25; (with_reducible refine (HF2.out A5 c5 w5 R5.out).mono ?_); rintro e w6 ⟨rfl, hb6⟩; have K6 : Hid (Below w3.heap.size w3 w6) := Lib.hid (stp K5.out hb6); clear hb6)))
  · have HB6 := Lib.hid (HW3.out _ K6.out)
    have HK6 : Hid (∀ W, Below w6.heap.size w6 W → W.cell? ⟨w.heap.size, 0, none⟩ = some (.string x) ∧ W.cell? ⟨w.heap.size, 1, none⟩ = some (.string y)) := Lib.hid fun W h => HCL.out _ (stp HB6.out h)
    obtain ⟨cx6, cy6⟩ := HCL.out _ HB6.out
    go_wp2_with fail
    go_region_held3 (fun W => W.cell? ⟨w.heap.size, 0, none⟩ = some (.string x) ∧ W.cell? ⟨w.heap.size, 1, none⟩ = some (.string y))
      (first | exact HK6.out _ (Below.refl _ _).drew | exact HK6.out _ (Below.refl _ _) | exact HK6.out _ K7.out | exact HK6.out _ K8.out)
      ((first
      | (go_at_call 32; (with_reducible refine (HS1.out _).mono ?_); rintro e w7 ⟨rfl, hb7⟩; have K7 : Hid (Below w6.heap.size w6 w7) := Lib.hid (stp (Below.refl _ _).drew hb7); clear hb7)
      | (go_at_call 32; (with_reducible refine (HS2.out w7).mono ?_); rintro e w8 ⟨rfl, hb8⟩; have K8 : Hid (Below w6.heap.size w6 w8) := Lib.hid (stp K7.out hb8); clear hb8)))
    have HB8 := Lib.hid (stp HB6.out K8.out)
    go_wp2_with (first
      | (go_at_call 30; (with_reducible refine (HD0.out w8 HB8.out).mono ?_); rintro e w9 ⟨hb9, A9, c9, rfl⟩; have HB9 := Lib.hid (stp HB8.out hb9); clear hb9)
      | (go_at_call 30; (with_reducible refine (HD1.out w9 HB9.out).mono ?_); rintro e w10 ⟨hb10, A10, c10, rfl⟩; have HB10 := Lib.hid (stp HB9.out hb10); clear hb10)
      | fail)
    go_ret
    exact ⟨rfl, HWF.out _ HB10.out⟩
  · have HB6 := Lib.hid (HW3.out _ K6.out)
    have HK6 : Hid (∀ W, Below w6.heap.size w6 W → W.cell? ⟨w.heap.size, 0, none⟩ = some (.string x) ∧ W.cell? ⟨w.heap.size, 1, none⟩ = some (.string y)) := Lib.hid fun W h => HCL.out _ (stp HB6.out h)
    obtain ⟨cx6, cy6⟩ := HCL.out _ HB6.out
    go_wp2_with fail
    go_region_held3 (fun W => W.cell? ⟨w.heap.size, 0, none⟩ = some (.string x) ∧ W.cell? ⟨w.heap.size, 1, none⟩ = some (.string y))
      (first | exact HK6.out _ (Below.refl _ _).drew | exact HK6.out _ (Below.refl _ _) | exact HK6.out _ K7.out | exact HK6.out _ K8.out)
      ((first
      | (go_at_call 32; (with_reducible refine (HS1.out _).mono ?_); rintro e w7 ⟨rfl, hb7⟩; have K7 : Hid (Below w6.heap.size w6 w7) := Lib.hid (stp (Below.refl _ _).drew hb7); clear hb7)
      | (go_at_call 32; (with_reducible refine (HS2.out w7).mono ?_); rintro e w8 ⟨rfl, hb8⟩; have K8 : Hid (Below w6.heap.size w6 w8) := Lib.hid (stp K7.out hb8); clear hb8)))
    have HB8 := Lib.hid (stp HB6.out K8.out)
    go_wp2_with (first
      | (go_at_call 30; (with_reducible refine (HD0.out w8 HB8.out).mono ?_); rintro e w9 ⟨hb9, A9, c9, rfl⟩; have HB9 := Lib.hid (stp HB8.out hb9); clear hb9)
      | (go_at_call 30; (with_reducible refine (HD1.out w9 HB9.out).mono ?_); rintro e w10 ⟨hb10, A10, c10, rfl⟩; have HB10 := Lib.hid (stp HB9.out hb10); clear hb10)
      | fail)
    go_ret
    exact ⟨rfl, HWF.out _ HB10.out⟩
  · have HB6 := Lib.hid (HW3.out _ K6.out)
    have HK6 : Hid (∀ W, Below w6.heap.size w6 W → W.cell? ⟨w.heap.size, 0, none⟩ = some (.string x) ∧ W.cell? ⟨w.heap.size, 1, none⟩ = some (.string y)) := Lib.hid fun W h => HCL.out _ (stp HB6.out h)
    obtain ⟨cx6, cy6⟩ := HCL.out _ HB6.out
    go_wp2_with fail
    go_region_held3 (fun W => W.cell? ⟨w.heap.size, 0, none⟩ = some (.string x) ∧ W.cell? ⟨w.heap.size, 1, none⟩ = some (.string y))
      (first | exact HK6.out _ (Below.refl _ _).drew | exact HK6.out _ (Below.refl _ _) | exact HK6.out _ K7.out | exact HK6.out _ K8.out)
      ((first
      | (go_at_call 32; (with_reducible refine (HS1.out _).mono ?_); rintro e w7 ⟨rfl, hb7⟩; have K7 : Hid (Below w6.heap.size w6 w7) := Lib.hid (stp (Below.refl _ _).drew hb7); clear hb7)
      | (go_at_call 32; (with_reducible refine (HS2.out w7).mono ?_); rintro e w8 ⟨rfl, hb8⟩; have K8 : Hid (Below w6.heap.size w6 w8) := Lib.hid (stp K7.out hb8); clear hb8)))
    have HB8 := Lib.hid (stp HB6.out K8.out)
    go_wp2_with (first
      | (go_at_call 30; (with_reducible refine (HD0.out w8 HB8.out).mono ?_); rintro e w9 ⟨hb9, A9, c9, rfl⟩; have HB9 := Lib.hid (stp HB8.out hb9); clear hb9)
      | (go_at_call 30; (with_reducible refine (HD1.out w9 HB9.out).mono ?_); rintro e w10 ⟨hb10, A10, c10, rfl⟩; have HB10 := Lib.hid (stp HB9.out hb10); clear hb10)
      | fail)
    go_ret
    exact ⟨rfl, HWF.out _ HB10.out⟩
set_option maxHeartbeats 32000000 in
set_option maxRecDepth 100000 in
theorem fr_c1b (A : Option Addr) (n cp : Nat) (l : List Pr) (x y : ByteArray) (w : World) (hr : RdC PrC w w.heap.size A l) (hn : l.length = n) (hx : n ≤ 9223372036854775807) (hz : A = none → cp = 0) (hX : Mx w) (m0 m1 : Nat) (hmx0 : (findH l nCoding).length = m0) (hmx1 : (findH l nLength).length = m1) (K1 K2 : Nat) (k1 : Int) (hk1 : (K1 : Int) = k1) (hk2 : (K2 : Int) = k1) (N1 : Int) (e1 : Int) (hf1 : frameH l = (K1, N1, e1)) (hf2 : frameH (l ++ [⟨x.data.toList, y.data.toList⟩]) = (K2, N1, e1)) (hb1 : decide (lowS x = lowS ⟨#[116, 114, 97, 110, 115, 102, 101, 114, 45, 101, 110, 99, 111, 100, 105, 110, 103]⟩) = false) (hb2 : decide (lowS x = lowS ⟨#[99, 111, 110, 116, 101, 110, 116, 45, 108, 101, 110, 103, 116, 104]⟩) = false) (hg : greatH l = false) (hs0 : ¬ 1000 < x.size) (hs : ¬ 1000 < y.size) (hq : ¬ 1 < m0 + m1) : Calls Try.prog 8 #[.slice A n cp, .agg #[.string x, .string y]] w fun e w' => e = .returned (.bool true) ∧ Below w.heap.size w w' := by
  have hb0 : Below w.heap.size w (w.alloc (.cells #[.string x, .string y] 25)) := stpA (Below.refl _ _) _
  have HA := Lib.hid (alive14 (w.alloc (.cells #[.string x, .string y] 25)) (hX.below hb0))
  have HR0 := Lib.hid (hr.on hb0)
  have HCL : Hid (∀ W, Below (w.alloc (.cells #[.string x, .string y] 25)).heap.size (w.alloc (.cells #[.string x, .string y] 25)) W → W.cell? ⟨w.heap.size, 0, none⟩ = some (.string x) ∧ W.cell? ⟨w.heap.size, 1, none⟩ = some (.string y)) := Lib.hid fun W h => ⟨cellV _ _ 0 _ _ _ (kept_heap (heap_alloc_new w _) h), cellV _ _ 1 _ _ _ (kept_heap (heap_alloc_new w _) h)⟩
  have HWF : Hid (∀ W, Below (w.alloc (.cells #[.string x, .string y] 25)).heap.size (w.alloc (.cells #[.string x, .string y] 25)) W → Below w.heap.size w W) := Lib.hid fun W h => stp hb0 h
  have HG : Hid (∀ W, Below (w.alloc (.cells #[.string x, .string y] 25)).heap.size (w.alloc (.cells #[.string x, .string y] 25)) W → Calls Try.prog 20 #[.slice A n cp] W fun e w' => e = .returned (.bool false) ∧ Below W.heap.size W w') := Lib.hid fun W hW => rgreat14 A n cp l W (HR0.out.on hW) hn hx false hg
  obtain ⟨g1, g2, g3⟩ := great_no14 hg
  obtain ⟨j0, hj, hy0, hy1, hy2⟩ := info_parts infoPr
  have HI := Lib.hid hj
  have HZ0 := Lib.hid hy0
  have HZ1 := Lib.hid hy1
  have HZ2 := Lib.hid hy2
  have HN := Lib.hid hn
  have HNZ := Lib.hid hz
  have d1 : decide ((1000 : Int) < (x.size : Int)) = false := decide_eq_false (by omega)
  have d2 : decide ((1000 : Int) < (y.size : Int)) = false := decide_eq_false (by omega)
  have hn40 : n ≤ 40 := by omega
  have HN40 := Lib.hid hn40
  have hm1 : n + 1 ≤ 1000 := by omega
  have HXS : Hid (x.size ≤ 1000000) := Lib.hid (by omega)
  have hsm2 : SmP (l ++ [⟨x.data.toList, y.data.toList⟩]) := fun p hp => by
    rcases List.mem_append.1 hp with hp | hp
    · exact g2 p hp
    · rw [List.mem_singleton] at hp
      subst hp
      dsimp only
      rw [ba_l, ba_l]
      omega
  have HF1 : Hid (∀ W, Below (w.alloc (.cells #[.string x, .string y] 25)).heap.size (w.alloc (.cells #[.string x, .string y] 25)) W → Calls Try.prog 25 #[.slice A n cp] W fun e w' => e = .returned (.tuple #[.int .u8 k1, .int .i64 N1, .int .i64 e1]) ∧ Below W.heap.size W w') := Lib.hid fun W hW => by
    have t := frame14 A n cp l W (HR0.out.on hW) hn (by omega) g2 K1 N1 e1 hf1
    rw [hk1] at t
    exact t
  have HF2 : Hid (∀ A5 c5 W, RdC PrC W W.heap.size A5 (l ++ [⟨x.data.toList, y.data.toList⟩]) → Calls Try.prog 25 #[.slice A5 (n + 1) c5] W fun e w' => e = .returned (.tuple #[.int .u8 k1, .int .i64 N1, .int .i64 e1]) ∧ Below W.heap.size W w') := Lib.hid fun A5 c5 W h => by
    have t := frame14 A5 (n + 1) c5 _ W h (by rw [List.length_append, hn]; rfl) hm1 hsm2 K2 N1 e1 hf2
    rw [hk2] at t
    exact t
  have HS1 : Hid (∀ W, Calls Try.prog 32 #[.string x, .string ⟨#[116, 114, 97, 110, 115, 102, 101, 114, 45, 101, 110, 99, 111, 100, 105, 110, 103]⟩] W fun e w' => e = .returned (.bool false) ∧ Below W.heap.size W w') := Lib.hid fun W => same7 x ⟨#[116, 114, 97, 110, 115, 102, 101, 114, 45, 101, 110, 99, 111, 100, 105, 110, 103]⟩ false W HXS.out (by decide) hb1
  have HS2 : Hid (∀ W, Calls Try.prog 32 #[.string x, .string ⟨#[99, 111, 110, 116, 101, 110, 116, 45, 108, 101, 110, 103, 116, 104]⟩] W fun e w' => e = .returned (.bool false) ∧ Below W.heap.size W w') := Lib.hid fun W => same7 x ⟨#[99, 111, 110, 116, 101, 110, 116, 45, 108, 101, 110, 103, 116, 104]⟩ false W HXS.out (by decide) hb2
  have HD0 : Hid (∀ W, Below (w.alloc (.cells #[.string x, .string y] 25)).heap.size (w.alloc (.cells #[.string x, .string y] 25)) W → Calls Try.prog 30 #[.slice A n cp, .string ⟨#[116, 114, 97, 110, 115, 102, 101, 114, 45, 101, 110, 99, 111, 100, 105, 110, 103]⟩] W fun e w' => Below W.heap.size W w' ∧ ∃ A c, e = .returned (.slice A m0 c)) := Lib.hid fun W hW => (find14 A n cp l ⟨#[116, 114, 97, 110, 115, 102, 101, 114, 45, 101, 110, 99, 111, 100, 105, 110, 103]⟩ W (HR0.out.on hW) hn (by omega) g2 (by decide)).mono fun e w' ⟨q1, A, c, q2, _, _⟩ => ⟨q1, A, c, hmx0 ▸ q2⟩
  have HD1 : Hid (∀ W, Below (w.alloc (.cells #[.string x, .string y] 25)).heap.size (w.alloc (.cells #[.string x, .string y] 25)) W → Calls Try.prog 30 #[.slice A n cp, .string ⟨#[99, 111, 110, 116, 101, 110, 116, 45, 108, 101, 110, 103, 116, 104]⟩] W fun e w' => Below W.heap.size W w' ∧ ∃ A c, e = .returned (.slice A m1 c)) := Lib.hid fun W hW => (find14 A n cp l ⟨#[99, 111, 110, 116, 101, 110, 116, 45, 108, 101, 110, 103, 116, 104]⟩ W (HR0.out.on hW) hn (by omega) g2 (by decide)).mono fun e w' ⟨q1, A, c, q2, _, _⟩ => ⟨q1, A, c, hmx1 ▸ q2⟩
  have hmb : m0 + m1 ≤ 80 := by
    have f0 := find_len l nCoding
    have f1 := find_len l nLength
    rw [hmx0] at f0
    rw [hmx1] at f1
    omega
  have dm : decide ((1 : Int) < (m0 : Int) + (m1 : Int)) = false := decide_eq_false (by omega)
  have hmi : (m0 : Int) + (m1 : Int) ≤ 80 := by omega
  have q1 : (k1 == k1) = true := by simp
  have q2 : (N1 == N1) = true := by simp
  have q3 : (e1 == e1) = true := by simp
  clear hr hn hx hX hg hz hb0 hs hs0 g1 g2 g3 hn40 hm1 hsm2 hmx0 hmx1 hk1 hk2 hf1 hf2 hb1 hb2 hj hy0 hy1 hy2 hq hmb
  go_enter Try.func8, Try.ntmps8
  go_wp2_with (first
    | (go_at_call 16; (with_reducible refine (HA.out).mono ?_); rintro e w1 ⟨rfl, hb1⟩; have HB1 := Lib.hid hb1; clear hb1)
    | (go_at_call 20; (with_reducible refine (HG.out w1 HB1.out).mono ?_); rintro e w2 ⟨rfl, hb2⟩; have HB2 := Lib.hid (stp HB1.out hb2); obtain ⟨cx2, cy2⟩ := HCL.out _ HB2.out; clear hb2)
    | (go_at_call 25; (with_reducible refine (HF1.out w2 HB2.out).mono ?_); rintro e w3 ⟨rfl, hb3⟩; have HB3 := Lib.hid (stp HB2.out hb3); obtain ⟨cx3, cy3⟩ := HCL.out _ HB3.out; clear hb3)
    | fail)
  have HW3 : Hid (∀ W, Below w3.heap.size w3 W → Below (w.alloc (.cells #[.string x, .string y] 25)).heap.size (w.alloc (.cells #[.string x, .string y] 25)) W) := Lib.hid fun W h => stp HB3.out h
  have HK : Hid (∀ W, Below w3.heap.size w3 W → W.cell? ⟨w.heap.size, 0, none⟩ = some (.string x) ∧ W.cell? ⟨w.heap.size, 1, none⟩ = some (.string y)) := Lib.hid fun W h => HCL.out _ (stp HB3.out h)
  have RL : Hid (∀ W, Below w3.heap.size w3 W → RdC PrC W W.heap.size A l) := Lib.hid fun W h => HR0.out.on (stp HB3.out h)
  have OA : Hid (∀ W, Below (w3.alloc (.cells #[] 25)).heap.size (w3.alloc (.cells #[] 25)) W → W.ownsRow w3.heap.size 25 2 (.slice (some ⟨w3.heap.size, 0, none⟩) 0 0) 0 []) := Lib.hid fun W h => own_belowK (own_empty w3 _ 2) h (Nat.le_refl _)
  have OC : Hid (∀ W, Below ((w3.alloc (.cells #[.string x, .string y] 25)).alloc (.cells #[] 25)).heap.size ((w3.alloc (.cells #[.string x, .string y] 25)).alloc (.cells #[] 25)) W → W.ownsRow (w3.heap.size + 1) 25 2 (.slice (some ⟨w3.heap.size + 1, 0, none⟩) 0 0) 0 []) := Lib.hid fun W h => own_belowK (own_emptyB w3 _ _ 2) h (Nat.le_refl _)
  have PB_ : Hid (∀ W, Below ((w3.alloc (.cells #[] 25)).alloc (.cells #[.string x, .string y] 25)).heap.size ((w3.alloc (.cells #[] 25)).alloc (.cells #[.string x, .string y] 25)) W → W.heap[w3.heap.size + 1]? = some (.cells #[.string x, .string y] 25 (0, 0))) := Lib.hid fun W h => kept_heap (by have := heap_alloc_new (w3.alloc (.cells #[] 25)) (.cells #[.string x, .string y] 25); rw [World.size_alloc] at this; exact this) h
  have PC_ : Hid (∀ W, Below (w3.alloc (.cells #[.string x, .string y] 25)).heap.size (w3.alloc (.cells #[.string x, .string y] 25)) W → W.heap[w3.heap.size]? = some (.cells #[.string x, .string y] 25 (0, 0))) := Lib.hid fun W h => kept_heap (heap_alloc_new w3 _) h
  go_region_held3 (fun W => W.cell? ⟨w.heap.size, 0, none⟩ = some (.string x) ∧ W.cell? ⟨w.heap.size, 1, none⟩ = some (.string y))
    (first | exact HK.out _ (by first | exact Below.refl _ _ | exact (Below.refl _ _).drew | exact stpA (Below.refl _ _) _ | exact (stpA (Below.refl _ _) _).drew | exact stpA (Below.refl _ _).drew _ | exact stpA (stpA (Below.refl _ _) _) _ | exact (stpA (stpA (Below.refl _ _) _) _).drew | exact stpA (stpA (Below.refl _ _) _).drew _ | exact stpA (stpA (Below.refl _ _).drew _) _) | exact HK.out _ K6.out | exact HK.out _ K5.out | exact HK.out _ K4.out | exact HK.out _ (stpA K4.out _) | exact HK.out _ (stpA K4.out _).drew)
    ((first
    | (refine step_append_prs (by rfl) (.tmp 42) (.tmp 43) 28 (by rfl) w3.heap.size 25 j0 (.agg #[.string ⟨#[]⟩, .string ⟨#[]⟩]) Try.underlying28 HI.out HZ0.out HZ1.out HZ2.out rfl _ 0 [] (by rfl) (OA.out _ (by first | exact Below.refl _ _ | exact (Below.refl _ _).drew)) _ A n cp l (by rfl) (RL.out _ (by first | exact Below.refl _ _ | exact (Below.refl _ _).drew | exact stpA (Below.refl _ _) _ | exact (stpA (Below.refl _ _) _).drew | exact stpA (Below.refl _ _).drew _ | exact stpA (stpA (Below.refl _ _) _) _ | exact (stpA (stpA (Below.refl _ _) _) _).drew | exact stpA (stpA (Below.refl _ _) _).drew _ | exact stpA (stpA (Below.refl _ _).drew _) _)) HN.out HNZ.out (by have := HN40.out; omega) (by simp; try omega) ?_; intro v4 w4 hown4 hgr4; rw [Nat.zero_add, List.nil_append] at hown4; obtain ⟨A4, c4, rfl⟩ := own_form2 hown4; have HO4 := Lib.hid hown4; have K4 : Hid (Below w3.heap.size w3 w4) := Lib.hid (Below.grown (by first | exact Below.refl _ _ | exact (Below.refl _ _).drew | exact stpA (Below.refl _ _) _ | exact (stpA (Below.refl _ _) _).drew | exact stpA (Below.refl _ _).drew _ | exact stpA (stpA (Below.refl _ _) _) _ | exact (stpA (stpA (Below.refl _ _) _) _).drew | exact stpA (stpA (Below.refl _ _) _).drew _ | exact stpA (stpA (Below.refl _ _).drew _) _) hgr4 (by simp; try omega) (fun g hg => by cases hg; first | exact Nat.le_refl _ | exact Nat.le_succ _)); clear hown4 hgr4)
    | (refine step_append_prs (by rfl) (.tmp 42) (.tmp 43) 28 (by rfl) w3.heap.size 25 j0 (.agg #[.string ⟨#[]⟩, .string ⟨#[]⟩]) Try.underlying28 HI.out HZ0.out HZ1.out HZ2.out rfl _ 0 [] (by rfl) (OA.out _ (by first | exact stpA (Below.refl _ _) _ | exact (stpA (Below.refl _ _) _).drew)) _ A n cp l (by rfl) (RL.out _ (by first | exact Below.refl _ _ | exact (Below.refl _ _).drew | exact stpA (Below.refl _ _) _ | exact (stpA (Below.refl _ _) _).drew | exact stpA (Below.refl _ _).drew _ | exact stpA (stpA (Below.refl _ _) _) _ | exact (stpA (stpA (Below.refl _ _) _) _).drew | exact stpA (stpA (Below.refl _ _) _).drew _ | exact stpA (stpA (Below.refl _ _).drew _) _)) HN.out HNZ.out (by have := HN40.out; omega) (by simp; try omega) ?_; intro v4 w4 hown4 hgr4; rw [Nat.zero_add, List.nil_append] at hown4; obtain ⟨A4, c4, rfl⟩ := own_form2 hown4; have HO4 := Lib.hid hown4; have K4 : Hid (Below w3.heap.size w3 w4) := Lib.hid (Below.grown (by first | exact Below.refl _ _ | exact (Below.refl _ _).drew | exact stpA (Below.refl _ _) _ | exact (stpA (Below.refl _ _) _).drew | exact stpA (Below.refl _ _).drew _ | exact stpA (stpA (Below.refl _ _) _) _ | exact (stpA (stpA (Below.refl _ _) _) _).drew | exact stpA (stpA (Below.refl _ _) _).drew _ | exact stpA (stpA (Below.refl _ _).drew _) _) hgr4 (by simp; try omega) (fun g hg => by cases hg; first | exact Nat.le_refl _ | exact Nat.le_succ _)); have NB := Lib.hid (nb_grown (PB_.out _ (by first | exact Below.refl _ _ | exact (Below.refl _ _).drew)) hgr4 (fun e => by simp [Value.ownBlock] at e; try omega)); clear hown4 hgr4)
    | (refine step_append_prs (by rfl) (.tmp 42) (.tmp 43) 28 (by rfl) (w3.heap.size + 1) 25 j0 (.agg #[.string ⟨#[]⟩, .string ⟨#[]⟩]) Try.underlying28 HI.out HZ0.out HZ1.out HZ2.out rfl _ 0 [] (by rfl) (OC.out _ (by first | exact Below.refl _ _ | exact (Below.refl _ _).drew)) _ A n cp l (by rfl) (RL.out _ (by first | exact Below.refl _ _ | exact (Below.refl _ _).drew | exact stpA (Below.refl _ _) _ | exact (stpA (Below.refl _ _) _).drew | exact stpA (Below.refl _ _).drew _ | exact stpA (stpA (Below.refl _ _) _) _ | exact (stpA (stpA (Below.refl _ _) _) _).drew | exact stpA (stpA (Below.refl _ _) _).drew _ | exact stpA (stpA (Below.refl _ _).drew _) _)) HN.out HNZ.out (by have := HN40.out; omega) (by simp; try omega) ?_; intro v4 w4 hown4 hgr4; rw [Nat.zero_add, List.nil_append] at hown4; obtain ⟨A4, c4, rfl⟩ := own_form2 hown4; have HO4 := Lib.hid hown4; have K4 : Hid (Below w3.heap.size w3 w4) := Lib.hid (Below.grown (by first | exact Below.refl _ _ | exact (Below.refl _ _).drew | exact stpA (Below.refl _ _) _ | exact (stpA (Below.refl _ _) _).drew | exact stpA (Below.refl _ _).drew _ | exact stpA (stpA (Below.refl _ _) _) _ | exact (stpA (stpA (Below.refl _ _) _) _).drew | exact stpA (stpA (Below.refl _ _) _).drew _ | exact stpA (stpA (Below.refl _ _).drew _) _) hgr4 (by simp; try omega) (fun g hg => by cases hg; first | exact Nat.le_refl _ | exact Nat.le_succ _)); have NC := Lib.hid (nb_grown (PC_.out _ (by first | exact stpA (Below.refl _ _) _ | exact (stpA (Below.refl _ _) _).drew)) hgr4 (fun e => by simp [Value.ownBlock] at e; try omega)); clear hown4 hgr4)
    | (refine step_append_prs (by rfl) (.tmp 44) (.tmp 46) 28 (by rfl) w3.heap.size 25 j0 (.agg #[.string ⟨#[]⟩, .string ⟨#[]⟩]) Try.underlying28 HI.out HZ0.out HZ1.out HZ2.out rfl _ n _ (by rfl) (own_belowK HO4.out (by first | exact stpA (Below.refl _ _) _ | exact (stpA (Below.refl _ _) _).drew) (Nat.le_refl _)) _ _ 1 1 [⟨x.data.toList, y.data.toList⟩] (by rfl) (rdc_one (by first | exact heap_alloc_new w4 _ | exact heap_alloc_new w4 _)) rfl (fun h => by cases h) (by have := HN40.out; omega) (by have := K4.out.size; first | omega | (simp; omega)) ?_; intro v5 w5 hown5 hgr5; obtain ⟨A5, c5, rfl⟩ := own_form2 hown5; have R5 := Lib.hid (row_plus hown5); have K5 : Hid (Below w3.heap.size w3 w5) := Lib.hid (Below.grown (by first | exact K4.out | exact stpA K4.out _ | exact (stpA K4.out _).drew) hgr5 (by have := K4.out.size; first | omega | (simp; omega)) (fun g hg => by have := (HO4.out.lt _ hg).1; omega)); clear hown5 hgr5)
    | (refine step_append_prs (by rfl) (.tmp 44) (.tmp 46) 28 (by rfl) w3.heap.size 25 j0 (.agg #[.string ⟨#[]⟩, .string ⟨#[]⟩]) Try.underlying28 HI.out HZ0.out HZ1.out HZ2.out rfl _ n _ (by rfl) (HO4.out) _ _ 1 1 [⟨x.data.toList, y.data.toList⟩] (by rfl) (rdc_one NB.out) rfl (fun h => by cases h) (by have := HN40.out; omega) (by have := K4.out.size; first | omega | (simp; omega)) ?_; intro v5 w5 hown5 hgr5; obtain ⟨A5, c5, rfl⟩ := own_form2 hown5; have R5 := Lib.hid (row_plus hown5); have K5 : Hid (Below w3.heap.size w3 w5) := Lib.hid (Below.grown (by first | exact K4.out | exact stpA K4.out _ | exact (stpA K4.out _).drew) hgr5 (by have := K4.out.size; first | omega | (simp; omega)) (fun g hg => by have := (HO4.out.lt _ hg).1; omega)); clear hown5 hgr5)
    | (refine step_append_prs (by rfl) (.tmp 44) (.tmp 46) 28 (by rfl) (w3.heap.size + 1) 25 j0 (.agg #[.string ⟨#[]⟩, .string ⟨#[]⟩]) Try.underlying28 HI.out HZ0.out HZ1.out HZ2.out rfl _ n _ (by rfl) (HO4.out) _ _ 1 1 [⟨x.data.toList, y.data.toList⟩] (by rfl) (rdc_one NC.out) rfl (fun h => by cases h) (by have := HN40.out; omega) (by have := lt_heap NC.out; first | omega | (simp; omega)) ?_; intro v5 w5 hown5 hgr5; obtain ⟨A5, c5, rfl⟩ := own_form2 hown5; have R5 := Lib.hid (row_plus hown5); have K5 : Hid (Below w3.heap.size w3 w5) := Lib.hid (Below.grown (by first | exact K4.out | exact stpA K4.out _ | exact (stpA K4.out _).drew) hgr5 (by have := K4.out.size; first | omega | (simp; omega)) (fun g hg => by have := (HO4.out.lt _ hg).1; omega)); clear hown5 hgr5)
    | (go_at_call 25; (with_reducible refine (HF2.out A5 c5 w5 R5.out).mono ?_); rintro e w6 ⟨rfl, hb6⟩; have K6 : Hid (Below w3.heap.size w3 w6) := Lib.hid (stp K5.out hb6); clear hb6)))
  · have HB6 := Lib.hid (HW3.out _ K6.out)
    have HK6 : Hid (∀ W, Below w6.heap.size w6 W → W.cell? ⟨w.heap.size, 0, none⟩ = some (.string x) ∧ W.cell? ⟨w.heap.size, 1, none⟩ = some (.string y)) := Lib.hid fun W h => HCL.out _ (stp HB6.out h)
    obtain ⟨cx6, cy6⟩ := HCL.out _ HB6.out
    go_wp2_with fail
    go_region_held3 (fun W => W.cell? ⟨w.heap.size, 0, none⟩ = some (.string x) ∧ W.cell? ⟨w.heap.size, 1, none⟩ = some (.string y))
      (first | exact HK6.out _ (Below.refl _ _).drew | exact HK6.out _ (Below.refl _ _) | exact HK6.out _ K7.out | exact HK6.out _ K8.out)
      ((first
      | (go_at_call 32; (with_reducible refine (HS1.out _).mono ?_); rintro e w7 ⟨rfl, hb7⟩; have K7 : Hid (Below w6.heap.size w6 w7) := Lib.hid (stp (Below.refl _ _).drew hb7); clear hb7)
      | (go_at_call 32; (with_reducible refine (HS2.out w7).mono ?_); rintro e w8 ⟨rfl, hb8⟩; have K8 : Hid (Below w6.heap.size w6 w8) := Lib.hid (stp K7.out hb8); clear hb8)))
    have HB8 := Lib.hid (stp HB6.out K8.out)
    go_wp2_with (first
      | (go_at_call 30; (with_reducible refine (HD0.out w8 HB8.out).mono ?_); rintro e w9 ⟨hb9, A9, c9, rfl⟩; have HB9 := Lib.hid (stp HB8.out hb9); clear hb9)
      | (go_at_call 30; (with_reducible refine (HD1.out w9 HB9.out).mono ?_); rintro e w10 ⟨hb10, A10, c10, rfl⟩; have HB10 := Lib.hid (stp HB9.out hb10); clear hb10)
      | fail)
    go_ret
    exact ⟨rfl, HWF.out _ HB10.out⟩
  · have HB6 := Lib.hid (HW3.out _ K6.out)
    have HK6 : Hid (∀ W, Below w6.heap.size w6 W → W.cell? ⟨w.heap.size, 0, none⟩ = some (.string x) ∧ W.cell? ⟨w.heap.size, 1, none⟩ = some (.string y)) := Lib.hid fun W h => HCL.out _ (stp HB6.out h)
    obtain ⟨cx6, cy6⟩ := HCL.out _ HB6.out
    go_wp2_with fail
    go_region_held3 (fun W => W.cell? ⟨w.heap.size, 0, none⟩ = some (.string x) ∧ W.cell? ⟨w.heap.size, 1, none⟩ = some (.string y))
      (first | exact HK6.out _ (Below.refl _ _).drew | exact HK6.out _ (Below.refl _ _) | exact HK6.out _ K7.out | exact HK6.out _ K8.out)
      ((first
      | (go_at_call 32; (with_reducible refine (HS1.out _).mono ?_); rintro e w7 ⟨rfl, hb7⟩; have K7 : Hid (Below w6.heap.size w6 w7) := Lib.hid (stp (Below.refl _ _).drew hb7); clear hb7)
      | (go_at_call 32; (with_reducible refine (HS2.out w7).mono ?_); rintro e w8 ⟨rfl, hb8⟩; have K8 : Hid (Below w6.heap.size w6 w8) := Lib.hid (stp K7.out hb8); clear hb8)))
    have HB8 := Lib.hid (stp HB6.out K8.out)
    go_wp2_with (first
      | (go_at_call 30; (with_reducible refine (HD0.out w8 HB8.out).mono ?_); rintro e w9 ⟨hb9, A9, c9, rfl⟩; have HB9 := Lib.hid (stp HB8.out hb9); clear hb9)
      | (go_at_call 30; (with_reducible refine (HD1.out w9 HB9.out).mono ?_); rintro e w10 ⟨hb10, A10, c10, rfl⟩; have HB10 := Lib.hid (stp HB9.out hb10); clear hb10)
      | fail)
    go_ret
    exact ⟨rfl, HWF.out _ HB10.out⟩
  · have HB6 := Lib.hid (HW3.out _ K6.out)
    have HK6 : Hid (∀ W, Below w6.heap.size w6 W → W.cell? ⟨w.heap.size, 0, none⟩ = some (.string x) ∧ W.cell? ⟨w.heap.size, 1, none⟩ = some (.string y)) := Lib.hid fun W h => HCL.out _ (stp HB6.out h)
    obtain ⟨cx6, cy6⟩ := HCL.out _ HB6.out
    go_wp2_with fail
    go_region_held3 (fun W => W.cell? ⟨w.heap.size, 0, none⟩ = some (.string x) ∧ W.cell? ⟨w.heap.size, 1, none⟩ = some (.string y))
      (first | exact HK6.out _ (Below.refl _ _).drew | exact HK6.out _ (Below.refl _ _) | exact HK6.out _ K7.out | exact HK6.out _ K8.out)
      ((first
      | (go_at_call 32; (with_reducible refine (HS1.out _).mono ?_); rintro e w7 ⟨rfl, hb7⟩; have K7 : Hid (Below w6.heap.size w6 w7) := Lib.hid (stp (Below.refl _ _).drew hb7); clear hb7)
      | (go_at_call 32; (with_reducible refine (HS2.out w7).mono ?_); rintro e w8 ⟨rfl, hb8⟩; have K8 : Hid (Below w6.heap.size w6 w8) := Lib.hid (stp K7.out hb8); clear hb8)))
    have HB8 := Lib.hid (stp HB6.out K8.out)
    go_wp2_with (first
      | (go_at_call 30; (with_reducible refine (HD0.out w8 HB8.out).mono ?_); rintro e w9 ⟨hb9, A9, c9, rfl⟩; have HB9 := Lib.hid (stp HB8.out hb9); clear hb9)
      | (go_at_call 30; (with_reducible refine (HD1.out w9 HB9.out).mono ?_); rintro e w10 ⟨hb10, A10, c10, rfl⟩; have HB10 := Lib.hid (stp HB9.out hb10); clear hb10)
      | fail)
    go_ret
    exact ⟨rfl, HWF.out _ HB10.out⟩
set_option maxHeartbeats 32000000 in
set_option maxRecDepth 100000 in
theorem fr_c2ta (A : Option Addr) (n cp : Nat) (l : List Pr) (x y : ByteArray) (w : World) (hr : RdC PrC w w.heap.size A l) (hn : l.length = n) (hx : n ≤ 9223372036854775807) (hz : A = none → cp = 0) (hX : Mx w) (m0 m1 : Nat) (hmx0 : (findH l nCoding).length = m0) (hmx1 : (findH l nLength).length = m1) (K1 K2 : Nat) (k1 : Int) (k2 : Int) (hk1 : (K1 : Int) = k1) (hk2 : (K2 : Int) = k2) (N1 : Int) (N2 : Int) (hf1 : frameH l = (K1, N1, 140)) (hf2 : frameH (l ++ [⟨x.data.toList, y.data.toList⟩]) = (K2, N2, 140)) (hb1 : decide (lowS x = lowS ⟨#[116, 114, 97, 110, 115, 102, 101, 114, 45, 101, 110, 99, 111, 100, 105, 110, 103]⟩) = true) (hb2 : decide (lowS x = lowS ⟨#[99, 111, 110, 116, 101, 110, 116, 45, 108, 101, 110, 103, 116, 104]⟩) = false) (hg : greatH l = false) (hs0 : ¬ 1000 < x.size) (hs : ¬ 1000 < y.size) (hq : 1 < m0 + m1) : Calls Try.prog 8 #[.slice A n cp, .agg #[.string x, .string y]] w fun e w' => e = .returned (.bool true) ∧ Below w.heap.size w w' := by
  have hb0 : Below w.heap.size w (w.alloc (.cells #[.string x, .string y] 25)) := stpA (Below.refl _ _) _
  have HA := Lib.hid (alive14 (w.alloc (.cells #[.string x, .string y] 25)) (hX.below hb0))
  have HR0 := Lib.hid (hr.on hb0)
  have HCL : Hid (∀ W, Below (w.alloc (.cells #[.string x, .string y] 25)).heap.size (w.alloc (.cells #[.string x, .string y] 25)) W → W.cell? ⟨w.heap.size, 0, none⟩ = some (.string x) ∧ W.cell? ⟨w.heap.size, 1, none⟩ = some (.string y)) := Lib.hid fun W h => ⟨cellV _ _ 0 _ _ _ (kept_heap (heap_alloc_new w _) h), cellV _ _ 1 _ _ _ (kept_heap (heap_alloc_new w _) h)⟩
  have HWF : Hid (∀ W, Below (w.alloc (.cells #[.string x, .string y] 25)).heap.size (w.alloc (.cells #[.string x, .string y] 25)) W → Below w.heap.size w W) := Lib.hid fun W h => stp hb0 h
  have HG : Hid (∀ W, Below (w.alloc (.cells #[.string x, .string y] 25)).heap.size (w.alloc (.cells #[.string x, .string y] 25)) W → Calls Try.prog 20 #[.slice A n cp] W fun e w' => e = .returned (.bool false) ∧ Below W.heap.size W w') := Lib.hid fun W hW => rgreat14 A n cp l W (HR0.out.on hW) hn hx false hg
  obtain ⟨g1, g2, g3⟩ := great_no14 hg
  obtain ⟨j0, hj, hy0, hy1, hy2⟩ := info_parts infoPr
  have HI := Lib.hid hj
  have HZ0 := Lib.hid hy0
  have HZ1 := Lib.hid hy1
  have HZ2 := Lib.hid hy2
  have HN := Lib.hid hn
  have HNZ := Lib.hid hz
  have d1 : decide ((1000 : Int) < (x.size : Int)) = false := decide_eq_false (by omega)
  have d2 : decide ((1000 : Int) < (y.size : Int)) = false := decide_eq_false (by omega)
  have hn40 : n ≤ 40 := by omega
  have HN40 := Lib.hid hn40
  have hm1 : n + 1 ≤ 1000 := by omega
  have HXS : Hid (x.size ≤ 1000000) := Lib.hid (by omega)
  have hsm2 : SmP (l ++ [⟨x.data.toList, y.data.toList⟩]) := fun p hp => by
    rcases List.mem_append.1 hp with hp | hp
    · exact g2 p hp
    · rw [List.mem_singleton] at hp
      subst hp
      dsimp only
      rw [ba_l, ba_l]
      omega
  have HF1 : Hid (∀ W, Below (w.alloc (.cells #[.string x, .string y] 25)).heap.size (w.alloc (.cells #[.string x, .string y] 25)) W → Calls Try.prog 25 #[.slice A n cp] W fun e w' => e = .returned (.tuple #[.int .u8 k1, .int .i64 N1, .int .i64 140]) ∧ Below W.heap.size W w') := Lib.hid fun W hW => by
    have t := frame14 A n cp l W (HR0.out.on hW) hn (by omega) g2 K1 N1 140 hf1
    rw [hk1] at t
    exact t
  have HF2 : Hid (∀ A5 c5 W, RdC PrC W W.heap.size A5 (l ++ [⟨x.data.toList, y.data.toList⟩]) → Calls Try.prog 25 #[.slice A5 (n + 1) c5] W fun e w' => e = .returned (.tuple #[.int .u8 k2, .int .i64 N2, .int .i64 140]) ∧ Below W.heap.size W w') := Lib.hid fun A5 c5 W h => by
    have t := frame14 A5 (n + 1) c5 _ W h (by rw [List.length_append, hn]; rfl) hm1 hsm2 K2 N2 140 hf2
    rw [hk2] at t
    exact t
  have HS1 : Hid (∀ W, Calls Try.prog 32 #[.string x, .string ⟨#[116, 114, 97, 110, 115, 102, 101, 114, 45, 101, 110, 99, 111, 100, 105, 110, 103]⟩] W fun e w' => e = .returned (.bool true) ∧ Below W.heap.size W w') := Lib.hid fun W => same7 x ⟨#[116, 114, 97, 110, 115, 102, 101, 114, 45, 101, 110, 99, 111, 100, 105, 110, 103]⟩ true W HXS.out (by decide) hb1
  have HS2 : Hid (∀ W, Calls Try.prog 32 #[.string x, .string ⟨#[99, 111, 110, 116, 101, 110, 116, 45, 108, 101, 110, 103, 116, 104]⟩] W fun e w' => e = .returned (.bool false) ∧ Below W.heap.size W w') := Lib.hid fun W => same7 x ⟨#[99, 111, 110, 116, 101, 110, 116, 45, 108, 101, 110, 103, 116, 104]⟩ false W HXS.out (by decide) hb2
  have HD0 : Hid (∀ W, Below (w.alloc (.cells #[.string x, .string y] 25)).heap.size (w.alloc (.cells #[.string x, .string y] 25)) W → Calls Try.prog 30 #[.slice A n cp, .string ⟨#[116, 114, 97, 110, 115, 102, 101, 114, 45, 101, 110, 99, 111, 100, 105, 110, 103]⟩] W fun e w' => Below W.heap.size W w' ∧ ∃ A c, e = .returned (.slice A m0 c)) := Lib.hid fun W hW => (find14 A n cp l ⟨#[116, 114, 97, 110, 115, 102, 101, 114, 45, 101, 110, 99, 111, 100, 105, 110, 103]⟩ W (HR0.out.on hW) hn (by omega) g2 (by decide)).mono fun e w' ⟨q1, A, c, q2, _, _⟩ => ⟨q1, A, c, hmx0 ▸ q2⟩
  have HD1 : Hid (∀ W, Below (w.alloc (.cells #[.string x, .string y] 25)).heap.size (w.alloc (.cells #[.string x, .string y] 25)) W → Calls Try.prog 30 #[.slice A n cp, .string ⟨#[99, 111, 110, 116, 101, 110, 116, 45, 108, 101, 110, 103, 116, 104]⟩] W fun e w' => Below W.heap.size W w' ∧ ∃ A c, e = .returned (.slice A m1 c)) := Lib.hid fun W hW => (find14 A n cp l ⟨#[99, 111, 110, 116, 101, 110, 116, 45, 108, 101, 110, 103, 116, 104]⟩ W (HR0.out.on hW) hn (by omega) g2 (by decide)).mono fun e w' ⟨q1, A, c, q2, _, _⟩ => ⟨q1, A, c, hmx1 ▸ q2⟩
  have hmb : m0 + m1 ≤ 80 := by
    have f0 := find_len l nCoding
    have f1 := find_len l nLength
    rw [hmx0] at f0
    rw [hmx1] at f1
    omega
  have dm : decide ((1 : Int) < (m0 : Int) + (m1 : Int)) = true := decide_eq_true (by omega)
  have dz : decide ((0 : Int) < (m0 : Int) + (m1 : Int)) = true := decide_eq_true (by omega)
  have hmi : (m0 : Int) + (m1 : Int) ≤ 80 := by omega
  clear hr hn hx hX hg hz hb0 hs hs0 g1 g2 g3 hn40 hm1 hsm2 hmx0 hmx1 hk1 hk2 hf1 hf2 hb1 hb2 hj hy0 hy1 hy2 hq hmb
  go_enter Try.func8, Try.ntmps8
  go_wp2_with (first
    | (go_at_call 16; (with_reducible refine (HA.out).mono ?_); rintro e w1 ⟨rfl, hb1⟩; have HB1 := Lib.hid hb1; clear hb1)
    | (go_at_call 20; (with_reducible refine (HG.out w1 HB1.out).mono ?_); rintro e w2 ⟨rfl, hb2⟩; have HB2 := Lib.hid (stp HB1.out hb2); obtain ⟨cx2, cy2⟩ := HCL.out _ HB2.out; clear hb2)
    | (go_at_call 25; (with_reducible refine (HF1.out w2 HB2.out).mono ?_); rintro e w3 ⟨rfl, hb3⟩; have HB3 := Lib.hid (stp HB2.out hb3); obtain ⟨cx3, cy3⟩ := HCL.out _ HB3.out; clear hb3)
    | fail)
  have HW3 : Hid (∀ W, Below w3.heap.size w3 W → Below (w.alloc (.cells #[.string x, .string y] 25)).heap.size (w.alloc (.cells #[.string x, .string y] 25)) W) := Lib.hid fun W h => stp HB3.out h
  have HK : Hid (∀ W, Below w3.heap.size w3 W → W.cell? ⟨w.heap.size, 0, none⟩ = some (.string x) ∧ W.cell? ⟨w.heap.size, 1, none⟩ = some (.string y)) := Lib.hid fun W h => HCL.out _ (stp HB3.out h)
  have RL : Hid (∀ W, Below w3.heap.size w3 W → RdC PrC W W.heap.size A l) := Lib.hid fun W h => HR0.out.on (stp HB3.out h)
  have OA : Hid (∀ W, Below (w3.alloc (.cells #[] 25)).heap.size (w3.alloc (.cells #[] 25)) W → W.ownsRow w3.heap.size 25 2 (.slice (some ⟨w3.heap.size, 0, none⟩) 0 0) 0 []) := Lib.hid fun W h => own_belowK (own_empty w3 _ 2) h (Nat.le_refl _)
  have OC : Hid (∀ W, Below ((w3.alloc (.cells #[.string x, .string y] 25)).alloc (.cells #[] 25)).heap.size ((w3.alloc (.cells #[.string x, .string y] 25)).alloc (.cells #[] 25)) W → W.ownsRow (w3.heap.size + 1) 25 2 (.slice (some ⟨w3.heap.size + 1, 0, none⟩) 0 0) 0 []) := Lib.hid fun W h => own_belowK (own_emptyB w3 _ _ 2) h (Nat.le_refl _)
  have PB_ : Hid (∀ W, Below ((w3.alloc (.cells #[] 25)).alloc (.cells #[.string x, .string y] 25)).heap.size ((w3.alloc (.cells #[] 25)).alloc (.cells #[.string x, .string y] 25)) W → W.heap[w3.heap.size + 1]? = some (.cells #[.string x, .string y] 25 (0, 0))) := Lib.hid fun W h => kept_heap (by have := heap_alloc_new (w3.alloc (.cells #[] 25)) (.cells #[.string x, .string y] 25); rw [World.size_alloc] at this; exact this) h
  have PC_ : Hid (∀ W, Below (w3.alloc (.cells #[.string x, .string y] 25)).heap.size (w3.alloc (.cells #[.string x, .string y] 25)) W → W.heap[w3.heap.size]? = some (.cells #[.string x, .string y] 25 (0, 0))) := Lib.hid fun W h => kept_heap (heap_alloc_new w3 _) h
  go_region_held3 (fun W => W.cell? ⟨w.heap.size, 0, none⟩ = some (.string x) ∧ W.cell? ⟨w.heap.size, 1, none⟩ = some (.string y))
    (first | exact HK.out _ (by first | exact Below.refl _ _ | exact (Below.refl _ _).drew | exact stpA (Below.refl _ _) _ | exact (stpA (Below.refl _ _) _).drew | exact stpA (Below.refl _ _).drew _ | exact stpA (stpA (Below.refl _ _) _) _ | exact (stpA (stpA (Below.refl _ _) _) _).drew | exact stpA (stpA (Below.refl _ _) _).drew _ | exact stpA (stpA (Below.refl _ _).drew _) _) | exact HK.out _ K6.out | exact HK.out _ K5.out | exact HK.out _ K4.out | exact HK.out _ (stpA K4.out _) | exact HK.out _ (stpA K4.out _).drew)
    ((first
    | (refine step_append_prs (by rfl) (.tmp 42) (.tmp 43) 28 (by rfl) w3.heap.size 25 j0 (.agg #[.string ⟨#[]⟩, .string ⟨#[]⟩]) Try.underlying28 HI.out HZ0.out HZ1.out HZ2.out rfl _ 0 [] (by rfl) (OA.out _ (by first | exact Below.refl _ _ | exact (Below.refl _ _).drew)) _ A n cp l (by rfl) (RL.out _ (by first | exact Below.refl _ _ | exact (Below.refl _ _).drew | exact stpA (Below.refl _ _) _ | exact (stpA (Below.refl _ _) _).drew | exact stpA (Below.refl _ _).drew _ | exact stpA (stpA (Below.refl _ _) _) _ | exact (stpA (stpA (Below.refl _ _) _) _).drew | exact stpA (stpA (Below.refl _ _) _).drew _ | exact stpA (stpA (Below.refl _ _).drew _) _)) HN.out HNZ.out (by have := HN40.out; omega) (by simp; try omega) ?_; intro v4 w4 hown4 hgr4; rw [Nat.zero_add, List.nil_append] at hown4; obtain ⟨A4, c4, rfl⟩ := own_form2 hown4; have HO4 := Lib.hid hown4; have K4 : Hid (Below w3.heap.size w3 w4) := Lib.hid (Below.grown (by first | exact Below.refl _ _ | exact (Below.refl _ _).drew | exact stpA (Below.refl _ _) _ | exact (stpA (Below.refl _ _) _).drew | exact stpA (Below.refl _ _).drew _ | exact stpA (stpA (Below.refl _ _) _) _ | exact (stpA (stpA (Below.refl _ _) _) _).drew | exact stpA (stpA (Below.refl _ _) _).drew _ | exact stpA (stpA (Below.refl _ _).drew _) _) hgr4 (by simp; try omega) (fun g hg => by cases hg; first | exact Nat.le_refl _ | exact Nat.le_succ _)); clear hown4 hgr4)
    | (refine step_append_prs (by rfl) (.tmp 42) (.tmp 43) 28 (by rfl) w3.heap.size 25 j0 (.agg #[.string ⟨#[]⟩, .string ⟨#[]⟩]) Try.underlying28 HI.out HZ0.out HZ1.out HZ2.out rfl _ 0 [] (by rfl) (OA.out _ (by first | exact stpA (Below.refl _ _) _ | exact (stpA (Below.refl _ _) _).drew)) _ A n cp l (by rfl) (RL.out _ (by first | exact Below.refl _ _ | exact (Below.refl _ _).drew | exact stpA (Below.refl _ _) _ | exact (stpA (Below.refl _ _) _).drew | exact stpA (Below.refl _ _).drew _ | exact stpA (stpA (Below.refl _ _) _) _ | exact (stpA (stpA (Below.refl _ _) _) _).drew | exact stpA (stpA (Below.refl _ _) _).drew _ | exact stpA (stpA (Below.refl _ _).drew _) _)) HN.out HNZ.out (by have := HN40.out; omega) (by simp; try omega) ?_; intro v4 w4 hown4 hgr4; rw [Nat.zero_add, List.nil_append] at hown4; obtain ⟨A4, c4, rfl⟩ := own_form2 hown4; have HO4 := Lib.hid hown4; have K4 : Hid (Below w3.heap.size w3 w4) := Lib.hid (Below.grown (by first | exact Below.refl _ _ | exact (Below.refl _ _).drew | exact stpA (Below.refl _ _) _ | exact (stpA (Below.refl _ _) _).drew | exact stpA (Below.refl _ _).drew _ | exact stpA (stpA (Below.refl _ _) _) _ | exact (stpA (stpA (Below.refl _ _) _) _).drew | exact stpA (stpA (Below.refl _ _) _).drew _ | exact stpA (stpA (Below.refl _ _).drew _) _) hgr4 (by simp; try omega) (fun g hg => by cases hg; first | exact Nat.le_refl _ | exact Nat.le_succ _)); have NB := Lib.hid (nb_grown (PB_.out _ (by first | exact Below.refl _ _ | exact (Below.refl _ _).drew)) hgr4 (fun e => by simp [Value.ownBlock] at e; try omega)); clear hown4 hgr4)
    | (refine step_append_prs (by rfl) (.tmp 42) (.tmp 43) 28 (by rfl) (w3.heap.size + 1) 25 j0 (.agg #[.string ⟨#[]⟩, .string ⟨#[]⟩]) Try.underlying28 HI.out HZ0.out HZ1.out HZ2.out rfl _ 0 [] (by rfl) (OC.out _ (by first | exact Below.refl _ _ | exact (Below.refl _ _).drew)) _ A n cp l (by rfl) (RL.out _ (by first | exact Below.refl _ _ | exact (Below.refl _ _).drew | exact stpA (Below.refl _ _) _ | exact (stpA (Below.refl _ _) _).drew | exact stpA (Below.refl _ _).drew _ | exact stpA (stpA (Below.refl _ _) _) _ | exact (stpA (stpA (Below.refl _ _) _) _).drew | exact stpA (stpA (Below.refl _ _) _).drew _ | exact stpA (stpA (Below.refl _ _).drew _) _)) HN.out HNZ.out (by have := HN40.out; omega) (by simp; try omega) ?_; intro v4 w4 hown4 hgr4; rw [Nat.zero_add, List.nil_append] at hown4; obtain ⟨A4, c4, rfl⟩ := own_form2 hown4; have HO4 := Lib.hid hown4; have K4 : Hid (Below w3.heap.size w3 w4) := Lib.hid (Below.grown (by first | exact Below.refl _ _ | exact (Below.refl _ _).drew | exact stpA (Below.refl _ _) _ | exact (stpA (Below.refl _ _) _).drew | exact stpA (Below.refl _ _).drew _ | exact stpA (stpA (Below.refl _ _) _) _ | exact (stpA (stpA (Below.refl _ _) _) _).drew | exact stpA (stpA (Below.refl _ _) _).drew _ | exact stpA (stpA (Below.refl _ _).drew _) _) hgr4 (by simp; try omega) (fun g hg => by cases hg; first | exact Nat.le_refl _ | exact Nat.le_succ _)); have NC := Lib.hid (nb_grown (PC_.out _ (by first | exact stpA (Below.refl _ _) _ | exact (stpA (Below.refl _ _) _).drew)) hgr4 (fun e => by simp [Value.ownBlock] at e; try omega)); clear hown4 hgr4)
    | (refine step_append_prs (by rfl) (.tmp 44) (.tmp 46) 28 (by rfl) w3.heap.size 25 j0 (.agg #[.string ⟨#[]⟩, .string ⟨#[]⟩]) Try.underlying28 HI.out HZ0.out HZ1.out HZ2.out rfl _ n _ (by rfl) (own_belowK HO4.out (by first | exact stpA (Below.refl _ _) _ | exact (stpA (Below.refl _ _) _).drew) (Nat.le_refl _)) _ _ 1 1 [⟨x.data.toList, y.data.toList⟩] (by rfl) (rdc_one (by first | exact heap_alloc_new w4 _ | exact heap_alloc_new w4 _)) rfl (fun h => by cases h) (by have := HN40.out; omega) (by have := K4.out.size; first | omega | (simp; omega)) ?_; intro v5 w5 hown5 hgr5; obtain ⟨A5, c5, rfl⟩ := own_form2 hown5; have R5 := Lib.hid (row_plus hown5); have K5 : Hid (Below w3.heap.size w3 w5) := Lib.hid (Below.grown (by first | exact K4.out | exact stpA K4.out _ | exact (stpA K4.out _).drew) hgr5 (by have := K4.out.size; first | omega | (simp; omega)) (fun g hg => by have := (HO4.out.lt _ hg).1; omega)); clear hown5 hgr5)
    | (refine step_append_prs (by rfl) (.tmp 44) (.tmp 46) 28 (by rfl) w3.heap.size 25 j0 (.agg #[.string ⟨#[]⟩, .string ⟨#[]⟩]) Try.underlying28 HI.out HZ0.out HZ1.out HZ2.out rfl _ n _ (by rfl) (HO4.out) _ _ 1 1 [⟨x.data.toList, y.data.toList⟩] (by rfl) (rdc_one NB.out) rfl (fun h => by cases h) (by have := HN40.out; omega) (by have := K4.out.size; first | omega | (simp; omega)) ?_; intro v5 w5 hown5 hgr5; obtain ⟨A5, c5, rfl⟩ := own_form2 hown5; have R5 := Lib.hid (row_plus hown5); have K5 : Hid (Below w3.heap.size w3 w5) := Lib.hid (Below.grown (by first | exact K4.out | exact stpA K4.out _ | exact (stpA K4.out _).drew) hgr5 (by have := K4.out.size; first | omega | (simp; omega)) (fun g hg => by have := (HO4.out.lt _ hg).1; omega)); clear hown5 hgr5)
    | (refine step_append_prs (by rfl) (.tmp 44) (.tmp 46) 28 (by rfl) (w3.heap.size + 1) 25 j0 (.agg #[.string ⟨#[]⟩, .string ⟨#[]⟩]) Try.underlying28 HI.out HZ0.out HZ1.out HZ2.out rfl _ n _ (by rfl) (HO4.out) _ _ 1 1 [⟨x.data.toList, y.data.toList⟩] (by rfl) (rdc_one NC.out) rfl (fun h => by cases h) (by have := HN40.out; omega) (by have := lt_heap NC.out; first | omega | (simp; omega)) ?_; intro v5 w5 hown5 hgr5; obtain ⟨A5, c5, rfl⟩ := own_form2 hown5; have R5 := Lib.hid (row_plus hown5); have K5 : Hid (Below w3.heap.size w3 w5) := Lib.hid (Below.grown (by first | exact K4.out | exact stpA K4.out _ | exact (stpA K4.out _).drew) hgr5 (by have := K4.out.size; first | omega | (simp; omega)) (fun g hg => by have := (HO4.out.lt _ hg).1; omega)); clear hown5 hgr5)
    | (go_at_call 25; (with_reducible refine (HF2.out A5 c5 w5 R5.out).mono ?_); rintro e w6 ⟨rfl, hb6⟩; have K6 : Hid (Below w3.heap.size w3 w6) := Lib.hid (stp K5.out hb6); clear hb6)))
  · have HB6 := Lib.hid (HW3.out _ K6.out)
    have HK6 : Hid (∀ W, Below w6.heap.size w6 W → W.cell? ⟨w.heap.size, 0, none⟩ = some (.string x) ∧ W.cell? ⟨w.heap.size, 1, none⟩ = some (.string y)) := Lib.hid fun W h => HCL.out _ (stp HB6.out h)
    obtain ⟨cx6, cy6⟩ := HCL.out _ HB6.out
    go_wp2_with fail
    go_region_held3 (fun W => W.cell? ⟨w.heap.size, 0, none⟩ = some (.string x) ∧ W.cell? ⟨w.heap.size, 1, none⟩ = some (.string y))
      (first | exact HK6.out _ (Below.refl _ _).drew | exact HK6.out _ (Below.refl _ _) | exact HK6.out _ K7.out | exact HK6.out _ K8.out)
      ((first
      | (go_at_call 32; (with_reducible refine (HS1.out _).mono ?_); rintro e w7 ⟨rfl, hb7⟩; have K7 : Hid (Below w6.heap.size w6 w7) := Lib.hid (stp (Below.refl _ _).drew hb7); clear hb7)
      | (go_at_call 32; (with_reducible refine (HS2.out w7).mono ?_); rintro e w8 ⟨rfl, hb8⟩; have K8 : Hid (Below w6.heap.size w6 w8) := Lib.hid (stp K7.out hb8); clear hb8)))
    have HB8 := Lib.hid (stp HB6.out K8.out)
    go_wp2_with (first
      | (go_at_call 30; (with_reducible refine (HD0.out w8 HB8.out).mono ?_); rintro e w9 ⟨hb9, A9, c9, rfl⟩; have HB9 := Lib.hid (stp HB8.out hb9); clear hb9)
      | (go_at_call 30; (with_reducible refine (HD1.out w9 HB9.out).mono ?_); rintro e w10 ⟨hb10, A10, c10, rfl⟩; have HB10 := Lib.hid (stp HB9.out hb10); clear hb10)
      | fail)
    go_ret
    exact ⟨rfl, HWF.out _ HB10.out⟩
  · have HB6 := Lib.hid (HW3.out _ K6.out)
    have HK6 : Hid (∀ W, Below w6.heap.size w6 W → W.cell? ⟨w.heap.size, 0, none⟩ = some (.string x) ∧ W.cell? ⟨w.heap.size, 1, none⟩ = some (.string y)) := Lib.hid fun W h => HCL.out _ (stp HB6.out h)
    obtain ⟨cx6, cy6⟩ := HCL.out _ HB6.out
    go_wp2_with fail
    go_region_held3 (fun W => W.cell? ⟨w.heap.size, 0, none⟩ = some (.string x) ∧ W.cell? ⟨w.heap.size, 1, none⟩ = some (.string y))
      (first | exact HK6.out _ (Below.refl _ _).drew | exact HK6.out _ (Below.refl _ _) | exact HK6.out _ K7.out | exact HK6.out _ K8.out)
      ((first
      | (go_at_call 32; (with_reducible refine (HS1.out _).mono ?_); rintro e w7 ⟨rfl, hb7⟩; have K7 : Hid (Below w6.heap.size w6 w7) := Lib.hid (stp (Below.refl _ _).drew hb7); clear hb7)
      | (go_at_call 32; (with_reducible refine (HS2.out w7).mono ?_); rintro e w8 ⟨rfl, hb8⟩; have K8 : Hid (Below w6.heap.size w6 w8) := Lib.hid (stp K7.out hb8); clear hb8)))
    have HB8 := Lib.hid (stp HB6.out K8.out)
    go_wp2_with (first
      | (go_at_call 30; (with_reducible refine (HD0.out w8 HB8.out).mono ?_); rintro e w9 ⟨hb9, A9, c9, rfl⟩; have HB9 := Lib.hid (stp HB8.out hb9); clear hb9)
      | (go_at_call 30; (with_reducible refine (HD1.out w9 HB9.out).mono ?_); rintro e w10 ⟨hb10, A10, c10, rfl⟩; have HB10 := Lib.hid (stp HB9.out hb10); clear hb10)
      | fail)
    go_ret
    exact ⟨rfl, HWF.out _ HB10.out⟩
  · have HB6 := Lib.hid (HW3.out _ K6.out)
    have HK6 : Hid (∀ W, Below w6.heap.size w6 W → W.cell? ⟨w.heap.size, 0, none⟩ = some (.string x) ∧ W.cell? ⟨w.heap.size, 1, none⟩ = some (.string y)) := Lib.hid fun W h => HCL.out _ (stp HB6.out h)
    obtain ⟨cx6, cy6⟩ := HCL.out _ HB6.out
    go_wp2_with fail
    go_region_held3 (fun W => W.cell? ⟨w.heap.size, 0, none⟩ = some (.string x) ∧ W.cell? ⟨w.heap.size, 1, none⟩ = some (.string y))
      (first | exact HK6.out _ (Below.refl _ _).drew | exact HK6.out _ (Below.refl _ _) | exact HK6.out _ K7.out | exact HK6.out _ K8.out)
      ((first
      | (go_at_call 32; (with_reducible refine (HS1.out _).mono ?_); rintro e w7 ⟨rfl, hb7⟩; have K7 : Hid (Below w6.heap.size w6 w7) := Lib.hid (stp (Below.refl _ _).drew hb7); clear hb7)
      | (go_at_call 32; (with_reducible refine (HS2.out w7).mono ?_); rintro e w8 ⟨rfl, hb8⟩; have K8 : Hid (Below w6.heap.size w6 w8) := Lib.hid (stp K7.out hb8); clear hb8)))
    have HB8 := Lib.hid (stp HB6.out K8.out)
    go_wp2_with (first
      | (go_at_call 30; (with_reducible refine (HD0.out w8 HB8.out).mono ?_); rintro e w9 ⟨hb9, A9, c9, rfl⟩; have HB9 := Lib.hid (stp HB8.out hb9); clear hb9)
      | (go_at_call 30; (with_reducible refine (HD1.out w9 HB9.out).mono ?_); rintro e w10 ⟨hb10, A10, c10, rfl⟩; have HB10 := Lib.hid (stp HB9.out hb10); clear hb10)
      | fail)
    go_ret
    exact ⟨rfl, HWF.out _ HB10.out⟩
set_option maxHeartbeats 32000000 in
set_option maxRecDepth 100000 in
theorem fr_c2tb (A : Option Addr) (n cp : Nat) (l : List Pr) (x y : ByteArray) (w : World) (hr : RdC PrC w w.heap.size A l) (hn : l.length = n) (hx : n ≤ 9223372036854775807) (hz : A = none → cp = 0) (hX : Mx w) (m0 m1 : Nat) (hmx0 : (findH l nCoding).length = m0) (hmx1 : (findH l nLength).length = m1) (K1 K2 : Nat) (k1 : Int) (k2 : Int) (hk1 : (K1 : Int) = k1) (hk2 : (K2 : Int) = k2) (N1 : Int) (N2 : Int) (e1 : Int) (hf1 : frameH l = (K1, N1, e1)) (hf2 : frameH (l ++ [⟨x.data.toList, y.data.toList⟩]) = (K2, N2, 140)) (hb1 : decide (lowS x = lowS ⟨#[116, 114, 97, 110, 115, 102, 101, 114, 45, 101, 110, 99, 111, 100, 105, 110, 103]⟩) = true) (hb2 : decide (lowS x = lowS ⟨#[99, 111, 110, 116, 101, 110, 116, 45, 108, 101, 110, 103, 116, 104]⟩) = false) (hg : greatH l = false) (hs0 : ¬ 1000 < x.size) (hs : ¬ 1000 < y.size) (hq : ¬ 1 < m0 + m1) (hq2 : 0 < m0 + m1) : Calls Try.prog 8 #[.slice A n cp, .agg #[.string x, .string y]] w fun e w' => e = .returned (.bool true) ∧ Below w.heap.size w w' := by
  have hb0 : Below w.heap.size w (w.alloc (.cells #[.string x, .string y] 25)) := stpA (Below.refl _ _) _
  have HA := Lib.hid (alive14 (w.alloc (.cells #[.string x, .string y] 25)) (hX.below hb0))
  have HR0 := Lib.hid (hr.on hb0)
  have HCL : Hid (∀ W, Below (w.alloc (.cells #[.string x, .string y] 25)).heap.size (w.alloc (.cells #[.string x, .string y] 25)) W → W.cell? ⟨w.heap.size, 0, none⟩ = some (.string x) ∧ W.cell? ⟨w.heap.size, 1, none⟩ = some (.string y)) := Lib.hid fun W h => ⟨cellV _ _ 0 _ _ _ (kept_heap (heap_alloc_new w _) h), cellV _ _ 1 _ _ _ (kept_heap (heap_alloc_new w _) h)⟩
  have HWF : Hid (∀ W, Below (w.alloc (.cells #[.string x, .string y] 25)).heap.size (w.alloc (.cells #[.string x, .string y] 25)) W → Below w.heap.size w W) := Lib.hid fun W h => stp hb0 h
  have HG : Hid (∀ W, Below (w.alloc (.cells #[.string x, .string y] 25)).heap.size (w.alloc (.cells #[.string x, .string y] 25)) W → Calls Try.prog 20 #[.slice A n cp] W fun e w' => e = .returned (.bool false) ∧ Below W.heap.size W w') := Lib.hid fun W hW => rgreat14 A n cp l W (HR0.out.on hW) hn hx false hg
  obtain ⟨g1, g2, g3⟩ := great_no14 hg
  obtain ⟨j0, hj, hy0, hy1, hy2⟩ := info_parts infoPr
  have HI := Lib.hid hj
  have HZ0 := Lib.hid hy0
  have HZ1 := Lib.hid hy1
  have HZ2 := Lib.hid hy2
  have HN := Lib.hid hn
  have HNZ := Lib.hid hz
  have d1 : decide ((1000 : Int) < (x.size : Int)) = false := decide_eq_false (by omega)
  have d2 : decide ((1000 : Int) < (y.size : Int)) = false := decide_eq_false (by omega)
  have hn40 : n ≤ 40 := by omega
  have HN40 := Lib.hid hn40
  have hm1 : n + 1 ≤ 1000 := by omega
  have HXS : Hid (x.size ≤ 1000000) := Lib.hid (by omega)
  have hsm2 : SmP (l ++ [⟨x.data.toList, y.data.toList⟩]) := fun p hp => by
    rcases List.mem_append.1 hp with hp | hp
    · exact g2 p hp
    · rw [List.mem_singleton] at hp
      subst hp
      dsimp only
      rw [ba_l, ba_l]
      omega
  have HF1 : Hid (∀ W, Below (w.alloc (.cells #[.string x, .string y] 25)).heap.size (w.alloc (.cells #[.string x, .string y] 25)) W → Calls Try.prog 25 #[.slice A n cp] W fun e w' => e = .returned (.tuple #[.int .u8 k1, .int .i64 N1, .int .i64 e1]) ∧ Below W.heap.size W w') := Lib.hid fun W hW => by
    have t := frame14 A n cp l W (HR0.out.on hW) hn (by omega) g2 K1 N1 e1 hf1
    rw [hk1] at t
    exact t
  have HF2 : Hid (∀ A5 c5 W, RdC PrC W W.heap.size A5 (l ++ [⟨x.data.toList, y.data.toList⟩]) → Calls Try.prog 25 #[.slice A5 (n + 1) c5] W fun e w' => e = .returned (.tuple #[.int .u8 k2, .int .i64 N2, .int .i64 140]) ∧ Below W.heap.size W w') := Lib.hid fun A5 c5 W h => by
    have t := frame14 A5 (n + 1) c5 _ W h (by rw [List.length_append, hn]; rfl) hm1 hsm2 K2 N2 140 hf2
    rw [hk2] at t
    exact t
  have HS1 : Hid (∀ W, Calls Try.prog 32 #[.string x, .string ⟨#[116, 114, 97, 110, 115, 102, 101, 114, 45, 101, 110, 99, 111, 100, 105, 110, 103]⟩] W fun e w' => e = .returned (.bool true) ∧ Below W.heap.size W w') := Lib.hid fun W => same7 x ⟨#[116, 114, 97, 110, 115, 102, 101, 114, 45, 101, 110, 99, 111, 100, 105, 110, 103]⟩ true W HXS.out (by decide) hb1
  have HS2 : Hid (∀ W, Calls Try.prog 32 #[.string x, .string ⟨#[99, 111, 110, 116, 101, 110, 116, 45, 108, 101, 110, 103, 116, 104]⟩] W fun e w' => e = .returned (.bool false) ∧ Below W.heap.size W w') := Lib.hid fun W => same7 x ⟨#[99, 111, 110, 116, 101, 110, 116, 45, 108, 101, 110, 103, 116, 104]⟩ false W HXS.out (by decide) hb2
  have HD0 : Hid (∀ W, Below (w.alloc (.cells #[.string x, .string y] 25)).heap.size (w.alloc (.cells #[.string x, .string y] 25)) W → Calls Try.prog 30 #[.slice A n cp, .string ⟨#[116, 114, 97, 110, 115, 102, 101, 114, 45, 101, 110, 99, 111, 100, 105, 110, 103]⟩] W fun e w' => Below W.heap.size W w' ∧ ∃ A c, e = .returned (.slice A m0 c)) := Lib.hid fun W hW => (find14 A n cp l ⟨#[116, 114, 97, 110, 115, 102, 101, 114, 45, 101, 110, 99, 111, 100, 105, 110, 103]⟩ W (HR0.out.on hW) hn (by omega) g2 (by decide)).mono fun e w' ⟨q1, A, c, q2, _, _⟩ => ⟨q1, A, c, hmx0 ▸ q2⟩
  have HD1 : Hid (∀ W, Below (w.alloc (.cells #[.string x, .string y] 25)).heap.size (w.alloc (.cells #[.string x, .string y] 25)) W → Calls Try.prog 30 #[.slice A n cp, .string ⟨#[99, 111, 110, 116, 101, 110, 116, 45, 108, 101, 110, 103, 116, 104]⟩] W fun e w' => Below W.heap.size W w' ∧ ∃ A c, e = .returned (.slice A m1 c)) := Lib.hid fun W hW => (find14 A n cp l ⟨#[99, 111, 110, 116, 101, 110, 116, 45, 108, 101, 110, 103, 116, 104]⟩ W (HR0.out.on hW) hn (by omega) g2 (by decide)).mono fun e w' ⟨q1, A, c, q2, _, _⟩ => ⟨q1, A, c, hmx1 ▸ q2⟩
  have hmb : m0 + m1 ≤ 80 := by
    have f0 := find_len l nCoding
    have f1 := find_len l nLength
    rw [hmx0] at f0
    rw [hmx1] at f1
    omega
  have dm : decide ((1 : Int) < (m0 : Int) + (m1 : Int)) = false := decide_eq_false (by omega)
  have dz : decide ((0 : Int) < (m0 : Int) + (m1 : Int)) = true := decide_eq_true (by omega)
  have hmi : (m0 : Int) + (m1 : Int) ≤ 80 := by omega
  clear hr hn hx hX hg hz hb0 hs hs0 g1 g2 g3 hn40 hm1 hsm2 hmx0 hmx1 hk1 hk2 hf1 hf2 hb1 hb2 hj hy0 hy1 hy2 hq hq2 hmb
  go_enter Try.func8, Try.ntmps8
  go_wp2_with (first
    | (go_at_call 16; (with_reducible refine (HA.out).mono ?_); rintro e w1 ⟨rfl, hb1⟩; have HB1 := Lib.hid hb1; clear hb1)
    | (go_at_call 20; (with_reducible refine (HG.out w1 HB1.out).mono ?_); rintro e w2 ⟨rfl, hb2⟩; have HB2 := Lib.hid (stp HB1.out hb2); obtain ⟨cx2, cy2⟩ := HCL.out _ HB2.out; clear hb2)
    | (go_at_call 25; (with_reducible refine (HF1.out w2 HB2.out).mono ?_); rintro e w3 ⟨rfl, hb3⟩; have HB3 := Lib.hid (stp HB2.out hb3); obtain ⟨cx3, cy3⟩ := HCL.out _ HB3.out; clear hb3)
    | fail)
  have HW3 : Hid (∀ W, Below w3.heap.size w3 W → Below (w.alloc (.cells #[.string x, .string y] 25)).heap.size (w.alloc (.cells #[.string x, .string y] 25)) W) := Lib.hid fun W h => stp HB3.out h
  have HK : Hid (∀ W, Below w3.heap.size w3 W → W.cell? ⟨w.heap.size, 0, none⟩ = some (.string x) ∧ W.cell? ⟨w.heap.size, 1, none⟩ = some (.string y)) := Lib.hid fun W h => HCL.out _ (stp HB3.out h)
  have RL : Hid (∀ W, Below w3.heap.size w3 W → RdC PrC W W.heap.size A l) := Lib.hid fun W h => HR0.out.on (stp HB3.out h)
  have OA : Hid (∀ W, Below (w3.alloc (.cells #[] 25)).heap.size (w3.alloc (.cells #[] 25)) W → W.ownsRow w3.heap.size 25 2 (.slice (some ⟨w3.heap.size, 0, none⟩) 0 0) 0 []) := Lib.hid fun W h => own_belowK (own_empty w3 _ 2) h (Nat.le_refl _)
  have OC : Hid (∀ W, Below ((w3.alloc (.cells #[.string x, .string y] 25)).alloc (.cells #[] 25)).heap.size ((w3.alloc (.cells #[.string x, .string y] 25)).alloc (.cells #[] 25)) W → W.ownsRow (w3.heap.size + 1) 25 2 (.slice (some ⟨w3.heap.size + 1, 0, none⟩) 0 0) 0 []) := Lib.hid fun W h => own_belowK (own_emptyB w3 _ _ 2) h (Nat.le_refl _)
  have PB_ : Hid (∀ W, Below ((w3.alloc (.cells #[] 25)).alloc (.cells #[.string x, .string y] 25)).heap.size ((w3.alloc (.cells #[] 25)).alloc (.cells #[.string x, .string y] 25)) W → W.heap[w3.heap.size + 1]? = some (.cells #[.string x, .string y] 25 (0, 0))) := Lib.hid fun W h => kept_heap (by have := heap_alloc_new (w3.alloc (.cells #[] 25)) (.cells #[.string x, .string y] 25); rw [World.size_alloc] at this; exact this) h
  have PC_ : Hid (∀ W, Below (w3.alloc (.cells #[.string x, .string y] 25)).heap.size (w3.alloc (.cells #[.string x, .string y] 25)) W → W.heap[w3.heap.size]? = some (.cells #[.string x, .string y] 25 (0, 0))) := Lib.hid fun W h => kept_heap (heap_alloc_new w3 _) h
  go_region_held3 (fun W => W.cell? ⟨w.heap.size, 0, none⟩ = some (.string x) ∧ W.cell? ⟨w.heap.size, 1, none⟩ = some (.string y))
    (first | exact HK.out _ (by first | exact Below.refl _ _ | exact (Below.refl _ _).drew | exact stpA (Below.refl _ _) _ | exact (stpA (Below.refl _ _) _).drew | exact stpA (Below.refl _ _).drew _ | exact stpA (stpA (Below.refl _ _) _) _ | exact (stpA (stpA (Below.refl _ _) _) _).drew | exact stpA (stpA (Below.refl _ _) _).drew _ | exact stpA (stpA (Below.refl _ _).drew _) _) | exact HK.out _ K6.out | exact HK.out _ K5.out | exact HK.out _ K4.out | exact HK.out _ (stpA K4.out _) | exact HK.out _ (stpA K4.out _).drew)
    ((first
    | (refine step_append_prs (by rfl) (.tmp 42) (.tmp 43) 28 (by rfl) w3.heap.size 25 j0 (.agg #[.string ⟨#[]⟩, .string ⟨#[]⟩]) Try.underlying28 HI.out HZ0.out HZ1.out HZ2.out rfl _ 0 [] (by rfl) (OA.out _ (by first | exact Below.refl _ _ | exact (Below.refl _ _).drew)) _ A n cp l (by rfl) (RL.out _ (by first | exact Below.refl _ _ | exact (Below.refl _ _).drew | exact stpA (Below.refl _ _) _ | exact (stpA (Below.refl _ _) _).drew | exact stpA (Below.refl _ _).drew _ | exact stpA (stpA (Below.refl _ _) _) _ | exact (stpA (stpA (Below.refl _ _) _) _).drew | exact stpA (stpA (Below.refl _ _) _).drew _ | exact stpA (stpA (Below.refl _ _).drew _) _)) HN.out HNZ.out (by have := HN40.out; omega) (by simp; try omega) ?_; intro v4 w4 hown4 hgr4; rw [Nat.zero_add, List.nil_append] at hown4; obtain ⟨A4, c4, rfl⟩ := own_form2 hown4; have HO4 := Lib.hid hown4; have K4 : Hid (Below w3.heap.size w3 w4) := Lib.hid (Below.grown (by first | exact Below.refl _ _ | exact (Below.refl _ _).drew | exact stpA (Below.refl _ _) _ | exact (stpA (Below.refl _ _) _).drew | exact stpA (Below.refl _ _).drew _ | exact stpA (stpA (Below.refl _ _) _) _ | exact (stpA (stpA (Below.refl _ _) _) _).drew | exact stpA (stpA (Below.refl _ _) _).drew _ | exact stpA (stpA (Below.refl _ _).drew _) _) hgr4 (by simp; try omega) (fun g hg => by cases hg; first | exact Nat.le_refl _ | exact Nat.le_succ _)); clear hown4 hgr4)
    | (refine step_append_prs (by rfl) (.tmp 42) (.tmp 43) 28 (by rfl) w3.heap.size 25 j0 (.agg #[.string ⟨#[]⟩, .string ⟨#[]⟩]) Try.underlying28 HI.out HZ0.out HZ1.out HZ2.out rfl _ 0 [] (by rfl) (OA.out _ (by first | exact stpA (Below.refl _ _) _ | exact (stpA (Below.refl _ _) _).drew)) _ A n cp l (by rfl) (RL.out _ (by first | exact Below.refl _ _ | exact (Below.refl _ _).drew | exact stpA (Below.refl _ _) _ | exact (stpA (Below.refl _ _) _).drew | exact stpA (Below.refl _ _).drew _ | exact stpA (stpA (Below.refl _ _) _) _ | exact (stpA (stpA (Below.refl _ _) _) _).drew | exact stpA (stpA (Below.refl _ _) _).drew _ | exact stpA (stpA (Below.refl _ _).drew _) _)) HN.out HNZ.out (by have := HN40.out; omega) (by simp; try omega) ?_; intro v4 w4 hown4 hgr4; rw [Nat.zero_add, List.nil_append] at hown4; obtain ⟨A4, c4, rfl⟩ := own_form2 hown4; have HO4 := Lib.hid hown4; have K4 : Hid (Below w3.heap.size w3 w4) := Lib.hid (Below.grown (by first | exact Below.refl _ _ | exact (Below.refl _ _).drew | exact stpA (Below.refl _ _) _ | exact (stpA (Below.refl _ _) _).drew | exact stpA (Below.refl _ _).drew _ | exact stpA (stpA (Below.refl _ _) _) _ | exact (stpA (stpA (Below.refl _ _) _) _).drew | exact stpA (stpA (Below.refl _ _) _).drew _ | exact stpA (stpA (Below.refl _ _).drew _) _) hgr4 (by simp; try omega) (fun g hg => by cases hg; first | exact Nat.le_refl _ | exact Nat.le_succ _)); have NB := Lib.hid (nb_grown (PB_.out _ (by first | exact Below.refl _ _ | exact (Below.refl _ _).drew)) hgr4 (fun e => by simp [Value.ownBlock] at e; try omega)); clear hown4 hgr4)
    | (refine step_append_prs (by rfl) (.tmp 42) (.tmp 43) 28 (by rfl) (w3.heap.size + 1) 25 j0 (.agg #[.string ⟨#[]⟩, .string ⟨#[]⟩]) Try.underlying28 HI.out HZ0.out HZ1.out HZ2.out rfl _ 0 [] (by rfl) (OC.out _ (by first | exact Below.refl _ _ | exact (Below.refl _ _).drew)) _ A n cp l (by rfl) (RL.out _ (by first | exact Below.refl _ _ | exact (Below.refl _ _).drew | exact stpA (Below.refl _ _) _ | exact (stpA (Below.refl _ _) _).drew | exact stpA (Below.refl _ _).drew _ | exact stpA (stpA (Below.refl _ _) _) _ | exact (stpA (stpA (Below.refl _ _) _) _).drew | exact stpA (stpA (Below.refl _ _) _).drew _ | exact stpA (stpA (Below.refl _ _).drew _) _)) HN.out HNZ.out (by have := HN40.out; omega) (by simp; try omega) ?_; intro v4 w4 hown4 hgr4; rw [Nat.zero_add, List.nil_append] at hown4; obtain ⟨A4, c4, rfl⟩ := own_form2 hown4; have HO4 := Lib.hid hown4; have K4 : Hid (Below w3.heap.size w3 w4) := Lib.hid (Below.grown (by first | exact Below.refl _ _ | exact (Below.refl _ _).drew | exact stpA (Below.refl _ _) _ | exact (stpA (Below.refl _ _) _).drew | exact stpA (Below.refl _ _).drew _ | exact stpA (stpA (Below.refl _ _) _) _ | exact (stpA (stpA (Below.refl _ _) _) _).drew | exact stpA (stpA (Below.refl _ _) _).drew _ | exact stpA (stpA (Below.refl _ _).drew _) _) hgr4 (by simp; try omega) (fun g hg => by cases hg; first | exact Nat.le_refl _ | exact Nat.le_succ _)); have NC := Lib.hid (nb_grown (PC_.out _ (by first | exact stpA (Below.refl _ _) _ | exact (stpA (Below.refl _ _) _).drew)) hgr4 (fun e => by simp [Value.ownBlock] at e; try omega)); clear hown4 hgr4)
    | (refine step_append_prs (by rfl) (.tmp 44) (.tmp 46) 28 (by rfl) w3.heap.size 25 j0 (.agg #[.string ⟨#[]⟩, .string ⟨#[]⟩]) Try.underlying28 HI.out HZ0.out HZ1.out HZ2.out rfl _ n _ (by rfl) (own_belowK HO4.out (by first | exact stpA (Below.refl _ _) _ | exact (stpA (Below.refl _ _) _).drew) (Nat.le_refl _)) _ _ 1 1 [⟨x.data.toList, y.data.toList⟩] (by rfl) (rdc_one (by first | exact heap_alloc_new w4 _ | exact heap_alloc_new w4 _)) rfl (fun h => by cases h) (by have := HN40.out; omega) (by have := K4.out.size; first | omega | (simp; omega)) ?_; intro v5 w5 hown5 hgr5; obtain ⟨A5, c5, rfl⟩ := own_form2 hown5; have R5 := Lib.hid (row_plus hown5); have K5 : Hid (Below w3.heap.size w3 w5) := Lib.hid (Below.grown (by first | exact K4.out | exact stpA K4.out _ | exact (stpA K4.out _).drew) hgr5 (by have := K4.out.size; first | omega | (simp; omega)) (fun g hg => by have := (HO4.out.lt _ hg).1; omega)); clear hown5 hgr5)
    | (refine step_append_prs (by rfl) (.tmp 44) (.tmp 46) 28 (by rfl) w3.heap.size 25 j0 (.agg #[.string ⟨#[]⟩, .string ⟨#[]⟩]) Try.underlying28 HI.out HZ0.out HZ1.out HZ2.out rfl _ n _ (by rfl) (HO4.out) _ _ 1 1 [⟨x.data.toList, y.data.toList⟩] (by rfl) (rdc_one NB.out) rfl (fun h => by cases h) (by have := HN40.out; omega) (by have := K4.out.size; first | omega | (simp; omega)) ?_; intro v5 w5 hown5 hgr5; obtain ⟨A5, c5, rfl⟩ := own_form2 hown5; have R5 := Lib.hid (row_plus hown5); have K5 : Hid (Below w3.heap.size w3 w5) := Lib.hid (Below.grown (by first | exact K4.out | exact stpA K4.out _ | exact (stpA K4.out _).drew) hgr5 (by have := K4.out.size; first | omega | (simp; omega)) (fun g hg => by have := (HO4.out.lt _ hg).1; omega)); clear hown5 hgr5)
    | (refine step_append_prs (by rfl) (.tmp 44) (.tmp 46) 28 (by rfl) (w3.heap.size + 1) 25 j0 (.agg #[.string ⟨#[]⟩, .string ⟨#[]⟩]) Try.underlying28 HI.out HZ0.out HZ1.out HZ2.out rfl _ n _ (by rfl) (HO4.out) _ _ 1 1 [⟨x.data.toList, y.data.toList⟩] (by rfl) (rdc_one NC.out) rfl (fun h => by cases h) (by have := HN40.out; omega) (by have := lt_heap NC.out; first | omega | (simp; omega)) ?_; intro v5 w5 hown5 hgr5; obtain ⟨A5, c5, rfl⟩ := own_form2 hown5; have R5 := Lib.hid (row_plus hown5); have K5 : Hid (Below w3.heap.size w3 w5) := Lib.hid (Below.grown (by first | exact K4.out | exact stpA K4.out _ | exact (stpA K4.out _).drew) hgr5 (by have := K4.out.size; first | omega | (simp; omega)) (fun g hg => by have := (HO4.out.lt _ hg).1; omega)); clear hown5 hgr5)
    | (go_at_call 25; (with_reducible refine (HF2.out A5 c5 w5 R5.out).mono ?_); rintro e w6 ⟨rfl, hb6⟩; have K6 : Hid (Below w3.heap.size w3 w6) := Lib.hid (stp K5.out hb6); clear hb6)))
  · have HB6 := Lib.hid (HW3.out _ K6.out)
    have HK6 : Hid (∀ W, Below w6.heap.size w6 W → W.cell? ⟨w.heap.size, 0, none⟩ = some (.string x) ∧ W.cell? ⟨w.heap.size, 1, none⟩ = some (.string y)) := Lib.hid fun W h => HCL.out _ (stp HB6.out h)
    obtain ⟨cx6, cy6⟩ := HCL.out _ HB6.out
    go_wp2_with fail
    go_region_held3 (fun W => W.cell? ⟨w.heap.size, 0, none⟩ = some (.string x) ∧ W.cell? ⟨w.heap.size, 1, none⟩ = some (.string y))
      (first | exact HK6.out _ (Below.refl _ _).drew | exact HK6.out _ (Below.refl _ _) | exact HK6.out _ K7.out | exact HK6.out _ K8.out)
      ((first
      | (go_at_call 32; (with_reducible refine (HS1.out _).mono ?_); rintro e w7 ⟨rfl, hb7⟩; have K7 : Hid (Below w6.heap.size w6 w7) := Lib.hid (stp (Below.refl _ _).drew hb7); clear hb7)
      | (go_at_call 32; (with_reducible refine (HS2.out w7).mono ?_); rintro e w8 ⟨rfl, hb8⟩; have K8 : Hid (Below w6.heap.size w6 w8) := Lib.hid (stp K7.out hb8); clear hb8)))
    have HB8 := Lib.hid (stp HB6.out K8.out)
    go_wp2_with (first
      | (go_at_call 30; (with_reducible refine (HD0.out w8 HB8.out).mono ?_); rintro e w9 ⟨hb9, A9, c9, rfl⟩; have HB9 := Lib.hid (stp HB8.out hb9); clear hb9)
      | (go_at_call 30; (with_reducible refine (HD1.out w9 HB9.out).mono ?_); rintro e w10 ⟨hb10, A10, c10, rfl⟩; have HB10 := Lib.hid (stp HB9.out hb10); clear hb10)
      | fail)
    go_ret
    exact ⟨rfl, HWF.out _ HB10.out⟩
  · have HB6 := Lib.hid (HW3.out _ K6.out)
    have HK6 : Hid (∀ W, Below w6.heap.size w6 W → W.cell? ⟨w.heap.size, 0, none⟩ = some (.string x) ∧ W.cell? ⟨w.heap.size, 1, none⟩ = some (.string y)) := Lib.hid fun W h => HCL.out _ (stp HB6.out h)
    obtain ⟨cx6, cy6⟩ := HCL.out _ HB6.out
    go_wp2_with fail
    go_region_held3 (fun W => W.cell? ⟨w.heap.size, 0, none⟩ = some (.string x) ∧ W.cell? ⟨w.heap.size, 1, none⟩ = some (.string y))
      (first | exact HK6.out _ (Below.refl _ _).drew | exact HK6.out _ (Below.refl _ _) | exact HK6.out _ K7.out | exact HK6.out _ K8.out)
      ((first
      | (go_at_call 32; (with_reducible refine (HS1.out _).mono ?_); rintro e w7 ⟨rfl, hb7⟩; have K7 : Hid (Below w6.heap.size w6 w7) := Lib.hid (stp (Below.refl _ _).drew hb7); clear hb7)
      | (go_at_call 32; (with_reducible refine (HS2.out w7).mono ?_); rintro e w8 ⟨rfl, hb8⟩; have K8 : Hid (Below w6.heap.size w6 w8) := Lib.hid (stp K7.out hb8); clear hb8)))
    have HB8 := Lib.hid (stp HB6.out K8.out)
    go_wp2_with (first
      | (go_at_call 30; (with_reducible refine (HD0.out w8 HB8.out).mono ?_); rintro e w9 ⟨hb9, A9, c9, rfl⟩; have HB9 := Lib.hid (stp HB8.out hb9); clear hb9)
      | (go_at_call 30; (with_reducible refine (HD1.out w9 HB9.out).mono ?_); rintro e w10 ⟨hb10, A10, c10, rfl⟩; have HB10 := Lib.hid (stp HB9.out hb10); clear hb10)
      | fail)
    go_ret
    exact ⟨rfl, HWF.out _ HB10.out⟩
  · have HB6 := Lib.hid (HW3.out _ K6.out)
    have HK6 : Hid (∀ W, Below w6.heap.size w6 W → W.cell? ⟨w.heap.size, 0, none⟩ = some (.string x) ∧ W.cell? ⟨w.heap.size, 1, none⟩ = some (.string y)) := Lib.hid fun W h => HCL.out _ (stp HB6.out h)
    obtain ⟨cx6, cy6⟩ := HCL.out _ HB6.out
    go_wp2_with fail
    go_region_held3 (fun W => W.cell? ⟨w.heap.size, 0, none⟩ = some (.string x) ∧ W.cell? ⟨w.heap.size, 1, none⟩ = some (.string y))
      (first | exact HK6.out _ (Below.refl _ _).drew | exact HK6.out _ (Below.refl _ _) | exact HK6.out _ K7.out | exact HK6.out _ K8.out)
      ((first
      | (go_at_call 32; (with_reducible refine (HS1.out _).mono ?_); rintro e w7 ⟨rfl, hb7⟩; have K7 : Hid (Below w6.heap.size w6 w7) := Lib.hid (stp (Below.refl _ _).drew hb7); clear hb7)
      | (go_at_call 32; (with_reducible refine (HS2.out w7).mono ?_); rintro e w8 ⟨rfl, hb8⟩; have K8 : Hid (Below w6.heap.size w6 w8) := Lib.hid (stp K7.out hb8); clear hb8)))
    have HB8 := Lib.hid (stp HB6.out K8.out)
    go_wp2_with (first
      | (go_at_call 30; (with_reducible refine (HD0.out w8 HB8.out).mono ?_); rintro e w9 ⟨hb9, A9, c9, rfl⟩; have HB9 := Lib.hid (stp HB8.out hb9); clear hb9)
      | (go_at_call 30; (with_reducible refine (HD1.out w9 HB9.out).mono ?_); rintro e w10 ⟨hb10, A10, c10, rfl⟩; have HB10 := Lib.hid (stp HB9.out hb10); clear hb10)
      | fail)
    go_ret
    exact ⟨rfl, HWF.out _ HB10.out⟩
set_option maxHeartbeats 32000000 in
set_option maxRecDepth 100000 in
theorem fr_c3ta (A : Option Addr) (n cp : Nat) (l : List Pr) (x y : ByteArray) (w : World) (hr : RdC PrC w w.heap.size A l) (hn : l.length = n) (hx : n ≤ 9223372036854775807) (hz : A = none → cp = 0) (hX : Mx w) (m0 m1 : Nat) (hmx0 : (findH l nCoding).length = m0) (hmx1 : (findH l nLength).length = m1) (K1 K2 : Nat) (k2 : Int) (hk1 : (K1 : Int) = 0) (hk2 : (K2 : Int) = k2) (N1 : Int) (N2 : Int) (hf1 : frameH l = (K1, N1, 0)) (hf2 : frameH (l ++ [⟨x.data.toList, y.data.toList⟩]) = (K2, N2, 140)) (hb1 : decide (lowS x = lowS ⟨#[116, 114, 97, 110, 115, 102, 101, 114, 45, 101, 110, 99, 111, 100, 105, 110, 103]⟩) = true) (hb2 : decide (lowS x = lowS ⟨#[99, 111, 110, 116, 101, 110, 116, 45, 108, 101, 110, 103, 116, 104]⟩) = false) (hg : greatH l = false) (hs0 : ¬ 1000 < x.size) (hs : ¬ 1000 < y.size) (hq : m0 + m1 = 0) : Calls Try.prog 8 #[.slice A n cp, .agg #[.string x, .string y]] w fun e w' => e = .returned (.bool true) ∧ Below w.heap.size w w' := by
  have hb0 : Below w.heap.size w (w.alloc (.cells #[.string x, .string y] 25)) := stpA (Below.refl _ _) _
  have HA := Lib.hid (alive14 (w.alloc (.cells #[.string x, .string y] 25)) (hX.below hb0))
  have HR0 := Lib.hid (hr.on hb0)
  have HCL : Hid (∀ W, Below (w.alloc (.cells #[.string x, .string y] 25)).heap.size (w.alloc (.cells #[.string x, .string y] 25)) W → W.cell? ⟨w.heap.size, 0, none⟩ = some (.string x) ∧ W.cell? ⟨w.heap.size, 1, none⟩ = some (.string y)) := Lib.hid fun W h => ⟨cellV _ _ 0 _ _ _ (kept_heap (heap_alloc_new w _) h), cellV _ _ 1 _ _ _ (kept_heap (heap_alloc_new w _) h)⟩
  have HWF : Hid (∀ W, Below (w.alloc (.cells #[.string x, .string y] 25)).heap.size (w.alloc (.cells #[.string x, .string y] 25)) W → Below w.heap.size w W) := Lib.hid fun W h => stp hb0 h
  have HG : Hid (∀ W, Below (w.alloc (.cells #[.string x, .string y] 25)).heap.size (w.alloc (.cells #[.string x, .string y] 25)) W → Calls Try.prog 20 #[.slice A n cp] W fun e w' => e = .returned (.bool false) ∧ Below W.heap.size W w') := Lib.hid fun W hW => rgreat14 A n cp l W (HR0.out.on hW) hn hx false hg
  obtain ⟨g1, g2, g3⟩ := great_no14 hg
  obtain ⟨j0, hj, hy0, hy1, hy2⟩ := info_parts infoPr
  have HI := Lib.hid hj
  have HZ0 := Lib.hid hy0
  have HZ1 := Lib.hid hy1
  have HZ2 := Lib.hid hy2
  have HN := Lib.hid hn
  have HNZ := Lib.hid hz
  have d1 : decide ((1000 : Int) < (x.size : Int)) = false := decide_eq_false (by omega)
  have d2 : decide ((1000 : Int) < (y.size : Int)) = false := decide_eq_false (by omega)
  have hn40 : n ≤ 40 := by omega
  have HN40 := Lib.hid hn40
  have hm1 : n + 1 ≤ 1000 := by omega
  have HXS : Hid (x.size ≤ 1000000) := Lib.hid (by omega)
  have hsm2 : SmP (l ++ [⟨x.data.toList, y.data.toList⟩]) := fun p hp => by
    rcases List.mem_append.1 hp with hp | hp
    · exact g2 p hp
    · rw [List.mem_singleton] at hp
      subst hp
      dsimp only
      rw [ba_l, ba_l]
      omega
  have HF1 : Hid (∀ W, Below (w.alloc (.cells #[.string x, .string y] 25)).heap.size (w.alloc (.cells #[.string x, .string y] 25)) W → Calls Try.prog 25 #[.slice A n cp] W fun e w' => e = .returned (.tuple #[.int .u8 0, .int .i64 N1, .int .i64 0]) ∧ Below W.heap.size W w') := Lib.hid fun W hW => by
    have t := frame14 A n cp l W (HR0.out.on hW) hn (by omega) g2 K1 N1 0 hf1
    rw [hk1] at t
    exact t
  have HF2 : Hid (∀ A5 c5 W, RdC PrC W W.heap.size A5 (l ++ [⟨x.data.toList, y.data.toList⟩]) → Calls Try.prog 25 #[.slice A5 (n + 1) c5] W fun e w' => e = .returned (.tuple #[.int .u8 k2, .int .i64 N2, .int .i64 140]) ∧ Below W.heap.size W w') := Lib.hid fun A5 c5 W h => by
    have t := frame14 A5 (n + 1) c5 _ W h (by rw [List.length_append, hn]; rfl) hm1 hsm2 K2 N2 140 hf2
    rw [hk2] at t
    exact t
  have HS1 : Hid (∀ W, Calls Try.prog 32 #[.string x, .string ⟨#[116, 114, 97, 110, 115, 102, 101, 114, 45, 101, 110, 99, 111, 100, 105, 110, 103]⟩] W fun e w' => e = .returned (.bool true) ∧ Below W.heap.size W w') := Lib.hid fun W => same7 x ⟨#[116, 114, 97, 110, 115, 102, 101, 114, 45, 101, 110, 99, 111, 100, 105, 110, 103]⟩ true W HXS.out (by decide) hb1
  have HS2 : Hid (∀ W, Calls Try.prog 32 #[.string x, .string ⟨#[99, 111, 110, 116, 101, 110, 116, 45, 108, 101, 110, 103, 116, 104]⟩] W fun e w' => e = .returned (.bool false) ∧ Below W.heap.size W w') := Lib.hid fun W => same7 x ⟨#[99, 111, 110, 116, 101, 110, 116, 45, 108, 101, 110, 103, 116, 104]⟩ false W HXS.out (by decide) hb2
  have HD0 : Hid (∀ W, Below (w.alloc (.cells #[.string x, .string y] 25)).heap.size (w.alloc (.cells #[.string x, .string y] 25)) W → Calls Try.prog 30 #[.slice A n cp, .string ⟨#[116, 114, 97, 110, 115, 102, 101, 114, 45, 101, 110, 99, 111, 100, 105, 110, 103]⟩] W fun e w' => Below W.heap.size W w' ∧ ∃ A c, e = .returned (.slice A m0 c)) := Lib.hid fun W hW => (find14 A n cp l ⟨#[116, 114, 97, 110, 115, 102, 101, 114, 45, 101, 110, 99, 111, 100, 105, 110, 103]⟩ W (HR0.out.on hW) hn (by omega) g2 (by decide)).mono fun e w' ⟨q1, A, c, q2, _, _⟩ => ⟨q1, A, c, hmx0 ▸ q2⟩
  have HD1 : Hid (∀ W, Below (w.alloc (.cells #[.string x, .string y] 25)).heap.size (w.alloc (.cells #[.string x, .string y] 25)) W → Calls Try.prog 30 #[.slice A n cp, .string ⟨#[99, 111, 110, 116, 101, 110, 116, 45, 108, 101, 110, 103, 116, 104]⟩] W fun e w' => Below W.heap.size W w' ∧ ∃ A c, e = .returned (.slice A m1 c)) := Lib.hid fun W hW => (find14 A n cp l ⟨#[99, 111, 110, 116, 101, 110, 116, 45, 108, 101, 110, 103, 116, 104]⟩ W (HR0.out.on hW) hn (by omega) g2 (by decide)).mono fun e w' ⟨q1, A, c, q2, _, _⟩ => ⟨q1, A, c, hmx1 ▸ q2⟩
  have hmb : m0 + m1 ≤ 80 := by
    have f0 := find_len l nCoding
    have f1 := find_len l nLength
    rw [hmx0] at f0
    rw [hmx1] at f1
    omega
  have dm : decide ((1 : Int) < (m0 : Int) + (m1 : Int)) = false := decide_eq_false (by omega)
  have dz : decide ((0 : Int) < (m0 : Int) + (m1 : Int)) = false := decide_eq_false (by omega)
  have hmi : (m0 : Int) + (m1 : Int) ≤ 80 := by omega
  clear hr hn hx hX hg hz hb0 hs hs0 g1 g2 g3 hn40 hm1 hsm2 hmx0 hmx1 hk1 hk2 hf1 hf2 hb1 hb2 hj hy0 hy1 hy2 hq hmb
  go_enter Try.func8, Try.ntmps8
  go_wp2_with (first
    | (go_at_call 16; (with_reducible refine (HA.out).mono ?_); rintro e w1 ⟨rfl, hb1⟩; have HB1 := Lib.hid hb1; clear hb1)
    | (go_at_call 20; (with_reducible refine (HG.out w1 HB1.out).mono ?_); rintro e w2 ⟨rfl, hb2⟩; have HB2 := Lib.hid (stp HB1.out hb2); obtain ⟨cx2, cy2⟩ := HCL.out _ HB2.out; clear hb2)
    | (go_at_call 25; (with_reducible refine (HF1.out w2 HB2.out).mono ?_); rintro e w3 ⟨rfl, hb3⟩; have HB3 := Lib.hid (stp HB2.out hb3); obtain ⟨cx3, cy3⟩ := HCL.out _ HB3.out; clear hb3)
    | fail)
  have HW3 : Hid (∀ W, Below w3.heap.size w3 W → Below (w.alloc (.cells #[.string x, .string y] 25)).heap.size (w.alloc (.cells #[.string x, .string y] 25)) W) := Lib.hid fun W h => stp HB3.out h
  have HK : Hid (∀ W, Below w3.heap.size w3 W → W.cell? ⟨w.heap.size, 0, none⟩ = some (.string x) ∧ W.cell? ⟨w.heap.size, 1, none⟩ = some (.string y)) := Lib.hid fun W h => HCL.out _ (stp HB3.out h)
  have RL : Hid (∀ W, Below w3.heap.size w3 W → RdC PrC W W.heap.size A l) := Lib.hid fun W h => HR0.out.on (stp HB3.out h)
  have OA : Hid (∀ W, Below (w3.alloc (.cells #[] 25)).heap.size (w3.alloc (.cells #[] 25)) W → W.ownsRow w3.heap.size 25 2 (.slice (some ⟨w3.heap.size, 0, none⟩) 0 0) 0 []) := Lib.hid fun W h => own_belowK (own_empty w3 _ 2) h (Nat.le_refl _)
  have OC : Hid (∀ W, Below ((w3.alloc (.cells #[.string x, .string y] 25)).alloc (.cells #[] 25)).heap.size ((w3.alloc (.cells #[.string x, .string y] 25)).alloc (.cells #[] 25)) W → W.ownsRow (w3.heap.size + 1) 25 2 (.slice (some ⟨w3.heap.size + 1, 0, none⟩) 0 0) 0 []) := Lib.hid fun W h => own_belowK (own_emptyB w3 _ _ 2) h (Nat.le_refl _)
  have PB_ : Hid (∀ W, Below ((w3.alloc (.cells #[] 25)).alloc (.cells #[.string x, .string y] 25)).heap.size ((w3.alloc (.cells #[] 25)).alloc (.cells #[.string x, .string y] 25)) W → W.heap[w3.heap.size + 1]? = some (.cells #[.string x, .string y] 25 (0, 0))) := Lib.hid fun W h => kept_heap (by have := heap_alloc_new (w3.alloc (.cells #[] 25)) (.cells #[.string x, .string y] 25); rw [World.size_alloc] at this; exact this) h
  have PC_ : Hid (∀ W, Below (w3.alloc (.cells #[.string x, .string y] 25)).heap.size (w3.alloc (.cells #[.string x, .string y] 25)) W → W.heap[w3.heap.size]? = some (.cells #[.string x, .string y] 25 (0, 0))) := Lib.hid fun W h => kept_heap (heap_alloc_new w3 _) h
  go_region_held3 (fun W => W.cell? ⟨w.heap.size, 0, none⟩ = some (.string x) ∧ W.cell? ⟨w.heap.size, 1, none⟩ = some (.string y))
    (first | exact HK.out _ (by first | exact Below.refl _ _ | exact (Below.refl _ _).drew | exact stpA (Below.refl _ _) _ | exact (stpA (Below.refl _ _) _).drew | exact stpA (Below.refl _ _).drew _ | exact stpA (stpA (Below.refl _ _) _) _ | exact (stpA (stpA (Below.refl _ _) _) _).drew | exact stpA (stpA (Below.refl _ _) _).drew _ | exact stpA (stpA (Below.refl _ _).drew _) _) | exact HK.out _ K6.out | exact HK.out _ K5.out | exact HK.out _ K4.out | exact HK.out _ (stpA K4.out _) | exact HK.out _ (stpA K4.out _).drew)
    ((first
    | (refine step_append_prs (by rfl) (.tmp 42) (.tmp 43) 28 (by rfl) w3.heap.size 25 j0 (.agg #[.string ⟨#[]⟩, .string ⟨#[]⟩]) Try.underlying28 HI.out HZ0.out HZ1.out HZ2.out rfl _ 0 [] (by rfl) (OA.out _ (by first | exact Below.refl _ _ | exact (Below.refl _ _).drew)) _ A n cp l (by rfl) (RL.out _ (by first | exact Below.refl _ _ | exact (Below.refl _ _).drew | exact stpA (Below.refl _ _) _ | exact (stpA (Below.refl _ _) _).drew | exact stpA (Below.refl _ _).drew _ | exact stpA (stpA (Below.refl _ _) _) _ | exact (stpA (stpA (Below.refl _ _) _) _).drew | exact stpA (stpA (Below.refl _ _) _).drew _ | exact stpA (stpA (Below.refl _ _).drew _) _)) HN.out HNZ.out (by have := HN40.out; omega) (by simp; try omega) ?_; intro v4 w4 hown4 hgr4; rw [Nat.zero_add, List.nil_append] at hown4; obtain ⟨A4, c4, rfl⟩ := own_form2 hown4; have HO4 := Lib.hid hown4; have K4 : Hid (Below w3.heap.size w3 w4) := Lib.hid (Below.grown (by first | exact Below.refl _ _ | exact (Below.refl _ _).drew | exact stpA (Below.refl _ _) _ | exact (stpA (Below.refl _ _) _).drew | exact stpA (Below.refl _ _).drew _ | exact stpA (stpA (Below.refl _ _) _) _ | exact (stpA (stpA (Below.refl _ _) _) _).drew | exact stpA (stpA (Below.refl _ _) _).drew _ | exact stpA (stpA (Below.refl _ _).drew _) _) hgr4 (by simp; try omega) (fun g hg => by cases hg; first | exact Nat.le_refl _ | exact Nat.le_succ _)); clear hown4 hgr4)
    | (refine step_append_prs (by rfl) (.tmp 42) (.tmp 43) 28 (by rfl) w3.heap.size 25 j0 (.agg #[.string ⟨#[]⟩, .string ⟨#[]⟩]) Try.underlying28 HI.out HZ0.out HZ1.out HZ2.out rfl _ 0 [] (by rfl) (OA.out _ (by first | exact stpA (Below.refl _ _) _ | exact (stpA (Below.refl _ _) _).drew)) _ A n cp l (by rfl) (RL.out _ (by first | exact Below.refl _ _ | exact (Below.refl _ _).drew | exact stpA (Below.refl _ _) _ | exact (stpA (Below.refl _ _) _).drew | exact stpA (Below.refl _ _).drew _ | exact stpA (stpA (Below.refl _ _) _) _ | exact (stpA (stpA (Below.refl _ _) _) _).drew | exact stpA (stpA (Below.refl _ _) _).drew _ | exact stpA (stpA (Below.refl _ _).drew _) _)) HN.out HNZ.out (by have := HN40.out; omega) (by simp; try omega) ?_; intro v4 w4 hown4 hgr4; rw [Nat.zero_add, List.nil_append] at hown4; obtain ⟨A4, c4, rfl⟩ := own_form2 hown4; have HO4 := Lib.hid hown4; have K4 : Hid (Below w3.heap.size w3 w4) := Lib.hid (Below.grown (by first | exact Below.refl _ _ | exact (Below.refl _ _).drew | exact stpA (Below.refl _ _) _ | exact (stpA (Below.refl _ _) _).drew | exact stpA (Below.refl _ _).drew _ | exact stpA (stpA (Below.refl _ _) _) _ | exact (stpA (stpA (Below.refl _ _) _) _).drew | exact stpA (stpA (Below.refl _ _) _).drew _ | exact stpA (stpA (Below.refl _ _).drew _) _) hgr4 (by simp; try omega) (fun g hg => by cases hg; first | exact Nat.le_refl _ | exact Nat.le_succ _)); have NB := Lib.hid (nb_grown (PB_.out _ (by first | exact Below.refl _ _ | exact (Below.refl _ _).drew)) hgr4 (fun e => by simp [Value.ownBlock] at e; try omega)); clear hown4 hgr4)
    | (refine step_append_prs (by rfl) (.tmp 42) (.tmp 43) 28 (by rfl) (w3.heap.size + 1) 25 j0 (.agg #[.string ⟨#[]⟩, .string ⟨#[]⟩]) Try.underlying28 HI.out HZ0.out HZ1.out HZ2.out rfl _ 0 [] (by rfl) (OC.out _ (by first | exact Below.refl _ _ | exact (Below.refl _ _).drew)) _ A n cp l (by rfl) (RL.out _ (by first | exact Below.refl _ _ | exact (Below.refl _ _).drew | exact stpA (Below.refl _ _) _ | exact (stpA (Below.refl _ _) _).drew | exact stpA (Below.refl _ _).drew _ | exact stpA (stpA (Below.refl _ _) _) _ | exact (stpA (stpA (Below.refl _ _) _) _).drew | exact stpA (stpA (Below.refl _ _) _).drew _ | exact stpA (stpA (Below.refl _ _).drew _) _)) HN.out HNZ.out (by have := HN40.out; omega) (by simp; try omega) ?_; intro v4 w4 hown4 hgr4; rw [Nat.zero_add, List.nil_append] at hown4; obtain ⟨A4, c4, rfl⟩ := own_form2 hown4; have HO4 := Lib.hid hown4; have K4 : Hid (Below w3.heap.size w3 w4) := Lib.hid (Below.grown (by first | exact Below.refl _ _ | exact (Below.refl _ _).drew | exact stpA (Below.refl _ _) _ | exact (stpA (Below.refl _ _) _).drew | exact stpA (Below.refl _ _).drew _ | exact stpA (stpA (Below.refl _ _) _) _ | exact (stpA (stpA (Below.refl _ _) _) _).drew | exact stpA (stpA (Below.refl _ _) _).drew _ | exact stpA (stpA (Below.refl _ _).drew _) _) hgr4 (by simp; try omega) (fun g hg => by cases hg; first | exact Nat.le_refl _ | exact Nat.le_succ _)); have NC := Lib.hid (nb_grown (PC_.out _ (by first | exact stpA (Below.refl _ _) _ | exact (stpA (Below.refl _ _) _).drew)) hgr4 (fun e => by simp [Value.ownBlock] at e; try omega)); clear hown4 hgr4)
    | (refine step_append_prs (by rfl) (.tmp 44) (.tmp 46) 28 (by rfl) w3.heap.size 25 j0 (.agg #[.string ⟨#[]⟩, .string ⟨#[]⟩]) Try.underlying28 HI.out HZ0.out HZ1.out HZ2.out rfl _ n _ (by rfl) (own_belowK HO4.out (by first | exact stpA (Below.refl _ _) _ | exact (stpA (Below.refl _ _) _).drew) (Nat.le_refl _)) _ _ 1 1 [⟨x.data.toList, y.data.toList⟩] (by rfl) (rdc_one (by first | exact heap_alloc_new w4 _ | exact heap_alloc_new w4 _)) rfl (fun h => by cases h) (by have := HN40.out; omega) (by have := K4.out.size; first | omega | (simp; omega)) ?_; intro v5 w5 hown5 hgr5; obtain ⟨A5, c5, rfl⟩ := own_form2 hown5; have R5 := Lib.hid (row_plus hown5); have K5 : Hid (Below w3.heap.size w3 w5) := Lib.hid (Below.grown (by first | exact K4.out | exact stpA K4.out _ | exact (stpA K4.out _).drew) hgr5 (by have := K4.out.size; first | omega | (simp; omega)) (fun g hg => by have := (HO4.out.lt _ hg).1; omega)); clear hown5 hgr5)
    | (refine step_append_prs (by rfl) (.tmp 44) (.tmp 46) 28 (by rfl) w3.heap.size 25 j0 (.agg #[.string ⟨#[]⟩, .string ⟨#[]⟩]) Try.underlying28 HI.out HZ0.out HZ1.out HZ2.out rfl _ n _ (by rfl) (HO4.out) _ _ 1 1 [⟨x.data.toList, y.data.toList⟩] (by rfl) (rdc_one NB.out) rfl (fun h => by cases h) (by have := HN40.out; omega) (by have := K4.out.size; first | omega | (simp; omega)) ?_; intro v5 w5 hown5 hgr5; obtain ⟨A5, c5, rfl⟩ := own_form2 hown5; have R5 := Lib.hid (row_plus hown5); have K5 : Hid (Below w3.heap.size w3 w5) := Lib.hid (Below.grown (by first | exact K4.out | exact stpA K4.out _ | exact (stpA K4.out _).drew) hgr5 (by have := K4.out.size; first | omega | (simp; omega)) (fun g hg => by have := (HO4.out.lt _ hg).1; omega)); clear hown5 hgr5)
    | (refine step_append_prs (by rfl) (.tmp 44) (.tmp 46) 28 (by rfl) (w3.heap.size + 1) 25 j0 (.agg #[.string ⟨#[]⟩, .string ⟨#[]⟩]) Try.underlying28 HI.out HZ0.out HZ1.out HZ2.out rfl _ n _ (by rfl) (HO4.out) _ _ 1 1 [⟨x.data.toList, y.data.toList⟩] (by rfl) (rdc_one NC.out) rfl (fun h => by cases h) (by have := HN40.out; omega) (by have := lt_heap NC.out; first | omega | (simp; omega)) ?_; intro v5 w5 hown5 hgr5; obtain ⟨A5, c5, rfl⟩ := own_form2 hown5; have R5 := Lib.hid (row_plus hown5); have K5 : Hid (Below w3.heap.size w3 w5) := Lib.hid (Below.grown (by first | exact K4.out | exact stpA K4.out _ | exact (stpA K4.out _).drew) hgr5 (by have := K4.out.size; first | omega | (simp; omega)) (fun g hg => by have := (HO4.out.lt _ hg).1; omega)); clear hown5 hgr5)
    | (go_at_call 25; (with_reducible refine (HF2.out A5 c5 w5 R5.out).mono ?_); rintro e w6 ⟨rfl, hb6⟩; have K6 : Hid (Below w3.heap.size w3 w6) := Lib.hid (stp K5.out hb6); clear hb6)))
  · have HB6 := Lib.hid (HW3.out _ K6.out)
    have HK6 : Hid (∀ W, Below w6.heap.size w6 W → W.cell? ⟨w.heap.size, 0, none⟩ = some (.string x) ∧ W.cell? ⟨w.heap.size, 1, none⟩ = some (.string y)) := Lib.hid fun W h => HCL.out _ (stp HB6.out h)
    obtain ⟨cx6, cy6⟩ := HCL.out _ HB6.out
    go_wp2_with fail
    go_region_held3 (fun W => W.cell? ⟨w.heap.size, 0, none⟩ = some (.string x) ∧ W.cell? ⟨w.heap.size, 1, none⟩ = some (.string y))
      (first | exact HK6.out _ (Below.refl _ _).drew | exact HK6.out _ (Below.refl _ _) | exact HK6.out _ K7.out | exact HK6.out _ K8.out)
      ((first
      | (go_at_call 32; (with_reducible refine (HS1.out _).mono ?_); rintro e w7 ⟨rfl, hb7⟩; have K7 : Hid (Below w6.heap.size w6 w7) := Lib.hid (stp (Below.refl _ _).drew hb7); clear hb7)
      | (go_at_call 32; (with_reducible refine (HS2.out w7).mono ?_); rintro e w8 ⟨rfl, hb8⟩; have K8 : Hid (Below w6.heap.size w6 w8) := Lib.hid (stp K7.out hb8); clear hb8)))
    have HB8 := Lib.hid (stp HB6.out K8.out)
    go_wp2_with (first
      | (go_at_call 30; (with_reducible refine (HD0.out w8 HB8.out).mono ?_); rintro e w9 ⟨hb9, A9, c9, rfl⟩; have HB9 := Lib.hid (stp HB8.out hb9); clear hb9)
      | (go_at_call 30; (with_reducible refine (HD1.out w9 HB9.out).mono ?_); rintro e w10 ⟨hb10, A10, c10, rfl⟩; have HB10 := Lib.hid (stp HB9.out hb10); clear hb10)
      | fail)
    go_ret
    exact ⟨rfl, HWF.out _ HB10.out⟩
  · have HB6 := Lib.hid (HW3.out _ K6.out)
    have HK6 : Hid (∀ W, Below w6.heap.size w6 W → W.cell? ⟨w.heap.size, 0, none⟩ = some (.string x) ∧ W.cell? ⟨w.heap.size, 1, none⟩ = some (.string y)) := Lib.hid fun W h => HCL.out _ (stp HB6.out h)
    obtain ⟨cx6, cy6⟩ := HCL.out _ HB6.out
    go_wp2_with fail
    go_region_held3 (fun W => W.cell? ⟨w.heap.size, 0, none⟩ = some (.string x) ∧ W.cell? ⟨w.heap.size, 1, none⟩ = some (.string y))
      (first | exact HK6.out _ (Below.refl _ _).drew | exact HK6.out _ (Below.refl _ _) | exact HK6.out _ K7.out | exact HK6.out _ K8.out)
      ((first
      | (go_at_call 32; (with_reducible refine (HS1.out _).mono ?_); rintro e w7 ⟨rfl, hb7⟩; have K7 : Hid (Below w6.heap.size w6 w7) := Lib.hid (stp (Below.refl _ _).drew hb7); clear hb7)
      | (go_at_call 32; (with_reducible refine (HS2.out w7).mono ?_); rintro e w8 ⟨rfl, hb8⟩; have K8 : Hid (Below w6.heap.size w6 w8) := Lib.hid (stp K7.out hb8); clear hb8)))
    have HB8 := Lib.hid (stp HB6.out K8.out)
    go_wp2_with (first
      | (go_at_call 30; (with_reducible refine (HD0.out w8 HB8.out).mono ?_); rintro e w9 ⟨hb9, A9, c9, rfl⟩; have HB9 := Lib.hid (stp HB8.out hb9); clear hb9)
      | (go_at_call 30; (with_reducible refine (HD1.out w9 HB9.out).mono ?_); rintro e w10 ⟨hb10, A10, c10, rfl⟩; have HB10 := Lib.hid (stp HB9.out hb10); clear hb10)
      | fail)
    go_ret
    exact ⟨rfl, HWF.out _ HB10.out⟩
  · have HB6 := Lib.hid (HW3.out _ K6.out)
    have HK6 : Hid (∀ W, Below w6.heap.size w6 W → W.cell? ⟨w.heap.size, 0, none⟩ = some (.string x) ∧ W.cell? ⟨w.heap.size, 1, none⟩ = some (.string y)) := Lib.hid fun W h => HCL.out _ (stp HB6.out h)
    obtain ⟨cx6, cy6⟩ := HCL.out _ HB6.out
    go_wp2_with fail
    go_region_held3 (fun W => W.cell? ⟨w.heap.size, 0, none⟩ = some (.string x) ∧ W.cell? ⟨w.heap.size, 1, none⟩ = some (.string y))
      (first | exact HK6.out _ (Below.refl _ _).drew | exact HK6.out _ (Below.refl _ _) | exact HK6.out _ K7.out | exact HK6.out _ K8.out)
      ((first
      | (go_at_call 32; (with_reducible refine (HS1.out _).mono ?_); rintro e w7 ⟨rfl, hb7⟩; have K7 : Hid (Below w6.heap.size w6 w7) := Lib.hid (stp (Below.refl _ _).drew hb7); clear hb7)
      | (go_at_call 32; (with_reducible refine (HS2.out w7).mono ?_); rintro e w8 ⟨rfl, hb8⟩; have K8 : Hid (Below w6.heap.size w6 w8) := Lib.hid (stp K7.out hb8); clear hb8)))
    have HB8 := Lib.hid (stp HB6.out K8.out)
    go_wp2_with (first
      | (go_at_call 30; (with_reducible refine (HD0.out w8 HB8.out).mono ?_); rintro e w9 ⟨hb9, A9, c9, rfl⟩; have HB9 := Lib.hid (stp HB8.out hb9); clear hb9)
      | (go_at_call 30; (with_reducible refine (HD1.out w9 HB9.out).mono ?_); rintro e w10 ⟨hb10, A10, c10, rfl⟩; have HB10 := Lib.hid (stp HB9.out hb10); clear hb10)
      | fail)
    go_ret
    exact ⟨rfl, HWF.out _ HB10.out⟩
set_option maxHeartbeats 32000000 in
set_option maxRecDepth 100000 in
theorem fr_c3tb (A : Option Addr) (n cp : Nat) (l : List Pr) (x y : ByteArray) (w : World) (hr : RdC PrC w w.heap.size A l) (hn : l.length = n) (hx : n ≤ 9223372036854775807) (hz : A = none → cp = 0) (hX : Mx w) (m0 m1 : Nat) (hmx0 : (findH l nCoding).length = m0) (hmx1 : (findH l nLength).length = m1) (K1 K2 : Nat) (hk1 : (K1 : Int) = 0) (hk2 : (K2 : Int) = 2) (N1 : Int) (N2 : Int) (hf1 : frameH l = (K1, N1, 0)) (hf2 : frameH (l ++ [⟨x.data.toList, y.data.toList⟩]) = (K2, N2, 0)) (hb1 : decide (lowS x = lowS ⟨#[116, 114, 97, 110, 115, 102, 101, 114, 45, 101, 110, 99, 111, 100, 105, 110, 103]⟩) = true) (hb2 : decide (lowS x = lowS ⟨#[99, 111, 110, 116, 101, 110, 116, 45, 108, 101, 110, 103, 116, 104]⟩) = false) (hg : greatH l = false) (hs0 : ¬ 1000 < x.size) (hs : ¬ 1000 < y.size) (hq : m0 + m1 = 0) : Calls Try.prog 8 #[.slice A n cp, .agg #[.string x, .string y]] w fun e w' => e = .returned (.bool true) ∧ Below w.heap.size w w' := by
  have hb0 : Below w.heap.size w (w.alloc (.cells #[.string x, .string y] 25)) := stpA (Below.refl _ _) _
  have HA := Lib.hid (alive14 (w.alloc (.cells #[.string x, .string y] 25)) (hX.below hb0))
  have HR0 := Lib.hid (hr.on hb0)
  have HCL : Hid (∀ W, Below (w.alloc (.cells #[.string x, .string y] 25)).heap.size (w.alloc (.cells #[.string x, .string y] 25)) W → W.cell? ⟨w.heap.size, 0, none⟩ = some (.string x) ∧ W.cell? ⟨w.heap.size, 1, none⟩ = some (.string y)) := Lib.hid fun W h => ⟨cellV _ _ 0 _ _ _ (kept_heap (heap_alloc_new w _) h), cellV _ _ 1 _ _ _ (kept_heap (heap_alloc_new w _) h)⟩
  have HWF : Hid (∀ W, Below (w.alloc (.cells #[.string x, .string y] 25)).heap.size (w.alloc (.cells #[.string x, .string y] 25)) W → Below w.heap.size w W) := Lib.hid fun W h => stp hb0 h
  have HG : Hid (∀ W, Below (w.alloc (.cells #[.string x, .string y] 25)).heap.size (w.alloc (.cells #[.string x, .string y] 25)) W → Calls Try.prog 20 #[.slice A n cp] W fun e w' => e = .returned (.bool false) ∧ Below W.heap.size W w') := Lib.hid fun W hW => rgreat14 A n cp l W (HR0.out.on hW) hn hx false hg
  obtain ⟨g1, g2, g3⟩ := great_no14 hg
  obtain ⟨j0, hj, hy0, hy1, hy2⟩ := info_parts infoPr
  have HI := Lib.hid hj
  have HZ0 := Lib.hid hy0
  have HZ1 := Lib.hid hy1
  have HZ2 := Lib.hid hy2
  have HN := Lib.hid hn
  have HNZ := Lib.hid hz
  have d1 : decide ((1000 : Int) < (x.size : Int)) = false := decide_eq_false (by omega)
  have d2 : decide ((1000 : Int) < (y.size : Int)) = false := decide_eq_false (by omega)
  have hn40 : n ≤ 40 := by omega
  have HN40 := Lib.hid hn40
  have hm1 : n + 1 ≤ 1000 := by omega
  have HXS : Hid (x.size ≤ 1000000) := Lib.hid (by omega)
  have hsm2 : SmP (l ++ [⟨x.data.toList, y.data.toList⟩]) := fun p hp => by
    rcases List.mem_append.1 hp with hp | hp
    · exact g2 p hp
    · rw [List.mem_singleton] at hp
      subst hp
      dsimp only
      rw [ba_l, ba_l]
      omega
  have HF1 : Hid (∀ W, Below (w.alloc (.cells #[.string x, .string y] 25)).heap.size (w.alloc (.cells #[.string x, .string y] 25)) W → Calls Try.prog 25 #[.slice A n cp] W fun e w' => e = .returned (.tuple #[.int .u8 0, .int .i64 N1, .int .i64 0]) ∧ Below W.heap.size W w') := Lib.hid fun W hW => by
    have t := frame14 A n cp l W (HR0.out.on hW) hn (by omega) g2 K1 N1 0 hf1
    rw [hk1] at t
    exact t
  have HF2 : Hid (∀ A5 c5 W, RdC PrC W W.heap.size A5 (l ++ [⟨x.data.toList, y.data.toList⟩]) → Calls Try.prog 25 #[.slice A5 (n + 1) c5] W fun e w' => e = .returned (.tuple #[.int .u8 2, .int .i64 N2, .int .i64 0]) ∧ Below W.heap.size W w') := Lib.hid fun A5 c5 W h => by
    have t := frame14 A5 (n + 1) c5 _ W h (by rw [List.length_append, hn]; rfl) hm1 hsm2 K2 N2 0 hf2
    rw [hk2] at t
    exact t
  have HS1 : Hid (∀ W, Calls Try.prog 32 #[.string x, .string ⟨#[116, 114, 97, 110, 115, 102, 101, 114, 45, 101, 110, 99, 111, 100, 105, 110, 103]⟩] W fun e w' => e = .returned (.bool true) ∧ Below W.heap.size W w') := Lib.hid fun W => same7 x ⟨#[116, 114, 97, 110, 115, 102, 101, 114, 45, 101, 110, 99, 111, 100, 105, 110, 103]⟩ true W HXS.out (by decide) hb1
  have HS2 : Hid (∀ W, Calls Try.prog 32 #[.string x, .string ⟨#[99, 111, 110, 116, 101, 110, 116, 45, 108, 101, 110, 103, 116, 104]⟩] W fun e w' => e = .returned (.bool false) ∧ Below W.heap.size W w') := Lib.hid fun W => same7 x ⟨#[99, 111, 110, 116, 101, 110, 116, 45, 108, 101, 110, 103, 116, 104]⟩ false W HXS.out (by decide) hb2
  have HD0 : Hid (∀ W, Below (w.alloc (.cells #[.string x, .string y] 25)).heap.size (w.alloc (.cells #[.string x, .string y] 25)) W → Calls Try.prog 30 #[.slice A n cp, .string ⟨#[116, 114, 97, 110, 115, 102, 101, 114, 45, 101, 110, 99, 111, 100, 105, 110, 103]⟩] W fun e w' => Below W.heap.size W w' ∧ ∃ A c, e = .returned (.slice A m0 c)) := Lib.hid fun W hW => (find14 A n cp l ⟨#[116, 114, 97, 110, 115, 102, 101, 114, 45, 101, 110, 99, 111, 100, 105, 110, 103]⟩ W (HR0.out.on hW) hn (by omega) g2 (by decide)).mono fun e w' ⟨q1, A, c, q2, _, _⟩ => ⟨q1, A, c, hmx0 ▸ q2⟩
  have HD1 : Hid (∀ W, Below (w.alloc (.cells #[.string x, .string y] 25)).heap.size (w.alloc (.cells #[.string x, .string y] 25)) W → Calls Try.prog 30 #[.slice A n cp, .string ⟨#[99, 111, 110, 116, 101, 110, 116, 45, 108, 101, 110, 103, 116, 104]⟩] W fun e w' => Below W.heap.size W w' ∧ ∃ A c, e = .returned (.slice A m1 c)) := Lib.hid fun W hW => (find14 A n cp l ⟨#[99, 111, 110, 116, 101, 110, 116, 45, 108, 101, 110, 103, 116, 104]⟩ W (HR0.out.on hW) hn (by omega) g2 (by decide)).mono fun e w' ⟨q1, A, c, q2, _, _⟩ => ⟨q1, A, c, hmx1 ▸ q2⟩
  have hmb : m0 + m1 ≤ 80 := by
    have f0 := find_len l nCoding
    have f1 := find_len l nLength
    rw [hmx0] at f0
    rw [hmx1] at f1
    omega
  have dm : decide ((1 : Int) < (m0 : Int) + (m1 : Int)) = false := decide_eq_false (by omega)
  have dz : decide ((0 : Int) < (m0 : Int) + (m1 : Int)) = false := decide_eq_false (by omega)
  have hmi : (m0 : Int) + (m1 : Int) ≤ 80 := by omega
  clear hr hn hx hX hg hz hb0 hs hs0 g1 g2 g3 hn40 hm1 hsm2 hmx0 hmx1 hk1 hk2 hf1 hf2 hb1 hb2 hj hy0 hy1 hy2 hq hmb
  go_enter Try.func8, Try.ntmps8
  go_wp2_with (first
    | (go_at_call 16; (with_reducible refine (HA.out).mono ?_); rintro e w1 ⟨rfl, hb1⟩; have HB1 := Lib.hid hb1; clear hb1)
    | (go_at_call 20; (with_reducible refine (HG.out w1 HB1.out).mono ?_); rintro e w2 ⟨rfl, hb2⟩; have HB2 := Lib.hid (stp HB1.out hb2); obtain ⟨cx2, cy2⟩ := HCL.out _ HB2.out; clear hb2)
    | (go_at_call 25; (with_reducible refine (HF1.out w2 HB2.out).mono ?_); rintro e w3 ⟨rfl, hb3⟩; have HB3 := Lib.hid (stp HB2.out hb3); obtain ⟨cx3, cy3⟩ := HCL.out _ HB3.out; clear hb3)
    | fail)
  have HW3 : Hid (∀ W, Below w3.heap.size w3 W → Below (w.alloc (.cells #[.string x, .string y] 25)).heap.size (w.alloc (.cells #[.string x, .string y] 25)) W) := Lib.hid fun W h => stp HB3.out h
  have HK : Hid (∀ W, Below w3.heap.size w3 W → W.cell? ⟨w.heap.size, 0, none⟩ = some (.string x) ∧ W.cell? ⟨w.heap.size, 1, none⟩ = some (.string y)) := Lib.hid fun W h => HCL.out _ (stp HB3.out h)
  have RL : Hid (∀ W, Below w3.heap.size w3 W → RdC PrC W W.heap.size A l) := Lib.hid fun W h => HR0.out.on (stp HB3.out h)
  have OA : Hid (∀ W, Below (w3.alloc (.cells #[] 25)).heap.size (w3.alloc (.cells #[] 25)) W → W.ownsRow w3.heap.size 25 2 (.slice (some ⟨w3.heap.size, 0, none⟩) 0 0) 0 []) := Lib.hid fun W h => own_belowK (own_empty w3 _ 2) h (Nat.le_refl _)
  have OC : Hid (∀ W, Below ((w3.alloc (.cells #[.string x, .string y] 25)).alloc (.cells #[] 25)).heap.size ((w3.alloc (.cells #[.string x, .string y] 25)).alloc (.cells #[] 25)) W → W.ownsRow (w3.heap.size + 1) 25 2 (.slice (some ⟨w3.heap.size + 1, 0, none⟩) 0 0) 0 []) := Lib.hid fun W h => own_belowK (own_emptyB w3 _ _ 2) h (Nat.le_refl _)
  have PB_ : Hid (∀ W, Below ((w3.alloc (.cells #[] 25)).alloc (.cells #[.string x, .string y] 25)).heap.size ((w3.alloc (.cells #[] 25)).alloc (.cells #[.string x, .string y] 25)) W → W.heap[w3.heap.size + 1]? = some (.cells #[.string x, .string y] 25 (0, 0))) := Lib.hid fun W h => kept_heap (by have := heap_alloc_new (w3.alloc (.cells #[] 25)) (.cells #[.string x, .string y] 25); rw [World.size_alloc] at this; exact this) h
  have PC_ : Hid (∀ W, Below (w3.alloc (.cells #[.string x, .string y] 25)).heap.size (w3.alloc (.cells #[.string x, .string y] 25)) W → W.heap[w3.heap.size]? = some (.cells #[.string x, .string y] 25 (0, 0))) := Lib.hid fun W h => kept_heap (heap_alloc_new w3 _) h
  go_region_held3 (fun W => W.cell? ⟨w.heap.size, 0, none⟩ = some (.string x) ∧ W.cell? ⟨w.heap.size, 1, none⟩ = some (.string y))
    (first | exact HK.out _ (by first | exact Below.refl _ _ | exact (Below.refl _ _).drew | exact stpA (Below.refl _ _) _ | exact (stpA (Below.refl _ _) _).drew | exact stpA (Below.refl _ _).drew _ | exact stpA (stpA (Below.refl _ _) _) _ | exact (stpA (stpA (Below.refl _ _) _) _).drew | exact stpA (stpA (Below.refl _ _) _).drew _ | exact stpA (stpA (Below.refl _ _).drew _) _) | exact HK.out _ K6.out | exact HK.out _ K5.out | exact HK.out _ K4.out | exact HK.out _ (stpA K4.out _) | exact HK.out _ (stpA K4.out _).drew)
    ((first
    | (refine step_append_prs (by rfl) (.tmp 42) (.tmp 43) 28 (by rfl) w3.heap.size 25 j0 (.agg #[.string ⟨#[]⟩, .string ⟨#[]⟩]) Try.underlying28 HI.out HZ0.out HZ1.out HZ2.out rfl _ 0 [] (by rfl) (OA.out _ (by first | exact Below.refl _ _ | exact (Below.refl _ _).drew)) _ A n cp l (by rfl) (RL.out _ (by first | exact Below.refl _ _ | exact (Below.refl _ _).drew | exact stpA (Below.refl _ _) _ | exact (stpA (Below.refl _ _) _).drew | exact stpA (Below.refl _ _).drew _ | exact stpA (stpA (Below.refl _ _) _) _ | exact (stpA (stpA (Below.refl _ _) _) _).drew | exact stpA (stpA (Below.refl _ _) _).drew _ | exact stpA (stpA (Below.refl _ _).drew _) _)) HN.out HNZ.out (by have := HN40.out; omega) (by simp; try omega) ?_; intro v4 w4 hown4 hgr4; rw [Nat.zero_add, List.nil_append] at hown4; obtain ⟨A4, c4, rfl⟩ := own_form2 hown4; have HO4 := Lib.hid hown4; have K4 : Hid (Below w3.heap.size w3 w4) := Lib.hid (Below.grown (by first | exact Below.refl _ _ | exact (Below.refl _ _).drew | exact stpA (Below.refl _ _) _ | exact (stpA (Below.refl _ _) _).drew | exact stpA (Below.refl _ _).drew _ | exact stpA (stpA (Below.refl _ _) _) _ | exact (stpA (stpA (Below.refl _ _) _) _).drew | exact stpA (stpA (Below.refl _ _) _).drew _ | exact stpA (stpA (Below.refl _ _).drew _) _) hgr4 (by simp; try omega) (fun g hg => by cases hg; first | exact Nat.le_refl _ | exact Nat.le_succ _)); clear hown4 hgr4)
    | (refine step_append_prs (by rfl) (.tmp 42) (.tmp 43) 28 (by rfl) w3.heap.size 25 j0 (.agg #[.string ⟨#[]⟩, .string ⟨#[]⟩]) Try.underlying28 HI.out HZ0.out HZ1.out HZ2.out rfl _ 0 [] (by rfl) (OA.out _ (by first | exact stpA (Below.refl _ _) _ | exact (stpA (Below.refl _ _) _).drew)) _ A n cp l (by rfl) (RL.out _ (by first | exact Below.refl _ _ | exact (Below.refl _ _).drew | exact stpA (Below.refl _ _) _ | exact (stpA (Below.refl _ _) _).drew | exact stpA (Below.refl _ _).drew _ | exact stpA (stpA (Below.refl _ _) _) _ | exact (stpA (stpA (Below.refl _ _) _) _).drew | exact stpA (stpA (Below.refl _ _) _).drew _ | exact stpA (stpA (Below.refl _ _).drew _) _)) HN.out HNZ.out (by have := HN40.out; omega) (by simp; try omega) ?_; intro v4 w4 hown4 hgr4; rw [Nat.zero_add, List.nil_append] at hown4; obtain ⟨A4, c4, rfl⟩ := own_form2 hown4; have HO4 := Lib.hid hown4; have K4 : Hid (Below w3.heap.size w3 w4) := Lib.hid (Below.grown (by first | exact Below.refl _ _ | exact (Below.refl _ _).drew | exact stpA (Below.refl _ _) _ | exact (stpA (Below.refl _ _) _).drew | exact stpA (Below.refl _ _).drew _ | exact stpA (stpA (Below.refl _ _) _) _ | exact (stpA (stpA (Below.refl _ _) _) _).drew | exact stpA (stpA (Below.refl _ _) _).drew _ | exact stpA (stpA (Below.refl _ _).drew _) _) hgr4 (by simp; try omega) (fun g hg => by cases hg; first | exact Nat.le_refl _ | exact Nat.le_succ _)); have NB := Lib.hid (nb_grown (PB_.out _ (by first | exact Below.refl _ _ | exact (Below.refl _ _).drew)) hgr4 (fun e => by simp [Value.ownBlock] at e; try omega)); clear hown4 hgr4)
    | (refine step_append_prs (by rfl) (.tmp 42) (.tmp 43) 28 (by rfl) (w3.heap.size + 1) 25 j0 (.agg #[.string ⟨#[]⟩, .string ⟨#[]⟩]) Try.underlying28 HI.out HZ0.out HZ1.out HZ2.out rfl _ 0 [] (by rfl) (OC.out _ (by first | exact Below.refl _ _ | exact (Below.refl _ _).drew)) _ A n cp l (by rfl) (RL.out _ (by first | exact Below.refl _ _ | exact (Below.refl _ _).drew | exact stpA (Below.refl _ _) _ | exact (stpA (Below.refl _ _) _).drew | exact stpA (Below.refl _ _).drew _ | exact stpA (stpA (Below.refl _ _) _) _ | exact (stpA (stpA (Below.refl _ _) _) _).drew | exact stpA (stpA (Below.refl _ _) _).drew _ | exact stpA (stpA (Below.refl _ _).drew _) _)) HN.out HNZ.out (by have := HN40.out; omega) (by simp; try omega) ?_; intro v4 w4 hown4 hgr4; rw [Nat.zero_add, List.nil_append] at hown4; obtain ⟨A4, c4, rfl⟩ := own_form2 hown4; have HO4 := Lib.hid hown4; have K4 : Hid (Below w3.heap.size w3 w4) := Lib.hid (Below.grown (by first | exact Below.refl _ _ | exact (Below.refl _ _).drew | exact stpA (Below.refl _ _) _ | exact (stpA (Below.refl _ _) _).drew | exact stpA (Below.refl _ _).drew _ | exact stpA (stpA (Below.refl _ _) _) _ | exact (stpA (stpA (Below.refl _ _) _) _).drew | exact stpA (stpA (Below.refl _ _) _).drew _ | exact stpA (stpA (Below.refl _ _).drew _) _) hgr4 (by simp; try omega) (fun g hg => by cases hg; first | exact Nat.le_refl _ | exact Nat.le_succ _)); have NC := Lib.hid (nb_grown (PC_.out _ (by first | exact stpA (Below.refl _ _) _ | exact (stpA (Below.refl _ _) _).drew)) hgr4 (fun e => by simp [Value.ownBlock] at e; try omega)); clear hown4 hgr4)
    | (refine step_append_prs (by rfl) (.tmp 44) (.tmp 46) 28 (by rfl) w3.heap.size 25 j0 (.agg #[.string ⟨#[]⟩, .string ⟨#[]⟩]) Try.underlying28 HI.out HZ0.out HZ1.out HZ2.out rfl _ n _ (by rfl) (own_belowK HO4.out (by first | exact stpA (Below.refl _ _) _ | exact (stpA (Below.refl _ _) _).drew) (Nat.le_refl _)) _ _ 1 1 [⟨x.data.toList, y.data.toList⟩] (by rfl) (rdc_one (by first | exact heap_alloc_new w4 _ | exact heap_alloc_new w4 _)) rfl (fun h => by cases h) (by have := HN40.out; omega) (by have := K4.out.size; first | omega | (simp; omega)) ?_; intro v5 w5 hown5 hgr5; obtain ⟨A5, c5, rfl⟩ := own_form2 hown5; have R5 := Lib.hid (row_plus hown5); have K5 : Hid (Below w3.heap.size w3 w5) := Lib.hid (Below.grown (by first | exact K4.out | exact stpA K4.out _ | exact (stpA K4.out _).drew) hgr5 (by have := K4.out.size; first | omega | (simp; omega)) (fun g hg => by have := (HO4.out.lt _ hg).1; omega)); clear hown5 hgr5)
    | (refine step_append_prs (by rfl) (.tmp 44) (.tmp 46) 28 (by rfl) w3.heap.size 25 j0 (.agg #[.string ⟨#[]⟩, .string ⟨#[]⟩]) Try.underlying28 HI.out HZ0.out HZ1.out HZ2.out rfl _ n _ (by rfl) (HO4.out) _ _ 1 1 [⟨x.data.toList, y.data.toList⟩] (by rfl) (rdc_one NB.out) rfl (fun h => by cases h) (by have := HN40.out; omega) (by have := K4.out.size; first | omega | (simp; omega)) ?_; intro v5 w5 hown5 hgr5; obtain ⟨A5, c5, rfl⟩ := own_form2 hown5; have R5 := Lib.hid (row_plus hown5); have K5 : Hid (Below w3.heap.size w3 w5) := Lib.hid (Below.grown (by first | exact K4.out | exact stpA K4.out _ | exact (stpA K4.out _).drew) hgr5 (by have := K4.out.size; first | omega | (simp; omega)) (fun g hg => by have := (HO4.out.lt _ hg).1; omega)); clear hown5 hgr5)
    | (refine step_append_prs (by rfl) (.tmp 44) (.tmp 46) 28 (by rfl) (w3.heap.size + 1) 25 j0 (.agg #[.string ⟨#[]⟩, .string ⟨#[]⟩]) Try.underlying28 HI.out HZ0.out HZ1.out HZ2.out rfl _ n _ (by rfl) (HO4.out) _ _ 1 1 [⟨x.data.toList, y.data.toList⟩] (by rfl) (rdc_one NC.out) rfl (fun h => by cases h) (by have := HN40.out; omega) (by have := lt_heap NC.out; first | omega | (simp; omega)) ?_; intro v5 w5 hown5 hgr5; obtain ⟨A5, c5, rfl⟩ := own_form2 hown5; have R5 := Lib.hid (row_plus hown5); have K5 : Hid (Below w3.heap.size w3 w5) := Lib.hid (Below.grown (by first | exact K4.out | exact stpA K4.out _ | exact (stpA K4.out _).drew) hgr5 (by have := K4.out.size; first | omega | (simp; omega)) (fun g hg => by have := (HO4.out.lt _ hg).1; omega)); clear hown5 hgr5)
    | (go_at_call 25; (with_reducible refine (HF2.out A5 c5 w5 R5.out).mono ?_); rintro e w6 ⟨rfl, hb6⟩; have K6 : Hid (Below w3.heap.size w3 w6) := Lib.hid (stp K5.out hb6); clear hb6)))
  · have HB6 := Lib.hid (HW3.out _ K6.out)
    have HK6 : Hid (∀ W, Below w6.heap.size w6 W → W.cell? ⟨w.heap.size, 0, none⟩ = some (.string x) ∧ W.cell? ⟨w.heap.size, 1, none⟩ = some (.string y)) := Lib.hid fun W h => HCL.out _ (stp HB6.out h)
    obtain ⟨cx6, cy6⟩ := HCL.out _ HB6.out
    go_wp2_with fail
    go_region_held3 (fun W => W.cell? ⟨w.heap.size, 0, none⟩ = some (.string x) ∧ W.cell? ⟨w.heap.size, 1, none⟩ = some (.string y))
      (first | exact HK6.out _ (Below.refl _ _).drew | exact HK6.out _ (Below.refl _ _) | exact HK6.out _ K7.out | exact HK6.out _ K8.out)
      ((first
      | (go_at_call 32; (with_reducible refine (HS1.out _).mono ?_); rintro e w7 ⟨rfl, hb7⟩; have K7 : Hid (Below w6.heap.size w6 w7) := Lib.hid (stp (Below.refl _ _).drew hb7); clear hb7)
      | (go_at_call 32; (with_reducible refine (HS2.out w7).mono ?_); rintro e w8 ⟨rfl, hb8⟩; have K8 : Hid (Below w6.heap.size w6 w8) := Lib.hid (stp K7.out hb8); clear hb8)))
    have HB8 := Lib.hid (stp HB6.out K8.out)
    go_wp2_with (first
      | (go_at_call 30; (with_reducible refine (HD0.out w8 HB8.out).mono ?_); rintro e w9 ⟨hb9, A9, c9, rfl⟩; have HB9 := Lib.hid (stp HB8.out hb9); clear hb9)
      | (go_at_call 30; (with_reducible refine (HD1.out w9 HB9.out).mono ?_); rintro e w10 ⟨hb10, A10, c10, rfl⟩; have HB10 := Lib.hid (stp HB9.out hb10); clear hb10)
      | fail)
    go_ret
    exact ⟨rfl, HWF.out _ HB10.out⟩
  · have HB6 := Lib.hid (HW3.out _ K6.out)
    have HK6 : Hid (∀ W, Below w6.heap.size w6 W → W.cell? ⟨w.heap.size, 0, none⟩ = some (.string x) ∧ W.cell? ⟨w.heap.size, 1, none⟩ = some (.string y)) := Lib.hid fun W h => HCL.out _ (stp HB6.out h)
    obtain ⟨cx6, cy6⟩ := HCL.out _ HB6.out
    go_wp2_with fail
    go_region_held3 (fun W => W.cell? ⟨w.heap.size, 0, none⟩ = some (.string x) ∧ W.cell? ⟨w.heap.size, 1, none⟩ = some (.string y))
      (first | exact HK6.out _ (Below.refl _ _).drew | exact HK6.out _ (Below.refl _ _) | exact HK6.out _ K7.out | exact HK6.out _ K8.out)
      ((first
      | (go_at_call 32; (with_reducible refine (HS1.out _).mono ?_); rintro e w7 ⟨rfl, hb7⟩; have K7 : Hid (Below w6.heap.size w6 w7) := Lib.hid (stp (Below.refl _ _).drew hb7); clear hb7)
      | (go_at_call 32; (with_reducible refine (HS2.out w7).mono ?_); rintro e w8 ⟨rfl, hb8⟩; have K8 : Hid (Below w6.heap.size w6 w8) := Lib.hid (stp K7.out hb8); clear hb8)))
    have HB8 := Lib.hid (stp HB6.out K8.out)
    go_wp2_with (first
      | (go_at_call 30; (with_reducible refine (HD0.out w8 HB8.out).mono ?_); rintro e w9 ⟨hb9, A9, c9, rfl⟩; have HB9 := Lib.hid (stp HB8.out hb9); clear hb9)
      | (go_at_call 30; (with_reducible refine (HD1.out w9 HB9.out).mono ?_); rintro e w10 ⟨hb10, A10, c10, rfl⟩; have HB10 := Lib.hid (stp HB9.out hb10); clear hb10)
      | fail)
    go_ret
    exact ⟨rfl, HWF.out _ HB10.out⟩
  · have HB6 := Lib.hid (HW3.out _ K6.out)
    have HK6 : Hid (∀ W, Below w6.heap.size w6 W → W.cell? ⟨w.heap.size, 0, none⟩ = some (.string x) ∧ W.cell? ⟨w.heap.size, 1, none⟩ = some (.string y)) := Lib.hid fun W h => HCL.out _ (stp HB6.out h)
    obtain ⟨cx6, cy6⟩ := HCL.out _ HB6.out
    go_wp2_with fail
    go_region_held3 (fun W => W.cell? ⟨w.heap.size, 0, none⟩ = some (.string x) ∧ W.cell? ⟨w.heap.size, 1, none⟩ = some (.string y))
      (first | exact HK6.out _ (Below.refl _ _).drew | exact HK6.out _ (Below.refl _ _) | exact HK6.out _ K7.out | exact HK6.out _ K8.out)
      ((first
      | (go_at_call 32; (with_reducible refine (HS1.out _).mono ?_); rintro e w7 ⟨rfl, hb7⟩; have K7 : Hid (Below w6.heap.size w6 w7) := Lib.hid (stp (Below.refl _ _).drew hb7); clear hb7)
      | (go_at_call 32; (with_reducible refine (HS2.out w7).mono ?_); rintro e w8 ⟨rfl, hb8⟩; have K8 : Hid (Below w6.heap.size w6 w8) := Lib.hid (stp K7.out hb8); clear hb8)))
    have HB8 := Lib.hid (stp HB6.out K8.out)
    go_wp2_with (first
      | (go_at_call 30; (with_reducible refine (HD0.out w8 HB8.out).mono ?_); rintro e w9 ⟨hb9, A9, c9, rfl⟩; have HB9 := Lib.hid (stp HB8.out hb9); clear hb9)
      | (go_at_call 30; (with_reducible refine (HD1.out w9 HB9.out).mono ?_); rintro e w10 ⟨hb10, A10, c10, rfl⟩; have HB10 := Lib.hid (stp HB9.out hb10); clear hb10)
      | fail)
    go_ret
    exact ⟨rfl, HWF.out _ HB10.out⟩
set_option maxHeartbeats 32000000 in
set_option maxRecDepth 100000 in
theorem fr_c2fa (A : Option Addr) (n cp : Nat) (l : List Pr) (x y : ByteArray) (w : World) (hr : RdC PrC w w.heap.size A l) (hn : l.length = n) (hx : n ≤ 9223372036854775807) (hz : A = none → cp = 0) (hX : Mx w) (m0 m1 : Nat) (hmx0 : (findH l nCoding).length = m0) (hmx1 : (findH l nLength).length = m1) (K1 K2 : Nat) (k1 : Int) (k2 : Int) (hk1 : (K1 : Int) = k1) (hk2 : (K2 : Int) = k2) (N1 : Int) (N2 : Int) (hf1 : frameH l = (K1, N1, 140)) (hf2 : frameH (l ++ [⟨x.data.toList, y.data.toList⟩]) = (K2, N2, 140)) (hb1 : decide (lowS x = lowS ⟨#[116, 114, 97, 110, 115, 102, 101, 114, 45, 101, 110, 99, 111, 100, 105, 110, 103]⟩) = false) (hb2 : decide (lowS x = lowS ⟨#[99, 111, 110, 116, 101, 110, 116, 45, 108, 101, 110, 103, 116, 104]⟩) = true) (hg : greatH l = false) (hs0 : ¬ 1000 < x.size) (hs : ¬ 1000 < y.size) (hq : 1 < m0 + m1) : Calls Try.prog 8 #[.slice A n cp, .agg #[.string x, .string y]] w fun e w' => e = .returned (.bool true) ∧ Below w.heap.size w w' := by
  have hb0 : Below w.heap.size w (w.alloc (.cells #[.string x, .string y] 25)) := stpA (Below.refl _ _) _
  have HA := Lib.hid (alive14 (w.alloc (.cells #[.string x, .string y] 25)) (hX.below hb0))
  have HR0 := Lib.hid (hr.on hb0)
  have HCL : Hid (∀ W, Below (w.alloc (.cells #[.string x, .string y] 25)).heap.size (w.alloc (.cells #[.string x, .string y] 25)) W → W.cell? ⟨w.heap.size, 0, none⟩ = some (.string x) ∧ W.cell? ⟨w.heap.size, 1, none⟩ = some (.string y)) := Lib.hid fun W h => ⟨cellV _ _ 0 _ _ _ (kept_heap (heap_alloc_new w _) h), cellV _ _ 1 _ _ _ (kept_heap (heap_alloc_new w _) h)⟩
  have HWF : Hid (∀ W, Below (w.alloc (.cells #[.string x, .string y] 25)).heap.size (w.alloc (.cells #[.string x, .string y] 25)) W → Below w.heap.size w W) := Lib.hid fun W h => stp hb0 h
  have HG : Hid (∀ W, Below (w.alloc (.cells #[.string x, .string y] 25)).heap.size (w.alloc (.cells #[.string x, .string y] 25)) W → Calls Try.prog 20 #[.slice A n cp] W fun e w' => e = .returned (.bool false) ∧ Below W.heap.size W w') := Lib.hid fun W hW => rgreat14 A n cp l W (HR0.out.on hW) hn hx false hg
  obtain ⟨g1, g2, g3⟩ := great_no14 hg
  obtain ⟨j0, hj, hy0, hy1, hy2⟩ := info_parts infoPr
  have HI := Lib.hid hj
  have HZ0 := Lib.hid hy0
  have HZ1 := Lib.hid hy1
  have HZ2 := Lib.hid hy2
  have HN := Lib.hid hn
  have HNZ := Lib.hid hz
  have d1 : decide ((1000 : Int) < (x.size : Int)) = false := decide_eq_false (by omega)
  have d2 : decide ((1000 : Int) < (y.size : Int)) = false := decide_eq_false (by omega)
  have hn40 : n ≤ 40 := by omega
  have HN40 := Lib.hid hn40
  have hm1 : n + 1 ≤ 1000 := by omega
  have HXS : Hid (x.size ≤ 1000000) := Lib.hid (by omega)
  have hsm2 : SmP (l ++ [⟨x.data.toList, y.data.toList⟩]) := fun p hp => by
    rcases List.mem_append.1 hp with hp | hp
    · exact g2 p hp
    · rw [List.mem_singleton] at hp
      subst hp
      dsimp only
      rw [ba_l, ba_l]
      omega
  have HF1 : Hid (∀ W, Below (w.alloc (.cells #[.string x, .string y] 25)).heap.size (w.alloc (.cells #[.string x, .string y] 25)) W → Calls Try.prog 25 #[.slice A n cp] W fun e w' => e = .returned (.tuple #[.int .u8 k1, .int .i64 N1, .int .i64 140]) ∧ Below W.heap.size W w') := Lib.hid fun W hW => by
    have t := frame14 A n cp l W (HR0.out.on hW) hn (by omega) g2 K1 N1 140 hf1
    rw [hk1] at t
    exact t
  have HF2 : Hid (∀ A5 c5 W, RdC PrC W W.heap.size A5 (l ++ [⟨x.data.toList, y.data.toList⟩]) → Calls Try.prog 25 #[.slice A5 (n + 1) c5] W fun e w' => e = .returned (.tuple #[.int .u8 k2, .int .i64 N2, .int .i64 140]) ∧ Below W.heap.size W w') := Lib.hid fun A5 c5 W h => by
    have t := frame14 A5 (n + 1) c5 _ W h (by rw [List.length_append, hn]; rfl) hm1 hsm2 K2 N2 140 hf2
    rw [hk2] at t
    exact t
  have HS1 : Hid (∀ W, Calls Try.prog 32 #[.string x, .string ⟨#[116, 114, 97, 110, 115, 102, 101, 114, 45, 101, 110, 99, 111, 100, 105, 110, 103]⟩] W fun e w' => e = .returned (.bool false) ∧ Below W.heap.size W w') := Lib.hid fun W => same7 x ⟨#[116, 114, 97, 110, 115, 102, 101, 114, 45, 101, 110, 99, 111, 100, 105, 110, 103]⟩ false W HXS.out (by decide) hb1
  have HS2 : Hid (∀ W, Calls Try.prog 32 #[.string x, .string ⟨#[99, 111, 110, 116, 101, 110, 116, 45, 108, 101, 110, 103, 116, 104]⟩] W fun e w' => e = .returned (.bool true) ∧ Below W.heap.size W w') := Lib.hid fun W => same7 x ⟨#[99, 111, 110, 116, 101, 110, 116, 45, 108, 101, 110, 103, 116, 104]⟩ true W HXS.out (by decide) hb2
  have HD0 : Hid (∀ W, Below (w.alloc (.cells #[.string x, .string y] 25)).heap.size (w.alloc (.cells #[.string x, .string y] 25)) W → Calls Try.prog 30 #[.slice A n cp, .string ⟨#[116, 114, 97, 110, 115, 102, 101, 114, 45, 101, 110, 99, 111, 100, 105, 110, 103]⟩] W fun e w' => Below W.heap.size W w' ∧ ∃ A c, e = .returned (.slice A m0 c)) := Lib.hid fun W hW => (find14 A n cp l ⟨#[116, 114, 97, 110, 115, 102, 101, 114, 45, 101, 110, 99, 111, 100, 105, 110, 103]⟩ W (HR0.out.on hW) hn (by omega) g2 (by decide)).mono fun e w' ⟨q1, A, c, q2, _, _⟩ => ⟨q1, A, c, hmx0 ▸ q2⟩
  have HD1 : Hid (∀ W, Below (w.alloc (.cells #[.string x, .string y] 25)).heap.size (w.alloc (.cells #[.string x, .string y] 25)) W → Calls Try.prog 30 #[.slice A n cp, .string ⟨#[99, 111, 110, 116, 101, 110, 116, 45, 108, 101, 110, 103, 116, 104]⟩] W fun e w' => Below W.heap.size W w' ∧ ∃ A c, e = .returned (.slice A m1 c)) := Lib.hid fun W hW => (find14 A n cp l ⟨#[99, 111, 110, 116, 101, 110, 116, 45, 108, 101, 110, 103, 116, 104]⟩ W (HR0.out.on hW) hn (by omega) g2 (by decide)).mono fun e w' ⟨q1, A, c, q2, _, _⟩ => ⟨q1, A, c, hmx1 ▸ q2⟩
  have hmb : m0 + m1 ≤ 80 := by
    have f0 := find_len l nCoding
    have f1 := find_len l nLength
    rw [hmx0] at f0
    rw [hmx1] at f1
    omega
  have dm : decide ((1 : Int) < (m0 : Int) + (m1 : Int)) = true := decide_eq_true (by omega)
  have dz : decide ((0 : Int) < (m0 : Int) + (m1 : Int)) = true := decide_eq_true (by omega)
  have hmi : (m0 : Int) + (m1 : Int) ≤ 80 := by omega
  clear hr hn hx hX hg hz hb0 hs hs0 g1 g2 g3 hn40 hm1 hsm2 hmx0 hmx1 hk1 hk2 hf1 hf2 hb1 hb2 hj hy0 hy1 hy2 hq hmb
  go_enter Try.func8, Try.ntmps8
  go_wp2_with (first
    | (go_at_call 16; (with_reducible refine (HA.out).mono ?_); rintro e w1 ⟨rfl, hb1⟩; have HB1 := Lib.hid hb1; clear hb1)
    | (go_at_call 20; (with_reducible refine (HG.out w1 HB1.out).mono ?_); rintro e w2 ⟨rfl, hb2⟩; have HB2 := Lib.hid (stp HB1.out hb2); obtain ⟨cx2, cy2⟩ := HCL.out _ HB2.out; clear hb2)
    | (go_at_call 25; (with_reducible refine (HF1.out w2 HB2.out).mono ?_); rintro e w3 ⟨rfl, hb3⟩; have HB3 := Lib.hid (stp HB2.out hb3); obtain ⟨cx3, cy3⟩ := HCL.out _ HB3.out; clear hb3)
    | fail)
  have HW3 : Hid (∀ W, Below w3.heap.size w3 W → Below (w.alloc (.cells #[.string x, .string y] 25)).heap.size (w.alloc (.cells #[.string x, .string y] 25)) W) := Lib.hid fun W h => stp HB3.out h
  have HK : Hid (∀ W, Below w3.heap.size w3 W → W.cell? ⟨w.heap.size, 0, none⟩ = some (.string x) ∧ W.cell? ⟨w.heap.size, 1, none⟩ = some (.string y)) := Lib.hid fun W h => HCL.out _ (stp HB3.out h)
  have RL : Hid (∀ W, Below w3.heap.size w3 W → RdC PrC W W.heap.size A l) := Lib.hid fun W h => HR0.out.on (stp HB3.out h)
  have OA : Hid (∀ W, Below (w3.alloc (.cells #[] 25)).heap.size (w3.alloc (.cells #[] 25)) W → W.ownsRow w3.heap.size 25 2 (.slice (some ⟨w3.heap.size, 0, none⟩) 0 0) 0 []) := Lib.hid fun W h => own_belowK (own_empty w3 _ 2) h (Nat.le_refl _)
  have OC : Hid (∀ W, Below ((w3.alloc (.cells #[.string x, .string y] 25)).alloc (.cells #[] 25)).heap.size ((w3.alloc (.cells #[.string x, .string y] 25)).alloc (.cells #[] 25)) W → W.ownsRow (w3.heap.size + 1) 25 2 (.slice (some ⟨w3.heap.size + 1, 0, none⟩) 0 0) 0 []) := Lib.hid fun W h => own_belowK (own_emptyB w3 _ _ 2) h (Nat.le_refl _)
  have PB_ : Hid (∀ W, Below ((w3.alloc (.cells #[] 25)).alloc (.cells #[.string x, .string y] 25)).heap.size ((w3.alloc (.cells #[] 25)).alloc (.cells #[.string x, .string y] 25)) W → W.heap[w3.heap.size + 1]? = some (.cells #[.string x, .string y] 25 (0, 0))) := Lib.hid fun W h => kept_heap (by have := heap_alloc_new (w3.alloc (.cells #[] 25)) (.cells #[.string x, .string y] 25); rw [World.size_alloc] at this; exact this) h
  have PC_ : Hid (∀ W, Below (w3.alloc (.cells #[.string x, .string y] 25)).heap.size (w3.alloc (.cells #[.string x, .string y] 25)) W → W.heap[w3.heap.size]? = some (.cells #[.string x, .string y] 25 (0, 0))) := Lib.hid fun W h => kept_heap (heap_alloc_new w3 _) h
  go_region_held3 (fun W => W.cell? ⟨w.heap.size, 0, none⟩ = some (.string x) ∧ W.cell? ⟨w.heap.size, 1, none⟩ = some (.string y))
    (first | exact HK.out _ (by first | exact Below.refl _ _ | exact (Below.refl _ _).drew | exact stpA (Below.refl _ _) _ | exact (stpA (Below.refl _ _) _).drew | exact stpA (Below.refl _ _).drew _ | exact stpA (stpA (Below.refl _ _) _) _ | exact (stpA (stpA (Below.refl _ _) _) _).drew | exact stpA (stpA (Below.refl _ _) _).drew _ | exact stpA (stpA (Below.refl _ _).drew _) _) | exact HK.out _ K6.out | exact HK.out _ K5.out | exact HK.out _ K4.out | exact HK.out _ (stpA K4.out _) | exact HK.out _ (stpA K4.out _).drew)
    ((first
    | (refine step_append_prs (by rfl) (.tmp 42) (.tmp 43) 28 (by rfl) w3.heap.size 25 j0 (.agg #[.string ⟨#[]⟩, .string ⟨#[]⟩]) Try.underlying28 HI.out HZ0.out HZ1.out HZ2.out rfl _ 0 [] (by rfl) (OA.out _ (by first | exact Below.refl _ _ | exact (Below.refl _ _).drew)) _ A n cp l (by rfl) (RL.out _ (by first | exact Below.refl _ _ | exact (Below.refl _ _).drew | exact stpA (Below.refl _ _) _ | exact (stpA (Below.refl _ _) _).drew | exact stpA (Below.refl _ _).drew _ | exact stpA (stpA (Below.refl _ _) _) _ | exact (stpA (stpA (Below.refl _ _) _) _).drew | exact stpA (stpA (Below.refl _ _) _).drew _ | exact stpA (stpA (Below.refl _ _).drew _) _)) HN.out HNZ.out (by have := HN40.out; omega) (by simp; try omega) ?_; intro v4 w4 hown4 hgr4; rw [Nat.zero_add, List.nil_append] at hown4; obtain ⟨A4, c4, rfl⟩ := own_form2 hown4; have HO4 := Lib.hid hown4; have K4 : Hid (Below w3.heap.size w3 w4) := Lib.hid (Below.grown (by first | exact Below.refl _ _ | exact (Below.refl _ _).drew | exact stpA (Below.refl _ _) _ | exact (stpA (Below.refl _ _) _).drew | exact stpA (Below.refl _ _).drew _ | exact stpA (stpA (Below.refl _ _) _) _ | exact (stpA (stpA (Below.refl _ _) _) _).drew | exact stpA (stpA (Below.refl _ _) _).drew _ | exact stpA (stpA (Below.refl _ _).drew _) _) hgr4 (by simp; try omega) (fun g hg => by cases hg; first | exact Nat.le_refl _ | exact Nat.le_succ _)); clear hown4 hgr4)
    | (refine step_append_prs (by rfl) (.tmp 42) (.tmp 43) 28 (by rfl) w3.heap.size 25 j0 (.agg #[.string ⟨#[]⟩, .string ⟨#[]⟩]) Try.underlying28 HI.out HZ0.out HZ1.out HZ2.out rfl _ 0 [] (by rfl) (OA.out _ (by first | exact stpA (Below.refl _ _) _ | exact (stpA (Below.refl _ _) _).drew)) _ A n cp l (by rfl) (RL.out _ (by first | exact Below.refl _ _ | exact (Below.refl _ _).drew | exact stpA (Below.refl _ _) _ | exact (stpA (Below.refl _ _) _).drew | exact stpA (Below.refl _ _).drew _ | exact stpA (stpA (Below.refl _ _) _) _ | exact (stpA (stpA (Below.refl _ _) _) _).drew | exact stpA (stpA (Below.refl _ _) _).drew _ | exact stpA (stpA (Below.refl _ _).drew _) _)) HN.out HNZ.out (by have := HN40.out; omega) (by simp; try omega) ?_; intro v4 w4 hown4 hgr4; rw [Nat.zero_add, List.nil_append] at hown4; obtain ⟨A4, c4, rfl⟩ := own_form2 hown4; have HO4 := Lib.hid hown4; have K4 : Hid (Below w3.heap.size w3 w4) := Lib.hid (Below.grown (by first | exact Below.refl _ _ | exact (Below.refl _ _).drew | exact stpA (Below.refl _ _) _ | exact (stpA (Below.refl _ _) _).drew | exact stpA (Below.refl _ _).drew _ | exact stpA (stpA (Below.refl _ _) _) _ | exact (stpA (stpA (Below.refl _ _) _) _).drew | exact stpA (stpA (Below.refl _ _) _).drew _ | exact stpA (stpA (Below.refl _ _).drew _) _) hgr4 (by simp; try omega) (fun g hg => by cases hg; first | exact Nat.le_refl _ | exact Nat.le_succ _)); have NB := Lib.hid (nb_grown (PB_.out _ (by first | exact Below.refl _ _ | exact (Below.refl _ _).drew)) hgr4 (fun e => by simp [Value.ownBlock] at e; try omega)); clear hown4 hgr4)
    | (refine step_append_prs (by rfl) (.tmp 42) (.tmp 43) 28 (by rfl) (w3.heap.size + 1) 25 j0 (.agg #[.string ⟨#[]⟩, .string ⟨#[]⟩]) Try.underlying28 HI.out HZ0.out HZ1.out HZ2.out rfl _ 0 [] (by rfl) (OC.out _ (by first | exact Below.refl _ _ | exact (Below.refl _ _).drew)) _ A n cp l (by rfl) (RL.out _ (by first | exact Below.refl _ _ | exact (Below.refl _ _).drew | exact stpA (Below.refl _ _) _ | exact (stpA (Below.refl _ _) _).drew | exact stpA (Below.refl _ _).drew _ | exact stpA (stpA (Below.refl _ _) _) _ | exact (stpA (stpA (Below.refl _ _) _) _).drew | exact stpA (stpA (Below.refl _ _) _).drew _ | exact stpA (stpA (Below.refl _ _).drew _) _)) HN.out HNZ.out (by have := HN40.out; omega) (by simp; try omega) ?_; intro v4 w4 hown4 hgr4; rw [Nat.zero_add, List.nil_append] at hown4; obtain ⟨A4, c4, rfl⟩ := own_form2 hown4; have HO4 := Lib.hid hown4; have K4 : Hid (Below w3.heap.size w3 w4) := Lib.hid (Below.grown (by first | exact Below.refl _ _ | exact (Below.refl _ _).drew | exact stpA (Below.refl _ _) _ | exact (stpA (Below.refl _ _) _).drew | exact stpA (Below.refl _ _).drew _ | exact stpA (stpA (Below.refl _ _) _) _ | exact (stpA (stpA (Below.refl _ _) _) _).drew | exact stpA (stpA (Below.refl _ _) _).drew _ | exact stpA (stpA (Below.refl _ _).drew _) _) hgr4 (by simp; try omega) (fun g hg => by cases hg; first | exact Nat.le_refl _ | exact Nat.le_succ _)); have NC := Lib.hid (nb_grown (PC_.out _ (by first | exact stpA (Below.refl _ _) _ | exact (stpA (Below.refl _ _) _).drew)) hgr4 (fun e => by simp [Value.ownBlock] at e; try omega)); clear hown4 hgr4)
    | (refine step_append_prs (by rfl) (.tmp 44) (.tmp 46) 28 (by rfl) w3.heap.size 25 j0 (.agg #[.string ⟨#[]⟩, .string ⟨#[]⟩]) Try.underlying28 HI.out HZ0.out HZ1.out HZ2.out rfl _ n _ (by rfl) (own_belowK HO4.out (by first | exact stpA (Below.refl _ _) _ | exact (stpA (Below.refl _ _) _).drew) (Nat.le_refl _)) _ _ 1 1 [⟨x.data.toList, y.data.toList⟩] (by rfl) (rdc_one (by first | exact heap_alloc_new w4 _ | exact heap_alloc_new w4 _)) rfl (fun h => by cases h) (by have := HN40.out; omega) (by have := K4.out.size; first | omega | (simp; omega)) ?_; intro v5 w5 hown5 hgr5; obtain ⟨A5, c5, rfl⟩ := own_form2 hown5; have R5 := Lib.hid (row_plus hown5); have K5 : Hid (Below w3.heap.size w3 w5) := Lib.hid (Below.grown (by first | exact K4.out | exact stpA K4.out _ | exact (stpA K4.out _).drew) hgr5 (by have := K4.out.size; first | omega | (simp; omega)) (fun g hg => by have := (HO4.out.lt _ hg).1; omega)); clear hown5 hgr5)
    | (refine step_append_prs (by rfl) (.tmp 44) (.tmp 46) 28 (by rfl) w3.heap.size 25 j0 (.agg #[.string ⟨#[]⟩, .string ⟨#[]⟩]) Try.underlying28 HI.out HZ0.out HZ1.out HZ2.out rfl _ n _ (by rfl) (HO4.out) _ _ 1 1 [⟨x.data.toList, y.data.toList⟩] (by rfl) (rdc_one NB.out) rfl (fun h => by cases h) (by have := HN40.out; omega) (by have := K4.out.size; first | omega | (simp; omega)) ?_; intro v5 w5 hown5 hgr5; obtain ⟨A5, c5, rfl⟩ := own_form2 hown5; have R5 := Lib.hid (row_plus hown5); have K5 : Hid (Below w3.heap.size w3 w5) := Lib.hid (Below.grown (by first | exact K4.out | exact stpA K4.out _ | exact (stpA K4.out _).drew) hgr5 (by have := K4.out.size; first | omega | (simp; omega)) (fun g hg => by have := (HO4.out.lt _ hg).1; omega)); clear hown5 hgr5)
    | (refine step_append_prs (by rfl) (.tmp 44) (.tmp 46) 28 (by rfl) (w3.heap.size + 1) 25 j0 (.agg #[.string ⟨#[]⟩, .string ⟨#[]⟩]) Try.underlying28 HI.out HZ0.out HZ1.out HZ2.out rfl _ n _ (by rfl) (HO4.out) _ _ 1 1 [⟨x.data.toList, y.data.toList⟩] (by rfl) (rdc_one NC.out) rfl (fun h => by cases h) (by have := HN40.out; omega) (by have := lt_heap NC.out; first | omega | (simp; omega)) ?_; intro v5 w5 hown5 hgr5; obtain ⟨A5, c5, rfl⟩ := own_form2 hown5; have R5 := Lib.hid (row_plus hown5); have K5 : Hid (Below w3.heap.size w3 w5) := Lib.hid (Below.grown (by first | exact K4.out | exact stpA K4.out _ | exact (stpA K4.out _).drew) hgr5 (by have := K4.out.size; first | omega | (simp; omega)) (fun g hg => by have := (HO4.out.lt _ hg).1; omega)); clear hown5 hgr5)
    | (go_at_call 25; (with_reducible refine (HF2.out A5 c5 w5 R5.out).mono ?_); rintro e w6 ⟨rfl, hb6⟩; have K6 : Hid (Below w3.heap.size w3 w6) := Lib.hid (stp K5.out hb6); clear hb6)))
  · have HB6 := Lib.hid (HW3.out _ K6.out)
    have HK6 : Hid (∀ W, Below w6.heap.size w6 W → W.cell? ⟨w.heap.size, 0, none⟩ = some (.string x) ∧ W.cell? ⟨w.heap.size, 1, none⟩ = some (.string y)) := Lib.hid fun W h => HCL.out _ (stp HB6.out h)
    obtain ⟨cx6, cy6⟩ := HCL.out _ HB6.out
    go_wp2_with fail
    go_region_held3 (fun W => W.cell? ⟨w.heap.size, 0, none⟩ = some (.string x) ∧ W.cell? ⟨w.heap.size, 1, none⟩ = some (.string y))
      (first | exact HK6.out _ (Below.refl _ _).drew | exact HK6.out _ (Below.refl _ _) | exact HK6.out _ K7.out | exact HK6.out _ K8.out)
      ((first
      | (go_at_call 32; (with_reducible refine (HS1.out _).mono ?_); rintro e w7 ⟨rfl, hb7⟩; have K7 : Hid (Below w6.heap.size w6 w7) := Lib.hid (stp (Below.refl _ _).drew hb7); clear hb7)
      | (go_at_call 32; (with_reducible refine (HS2.out w7).mono ?_); rintro e w8 ⟨rfl, hb8⟩; have K8 : Hid (Below w6.heap.size w6 w8) := Lib.hid (stp K7.out hb8); clear hb8)))
    have HB8 := Lib.hid (stp HB6.out K8.out)
    go_wp2_with (first
      | (go_at_call 30; (with_reducible refine (HD0.out w8 HB8.out).mono ?_); rintro e w9 ⟨hb9, A9, c9, rfl⟩; have HB9 := Lib.hid (stp HB8.out hb9); clear hb9)
      | (go_at_call 30; (with_reducible refine (HD1.out w9 HB9.out).mono ?_); rintro e w10 ⟨hb10, A10, c10, rfl⟩; have HB10 := Lib.hid (stp HB9.out hb10); clear hb10)
      | fail)
    go_ret
    exact ⟨rfl, HWF.out _ HB10.out⟩
  · have HB6 := Lib.hid (HW3.out _ K6.out)
    have HK6 : Hid (∀ W, Below w6.heap.size w6 W → W.cell? ⟨w.heap.size, 0, none⟩ = some (.string x) ∧ W.cell? ⟨w.heap.size, 1, none⟩ = some (.string y)) := Lib.hid fun W h => HCL.out _ (stp HB6.out h)
    obtain ⟨cx6, cy6⟩ := HCL.out _ HB6.out
    go_wp2_with fail
    go_region_held3 (fun W => W.cell? ⟨w.heap.size, 0, none⟩ = some (.string x) ∧ W.cell? ⟨w.heap.size, 1, none⟩ = some (.string y))
      (first | exact HK6.out _ (Below.refl _ _).drew | exact HK6.out _ (Below.refl _ _) | exact HK6.out _ K7.out | exact HK6.out _ K8.out)
      ((first
      | (go_at_call 32; (with_reducible refine (HS1.out _).mono ?_); rintro e w7 ⟨rfl, hb7⟩; have K7 : Hid (Below w6.heap.size w6 w7) := Lib.hid (stp (Below.refl _ _).drew hb7); clear hb7)
      | (go_at_call 32; (with_reducible refine (HS2.out w7).mono ?_); rintro e w8 ⟨rfl, hb8⟩; have K8 : Hid (Below w6.heap.size w6 w8) := Lib.hid (stp K7.out hb8); clear hb8)))
    have HB8 := Lib.hid (stp HB6.out K8.out)
    go_wp2_with (first
      | (go_at_call 30; (with_reducible refine (HD0.out w8 HB8.out).mono ?_); rintro e w9 ⟨hb9, A9, c9, rfl⟩; have HB9 := Lib.hid (stp HB8.out hb9); clear hb9)
      | (go_at_call 30; (with_reducible refine (HD1.out w9 HB9.out).mono ?_); rintro e w10 ⟨hb10, A10, c10, rfl⟩; have HB10 := Lib.hid (stp HB9.out hb10); clear hb10)
      | fail)
    go_ret
    exact ⟨rfl, HWF.out _ HB10.out⟩
  · have HB6 := Lib.hid (HW3.out _ K6.out)
    have HK6 : Hid (∀ W, Below w6.heap.size w6 W → W.cell? ⟨w.heap.size, 0, none⟩ = some (.string x) ∧ W.cell? ⟨w.heap.size, 1, none⟩ = some (.string y)) := Lib.hid fun W h => HCL.out _ (stp HB6.out h)
    obtain ⟨cx6, cy6⟩ := HCL.out _ HB6.out
    go_wp2_with fail
    go_region_held3 (fun W => W.cell? ⟨w.heap.size, 0, none⟩ = some (.string x) ∧ W.cell? ⟨w.heap.size, 1, none⟩ = some (.string y))
      (first | exact HK6.out _ (Below.refl _ _).drew | exact HK6.out _ (Below.refl _ _) | exact HK6.out _ K7.out | exact HK6.out _ K8.out)
      ((first
      | (go_at_call 32; (with_reducible refine (HS1.out _).mono ?_); rintro e w7 ⟨rfl, hb7⟩; have K7 : Hid (Below w6.heap.size w6 w7) := Lib.hid (stp (Below.refl _ _).drew hb7); clear hb7)
      | (go_at_call 32; (with_reducible refine (HS2.out w7).mono ?_); rintro e w8 ⟨rfl, hb8⟩; have K8 : Hid (Below w6.heap.size w6 w8) := Lib.hid (stp K7.out hb8); clear hb8)))
    have HB8 := Lib.hid (stp HB6.out K8.out)
    go_wp2_with (first
      | (go_at_call 30; (with_reducible refine (HD0.out w8 HB8.out).mono ?_); rintro e w9 ⟨hb9, A9, c9, rfl⟩; have HB9 := Lib.hid (stp HB8.out hb9); clear hb9)
      | (go_at_call 30; (with_reducible refine (HD1.out w9 HB9.out).mono ?_); rintro e w10 ⟨hb10, A10, c10, rfl⟩; have HB10 := Lib.hid (stp HB9.out hb10); clear hb10)
      | fail)
    go_ret
    exact ⟨rfl, HWF.out _ HB10.out⟩
set_option maxHeartbeats 32000000 in
set_option maxRecDepth 100000 in
theorem fr_c2fb (A : Option Addr) (n cp : Nat) (l : List Pr) (x y : ByteArray) (w : World) (hr : RdC PrC w w.heap.size A l) (hn : l.length = n) (hx : n ≤ 9223372036854775807) (hz : A = none → cp = 0) (hX : Mx w) (m0 m1 : Nat) (hmx0 : (findH l nCoding).length = m0) (hmx1 : (findH l nLength).length = m1) (K1 K2 : Nat) (k1 : Int) (k2 : Int) (hk1 : (K1 : Int) = k1) (hk2 : (K2 : Int) = k2) (N1 : Int) (N2 : Int) (e1 : Int) (hf1 : frameH l = (K1, N1, e1)) (hf2 : frameH (l ++ [⟨x.data.toList, y.data.toList⟩]) = (K2, N2, 140)) (hb1 : decide (lowS x = lowS ⟨#[116, 114, 97, 110, 115, 102, 101, 114, 45, 101, 110, 99, 111, 100, 105, 110, 103]⟩) = false) (hb2 : decide (lowS x = lowS ⟨#[99, 111, 110, 116, 101, 110, 116, 45, 108, 101, 110, 103, 116, 104]⟩) = true) (hg : greatH l = false) (hs0 : ¬ 1000 < x.size) (hs : ¬ 1000 < y.size) (hq : ¬ 1 < m0 + m1) (hq2 : 0 < m0 + m1) : Calls Try.prog 8 #[.slice A n cp, .agg #[.string x, .string y]] w fun e w' => e = .returned (.bool true) ∧ Below w.heap.size w w' := by
  have hb0 : Below w.heap.size w (w.alloc (.cells #[.string x, .string y] 25)) := stpA (Below.refl _ _) _
  have HA := Lib.hid (alive14 (w.alloc (.cells #[.string x, .string y] 25)) (hX.below hb0))
  have HR0 := Lib.hid (hr.on hb0)
  have HCL : Hid (∀ W, Below (w.alloc (.cells #[.string x, .string y] 25)).heap.size (w.alloc (.cells #[.string x, .string y] 25)) W → W.cell? ⟨w.heap.size, 0, none⟩ = some (.string x) ∧ W.cell? ⟨w.heap.size, 1, none⟩ = some (.string y)) := Lib.hid fun W h => ⟨cellV _ _ 0 _ _ _ (kept_heap (heap_alloc_new w _) h), cellV _ _ 1 _ _ _ (kept_heap (heap_alloc_new w _) h)⟩
  have HWF : Hid (∀ W, Below (w.alloc (.cells #[.string x, .string y] 25)).heap.size (w.alloc (.cells #[.string x, .string y] 25)) W → Below w.heap.size w W) := Lib.hid fun W h => stp hb0 h
  have HG : Hid (∀ W, Below (w.alloc (.cells #[.string x, .string y] 25)).heap.size (w.alloc (.cells #[.string x, .string y] 25)) W → Calls Try.prog 20 #[.slice A n cp] W fun e w' => e = .returned (.bool false) ∧ Below W.heap.size W w') := Lib.hid fun W hW => rgreat14 A n cp l W (HR0.out.on hW) hn hx false hg
  obtain ⟨g1, g2, g3⟩ := great_no14 hg
  obtain ⟨j0, hj, hy0, hy1, hy2⟩ := info_parts infoPr
  have HI := Lib.hid hj
  have HZ0 := Lib.hid hy0
  have HZ1 := Lib.hid hy1
  have HZ2 := Lib.hid hy2
  have HN := Lib.hid hn
  have HNZ := Lib.hid hz
  have d1 : decide ((1000 : Int) < (x.size : Int)) = false := decide_eq_false (by omega)
  have d2 : decide ((1000 : Int) < (y.size : Int)) = false := decide_eq_false (by omega)
  have hn40 : n ≤ 40 := by omega
  have HN40 := Lib.hid hn40
  have hm1 : n + 1 ≤ 1000 := by omega
  have HXS : Hid (x.size ≤ 1000000) := Lib.hid (by omega)
  have hsm2 : SmP (l ++ [⟨x.data.toList, y.data.toList⟩]) := fun p hp => by
    rcases List.mem_append.1 hp with hp | hp
    · exact g2 p hp
    · rw [List.mem_singleton] at hp
      subst hp
      dsimp only
      rw [ba_l, ba_l]
      omega
  have HF1 : Hid (∀ W, Below (w.alloc (.cells #[.string x, .string y] 25)).heap.size (w.alloc (.cells #[.string x, .string y] 25)) W → Calls Try.prog 25 #[.slice A n cp] W fun e w' => e = .returned (.tuple #[.int .u8 k1, .int .i64 N1, .int .i64 e1]) ∧ Below W.heap.size W w') := Lib.hid fun W hW => by
    have t := frame14 A n cp l W (HR0.out.on hW) hn (by omega) g2 K1 N1 e1 hf1
    rw [hk1] at t
    exact t
  have HF2 : Hid (∀ A5 c5 W, RdC PrC W W.heap.size A5 (l ++ [⟨x.data.toList, y.data.toList⟩]) → Calls Try.prog 25 #[.slice A5 (n + 1) c5] W fun e w' => e = .returned (.tuple #[.int .u8 k2, .int .i64 N2, .int .i64 140]) ∧ Below W.heap.size W w') := Lib.hid fun A5 c5 W h => by
    have t := frame14 A5 (n + 1) c5 _ W h (by rw [List.length_append, hn]; rfl) hm1 hsm2 K2 N2 140 hf2
    rw [hk2] at t
    exact t
  have HS1 : Hid (∀ W, Calls Try.prog 32 #[.string x, .string ⟨#[116, 114, 97, 110, 115, 102, 101, 114, 45, 101, 110, 99, 111, 100, 105, 110, 103]⟩] W fun e w' => e = .returned (.bool false) ∧ Below W.heap.size W w') := Lib.hid fun W => same7 x ⟨#[116, 114, 97, 110, 115, 102, 101, 114, 45, 101, 110, 99, 111, 100, 105, 110, 103]⟩ false W HXS.out (by decide) hb1
  have HS2 : Hid (∀ W, Calls Try.prog 32 #[.string x, .string ⟨#[99, 111, 110, 116, 101, 110, 116, 45, 108, 101, 110, 103, 116, 104]⟩] W fun e w' => e = .returned (.bool true) ∧ Below W.heap.size W w') := Lib.hid fun W => same7 x ⟨#[99, 111, 110, 116, 101, 110, 116, 45, 108, 101, 110, 103, 116, 104]⟩ true W HXS.out (by decide) hb2
  have HD0 : Hid (∀ W, Below (w.alloc (.cells #[.string x, .string y] 25)).heap.size (w.alloc (.cells #[.string x, .string y] 25)) W → Calls Try.prog 30 #[.slice A n cp, .string ⟨#[116, 114, 97, 110, 115, 102, 101, 114, 45, 101, 110, 99, 111, 100, 105, 110, 103]⟩] W fun e w' => Below W.heap.size W w' ∧ ∃ A c, e = .returned (.slice A m0 c)) := Lib.hid fun W hW => (find14 A n cp l ⟨#[116, 114, 97, 110, 115, 102, 101, 114, 45, 101, 110, 99, 111, 100, 105, 110, 103]⟩ W (HR0.out.on hW) hn (by omega) g2 (by decide)).mono fun e w' ⟨q1, A, c, q2, _, _⟩ => ⟨q1, A, c, hmx0 ▸ q2⟩
  have HD1 : Hid (∀ W, Below (w.alloc (.cells #[.string x, .string y] 25)).heap.size (w.alloc (.cells #[.string x, .string y] 25)) W → Calls Try.prog 30 #[.slice A n cp, .string ⟨#[99, 111, 110, 116, 101, 110, 116, 45, 108, 101, 110, 103, 116, 104]⟩] W fun e w' => Below W.heap.size W w' ∧ ∃ A c, e = .returned (.slice A m1 c)) := Lib.hid fun W hW => (find14 A n cp l ⟨#[99, 111, 110, 116, 101, 110, 116, 45, 108, 101, 110, 103, 116, 104]⟩ W (HR0.out.on hW) hn (by omega) g2 (by decide)).mono fun e w' ⟨q1, A, c, q2, _, _⟩ => ⟨q1, A, c, hmx1 ▸ q2⟩
  have hmb : m0 + m1 ≤ 80 := by
    have f0 := find_len l nCoding
    have f1 := find_len l nLength
    rw [hmx0] at f0
    rw [hmx1] at f1
    omega
  have dm : decide ((1 : Int) < (m0 : Int) + (m1 : Int)) = false := decide_eq_false (by omega)
  have dz : decide ((0 : Int) < (m0 : Int) + (m1 : Int)) = true := decide_eq_true (by omega)
  have hmi : (m0 : Int) + (m1 : Int) ≤ 80 := by omega
  clear hr hn hx hX hg hz hb0 hs hs0 g1 g2 g3 hn40 hm1 hsm2 hmx0 hmx1 hk1 hk2 hf1 hf2 hb1 hb2 hj hy0 hy1 hy2 hq hq2 hmb
  go_enter Try.func8, Try.ntmps8
  go_wp2_with (first
    | (go_at_call 16; (with_reducible refine (HA.out).mono ?_); rintro e w1 ⟨rfl, hb1⟩; have HB1 := Lib.hid hb1; clear hb1)
    | (go_at_call 20; (with_reducible refine (HG.out w1 HB1.out).mono ?_); rintro e w2 ⟨rfl, hb2⟩; have HB2 := Lib.hid (stp HB1.out hb2); obtain ⟨cx2, cy2⟩ := HCL.out _ HB2.out; clear hb2)
    | (go_at_call 25; (with_reducible refine (HF1.out w2 HB2.out).mono ?_); rintro e w3 ⟨rfl, hb3⟩; have HB3 := Lib.hid (stp HB2.out hb3); obtain ⟨cx3, cy3⟩ := HCL.out _ HB3.out; clear hb3)
    | fail)
  have HW3 : Hid (∀ W, Below w3.heap.size w3 W → Below (w.alloc (.cells #[.string x, .string y] 25)).heap.size (w.alloc (.cells #[.string x, .string y] 25)) W) := Lib.hid fun W h => stp HB3.out h
  have HK : Hid (∀ W, Below w3.heap.size w3 W → W.cell? ⟨w.heap.size, 0, none⟩ = some (.string x) ∧ W.cell? ⟨w.heap.size, 1, none⟩ = some (.string y)) := Lib.hid fun W h => HCL.out _ (stp HB3.out h)
  have RL : Hid (∀ W, Below w3.heap.size w3 W → RdC PrC W W.heap.size A l) := Lib.hid fun W h => HR0.out.on (stp HB3.out h)
  have OA : Hid (∀ W, Below (w3.alloc (.cells #[] 25)).heap.size (w3.alloc (.cells #[] 25)) W → W.ownsRow w3.heap.size 25 2 (.slice (some ⟨w3.heap.size, 0, none⟩) 0 0) 0 []) := Lib.hid fun W h => own_belowK (own_empty w3 _ 2) h (Nat.le_refl _)
  have OC : Hid (∀ W, Below ((w3.alloc (.cells #[.string x, .string y] 25)).alloc (.cells #[] 25)).heap.size ((w3.alloc (.cells #[.string x, .string y] 25)).alloc (.cells #[] 25)) W → W.ownsRow (w3.heap.size + 1) 25 2 (.slice (some ⟨w3.heap.size + 1, 0, none⟩) 0 0) 0 []) := Lib.hid fun W h => own_belowK (own_emptyB w3 _ _ 2) h (Nat.le_refl _)
  have PB_ : Hid (∀ W, Below ((w3.alloc (.cells #[] 25)).alloc (.cells #[.string x, .string y] 25)).heap.size ((w3.alloc (.cells #[] 25)).alloc (.cells #[.string x, .string y] 25)) W → W.heap[w3.heap.size + 1]? = some (.cells #[.string x, .string y] 25 (0, 0))) := Lib.hid fun W h => kept_heap (by have := heap_alloc_new (w3.alloc (.cells #[] 25)) (.cells #[.string x, .string y] 25); rw [World.size_alloc] at this; exact this) h
  have PC_ : Hid (∀ W, Below (w3.alloc (.cells #[.string x, .string y] 25)).heap.size (w3.alloc (.cells #[.string x, .string y] 25)) W → W.heap[w3.heap.size]? = some (.cells #[.string x, .string y] 25 (0, 0))) := Lib.hid fun W h => kept_heap (heap_alloc_new w3 _) h
  go_region_held3 (fun W => W.cell? ⟨w.heap.size, 0, none⟩ = some (.string x) ∧ W.cell? ⟨w.heap.size, 1, none⟩ = some (.string y))
    (first | exact HK.out _ (by first | exact Below.refl _ _ | exact (Below.refl _ _).drew | exact stpA (Below.refl _ _) _ | exact (stpA (Below.refl _ _) _).drew | exact stpA (Below.refl _ _).drew _ | exact stpA (stpA (Below.refl _ _) _) _ | exact (stpA (stpA (Below.refl _ _) _) _).drew | exact stpA (stpA (Below.refl _ _) _).drew _ | exact stpA (stpA (Below.refl _ _).drew _) _) | exact HK.out _ K6.out | exact HK.out _ K5.out | exact HK.out _ K4.out | exact HK.out _ (stpA K4.out _) | exact HK.out _ (stpA K4.out _).drew)
    ((first
    | (refine step_append_prs (by rfl) (.tmp 42) (.tmp 43) 28 (by rfl) w3.heap.size 25 j0 (.agg #[.string ⟨#[]⟩, .string ⟨#[]⟩]) Try.underlying28 HI.out HZ0.out HZ1.out HZ2.out rfl _ 0 [] (by rfl) (OA.out _ (by first | exact Below.refl _ _ | exact (Below.refl _ _).drew)) _ A n cp l (by rfl) (RL.out _ (by first | exact Below.refl _ _ | exact (Below.refl _ _).drew | exact stpA (Below.refl _ _) _ | exact (stpA (Below.refl _ _) _).drew | exact stpA (Below.refl _ _).drew _ | exact stpA (stpA (Below.refl _ _) _) _ | exact (stpA (stpA (Below.refl _ _) _) _).drew | exact stpA (stpA (Below.refl _ _) _).drew _ | exact stpA (stpA (Below.refl _ _).drew _) _)) HN.out HNZ.out (by have := HN40.out; omega) (by simp; try omega) ?_; intro v4 w4 hown4 hgr4; rw [Nat.zero_add, List.nil_append] at hown4; obtain ⟨A4, c4, rfl⟩ := own_form2 hown4; have HO4 := Lib.hid hown4; have K4 : Hid (Below w3.heap.size w3 w4) := Lib.hid (Below.grown (by first | exact Below.refl _ _ | exact (Below.refl _ _).drew | exact stpA (Below.refl _ _) _ | exact (stpA (Below.refl _ _) _).drew | exact stpA (Below.refl _ _).drew _ | exact stpA (stpA (Below.refl _ _) _) _ | exact (stpA (stpA (Below.refl _ _) _) _).drew | exact stpA (stpA (Below.refl _ _) _).drew _ | exact stpA (stpA (Below.refl _ _).drew _) _) hgr4 (by simp; try omega) (fun g hg => by cases hg; first | exact Nat.le_refl _ | exact Nat.le_succ _)); clear hown4 hgr4)
    | (refine step_append_prs (by rfl) (.tmp 42) (.tmp 43) 28 (by rfl) w3.heap.size 25 j0 (.agg #[.string ⟨#[]⟩, .string ⟨#[]⟩]) Try.underlying28 HI.out HZ0.out HZ1.out HZ2.out rfl _ 0 [] (by rfl) (OA.out _ (by first | exact stpA (Below.refl _ _) _ | exact (stpA (Below.refl _ _) _).drew)) _ A n cp l (by rfl) (RL.out _ (by first | exact Below.refl _ _ | exact (Below.refl _ _).drew | exact stpA (Below.refl _ _) _ | exact (stpA (Below.refl _ _) _).drew | exact stpA (Below.refl _ _).drew _ | exact stpA (stpA (Below.refl _ _) _) _ | exact (stpA (stpA (Below.refl _ _) _) _).drew | exact stpA (stpA (Below.refl _ _) _).drew _ | exact stpA (stpA (Below.refl _ _).drew _) _)) HN.out HNZ.out (by have := HN40.out; omega) (by simp; try omega) ?_; intro v4 w4 hown4 hgr4; rw [Nat.zero_add, List.nil_append] at hown4; obtain ⟨A4, c4, rfl⟩ := own_form2 hown4; have HO4 := Lib.hid hown4; have K4 : Hid (Below w3.heap.size w3 w4) := Lib.hid (Below.grown (by first | exact Below.refl _ _ | exact (Below.refl _ _).drew | exact stpA (Below.refl _ _) _ | exact (stpA (Below.refl _ _) _).drew | exact stpA (Below.refl _ _).drew _ | exact stpA (stpA (Below.refl _ _) _) _ | exact (stpA (stpA (Below.refl _ _) _) _).drew | exact stpA (stpA (Below.refl _ _) _).drew _ | exact stpA (stpA (Below.refl _ _).drew _) _) hgr4 (by simp; try omega) (fun g hg => by cases hg; first | exact Nat.le_refl _ | exact Nat.le_succ _)); have NB := Lib.hid (nb_grown (PB_.out _ (by first | exact Below.refl _ _ | exact (Below.refl _ _).drew)) hgr4 (fun e => by simp [Value.ownBlock] at e; try omega)); clear hown4 hgr4)
    | (refine step_append_prs (by rfl) (.tmp 42) (.tmp 43) 28 (by rfl) (w3.heap.size + 1) 25 j0 (.agg #[.string ⟨#[]⟩, .string ⟨#[]⟩]) Try.underlying28 HI.out HZ0.out HZ1.out HZ2.out rfl _ 0 [] (by rfl) (OC.out _ (by first | exact Below.refl _ _ | exact (Below.refl _ _).drew)) _ A n cp l (by rfl) (RL.out _ (by first | exact Below.refl _ _ | exact (Below.refl _ _).drew | exact stpA (Below.refl _ _) _ | exact (stpA (Below.refl _ _) _).drew | exact stpA (Below.refl _ _).drew _ | exact stpA (stpA (Below.refl _ _) _) _ | exact (stpA (stpA (Below.refl _ _) _) _).drew | exact stpA (stpA (Below.refl _ _) _).drew _ | exact stpA (stpA (Below.refl _ _).drew _) _)) HN.out HNZ.out (by have := HN40.out; omega) (by simp; try omega) ?_; intro v4 w4 hown4 hgr4; rw [Nat.zero_add, List.nil_append] at hown4; obtain ⟨A4, c4, rfl⟩ := own_form2 hown4; have HO4 := Lib.hid hown4; have K4 : Hid (Below w3.heap.size w3 w4) := Lib.hid (Below.grown (by first | exact Below.refl _ _ | exact (Below.refl _ _).drew | exact stpA (Below.refl _ _) _ | exact (stpA (Below.refl _ _) _).drew | exact stpA (Below.refl _ _).drew _ | exact stpA (stpA (Below.refl _ _) _) _ | exact (stpA (stpA (Below.refl _ _) _) _).drew | exact stpA (stpA (Below.refl _ _) _).drew _ | exact stpA (stpA (Below.refl _ _).drew _) _) hgr4 (by simp; try omega) (fun g hg => by cases hg; first | exact Nat.le_refl _ | exact Nat.le_succ _)); have NC := Lib.hid (nb_grown (PC_.out _ (by first | exact stpA (Below.refl _ _) _ | exact (stpA (Below.refl _ _) _).drew)) hgr4 (fun e => by simp [Value.ownBlock] at e; try omega)); clear hown4 hgr4)
    | (refine step_append_prs (by rfl) (.tmp 44) (.tmp 46) 28 (by rfl) w3.heap.size 25 j0 (.agg #[.string ⟨#[]⟩, .string ⟨#[]⟩]) Try.underlying28 HI.out HZ0.out HZ1.out HZ2.out rfl _ n _ (by rfl) (own_belowK HO4.out (by first | exact stpA (Below.refl _ _) _ | exact (stpA (Below.refl _ _) _).drew) (Nat.le_refl _)) _ _ 1 1 [⟨x.data.toList, y.data.toList⟩] (by rfl) (rdc_one (by first | exact heap_alloc_new w4 _ | exact heap_alloc_new w4 _)) rfl (fun h => by cases h) (by have := HN40.out; omega) (by have := K4.out.size; first | omega | (simp; omega)) ?_; intro v5 w5 hown5 hgr5; obtain ⟨A5, c5, rfl⟩ := own_form2 hown5; have R5 := Lib.hid (row_plus hown5); have K5 : Hid (Below w3.heap.size w3 w5) := Lib.hid (Below.grown (by first | exact K4.out | exact stpA K4.out _ | exact (stpA K4.out _).drew) hgr5 (by have := K4.out.size; first | omega | (simp; omega)) (fun g hg => by have := (HO4.out.lt _ hg).1; omega)); clear hown5 hgr5)
    | (refine step_append_prs (by rfl) (.tmp 44) (.tmp 46) 28 (by rfl) w3.heap.size 25 j0 (.agg #[.string ⟨#[]⟩, .string ⟨#[]⟩]) Try.underlying28 HI.out HZ0.out HZ1.out HZ2.out rfl _ n _ (by rfl) (HO4.out) _ _ 1 1 [⟨x.data.toList, y.data.toList⟩] (by rfl) (rdc_one NB.out) rfl (fun h => by cases h) (by have := HN40.out; omega) (by have := K4.out.size; first | omega | (simp; omega)) ?_; intro v5 w5 hown5 hgr5; obtain ⟨A5, c5, rfl⟩ := own_form2 hown5; have R5 := Lib.hid (row_plus hown5); have K5 : Hid (Below w3.heap.size w3 w5) := Lib.hid (Below.grown (by first | exact K4.out | exact stpA K4.out _ | exact (stpA K4.out _).drew) hgr5 (by have := K4.out.size; first | omega | (simp; omega)) (fun g hg => by have := (HO4.out.lt _ hg).1; omega)); clear hown5 hgr5)
    | (refine step_append_prs (by rfl) (.tmp 44) (.tmp 46) 28 (by rfl) (w3.heap.size + 1) 25 j0 (.agg #[.string ⟨#[]⟩, .string ⟨#[]⟩]) Try.underlying28 HI.out HZ0.out HZ1.out HZ2.out rfl _ n _ (by rfl) (HO4.out) _ _ 1 1 [⟨x.data.toList, y.data.toList⟩] (by rfl) (rdc_one NC.out) rfl (fun h => by cases h) (by have := HN40.out; omega) (by have := lt_heap NC.out; first | omega | (simp; omega)) ?_; intro v5 w5 hown5 hgr5; obtain ⟨A5, c5, rfl⟩ := own_form2 hown5; have R5 := Lib.hid (row_plus hown5); have K5 : Hid (Below w3.heap.size w3 w5) := Lib.hid (Below.grown (by first | exact K4.out | exact stpA K4.out _ | exact (stpA K4.out _).drew) hgr5 (by have := K4.out.size; first | omega | (simp; omega)) (fun g hg => by have := (HO4.out.lt _ hg).1; omega)); clear hown5 hgr5)
    | (go_at_call 25; (with_reducible refine (HF2.out A5 c5 w5 R5.out).mono ?_); rintro e w6 ⟨rfl, hb6⟩; have K6 : Hid (Below w3.heap.size w3 w6) := Lib.hid (stp K5.out hb6); clear hb6)))
  · have HB6 := Lib.hid (HW3.out _ K6.out)
    have HK6 : Hid (∀ W, Below w6.heap.size w6 W → W.cell? ⟨w.heap.size, 0, none⟩ = some (.string x) ∧ W.cell? ⟨w.heap.size, 1, none⟩ = some (.string y)) := Lib.hid fun W h => HCL.out _ (stp HB6.out h)
    obtain ⟨cx6, cy6⟩ := HCL.out _ HB6.out
    go_wp2_with fail
    go_region_held3 (fun W => W.cell? ⟨w.heap.size, 0, none⟩ = some (.string x) ∧ W.cell? ⟨w.heap.size, 1, none⟩ = some (.string y))
      (first | exact HK6.out _ (Below.refl _ _).drew | exact HK6.out _ (Below.refl _ _) | exact HK6.out _ K7.out | exact HK6.out _ K8.out)
      ((first
      | (go_at_call 32; (with_reducible refine (HS1.out _).mono ?_); rintro e w7 ⟨rfl, hb7⟩; have K7 : Hid (Below w6.heap.size w6 w7) := Lib.hid (stp (Below.refl _ _).drew hb7); clear hb7)
      | (go_at_call 32; (with_reducible refine (HS2.out w7).mono ?_); rintro e w8 ⟨rfl, hb8⟩; have K8 : Hid (Below w6.heap.size w6 w8) := Lib.hid (stp K7.out hb8); clear hb8)))
    have HB8 := Lib.hid (stp HB6.out K8.out)
    go_wp2_with (first
      | (go_at_call 30; (with_reducible refine (HD0.out w8 HB8.out).mono ?_); rintro e w9 ⟨hb9, A9, c9, rfl⟩; have HB9 := Lib.hid (stp HB8.out hb9); clear hb9)
      | (go_at_call 30; (with_reducible refine (HD1.out w9 HB9.out).mono ?_); rintro e w10 ⟨hb10, A10, c10, rfl⟩; have HB10 := Lib.hid (stp HB9.out hb10); clear hb10)
      | fail)
    go_ret
    exact ⟨rfl, HWF.out _ HB10.out⟩
  · have HB6 := Lib.hid (HW3.out _ K6.out)
    have HK6 : Hid (∀ W, Below w6.heap.size w6 W → W.cell? ⟨w.heap.size, 0, none⟩ = some (.string x) ∧ W.cell? ⟨w.heap.size, 1, none⟩ = some (.string y)) := Lib.hid fun W h => HCL.out _ (stp HB6.out h)
    obtain ⟨cx6, cy6⟩ := HCL.out _ HB6.out
    go_wp2_with fail
    go_region_held3 (fun W => W.cell? ⟨w.heap.size, 0, none⟩ = some (.string x) ∧ W.cell? ⟨w.heap.size, 1, none⟩ = some (.string y))
      (first | exact HK6.out _ (Below.refl _ _).drew | exact HK6.out _ (Below.refl _ _) | exact HK6.out _ K7.out | exact HK6.out _ K8.out)
      ((first
      | (go_at_call 32; (with_reducible refine (HS1.out _).mono ?_); rintro e w7 ⟨rfl, hb7⟩; have K7 : Hid (Below w6.heap.size w6 w7) := Lib.hid (stp (Below.refl _ _).drew hb7); clear hb7)
      | (go_at_call 32; (with_reducible refine (HS2.out w7).mono ?_); rintro e w8 ⟨rfl, hb8⟩; have K8 : Hid (Below w6.heap.size w6 w8) := Lib.hid (stp K7.out hb8); clear hb8)))
    have HB8 := Lib.hid (stp HB6.out K8.out)
    go_wp2_with (first
      | (go_at_call 30; (with_reducible refine (HD0.out w8 HB8.out).mono ?_); rintro e w9 ⟨hb9, A9, c9, rfl⟩; have HB9 := Lib.hid (stp HB8.out hb9); clear hb9)
      | (go_at_call 30; (with_reducible refine (HD1.out w9 HB9.out).mono ?_); rintro e w10 ⟨hb10, A10, c10, rfl⟩; have HB10 := Lib.hid (stp HB9.out hb10); clear hb10)
      | fail)
    go_ret
    exact ⟨rfl, HWF.out _ HB10.out⟩
  · have HB6 := Lib.hid (HW3.out _ K6.out)
    have HK6 : Hid (∀ W, Below w6.heap.size w6 W → W.cell? ⟨w.heap.size, 0, none⟩ = some (.string x) ∧ W.cell? ⟨w.heap.size, 1, none⟩ = some (.string y)) := Lib.hid fun W h => HCL.out _ (stp HB6.out h)
    obtain ⟨cx6, cy6⟩ := HCL.out _ HB6.out
    go_wp2_with fail
    go_region_held3 (fun W => W.cell? ⟨w.heap.size, 0, none⟩ = some (.string x) ∧ W.cell? ⟨w.heap.size, 1, none⟩ = some (.string y))
      (first | exact HK6.out _ (Below.refl _ _).drew | exact HK6.out _ (Below.refl _ _) | exact HK6.out _ K7.out | exact HK6.out _ K8.out)
      ((first
      | (go_at_call 32; (with_reducible refine (HS1.out _).mono ?_); rintro e w7 ⟨rfl, hb7⟩; have K7 : Hid (Below w6.heap.size w6 w7) := Lib.hid (stp (Below.refl _ _).drew hb7); clear hb7)
      | (go_at_call 32; (with_reducible refine (HS2.out w7).mono ?_); rintro e w8 ⟨rfl, hb8⟩; have K8 : Hid (Below w6.heap.size w6 w8) := Lib.hid (stp K7.out hb8); clear hb8)))
    have HB8 := Lib.hid (stp HB6.out K8.out)
    go_wp2_with (first
      | (go_at_call 30; (with_reducible refine (HD0.out w8 HB8.out).mono ?_); rintro e w9 ⟨hb9, A9, c9, rfl⟩; have HB9 := Lib.hid (stp HB8.out hb9); clear hb9)
      | (go_at_call 30; (with_reducible refine (HD1.out w9 HB9.out).mono ?_); rintro e w10 ⟨hb10, A10, c10, rfl⟩; have HB10 := Lib.hid (stp HB9.out hb10); clear hb10)
      | fail)
    go_ret
    exact ⟨rfl, HWF.out _ HB10.out⟩
set_option maxHeartbeats 32000000 in
set_option maxRecDepth 100000 in
theorem fr_c3fa (A : Option Addr) (n cp : Nat) (l : List Pr) (x y : ByteArray) (w : World) (hr : RdC PrC w w.heap.size A l) (hn : l.length = n) (hx : n ≤ 9223372036854775807) (hz : A = none → cp = 0) (hX : Mx w) (m0 m1 : Nat) (hmx0 : (findH l nCoding).length = m0) (hmx1 : (findH l nLength).length = m1) (K1 K2 : Nat) (k2 : Int) (hk1 : (K1 : Int) = 0) (hk2 : (K2 : Int) = k2) (N1 : Int) (N2 : Int) (hf1 : frameH l = (K1, N1, 0)) (hf2 : frameH (l ++ [⟨x.data.toList, y.data.toList⟩]) = (K2, N2, 140)) (hb1 : decide (lowS x = lowS ⟨#[116, 114, 97, 110, 115, 102, 101, 114, 45, 101, 110, 99, 111, 100, 105, 110, 103]⟩) = false) (hb2 : decide (lowS x = lowS ⟨#[99, 111, 110, 116, 101, 110, 116, 45, 108, 101, 110, 103, 116, 104]⟩) = true) (hg : greatH l = false) (hs0 : ¬ 1000 < x.size) (hs : ¬ 1000 < y.size) (hq : m0 + m1 = 0) : Calls Try.prog 8 #[.slice A n cp, .agg #[.string x, .string y]] w fun e w' => e = .returned (.bool true) ∧ Below w.heap.size w w' := by
  have hb0 : Below w.heap.size w (w.alloc (.cells #[.string x, .string y] 25)) := stpA (Below.refl _ _) _
  have HA := Lib.hid (alive14 (w.alloc (.cells #[.string x, .string y] 25)) (hX.below hb0))
  have HR0 := Lib.hid (hr.on hb0)
  have HCL : Hid (∀ W, Below (w.alloc (.cells #[.string x, .string y] 25)).heap.size (w.alloc (.cells #[.string x, .string y] 25)) W → W.cell? ⟨w.heap.size, 0, none⟩ = some (.string x) ∧ W.cell? ⟨w.heap.size, 1, none⟩ = some (.string y)) := Lib.hid fun W h => ⟨cellV _ _ 0 _ _ _ (kept_heap (heap_alloc_new w _) h), cellV _ _ 1 _ _ _ (kept_heap (heap_alloc_new w _) h)⟩
  have HWF : Hid (∀ W, Below (w.alloc (.cells #[.string x, .string y] 25)).heap.size (w.alloc (.cells #[.string x, .string y] 25)) W → Below w.heap.size w W) := Lib.hid fun W h => stp hb0 h
  have HG : Hid (∀ W, Below (w.alloc (.cells #[.string x, .string y] 25)).heap.size (w.alloc (.cells #[.string x, .string y] 25)) W → Calls Try.prog 20 #[.slice A n cp] W fun e w' => e = .returned (.bool false) ∧ Below W.heap.size W w') := Lib.hid fun W hW => rgreat14 A n cp l W (HR0.out.on hW) hn hx false hg
  obtain ⟨g1, g2, g3⟩ := great_no14 hg
  obtain ⟨j0, hj, hy0, hy1, hy2⟩ := info_parts infoPr
  have HI := Lib.hid hj
  have HZ0 := Lib.hid hy0
  have HZ1 := Lib.hid hy1
  have HZ2 := Lib.hid hy2
  have HN := Lib.hid hn
  have HNZ := Lib.hid hz
  have d1 : decide ((1000 : Int) < (x.size : Int)) = false := decide_eq_false (by omega)
  have d2 : decide ((1000 : Int) < (y.size : Int)) = false := decide_eq_false (by omega)
  have hn40 : n ≤ 40 := by omega
  have HN40 := Lib.hid hn40
  have hm1 : n + 1 ≤ 1000 := by omega
  have HXS : Hid (x.size ≤ 1000000) := Lib.hid (by omega)
  have hsm2 : SmP (l ++ [⟨x.data.toList, y.data.toList⟩]) := fun p hp => by
    rcases List.mem_append.1 hp with hp | hp
    · exact g2 p hp
    · rw [List.mem_singleton] at hp
      subst hp
      dsimp only
      rw [ba_l, ba_l]
      omega
  have HF1 : Hid (∀ W, Below (w.alloc (.cells #[.string x, .string y] 25)).heap.size (w.alloc (.cells #[.string x, .string y] 25)) W → Calls Try.prog 25 #[.slice A n cp] W fun e w' => e = .returned (.tuple #[.int .u8 0, .int .i64 N1, .int .i64 0]) ∧ Below W.heap.size W w') := Lib.hid fun W hW => by
    have t := frame14 A n cp l W (HR0.out.on hW) hn (by omega) g2 K1 N1 0 hf1
    rw [hk1] at t
    exact t
  have HF2 : Hid (∀ A5 c5 W, RdC PrC W W.heap.size A5 (l ++ [⟨x.data.toList, y.data.toList⟩]) → Calls Try.prog 25 #[.slice A5 (n + 1) c5] W fun e w' => e = .returned (.tuple #[.int .u8 k2, .int .i64 N2, .int .i64 140]) ∧ Below W.heap.size W w') := Lib.hid fun A5 c5 W h => by
    have t := frame14 A5 (n + 1) c5 _ W h (by rw [List.length_append, hn]; rfl) hm1 hsm2 K2 N2 140 hf2
    rw [hk2] at t
    exact t
  have HS1 : Hid (∀ W, Calls Try.prog 32 #[.string x, .string ⟨#[116, 114, 97, 110, 115, 102, 101, 114, 45, 101, 110, 99, 111, 100, 105, 110, 103]⟩] W fun e w' => e = .returned (.bool false) ∧ Below W.heap.size W w') := Lib.hid fun W => same7 x ⟨#[116, 114, 97, 110, 115, 102, 101, 114, 45, 101, 110, 99, 111, 100, 105, 110, 103]⟩ false W HXS.out (by decide) hb1
  have HS2 : Hid (∀ W, Calls Try.prog 32 #[.string x, .string ⟨#[99, 111, 110, 116, 101, 110, 116, 45, 108, 101, 110, 103, 116, 104]⟩] W fun e w' => e = .returned (.bool true) ∧ Below W.heap.size W w') := Lib.hid fun W => same7 x ⟨#[99, 111, 110, 116, 101, 110, 116, 45, 108, 101, 110, 103, 116, 104]⟩ true W HXS.out (by decide) hb2
  have HD0 : Hid (∀ W, Below (w.alloc (.cells #[.string x, .string y] 25)).heap.size (w.alloc (.cells #[.string x, .string y] 25)) W → Calls Try.prog 30 #[.slice A n cp, .string ⟨#[116, 114, 97, 110, 115, 102, 101, 114, 45, 101, 110, 99, 111, 100, 105, 110, 103]⟩] W fun e w' => Below W.heap.size W w' ∧ ∃ A c, e = .returned (.slice A m0 c)) := Lib.hid fun W hW => (find14 A n cp l ⟨#[116, 114, 97, 110, 115, 102, 101, 114, 45, 101, 110, 99, 111, 100, 105, 110, 103]⟩ W (HR0.out.on hW) hn (by omega) g2 (by decide)).mono fun e w' ⟨q1, A, c, q2, _, _⟩ => ⟨q1, A, c, hmx0 ▸ q2⟩
  have HD1 : Hid (∀ W, Below (w.alloc (.cells #[.string x, .string y] 25)).heap.size (w.alloc (.cells #[.string x, .string y] 25)) W → Calls Try.prog 30 #[.slice A n cp, .string ⟨#[99, 111, 110, 116, 101, 110, 116, 45, 108, 101, 110, 103, 116, 104]⟩] W fun e w' => Below W.heap.size W w' ∧ ∃ A c, e = .returned (.slice A m1 c)) := Lib.hid fun W hW => (find14 A n cp l ⟨#[99, 111, 110, 116, 101, 110, 116, 45, 108, 101, 110, 103, 116, 104]⟩ W (HR0.out.on hW) hn (by omega) g2 (by decide)).mono fun e w' ⟨q1, A, c, q2, _, _⟩ => ⟨q1, A, c, hmx1 ▸ q2⟩
  have hmb : m0 + m1 ≤ 80 := by
    have f0 := find_len l nCoding
    have f1 := find_len l nLength
    rw [hmx0] at f0
    rw [hmx1] at f1
    omega
  have dm : decide ((1 : Int) < (m0 : Int) + (m1 : Int)) = false := decide_eq_false (by omega)
  have dz : decide ((0 : Int) < (m0 : Int) + (m1 : Int)) = false := decide_eq_false (by omega)
  have hmi : (m0 : Int) + (m1 : Int) ≤ 80 := by omega
  clear hr hn hx hX hg hz hb0 hs hs0 g1 g2 g3 hn40 hm1 hsm2 hmx0 hmx1 hk1 hk2 hf1 hf2 hb1 hb2 hj hy0 hy1 hy2 hq hmb
  go_enter Try.func8, Try.ntmps8
  go_wp2_with (first
    | (go_at_call 16; (with_reducible refine (HA.out).mono ?_); rintro e w1 ⟨rfl, hb1⟩; have HB1 := Lib.hid hb1; clear hb1)
    | (go_at_call 20; (with_reducible refine (HG.out w1 HB1.out).mono ?_); rintro e w2 ⟨rfl, hb2⟩; have HB2 := Lib.hid (stp HB1.out hb2); obtain ⟨cx2, cy2⟩ := HCL.out _ HB2.out; clear hb2)
    | (go_at_call 25; (with_reducible refine (HF1.out w2 HB2.out).mono ?_); rintro e w3 ⟨rfl, hb3⟩; have HB3 := Lib.hid (stp HB2.out hb3); obtain ⟨cx3, cy3⟩ := HCL.out _ HB3.out; clear hb3)
    | fail)
  have HW3 : Hid (∀ W, Below w3.heap.size w3 W → Below (w.alloc (.cells #[.string x, .string y] 25)).heap.size (w.alloc (.cells #[.string x, .string y] 25)) W) := Lib.hid fun W h => stp HB3.out h
  have HK : Hid (∀ W, Below w3.heap.size w3 W → W.cell? ⟨w.heap.size, 0, none⟩ = some (.string x) ∧ W.cell? ⟨w.heap.size, 1, none⟩ = some (.string y)) := Lib.hid fun W h => HCL.out _ (stp HB3.out h)
  have RL : Hid (∀ W, Below w3.heap.size w3 W → RdC PrC W W.heap.size A l) := Lib.hid fun W h => HR0.out.on (stp HB3.out h)
  have OA : Hid (∀ W, Below (w3.alloc (.cells #[] 25)).heap.size (w3.alloc (.cells #[] 25)) W → W.ownsRow w3.heap.size 25 2 (.slice (some ⟨w3.heap.size, 0, none⟩) 0 0) 0 []) := Lib.hid fun W h => own_belowK (own_empty w3 _ 2) h (Nat.le_refl _)
  have OC : Hid (∀ W, Below ((w3.alloc (.cells #[.string x, .string y] 25)).alloc (.cells #[] 25)).heap.size ((w3.alloc (.cells #[.string x, .string y] 25)).alloc (.cells #[] 25)) W → W.ownsRow (w3.heap.size + 1) 25 2 (.slice (some ⟨w3.heap.size + 1, 0, none⟩) 0 0) 0 []) := Lib.hid fun W h => own_belowK (own_emptyB w3 _ _ 2) h (Nat.le_refl _)
  have PB_ : Hid (∀ W, Below ((w3.alloc (.cells #[] 25)).alloc (.cells #[.string x, .string y] 25)).heap.size ((w3.alloc (.cells #[] 25)).alloc (.cells #[.string x, .string y] 25)) W → W.heap[w3.heap.size + 1]? = some (.cells #[.string x, .string y] 25 (0, 0))) := Lib.hid fun W h => kept_heap (by have := heap_alloc_new (w3.alloc (.cells #[] 25)) (.cells #[.string x, .string y] 25); rw [World.size_alloc] at this; exact this) h
  have PC_ : Hid (∀ W, Below (w3.alloc (.cells #[.string x, .string y] 25)).heap.size (w3.alloc (.cells #[.string x, .string y] 25)) W → W.heap[w3.heap.size]? = some (.cells #[.string x, .string y] 25 (0, 0))) := Lib.hid fun W h => kept_heap (heap_alloc_new w3 _) h
  go_region_held3 (fun W => W.cell? ⟨w.heap.size, 0, none⟩ = some (.string x) ∧ W.cell? ⟨w.heap.size, 1, none⟩ = some (.string y))
    (first | exact HK.out _ (by first | exact Below.refl _ _ | exact (Below.refl _ _).drew | exact stpA (Below.refl _ _) _ | exact (stpA (Below.refl _ _) _).drew | exact stpA (Below.refl _ _).drew _ | exact stpA (stpA (Below.refl _ _) _) _ | exact (stpA (stpA (Below.refl _ _) _) _).drew | exact stpA (stpA (Below.refl _ _) _).drew _ | exact stpA (stpA (Below.refl _ _).drew _) _) | exact HK.out _ K6.out | exact HK.out _ K5.out | exact HK.out _ K4.out | exact HK.out _ (stpA K4.out _) | exact HK.out _ (stpA K4.out _).drew)
    ((first
    | (refine step_append_prs (by rfl) (.tmp 42) (.tmp 43) 28 (by rfl) w3.heap.size 25 j0 (.agg #[.string ⟨#[]⟩, .string ⟨#[]⟩]) Try.underlying28 HI.out HZ0.out HZ1.out HZ2.out rfl _ 0 [] (by rfl) (OA.out _ (by first | exact Below.refl _ _ | exact (Below.refl _ _).drew)) _ A n cp l (by rfl) (RL.out _ (by first | exact Below.refl _ _ | exact (Below.refl _ _).drew | exact stpA (Below.refl _ _) _ | exact (stpA (Below.refl _ _) _).drew | exact stpA (Below.refl _ _).drew _ | exact stpA (stpA (Below.refl _ _) _) _ | exact (stpA (stpA (Below.refl _ _) _) _).drew | exact stpA (stpA (Below.refl _ _) _).drew _ | exact stpA (stpA (Below.refl _ _).drew _) _)) HN.out HNZ.out (by have := HN40.out; omega) (by simp; try omega) ?_; intro v4 w4 hown4 hgr4; rw [Nat.zero_add, List.nil_append] at hown4; obtain ⟨A4, c4, rfl⟩ := own_form2 hown4; have HO4 := Lib.hid hown4; have K4 : Hid (Below w3.heap.size w3 w4) := Lib.hid (Below.grown (by first | exact Below.refl _ _ | exact (Below.refl _ _).drew | exact stpA (Below.refl _ _) _ | exact (stpA (Below.refl _ _) _).drew | exact stpA (Below.refl _ _).drew _ | exact stpA (stpA (Below.refl _ _) _) _ | exact (stpA (stpA (Below.refl _ _) _) _).drew | exact stpA (stpA (Below.refl _ _) _).drew _ | exact stpA (stpA (Below.refl _ _).drew _) _) hgr4 (by simp; try omega) (fun g hg => by cases hg; first | exact Nat.le_refl _ | exact Nat.le_succ _)); clear hown4 hgr4)
    | (refine step_append_prs (by rfl) (.tmp 42) (.tmp 43) 28 (by rfl) w3.heap.size 25 j0 (.agg #[.string ⟨#[]⟩, .string ⟨#[]⟩]) Try.underlying28 HI.out HZ0.out HZ1.out HZ2.out rfl _ 0 [] (by rfl) (OA.out _ (by first | exact stpA (Below.refl _ _) _ | exact (stpA (Below.refl _ _) _).drew)) _ A n cp l (by rfl) (RL.out _ (by first | exact Below.refl _ _ | exact (Below.refl _ _).drew | exact stpA (Below.refl _ _) _ | exact (stpA (Below.refl _ _) _).drew | exact stpA (Below.refl _ _).drew _ | exact stpA (stpA (Below.refl _ _) _) _ | exact (stpA (stpA (Below.refl _ _) _) _).drew | exact stpA (stpA (Below.refl _ _) _).drew _ | exact stpA (stpA (Below.refl _ _).drew _) _)) HN.out HNZ.out (by have := HN40.out; omega) (by simp; try omega) ?_; intro v4 w4 hown4 hgr4; rw [Nat.zero_add, List.nil_append] at hown4; obtain ⟨A4, c4, rfl⟩ := own_form2 hown4; have HO4 := Lib.hid hown4; have K4 : Hid (Below w3.heap.size w3 w4) := Lib.hid (Below.grown (by first | exact Below.refl _ _ | exact (Below.refl _ _).drew | exact stpA (Below.refl _ _) _ | exact (stpA (Below.refl _ _) _).drew | exact stpA (Below.refl _ _).drew _ | exact stpA (stpA (Below.refl _ _) _) _ | exact (stpA (stpA (Below.refl _ _) _) _).drew | exact stpA (stpA (Below.refl _ _) _).drew _ | exact stpA (stpA (Below.refl _ _).drew _) _) hgr4 (by simp; try omega) (fun g hg => by cases hg; first | exact Nat.le_refl _ | exact Nat.le_succ _)); have NB := Lib.hid (nb_grown (PB_.out _ (by first | exact Below.refl _ _ | exact (Below.refl _ _).drew)) hgr4 (fun e => by simp [Value.ownBlock] at e; try omega)); clear hown4 hgr4)
    | (refine step_append_prs (by rfl) (.tmp 42) (.tmp 43) 28 (by rfl) (w3.heap.size + 1) 25 j0 (.agg #[.string ⟨#[]⟩, .string ⟨#[]⟩]) Try.underlying28 HI.out HZ0.out HZ1.out HZ2.out rfl _ 0 [] (by rfl) (OC.out _ (by first | exact Below.refl _ _ | exact (Below.refl _ _).drew)) _ A n cp l (by rfl) (RL.out _ (by first | exact Below.refl _ _ | exact (Below.refl _ _).drew | exact stpA (Below.refl _ _) _ | exact (stpA (Below.refl _ _) _).drew | exact stpA (Below.refl _ _).drew _ | exact stpA (stpA (Below.refl _ _) _) _ | exact (stpA (stpA (Below.refl _ _) _) _).drew | exact stpA (stpA (Below.refl _ _) _).drew _ | exact stpA (stpA (Below.refl _ _).drew _) _)) HN.out HNZ.out (by have := HN40.out; omega) (by simp; try omega) ?_; intro v4 w4 hown4 hgr4; rw [Nat.zero_add, List.nil_append] at hown4; obtain ⟨A4, c4, rfl⟩ := own_form2 hown4; have HO4 := Lib.hid hown4; have K4 : Hid (Below w3.heap.size w3 w4) := Lib.hid (Below.grown (by first | exact Below.refl _ _ | exact (Below.refl _ _).drew | exact stpA (Below.refl _ _) _ | exact (stpA (Below.refl _ _) _).drew | exact stpA (Below.refl _ _).drew _ | exact stpA (stpA (Below.refl _ _) _) _ | exact (stpA (stpA (Below.refl _ _) _) _).drew | exact stpA (stpA (Below.refl _ _) _).drew _ | exact stpA (stpA (Below.refl _ _).drew _) _) hgr4 (by simp; try omega) (fun g hg => by cases hg; first | exact Nat.le_refl _ | exact Nat.le_succ _)); have NC := Lib.hid (nb_grown (PC_.out _ (by first | exact stpA (Below.refl _ _) _ | exact (stpA (Below.refl _ _) _).drew)) hgr4 (fun e => by simp [Value.ownBlock] at e; try omega)); clear hown4 hgr4)
    | (refine step_append_prs (by rfl) (.tmp 44) (.tmp 46) 28 (by rfl) w3.heap.size 25 j0 (.agg #[.string ⟨#[]⟩, .string ⟨#[]⟩]) Try.underlying28 HI.out HZ0.out HZ1.out HZ2.out rfl _ n _ (by rfl) (own_belowK HO4.out (by first | exact stpA (Below.refl _ _) _ | exact (stpA (Below.refl _ _) _).drew) (Nat.le_refl _)) _ _ 1 1 [⟨x.data.toList, y.data.toList⟩] (by rfl) (rdc_one (by first | exact heap_alloc_new w4 _ | exact heap_alloc_new w4 _)) rfl (fun h => by cases h) (by have := HN40.out; omega) (by have := K4.out.size; first | omega | (simp; omega)) ?_; intro v5 w5 hown5 hgr5; obtain ⟨A5, c5, rfl⟩ := own_form2 hown5; have R5 := Lib.hid (row_plus hown5); have K5 : Hid (Below w3.heap.size w3 w5) := Lib.hid (Below.grown (by first | exact K4.out | exact stpA K4.out _ | exact (stpA K4.out _).drew) hgr5 (by have := K4.out.size; first | omega | (simp; omega)) (fun g hg => by have := (HO4.out.lt _ hg).1; omega)); clear hown5 hgr5)
    | (refine step_append_prs (by rfl) (.tmp 44) (.tmp 46) 28 (by rfl) w3.heap.size 25 j0 (.agg #[.string ⟨#[]⟩, .string ⟨#[]⟩]) Try.underlying28 HI.out HZ0.out HZ1.out HZ2.out rfl _ n _ (by rfl) (HO4.out) _ _ 1 1 [⟨x.data.toList, y.data.toList⟩] (by rfl) (rdc_one NB.out) rfl (fun h => by cases h) (by have := HN40.out; omega) (by have := K4.out.size; first | omega | (simp; omega)) ?_; intro v5 w5 hown5 hgr5; obtain ⟨A5, c5, rfl⟩ := own_form2 hown5; have R5 := Lib.hid (row_plus hown5); have K5 : Hid (Below w3.heap.size w3 w5) := Lib.hid (Below.grown (by first | exact K4.out | exact stpA K4.out _ | exact (stpA K4.out _).drew) hgr5 (by have := K4.out.size; first | omega | (simp; omega)) (fun g hg => by have := (HO4.out.lt _ hg).1; omega)); clear hown5 hgr5)
    | (refine step_append_prs (by rfl) (.tmp 44) (.tmp 46) 28 (by rfl) (w3.heap.size + 1) 25 j0 (.agg #[.string ⟨#[]⟩, .string ⟨#[]⟩]) Try.underlying28 HI.out HZ0.out HZ1.out HZ2.out rfl _ n _ (by rfl) (HO4.out) _ _ 1 1 [⟨x.data.toList, y.data.toList⟩] (by rfl) (rdc_one NC.out) rfl (fun h => by cases h) (by have := HN40.out; omega) (by have := lt_heap NC.out; first | omega | (simp; omega)) ?_; intro v5 w5 hown5 hgr5; obtain ⟨A5, c5, rfl⟩ := own_form2 hown5; have R5 := Lib.hid (row_plus hown5); have K5 : Hid (Below w3.heap.size w3 w5) := Lib.hid (Below.grown (by first | exact K4.out | exact stpA K4.out _ | exact (stpA K4.out _).drew) hgr5 (by have := K4.out.size; first | omega | (simp; omega)) (fun g hg => by have := (HO4.out.lt _ hg).1; omega)); clear hown5 hgr5)
    | (go_at_call 25; (with_reducible refine (HF2.out A5 c5 w5 R5.out).mono ?_); rintro e w6 ⟨rfl, hb6⟩; have K6 : Hid (Below w3.heap.size w3 w6) := Lib.hid (stp K5.out hb6); clear hb6)))
  · have HB6 := Lib.hid (HW3.out _ K6.out)
    have HK6 : Hid (∀ W, Below w6.heap.size w6 W → W.cell? ⟨w.heap.size, 0, none⟩ = some (.string x) ∧ W.cell? ⟨w.heap.size, 1, none⟩ = some (.string y)) := Lib.hid fun W h => HCL.out _ (stp HB6.out h)
    obtain ⟨cx6, cy6⟩ := HCL.out _ HB6.out
    go_wp2_with fail
    go_region_held3 (fun W => W.cell? ⟨w.heap.size, 0, none⟩ = some (.string x) ∧ W.cell? ⟨w.heap.size, 1, none⟩ = some (.string y))
      (first | exact HK6.out _ (Below.refl _ _).drew | exact HK6.out _ (Below.refl _ _) | exact HK6.out _ K7.out | exact HK6.out _ K8.out)
      ((first
      | (go_at_call 32; (with_reducible refine (HS1.out _).mono ?_); rintro e w7 ⟨rfl, hb7⟩; have K7 : Hid (Below w6.heap.size w6 w7) := Lib.hid (stp (Below.refl _ _).drew hb7); clear hb7)
      | (go_at_call 32; (with_reducible refine (HS2.out w7).mono ?_); rintro e w8 ⟨rfl, hb8⟩; have K8 : Hid (Below w6.heap.size w6 w8) := Lib.hid (stp K7.out hb8); clear hb8)))
    have HB8 := Lib.hid (stp HB6.out K8.out)
    go_wp2_with (first
      | (go_at_call 30; (with_reducible refine (HD0.out w8 HB8.out).mono ?_); rintro e w9 ⟨hb9, A9, c9, rfl⟩; have HB9 := Lib.hid (stp HB8.out hb9); clear hb9)
      | (go_at_call 30; (with_reducible refine (HD1.out w9 HB9.out).mono ?_); rintro e w10 ⟨hb10, A10, c10, rfl⟩; have HB10 := Lib.hid (stp HB9.out hb10); clear hb10)
      | fail)
    go_ret
    exact ⟨rfl, HWF.out _ HB10.out⟩
  · have HB6 := Lib.hid (HW3.out _ K6.out)
    have HK6 : Hid (∀ W, Below w6.heap.size w6 W → W.cell? ⟨w.heap.size, 0, none⟩ = some (.string x) ∧ W.cell? ⟨w.heap.size, 1, none⟩ = some (.string y)) := Lib.hid fun W h => HCL.out _ (stp HB6.out h)
    obtain ⟨cx6, cy6⟩ := HCL.out _ HB6.out
    go_wp2_with fail
    go_region_held3 (fun W => W.cell? ⟨w.heap.size, 0, none⟩ = some (.string x) ∧ W.cell? ⟨w.heap.size, 1, none⟩ = some (.string y))
      (first | exact HK6.out _ (Below.refl _ _).drew | exact HK6.out _ (Below.refl _ _) | exact HK6.out _ K7.out | exact HK6.out _ K8.out)
      ((first
      | (go_at_call 32; (with_reducible refine (HS1.out _).mono ?_); rintro e w7 ⟨rfl, hb7⟩; have K7 : Hid (Below w6.heap.size w6 w7) := Lib.hid (stp (Below.refl _ _).drew hb7); clear hb7)
      | (go_at_call 32; (with_reducible refine (HS2.out w7).mono ?_); rintro e w8 ⟨rfl, hb8⟩; have K8 : Hid (Below w6.heap.size w6 w8) := Lib.hid (stp K7.out hb8); clear hb8)))
    have HB8 := Lib.hid (stp HB6.out K8.out)
    go_wp2_with (first
      | (go_at_call 30; (with_reducible refine (HD0.out w8 HB8.out).mono ?_); rintro e w9 ⟨hb9, A9, c9, rfl⟩; have HB9 := Lib.hid (stp HB8.out hb9); clear hb9)
      | (go_at_call 30; (with_reducible refine (HD1.out w9 HB9.out).mono ?_); rintro e w10 ⟨hb10, A10, c10, rfl⟩; have HB10 := Lib.hid (stp HB9.out hb10); clear hb10)
      | fail)
    go_ret
    exact ⟨rfl, HWF.out _ HB10.out⟩
  · have HB6 := Lib.hid (HW3.out _ K6.out)
    have HK6 : Hid (∀ W, Below w6.heap.size w6 W → W.cell? ⟨w.heap.size, 0, none⟩ = some (.string x) ∧ W.cell? ⟨w.heap.size, 1, none⟩ = some (.string y)) := Lib.hid fun W h => HCL.out _ (stp HB6.out h)
    obtain ⟨cx6, cy6⟩ := HCL.out _ HB6.out
    go_wp2_with fail
    go_region_held3 (fun W => W.cell? ⟨w.heap.size, 0, none⟩ = some (.string x) ∧ W.cell? ⟨w.heap.size, 1, none⟩ = some (.string y))
      (first | exact HK6.out _ (Below.refl _ _).drew | exact HK6.out _ (Below.refl _ _) | exact HK6.out _ K7.out | exact HK6.out _ K8.out)
      ((first
      | (go_at_call 32; (with_reducible refine (HS1.out _).mono ?_); rintro e w7 ⟨rfl, hb7⟩; have K7 : Hid (Below w6.heap.size w6 w7) := Lib.hid (stp (Below.refl _ _).drew hb7); clear hb7)
      | (go_at_call 32; (with_reducible refine (HS2.out w7).mono ?_); rintro e w8 ⟨rfl, hb8⟩; have K8 : Hid (Below w6.heap.size w6 w8) := Lib.hid (stp K7.out hb8); clear hb8)))
    have HB8 := Lib.hid (stp HB6.out K8.out)
    go_wp2_with (first
      | (go_at_call 30; (with_reducible refine (HD0.out w8 HB8.out).mono ?_); rintro e w9 ⟨hb9, A9, c9, rfl⟩; have HB9 := Lib.hid (stp HB8.out hb9); clear hb9)
      | (go_at_call 30; (with_reducible refine (HD1.out w9 HB9.out).mono ?_); rintro e w10 ⟨hb10, A10, c10, rfl⟩; have HB10 := Lib.hid (stp HB9.out hb10); clear hb10)
      | fail)
    go_ret
    exact ⟨rfl, HWF.out _ HB10.out⟩
set_option maxHeartbeats 32000000 in
set_option maxRecDepth 100000 in
theorem fr_c3fb (A : Option Addr) (n cp : Nat) (l : List Pr) (x y : ByteArray) (w : World) (hr : RdC PrC w w.heap.size A l) (hn : l.length = n) (hx : n ≤ 9223372036854775807) (hz : A = none → cp = 0) (hX : Mx w) (m0 m1 : Nat) (hmx0 : (findH l nCoding).length = m0) (hmx1 : (findH l nLength).length = m1) (K1 K2 : Nat) (hk1 : (K1 : Int) = 0) (hk2 : (K2 : Int) = 1) (N1 : Int) (N2 : Int) (hf1 : frameH l = (K1, N1, 0)) (hf2 : frameH (l ++ [⟨x.data.toList, y.data.toList⟩]) = (K2, N2, 0)) (hb1 : decide (lowS x = lowS ⟨#[116, 114, 97, 110, 115, 102, 101, 114, 45, 101, 110, 99, 111, 100, 105, 110, 103]⟩) = false) (hb2 : decide (lowS x = lowS ⟨#[99, 111, 110, 116, 101, 110, 116, 45, 108, 101, 110, 103, 116, 104]⟩) = true) (hg : greatH l = false) (hs0 : ¬ 1000 < x.size) (hs : ¬ 1000 < y.size) (hq : m0 + m1 = 0) : Calls Try.prog 8 #[.slice A n cp, .agg #[.string x, .string y]] w fun e w' => e = .returned (.bool true) ∧ Below w.heap.size w w' := by
  have hb0 : Below w.heap.size w (w.alloc (.cells #[.string x, .string y] 25)) := stpA (Below.refl _ _) _
  have HA := Lib.hid (alive14 (w.alloc (.cells #[.string x, .string y] 25)) (hX.below hb0))
  have HR0 := Lib.hid (hr.on hb0)
  have HCL : Hid (∀ W, Below (w.alloc (.cells #[.string x, .string y] 25)).heap.size (w.alloc (.cells #[.string x, .string y] 25)) W → W.cell? ⟨w.heap.size, 0, none⟩ = some (.string x) ∧ W.cell? ⟨w.heap.size, 1, none⟩ = some (.string y)) := Lib.hid fun W h => ⟨cellV _ _ 0 _ _ _ (kept_heap (heap_alloc_new w _) h), cellV _ _ 1 _ _ _ (kept_heap (heap_alloc_new w _) h)⟩
  have HWF : Hid (∀ W, Below (w.alloc (.cells #[.string x, .string y] 25)).heap.size (w.alloc (.cells #[.string x, .string y] 25)) W → Below w.heap.size w W) := Lib.hid fun W h => stp hb0 h
  have HG : Hid (∀ W, Below (w.alloc (.cells #[.string x, .string y] 25)).heap.size (w.alloc (.cells #[.string x, .string y] 25)) W → Calls Try.prog 20 #[.slice A n cp] W fun e w' => e = .returned (.bool false) ∧ Below W.heap.size W w') := Lib.hid fun W hW => rgreat14 A n cp l W (HR0.out.on hW) hn hx false hg
  obtain ⟨g1, g2, g3⟩ := great_no14 hg
  obtain ⟨j0, hj, hy0, hy1, hy2⟩ := info_parts infoPr
  have HI := Lib.hid hj
  have HZ0 := Lib.hid hy0
  have HZ1 := Lib.hid hy1
  have HZ2 := Lib.hid hy2
  have HN := Lib.hid hn
  have HNZ := Lib.hid hz
  have d1 : decide ((1000 : Int) < (x.size : Int)) = false := decide_eq_false (by omega)
  have d2 : decide ((1000 : Int) < (y.size : Int)) = false := decide_eq_false (by omega)
  have hn40 : n ≤ 40 := by omega
  have HN40 := Lib.hid hn40
  have hm1 : n + 1 ≤ 1000 := by omega
  have HXS : Hid (x.size ≤ 1000000) := Lib.hid (by omega)
  have hsm2 : SmP (l ++ [⟨x.data.toList, y.data.toList⟩]) := fun p hp => by
    rcases List.mem_append.1 hp with hp | hp
    · exact g2 p hp
    · rw [List.mem_singleton] at hp
      subst hp
      dsimp only
      rw [ba_l, ba_l]
      omega
  have HF1 : Hid (∀ W, Below (w.alloc (.cells #[.string x, .string y] 25)).heap.size (w.alloc (.cells #[.string x, .string y] 25)) W → Calls Try.prog 25 #[.slice A n cp] W fun e w' => e = .returned (.tuple #[.int .u8 0, .int .i64 N1, .int .i64 0]) ∧ Below W.heap.size W w') := Lib.hid fun W hW => by
    have t := frame14 A n cp l W (HR0.out.on hW) hn (by omega) g2 K1 N1 0 hf1
    rw [hk1] at t
    exact t
  have HF2 : Hid (∀ A5 c5 W, RdC PrC W W.heap.size A5 (l ++ [⟨x.data.toList, y.data.toList⟩]) → Calls Try.prog 25 #[.slice A5 (n + 1) c5] W fun e w' => e = .returned (.tuple #[.int .u8 1, .int .i64 N2, .int .i64 0]) ∧ Below W.heap.size W w') := Lib.hid fun A5 c5 W h => by
    have t := frame14 A5 (n + 1) c5 _ W h (by rw [List.length_append, hn]; rfl) hm1 hsm2 K2 N2 0 hf2
    rw [hk2] at t
    exact t
  have HS1 : Hid (∀ W, Calls Try.prog 32 #[.string x, .string ⟨#[116, 114, 97, 110, 115, 102, 101, 114, 45, 101, 110, 99, 111, 100, 105, 110, 103]⟩] W fun e w' => e = .returned (.bool false) ∧ Below W.heap.size W w') := Lib.hid fun W => same7 x ⟨#[116, 114, 97, 110, 115, 102, 101, 114, 45, 101, 110, 99, 111, 100, 105, 110, 103]⟩ false W HXS.out (by decide) hb1
  have HS2 : Hid (∀ W, Calls Try.prog 32 #[.string x, .string ⟨#[99, 111, 110, 116, 101, 110, 116, 45, 108, 101, 110, 103, 116, 104]⟩] W fun e w' => e = .returned (.bool true) ∧ Below W.heap.size W w') := Lib.hid fun W => same7 x ⟨#[99, 111, 110, 116, 101, 110, 116, 45, 108, 101, 110, 103, 116, 104]⟩ true W HXS.out (by decide) hb2
  have HD0 : Hid (∀ W, Below (w.alloc (.cells #[.string x, .string y] 25)).heap.size (w.alloc (.cells #[.string x, .string y] 25)) W → Calls Try.prog 30 #[.slice A n cp, .string ⟨#[116, 114, 97, 110, 115, 102, 101, 114, 45, 101, 110, 99, 111, 100, 105, 110, 103]⟩] W fun e w' => Below W.heap.size W w' ∧ ∃ A c, e = .returned (.slice A m0 c)) := Lib.hid fun W hW => (find14 A n cp l ⟨#[116, 114, 97, 110, 115, 102, 101, 114, 45, 101, 110, 99, 111, 100, 105, 110, 103]⟩ W (HR0.out.on hW) hn (by omega) g2 (by decide)).mono fun e w' ⟨q1, A, c, q2, _, _⟩ => ⟨q1, A, c, hmx0 ▸ q2⟩
  have HD1 : Hid (∀ W, Below (w.alloc (.cells #[.string x, .string y] 25)).heap.size (w.alloc (.cells #[.string x, .string y] 25)) W → Calls Try.prog 30 #[.slice A n cp, .string ⟨#[99, 111, 110, 116, 101, 110, 116, 45, 108, 101, 110, 103, 116, 104]⟩] W fun e w' => Below W.heap.size W w' ∧ ∃ A c, e = .returned (.slice A m1 c)) := Lib.hid fun W hW => (find14 A n cp l ⟨#[99, 111, 110, 116, 101, 110, 116, 45, 108, 101, 110, 103, 116, 104]⟩ W (HR0.out.on hW) hn (by omega) g2 (by decide)).mono fun e w' ⟨q1, A, c, q2, _, _⟩ => ⟨q1, A, c, hmx1 ▸ q2⟩
  have hmb : m0 + m1 ≤ 80 := by
    have f0 := find_len l nCoding
    have f1 := find_len l nLength
    rw [hmx0] at f0
    rw [hmx1] at f1
    omega
  have dm : decide ((1 : Int) < (m0 : Int) + (m1 : Int)) = false := decide_eq_false (by omega)
  have dz : decide ((0 : Int) < (m0 : Int) + (m1 : Int)) = false := decide_eq_false (by omega)
  have hmi : (m0 : Int) + (m1 : Int) ≤ 80 := by omega
  clear hr hn hx hX hg hz hb0 hs hs0 g1 g2 g3 hn40 hm1 hsm2 hmx0 hmx1 hk1 hk2 hf1 hf2 hb1 hb2 hj hy0 hy1 hy2 hq hmb
  go_enter Try.func8, Try.ntmps8
  go_wp2_with (first
    | (go_at_call 16; (with_reducible refine (HA.out).mono ?_); rintro e w1 ⟨rfl, hb1⟩; have HB1 := Lib.hid hb1; clear hb1)
    | (go_at_call 20; (with_reducible refine (HG.out w1 HB1.out).mono ?_); rintro e w2 ⟨rfl, hb2⟩; have HB2 := Lib.hid (stp HB1.out hb2); obtain ⟨cx2, cy2⟩ := HCL.out _ HB2.out; clear hb2)
    | (go_at_call 25; (with_reducible refine (HF1.out w2 HB2.out).mono ?_); rintro e w3 ⟨rfl, hb3⟩; have HB3 := Lib.hid (stp HB2.out hb3); obtain ⟨cx3, cy3⟩ := HCL.out _ HB3.out; clear hb3)
    | fail)
  have HW3 : Hid (∀ W, Below w3.heap.size w3 W → Below (w.alloc (.cells #[.string x, .string y] 25)).heap.size (w.alloc (.cells #[.string x, .string y] 25)) W) := Lib.hid fun W h => stp HB3.out h
  have HK : Hid (∀ W, Below w3.heap.size w3 W → W.cell? ⟨w.heap.size, 0, none⟩ = some (.string x) ∧ W.cell? ⟨w.heap.size, 1, none⟩ = some (.string y)) := Lib.hid fun W h => HCL.out _ (stp HB3.out h)
  have RL : Hid (∀ W, Below w3.heap.size w3 W → RdC PrC W W.heap.size A l) := Lib.hid fun W h => HR0.out.on (stp HB3.out h)
  have OA : Hid (∀ W, Below (w3.alloc (.cells #[] 25)).heap.size (w3.alloc (.cells #[] 25)) W → W.ownsRow w3.heap.size 25 2 (.slice (some ⟨w3.heap.size, 0, none⟩) 0 0) 0 []) := Lib.hid fun W h => own_belowK (own_empty w3 _ 2) h (Nat.le_refl _)
  have OC : Hid (∀ W, Below ((w3.alloc (.cells #[.string x, .string y] 25)).alloc (.cells #[] 25)).heap.size ((w3.alloc (.cells #[.string x, .string y] 25)).alloc (.cells #[] 25)) W → W.ownsRow (w3.heap.size + 1) 25 2 (.slice (some ⟨w3.heap.size + 1, 0, none⟩) 0 0) 0 []) := Lib.hid fun W h => own_belowK (own_emptyB w3 _ _ 2) h (Nat.le_refl _)
  have PB_ : Hid (∀ W, Below ((w3.alloc (.cells #[] 25)).alloc (.cells #[.string x, .string y] 25)).heap.size ((w3.alloc (.cells #[] 25)).alloc (.cells #[.string x, .string y] 25)) W → W.heap[w3.heap.size + 1]? = some (.cells #[.string x, .string y] 25 (0, 0))) := Lib.hid fun W h => kept_heap (by have := heap_alloc_new (w3.alloc (.cells #[] 25)) (.cells #[.string x, .string y] 25); rw [World.size_alloc] at this; exact this) h
  have PC_ : Hid (∀ W, Below (w3.alloc (.cells #[.string x, .string y] 25)).heap.size (w3.alloc (.cells #[.string x, .string y] 25)) W → W.heap[w3.heap.size]? = some (.cells #[.string x, .string y] 25 (0, 0))) := Lib.hid fun W h => kept_heap (heap_alloc_new w3 _) h
  go_region_held3 (fun W => W.cell? ⟨w.heap.size, 0, none⟩ = some (.string x) ∧ W.cell? ⟨w.heap.size, 1, none⟩ = some (.string y))
    (first | exact HK.out _ (by first | exact Below.refl _ _ | exact (Below.refl _ _).drew | exact stpA (Below.refl _ _) _ | exact (stpA (Below.refl _ _) _).drew | exact stpA (Below.refl _ _).drew _ | exact stpA (stpA (Below.refl _ _) _) _ | exact (stpA (stpA (Below.refl _ _) _) _).drew | exact stpA (stpA (Below.refl _ _) _).drew _ | exact stpA (stpA (Below.refl _ _).drew _) _) | exact HK.out _ K6.out | exact HK.out _ K5.out | exact HK.out _ K4.out | exact HK.out _ (stpA K4.out _) | exact HK.out _ (stpA K4.out _).drew)
    ((first
    | (refine step_append_prs (by rfl) (.tmp 42) (.tmp 43) 28 (by rfl) w3.heap.size 25 j0 (.agg #[.string ⟨#[]⟩, .string ⟨#[]⟩]) Try.underlying28 HI.out HZ0.out HZ1.out HZ2.out rfl _ 0 [] (by rfl) (OA.out _ (by first | exact Below.refl _ _ | exact (Below.refl _ _).drew)) _ A n cp l (by rfl) (RL.out _ (by first | exact Below.refl _ _ | exact (Below.refl _ _).drew | exact stpA (Below.refl _ _) _ | exact (stpA (Below.refl _ _) _).drew | exact stpA (Below.refl _ _).drew _ | exact stpA (stpA (Below.refl _ _) _) _ | exact (stpA (stpA (Below.refl _ _) _) _).drew | exact stpA (stpA (Below.refl _ _) _).drew _ | exact stpA (stpA (Below.refl _ _).drew _) _)) HN.out HNZ.out (by have := HN40.out; omega) (by simp; try omega) ?_; intro v4 w4 hown4 hgr4; rw [Nat.zero_add, List.nil_append] at hown4; obtain ⟨A4, c4, rfl⟩ := own_form2 hown4; have HO4 := Lib.hid hown4; have K4 : Hid (Below w3.heap.size w3 w4) := Lib.hid (Below.grown (by first | exact Below.refl _ _ | exact (Below.refl _ _).drew | exact stpA (Below.refl _ _) _ | exact (stpA (Below.refl _ _) _).drew | exact stpA (Below.refl _ _).drew _ | exact stpA (stpA (Below.refl _ _) _) _ | exact (stpA (stpA (Below.refl _ _) _) _).drew | exact stpA (stpA (Below.refl _ _) _).drew _ | exact stpA (stpA (Below.refl _ _).drew _) _) hgr4 (by simp; try omega) (fun g hg => by cases hg; first | exact Nat.le_refl _ | exact Nat.le_succ _)); clear hown4 hgr4)
    | (refine step_append_prs (by rfl) (.tmp 42) (.tmp 43) 28 (by rfl) w3.heap.size 25 j0 (.agg #[.string ⟨#[]⟩, .string ⟨#[]⟩]) Try.underlying28 HI.out HZ0.out HZ1.out HZ2.out rfl _ 0 [] (by rfl) (OA.out _ (by first | exact stpA (Below.refl _ _) _ | exact (stpA (Below.refl _ _) _).drew)) _ A n cp l (by rfl) (RL.out _ (by first | exact Below.refl _ _ | exact (Below.refl _ _).drew | exact stpA (Below.refl _ _) _ | exact (stpA (Below.refl _ _) _).drew | exact stpA (Below.refl _ _).drew _ | exact stpA (stpA (Below.refl _ _) _) _ | exact (stpA (stpA (Below.refl _ _) _) _).drew | exact stpA (stpA (Below.refl _ _) _).drew _ | exact stpA (stpA (Below.refl _ _).drew _) _)) HN.out HNZ.out (by have := HN40.out; omega) (by simp; try omega) ?_; intro v4 w4 hown4 hgr4; rw [Nat.zero_add, List.nil_append] at hown4; obtain ⟨A4, c4, rfl⟩ := own_form2 hown4; have HO4 := Lib.hid hown4; have K4 : Hid (Below w3.heap.size w3 w4) := Lib.hid (Below.grown (by first | exact Below.refl _ _ | exact (Below.refl _ _).drew | exact stpA (Below.refl _ _) _ | exact (stpA (Below.refl _ _) _).drew | exact stpA (Below.refl _ _).drew _ | exact stpA (stpA (Below.refl _ _) _) _ | exact (stpA (stpA (Below.refl _ _) _) _).drew | exact stpA (stpA (Below.refl _ _) _).drew _ | exact stpA (stpA (Below.refl _ _).drew _) _) hgr4 (by simp; try omega) (fun g hg => by cases hg; first | exact Nat.le_refl _ | exact Nat.le_succ _)); have NB := Lib.hid (nb_grown (PB_.out _ (by first | exact Below.refl _ _ | exact (Below.refl _ _).drew)) hgr4 (fun e => by simp [Value.ownBlock] at e; try omega)); clear hown4 hgr4)
    | (refine step_append_prs (by rfl) (.tmp 42) (.tmp 43) 28 (by rfl) (w3.heap.size + 1) 25 j0 (.agg #[.string ⟨#[]⟩, .string ⟨#[]⟩]) Try.underlying28 HI.out HZ0.out HZ1.out HZ2.out rfl _ 0 [] (by rfl) (OC.out _ (by first | exact Below.refl _ _ | exact (Below.refl _ _).drew)) _ A n cp l (by rfl) (RL.out _ (by first | exact Below.refl _ _ | exact (Below.refl _ _).drew | exact stpA (Below.refl _ _) _ | exact (stpA (Below.refl _ _) _).drew | exact stpA (Below.refl _ _).drew _ | exact stpA (stpA (Below.refl _ _) _) _ | exact (stpA (stpA (Below.refl _ _) _) _).drew | exact stpA (stpA (Below.refl _ _) _).drew _ | exact stpA (stpA (Below.refl _ _).drew _) _)) HN.out HNZ.out (by have := HN40.out; omega) (by simp; try omega) ?_; intro v4 w4 hown4 hgr4; rw [Nat.zero_add, List.nil_append] at hown4; obtain ⟨A4, c4, rfl⟩ := own_form2 hown4; have HO4 := Lib.hid hown4; have K4 : Hid (Below w3.heap.size w3 w4) := Lib.hid (Below.grown (by first | exact Below.refl _ _ | exact (Below.refl _ _).drew | exact stpA (Below.refl _ _) _ | exact (stpA (Below.refl _ _) _).drew | exact stpA (Below.refl _ _).drew _ | exact stpA (stpA (Below.refl _ _) _) _ | exact (stpA (stpA (Below.refl _ _) _) _).drew | exact stpA (stpA (Below.refl _ _) _).drew _ | exact stpA (stpA (Below.refl _ _).drew _) _) hgr4 (by simp; try omega) (fun g hg => by cases hg; first | exact Nat.le_refl _ | exact Nat.le_succ _)); have NC := Lib.hid (nb_grown (PC_.out _ (by first | exact stpA (Below.refl _ _) _ | exact (stpA (Below.refl _ _) _).drew)) hgr4 (fun e => by simp [Value.ownBlock] at e; try omega)); clear hown4 hgr4)
    | (refine step_append_prs (by rfl) (.tmp 44) (.tmp 46) 28 (by rfl) w3.heap.size 25 j0 (.agg #[.string ⟨#[]⟩, .string ⟨#[]⟩]) Try.underlying28 HI.out HZ0.out HZ1.out HZ2.out rfl _ n _ (by rfl) (own_belowK HO4.out (by first | exact stpA (Below.refl _ _) _ | exact (stpA (Below.refl _ _) _).drew) (Nat.le_refl _)) _ _ 1 1 [⟨x.data.toList, y.data.toList⟩] (by rfl) (rdc_one (by first | exact heap_alloc_new w4 _ | exact heap_alloc_new w4 _)) rfl (fun h => by cases h) (by have := HN40.out; omega) (by have := K4.out.size; first | omega | (simp; omega)) ?_; intro v5 w5 hown5 hgr5; obtain ⟨A5, c5, rfl⟩ := own_form2 hown5; have R5 := Lib.hid (row_plus hown5); have K5 : Hid (Below w3.heap.size w3 w5) := Lib.hid (Below.grown (by first | exact K4.out | exact stpA K4.out _ | exact (stpA K4.out _).drew) hgr5 (by have := K4.out.size; first | omega | (simp; omega)) (fun g hg => by have := (HO4.out.lt _ hg).1; omega)); clear hown5 hgr5)
    | (refine step_append_prs (by rfl) (.tmp 44) (.tmp 46) 28 (by rfl) w3.heap.size 25 j0 (.agg #[.string ⟨#[]⟩, .string ⟨#[]⟩]) Try.underlying28 HI.out HZ0.out HZ1.out HZ2.out rfl _ n _ (by rfl) (HO4.out) _ _ 1 1 [⟨x.data.toList, y.data.toList⟩] (by rfl) (rdc_one NB.out) rfl (fun h => by cases h) (by have := HN40.out; omega) (by have := K4.out.size; first | omega | (simp; omega)) ?_; intro v5 w5 hown5 hgr5; obtain ⟨A5, c5, rfl⟩ := own_form2 hown5; have R5 := Lib.hid (row_plus hown5); have K5 : Hid (Below w3.heap.size w3 w5) := Lib.hid (Below.grown (by first | exact K4.out | exact stpA K4.out _ | exact (stpA K4.out _).drew) hgr5 (by have := K4.out.size; first | omega | (simp; omega)) (fun g hg => by have := (HO4.out.lt _ hg).1; omega)); clear hown5 hgr5)
    | (refine step_append_prs (by rfl) (.tmp 44) (.tmp 46) 28 (by rfl) (w3.heap.size + 1) 25 j0 (.agg #[.string ⟨#[]⟩, .string ⟨#[]⟩]) Try.underlying28 HI.out HZ0.out HZ1.out HZ2.out rfl _ n _ (by rfl) (HO4.out) _ _ 1 1 [⟨x.data.toList, y.data.toList⟩] (by rfl) (rdc_one NC.out) rfl (fun h => by cases h) (by have := HN40.out; omega) (by have := lt_heap NC.out; first | omega | (simp; omega)) ?_; intro v5 w5 hown5 hgr5; obtain ⟨A5, c5, rfl⟩ := own_form2 hown5; have R5 := Lib.hid (row_plus hown5); have K5 : Hid (Below w3.heap.size w3 w5) := Lib.hid (Below.grown (by first | exact K4.out | exact stpA K4.out _ | exact (stpA K4.out _).drew) hgr5 (by have := K4.out.size; first | omega | (simp; omega)) (fun g hg => by have := (HO4.out.lt _ hg).1; omega)); clear hown5 hgr5)
    | (go_at_call 25; (with_reducible refine (HF2.out A5 c5 w5 R5.out).mono ?_); rintro e w6 ⟨rfl, hb6⟩; have K6 : Hid (Below w3.heap.size w3 w6) := Lib.hid (stp K5.out hb6); clear hb6)))
  · have HB6 := Lib.hid (HW3.out _ K6.out)
    have HK6 : Hid (∀ W, Below w6.heap.size w6 W → W.cell? ⟨w.heap.size, 0, none⟩ = some (.string x) ∧ W.cell? ⟨w.heap.size, 1, none⟩ = some (.string y)) := Lib.hid fun W h => HCL.out _ (stp HB6.out h)
    obtain ⟨cx6, cy6⟩ := HCL.out _ HB6.out
    go_wp2_with fail
    go_region_held3 (fun W => W.cell? ⟨w.heap.size, 0, none⟩ = some (.string x) ∧ W.cell? ⟨w.heap.size, 1, none⟩ = some (.string y))
      (first | exact HK6.out _ (Below.refl _ _).drew | exact HK6.out _ (Below.refl _ _) | exact HK6.out _ K7.out | exact HK6.out _ K8.out)
      ((first
      | (go_at_call 32; (with_reducible refine (HS1.out _).mono ?_); rintro e w7 ⟨rfl, hb7⟩; have K7 : Hid (Below w6.heap.size w6 w7) := Lib.hid (stp (Below.refl _ _).drew hb7); clear hb7)
      | (go_at_call 32; (with_reducible refine (HS2.out w7).mono ?_); rintro e w8 ⟨rfl, hb8⟩; have K8 : Hid (Below w6.heap.size w6 w8) := Lib.hid (stp K7.out hb8); clear hb8)))
    have HB8 := Lib.hid (stp HB6.out K8.out)
    go_wp2_with (first
      | (go_at_call 30; (with_reducible refine (HD0.out w8 HB8.out).mono ?_); rintro e w9 ⟨hb9, A9, c9, rfl⟩; have HB9 := Lib.hid (stp HB8.out hb9); clear hb9)
      | (go_at_call 30; (with_reducible refine (HD1.out w9 HB9.out).mono ?_); rintro e w10 ⟨hb10, A10, c10, rfl⟩; have HB10 := Lib.hid (stp HB9.out hb10); clear hb10)
      | fail)
    go_ret
    exact ⟨rfl, HWF.out _ HB10.out⟩
  · have HB6 := Lib.hid (HW3.out _ K6.out)
    have HK6 : Hid (∀ W, Below w6.heap.size w6 W → W.cell? ⟨w.heap.size, 0, none⟩ = some (.string x) ∧ W.cell? ⟨w.heap.size, 1, none⟩ = some (.string y)) := Lib.hid fun W h => HCL.out _ (stp HB6.out h)
    obtain ⟨cx6, cy6⟩ := HCL.out _ HB6.out
    go_wp2_with fail
    go_region_held3 (fun W => W.cell? ⟨w.heap.size, 0, none⟩ = some (.string x) ∧ W.cell? ⟨w.heap.size, 1, none⟩ = some (.string y))
      (first | exact HK6.out _ (Below.refl _ _).drew | exact HK6.out _ (Below.refl _ _) | exact HK6.out _ K7.out | exact HK6.out _ K8.out)
      ((first
      | (go_at_call 32; (with_reducible refine (HS1.out _).mono ?_); rintro e w7 ⟨rfl, hb7⟩; have K7 : Hid (Below w6.heap.size w6 w7) := Lib.hid (stp (Below.refl _ _).drew hb7); clear hb7)
      | (go_at_call 32; (with_reducible refine (HS2.out w7).mono ?_); rintro e w8 ⟨rfl, hb8⟩; have K8 : Hid (Below w6.heap.size w6 w8) := Lib.hid (stp K7.out hb8); clear hb8)))
    have HB8 := Lib.hid (stp HB6.out K8.out)
    go_wp2_with (first
      | (go_at_call 30; (with_reducible refine (HD0.out w8 HB8.out).mono ?_); rintro e w9 ⟨hb9, A9, c9, rfl⟩; have HB9 := Lib.hid (stp HB8.out hb9); clear hb9)
      | (go_at_call 30; (with_reducible refine (HD1.out w9 HB9.out).mono ?_); rintro e w10 ⟨hb10, A10, c10, rfl⟩; have HB10 := Lib.hid (stp HB9.out hb10); clear hb10)
      | fail)
    go_ret
    exact ⟨rfl, HWF.out _ HB10.out⟩
  · have HB6 := Lib.hid (HW3.out _ K6.out)
    have HK6 : Hid (∀ W, Below w6.heap.size w6 W → W.cell? ⟨w.heap.size, 0, none⟩ = some (.string x) ∧ W.cell? ⟨w.heap.size, 1, none⟩ = some (.string y)) := Lib.hid fun W h => HCL.out _ (stp HB6.out h)
    obtain ⟨cx6, cy6⟩ := HCL.out _ HB6.out
    go_wp2_with fail
    go_region_held3 (fun W => W.cell? ⟨w.heap.size, 0, none⟩ = some (.string x) ∧ W.cell? ⟨w.heap.size, 1, none⟩ = some (.string y))
      (first | exact HK6.out _ (Below.refl _ _).drew | exact HK6.out _ (Below.refl _ _) | exact HK6.out _ K7.out | exact HK6.out _ K8.out)
      ((first
      | (go_at_call 32; (with_reducible refine (HS1.out _).mono ?_); rintro e w7 ⟨rfl, hb7⟩; have K7 : Hid (Below w6.heap.size w6 w7) := Lib.hid (stp (Below.refl _ _).drew hb7); clear hb7)
      | (go_at_call 32; (with_reducible refine (HS2.out w7).mono ?_); rintro e w8 ⟨rfl, hb8⟩; have K8 : Hid (Below w6.heap.size w6 w8) := Lib.hid (stp K7.out hb8); clear hb8)))
    have HB8 := Lib.hid (stp HB6.out K8.out)
    go_wp2_with (first
      | (go_at_call 30; (with_reducible refine (HD0.out w8 HB8.out).mono ?_); rintro e w9 ⟨hb9, A9, c9, rfl⟩; have HB9 := Lib.hid (stp HB8.out hb9); clear hb9)
      | (go_at_call 30; (with_reducible refine (HD1.out w9 HB9.out).mono ?_); rintro e w10 ⟨hb10, A10, c10, rfl⟩; have HB10 := Lib.hid (stp HB9.out hb10); clear hb10)
      | fail)
    go_ret
    exact ⟨rfl, HWF.out _ HB10.out⟩
theorem walk (A : Option Addr) (n cp : Nat) (l : List Pr) (pr : Pr) (x y : ByteArray) (w : World) (hr : RdC PrC w w.heap.size A l) (hn : l.length = n) (hc : n ≤ cp) (hm : cp ≤ maxLen) (hz : A = none → cp = 0) (hpx : x.data.toList = pr.name) (hpy : y.data.toList = pr.value) (hX : Mx w) : Calls Try.prog 8 #[.slice A n cp, .agg #[.string x, .string y]] w fun e w' => e = .returned (.bool true) ∧ Below w.heap.size w w' := by
  have hx : n ≤ 9223372036854775807 := by unfold maxLen at hm; omega
  cases hg : greatH l with
  | true => exact fr_great A n cp l x y w hr hn hx hz hX hg
  | false =>
    by_cases hs0 : 1000 < x.size
    · exact fr_ln A n cp l x y w hr hn hx hz hX hg hs0
    by_cases hs : 1000 < y.size
    · exact fr_lv A n cp l x y w hr hn hx hz hX hg hs0 hs
    obtain ⟨K1, N1, e1, hf1⟩ : ∃ K N e, frameH l = (K, N, e) := ⟨_, _, _, rfl⟩
    obtain ⟨K2, N2, e2, hf2⟩ : ∃ K N e, frameH (l ++ [⟨x.data.toList, y.data.toList⟩]) = (K, N, e) := ⟨_, _, _, rfl⟩
    have t3 : ∀ {a a' : Nat} {b b' c c' : Int}, (a, b, c) = (a', b', c') → a = a' ∧ b = b' ∧ c = c' := fun h => ⟨congrArg (fun z => z.1) h, congrArg (fun z => z.2.1) h, congrArg (fun z => z.2.2) h⟩
    have s1 : decide (lowS x = lowS ⟨#[116, 114, 97, 110, 115, 102, 101, 114, 45, 101, 110, 99, 111, 100, 105, 110, 103]⟩) = decide (As.lows x.data.toList = As.lows nCoding) := lowS_dec _ _
    have s2 : decide (lowS x = lowS ⟨#[99, 111, 110, 116, 101, 110, 116, 45, 108, 101, 110, 103, 116, 104]⟩) = decide (As.lows x.data.toList = As.lows nLength) := lowS_dec _ _
    by_cases p1 : As.lows x.data.toList = As.lows nCoding
    · have p2 : As.lows x.data.toList ≠ As.lows nLength := not_two p1
      rw [decide_eq_true p1] at s1
      rw [decide_eq_false p2] at s2
      rcases Nat.eq_zero_or_pos ((findH l nCoding).length + (findH l nLength).length) with h0 | h0
      · obtain ⟨r1, r2, r3⟩ := t3 (hf1.symm.trans (frame_few l h0))
        rcases frame_first0 l ⟨x.data.toList, y.data.toList⟩ h0 p1 with h | h
        · obtain ⟨r4, r5, r6⟩ := t3 (hf2.symm.trans h)
          exact fr_c3ta A n cp l x y w hr hn hx hz hX _ _ rfl rfl K1 K2 (K2 : Int) (by omega) rfl N1 N2 (by rw [hf1, r3]) (by rw [hf2, r6]) s1 s2 hg hs0 hs h0
        · obtain ⟨r4, r5, r6⟩ := t3 (hf2.symm.trans h)
          exact fr_c3tb A n cp l x y w hr hn hx hz hX _ _ rfl rfl K1 K2 (by omega) (by omega) N1 N2 (by rw [hf1, r3]) (by rw [hf2, r6]) s1 s2 hg hs0 hs h0
      · obtain ⟨r4, r5, r6⟩ := t3 (hf2.symm.trans (frame_more l ⟨x.data.toList, y.data.toList⟩ h0 (.inl p1)))
        by_cases h1 : 1 < (findH l nCoding).length + (findH l nLength).length
        · obtain ⟨r1, r2, r3⟩ := t3 (hf1.symm.trans (frame_many l h1))
          exact fr_c2ta A n cp l x y w hr hn hx hz hX _ _ rfl rfl K1 K2 (K1 : Int) (K2 : Int) rfl rfl N1 N2 (by rw [hf1, r3]) (by rw [hf2, r6]) s1 s2 hg hs0 hs h1
        · exact fr_c2tb A n cp l x y w hr hn hx hz hX _ _ rfl rfl K1 K2 (K1 : Int) (K2 : Int) rfl rfl N1 N2 e1 hf1 (by rw [hf2, r6]) s1 s2 hg hs0 hs h1 h0
    · by_cases p2 : As.lows x.data.toList = As.lows nLength
      · rw [decide_eq_false p1] at s1
        rw [decide_eq_true p2] at s2
        rcases Nat.eq_zero_or_pos ((findH l nCoding).length + (findH l nLength).length) with h0 | h0
        · obtain ⟨r1, r2, r3⟩ := t3 (hf1.symm.trans (frame_few l h0))
          rcases frame_first1 l ⟨x.data.toList, y.data.toList⟩ h0 p2 with h | ⟨nn, h⟩
          · obtain ⟨r4, r5, r6⟩ := t3 (hf2.symm.trans h)
            exact fr_c3fa A n cp l x y w hr hn hx hz hX _ _ rfl rfl K1 K2 (K2 : Int) (by omega) rfl N1 N2 (by rw [hf1, r3]) (by rw [hf2, r6]) s1 s2 hg hs0 hs h0
          · obtain ⟨r4, r5, r6⟩ := t3 (hf2.symm.trans h)
            exact fr_c3fb A n cp l x y w hr hn hx hz hX _ _ rfl rfl K1 K2 (by omega) (by omega) N1 N2 (by rw [hf1, r3]) (by rw [hf2, r6]) s1 s2 hg hs0 hs h0
        · obtain ⟨r4, r5, r6⟩ := t3 (hf2.symm.trans (frame_more l ⟨x.data.toList, y.data.toList⟩ h0 (.inr p2)))
          by_cases h1 : 1 < (findH l nCoding).length + (findH l nLength).length
          · obtain ⟨r1, r2, r3⟩ := t3 (hf1.symm.trans (frame_many l h1))
            exact fr_c2fa A n cp l x y w hr hn hx hz hX _ _ rfl rfl K1 K2 (K1 : Int) (K2 : Int) rfl rfl N1 N2 (by rw [hf1, r3]) (by rw [hf2, r6]) s1 s2 hg hs0 hs h1
          · exact fr_c2fb A n cp l x y w hr hn hx hz hX _ _ rfl rfl K1 K2 (K1 : Int) (K2 : Int) rfl rfl N1 N2 e1 hf1 (by rw [hf2, r6]) s1 s2 hg hs0 hs h1 h0
      · rw [decide_eq_false p1] at s1
        rw [decide_eq_false p2] at s2
        obtain ⟨r1, r2, r3⟩ := t3 (hf1.symm.trans ((frame_other l ⟨x.data.toList, y.data.toList⟩ p1 p2).symm.trans hf2))
        by_cases h1 : 1 < (findH l nCoding).length + (findH l nLength).length
        · obtain ⟨_, _, r6⟩ := t3 (hf1.symm.trans (frame_many l h1))
          exact fr_c1a A n cp l x y w hr hn hx hz hX _ _ rfl rfl K1 K2 (K1 : Int) rfl (by rw [r1]) N1 (by rw [hf1, r6]) (by rw [hf2, ← r2, ← r3, r6]) s1 s2 hg hs0 hs h1
        · exact fr_c1b A n cp l x y w hr hn hx hz hX _ _ rfl rfl K1 K2 (K1 : Int) rfl (by rw [r1]) N1 e1 hf1 (by rw [hf2, ← r2, ← r3]) s1 s2 hg hs0 hs h1

theorem mx {W : World} (h : W.ShapedOpen Try.prog) : Mx W := Go.Proofs.cell_of_shapedOpen_int (zero := #[.int .i64 0]) (t := 3) h (of_decide_eq_true (by kernel_rfl)) (by kernel_rfl) rfl (by kernel_rfl) (by kernel_rfl) Try.underlying3
set_option maxRecDepth 100000 in
theorem lifted (os : Os) (started : os.Started) (H : Type) (enc : TypeId × Value → H) :
    ReturnsInHanded {} Try.checked os 8 .any (Rows.headFrameSpec.pre6 enc Try.prog Try.f8 Rows.headFrameRow.domain false) (Rows.headFrameSpec.post enc Try.prog Try.f8 false true false false) := by
  refine returnsInHanded_of_change_shaped (C := Try.checked) own started (by kernel_rfl) Try.func8
    (ChangeSpec.witness6 (enc := enc) (C := Try.checked) false ⟨#[], #[.slice none 0 0, .agg #[.string ByteArray.empty, .string ByteArray.empty]], []⟩ 8 (by kernel_rfl) (by kernel_rfl) (by kernel_rfl) (by kernel_rfl)) ?_
  intro W base args ds gs before hval0 hW hcnd _ hsh _
  have hval : ∀ (j : Nat) t v, Try.f8.params[j]? = some t → args[j]? = some v → Value.okWide Try.prog W .any base t v := hval0
  have hW' := hW
  obtain ⟨p, q, hA0, hV, rfl, hfz, hnd⟩ := hW
  have hA : DataW.TrodAll enc Try.prog W 0 (fun _ => true) true Try.f8.params.toList args.toList ds p := hA0
  rw [Try.params8] at hA hval
  obtain ⟨v0, vs0, d0, ds0, p0, q0, hargs, rfl, rfl, h0, r0⟩ := trodAll_cons hA
  obtain ⟨v1, vs1, d1, ds1, p1, q1, rfl, rfl, rfl, h1, r1⟩ := trodAll_cons r0
  obtain ⟨rfl, rfl, rfl⟩ := trodAll_nil r1
  obtain rfl : args = #[v0, v1] := by cases args; simp_all
  obtain ⟨rfl, rfl⟩ := trodVars_none hV
  obtain ⟨a0, len0, cap0, rfl⟩ := okWide_slice Try.underlying28 (hval 0 28 v0 rfl rfl)
  have k0 := h0
  have lt0 : ∀ x ∈ p0, x.block < W.heap.size := by obtain ⟨m, hm⟩ := k0; exact DataW.trod_lt m _ _ _ hm
  obtain ⟨l0, w0, n0, c0, m0, z0⟩ : ∃ l : List Pr, RdC PrC W W.heap.size a0 l ∧ l.length = len0 ∧ len0 ≤ cap0 ∧ cap0 ≤ maxLen ∧ (a0 = none → cap0 = 0) := by
    obtain ⟨fuel, hf⟩ := h0
    obtain ⟨l, A, c, e1, e2, e3, e4, e5⟩ := opens_pairs14 _ _ _ _ _ _ hf
    simp [Value.cells] at e1
    obtain ⟨rfl, rfl, rfl⟩ := e1
    exact ⟨l, e5, rfl, e2, e3, e4⟩
  obtain ⟨cs1, rfl, _⟩ := okWide_struct Try.underlying25 (hval 1 25 v1 rfl rfl)
  have k1 := h1
  have lt1 : ∀ x ∈ p1, x.block < W.heap.size := by obtain ⟨m, hm⟩ := k1; exact DataW.trod_lt m _ _ _ hm
  obtain ⟨f1, hf1⟩ := h1
  obtain ⟨pr1, x1, y1, e1, w1, z1⟩ := opens_pair14 _ _ _ _ _ _ hf1
  obtain rfl : cs1 = #[.string x1, .string y1] := by cases cs1; simpa [Value.cells] using e1
  clear hA0 hval0
  refine (walk a0 len0 cap0 l0 pr1 x1 y1 W w0 n0 c0 m0 z0 w1 z1 (mx hsh)).mono fun e W' ⟨he, bel⟩ => ?_
  subst he
  exact ⟨_, rfl, _, _, _, [], _, [], hW', trodAll_mk1 (shut_bool Try.underlying4 _), (trodAll_cons_mk (Below.trod laidOut (by kernel_rfl) (of_decide_eq_true (by kernel_rfl)) k0 bel lt0) (trodAll_cons_mk (Below.trod laidOut (by kernel_rfl) (of_decide_eq_true (by kernel_rfl)) k1 bel lt1) trodAll_mk0)), rfl, bel.frame _, fun h => by cases h⟩

theorem over : Rows.headFrameRow.holds Try.pinned (OpenSpec.ofChange Rows.headFrameSpec) :=
  OpenClaim.holds_of_wide 8 Try.f8 rfl rfl rfl rfl rfl rfl rfl ⟨rfl, rfl, rfl, rfl, rfl⟩ rfl rfl rfl rfl rfl (by kernel_rfl) Try.func8 (by kernel_rfl)
    (of_decide_eq_true (by kernel_rfl)) (by unfold Func.isWrapper; first | (rw [if_pos (by decide +kernel)]; kernel_rfl) | (rw [if_neg (by decide +kernel)]; exact ⟨rfl, rfl⟩))
    (fun os started H enc _ => lifted os started H enc)

theorem proved : Rows.HeadFrameSaid := over
end Go.Proofs.Ytfdhogaknlabkaa.headFrame
