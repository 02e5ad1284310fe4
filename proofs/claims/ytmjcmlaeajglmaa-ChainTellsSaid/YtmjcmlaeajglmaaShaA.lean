/-
  Contracts of sha.First, sha.kinds, sha.round.
-/
import Derived.Test.YtmjcmlaeajglmaaWordRa
import Derived.Test.YtmjcmlaeajglmaaShaN
import Derived.Outline
import Derived.Laws.EntriesVeiled
import Derived.Deep.RegionHeld3
import Derived.Deep.DrawnRows
namespace Go.Proofs.Ytmjcmlaeajglmaa
open Go.RowKit
namespace Hx
open Wd Sh
attribute [local go_sem ↓] Go.wp_at_zero Go.wp_at_succ

/-- Five words by value; a round's kind. -/
abbrev five (s : S5) : Array Value := #[.int .u32 s.a.toNat, .int .u32 s.b.toNat, .int .u32 s.c.toNat, .int .u32 s.d.toNat, .int .u32 s.e.toNat]
abbrev kind (T : Int) (K : Nat) (c : W32) : Array Value := #[.int .i64 T, .func (.func K) #[] #[], .int .u32 c.toNat]
def kinds4 : Array Value := #[.int .i64 20, .func (.func 65) #[] #[], .int .u32 1518500249, .int .i64 40, .func (.func 59) #[] #[], .int .u32 1859775393,
  .int .i64 60, .func (.func 66) #[] #[], .int .u32 2400959708, .int .i64 80, .func (.func 59) #[] #[], .int .u32 3395469782]
theorem five_agg (s : S5) : Value.agg (five s) = aggOf encW s.toL := rfl
theorem five_one (s : S5) : (five s).all (·.oneCell') = true := by simp [five, Value.oneCell']
theorem size37 : (Try.prog.info? 36).map (·.size) = some 5 := by kernel_rfl

set_option maxRecDepth 100000 in
theorem first_any (w : World) : Calls Try.prog 16 #[] w fun e w' => e = .returned (.agg (five first)) ∧ Below w.heap.size w w' := by
  go_enter Try.func16, Try.ntmps16
  go_wp2
  exact bodyPost_ret (v := .agg (five first)) (results_cell_row rfl _ _ _ _ _ _ _ rfl (heap_alloc_new w _) Try.underlying36 rfl size37) rfl ⟨rfl, stpA (Below.refl _ _) _⟩
set_option maxRecDepth 100000 in
theorem kinds_any (w : World) : Calls Try.prog 55 #[] w fun e w' => e = .returned (.agg kinds4) ∧ Below w.heap.size w w' := by
  go_enter Try.func55, Try.ntmps55
  go_wp2
  exact bodyPost_ret (v := .agg kinds4) (results_cell_row rfl _ _ _ _ _ _ _ rfl (heap_alloc_new w _) Try.underlying88 rfl (by kernel_rfl)) rfl ⟨rfl, stpA (Below.refl _ _) _⟩


theorem sum5_any (a b c d e : W32) (w : World) (v : W32) (h : a + b + c + d + e = v) :
    Calls Try.prog 48 #[.slice (some ⟨w.heap.size, 0, none⟩) 5 5] (w.alloc (.cells #[.int .u32 a.toNat, .int .u32 b.toNat, .int .u32 c.toNat, .int .u32 d.toNat, .int .u32 e.toNat] 35)) fun e' w' => e' = .returned (.int .u32 (v.toNat : Nat)) ∧ (w.alloc (.cells #[.int .u32 a.toNat, .int .u32 b.toNat, .int .u32 c.toNat, .int .u32 d.toNat, .int .u32 e.toNat] 35)) = w' := by
  subst h
  have := sum_any (some ⟨w.heap.size, 0, none⟩) 5 5 [a, b, c, d, e] (w.alloc (.cells #[.int .u32 a.toNat, .int .u32 b.toNat, .int .u32 c.toNat, .int .u32 d.toNat, .int .u32 e.toNat] 35)) (RdG.newS w 35 [a, b, c, d, e]) rfl (by decide)
  rw [sm5] at this
  exact this

set_option maxHeartbeats 2000000 in
set_option maxRecDepth 100000 in
theorem round_chs (s : S5) (T : Int) (c x z : W32) (w : World) (hz : trn s.a 5 + chs s.b s.c s.d + s.e + c + x = z) :
    Calls Try.prog 56 #[.agg (five s), .agg (kind T 65 c), .int .u32 x.toNat] w fun e w' => e = .returned (.agg (five ⟨z, s.a, trn s.b 30, s.c, s.d⟩)) ∧ Below w.heap.size w w' := by
  obtain ⟨a, b, cc, d, e⟩ := s
  have HZ := Lib.hid hz
  clear hz
  go_enter Try.func56, Try.ntmps56
  go_wp2
  go_quiet (fail)
  obtain ⟨W1, hW1, hs, h0, h1, h5, hb1⟩ := opn3 w (Obj.cells (five { a := a, b := b, c := cc, d := d, e := e }) 36) (Obj.cells (kind T 65 c) 87) (Obj.cells zero5 36) nq
  have hW1' := hW1
  unfold zero5 at hW1'
  rw [hW1']
  have c1 : W1.cell? ⟨w.heap.size + 1, 1, none⟩ = some (.func (.func 65) #[] #[]) := cell_of_row W1 _ 1 _ _ _ h1
  have c2 : W1.cell? ⟨w.heap.size + 1, 2, none⟩ = some (.int .u32 c.toNat) := cell_of_row W1 _ 2 _ _ _ h1
  have HS := Lib.hid hs
  have H5 := Lib.hid h5
  have n1 : w.heap.size + 1 < W1.heap.size := by rw [hs]; omega
  have N1 := Lib.hid n1
  clear hW1 hW1' hs h0 h1 h5 n1
  go_wp2
  go_region_held3 (fun w' => w'.cell? ⟨w.heap.size + 1, 1, none⟩ = some (.func (.func 65) #[] #[]) ∧ w'.cell? ⟨w.heap.size + 1, 2, none⟩ = some (.int .u32 c.toNat)) (first | go_keep | (refine ⟨(hb2.cell N1.out).trans ?_, (hb2.cell N1.out).trans ?_⟩ <;> assumption))
    (first
      | (go_at_call 58; (with_reducible refine (turn_any _ _ _).mono ?_); rintro e w' ⟨rfl, rfl⟩)
      | (go_at_call 65; (with_reducible refine (chs_v _ _ _ _ _ rfl).mono ?_); rintro e w2 ⟨rfl, hb2⟩)
      | (go_at_call 48; (with_reducible refine (sum5_any _ _ _ _ _ _ z HZ.out).mono ?_); rintro e w' ⟨rfl, rfl⟩))
  have hb2' : Below W1.heap.size W1 w2 := below_of_drew hb2
  have H3 : Hid (∀ o, (w2.alloc o).heap[w.heap.size + 1 + 1]? = some (Obj.cells zero5 36 (0, 0))) := fun o => heap_kept H5.out (stpA hb2' o)
  have hb3 : ∀ o, Below w.heap.size w (w2.alloc o) := fun o => stpA (stp hb1 hb2') o
  clear hb2
  go_wp2_with (first
      | (go_at_call 58; (with_reducible refine (turn_any _ _ _).mono ?_); rintro e w' ⟨rfl, rfl⟩)
      | (refine wpList_store_row rfl _ _ _ rfl (w.heap.size + 1 + 1) (five ⟨z, a, trn b 30, cc, d⟩) rfl rfl 36 zero5 (H3.out _) size37 rfl (five_one _) ?_))
  exact bodyPost_ret (v := .agg (five ⟨z, a, trn b 30, cc, d⟩)) (results_cell_row rfl _ _ _ _ _ _ _ rfl (setRow_heap _ _ _ _ _ _ (H3.out _)) Try.underlying36 rfl size37) rfl ⟨rfl, below_setRow0 (hb3 _) (by omega) _⟩
set_option maxHeartbeats 2000000 in
set_option maxRecDepth 100000 in
theorem round_odd (s : S5) (T : Int) (c x z : W32) (w : World) (hz : trn s.a 5 + odd s.b s.c s.d + s.e + c + x = z) :
    Calls Try.prog 56 #[.agg (five s), .agg (kind T 59 c), .int .u32 x.toNat] w fun e w' => e = .returned (.agg (five ⟨z, s.a, trn s.b 30, s.c, s.d⟩)) ∧ Below w.heap.size w w' := by
  obtain ⟨a, b, cc, d, e⟩ := s
  have HZ := Lib.hid hz
  clear hz
  go_enter Try.func56, Try.ntmps56
  go_wp2
  go_quiet (fail)
  obtain ⟨W1, hW1, hs, h0, h1, h5, hb1⟩ := opn3 w (Obj.cells (five { a := a, b := b, c := cc, d := d, e := e }) 36) (Obj.cells (kind T 59 c) 87) (Obj.cells zero5 36) nq
  have hW1' := hW1
  unfold zero5 at hW1'
  rw [hW1']
  have c1 : W1.cell? ⟨w.heap.size + 1, 1, none⟩ = some (.func (.func 59) #[] #[]) := cell_of_row W1 _ 1 _ _ _ h1
  have c2 : W1.cell? ⟨w.heap.size + 1, 2, none⟩ = some (.int .u32 c.toNat) := cell_of_row W1 _ 2 _ _ _ h1
  have HS := Lib.hid hs
  have H5 := Lib.hid h5
  have n1 : w.heap.size + 1 < W1.heap.size := by rw [hs]; omega
  have N1 := Lib.hid n1
  clear hW1 hW1' hs h0 h1 h5 n1
  go_wp2
  go_region_held3 (fun w' => w'.cell? ⟨w.heap.size + 1, 1, none⟩ = some (.func (.func 59) #[] #[]) ∧ w'.cell? ⟨w.heap.size + 1, 2, none⟩ = some (.int .u32 c.toNat)) (first | go_keep | (refine ⟨(hb2.cell N1.out).trans ?_, (hb2.cell N1.out).trans ?_⟩ <;> assumption))
    (first
      | (go_at_call 58; (with_reducible refine (turn_any _ _ _).mono ?_); rintro e w' ⟨rfl, rfl⟩)
      | (go_at_call 59; (with_reducible refine (odd_v _ _ _ _ _ rfl).mono ?_); rintro e w2 ⟨rfl, hb2⟩)
      | (go_at_call 48; (with_reducible refine (sum5_any _ _ _ _ _ _ z HZ.out).mono ?_); rintro e w' ⟨rfl, rfl⟩))
  have hb2' : Below W1.heap.size W1 w2 := below_of_drew hb2
  have H3 : Hid (∀ o, (w2.alloc o).heap[w.heap.size + 1 + 1]? = some (Obj.cells zero5 36 (0, 0))) := fun o => heap_kept H5.out (stpA hb2' o)
  have hb3 : ∀ o, Below w.heap.size w (w2.alloc o) := fun o => stpA (stp hb1 hb2') o
  clear hb2
  go_wp2_with (first
      | (go_at_call 58; (with_reducible refine (turn_any _ _ _).mono ?_); rintro e w' ⟨rfl, rfl⟩)
      | (refine wpList_store_row rfl _ _ _ rfl (w.heap.size + 1 + 1) (five ⟨z, a, trn b 30, cc, d⟩) rfl rfl 36 zero5 (H3.out _) size37 rfl (five_one _) ?_))
  exact bodyPost_ret (v := .agg (five ⟨z, a, trn b 30, cc, d⟩)) (results_cell_row rfl _ _ _ _ _ _ _ rfl (setRow_heap _ _ _ _ _ _ (H3.out _)) Try.underlying36 rfl size37) rfl ⟨rfl, below_setRow0 (hb3 _) (by omega) _⟩
set_option maxHeartbeats 2000000 in
set_option maxRecDepth 100000 in
theorem round_mst (s : S5) (T : Int) (c x z : W32) (w : World) (hz : trn s.a 5 + mst s.b s.c s.d + s.e + c + x = z) :
    Calls Try.prog 56 #[.agg (five s), .agg (kind T 66 c), .int .u32 x.toNat] w fun e w' => e = .returned (.agg (five ⟨z, s.a, trn s.b 30, s.c, s.d⟩)) ∧ Below w.heap.size w w' := by
  obtain ⟨a, b, cc, d, e⟩ := s
  have HZ := Lib.hid hz
  clear hz
  go_enter Try.func56, Try.ntmps56
  go_wp2
  go_quiet (fail)
  obtain ⟨W1, hW1, hs, h0, h1, h5, hb1⟩ := opn3 w (Obj.cells (five { a := a, b := b, c := cc, d := d, e := e }) 36) (Obj.cells (kind T 66 c) 87) (Obj.cells zero5 36) nq
  have hW1' := hW1
  unfold zero5 at hW1'
  rw [hW1']
  have c1 : W1.cell? ⟨w.heap.size + 1, 1, none⟩ = some (.func (.func 66) #[] #[]) := cell_of_row W1 _ 1 _ _ _ h1
  have c2 : W1.cell? ⟨w.heap.size + 1, 2, none⟩ = some (.int .u32 c.toNat) := cell_of_row W1 _ 2 _ _ _ h1
  have HS := Lib.hid hs
  have H5 := Lib.hid h5
  have n1 : w.heap.size + 1 < W1.heap.size := by rw [hs]; omega
  have N1 := Lib.hid n1
  clear hW1 hW1' hs h0 h1 h5 n1
  go_wp2
  go_region_held3 (fun w' => w'.cell? ⟨w.heap.size + 1, 1, none⟩ = some (.func (.func 66) #[] #[]) ∧ w'.cell? ⟨w.heap.size + 1, 2, none⟩ = some (.int .u32 c.toNat)) (first | go_keep | (refine ⟨(hb2.cell N1.out).trans ?_, (hb2.cell N1.out).trans ?_⟩ <;> assumption))
    (first
      | (go_at_call 58; (with_reducible refine (turn_any _ _ _).mono ?_); rintro e w' ⟨rfl, rfl⟩)
      | (go_at_call 66; (with_reducible refine (mst_v _ _ _ _ _ rfl).mono ?_); rintro e w2 ⟨rfl, hb2⟩)
      | (go_at_call 48; (with_reducible refine (sum5_any _ _ _ _ _ _ z HZ.out).mono ?_); rintro e w' ⟨rfl, rfl⟩))
  have hb2' : Below W1.heap.size W1 w2 := below_of_drew hb2
  have H3 : Hid (∀ o, (w2.alloc o).heap[w.heap.size + 1 + 1]? = some (Obj.cells zero5 36 (0, 0))) := fun o => heap_kept H5.out (stpA hb2' o)
  have hb3 : ∀ o, Below w.heap.size w (w2.alloc o) := fun o => stpA (stp hb1 hb2') o
  clear hb2
  go_wp2_with (first
      | (go_at_call 58; (with_reducible refine (turn_any _ _ _).mono ?_); rintro e w' ⟨rfl, rfl⟩)
      | (refine wpList_store_row rfl _ _ _ rfl (w.heap.size + 1 + 1) (five ⟨z, a, trn b 30, cc, d⟩) rfl rfl 36 zero5 (H3.out _) size37 rfl (five_one _) ?_))
  exact bodyPost_ret (v := .agg (five ⟨z, a, trn b 30, cc, d⟩)) (results_cell_row rfl _ _ _ _ _ _ _ rfl (setRow_heap _ _ _ _ _ _ (H3.out _)) Try.underlying36 rfl size37) rfl ⟨rfl, below_setRow0 (hb3 _) (by omega) _⟩

end Hx
end Go.Proofs.Ytmjcmlaeajglmaa
