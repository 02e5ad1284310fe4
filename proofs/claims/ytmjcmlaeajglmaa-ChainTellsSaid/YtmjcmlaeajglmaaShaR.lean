/-
  Contracts of the document's own answers (package tidewaiterref03): put, constant, round.
-/
import Derived.Test.YtmjcmlaeajglmaaShaK
import Derived.Test.YtmjcmlaeajglmaaWordSa
namespace Go.Proofs.Ytmjcmlaeajglmaa
open Go.RowKit
namespace Hx
open Wd Sh
attribute [local go_sem ↓] Go.wp_at_zero Go.wp_at_succ

set_option maxRecDepth 100000 in
theorem rfirst_any (w : World) : Calls Try.prog 49 #[] w fun e w' => e = .returned (.agg (five first)) ∧ Below w.heap.size w w' := by
  go_enter Try.func49, Try.ntmps49
  go_wp2
  exact bodyPost_ret (v := .agg (five first)) (results_cell_row rfl _ _ _ _ _ _ _ rfl (heap_alloc_new w _) Try.underlying36 rfl size37) rfl ⟨rfl, stpA (Below.refl _ _) _⟩
set_option maxRecDepth 100000 in
theorem rconst_any (t : Nat) (c : W32) (w : World) (ht : t < 80) (hc : kk t = c) :
    Calls Try.prog 73 #[.int .i64 t] w fun e w' => e = .returned (.int .u32 c.toNat) ∧ w = w' := by
  subst hc
  have key : (t < 20 ∧ kk t = 0x5a827999#32) ∨ (20 ≤ t ∧ t < 40 ∧ kk t = 0x6ed9eba1#32) ∨ (40 ≤ t ∧ t < 60 ∧ kk t = 0x8f1bbcdc#32) ∨ (60 ≤ t ∧ kk t = 0xca62c1d6#32) := by
    unfold kk
    by_cases h1 : t < 20
    · simp [h1]
    · by_cases h2 : t < 40
      · simp [h1, h2]; omega
      · by_cases h3 : t < 60
        · simp [h1, h2, h3]; omega
        · simp [h1, h2, h3]; omega
  rcases key with ⟨h1, e⟩ | ⟨h1, h2, e⟩ | ⟨h1, h2, e⟩ | ⟨h1, e⟩ <;> rw [e]
  · have d1 : decide ((t : Int) < 20) = true := by simp; omega
    clear e
    go_enter Try.func73, Try.ntmps73
    go_wp2
    go_ret
    exact ⟨rfl, rfl⟩
  · have d1 : decide ((t : Int) < 20) = false := by simp; omega
    have d2 : decide ((t : Int) < 40) = true := by simp; omega
    clear e
    go_enter Try.func73, Try.ntmps73
    go_wp2
    go_ret
    exact ⟨rfl, rfl⟩
  · have d1 : decide ((t : Int) < 20) = false := by simp; omega
    have d2 : decide ((t : Int) < 40) = false := by simp; omega
    have d3 : decide ((t : Int) < 60) = true := by simp; omega
    clear e
    go_enter Try.func73, Try.ntmps73
    go_wp2
    go_ret
    exact ⟨rfl, rfl⟩
  · have d1 : decide ((t : Int) < 20) = false := by simp; omega
    have d2 : decide ((t : Int) < 40) = false := by simp; omega
    have d3 : decide ((t : Int) < 60) = false := by simp; omega
    clear e
    go_enter Try.func73, Try.ntmps73
    go_wp2
    go_ret
    exact ⟨rfl, rfl⟩

theorem band_u (x y v : W32) (h : x &&& y = v) : bits BinOp.and IntKind.u32 ((x.toNat : Nat) : Int) ((y.toNat : Nat) : Int) = ((v.toNat : Nat) : Int) := by
  subst h
  rw [u32_and_nat _ _ x.isLt y.isLt]
  simp
theorem bor_u (x y v : W32) (h : x ||| y = v) : bits BinOp.or IntKind.u32 ((x.toNat : Nat) : Int) ((y.toNat : Nat) : Int) = ((v.toNat : Nat) : Int) := by
  subst h
  rw [u32_or_nat _ _ x.isLt y.isLt]
  simp
theorem bxor_u (x y v : W32) (h : x ^^^ y = v) : bits BinOp.xor IntKind.u32 ((x.toNat : Nat) : Int) ((y.toNat : Nat) : Int) = ((v.toNat : Nat) : Int) := by
  subst h
  rw [u32_xor_nat _ _ x.isLt y.isLt]
  simp

set_option maxHeartbeats 1000000 in
set_option maxRecDepth 100000 in
theorem rput_any (t : Nat) (x y z v : W32) (w : World) (ht : t < 80) (hv : ff t x y z = v) :
    Calls Try.prog 72 #[.int .i64 t, .int .u32 x.toNat, .int .u32 y.toNat, .int .u32 z.toNat] w fun e w' => e = .returned (.int .u32 v.toNat) ∧ w = w' := by
  have key : (t < 20 ∧ chs x y z = v) ∨ (20 ≤ t ∧ (t < 40 ∨ 60 ≤ t) ∧ odd x y z = v) ∨ (40 ≤ t ∧ t < 60 ∧ mst x y z = v) := by
    unfold ff at hv
    by_cases h1 : t < 20
    · simp [h1] at hv; exact .inl ⟨h1, hv⟩
    · by_cases h2 : t < 40
      · simp [h1, h2] at hv; exact .inr (.inl ⟨by omega, .inl h2, hv⟩)
      · by_cases h3 : t < 60
        · simp [h1, h2, h3] at hv; exact .inr (.inr ⟨by omega, h3, hv⟩)
        · simp [h1, h2, h3] at hv; exact .inr (.inl ⟨by omega, .inr (by omega), hv⟩)
  clear hv
  rcases key with ⟨h1, e⟩ | ⟨h1, h2, e⟩ | ⟨h1, h2, e⟩
  · have d1 : decide ((t : Int) < 20) = true := by simp; omega
    obtain ⟨n, hn⟩ : ∃ n, 4294967295#32 - x = n := ⟨_, rfl⟩
    have hsub : IntKind.u32.wrap (4294967295 - ((x.toNat : Nat) : Int)) = ((n.toNat : Nat) : Int) := by
      have hx := x.isLt
      rw [← hn, BitVec.toNat_sub, show (4294967295#32).toNat = 4294967295 from rfl]
      simp [IntKind.wrap, IntKind.bits, IntKind.signed]
      omega
    obtain ⟨p, hp⟩ : ∃ p, x &&& y = p := ⟨_, rfl⟩
    obtain ⟨q, hq⟩ : ∃ q, n &&& z = q := ⟨_, rfl⟩
    have b1 := band_u x y p hp
    have b2 := band_u n z q hq
    have b3 := bor_u p q v (by rw [← e, ← chs_minus, hn, hp, hq])
    clear e hn hp hq
    go_enter Try.func72, Try.ntmps72
    go_wp2
    go_ret
    exact ⟨rfl, rfl⟩
  · have d1 : decide ((t : Int) < 20) = false := by simp; omega
    obtain ⟨p, hp⟩ : ∃ p, x ^^^ y = p := ⟨_, rfl⟩
    have b1 := bxor_u x y p hp
    have b2 := bxor_u p z v (by rw [← hp]; exact e)
    clear e hp
    rcases h2 with h2 | h2
    · have d2 : decide ((40 : Int) ≤ (t : Int)) = false := by simp; omega
      go_enter Try.func72, Try.ntmps72
      go_wp2
      go_ret
      exact ⟨rfl, rfl⟩
    · have d2 : decide ((40 : Int) ≤ (t : Int)) = true := by simp; omega
      have d3 : decide ((t : Int) < 60) = false := by simp; omega
      go_enter Try.func72, Try.ntmps72
      go_wp2
      go_ret
      exact ⟨rfl, rfl⟩
  · have d1 : decide ((t : Int) < 20) = false := by simp; omega
    have d2 : decide ((40 : Int) ≤ (t : Int)) = true := by simp; omega
    have d3 : decide ((t : Int) < 60) = true := by simp; omega
    obtain ⟨p, hp⟩ : ∃ p, x &&& y = p := ⟨_, rfl⟩
    obtain ⟨q, hq⟩ : ∃ q, x &&& z = q := ⟨_, rfl⟩
    obtain ⟨r, hr⟩ : ∃ r, y &&& z = r := ⟨_, rfl⟩
    obtain ⟨s, hs⟩ : ∃ s, p ||| q = s := ⟨_, rfl⟩
    have b1 := band_u x y p hp
    have b2 := band_u x z q hq
    have b3 := band_u y z r hr
    have b4 := bor_u p q s hs
    have b5 := bor_u s r v (by rw [← e, mst, hp, hq, hr, hs])
    clear e hp hq hr hs
    go_enter Try.func72, Try.ntmps72
    go_wp2
    go_ret
    exact ⟨rfl, rfl⟩
theorem five_set {W : World} {g : Nat} {t : TypeId} {o0 o1 o2 o3 o4 : Value} (h : W.heap[g]? = some (.cells #[o0, o1, o2, o3, o4] t (0, 0))) (v : S5) :
    (((((W.setCell ⟨g, 0, none⟩ (.int .u32 v.a.toNat)).setCell ⟨g, 1, none⟩ (.int .u32 v.b.toNat)).setCell ⟨g, 2, none⟩ (.int .u32 v.c.toNat)).setCell ⟨g, 3, none⟩ (.int .u32 v.d.toNat)).setCell ⟨g, 4, none⟩ (.int .u32 v.e.toNat)).drew.heap[g]? = some (.cells (five v) t (0, 0)) ∧ (∀ {B : Nat} {w0 : World}, Below B w0 W → B ≤ g → Below B w0 (((((W.setCell ⟨g, 0, none⟩ (.int .u32 v.a.toNat)).setCell ⟨g, 1, none⟩ (.int .u32 v.b.toNat)).setCell ⟨g, 2, none⟩ (.int .u32 v.c.toNat)).setCell ⟨g, 3, none⟩ (.int .u32 v.d.toNat)).setCell ⟨g, 4, none⟩ (.int .u32 v.e.toNat)).drew) := by
  refine ⟨?_, fun hb hg => (((((hb.setCell (by simpa using hg) _).setCell (by simpa using hg) _).setCell (by simpa using hg) _).setCell (by simpa using hg) _).setCell (by simpa using hg) _).drew⟩
  have h0 := heap_setCell_same W g 0 _ t (.int .u32 v.a.toNat) h
  have h1 := heap_setCell_same _ g 1 _ t (.int .u32 v.b.toNat) h0
  have h2 := heap_setCell_same _ g 2 _ t (.int .u32 v.c.toNat) h1
  have h3 := heap_setCell_same _ g 3 _ t (.int .u32 v.d.toNat) h2
  have h4 := heap_setCell_same _ g 4 _ t (.int .u32 v.e.toNat) h3
  rw [heap_drew, h4]
  rfl
theorem rsum5_any (a b c d e : W32) (w : World) (v : W32) (h : a + b + c + d + e = v) :
    Calls Try.prog 62 #[.slice (some ⟨w.heap.size, 0, none⟩) 5 5] (w.alloc (.cells #[.int .u32 a.toNat, .int .u32 b.toNat, .int .u32 c.toNat, .int .u32 d.toNat, .int .u32 e.toNat] 35)).drew fun e' w' => e' = .returned (.int .u32 (v.toNat : Nat)) ∧ (w.alloc (.cells #[.int .u32 a.toNat, .int .u32 b.toNat, .int .u32 c.toNat, .int .u32 d.toNat, .int .u32 e.toNat] 35)).drew = w' := by
  subst h
  have := rsum_any (some ⟨w.heap.size, 0, none⟩) 5 5 [a, b, c, d, e] (w.alloc (.cells #[.int .u32 a.toNat, .int .u32 b.toNat, .int .u32 c.toNat, .int .u32 d.toNat, .int .u32 e.toNat] 35)).drew (show RdW (w.alloc (.cells ([a, b, c, d, e].map encW).toArray 35)).drew (w.alloc (.cells ([a, b, c, d, e].map encW).toArray 35)).drew.heap.size (some ⟨w.heap.size, 0, none⟩) [a, b, c, d, e] from RdG.newS w 35 [a, b, c, d, e]) rfl (by decide)
  rw [sm5] at this
  exact this

set_option maxHeartbeats 4000000 in
set_option maxRecDepth 100000 in
theorem rround_any (s : S5) (t : Nat) (x z : W32) (w : World) (ht : t < 80) (hz : trn s.a 5 + ff t s.b s.c s.d + s.e + kk t + x = z) :
    Calls Try.prog 61 #[.agg (five s), .int .i64 t, .int .u32 x.toNat] w fun e w' => e = .returned (.agg (five ⟨z, s.a, trn s.b 30, s.c, s.d⟩)) ∧ Below w.heap.size w w' := by
  obtain ⟨a, b, cc, d, e⟩ := s
  obtain ⟨f, hf⟩ : ∃ f, ff t b cc d = f := ⟨_, rfl⟩
  obtain ⟨k, hk⟩ : ∃ k, kk t = k := ⟨_, rfl⟩
  have HZ : Hid (trn a 5 + f + e + k + x = z) := by rw [← hf, ← hk]; exact hz
  have HF := Lib.hid hf
  have HK := Lib.hid hk
  clear hz hf hk
  go_enter Try.func61, Try.ntmps61
  go_wp2_with fail
  obtain ⟨W1, hW1, hs, h0, h1, hb1⟩ := opn2 w (Obj.cells (five { a := a, b := b, c := cc, d := d, e := e }) 36) (Obj.cells zero5 36)
  have hW1' := hW1
  unfold zero5 at hW1'
  rw [hW1']
  have c0 : W1.cell? ⟨w.heap.size, 0, none⟩ = some (.int .u32 a.toNat) := cell_of_row W1 _ 0 _ _ _ h0
  have c1 : W1.cell? ⟨w.heap.size, 1, none⟩ = some (.int .u32 b.toNat) := cell_of_row W1 _ 1 _ _ _ h0
  have c2 : W1.cell? ⟨w.heap.size, 2, none⟩ = some (.int .u32 cc.toNat) := cell_of_row W1 _ 2 _ _ _ h0
  have c3 : W1.cell? ⟨w.heap.size, 3, none⟩ = some (.int .u32 d.toNat) := cell_of_row W1 _ 3 _ _ _ h0
  have c4 : W1.cell? ⟨w.heap.size, 4, none⟩ = some (.int .u32 e.toNat) := cell_of_row W1 _ 4 _ _ _ h0
  have HS := Lib.hid hs
  have H0 := Lib.hid h0
  have H5 := Lib.hid h1
  have n1 : w.heap.size < W1.heap.size := by rw [hs]; omega
  have n2 : w.heap.size + 1 < W1.heap.size := by rw [hs]; omega
  have ST : Hid (trn a 5 = trn a 5) := rfl
  clear hW1 hW1' hs h0 h1
  go_wp2_with fail
  go_region_held3 (fun w' => w'.cell? ⟨w.heap.size, 0, none⟩ = some (.int .u32 a.toNat) ∧ w'.cell? ⟨w.heap.size, 1, none⟩ = some (.int .u32 b.toNat) ∧ w'.cell? ⟨w.heap.size, 2, none⟩ = some (.int .u32 cc.toNat) ∧ w'.cell? ⟨w.heap.size, 3, none⟩ = some (.int .u32 d.toNat) ∧ w'.cell? ⟨w.heap.size, 4, none⟩ = some (.int .u32 e.toNat)) ((go_keep; done))
    (first
      | (go_at_call 71; (with_reducible refine (rturn_v _ _ _ _ rfl).mono ?_); rintro e w' ⟨rfl, rfl⟩)
      | (go_at_call 72; (with_reducible refine (rput_any t _ _ _ f _ ht HF.out).mono ?_); rintro e w' ⟨rfl, rfl⟩)
      | (go_at_call 73; (with_reducible refine (rconst_any t k _ ht HK.out).mono ?_); rintro e w' ⟨rfl, rfl⟩)
      | (go_at_call 62; (with_reducible refine (rsum5_any _ _ _ _ _ _ z HZ.out).mono ?_); rintro e w' ⟨rfl, rfl⟩))
  have hb2 : Below W1.heap.size W1 (W1.alloc (Obj.cells #[.int .u32 (trn a 5).toNat, .int .u32 f.toNat, .int .u32 e.toNat, .int .u32 k.toNat, .int .u32 x.toNat] 35)).drew := (stpA (Below.refl _ _) _).drew
  have h02 := heap_kept H0.out hb2
  have h52 := heap_kept H5.out hb2
  have hb3 := stp hb1 hb2
  obtain ⟨W2, hW2⟩ : ∃ W2, (W1.alloc (Obj.cells #[.int .u32 (trn a 5).toNat, .int .u32 f.toNat, .int .u32 e.toNat, .int .u32 k.toNat, .int .u32 x.toNat] 35)).drew = W2 := ⟨_, rfl⟩
  go_wp2_with fail
  rw [hW2] at h02 h52 hb3 ⊢
  clear hW2 hb2 H0 H5 n1 n2 c0 c1 c2 c3 c4
  have c0 : W2.cell? ⟨w.heap.size, 0, none⟩ = some (.int .u32 a.toNat) := cell_of_row W2 _ 0 _ _ _ h02
  have c1 : W2.cell? ⟨w.heap.size, 1, none⟩ = some (.int .u32 b.toNat) := cell_of_row W2 _ 1 _ _ _ h02
  have c2 : W2.cell? ⟨w.heap.size, 2, none⟩ = some (.int .u32 cc.toNat) := cell_of_row W2 _ 2 _ _ _ h02
  have c3 : W2.cell? ⟨w.heap.size, 3, none⟩ = some (.int .u32 d.toNat) := cell_of_row W2 _ 3 _ _ _ h02
  obtain ⟨⟨z0, z1, z2, z3, z4⟩, ⟨f0, f1, f2, f3, f4⟩⟩ := zero_cells h52
  have H52 := Lib.hid h52
  clear h02 h52
  go_region_held3 (fun w' => w'.cell? ⟨w.heap.size, 0, none⟩ = some (.int .u32 a.toNat) ∧ w'.cell? ⟨w.heap.size, 1, none⟩ = some (.int .u32 b.toNat) ∧ w'.cell? ⟨w.heap.size, 2, none⟩ = some (.int .u32 cc.toNat) ∧ w'.cell? ⟨w.heap.size, 3, none⟩ = some (.int .u32 d.toNat)) ((go_keep; done))
    (first
      | (go_at_call 71; (with_reducible refine (rturn_v _ _ _ _ rfl).mono ?_); rintro e w' ⟨rfl, rfl⟩))
  go_wp2_with fail
  exact bodyPost_ret (v := .agg (five ⟨z, a, trn b 30, cc, d⟩)) (results_cell_row rfl _ _ _ _ _ _ _ rfl (five_set H52.out ⟨z, a, trn b 30, cc, d⟩).1 Try.underlying36 rfl size37) rfl ⟨rfl, (five_set H52.out ⟨z, a, trn b 30, cc, d⟩).2 hb3 (by omega)⟩
end Hx
end Go.Proofs.Ytmjcmlaeajglmaa
