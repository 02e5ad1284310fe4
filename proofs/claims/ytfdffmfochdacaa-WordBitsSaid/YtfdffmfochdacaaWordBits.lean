/-
  For every three words, a slice of words and a number: the three ways of putting together hang together as the law says, and a sum does not hang on the order, nor on where it is parted. No condition.
-/
import Derived.Test.YtfdffmfochdacaaWordS
import Derived.WalkKit
import Derived.ProofKit
import Derived.OpenShut
import Derived.ShutString
import Derived.ChangeOld
import Derived.Below
namespace Go.Proofs.Ytfdffmfochdacaa.wordBits
open Go.ChangeShapes Go.WideShapes Go.ChangeAt Go.RowKit
open Go.ChangeMaps (open_string shut_string)
open Hx Wd
set_option linter.unusedVariables false

theorem own : ownKnob Try.prog.godebug = none := by kernel_rfl
theorem laidOut : laidOutB Try.prog = true := by kernel_rfl

theorem own_emptyW (w : World) (base : Nat) (e : TypeId) (hb : base ≤ w.heap.size) : (w.alloc (.cells #[] e)).ownsRow base e 1 (.slice (some ⟨w.heap.size, 0, none⟩) 0 0) 0 [] := World.ownsRow_lit w #[] 0 hb (Nat.zero_le _) rfl
theorem own_turned {w : World} {base : Nat} {e : TypeId} {v : Value} {k n : Nat} {l : List W32} (hk : k ≤ n) (h : w.ownsRow base e 1 v (0 + (n - k) + k) ([] ++ (l.drop k).map encW ++ (l.take k).map encW)) : w.ownsRow base e 1 v n ((l.drop k ++ l.take k).map encW) := by
  rw [show 0 + (n - k) + k = n by omega] at h
  simpa using h

set_option maxHeartbeats 2000000 in
set_option maxRecDepth 100000 in
theorem walkBig (x y z : W32) (a3 : Option Addr) (len3 cap3 : Nat) (k : Int) (w : World) (hbig : 500 < len3 ∨ k < 0 ∨ (len3 : Int) < k) :
    Calls Try.prog 8 #[.int .u32 x.toNat, .int .u32 y.toNat, .int .u32 z.toNat, .slice a3 len3 cap3, .int .i64 k] w fun e w' => e = .returned (.bool true) ∧ Below w.heap.size w w' := by
  by_cases h0 : 500 < len3
  · have t0 : decide ((500 : Int) < (len3 : Int)) = true := by simp; omega
    go_enter Try.func8, Try.ntmps8
    go_wp2_with (first
      | (go_at_call 14; refine (alive_any _).mono ?_; rintro e w1 ⟨rfl, hb1⟩)
      | fail)
    go_ret
    exact ⟨rfl, hb1⟩
  · have t0 : decide ((500 : Int) < (len3 : Int)) = false := by simp; omega
    by_cases h1 : k < 0
    · go_enter Try.func8, Try.ntmps8
      go_wp2_with (first
        | (go_at_call 14; refine (alive_any _).mono ?_; rintro e w1 ⟨rfl, hb1⟩)
        | fail)
      go_ret
      exact ⟨rfl, hb1⟩
    · have h2 : (len3 : Int) < k := by omega
      go_enter Try.func8, Try.ntmps8
      go_wp2_with (first
        | (go_at_call 14; refine (alive_any _).mono ?_; rintro e w1 ⟨rfl, hb1⟩)
        | fail)
      go_ret
      exact ⟨rfl, hb1⟩

set_option maxHeartbeats 16000000 in
set_option maxRecDepth 100000 in
theorem walkSmall (x y z oy ay f d u v : W32) (a3 : Option Addr) (len3 cap3 k : Nat) (l3 : List W32) (s : Nat) (p q : W32) (w : World) (w3 : RdW w w.heap.size a3 l3) (n3 : l3.length = len3) (c3 : len3 ≤ cap3) (z3 : a3 = none → cap3 = 0) (h0 : len3 ≤ 500) (hk : k ≤ len3)
    (ho : bits BinOp.or IntKind.u32 (y.toNat : Int) (z.toNat : Int) = ((oy.toNat : Nat) : Int)) (ha : bits BinOp.and IntKind.u32 (y.toNat : Int) (z.toNat : Int) = ((ay.toNat : Nat) : Int))
    (h1 : Hid (mst x y z = f)) (h2 : Hid (chs x oy ay = f)) (h3 : Hid (odd x y z = d)) (h4 : Hid (odd 4294967295#32 y z = u)) (h5 : Hid (odd 0#32 y z = v)) (h6 : Hid (chs x u v = d)) (h7 : Hid (chs 4294967295#32 y z = y)) (h8 : Hid (chs 0#32 y z = z)) (h9 : Hid (mst x x z = x))
    (s0 : Hid (sm l3 = s)) (s1 : Hid (sm (l3.drop k ++ l3.take k) = s)) (s2 : Hid (sm (l3.take k) = p.toNat)) (s3 : Hid (sm (l3.drop k) = q.toNat)) (s4 : Hid (sm [p, q] = s)) :
    Calls Try.prog 8 #[.int .u32 x.toNat, .int .u32 y.toNat, .int .u32 z.toNat, .slice a3 len3 cap3, .int .i64 k] w fun e w' => e = .returned (.bool true) ∧ Below w.heap.size w w' := by
  have t0 : decide ((500 : Int) < (len3 : Int)) = false := by simp; omega
  have t1 : decide ((k : Int) < 0) = false := by simp
  have t2 : decide ((len3 : Int) < (k : Int)) = false := by simp; omega
  obtain ⟨i0, hi, hz0, hz1, hz2⟩ := info_parts infoW
  obtain ⟨A5, r5, z5, hs5⟩ := slice_from (P := Try.prog) 22 28 Try.underlying22 i0 hi hz1 w3 n3 z3 k hk c3
  obtain ⟨A6, r6, z6, hs6⟩ := slice_to (P := Try.prog) 22 28 Try.underlying22 i0 hi hz1 w3 n3 z3 k hk c3
  have HI := Lib.hid hi
  have HZ0 := Lib.hid hz0
  have HZ1 := Lib.hid hz1
  have HZ2 := Lib.hid hz2
  have HN := Lib.hid n3
  have HR := Lib.hid w3
  have HC := Lib.hid z3
  have HR5 := Lib.hid r5
  have HR6 := Lib.hid r6
  have HC5 := Lib.hid z5
  have HC6 := Lib.hid z6
  have HN5 := Lib.hid (show (l3.drop k).length = len3 - k by rw [List.length_drop, n3])
  have HN6 := Lib.hid (show (l3.take k).length = k by rw [List.length_take, n3]; omega)
  have HN7 := Lib.hid (show (l3.drop k ++ l3.take k).length = len3 by rw [List.length_append, List.length_drop, List.length_take, n3]; omega)
  have HK := Lib.hid hk
  clear hi hz0 hz1 hz2 n3 w3 z3 r5 r6 z5 z6
  go_enter Try.func8, Try.ntmps8
  go_wp2_with (first
    | (go_at_call 14; (with_reducible refine (alive_any w).mono ?_); rintro e w1 ⟨rfl, hb1⟩)
    | (go_at_call 13; (with_reducible refine (mst_v x y z f w1 h1.out).mono ?_); rintro e w2 ⟨rfl, hb2⟩; have hb2' := stp hb1 hb2)
    | (go_at_call 11; (with_reducible refine (chs_v x oy ay f w2 h2.out).mono ?_); rintro e w3 ⟨rfl, hb3⟩; have hb3' := stp hb2' hb3)
    | (go_at_call 12; (with_reducible refine (odd_v x y z d w3 h3.out).mono ?_); rintro e w4 ⟨rfl, hb4⟩; have hb4' := stp hb3' hb4)
    | (go_at_call 12; (with_reducible refine (odd_ff y z u w4 h4.out).mono ?_); rintro e w5 ⟨rfl, hb5⟩; have hb5' := stp hb4' hb5)
    | (go_at_call 12; (with_reducible refine (odd_00 y z v w5 h5.out).mono ?_); rintro e w6 ⟨rfl, hb6⟩; have hb6' := stp hb5' hb6)
    | (go_at_call 11; (with_reducible refine (chs_v x u v d w6 h6.out).mono ?_); rintro e w7 ⟨rfl, hb7⟩; have hb7' := stp hb6' hb7)
    | (go_at_call 11; (with_reducible refine (chs_ff y z y w7 h7.out).mono ?_); rintro e w8 ⟨rfl, hb8⟩; have hb8' := stp hb7' hb8)
    | (go_at_call 11; (with_reducible refine (chs_00 y z z w8 h8.out).mono ?_); rintro e w9 ⟨rfl, hb9⟩; have hb9' := stp hb8' hb9)
    | (go_at_call 13; (with_reducible refine (mst_v x x z x w9 h9.out).mono ?_); rintro e w10 ⟨rfl, hb10⟩; have hb10' := stp hb9' hb10)
    | fail)
  have HE := Lib.hid (own_emptyW w10 w.heap.size 28 hb10'.size)
  have hb11 := (stpA hb10' (.cells #[] 28)).drew
  go_region_held3 (fun _ => True) (trivial) (first
    | (refine step_append_rdg encW_one rfl (.tmp 83) (.tmp 86) 22 rfl w.heap.size 28 i0 (.int .u32 0) 4 Try.underlying22 HI.out HZ0.out HZ1.out HZ2.out (by decide) rfl _ _ _ rfl HE.out w.heap.size A5 (len3 - k) (cap3 - k) (l3.drop k) rfl (HR5.out.below hb11) HN5.out HC5.out (by omega) hb11.size ?_; intro v12 w12 hown12 hgr12; have HO12 := Lib.hid hown12; have hb12 := hb11.grown hgr12 hb11.size (fun g hg => (HE.out.lt g hg).1); clear hown12 hgr12)
    | (refine step_append_rdg encW_one rfl (.tmp 87) (.tmp 90) 22 rfl w.heap.size 28 i0 (.int .u32 0) 4 Try.underlying22 HI.out HZ0.out HZ1.out HZ2.out (by decide) rfl _ _ _ rfl HO12.out w.heap.size A6 k cap3 (l3.take k) rfl (HR6.out.below hb12) HN6.out HC6.out (by omega) hb12.size ?_; intro v13 w13 hown13 hgr13; have hb13 := hb12.grown hgr13 hb12.size (fun g hg => (HO12.out.lt g hg).1); have hown14 := own_turned HK.out hown13; clear hown13 hgr13; obtain ⟨A7, c7, hv7⟩ := own_form hown14; subst hv7; have HR7 := Lib.hid (RdG.of_own hown14); clear hown14))
  have hd13 := hb13.drew
  have HR3d : Hid (RdW w13.drew w13.drew.heap.size a3 l3) := HR.out.on hd13
  have HR5d : Hid (RdW w13.drew w13.drew.heap.size A5 (l3.drop k)) := HR5.out.on hd13
  have HR6d : Hid (RdW w13.drew w13.drew.heap.size A6 (l3.take k)) := HR6.out.on hd13
  have HR7d : Hid (RdW w13.drew w13.drew.heap.size A7 (l3.drop k ++ l3.take k)) := HR7.out.1
  have hb14 := (stpA hb13 (.cells #[.int .u32 p.toNat, .int .u32 q.toNat] 28)).drew
  have HR3e : Hid (RdW (w13.alloc (.cells #[.int .u32 p.toNat, .int .u32 q.toNat] 28)).drew (w13.alloc (.cells #[.int .u32 p.toNat, .int .u32 q.toNat] 28)).drew.heap.size a3 l3) := HR.out.on hb14
  have HR8 : Hid (RdW (w13.alloc (.cells #[.int .u32 p.toNat, .int .u32 q.toNat] 28)).drew (w13.alloc (.cells #[.int .u32 p.toNat, .int .u32 q.toNat] 28)).drew.heap.size (some ⟨w13.heap.size, 0, none⟩) [p, q]) := RdG.newS (enc := encW) w13 28 [p, q]
  go_wp2_with fail
  go_region_held3 (fun _ => True) (trivial) (first
    | (go_at_call 15; (with_reducible refine (sum_v A7 len3 c7 (l3.drop k ++ l3.take k) s w13.drew HR7d.out HN7.out (by omega) s1.out).mono ?_); rintro e w' ⟨rfl, rfl⟩)
    | (go_at_call 15; (with_reducible refine (sum_v a3 len3 cap3 l3 s w13.drew HR3d.out HN.out (by omega) s0.out).mono ?_); rintro e w' ⟨rfl, rfl⟩)
    | (go_at_call 15; (with_reducible refine (sum_v A6 k cap3 (l3.take k) p.toNat w13.drew HR6d.out HN6.out (by omega) s2.out).mono ?_); rintro e w' ⟨rfl, rfl⟩)
    | (go_at_call 15; (with_reducible refine (sum_v A5 (len3 - k) (cap3 - k) (l3.drop k) q.toNat w13.drew HR5d.out HN5.out (by omega) s3.out).mono ?_); rintro e w' ⟨rfl, rfl⟩)
    | (go_at_call 15; (with_reducible refine (sum_v (some ⟨w13.heap.size, 0, none⟩) 2 2 [p, q] s _ HR8.out rfl (by decide) s4.out).mono ?_); rintro e w' ⟨rfl, rfl⟩)
    | (go_at_call 15; (with_reducible refine (sum_v a3 len3 cap3 l3 s _ HR3e.out HN.out (by omega) s0.out).mono ?_); rintro e w' ⟨rfl, rfl⟩))
  all_goals
    go_wp2
    go_ret
    exact ⟨rfl, hb14⟩

theorem walk (a0 a1 a2 : Int) (a3 : Option Addr) (len3 cap3 : Nat) (l3 : List W32) (a4 : Int) (w : World) (w0 : (Lit.int .u32 a0).wf = true) (w1 : (Lit.int .u32 a1).wf = true) (w2 : (Lit.int .u32 a2).wf = true)
    (w3 : RdW w w.heap.size a3 l3) (n3 : l3.length = len3) (c3 : len3 ≤ cap3) (m3 : cap3 ≤ maxLen) (z3 : a3 = none → cap3 = 0) (w4 : (Lit.int .i64 a4).wf = true) :
    Calls Try.prog 8 #[.int .u32 a0, .int .u32 a1, .int .u32 a2, .slice a3 len3 cap3, .int .i64 a4] w fun e w' => e = .returned (.bool true) ∧ Below w.heap.size w w' := by
  obtain ⟨x, rfl⟩ := word_of w0
  obtain ⟨y, rfl⟩ := word_of w1
  obtain ⟨z, rfl⟩ := word_of w2
  by_cases h : 500 < len3 ∨ a4 < 0 ∨ (len3 : Int) < a4
  · exact walkBig x y z a3 len3 cap3 a4 w h
  · obtain ⟨k, rfl⟩ : ∃ k : Nat, a4 = (k : Int) := ⟨a4.toNat, by omega⟩
    have hx := x.isLt
    have hy := y.isLt
    have hz := z.isLt
    have e : ∀ m : List W32, sm m = (BitVec.ofNat 32 (sm m)).toNat := fun m => by rw [BitVec.toNat_ofNat, Nat.mod_eq_of_lt (sm_lt m)]
    exact walkSmall x y z (y ||| z) (y &&& z) _ _ _ _ a3 len3 cap3 k l3 _ (BitVec.ofNat 32 (sm (l3.take k))) (BitVec.ofNat 32 (sm (l3.drop k))) w w3 n3 c3 z3 (by omega) (by omega)
      (by rw [u32_or_nat _ _ hy hz, BitVec.toNat_or]) (by rw [u32_and_nat _ _ hy hz, BitVec.toNat_and])
      rfl (mst_chs x y z).symm rfl rfl rfl (odd_chs x y z).symm (chs_ones y z) (chs_zero y z) (mst_same x z) rfl (sm_turn l3 k) (e _) (e _) (sm_parts l3 k _ _ (e _).symm (e _).symm)

set_option maxRecDepth 100000 in
theorem lifted (os : Os) (started : os.Started) (H : Type) (enc : TypeId × Value → H) :
    ReturnsInHanded {} Try.checked os 8 .any (Rows.wordBitsSpec.pre6 enc Try.prog Try.f8 Rows.wordBitsRow.domain false) (Rows.wordBitsSpec.post enc Try.prog Try.f8 false true false false) := by
  refine returnsInHanded_of_change (C := Try.checked) own started (by kernel_rfl) Try.func8
    (ChangeSpec.witness6 (enc := enc) (C := Try.checked) false ⟨#[], #[.int .u32 0, .int .u32 0, .int .u32 0, .slice none 0 0, .int .i64 0], []⟩ 8 (by kernel_rfl) (by kernel_rfl) (by kernel_rfl) (by kernel_rfl)) ?_
  intro W base args ds gs before hval0 hW hcnd _
  have hval : ∀ (j : Nat) t v, Try.f8.params[j]? = some t → args[j]? = some v → Value.okWide Try.prog W .any base t v := hval0
  have hW' := hW
  obtain ⟨p, q, hA0, hV, rfl, hfz, hnd⟩ := hW
  have hA : DataW.TrodAll enc Try.prog W 0 (fun _ => true) true Try.f8.params.toList args.toList ds p := hA0
  rw [Try.params8] at hA hval
  obtain ⟨v0, vs0, d0, ds0, p0, q0, hargs, rfl, rfl, h0, r0⟩ := trodAll_cons hA
  obtain ⟨v1, vs1, d1, ds1, p1, q1, rfl, rfl, rfl, h1, r1⟩ := trodAll_cons r0
  obtain ⟨v2, vs2, d2, ds2, p2, q2, rfl, rfl, rfl, h2, r2⟩ := trodAll_cons r1
  obtain ⟨v3, vs3, d3, ds3, p3, q3, rfl, rfl, rfl, h3, r3⟩ := trodAll_cons r2
  obtain ⟨v4, vs4, d4, ds4, p4, q4, rfl, rfl, rfl, h4, r4⟩ := trodAll_cons r3
  obtain ⟨rfl, rfl, rfl⟩ := trodAll_nil r4
  obtain rfl : args = #[v0, v1, v2, v3, v4] := by cases args; simp_all
  obtain ⟨rfl, rfl⟩ := trodVars_none hV
  obtain ⟨a0, rfl, rfl, rfl, w0⟩ := open_int Try.underlying28 (hval 0 28 v0 rfl rfl) h0
  obtain ⟨a1, rfl, rfl, rfl, w1⟩ := open_int Try.underlying28 (hval 1 28 v1 rfl rfl) h1
  obtain ⟨a2, rfl, rfl, rfl, w2⟩ := open_int Try.underlying28 (hval 2 28 v2 rfl rfl) h2
  obtain ⟨a3, len3, cap3, rfl⟩ := okWide_slice Try.underlying22 (hval 3 22 v3 rfl rfl)
  have k3 := h3
  have lt3 : ∀ x ∈ p3, x.block < W.heap.size := by obtain ⟨m, hm⟩ := k3; exact DataW.trod_lt m _ _ _ hm
  obtain ⟨l3, w3, n3, c3, m3, z3⟩ : ∃ l : List Wd.W32, RdW W W.heap.size a3 l ∧ l.length = len3 ∧ len3 ≤ cap3 ∧ cap3 ≤ maxLen ∧ (a3 = none → cap3 = 0) := by
    obtain ⟨fuel, hf⟩ := h3
    rcases open_ints Try.underlying22 Try.underlying28 (by kernel_rfl) hf with ⟨hcs, _⟩ | ⟨x, l, c, zs, hcs, _, hl, hm, hz, _, hcell, hwz⟩
    · simp [Value.cells] at hcs
      obtain ⟨rfl, rfl, rfl⟩ := hcs
      exact ⟨[], RdG.nil _ _ _, rfl, Nat.le_refl _, Nat.zero_le _, fun _ => rfl⟩
    · simp [Value.cells] at hcs
      obtain ⟨rfl, rfl, rfl⟩ := hcs
      have hz' : zs.length = cap3 := by simpa using hz
      obtain ⟨l, hr, hn⟩ := rdW_of_row hl hz' hcell hwz
      exact ⟨l, hr, hn, hl, hm, fun h => by cases h⟩
  obtain ⟨a4, rfl, rfl, rfl, w4⟩ := open_int Try.underlying3 (hval 4 3 v4 rfl rfl) h4
  clear hA0 hval0
  refine (walk a0 a1 a2 a3 len3 cap3 l3 a4 W w0 w1 w2 w3 n3 c3 m3 z3 w4).mono fun e W' ⟨he, bel⟩ => ?_
  subst he
  exact ⟨_, rfl, _, _, _, [], _, [], hW', trodAll_mk1 (shut_bool Try.underlying4 _), (trodAll_cons_mk (shut_int Try.underlying28 w0) (trodAll_cons_mk (shut_int Try.underlying28 w1) (trodAll_cons_mk (shut_int Try.underlying28 w2) (trodAll_cons_mk (Below.trod laidOut (by kernel_rfl) (of_decide_eq_true (by kernel_rfl)) k3 bel lt3) (trodAll_cons_mk (shut_int Try.underlying3 w4) trodAll_mk0))))), rfl, bel.frame _, fun h => by cases h⟩

theorem over : Rows.wordBitsRow.holds Try.pinned (OpenSpec.ofChange Rows.wordBitsSpec) :=
  OpenClaim.holds_of_wide 8 Try.f8 rfl rfl rfl rfl rfl rfl rfl ⟨rfl, rfl, rfl, rfl, rfl⟩ rfl rfl rfl rfl rfl (by kernel_rfl) Try.func8 (by kernel_rfl)
    (of_decide_eq_true (by kernel_rfl)) (by unfold Func.isWrapper; first | (rw [if_pos (by decide +kernel)]; kernel_rfl) | (rw [if_neg (by decide +kernel)]; exact ⟨rfl, rfl⟩))
    (fun os started H enc _ => lifted os started H enc)

theorem proved : Rows.WordBitsSaid := over
end Go.Proofs.Ytfdffmfochdacaa.wordBits
