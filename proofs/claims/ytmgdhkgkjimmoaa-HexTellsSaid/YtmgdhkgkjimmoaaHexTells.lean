/-
  HexTells: for any bytes, text, number and byte the law returns true, and they read as they did. No condition.
-/
import Derived.Test.YtmgdhkgkjimmoaaHexR
import Derived.WalkKit
import Derived.ProofKit
import Derived.OpenShut
import Derived.ShutString
import Derived.ChangeOld
import Derived.Below
namespace Go.Proofs.Ytmgdhkgkjimmoaa.hexTells
open Go.ChangeShapes Go.WideShapes Go.ChangeAt Go.RowKit
open Go.ChangeMaps (open_string shut_string)
open Hx
set_option linter.unusedVariables false

theorem own : ownKnob Try.prog.godebug = none := by kernel_rfl
theorem laidOut : laidOutB Try.prog = true := by kernel_rfl

set_option maxHeartbeats 2000000 in
set_option maxRecDepth 100000 in
theorem walkBig (a0 : Option Addr) (len0 cap0 : Nat) (s : ByteArray) (n c : Int) (w : World) (hbig : 2000 < len0 ∨ (2000 < s.size ∧ s.size ≤ 16384) ∨ 17000 < s.size) :
    Calls Try.prog 4 #[.slice a0 len0 cap0, .string s, .int .i64 n, .int .u8 c] w fun e w' => e = .returned (.bool true) ∧ Below w.heap.size w w' := by
  by_cases h0 : 2000 < len0
  · have t0 : decide ((2000 : Int) < (len0 : Int)) = true := by simp; omega
    go_enter Try.func4, Try.ntmps4
    go_wp2_with fail
    go_ret
    exact ⟨rfl, Below.refl _ _⟩
  · have t0 : decide ((2000 : Int) < (len0 : Int)) = false := by simp; omega
    have t1 : decide ((2000 : Int) < (s.size : Int)) = true := by simp; omega
    by_cases h1 : s.size ≤ 16384
    · have t2 : decide ((s.size : Int) ≤ 16384) = true := by simp; omega
      go_enter Try.func4, Try.ntmps4
      go_wp2_with fail
      go_ret
      exact ⟨rfl, Below.refl _ _⟩
    · have t2 : decide ((s.size : Int) ≤ 16384) = false := by simp; omega
      have t3 : decide ((17000 : Int) < (s.size : Int)) = true := by simp; omega
      go_enter Try.func4, Try.ntmps4
      go_wp2_with fail
      go_ret
      exact ⟨rfl, Below.refl _ _⟩

/-- What Get and its reference answer alike: an address each, one error number, one text. -/
def Same (s : ByteArray) (w : World) (e : Ending) (w' : World) : Prop :=
  Below w.heap.size w w' ∧ ∃ A c, e = .returned (.tuple #[.slice A (gotL s).length c, .int .i64 (gotE s)]) ∧ RdA w' w'.heap.size A (gotL s)
theorem same_get (s : ByteArray) (w : World) (f : Nat)
    (many : 16384 < s.size → Calls Try.prog f #[.string s] w fun e w' => e = .returned (.tuple #[.slice none 0 0, .int .i64 4]) ∧ Below w.heap.size w w')
    (bad : s.size ≤ 16384 → okS s = false → Calls Try.prog f #[.string s] w fun e w' => e = .returned (.tuple #[.slice none 0 0, .int .i64 10]) ∧ Below w.heap.size w w')
    (ok : s.size ≤ 16384 → okS s = true → Calls Try.prog f #[.string s] w (GetOk s w)) : Calls Try.prog f #[.string s] w (Same s w) := by
  by_cases h : 16384 < s.size
  · refine (many h).mono fun e w' ⟨he, hb⟩ => ⟨hb, none, 0, ?_, ?_⟩
    · rw [he, gotE, if_pos h, gotL, if_pos h]; rfl
    · rw [gotL, if_pos h]; exact RdA.nil _ _ _
  · cases hk : okS s
    · refine (bad (by omega) hk).mono fun e w' ⟨he, hb⟩ => ⟨hb, none, 0, ?_, ?_⟩
      · rw [he, gotE, if_neg h, gotL, if_neg h, hk]; rfl
      · rw [gotL, if_neg h, hk]; exact RdA.nil _ _ _
    · refine (ok (by omega) hk).mono fun e w' ⟨hb, A, c, he, hr⟩ => ⟨hb, A, c, ?_, ?_⟩
      · rw [he, gotE, if_neg h, gotL, if_neg h, hk, if_pos rfl, if_pos rfl, getL_length]
      · rw [gotL, if_neg h, hk]; exact hr
theorem same_one (s : ByteArray) (w : World) : Calls Try.prog 8 #[.string s] w (Same s w) :=
  same_get s w _ (get_many s w) (get_bad s w) (get_ok s w)
theorem same_two (s : ByteArray) (w : World) : Calls Try.prog 14 #[.string s] w (Same s w) :=
  same_get s w _ (fun h => (rget_many s w h).mono fun e w' ⟨he, hw⟩ => ⟨he, by subst hw; exact Below.refl _ _⟩) (fun h k => (rget_bad s w h k).mono fun e w' ⟨he, hw⟩ => ⟨he, by subst hw; exact Below.refl _ _⟩) (rget_ok s w)
theorem is_v (s : ByteArray) (n : Int) (b : Bool) (w : World) (h : isB s n = b) : Calls Try.prog 12 #[.string s, .int .i64 n] w fun e w' => e = .returned (.bool b) ∧ Below w.heap.size w w' := is_b s n b w h
theorem ris_v (s : ByteArray) (n : Int) (b : Bool) (w : World) (hm : s.size ≤ 1000000) (h : isB s n = b) : Calls Try.prog 16 #[.string s, .int .i64 n] w fun e w' => e = .returned (.bool b) ∧ w = w' := ris_b s n b w hm h
theorem digit_v (c : UInt8) (v : Int) (b : Bool) (w : World) (hn : nm c.toNat = v) (hd : isD c.toNat = b) :
    Calls Try.prog 9 #[.int .u8 c.toNat] w fun e w' => e = .returned (.tuple #[.int .i64 v, .bool b]) ∧ Below w.heap.size w w' := by
  have := digit_any c.toNat w (by omega) (by have := c.toNat_lt; omega)
  rw [hn, hd] at this
  exact this
theorem rdigit_v (c : UInt8) (v : Int) (b : Bool) (w : World) (hn : nm c.toNat = v) (hd : isD c.toNat = b) :
    Calls Try.prog 13 #[.int .u8 c.toNat] w fun e w' => e = .returned (.tuple #[.int .i64 v, .bool b]) ∧ w = w' := by
  have := rdigit_u8 c w
  rw [hn, hd] at this
  exact this

set_option maxHeartbeats 4000000 in
set_option maxRecDepth 100000 in
theorem walkSmall (a0 : Option Addr) (len0 cap0 : Nat) (l0 : List UInt8) (s : ByteArray) (n : Int) (c : UInt8) (w : World) (w0 : RdA w w.heap.size a0 l0) (n0 : l0.length = len0) (z0 : a0 = none → cap0 = 0)
    (v : Int) (b p q : Bool) (hn : nm c.toNat = v) (hd : isD c.toNat = b) (hp : isB s n = p) (hq : isB s s.size = q) (f : Int) (hf : gotE s = f)
    (h0 : len0 ≤ 2000) (h1 : s.size ≤ 2000 ∨ 16384 < s.size ∧ s.size ≤ 17000) :
    Calls Try.prog 4 #[.slice a0 len0 cap0, .string s, .int .i64 n, .int .u8 c.toNat] w fun e w' => e = .returned (.bool true) ∧ Below w.heap.size w w' := by
  have hs : s.size ≤ 17000 := by omega
  have t0 : decide ((2000 : Int) < (len0 : Int)) = false := by simp; omega
  have t1 : (decide ((2000 : Int) < (s.size : Int)) = false ∧ decide ((s.size : Int) ≤ 16384) = true) ∨ (decide ((2000 : Int) < (s.size : Int)) = true ∧ decide ((s.size : Int) ≤ 16384) = false) := by simp; omega
  have t3 : decide ((17000 : Int) < (s.size : Int)) = false := by simp; omega
  obtain ⟨i0, hi, hz0, hz1, hz2⟩ := info_parts info5
  have HI := Lib.hid hi
  have HZ0 := Lib.hid hz0
  have HZ1 := Lib.hid hz1
  have HZ2 := Lib.hid hz2
  have HN0 := Lib.hid n0
  have HR0 := Lib.hid w0
  have HC0 := Lib.hid z0
  have HN := Lib.hid hn
  have HD := Lib.hid hd
  have HP := Lib.hid hp
  have HQ := Lib.hid hq
  have HF := Lib.hid hf
  have HE := Lib.hid (own_empty w w.heap.size 5 (Nat.le_refl _))
  have hb1 := stpA (Below.refl w.heap.size w) (.cells #[] 5)
  clear hi hz0 hz1 hz2 n0 w0 z0 hn hd hp hq hf h1
  rcases t1 with ⟨t1, t2⟩ | ⟨t1, t2⟩
  · go_enter Try.func4, Try.ntmps4
    go_wp2_with (first
      | (at_builtin; refine wpList_append_rd rfl (.tmp 37) (.tmp 38) 22 rfl w.heap.size 5 i0 (.int .u8 0) Try.underlying22 HI.out HZ0.out HZ1.out HZ2.out rfl _ _ _ rfl HE.out w.heap.size a0 len0 cap0 l0 rfl (HR0.out.below hb1) HN0.out HC0.out (by omega) hb1.size ?_; intro v2 w2 hown2 hgr2; have hb2 := hb1.grown hgr2 hb1.size (fun g hg => (HE.out.lt g hg).1); have hown3 := own_zero hown2; clear hown2 hgr2; obtain ⟨A2, c2, hv2⟩ := own_form hown3; subst hv2; have HR2 := Lib.hid (RdA.of_own hown3); clear hown3)
      | (go_at_call 9; (with_reducible refine (digit_v c v b w2 HN.out HD.out).mono ?_); rintro e w3 ⟨rfl, hb3⟩; have hb3' := stp hb2 hb3)
      | (go_at_call 13; (with_reducible refine (rdigit_v c v b w3 HN.out HD.out).mono ?_); rintro e w' ⟨rfl, rfl⟩)
      | (go_at_call 8; (with_reducible refine (same_one s w3).mono ?_); rintro e w4 ⟨hb4, A4, c4, rfl, hr4⟩; rw [HF.out]; have hb4' := stp hb3' hb4; have HR4 := Lib.hid hr4; clear hr4)
      | (go_at_call 14; (with_reducible refine (same_two s w4).mono ?_); rintro e w5 ⟨hb5, A5, c5, rfl, hr5⟩; rw [HF.out]; have hb5' := stp hb4' hb5; have HR5 := Lib.hid hr5; clear hr5; have hb25 := stp (stp hb3 hb4) hb5)
      | (go_at_call 11; (with_reducible refine (put_any A2 len0 c2 l0 w5 ((HR2.out.1.below hb25).mono hb25.size) HN0.out (by omega)).mono ?_); rintro e w6 ⟨rfl, hb6⟩; have hb6' := stp hb5' hb6)
      | (go_at_call 15; (with_reducible refine (rput_any a0 len0 cap0 l0 w6 ((HR0.out.below hb6').mono hb6'.size) HN0.out (by omega)).mono ?_); rintro e w7 ⟨rfl, hb7⟩; have hb7' := stp hb6' hb7)
      | (go_at_call 12; (with_reducible refine (is_v s n p w7 HP.out).mono ?_); rintro e w8 ⟨rfl, hb8⟩; have hb8' := stp hb7' hb8)
      | (go_at_call 16; (with_reducible refine (ris_v s n p w8 (by omega) HP.out).mono ?_); rintro e w' ⟨rfl, rfl⟩)
      | (go_at_call 12; (with_reducible refine (is_v s s.size q w8 HQ.out).mono ?_); rintro e w9 ⟨rfl, hb9⟩; have hb9' := stp hb8' hb9; have hb59 := stp (stp (stp hb6 hb7) hb8) hb9; have hb49 := stp hb5 hb59; have hb29 := stp hb25 hb59; have cv0 := conv_str (P := Try.prog) (c := cap0) (HR0.out.below hb9') HN0.out Try.underlying22 Try.underlying5 Try.underlying9; have cv2 := conv_str (P := Try.prog) (c := c2) (HR2.out.1.below hb29) HN0.out Try.underlying22 Try.underlying5 Try.underlying9; have cv4 := conv_str (P := Try.prog) (c := c4) (HR4.out.below hb49) rfl Try.underlying22 Try.underlying5 Try.underlying9; have cv5 := conv_str (P := Try.prog) (c := c5) (HR5.out.below hb59) rfl Try.underlying22 Try.underlying5 Try.underlying9)
      | (go_at_call 16; (with_reducible refine (ris_v s s.size q w9 (by omega) HQ.out).mono ?_); rintro e w' ⟨rfl, rfl⟩)
      | fail)
    go_ret
    exact ⟨rfl, hb9'⟩
  · go_enter Try.func4, Try.ntmps4
    go_wp2_with (first
      | (at_builtin; refine wpList_append_rd rfl (.tmp 37) (.tmp 38) 22 rfl w.heap.size 5 i0 (.int .u8 0) Try.underlying22 HI.out HZ0.out HZ1.out HZ2.out rfl _ _ _ rfl HE.out w.heap.size a0 len0 cap0 l0 rfl (HR0.out.below hb1) HN0.out HC0.out (by omega) hb1.size ?_; intro v2 w2 hown2 hgr2; have hb2 := hb1.grown hgr2 hb1.size (fun g hg => (HE.out.lt g hg).1); have hown3 := own_zero hown2; clear hown2 hgr2; obtain ⟨A2, c2, hv2⟩ := own_form hown3; subst hv2; have HR2 := Lib.hid (RdA.of_own hown3); clear hown3)
      | (go_at_call 9; (with_reducible refine (digit_v c v b w2 HN.out HD.out).mono ?_); rintro e w3 ⟨rfl, hb3⟩; have hb3' := stp hb2 hb3)
      | (go_at_call 13; (with_reducible refine (rdigit_v c v b w3 HN.out HD.out).mono ?_); rintro e w' ⟨rfl, rfl⟩)
      | (go_at_call 8; (with_reducible refine (same_one s w3).mono ?_); rintro e w4 ⟨hb4, A4, c4, rfl, hr4⟩; rw [HF.out]; have hb4' := stp hb3' hb4; have HR4 := Lib.hid hr4; clear hr4)
      | (go_at_call 14; (with_reducible refine (same_two s w4).mono ?_); rintro e w5 ⟨hb5, A5, c5, rfl, hr5⟩; rw [HF.out]; have hb5' := stp hb4' hb5; have HR5 := Lib.hid hr5; clear hr5; have hb25 := stp (stp hb3 hb4) hb5)
      | (go_at_call 11; (with_reducible refine (put_any A2 len0 c2 l0 w5 ((HR2.out.1.below hb25).mono hb25.size) HN0.out (by omega)).mono ?_); rintro e w6 ⟨rfl, hb6⟩; have hb6' := stp hb5' hb6)
      | (go_at_call 15; (with_reducible refine (rput_any a0 len0 cap0 l0 w6 ((HR0.out.below hb6').mono hb6'.size) HN0.out (by omega)).mono ?_); rintro e w7 ⟨rfl, hb7⟩; have hb7' := stp hb6' hb7)
      | (go_at_call 12; (with_reducible refine (is_v s n p w7 HP.out).mono ?_); rintro e w8 ⟨rfl, hb8⟩; have hb8' := stp hb7' hb8)
      | (go_at_call 16; (with_reducible refine (ris_v s n p w8 (by omega) HP.out).mono ?_); rintro e w' ⟨rfl, rfl⟩)
      | (go_at_call 12; (with_reducible refine (is_v s s.size q w8 HQ.out).mono ?_); rintro e w9 ⟨rfl, hb9⟩; have hb9' := stp hb8' hb9; have hb59 := stp (stp (stp hb6 hb7) hb8) hb9; have hb49 := stp hb5 hb59; have hb29 := stp hb25 hb59; have cv0 := conv_str (P := Try.prog) (c := cap0) (HR0.out.below hb9') HN0.out Try.underlying22 Try.underlying5 Try.underlying9; have cv2 := conv_str (P := Try.prog) (c := c2) (HR2.out.1.below hb29) HN0.out Try.underlying22 Try.underlying5 Try.underlying9; have cv4 := conv_str (P := Try.prog) (c := c4) (HR4.out.below hb49) rfl Try.underlying22 Try.underlying5 Try.underlying9; have cv5 := conv_str (P := Try.prog) (c := c5) (HR5.out.below hb59) rfl Try.underlying22 Try.underlying5 Try.underlying9)
      | (go_at_call 16; (with_reducible refine (ris_v s s.size q w9 (by omega) HQ.out).mono ?_); rintro e w' ⟨rfl, rfl⟩)
      | fail)
    go_ret
    exact ⟨rfl, hb9'⟩

theorem walk (a0 : Option Addr) (len0 cap0 : Nat) (l0 : List UInt8) (s : ByteArray) (n c : Int) (w : World) (w0 : RdA w w.heap.size a0 l0) (n0 : l0.length = len0) (m0 : len0 ≤ maxLen) (z0 : a0 = none → cap0 = 0) (w1 : s.size ≤ maxLen) (w2 : (Lit.int .i64 n).wf = true) (w3 : (Lit.int .u8 c).wf = true) :
    Calls Try.prog 4 #[.slice a0 len0 cap0, .string s, .int .i64 n, .int .u8 c] w fun e w' => e = .returned (.bool true) ∧ Below w.heap.size w w' := by
  by_cases h : 2000 < len0 ∨ (2000 < s.size ∧ s.size ≤ 16384) ∨ 17000 < s.size
  · exact walkBig a0 len0 cap0 s n c w h
  · obtain ⟨h0, h1⟩ := bounds_u8 w3
    obtain ⟨d, rfl⟩ : ∃ d : UInt8, c = d.toNat := ⟨c.toNat.toUInt8, by simp; omega⟩
    exact walkSmall a0 len0 cap0 l0 s n d w w0 n0 z0 _ _ _ _ rfl rfl rfl rfl _ rfl (by omega) (by omega)

set_option maxRecDepth 100000 in
theorem lifted (os : Os) (started : os.Started) (H : Type) (enc : TypeId × Value → H) :
    ReturnsInHanded {} Try.checked os 4 .any (Rows.hexTellsSpec.pre6 enc Try.prog Try.f4 Rows.hexTellsRow.domain false) (Rows.hexTellsSpec.post enc Try.prog Try.f4 false true false false) := by
  refine returnsInHanded_of_change (C := Try.checked) own started (by kernel_rfl) Try.func4
    (ChangeSpec.witness6 (enc := enc) (C := Try.checked) false ⟨#[], #[.slice none 0 0, .string ByteArray.empty, .int .i64 0, .int .u8 0], []⟩ 8 (by kernel_rfl) (by kernel_rfl) (by kernel_rfl) (by kernel_rfl)) ?_
  intro W base args ds gs before hval0 hW hcnd _
  have hval : ∀ (j : Nat) t v, Try.f4.params[j]? = some t → args[j]? = some v → Value.okWide Try.prog W .any base t v := hval0
  have hW' := hW
  obtain ⟨p, q, hA0, hV, rfl, hfz, hnd⟩ := hW
  have hA : DataW.TrodAll enc Try.prog W 0 (fun _ => true) true Try.f4.params.toList args.toList ds p := hA0
  rw [Try.params4] at hA hval
  obtain ⟨v0, vs0, d0, ds0, p0, q0, hargs, rfl, rfl, h0, r0⟩ := trodAll_cons hA
  obtain ⟨v1, vs1, d1, ds1, p1, q1, rfl, rfl, rfl, h1, r1⟩ := trodAll_cons r0
  obtain ⟨v2, vs2, d2, ds2, p2, q2, rfl, rfl, rfl, h2, r2⟩ := trodAll_cons r1
  obtain ⟨v3, vs3, d3, ds3, p3, q3, rfl, rfl, rfl, h3, r3⟩ := trodAll_cons r2
  obtain ⟨rfl, rfl, rfl⟩ := trodAll_nil r3
  obtain rfl : args = #[v0, v1, v2, v3] := by cases args; simp_all
  obtain ⟨rfl, rfl⟩ := trodVars_none hV
  obtain ⟨a0, len0, cap0, rfl⟩ := okWide_slice Try.underlying22 (hval 0 22 v0 rfl rfl)
  have k0 := h0
  have lt0 : ∀ x ∈ p0, x.block < W.heap.size := by obtain ⟨m, hm⟩ := k0; exact DataW.trod_lt m _ _ _ hm
  obtain ⟨l0, w0, n0, m0, z0⟩ : ∃ l : List UInt8, RdA W W.heap.size a0 l ∧ l.length = len0 ∧ len0 ≤ maxLen ∧ (a0 = none → cap0 = 0) := by
    obtain ⟨fuel, hf⟩ := h0
    rcases open_ints Try.underlying22 Try.underlying5 (by kernel_rfl) hf with ⟨hcs, _⟩ | ⟨x, l, c, zs, hcs, _, hl, hm, hz, _, hcell, hwz⟩
    · simp [Value.cells] at hcs
      obtain ⟨rfl, rfl, rfl⟩ := hcs
      exact ⟨[], RdA.nil _ _ _, rfl, Nat.zero_le _, fun _ => rfl⟩
    · simp [Value.cells] at hcs
      obtain ⟨rfl, rfl, rfl⟩ := hcs
      have hz' : zs.length = cap0 := by simpa using hz
      obtain ⟨l, hr, hn⟩ := rdA_of_row hl hz' hcell hwz
      exact ⟨l, hr, hn, by omega, fun h => by cases h⟩
  obtain ⟨a1, rfl, rfl, rfl, w1⟩ := open_string Try.underlying9 (hval 1 9 v1 rfl rfl) h1
  obtain ⟨a2, rfl, rfl, rfl, w2⟩ := open_int Try.underlying3 (hval 2 3 v2 rfl rfl) h2
  obtain ⟨a3, rfl, rfl, rfl, w3⟩ := open_int Try.underlying5 (hval 3 5 v3 rfl rfl) h3
  clear hA0 hval0
  refine (walk a0 len0 cap0 l0 a1 a2 a3 W w0 n0 m0 z0 w1 w2 w3).mono fun e W' ⟨he, bel⟩ => ?_
  subst he
  exact ⟨_, rfl, _, _, _, [], _, [], hW', trodAll_mk1 (shut_bool Try.underlying4 _), (trodAll_cons_mk (Below.trod laidOut (by kernel_rfl) (of_decide_eq_true (by kernel_rfl)) k0 bel lt0) (trodAll_cons_mk (shut_string Try.underlying9 w1) (trodAll_cons_mk (shut_int Try.underlying3 w2) (trodAll_cons_mk (shut_int Try.underlying5 w3) trodAll_mk0)))), rfl, bel.frame _, fun h => by cases h⟩

theorem over : Rows.hexTellsRow.holds Try.pinned (OpenSpec.ofChange Rows.hexTellsSpec) :=
  OpenClaim.holds_of_wide 4 Try.f4 rfl rfl rfl rfl rfl rfl rfl ⟨rfl, rfl, rfl, rfl, rfl⟩ rfl rfl rfl rfl rfl (by kernel_rfl) Try.func4 (by kernel_rfl)
    (of_decide_eq_true (by kernel_rfl)) (by unfold Func.isWrapper; first | (rw [if_pos (by decide +kernel)]; kernel_rfl) | (rw [if_neg (by decide +kernel)]; exact ⟨rfl, rfl⟩))
    (fun os started H enc _ => lifted os started H enc)

theorem proved : Rows.HexTellsSaid := over
end Go.Proofs.Ytmgdhkgkjimmoaa.hexTells
