/-
  For every slice of bytes and every slice of words: bytes as words, or the error, and words as bytes are the document's answers, and the slice of bytes stays as it was. No condition.
-/
import Derived.Test.YtfdffmfochdacaaWordS
import Derived.Deep.RegionLaw
import Derived.Deep.DeepCutAuto
import Derived.WalkKit
import Derived.ProofKit
import Derived.OpenShut
import Derived.ShutString
import Derived.ChangeOld
import Derived.Below
namespace Go.Proofs.Ytfdffmfochdacaa.wordReads
open Go.ChangeShapes Go.WideShapes Go.ChangeAt Go.RowKit
open Go.ChangeMaps (open_string shut_string)
open Hx Wd
set_option linter.unusedVariables false

theorem own : ownKnob Try.prog.godebug = none := by kernel_rfl
theorem laidOut : laidOutB Try.prog = true := by kernel_rfl

theorem RdA.drew {w : World} {B : Nat} {A : Option Addr} {l : List UInt8} (h : RdA w B A l) : RdA w.drew B A l := h
theorem own_zeroB {w : World} {base : Nat} {e : TypeId} {v : Value} {n : Nat} {l : List UInt8} (h : w.ownsRow base e 1 v (0 + n) ([] ++ Lib.byteCells l)) : w.ownsRow base e 1 v n (Lib.byteCells l) := by simpa using h
theorem own_emptyB (w : World) (base : Nat) (e : TypeId) (hb : base ≤ w.heap.size) : (w.alloc (.cells #[] e)).ownsRow base e 1 (.slice (some ⟨w.heap.size, 0, none⟩) 0 0) 0 [] := World.ownsRow_lit w #[] 0 hb (Nat.zero_le _) rfl

/-- The words, or none, and the error, of bytes. -/
def gotW (b : List UInt8) : List W32 := if 16384 < b.length ∨ b.length % 4 ≠ 0 then [] else wordL b
def gotE (b : List UInt8) : Int := if 16384 < b.length then 4 else if b.length % 4 ≠ 0 then 2 else 0
def OfAll (l : List W32) (n : Nat) (f : Int) (W : World) (e : Ending) (w' : World) : Prop := Below W.heap.size W w' ∧ ∃ A c, e = .returned (.tuple #[.slice A n c, .int .i64 f]) ∧ RdW w' w'.heap.size A l
theorem of_all (g : Nat) (A : Option Addr) (n cp : Nat) (b : List UInt8) (w : World) (hr : RdA w w.heap.size A b) (hn : b.length = n) (l : List W32) (m : Nat) (f : Int) (hl : gotW b = l) (hm : l.length = m) (hf : gotE b = f)
    (many : 16384 < n → Calls Try.prog g #[.slice A n cp] w fun e w' => e = .returned (.tuple #[.slice none 0 0, .int .i64 4]) ∧ Below w.heap.size w w')
    (arg : n ≤ 16384 → n % 4 ≠ 0 → Calls Try.prog g #[.slice A n cp] w fun e w' => e = .returned (.tuple #[.slice none 0 0, .int .i64 2]) ∧ Below w.heap.size w w')
    (ok : n ≤ 16384 → n % 4 = 0 → Calls Try.prog g #[.slice A n cp] w (OfOk b w)) : Calls Try.prog g #[.slice A n cp] w (OfAll l m f w) := by
  subst hn hl hm hf
  by_cases h : 16384 < b.length
  · refine (many h).mono fun e w' ⟨he, hb⟩ => ⟨hb, none, 0, ?_, ?_⟩
    · rw [he, gotE, if_pos h, gotW, if_pos (.inl h)]; rfl
    · rw [gotW, if_pos (.inl h)]; exact RdG.nil _ _ _
  · by_cases h4 : b.length % 4 = 0
    · refine (ok (by omega) h4).mono fun e w' ⟨hb, A', c, he, hr'⟩ => ⟨hb, A', c, ?_, ?_⟩
      · rw [he, gotE, if_neg h, if_neg (by omega), gotW, if_neg (by omega)]
      · rw [gotW, if_neg (by omega)]; exact hr'
    · refine (arg (by omega) h4).mono fun e w' ⟨he, hb⟩ => ⟨hb, none, 0, ?_, ?_⟩
      · rw [he, gotE, if_neg h, if_pos h4, gotW, if_pos (.inr h4)]; rfl
      · rw [gotW, if_pos (.inr h4)]; exact RdG.nil _ _ _
theorem of_one (A : Option Addr) (n cp : Nat) (b : List UInt8) (w : World) (hr : RdA w w.heap.size A b) (hn : b.length = n) (l : List W32) (m : Nat) (f : Int) (hl : gotW b = l) (hm : l.length = m) (hf : gotE b = f) : Calls Try.prog 9 #[.slice A n cp] w (OfAll l m f w) :=
  of_all _ A n cp b w hr hn l m f hl hm hf (of_many A n cp w) (fun h h4 => of_arg A n cp w h h4) (fun h h4 => of_ok A n cp b w hr hn h h4)
theorem of_two (A : Option Addr) (n cp : Nat) (b : List UInt8) (w : World) (hr : RdA w w.heap.size A b) (hn : b.length = n) (l : List W32) (m : Nat) (f : Int) (hl : gotW b = l) (hm : l.length = m) (hf : gotE b = f) : Calls Try.prog 16 #[.slice A n cp] w (OfAll l m f w) :=
  of_all _ A n cp b w hr hn l m f hl hm hf (rof_many A n cp w) (fun h h4 => rof_arg A n cp w h h4) (fun h h4 => rof_ok A n cp b w hr hn h h4)
def ByN (l : List W32) (n : Nat) (W : World) (e : Ending) (w' : World) : Prop := Below W.heap.size W w' ∧ ∃ A c, e = .returned (.slice A (4 * n) c) ∧ RdA w' w'.heap.size A (bytesL l)
theorem bytes_n (A : Option Addr) (n cp : Nat) (l : List W32) (w : World) (hr : RdW w w.heap.size A l) (hn : l.length = n) (hm : n ≤ 100000) : Calls Try.prog 10 #[.slice A n cp] w (ByN l n w) := bytes_any A n cp l w hr hn hm
theorem rbytes_n (A : Option Addr) (n cp : Nat) (l : List W32) (w : World) (hr : RdW w w.heap.size A l) (hn : l.length = n) (hm : n ≤ 100000) : Calls Try.prog 18 #[.slice A n cp] w (ByN l n w) := rbytes_any A n cp l w hr hn hm

set_option maxHeartbeats 2000000 in
set_option maxRecDepth 100000 in
theorem walkBig (a0 : Option Addr) (len0 cap0 : Nat) (a1 : Option Addr) (len1 cap1 : Nat) (w : World) (hbig : (2000 < len0 ∧ len0 ≤ 16384) ∨ 17000 < len0 ∨ 500 < len1) :
    Calls Try.prog 4 #[.slice a0 len0 cap0, .slice a1 len1 cap1] w fun e w' => e = .returned (.bool true) ∧ Below w.heap.size w w' := by
  by_cases h0 : 2000 < len0
  · have t0 : decide ((2000 : Int) < (len0 : Int)) = true := by simp; omega
    by_cases h1 : len0 ≤ 16384
    · have t1 : decide ((len0 : Int) ≤ 16384) = true := by simp; omega
      go_enter Try.func4, Try.ntmps4
      go_wp2_with fail
      go_ret
      exact ⟨rfl, Below.refl _ _⟩
    · have t1 : decide ((len0 : Int) ≤ 16384) = false := by simp; omega
      by_cases h2 : 17000 < len0
      · have t2 : decide ((17000 : Int) < (len0 : Int)) = true := by simp; omega
        go_enter Try.func4, Try.ntmps4
        go_wp2_with fail
        go_ret
        exact ⟨rfl, Below.refl _ _⟩
      · have t2 : decide ((17000 : Int) < (len0 : Int)) = false := by simp; omega
        have t3 : decide ((500 : Int) < (len1 : Int)) = true := by simp; omega
        go_enter Try.func4, Try.ntmps4
        go_wp2_with fail
        go_ret
        exact ⟨rfl, Below.refl _ _⟩
  · have t0 : decide ((2000 : Int) < (len0 : Int)) = false := by simp; omega
    have t2 : decide ((17000 : Int) < (len0 : Int)) = false := by simp; omega
    have t3 : decide ((500 : Int) < (len1 : Int)) = true := by simp; omega
    go_enter Try.func4, Try.ntmps4
    go_wp2_with fail
    go_ret
    exact ⟨rfl, Below.refl _ _⟩

set_option maxHeartbeats 8000000 in
set_option maxRecDepth 100000 in
theorem walkSmall (a0 : Option Addr) (len0 cap0 : Nat) (l0 : List UInt8) (a1 : Option Addr) (len1 cap1 : Nat) (l1 : List W32) (m : Nat) (f : Int) (x : List W32) (w : World) (w0 : RdA w w.heap.size a0 l0) (n0 : l0.length = len0) (z0 : a0 = none → cap0 = 0) (w1 : RdW w w.heap.size a1 l1) (n1 : l1.length = len1)
    (hx : gotW l0 = x) (hxm : x.length = m) (hf : gotE l0 = f) (hm : m ≤ 100000) (h0 : len0 ≤ 2000 ∨ 16384 < len0 ∧ len0 ≤ 17000) (h1 : len1 ≤ 500) :
    Calls Try.prog 4 #[.slice a0 len0 cap0, .slice a1 len1 cap1] w fun e w' => e = .returned (.bool true) ∧ Below w.heap.size w w' := by
  have hs : len0 ≤ 17000 := by omega
  have t1 : (decide ((2000 : Int) < (len0 : Int)) = false ∧ decide ((len0 : Int) ≤ 16384) = true) ∨ (decide ((2000 : Int) < (len0 : Int)) = true ∧ decide ((len0 : Int) ≤ 16384) = false) := by simp; omega
  have t2 : decide ((17000 : Int) < (len0 : Int)) = false := by simp; omega
  have t3 : decide ((500 : Int) < (len1 : Int)) = false := by simp; omega
  obtain ⟨i0, hi, hz0, hz1, hz2⟩ := info_parts info5
  have HI := Lib.hid hi
  have HZ0 := Lib.hid hz0
  have HZ1 := Lib.hid hz1
  have HZ2 := Lib.hid hz2
  have HN0 := Lib.hid n0
  have HN1 := Lib.hid n1
  have HR0 := Lib.hid w0
  have HR1 := Lib.hid w1
  have HC0 := Lib.hid z0
  have HX := Lib.hid hx
  have HM := Lib.hid hxm
  have HF := Lib.hid hf
  have HL1 := Lib.hid (show (bytesL l1).length = 4 * len1 by rw [bytesL_length, n1])
  have HE := Lib.hid (own_emptyB w w.heap.size 5 (Nat.le_refl _))
  have hb1 := stpA (Below.refl w.heap.size w) (.cells #[] 5)
  clear hi hz0 hz1 hz2 n0 n1 w0 w1 z0 hx hxm hf h0
  have H1 := Lib.hid t1
  clear t1
  go_enter Try.func4, Try.ntmps4
  go_upto_region 1 with fail
  go_cut [27] (fun s27 wx => s27 = .bool false ∧ w = wx)
  case first =>
    rcases H1.out with ⟨t0, t1⟩ | ⟨t0, t1⟩
    · go_wp2_with fail
      go_meet
      exact ⟨rfl, rfl⟩
    · go_wp2_with fail
      go_meet
      exact ⟨rfl, rfl⟩
  case rest =>
  obtain ⟨rfl, rfl⟩ := hcut
  go_wp2_with (first
    | (at_builtin; refine wpList_append_rd rfl (.tmp 28) (.tmp 29) 26 rfl w.heap.size 5 i0 (.int .u8 0) Try.underlying26 HI.out HZ0.out HZ1.out HZ2.out rfl _ _ _ rfl HE.out w.heap.size a0 len0 cap0 l0 rfl (HR0.out.below hb1) HN0.out HC0.out (by omega) hb1.size ?_; intro v2 w2 hown2 hgr2; have hb2 := hb1.grown hgr2 hb1.size (fun g hg => (HE.out.lt g hg).1); have hown3 := own_zeroB hown2; clear hown2 hgr2; obtain ⟨A2, c2, hv2⟩ := own_form hown3; subst hv2; have HR2 := Lib.hid (RdA.of_own hown3); clear hown3)
    | (go_at_call 9; (with_reducible refine (of_one A2 len0 c2 l0 w2 HR2.out.1 HN0.out x m f HX.out HM.out HF.out).mono ?_); rintro e w3 ⟨hb3, A3, c3, rfl, hr3⟩; have hb3' := stp hb2 hb3; have HR3 := Lib.hid hr3; clear hr3)
    | (go_at_call 16; (with_reducible refine (of_two a0 len0 cap0 l0 w3 ((HR0.out.below hb3').mono hb3'.size) HN0.out x m f HX.out HM.out HF.out).mono ?_); rintro e w4 ⟨hb4, A4, c4, rfl, hr4⟩; have hb4' := stp hb3' hb4; have HR4 := Lib.hid hr4; clear hr4)
    | fail)
  have KEY : Hid (∀ W, Below w4.heap.size w4 W → (convert 26 9 (.slice A2 len0 c2)).run Try.prog W = .ok (.string ⟨l0.toArray⟩) W ∧ (convert 26 9 (.slice a0 len0 cap0)).run Try.prog W = .ok (.string ⟨l0.toArray⟩) W) := fun W h =>
    ⟨conv_str (HR2.out.1.below (stp (stp hb3 hb4) h)) HN0.out Try.underlying26 Try.underlying5 Try.underlying9, conv_str (HR0.out.below (stp hb4' h)) HN0.out Try.underlying26 Try.underlying5 Try.underlying9⟩
  have hd4 := (Below.refl w4.heap.size w4).drew
  have HR3d : Hid (RdW w4.drew w4.drew.heap.size A3 x) := HR3.out.on hb4.drew
  have HR4d : Hid (RdW w4.drew w4.drew.heap.size A4 x) := HR4.out
  go_region_law (go_simp; first
    | (go_at_call 17; (with_reducible refine (rsame_any A3 A4 m c3 c4 x w4.drew HR3d.out HR4d.out HM.out (by omega)).mono ?_); rintro e w5 ⟨rfl, hb5⟩; have hb5' := stp hd4 hb5; have hb5a := stp hb4' hb5'; have hb5b := hb5')
    | (go_at_call 10; (with_reducible refine (bytes_n a1 len1 cap1 l1 w5 (HR1.out.on hb5a) HN1.out (by omega)).mono ?_); rintro e w6 ⟨hb6, A6, c6, rfl, hr6⟩; have hb6' := stp hb5' hb6; have hb6a := stp hb5a hb6; have cv6 := conv_str (P := Try.prog) (c := c6) hr6 HL1.out Try.underlying26 Try.underlying5 Try.underlying9; have HR6 := Lib.hid hr6; clear hr6)
    | (go_at_call 18; (with_reducible refine (rbytes_n a1 len1 cap1 l1 w6 (HR1.out.on hb6a) HN1.out (by omega)).mono ?_); rintro e w7 ⟨hb7, A7, c7, rfl, hr7⟩; have hb7' := stp hb6' hb7; have hb7a := stp hb6a hb7; have s7 := KEY.out _ hb7'; have s7a := s7.1; have s7b := s7.2; clear s7; have cv7 := conv_str (P := Try.prog) (c := c7) hr7 HL1.out Try.underlying26 Try.underlying5 Try.underlying9; have cv67 := conv_str (P := Try.prog) (c := c6) (HR6.out.below hb7) HL1.out Try.underlying26 Try.underlying5 Try.underlying9; clear hr7))
  all_goals
    go_wp2
    go_ret
    exact ⟨rfl, hb7a⟩

theorem gotW_le (b : List UInt8) (n : Nat) (h : b.length = n) (hn : n ≤ 17000) : (gotW b).length ≤ 100000 := by
  unfold gotW
  split
  · exact Nat.zero_le _
  · rw [wordL_length]; omega
theorem walk (a0 : Option Addr) (len0 cap0 : Nat) (l0 : List UInt8) (a1 : Option Addr) (len1 cap1 : Nat) (l1 : List W32) (w : World) (w0 : RdA w w.heap.size a0 l0) (n0 : l0.length = len0) (m0 : len0 ≤ maxLen) (z0 : a0 = none → cap0 = 0) (w1 : RdW w w.heap.size a1 l1) (n1 : l1.length = len1) (c1 : len1 ≤ cap1) (m1 : cap1 ≤ maxLen) (z1 : a1 = none → cap1 = 0) :
    Calls Try.prog 4 #[.slice a0 len0 cap0, .slice a1 len1 cap1] w fun e w' => e = .returned (.bool true) ∧ Below w.heap.size w w' := by
  by_cases h : (2000 < len0 ∧ len0 ≤ 16384) ∨ 17000 < len0 ∨ 500 < len1
  · exact walkBig a0 len0 cap0 a1 len1 cap1 w h
  · exact walkSmall a0 len0 cap0 l0 a1 len1 cap1 l1 _ _ _ w w0 n0 z0 w1 n1 rfl rfl rfl (gotW_le l0 len0 n0 (by omega)) (by omega) (by omega)

set_option maxRecDepth 100000 in
theorem lifted (os : Os) (started : os.Started) (H : Type) (enc : TypeId × Value → H) :
    ReturnsInHanded {} Try.checked os 4 .any (Rows.wordReadsSpec.pre6 enc Try.prog Try.f4 Rows.wordReadsRow.domain false) (Rows.wordReadsSpec.post enc Try.prog Try.f4 false true false false) := by
  refine returnsInHanded_of_change (C := Try.checked) own started (by kernel_rfl) Try.func4
    (ChangeSpec.witness6 (enc := enc) (C := Try.checked) false ⟨#[], #[.slice none 0 0, .slice none 0 0], []⟩ 8 (by kernel_rfl) (by kernel_rfl) (by kernel_rfl) (by kernel_rfl)) ?_
  intro W base args ds gs before hval0 hW hcnd _
  have hval : ∀ (j : Nat) t v, Try.f4.params[j]? = some t → args[j]? = some v → Value.okWide Try.prog W .any base t v := hval0
  have hW' := hW
  obtain ⟨p, q, hA0, hV, rfl, hfz, hnd⟩ := hW
  have hA : DataW.TrodAll enc Try.prog W 0 (fun _ => true) true Try.f4.params.toList args.toList ds p := hA0
  rw [Try.params4] at hA hval
  obtain ⟨v0, vs0, d0, ds0, p0, q0, hargs, rfl, rfl, h0, r0⟩ := trodAll_cons hA
  obtain ⟨v1, vs1, d1, ds1, p1, q1, rfl, rfl, rfl, h1, r1⟩ := trodAll_cons r0
  obtain ⟨rfl, rfl, rfl⟩ := trodAll_nil r1
  obtain rfl : args = #[v0, v1] := by cases args; simp_all
  obtain ⟨rfl, rfl⟩ := trodVars_none hV
  obtain ⟨a0, len0, cap0, rfl⟩ := okWide_slice Try.underlying26 (hval 0 26 v0 rfl rfl)
  have k0 := h0
  have lt0 : ∀ x ∈ p0, x.block < W.heap.size := by obtain ⟨m, hm⟩ := k0; exact DataW.trod_lt m _ _ _ hm
  obtain ⟨l0, w0, n0, c0, m0, z0⟩ : ∃ l : List UInt8, RdA W W.heap.size a0 l ∧ l.length = len0 ∧ len0 ≤ cap0 ∧ cap0 ≤ maxLen ∧ (a0 = none → cap0 = 0) := by
    obtain ⟨fuel, hf⟩ := h0
    rcases open_ints Try.underlying26 Try.underlying5 (by kernel_rfl) hf with ⟨hcs, _⟩ | ⟨x, l, c, zs, hcs, _, hl, hm, hz, _, hcell, hwz⟩
    · simp [Value.cells] at hcs
      obtain ⟨rfl, rfl, rfl⟩ := hcs
      exact ⟨[], RdA.nil _ _ _, rfl, Nat.le_refl _, Nat.zero_le _, fun _ => rfl⟩
    · simp [Value.cells] at hcs
      obtain ⟨rfl, rfl, rfl⟩ := hcs
      have hz' : zs.length = cap0 := by simpa using hz
      obtain ⟨l, hr, hn⟩ := rdA_of_row hl hz' hcell hwz
      exact ⟨l, hr, hn, hl, hm, fun h => by cases h⟩
  obtain ⟨a1, len1, cap1, rfl⟩ := okWide_slice Try.underlying22 (hval 1 22 v1 rfl rfl)
  have k1 := h1
  have lt1 : ∀ x ∈ p1, x.block < W.heap.size := by obtain ⟨m, hm⟩ := k1; exact DataW.trod_lt m _ _ _ hm
  obtain ⟨l1, w1, n1, c1, m1, z1⟩ : ∃ l : List Wd.W32, RdW W W.heap.size a1 l ∧ l.length = len1 ∧ len1 ≤ cap1 ∧ cap1 ≤ maxLen ∧ (a1 = none → cap1 = 0) := by
    obtain ⟨fuel, hf⟩ := h1
    rcases open_ints Try.underlying22 Try.underlying28 (by kernel_rfl) hf with ⟨hcs, _⟩ | ⟨x, l, c, zs, hcs, _, hl, hm, hz, _, hcell, hwz⟩
    · simp [Value.cells] at hcs
      obtain ⟨rfl, rfl, rfl⟩ := hcs
      exact ⟨[], RdG.nil _ _ _, rfl, Nat.le_refl _, Nat.zero_le _, fun _ => rfl⟩
    · simp [Value.cells] at hcs
      obtain ⟨rfl, rfl, rfl⟩ := hcs
      have hz' : zs.length = cap1 := by simpa using hz
      obtain ⟨l, hr, hn⟩ := rdW_of_row hl hz' hcell hwz
      exact ⟨l, hr, hn, hl, hm, fun h => by cases h⟩
  clear hA0 hval0
  refine (walk a0 len0 cap0 l0 a1 len1 cap1 l1 W w0 n0 (Nat.le_trans c0 m0) z0 w1 n1 c1 m1 z1).mono fun e W' ⟨he, bel⟩ => ?_
  subst he
  exact ⟨_, rfl, _, _, _, [], _, [], hW', trodAll_mk1 (shut_bool Try.underlying4 _), (trodAll_cons_mk (Below.trod laidOut (by kernel_rfl) (of_decide_eq_true (by kernel_rfl)) k0 bel lt0) (trodAll_cons_mk (Below.trod laidOut (by kernel_rfl) (of_decide_eq_true (by kernel_rfl)) k1 bel lt1) trodAll_mk0)), rfl, bel.frame _, fun h => by cases h⟩

theorem over : Rows.wordReadsRow.holds Try.pinned (OpenSpec.ofChange Rows.wordReadsSpec) :=
  OpenClaim.holds_of_wide 4 Try.f4 rfl rfl rfl rfl rfl rfl rfl ⟨rfl, rfl, rfl, rfl, rfl⟩ rfl rfl rfl rfl rfl (by kernel_rfl) Try.func4 (by kernel_rfl)
    (of_decide_eq_true (by kernel_rfl)) (by unfold Func.isWrapper; first | (rw [if_pos (by decide +kernel)]; kernel_rfl) | (rw [if_neg (by decide +kernel)]; exact ⟨rfl, rfl⟩))
    (fun os started H enc _ => lifted os started H enc)

theorem proved : Rows.WordReadsSaid := over
end Go.Proofs.Ytfdffmfochdacaa.wordReads
