/-
  HeadAsks: fields as lines, the values of a name, the only one, how long the content is, whether the connection goes on, and the host, are as the document's own code says, and the fields stay: for all fields (40 at most, 3,000 bytes) and every name of at most 1,000 bytes.
-/
import Derived.Test.YtfdhogaknlabkaaG18
import Derived.WalkKit
import Derived.ProofKit
import Derived.OpenShut
import Derived.ShutString
import Derived.ChangeOld
import Derived.Below
namespace Go.Proofs.Ytfdhogaknlabkaa.headAsks
open Go.ChangeShapes Go.WideShapes Go.ChangeAt Go.RowKit
open Go.ChangeMaps (open_string shut_string)
open Hx Lx Hd
set_option linter.unusedVariables false

theorem own : ownKnob Try.prog.godebug = none := by kernel_rfl
theorem laidOut : laidOutB Try.prog = true := by kernel_rfl

set_option maxHeartbeats 8000000 in
set_option maxRecDepth 100000 in
theorem asks_great (A : Option Addr) (n cp : Nat) (l : List Pr) (nm : ByteArray) (w : World) (hr : RdC PrC w w.heap.size A l) (hn : l.length = n) (hx : n ≤ 9223372036854775807) (hz : A = none → cp = 0) (hg : greatH l = true) : Calls Try.prog 5 #[.slice A n cp, .string nm] w fun e w' => e = .returned (.bool true) ∧ Below w.heap.size w w' := by
  have HG := Lib.hid (rgreat14 A n cp l w hr hn hx true hg)
  have HR0 := Lib.hid hr
  clear hr hn hx hg hz
  go_enter Try.func5, Try.ntmps5
  go_wp2_with (first
    | (go_at_call 20; (with_reducible refine (HG.out).mono ?_); rintro e w1 ⟨rfl, hb1⟩; have HR1 := Lib.hid (HR0.out.on hb1); have HB1 := Lib.hid hb1; clear hb1)
    | fail)
  go_ret
  exact ⟨rfl, HB1.out⟩
set_option maxHeartbeats 8000000 in
set_option maxRecDepth 100000 in
theorem asks_long (A : Option Addr) (n cp : Nat) (l : List Pr) (nm : ByteArray) (w : World) (hr : RdC PrC w w.heap.size A l) (hn : l.length = n) (hx : n ≤ 9223372036854775807) (hz : A = none → cp = 0) (hg : greatH l = false) (hs : 1000 < nm.size) : Calls Try.prog 5 #[.slice A n cp, .string nm] w fun e w' => e = .returned (.bool true) ∧ Below w.heap.size w w' := by
  have HG := Lib.hid (rgreat14 A n cp l w hr hn hx false hg)
  have HR0 := Lib.hid hr
  have d1 : decide ((1000 : Int) < (nm.size : Int)) = true := decide_eq_true (by omega)
  clear hr hn hx hg hs hz
  go_enter Try.func5, Try.ntmps5
  go_wp2_with (first
    | (go_at_call 20; (with_reducible refine (HG.out).mono ?_); rintro e w1 ⟨rfl, hb1⟩; have HR1 := Lib.hid (HR0.out.on hb1); have HB1 := Lib.hid hb1; clear hb1)
    | fail)
  go_ret
  exact ⟨rfl, HB1.out⟩
set_option maxHeartbeats 16000000 in
set_option maxRecDepth 100000 in
theorem asks_in (A : Option Addr) (n cp : Nat) (l : List Pr) (nm : ByteArray) (w : World) (hr : RdC PrC w w.heap.size A l) (hn : l.length = n) (hx : n ≤ 9223372036854775807) (hz : A = none → cp = 0) (hg : greatH l = false) (hs : nm.size ≤ 1000) : Calls Try.prog 5 #[.slice A n cp, .string nm] w fun e w' => e = .returned (.bool true) ∧ Below w.heap.size w w' := by
  have HG := Lib.hid (rgreat14 A n cp l w hr hn hx false hg)
  obtain ⟨g1, g2, g3⟩ := great_no14 hg
  obtain ⟨j0, hj, hy0, hy1, hy2⟩ := info_parts infoPr
  have HI := Lib.hid hj
  have HZ0 := Lib.hid hy0
  have HZ1 := Lib.hid hy1
  have HZ2 := Lib.hid hy2
  have HN := Lib.hid hn
  have HNZ := Lib.hid hz
  have HR0 := Lib.hid hr
  have d1 : decide ((1000 : Int) < (nm.size : Int)) = false := decide_eq_false (by omega)
  have hn40 : n ≤ 40 := by omega
  have HN40 := Lib.hid hn40
  have hm1 : n ≤ 1000 := by omega
  have hnm : nm.size ≤ 1000000 := by omega
  obtain ⟨tl, q1, hw⟩ : ∃ t q, writeH l = (t, q) := ⟨_, _, rfl⟩
  obtain ⟨t, ht⟩ : ∃ t : ByteArray, tl = t.data.toList := ⟨⟨tl.toArray⟩, by simp⟩
  rw [ht] at hw
  obtain ⟨vl, b2, q2, ho⟩ : ∃ v b q, oneH l nm.data.toList = (v, b, q) := ⟨_, _, _, rfl⟩
  obtain ⟨v, hv⟩ : ∃ v : ByteArray, vl = v.data.toList := ⟨⟨vl.toArray⟩, by simp⟩
  rw [hv] at ho
  obtain ⟨K, N, q3, hf⟩ : ∃ K N q, frameH l = (K, N, q) := ⟨_, _, _, rfl⟩
  obtain ⟨k, hk⟩ : ∃ k : Int, (K : Int) = k := ⟨_, rfl⟩
  obtain ⟨b4, q4, hkp⟩ : ∃ b q, keepH l = (b, q) := ⟨_, _, rfl⟩
  obtain ⟨ul, q5, hh⟩ : ∃ u q, hostH l = (u, q) := ⟨_, _, rfl⟩
  obtain ⟨u, hu⟩ : ∃ u : ByteArray, ul = u.data.toList := ⟨⟨ul.toArray⟩, by simp⟩
  rw [hu] at hh
  obtain ⟨m, hm⟩ : ∃ m, (findH l nm.data.toList).length = m := ⟨_, rfl⟩
  have hml : m ≤ 1000000 := by have := find_len l nm.data.toList; omega
  have HW1 : Hid (∀ A c W, RdC PrC W W.heap.size A l → Calls Try.prog 21 #[.slice A n c] W fun e w' => e = .returned (.tuple #[.string t, .int .i64 q1]) ∧ Below W.heap.size W w') := Lib.hid fun A c W h => write14 A n c l W h hn hm1 g2 t q1 hw
  have HW2 : Hid (∀ A c W, RdC PrC W W.heap.size A l → Calls Try.prog 22 #[.slice A n c] W fun e w' => e = .returned (.tuple #[.string t, .int .i64 q1]) ∧ Below W.heap.size W w') := Lib.hid fun A c W h => rwrite14 A n c l W h hn hm1 g2 t q1 hw
  have HO1 : Hid (∀ A c W, RdC PrC W W.heap.size A l → Calls Try.prog 23 #[.slice A n c, .string nm] W fun e w' => e = .returned (.tuple #[.string v, .bool b2, .int .i64 q2]) ∧ Below W.heap.size W w') := Lib.hid fun A c W h => one14 A n c l nm W h hn hm1 g2 hnm v b2 q2 ho
  have HO2 : Hid (∀ A c W, RdC PrC W W.heap.size A l → Calls Try.prog 24 #[.slice A n c, .string nm] W fun e w' => e = .returned (.tuple #[.string v, .bool b2, .int .i64 q2]) ∧ Below W.heap.size W w') := Lib.hid fun A c W h => rone14 A n c l nm W h hn hm1 g2 hnm v b2 q2 ho
  have HF1 : Hid (∀ A c W, RdC PrC W W.heap.size A l → Calls Try.prog 25 #[.slice A n c] W fun e w' => e = .returned (.tuple #[.int .u8 k, .int .i64 N, .int .i64 q3]) ∧ Below W.heap.size W w') := Lib.hid fun A c W h => hk ▸ frame14 A n c l W h hn hm1 g2 K N q3 hf
  have HF2 : Hid (∀ A c W, RdC PrC W W.heap.size A l → Calls Try.prog 26 #[.slice A n c] W fun e w' => e = .returned (.tuple #[.int .u8 k, .int .i64 N, .int .i64 q3]) ∧ Below W.heap.size W w') := Lib.hid fun A c W h => hk ▸ rframe14 A n c l W h hn hm1 g2 K N q3 hf
  have HK1 : Hid (∀ A c W, RdC PrC W W.heap.size A l → Calls Try.prog 14 #[.slice A n c] W fun e w' => e = .returned (.tuple #[.bool b4, .int .i64 q4]) ∧ Below W.heap.size W w') := Lib.hid fun A c W h => keep14 A n c l W h hn hm1 g2 b4 q4 hkp
  have HK2 : Hid (∀ A c W, RdC PrC W W.heap.size A l → Calls Try.prog 27 #[.slice A n c] W fun e w' => e = .returned (.tuple #[.bool b4, .int .i64 q4]) ∧ Below W.heap.size W w') := Lib.hid fun A c W h => rkeep14 A n c l W h hn hm1 g2 b4 q4 hkp
  have HH1 : Hid (∀ A c W, RdC PrC W W.heap.size A l → Calls Try.prog 15 #[.slice A n c] W fun e w' => e = .returned (.tuple #[.string u, .int .i64 q5]) ∧ Below W.heap.size W w') := Lib.hid fun A c W h => host14 A n c l W h hn hm1 g2 u q5 hh
  have HH2 : Hid (∀ A c W, RdC PrC W W.heap.size A l → Calls Try.prog 28 #[.slice A n c] W fun e w' => e = .returned (.tuple #[.string u, .int .i64 q5]) ∧ Below W.heap.size W w') := Lib.hid fun A c W h => rhost14 A n c l W h hn hm1 g2 u q5 hh
  have HD1 : Hid (∀ A c W, RdC PrC W W.heap.size A l → Calls Try.prog 30 #[.slice A n c, .string nm] W fun e w' => Below W.heap.size W w' ∧ ∃ A c, e = .returned (.slice A m c) ∧ RdG encS w' w'.heap.size A ((findH l nm.data.toList).map mkB)) := Lib.hid fun A c W h => (find14 A n c l nm W h hn hm1 g2 hnm).mono fun e w' ⟨k1, A, c, k2, _, k3⟩ => ⟨k1, A, c, hm ▸ k2, k3⟩
  have HD2 : Hid (∀ A c W, RdC PrC W W.heap.size A l → Calls Try.prog 31 #[.slice A n c, .string nm] W fun e w' => Below W.heap.size W w' ∧ ∃ A c, e = .returned (.slice A m c) ∧ RdG encS w' w'.heap.size A ((findH l nm.data.toList).map mkB)) := Lib.hid fun A c W h => (rfind14 A n c l nm W h hn hm1 g2 hnm).mono fun e w' ⟨k1, A, c, k2, _, k3⟩ => ⟨k1, A, c, hm ▸ k2, k3⟩
  have HS : Hid (∀ A1 c1 A2 c2 W, RdG encS W W.heap.size A1 ((findH l nm.data.toList).map mkB) → RdG encS W W.heap.size A2 ((findH l nm.data.toList).map mkB) → Calls Try.prog 29 #[.slice A1 m c1, .slice A2 m c2] W fun e w' => e = .returned (.bool true) ∧ Below W.heap.size W w') := Lib.hid fun A1 c1 A2 c2 W k1 k2 => rsameS A1 A2 m m c1 c2 _ _ true W k1 k2 (by rw [List.length_map]; exact hm) (by rw [List.length_map]; exact hm) ⟨hml, hml⟩ (decide_eq_true rfl)
  have HP : Hid (∀ A1 c1 A2 c2 W, RdC PrC W W.heap.size A1 l → RdC PrC W W.heap.size A2 l → Calls Try.prog 19 #[.slice A1 n c1, .slice A2 n c2] W fun e w' => e = .returned (.bool true) ∧ Below W.heap.size W w') := Lib.hid fun A1 c1 A2 c2 W k1 k2 => rpairs9 A1 A2 n c1 n c2 l l W k1 hn k2 hn (by omega) (by omega) true (decide_eq_true rfl)
  have y0 : (q1 == q1) = true := by simp
  have y1 : (q2 == q2) = true := by simp
  have y2 : (q3 == q3) = true := by simp
  have y3 : (q4 == q4) = true := by simp
  have y4 : (q5 == q5) = true := by simp
  have y5 : (N == N) = true := by simp
  have y6 : (k == k) = true := by simp
  have y7 : (b2 == b2) = true := by simp
  have y8 : (b4 == b4) = true := by simp
  clear hr hn hx hg hs hz g1 g2 g3 hn40 hm1 hnm hw ht ho hv hf hk hkp hh hu hm hml hj hy0 hy1 hy2
  go_enter Try.func5, Try.ntmps5
  go_wp2_with (first
    | (go_at_call 20; (with_reducible refine (HG.out).mono ?_); rintro e w1 ⟨rfl, hb1⟩; have HR1 := Lib.hid (HR0.out.on hb1); have HB1 := Lib.hid hb1; clear hb1)
    | (at_builtin; refine wpList_append_pr rfl (.tmp 38) (.tmp 39) 28 rfl w1.heap.size 25 j0 (.agg #[.string ⟨#[]⟩, .string ⟨#[]⟩]) Try.underlying28 HI.out HZ0.out HZ1.out HZ2.out rfl _ rfl (own_empty w1 25 2) _ A n cp l rfl (HR1.out.on (stpA (Below.refl _ _) (.cells #[] 25))) HN.out HNZ.out (by have := HN40.out; omega) (by rw [World.size_alloc]; omega) ?_; intro v2 w2 hown2 hgr2; obtain ⟨A2, c2, rfl⟩ := own_form2 hown2; have hat2 := (own_attrs hown2).1; rw [map_pbOf] at hat2; have HQ2 := Lib.hid hat2; have hb2 : Below w1.heap.size w1 w2 := (stpA (Below.refl _ _) (.cells #[] 25)).grown hgr2 (by rw [World.size_alloc]; omega) (fun g hg => ((own_empty w1 25 2).lt g hg).1); have HR2 := Lib.hid (HR1.out.on hb2); have HB2 := Lib.hid (stp HB1.out hb2); clear hown2 hgr2 hat2 hb2)
    | (go_at_call 21; (with_reducible refine (HW1.out A2 c2 w2 HQ2.out).mono ?_); rintro e w3 ⟨rfl, hb3⟩; have HR3 := Lib.hid (HR2.out.on hb3); have HQ3 := Lib.hid (HQ2.out.on hb3); have HB3 := Lib.hid (stp HB2.out hb3); clear hb3)
    | (go_at_call 22; (with_reducible refine (HW2.out A cp w3 HR3.out).mono ?_); rintro e w4 ⟨rfl, hb4⟩; have HR4 := Lib.hid (HR3.out.on hb4); have HQ4 := Lib.hid (HQ3.out.on hb4); have HB4 := Lib.hid (stp HB3.out hb4); clear hb4)
    | (go_at_call 23; (with_reducible refine (HO1.out A2 c2 w4 HQ4.out).mono ?_); rintro e w5 ⟨rfl, hb5⟩; have HR5 := Lib.hid (HR4.out.on hb5); have HQ5 := Lib.hid (HQ4.out.on hb5); have HB5 := Lib.hid (stp HB4.out hb5); clear hb5)
    | (go_at_call 24; (with_reducible refine (HO2.out A cp w5 HR5.out).mono ?_); rintro e w6 ⟨rfl, hb6⟩; have HR6 := Lib.hid (HR5.out.on hb6); have HQ6 := Lib.hid (HQ5.out.on hb6); have HB6 := Lib.hid (stp HB5.out hb6); clear hb6)
    | (go_at_call 25; (with_reducible refine (HF1.out A2 c2 w6 HQ6.out).mono ?_); rintro e w7 ⟨rfl, hb7⟩; have HR7 := Lib.hid (HR6.out.on hb7); have HQ7 := Lib.hid (HQ6.out.on hb7); have HB7 := Lib.hid (stp HB6.out hb7); clear hb7)
    | (go_at_call 26; (with_reducible refine (HF2.out A cp w7 HR7.out).mono ?_); rintro e w8 ⟨rfl, hb8⟩; have HR8 := Lib.hid (HR7.out.on hb8); have HQ8 := Lib.hid (HQ7.out.on hb8); have HB8 := Lib.hid (stp HB7.out hb8); clear hb8)
    | (go_at_call 14; (with_reducible refine (HK1.out A2 c2 w8 HQ8.out).mono ?_); rintro e w9 ⟨rfl, hb9⟩; have HR9 := Lib.hid (HR8.out.on hb9); have HQ9 := Lib.hid (HQ8.out.on hb9); have HB9 := Lib.hid (stp HB8.out hb9); clear hb9)
    | (go_at_call 27; (with_reducible refine (HK2.out A cp w9 HR9.out).mono ?_); rintro e w10 ⟨rfl, hb10⟩; have HR10 := Lib.hid (HR9.out.on hb10); have HQ10 := Lib.hid (HQ9.out.on hb10); have HB10 := Lib.hid (stp HB9.out hb10); clear hb10)
    | (go_at_call 15; (with_reducible refine (HH1.out A2 c2 w10 HQ10.out).mono ?_); rintro e w11 ⟨rfl, hb11⟩; have HR11 := Lib.hid (HR10.out.on hb11); have HQ11 := Lib.hid (HQ10.out.on hb11); have HB11 := Lib.hid (stp HB10.out hb11); clear hb11)
    | (go_at_call 28; (with_reducible refine (HH2.out A cp w11 HR11.out).mono ?_); rintro e w12 ⟨rfl, hb12⟩; have HR12 := Lib.hid (HR11.out.on hb12); have HQ12 := Lib.hid (HQ11.out.on hb12); have HB12 := Lib.hid (stp HB11.out hb12); clear hb12)
    | (go_at_call 30; (with_reducible refine (HD1.out A2 c2 w12 HQ12.out).mono ?_); rintro e w13 ⟨hb13, A13, c13, rfl, hs13⟩; have HR13 := Lib.hid (HR12.out.on hb13); have HQ13 := Lib.hid (HQ12.out.on hb13); have HB13 := Lib.hid (stp HB12.out hb13); have HS13 := Lib.hid hs13; clear hb13 hs13)
    | (go_at_call 31; (with_reducible refine (HD2.out A cp w13 HR13.out).mono ?_); rintro e w14 ⟨hb14, A14, c14, rfl, hs14⟩; have HR14 := Lib.hid (HR13.out.on hb14); have HQ14 := Lib.hid (HQ13.out.on hb14); have HB14 := Lib.hid (stp HB13.out hb14); have HS13b := Lib.hid (HS13.out.on hb14); have HS14 := Lib.hid hs14; clear hb14 hs14)
    | (go_at_call 29; (with_reducible refine (HS.out A13 c13 A14 c14 w14 HS13b.out HS14.out).mono ?_); rintro e w15 ⟨rfl, hb15⟩; have HR15 := Lib.hid (HR14.out.on hb15); have HQ15 := Lib.hid (HQ14.out.on hb15); have HB15 := Lib.hid (stp HB14.out hb15); clear hb15)
    | (go_at_call 19; (with_reducible refine (HP.out A2 c2 A cp w15 HQ15.out HR15.out).mono ?_); rintro e w16 ⟨rfl, hb16⟩; have HB16 := Lib.hid (stp HB15.out hb16); clear hb16)
    | fail)
  go_ret
  exact ⟨rfl, HB16.out⟩
theorem walk (A : Option Addr) (n cp : Nat) (l : List Pr) (nm : ByteArray) (w : World) (hr : RdC PrC w w.heap.size A l) (hn : l.length = n) (hc : n ≤ cp) (hm : cp ≤ maxLen) (hz : A = none → cp = 0) (ws : nm.size ≤ maxLen) : Calls Try.prog 5 #[.slice A n cp, .string nm] w fun e w' => e = .returned (.bool true) ∧ Below w.heap.size w w' := by
  have hx : n ≤ 9223372036854775807 := by unfold maxLen at hm; omega
  cases hg : greatH l with
  | true => exact asks_great A n cp l nm w hr hn hx hz hg
  | false =>
    by_cases hs : 1000 < nm.size
    · exact asks_long A n cp l nm w hr hn hx hz hg hs
    · exact asks_in A n cp l nm w hr hn hx hz hg (by omega)

set_option maxRecDepth 100000 in
theorem lifted (os : Os) (started : os.Started) (H : Type) (enc : TypeId × Value → H) :
    ReturnsInHanded {} Try.checked os 5 .any (Rows.headAsksSpec.pre6 enc Try.prog Try.f5 Rows.headAsksRow.domain false) (Rows.headAsksSpec.post enc Try.prog Try.f5 false true false false) := by
  refine returnsInHanded_of_change (C := Try.checked) own started (by kernel_rfl) Try.func5
    (ChangeSpec.witness6 (enc := enc) (C := Try.checked) false ⟨#[], #[.slice none 0 0, .string ByteArray.empty], []⟩ 8 (by kernel_rfl) (by kernel_rfl) (by kernel_rfl) (by kernel_rfl)) ?_
  intro W base args ds gs before hval0 hW hcnd _
  have hval : ∀ (j : Nat) t v, Try.f5.params[j]? = some t → args[j]? = some v → Value.okWide Try.prog W .any base t v := hval0
  have hW' := hW
  obtain ⟨p, q, hA0, hV, rfl, hfz, hnd⟩ := hW
  have hA : DataW.TrodAll enc Try.prog W 0 (fun _ => true) true Try.f5.params.toList args.toList ds p := hA0
  rw [Try.params5] at hA hval
  obtain ⟨v0, vs0, d0, ds0, p0, q0, hargs, rfl, rfl, h0, r0⟩ := trodAll_cons hA
  obtain ⟨v1, vs1, d1, ds1, p1, q1, rfl, rfl, rfl, h1, r1⟩ := trodAll_cons r0
  obtain ⟨rfl, rfl, rfl⟩ := trodAll_nil r1
  obtain rfl : args = #[v0, v1] := by cases args; simp_all
  obtain ⟨rfl, rfl⟩ := trodVars_none hV
  obtain ⟨a0, len0, cap0, rfl⟩ := okWide_slice Try.underlying28 (hval 0 28 v0 rfl rfl)
  have k0 := h0
  have lt0 : ∀ x ∈ p0, x.block < W.heap.size := by obtain ⟨m, hm⟩ := k0; exact DataW.trod_lt m _ _ _ hm
  obtain ⟨l0, w0, n0, c0, m0, z0⟩ : ∃ l : List Pr, RdC PrC W W.heap.size a0 l ∧ l.length = len0 ∧ len0 ≤ cap0 ∧ cap0 ≤ maxLen ∧ (a0 = none → cap0 = 0) := by
    obtain ⟨fuel, hf⟩ := h0
    obtain ⟨l, A, c, e1, e2, e3, e4, e5⟩ := opens_pairs14 _ _ _ _ _ _ hf
    simp [Value.cells] at e1
    obtain ⟨rfl, rfl, rfl⟩ := e1
    exact ⟨l, e5, rfl, e2, e3, e4⟩
  obtain ⟨a1, rfl, rfl, rfl, w1⟩ := open_string Try.underlying9 (hval 1 9 v1 rfl rfl) h1
  clear hA0 hval0
  refine (walk a0 len0 cap0 l0 a1 W w0 n0 c0 m0 z0 w1).mono fun e W' ⟨he, bel⟩ => ?_
  subst he
  exact ⟨_, rfl, _, _, _, [], _, [], hW', trodAll_mk1 (shut_bool Try.underlying4 _), (trodAll_cons_mk (Below.trod laidOut (by kernel_rfl) (of_decide_eq_true (by kernel_rfl)) k0 bel lt0) (trodAll_cons_mk (shut_string Try.underlying9 w1) trodAll_mk0)), rfl, bel.frame _, fun h => by cases h⟩

theorem over : Rows.headAsksRow.holds Try.pinned (OpenSpec.ofChange Rows.headAsksSpec) :=
  OpenClaim.holds_of_wide 5 Try.f5 rfl rfl rfl rfl rfl rfl rfl ⟨rfl, rfl, rfl, rfl, rfl⟩ rfl rfl rfl rfl rfl (by kernel_rfl) Try.func5 (by kernel_rfl)
    (of_decide_eq_true (by kernel_rfl)) (by unfold Func.isWrapper; first | (rw [if_pos (by decide +kernel)]; kernel_rfl) | (rw [if_neg (by decide +kernel)]; exact ⟨rfl, rfl⟩))
    (fun os started H enc _ => lifted os started H enc)

theorem proved : Rows.HeadAsksSaid := over
end Go.Proofs.Ytfdhogaknlabkaa.headAsks
