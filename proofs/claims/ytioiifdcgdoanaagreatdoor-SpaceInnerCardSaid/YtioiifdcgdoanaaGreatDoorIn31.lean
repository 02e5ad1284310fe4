/-
  Texts of one seat, put together: SpaX, SpiA, SpiB.
-/
import Derived.Test.YtioiifdcgdoanaaGreatDoorIn29
import Derived.Test.YtioiifdcgdoanaaGreatDoorIn30
import Derived.BigQuiet
namespace Go.Proofs.YtioiifdcgdoanaaGreatDoor
open Go.RowKit
namespace Hx
open Lx Tr Tx Nmb Es Ns
set_option linter.unusedVariables false
theorem NotGreat.up {m : Nat} {n : Nd} (h : NotGreat m n) (hm : m < 20000) : SmallU m n :=
  ⟨by have := h.space; omega, by have := h.name; omega, by have := h.text; omega, by have := h.attrs; omega, fun a ha => by obtain ⟨h1, h2, h3⟩ := h.each a ha; exact ⟨by omega, by omega, by omega⟩⟩
theorem inner_tail {v x : List Nd} {s : List UInt8} (h : bareR v s = (x, 0)) : ∃ n l, v = n :: l ∧ mayV v = true ∧ x = bareN s n :: (walkK (walkD bareF bareDn 11 n.space) n.many.toNat l).1.1 := by
  unfold bareR at h
  split at h
  · rename_i hm
    split at h
    · injection h with h _
      have hv := (mayS_iff.1 hm.1).2
      obtain ⟨n, l, rfl, hk⟩ := (mayV_iff.1 hv).2.1
      refine ⟨n, l, rfl, hv, ?_⟩
      rw [← h]
      unfold bareW
      rw [walkD_elem (by omega)]
      rfl
    · injection h with _ h
      cases h
  · injection h with _ h
    cases h
theorem infoNdS2 : (Tryz.prog.info? 28).map (·.size) = some 6 := by kernel_rfl
theorem nds_tail {w : World} {b off n c : Nat} {v : List Nd} (hr : RdB NdS w (some ⟨b, off, none⟩) v) (hn : v.length = n) (h1 : 1 ≤ n) (hnc : n ≤ c) :
    ∃ A', RdB NdS w A' (v.drop 1) ∧ ∀ W, (Instr.slice 29 (.slice (some ⟨b, off, none⟩) n c) (some (.int .i64 1)) none none).run Tryz.prog W = .ok (.slice A' (n - 1) (c - 1)) W := by
  have hel : Tryz.prog.elem 29 = 28 := by simp [Program.elem, Tryz.underlying29]
  have htt : Tryz.prog.underlying 29 = some (.slice (Tryz.prog.elem 29)) := by rw [hel]; exact Tryz.underlying29
  obtain ⟨i0, hi, hz⟩ : ∃ i0, Tryz.prog.info? 28 = some i0 ∧ i0.size = 6 := by
    have h := infoNdS2
    cases hq : Tryz.prog.info? 28 with
    | none => rw [hq] at h; cases h
    | some i0 => rw [hq] at h; exact ⟨i0, rfl, Option.some.inj h⟩
  have hs : ∀ W, (sizeOf 28).run Tryz.prog W = .ok 6 W := fun W => by simp [sizeOf, typeInfo, hi, hz]
  have hrun : ∀ W, (Instr.slice 29 (.slice (some ⟨b, off, none⟩) n c) (some (.int .i64 1)) none none).run Tryz.prog W = .ok (sliced (some ⟨b, off, none⟩) 1 n c 6) W := fun W => by
    rw [run_slice_l W 29 _ n c htt .i64 1 (by omega) (by omega), hel, hs]
    rfl
  by_cases hc : c = 1
  · refine ⟨some ⟨b, off, none⟩, ?_, fun W => ?_⟩
    · rw [List.drop_eq_nil_of_le (by omega)]
      exact RdS.nil _ _ _
    · rw [hrun W]
      unfold sliced
      rw [if_pos hc]
  · refine ⟨some ⟨b, off + 1 * 6, none⟩, RdS.drop (C := NdS) hr 1, fun W => ?_⟩
    rw [hrun W]
    unfold sliced
    rw [if_neg hc]
    simp [addr_plain]
theorem ats_tail1 {w : World} {b off n c : Nat} {l : List At} (hn : l.length = n) (hnc : n ≤ c) (hc : c = 1) : RdB AtS w (some ⟨b, off, none⟩) (l.drop 1) := by
  rw [List.drop_eq_nil_of_le (by omega)]
  exact RdS.nil _ _ _
theorem ats_tail2 {w : World} {b off : Nat} {l : List At} (hr : RdB AtS w (some ⟨b, off, none⟩) l) : RdB AtS w (some ⟨b, off + 3, none⟩) (l.drop 1) := RdS.drop (C := AtS) hr 1
end Hx
end Go.Proofs.YtioiifdcgdoanaaGreatDoor
namespace Go.Proofs.YtioiifdcgdoanaaGreatDoor
open Go.RowKit
namespace Hx
open Lx Tr Tx Nmb Es Ns
set_option maxRecDepth 100000
set_option maxHeartbeats 16000000
set_option linter.unusedVariables false
theorem NodesTo.full {l : List Nd} {z : Int} {w w' : World} {e : Ending} {n : Nat} (h : NodesTo l z w e w') (hn : l.length = n) : ∃ A c, e = .returned (.tuple #[.slice A n c, .int .i64 z]) ∧ RdB NdS w' A l ∧ n ≤ c ∧ Below w.heap.size w w' := by
  obtain ⟨A, c, h1, h2, h3⟩ := h
  exact ⟨A, c, by rw [← hn]; exact h1, h2.all, by rw [← hn]; exact h2.le, h3⟩
def restL (n : Nd) : List At := numD 0 (spacesL [] n.attrs) ++ n.attrs.map (bareA (spacesL [] n.attrs))
theorem bareL_yes {o : List UInt8} {n : Nd} (h : decide (n.space = o) = true) : bareL o n = restL n := by
  unfold bareL ownD restL
  rw [if_pos (of_decide_eq_true h), List.nil_append]
theorem bareL_no {o : List UInt8} {n : Nd} (h : decide (n.space = o) = false) : bareL o n = ⟨[], xmlns5, n.space⟩ :: restL n := by
  unfold bareL ownD restL
  rw [if_neg (of_decide_eq_false h)]
  rfl
theorem inner11 (A : Option Addr) (n c : Nat) (v : List Nd) (s u : ByteArray) (w : World) (hr : RdB NdS w A v) (hn : v.length = n) (hmax : n ≤ 9223372036854775807) (ms : s.size ≤ 9223372036854775807) (mu : u.size ≤ 9223372036854775807) (hE : Ev9 w) (hT : TbH w) :
    Calls Tryz.prog 7 #[.slice A n c, .string s, .string u] w fun e w' => e = .returned (.bool true) ∧ Below w.heap.size w w' := by
  have HAL := Lib.hid (alive11 w hE hT)
  have HR := Lib.hid hr
  have HN := Lib.hid hn
  have HG1 : Hid (∀ W, Below w.heap.size w W → Calls Tryz.prog 18 #[.slice A n c, .int .i64 100, .int .i64 5000] W (GreatTo v 100 5000 W)) := Lib.hid fun W hW => rgreat10 A n c v 100 5000 W (hr.on hW) hn (by decide) (by decide) hmax
  clear hr hn hmax
  by_cases zs : s.size ≤ 1000
  case neg =>
    have gs : (1000 : Int) < (s.size : Int) := by omega
    clear hE hT
    go_enter Tryz.func7, Tryz.ntmps7
    go_wp2_with (first
      | (go_at_call 17; (with_reducible refine (HAL.out).mono ?_); rintro e1 w1 ⟨rfl, hb1⟩; have HB1 := Lib.hid hb1; clear hb1)
      | (go_at_call 18; (with_reducible refine (HG1.out w1 HB1.out).mono ?_); rintro e2 w2 ⟨qa, rfl, hb2, hqa⟩; have HB2 := Lib.hid (stp HB1.out hb2); have HQA := Lib.hid hqa; clear hb2 hqa)
      | fail)
    all_goals (go_ret; exact ⟨rfl, HB2.out⟩)
  have gs : ¬ (1000 : Int) < (s.size : Int) := by omega
  by_cases zu : u.size ≤ 1000
  case neg =>
    have gu : (1000 : Int) < (u.size : Int) := by omega
    clear hE hT
    go_enter Tryz.func7, Tryz.ntmps7
    go_wp2_with (first
      | (go_at_call 17; (with_reducible refine (HAL.out).mono ?_); rintro e1 w1 ⟨rfl, hb1⟩; have HB1 := Lib.hid hb1; clear hb1)
      | (go_at_call 18; (with_reducible refine (HG1.out w1 HB1.out).mono ?_); rintro e2 w2 ⟨qa, rfl, hb2, hqa⟩; have HB2 := Lib.hid (stp HB1.out hb2); have HQA := Lib.hid hqa; clear hb2 hqa)
      | fail)
    all_goals (go_ret; exact ⟨rfl, HB2.out⟩)
  have gu : ¬ (1000 : Int) < (u.size : Int) := by omega
  go_enter Tryz.func7, Tryz.ntmps7
  go_upto_region 4 with (first
    | (go_at_call 17; (with_reducible refine (HAL.out).mono ?_); rintro e1 w1 ⟨rfl, hb1⟩; have HB1 := Lib.hid hb1; clear hb1)
    | (go_at_call 18; (with_reducible refine (HG1.out w1 HB1.out).mono ?_); rintro e2 w2 ⟨qa, rfl, hb2, hqa⟩; have HB2 := Lib.hid (stp HB1.out hb2); have HQA := Lib.hid hqa; clear hb2 hqa)
    | fail)
  · go_ret
    exact ⟨rfl, HB2.out⟩
  · obtain rfl : qa = false := by
      cases qa
      · rfl
      · first | exact absurd rfl (by assumption) | assumption | simp_all
    have hsm1 : ∀ m ∈ v, SmallU 5000 m := fun m hm => ((HQA.out rfl).2 m hm).up (by decide)
    have hle : n ≤ 100 := by have := (HQA.out rfl).1; have := HN.out; omega
    obtain ⟨x, e0, hx⟩ : ∃ x e0, bareR v s.data.toList = (x, e0) := ⟨_, _, rfl⟩
    obtain ⟨y, f0, hy⟩ : ∃ y f0, bareR v u.data.toList = (y, f0) := ⟨_, _, rfl⟩
    obtain ⟨nx, hnx⟩ : ∃ nx, x.length = nx := ⟨_, rfl⟩
    obtain ⟨ny, hny⟩ : ∃ ny, y.length = ny := ⟨_, rfl⟩
    have HBS := Lib.hid ((bare_to A n c v s w2 (HR.out.on HB2.out) HN.out (by omega) (fun _ m hm => (hsm1 m hm).up (by decide)) (by omega) (hT.to HB2.out) x e0 hx).mono fun e w' hh => hh.full hnx)
    have HBU : Hid (∀ W, Below w.heap.size w W → Calls Tryz.prog 16 #[.slice A n c, .string u] W fun e w' => ∃ A c, e = .returned (.tuple #[.slice A ny c, .int .i64 f0]) ∧ RdB NdS w' A y ∧ ny ≤ c ∧ Below W.heap.size W w') := Lib.hid fun W hW => (bare_to A n c v u W (HR.out.on hW) HN.out (by omega) (fun _ m hm => (hsm1 m hm).up (by decide)) (by omega) (hT.to hW) y f0 hy).mono fun e w' hh => hh.full hny
    by_cases he : e0 = 0
    case neg =>
      have fe : (e0 == 0) = false := by simp; exact he
      clear hx hy hnx hny hsm1
      go_wp2_with (first
        | (go_at_call 16; (with_reducible refine (HBS.out).mono ?_); rintro e3 w3 ⟨A3, c3, rfl, hr3, hc3, hb3⟩; have HR3 := Lib.hid hr3; have HC3 := Lib.hid hc3; have HB3 := Lib.hid (stp HB2.out hb3); clear hr3 hc3 hb3)
        | (go_at_call 16; (with_reducible refine (HBU.out w3 HB3.out).mono ?_); rintro e4 w4 ⟨A4, c4, rfl, hr4, hc4, hb4⟩; have HR34 := Lib.hid (HR3.out.on hb4); have HR4 := Lib.hid hr4; have HC4 := Lib.hid hc4; have HB4 := Lib.hid (stp HB3.out hb4); clear hr4 hc4 hb4)
        | fail)
      go_ret
      exact ⟨by first | rfl | (simp [he]; done) | (simp_all; done), HB4.out⟩
    by_cases hf : f0 = 0
    case neg =>
      have ff : (f0 == 0) = false := by simp; exact hf
      subst he
      clear hx hy hnx hny hsm1
      go_wp2_with (first
        | (go_at_call 16; (with_reducible refine (HBS.out).mono ?_); rintro e3 w3 ⟨A3, c3, rfl, hr3, hc3, hb3⟩; have HR3 := Lib.hid hr3; have HC3 := Lib.hid hc3; have HB3 := Lib.hid (stp HB2.out hb3); clear hr3 hc3 hb3)
        | (go_at_call 16; (with_reducible refine (HBU.out w3 HB3.out).mono ?_); rintro e4 w4 ⟨A4, c4, rfl, hr4, hc4, hb4⟩; have HR34 := Lib.hid (HR3.out.on hb4); have HR4 := Lib.hid hr4; have HC4 := Lib.hid hc4; have HB4 := Lib.hid (stp HB3.out hb4); clear hr4 hc4 hb4)
        | fail)
      go_ret
      exact ⟨by first | rfl | (simp [hf]; done) | (simp_all; done), HB4.out⟩
    subst he hf
    obtain ⟨nd, l, hv, hmv, hxe⟩ := inner_tail hx
    obtain ⟨nd2, l2, hv2, _, hye⟩ := inner_tail hy
    rw [hv] at hv2
    injection hv2 with k1 k2
    subst k1 k2
    obtain ⟨R, hR⟩ : ∃ R, (walkK (walkD bareF bareDn 11 nd.space) nd.many.toNat l).1.1 = R := ⟨_, rfl⟩
    rw [hR] at hxe hye
    obtain rfl : nx = ny := by rw [← hnx, ← hny, hxe, hye]; rfl
    have hsx := bareR_small (k := 5000) (by decide) hsm1 hx
    have hsy := bareR_small (k := 5000) (by decide) hsm1 hy
    have hlx : nx ≤ 512 := by
      have h1 := hx
      unfold bareR at h1
      split at h1
      · split at h1
        · injection h1 with h1 _
          have := (walkD_rest (f := bareF) (dn := bareDn) 12 v [] s.data.toList (mayV_iff.1 hmv).2.2).2
          rw [show walkD bareF bareDn 12 s.data.toList v = bareW v s.data.toList from rfl, h1, hnx] at this
          have h5 := (mayV_iff.1 hmv).1
          simp at this
          omega
        · injection h1 with _ h1; cases h1
      · injection h1 with _ h1; cases h1
    have bx : (1 : Int) ≤ (nx : Int) ∧ (nx : Int) ≤ 512 := by rw [← hnx, hxe, List.length_cons]; rw [← hnx, hxe, List.length_cons] at hlx; omega
    have bx1 : ¬ (nx : Int) < 1 := by omega
    have bx0 : (0 : Int) < (nx : Int) := by omega
    have bx00 : 0 < nx := by omega
    have bn : (0 : Int) < (n : Int) := by have := HN.out; rw [hv, List.length_cons] at this; omega
    have bn0 : 0 < n := by omega
    go_upto_region 8 with (first
      | (go_at_call 16; (with_reducible refine (HBS.out).mono ?_); rintro e3 w3 ⟨A3, c3, rfl, hr3, hc3, hb3⟩; have HR3 := Lib.hid hr3; have HC3 := Lib.hid hc3; have HB3 := Lib.hid (stp HB2.out hb3); clear hr3 hc3 hb3)
      | (go_at_call 16; (with_reducible refine (HBU.out w3 HB3.out).mono ?_); rintro e4 w4 ⟨A4, c4, rfl, hr4, hc4, hb4⟩; have HR34 := Lib.hid (HR3.out.on hb4); have HR4 := Lib.hid hr4; have HC4 := Lib.hid hc4; have HB4 := Lib.hid (stp HB3.out hb4); clear hr4 hc4 hb4)
      | fail)
    obtain ⟨bv, ov, xs, _, _, _, _, hAv, hbv, hiv, -, qv, -, -, -, -⟩ := nd_at (HR.out.on HB4.out) (k := 0) (by rw [hv]; simp)
    obtain ⟨bX, oX, X0, X1, X2, XA, Xc, hAX, hbX, hiX, -, -, qX2, qX3, -, -⟩ := nd_at HR34.out (k := 0) (by rw [hxe]; simp)
    obtain ⟨bY, oY, Y0, Y1, Y2, YA, Yc, hAY, hbY, hiY, -, -, qY2, qY3, -, -⟩ := nd_at HR4.out (k := 0) (by rw [hye]; simp)
    simp only [hv, hxe, hye, List.getElem_cons_zero, Nat.zero_mul, Nat.add_zero] at hiv hiX hiY qv qX2 qX3 qY2 qY3
    have hxn : xs.data.toList = nd.space := hiv.space
    obtain rfl : X1 = Y1 := ba_inj (hiX.name.trans hiY.name.symm)
    have hXat : RdB AtS w4 XA (bareL s.data.toList nd) := hiX.attrs
    have hYat : RdB AtS w4 YA (bareL u.data.toList nd) := hiY.attrs
    replace qX3 : w4.cell? ⟨bX, oX + 3, none⟩ = some (.slice XA (bareL s.data.toList nd).length Xc) := qX3
    replace qY3 : w4.cell? ⟨bY, oY + 3, none⟩ = some (.slice YA (bareL u.data.toList nd).length Yc) := qY3
    have hXle : (bareL s.data.toList nd).length ≤ Xc := hiX.le
    have hYle : (bareL u.data.toList nd).length ≤ Yc := hiY.le
    have hrl : (restL nd).length ≤ 1000 := by
      have h1 := (atsOk_iff.1 (ndOk_one (may_ndOk hmv nd (by rw [hv]; exact List.mem_cons_self)) (by obtain ⟨n', l', h1, h2⟩ := (mayV_iff.1 hmv).2.1; rw [hv] at h1; injection h1 with h1 _; rw [h1]; exact h2)).2.2.2).2.2
      have h2 := spacesL_len nd.attrs []
      rw [List.length_nil] at h2
      unfold restL
      rw [List.length_append, numD_len, List.length_map]
      omega
    subst hAv hAX hAY
    obtain ⟨TX, hTX, eTX⟩ := nds_tail HR34.out hnx (by omega) HC3.out
    obtain ⟨TY, hTY, eTY⟩ := nds_tail HR4.out hny (by omega) HC4.out
    have HK : Hid (∀ W, Below w4.heap.size w4 W → W.cell? ⟨bX, oX + 2, none⟩ = some (.string X1) ∧ W.cell? ⟨bY, oY + 2, none⟩ = some (.string X1)) := Lib.hid fun W hW => ⟨(hW.cell (p := ⟨bX, _, none⟩) hbX).trans qX2, (hW.cell (p := ⟨bY, _, none⟩) hbY).trans qY2⟩
    have HSM : Hid (∀ W, Below w4.heap.size w4 W → Calls Tryz.prog 23 #[.slice TX (nx - 1) (c3 - 1), .slice TY (nx - 1) (c4 - 1)] W fun e w' => e = .returned (.bool true) ∧ Below W.heap.size W w') := Lib.hid fun W hW => by
      rw [hxe, List.drop_succ_cons, List.drop_zero] at hTX
      rw [hye, List.drop_succ_cons, List.drop_zero] at hTY
      have hRl : R.length = nx - 1 := by rw [← hnx, hxe, List.length_cons, Nat.add_sub_cancel]
      exact rsame10 TX TY (nx - 1) (c3 - 1) (nx - 1) (c4 - 1) R R W (hTX.on hW) hRl (hTY.on hW) hRl (by omega) (by omega) (fun t ht => (hsx t (by rw [hxe]; exact List.mem_cons_of_mem _ ht)).attrs) (fun t ht => (hsx t (by rw [hxe]; exact List.mem_cons_of_mem _ ht)).attrs) true (decide_eq_true rfl)
    obtain ⟨ps, hps⟩ : ∃ p, decide (nd.space = s.data.toList) = p := ⟨_, rfl⟩
    obtain ⟨pu, hpu⟩ : ∃ p, decide (nd.space = u.data.toList) = p := ⟨_, rfl⟩
    have fs := eq_two xs s ps (by rw [hxn]; exact hps)
    have fu := eq_two xs u pu (by rw [hxn]; exact hpu)
    clear hx hy hsm1 hsx hsy hmv hR hiv hiX hiY hbv hbX hbY hTX hTY hv hxe hye
    cases ps with
    | true =>
      cases pu with
      | true =>
        have ls := bareL_yes hps
        rw [ls] at hXat qX3 hXle
        have lu := bareL_yes hpu
        rw [lu] at hYat qY3 hYle
        have HSA : Hid (∀ (W : World) (ca cb : Nat), Below w4.heap.size w4 W → Calls Tryz.prog 31 #[.slice XA (restL nd).length ca, .slice YA (restL nd).length cb] W fun e w' => e = .returned (.bool true) ∧ Below W.heap.size W w') := Lib.hid fun W ca cb hW => (rattrs XA YA (restL nd).length ca (restL nd).length cb (restL nd) (restL nd) W (hXat.on hW) rfl (hYat.on hW) rfl (by omega) (by omega) true (decide_eq_true rfl)).mono fun e w' hh => by
          obtain ⟨h1, m, h2⟩ := hh
          exact ⟨h1, by rw [h2]; exact below_drewN (Below.refl _ _) _⟩
        obtain ⟨kr, hkr⟩ : ∃ kr, (restL nd).length = kr := ⟨_, rfl⟩
        rw [hkr] at HSA qX3 qY3
        have bkr : (0 : Int) ≤ (kr : Int) ∧ (kr : Int) ≤ 1000 := by omega
        clear hXat hYat hxn hps hpu ls lu hrl
        go_quiet (fail)
        go_wp2_with fail
        go_quiet (fail)
        go_wp2_with fail
        go_quiet (fail)
        go_wp2_with fail
        clear qX2 qY2
        go_region_held3 (fun W => W.cell? ⟨bX, oX + 2, none⟩ = some (.string X1) ∧ W.cell? ⟨bY, oY + 2, none⟩ = some (.string X1))
          (first | exact HK.out _ (below_drewN (Below.refl _ _) _).drew | exact HK.out _ (below_drewN (Below.refl _ _) _) | exact HK.out _ (stp (below_drewN (Below.refl _ _) _) hb5) | exact HK.out _ (stp (stp (below_drewN (Below.refl _ _) _) hb5) hb6))
          ((first
            | (go_at_call 31; (with_reducible refine (HSA.out _ _ _ (below_drewN (Below.refl _ _) _)).mono ?_); rintro e5 w5 ⟨rfl, hb5⟩)
            | (go_at_call 23; (with_reducible refine (HSM.out _ (stp (below_drewN (Below.refl _ _) _) hb5)).mono ?_); rintro e6 w6 ⟨rfl, hb6⟩)))
        go_wp2_with fail
        go_ret
        exact ⟨rfl, stp HB4.out (stp (stp (below_drewN (Below.refl _ _) _) hb5) hb6)⟩
      | false =>
        by_cases hYone : Yc = 1
        · have ls := bareL_yes hps
          rw [ls] at hXat qX3 hXle
          have lu := bareL_no hpu
          rw [lu] at hYat qY3 hYle
          obtain ⟨bYa, oYa, EY0, EY1, EY2, hAYa, -, hY0, hY1, hY2, rY0, rY1, rY2⟩ := at_at hYat (k := 0) (by simp)
          simp only [List.getElem_cons_zero, Nat.zero_mul, Nat.add_zero] at hY0 hY1 hY2 rY0 rY1 rY2
          obtain rfl : EY0 = ⟨#[]⟩ := ba_inj hY0
          obtain rfl : EY1 = ⟨#[120, 109, 108, 110, 115]⟩ := ba_inj hY1
          obtain rfl : xs = EY2 := ba_inj (hxn.trans hY2.symm)
          obtain ⟨kY, hkY⟩ : ∃ k, (⟨[], xmlns5, nd.space⟩ :: restL nd : List At).length = k := ⟨_, rfl⟩
          have hkY1 : kY = (restL nd).length + 1 := by rw [← hkY, List.length_cons]
          rw [hkY] at qY3 hYle
          subst hAYa
          have hTYa := ats_tail1 (w := w4) (b := bYa) (off := oYa) hkY hYle hYone
          rw [List.drop_succ_cons, List.drop_zero] at hTYa
          have bYk : (1 : Int) ≤ (kY : Int) ∧ (kY : Int) ≤ 1001 := by omega
          have bY0 : (0 : Int) < (kY : Int) := by omega
          have bY00 : 0 < kY := by omega
          have HSA : Hid (∀ (W : World) (ca cb : Nat), Below w4.heap.size w4 W → Calls Tryz.prog 31 #[.slice XA (restL nd).length ca, .slice (some ⟨bYa, oYa, none⟩) (restL nd).length cb] W fun e w' => e = .returned (.bool true) ∧ Below W.heap.size W w') := Lib.hid fun W ca cb hW => (rattrs XA (some ⟨bYa, oYa, none⟩) (restL nd).length ca (restL nd).length cb (restL nd) (restL nd) W (hXat.on hW) rfl (hTYa.on hW) rfl (by omega) (by omega) true (decide_eq_true rfl)).mono fun e w' hh => by
            obtain ⟨h1, m, h2⟩ := hh
            exact ⟨h1, by rw [h2]; exact below_drewN (Below.refl _ _) _⟩
          obtain ⟨kr, hkr⟩ : ∃ kr, (restL nd).length = kr := ⟨_, rfl⟩
          rw [hkr] at HSA qX3 
          have bkr : (0 : Int) ≤ (kr : Int) ∧ (kr : Int) ≤ 1000 := by omega
          clear hXat hYat hxn hps hpu ls lu hrl hY0 hY1 hY2 hTYa hkY
          go_quiet (fail)
          go_wp2_with fail
          go_quiet (fail)
          go_wp2_with fail
          go_quiet (fail)
          go_wp2_with fail
          clear qX2 qY2
          go_region_held3 (fun W => W.cell? ⟨bX, oX + 2, none⟩ = some (.string X1) ∧ W.cell? ⟨bY, oY + 2, none⟩ = some (.string X1))
            (first | exact HK.out _ (below_drewN (Below.refl _ _) _).drew | exact HK.out _ (below_drewN (Below.refl _ _) _) | exact HK.out _ (stp (below_drewN (Below.refl _ _) _) hb5) | exact HK.out _ (stp (stp (below_drewN (Below.refl _ _) _) hb5) hb6))
            ((first
              | (go_at_call 31; (with_reducible refine (HSA.out _ _ _ (below_drewN (Below.refl _ _) _)).mono ?_); rintro e5 w5 ⟨rfl, hb5⟩)
              | (go_at_call 23; (with_reducible refine (HSM.out _ (stp (below_drewN (Below.refl _ _) _) hb5)).mono ?_); rintro e6 w6 ⟨rfl, hb6⟩)))
          go_wp2_with fail
          go_ret
          exact ⟨rfl, stp HB4.out (stp (stp (below_drewN (Below.refl _ _) _) hb5) hb6)⟩
        · have ls := bareL_yes hps
          rw [ls] at hXat qX3 hXle
          have lu := bareL_no hpu
          rw [lu] at hYat qY3 hYle
          obtain ⟨bYa, oYa, EY0, EY1, EY2, hAYa, -, hY0, hY1, hY2, rY0, rY1, rY2⟩ := at_at hYat (k := 0) (by simp)
          simp only [List.getElem_cons_zero, Nat.zero_mul, Nat.add_zero] at hY0 hY1 hY2 rY0 rY1 rY2
          obtain rfl : EY0 = ⟨#[]⟩ := ba_inj hY0
          obtain rfl : EY1 = ⟨#[120, 109, 108, 110, 115]⟩ := ba_inj hY1
          obtain rfl : xs = EY2 := ba_inj (hxn.trans hY2.symm)
          obtain ⟨kY, hkY⟩ : ∃ k, (⟨[], xmlns5, nd.space⟩ :: restL nd : List At).length = k := ⟨_, rfl⟩
          have hkY1 : kY = (restL nd).length + 1 := by rw [← hkY, List.length_cons]
          rw [hkY] at qY3 hYle
          subst hAYa
          have hTYa := ats_tail2 hYat
          rw [List.drop_succ_cons, List.drop_zero] at hTYa
          have bYk : (1 : Int) ≤ (kY : Int) ∧ (kY : Int) ≤ 1001 := by omega
          have bY0 : (0 : Int) < (kY : Int) := by omega
          have bY00 : 0 < kY := by omega
          have HSA : Hid (∀ (W : World) (ca cb : Nat), Below w4.heap.size w4 W → Calls Tryz.prog 31 #[.slice XA (restL nd).length ca, .slice (some ⟨bYa, oYa + 3, none⟩) (restL nd).length cb] W fun e w' => e = .returned (.bool true) ∧ Below W.heap.size W w') := Lib.hid fun W ca cb hW => (rattrs XA (some ⟨bYa, oYa + 3, none⟩) (restL nd).length ca (restL nd).length cb (restL nd) (restL nd) W (hXat.on hW) rfl (hTYa.on hW) rfl (by omega) (by omega) true (decide_eq_true rfl)).mono fun e w' hh => by
            obtain ⟨h1, m, h2⟩ := hh
            exact ⟨h1, by rw [h2]; exact below_drewN (Below.refl _ _) _⟩
          obtain ⟨kr, hkr⟩ : ∃ kr, (restL nd).length = kr := ⟨_, rfl⟩
          rw [hkr] at HSA qX3 
          have bkr : (0 : Int) ≤ (kr : Int) ∧ (kr : Int) ≤ 1000 := by omega
          clear hXat hYat hxn hps hpu ls lu hrl hY0 hY1 hY2 hTYa hkY
          go_quiet (fail)
          go_wp2_with fail
          go_quiet (fail)
          go_wp2_with fail
          go_quiet (fail)
          go_wp2_with fail
          clear qX2 qY2
          go_region_held3 (fun W => W.cell? ⟨bX, oX + 2, none⟩ = some (.string X1) ∧ W.cell? ⟨bY, oY + 2, none⟩ = some (.string X1))
            (first | exact HK.out _ (below_drewN (Below.refl _ _) _).drew | exact HK.out _ (below_drewN (Below.refl _ _) _) | exact HK.out _ (stp (below_drewN (Below.refl _ _) _) hb5) | exact HK.out _ (stp (stp (below_drewN (Below.refl _ _) _) hb5) hb6))
            ((first
              | (go_at_call 31; (with_reducible refine (HSA.out _ _ _ (below_drewN (Below.refl _ _) _)).mono ?_); rintro e5 w5 ⟨rfl, hb5⟩)
              | (go_at_call 23; (with_reducible refine (HSM.out _ (stp (below_drewN (Below.refl _ _) _) hb5)).mono ?_); rintro e6 w6 ⟨rfl, hb6⟩)))
          go_wp2_with fail
          go_ret
          exact ⟨rfl, stp HB4.out (stp (stp (below_drewN (Below.refl _ _) _) hb5) hb6)⟩
    | false =>
      cases pu with
      | true =>
        by_cases hXone : Xc = 1
        · have ls := bareL_no hps
          rw [ls] at hXat qX3 hXle
          obtain ⟨bXa, oXa, EX0, EX1, EX2, hAXa, -, hX0, hX1, hX2, rX0, rX1, rX2⟩ := at_at hXat (k := 0) (by simp)
          simp only [List.getElem_cons_zero, Nat.zero_mul, Nat.add_zero] at hX0 hX1 hX2 rX0 rX1 rX2
          obtain rfl : EX0 = ⟨#[]⟩ := ba_inj hX0
          obtain rfl : EX1 = ⟨#[120, 109, 108, 110, 115]⟩ := ba_inj hX1
          obtain rfl : xs = EX2 := ba_inj (hxn.trans hX2.symm)
          obtain ⟨kX, hkX⟩ : ∃ k, (⟨[], xmlns5, nd.space⟩ :: restL nd : List At).length = k := ⟨_, rfl⟩
          have hkX1 : kX = (restL nd).length + 1 := by rw [← hkX, List.length_cons]
          rw [hkX] at qX3 hXle
          subst hAXa
          have hTXa := ats_tail1 (w := w4) (b := bXa) (off := oXa) hkX hXle hXone
          rw [List.drop_succ_cons, List.drop_zero] at hTXa
          have bXk : (1 : Int) ≤ (kX : Int) ∧ (kX : Int) ≤ 1001 := by omega
          have bX0 : (0 : Int) < (kX : Int) := by omega
          have bX00 : 0 < kX := by omega
          have lu := bareL_yes hpu
          rw [lu] at hYat qY3 hYle
          have HSA : Hid (∀ (W : World) (ca cb : Nat), Below w4.heap.size w4 W → Calls Tryz.prog 31 #[.slice (some ⟨bXa, oXa, none⟩) (restL nd).length ca, .slice YA (restL nd).length cb] W fun e w' => e = .returned (.bool true) ∧ Below W.heap.size W w') := Lib.hid fun W ca cb hW => (rattrs (some ⟨bXa, oXa, none⟩) YA (restL nd).length ca (restL nd).length cb (restL nd) (restL nd) W (hTXa.on hW) rfl (hYat.on hW) rfl (by omega) (by omega) true (decide_eq_true rfl)).mono fun e w' hh => by
            obtain ⟨h1, m, h2⟩ := hh
            exact ⟨h1, by rw [h2]; exact below_drewN (Below.refl _ _) _⟩
          obtain ⟨kr, hkr⟩ : ∃ kr, (restL nd).length = kr := ⟨_, rfl⟩
          rw [hkr] at HSA qY3
          have bkr : (0 : Int) ≤ (kr : Int) ∧ (kr : Int) ≤ 1000 := by omega
          clear hXat hYat hxn hps hpu ls lu hrl hX0 hX1 hX2 hTXa hkX
          go_quiet (fail)
          go_wp2_with fail
          go_quiet (fail)
          go_wp2_with fail
          go_quiet (fail)
          go_wp2_with fail
          clear qX2 qY2
          go_region_held3 (fun W => W.cell? ⟨bX, oX + 2, none⟩ = some (.string X1) ∧ W.cell? ⟨bY, oY + 2, none⟩ = some (.string X1))
            (first | exact HK.out _ (below_drewN (Below.refl _ _) _).drew | exact HK.out _ (below_drewN (Below.refl _ _) _) | exact HK.out _ (stp (below_drewN (Below.refl _ _) _) hb5) | exact HK.out _ (stp (stp (below_drewN (Below.refl _ _) _) hb5) hb6))
            ((first
              | (go_at_call 31; (with_reducible refine (HSA.out _ _ _ (below_drewN (Below.refl _ _) _)).mono ?_); rintro e5 w5 ⟨rfl, hb5⟩)
              | (go_at_call 23; (with_reducible refine (HSM.out _ (stp (below_drewN (Below.refl _ _) _) hb5)).mono ?_); rintro e6 w6 ⟨rfl, hb6⟩)))
          go_wp2_with fail
          go_ret
          exact ⟨rfl, stp HB4.out (stp (stp (below_drewN (Below.refl _ _) _) hb5) hb6)⟩
        · have ls := bareL_no hps
          rw [ls] at hXat qX3 hXle
          obtain ⟨bXa, oXa, EX0, EX1, EX2, hAXa, -, hX0, hX1, hX2, rX0, rX1, rX2⟩ := at_at hXat (k := 0) (by simp)
          simp only [List.getElem_cons_zero, Nat.zero_mul, Nat.add_zero] at hX0 hX1 hX2 rX0 rX1 rX2
          obtain rfl : EX0 = ⟨#[]⟩ := ba_inj hX0
          obtain rfl : EX1 = ⟨#[120, 109, 108, 110, 115]⟩ := ba_inj hX1
          obtain rfl : xs = EX2 := ba_inj (hxn.trans hX2.symm)
          obtain ⟨kX, hkX⟩ : ∃ k, (⟨[], xmlns5, nd.space⟩ :: restL nd : List At).length = k := ⟨_, rfl⟩
          have hkX1 : kX = (restL nd).length + 1 := by rw [← hkX, List.length_cons]
          rw [hkX] at qX3 hXle
          subst hAXa
          have hTXa := ats_tail2 hXat
          rw [List.drop_succ_cons, List.drop_zero] at hTXa
          have bXk : (1 : Int) ≤ (kX : Int) ∧ (kX : Int) ≤ 1001 := by omega
          have bX0 : (0 : Int) < (kX : Int) := by omega
          have bX00 : 0 < kX := by omega
          have lu := bareL_yes hpu
          rw [lu] at hYat qY3 hYle
          have HSA : Hid (∀ (W : World) (ca cb : Nat), Below w4.heap.size w4 W → Calls Tryz.prog 31 #[.slice (some ⟨bXa, oXa + 3, none⟩) (restL nd).length ca, .slice YA (restL nd).length cb] W fun e w' => e = .returned (.bool true) ∧ Below W.heap.size W w') := Lib.hid fun W ca cb hW => (rattrs (some ⟨bXa, oXa + 3, none⟩) YA (restL nd).length ca (restL nd).length cb (restL nd) (restL nd) W (hTXa.on hW) rfl (hYat.on hW) rfl (by omega) (by omega) true (decide_eq_true rfl)).mono fun e w' hh => by
            obtain ⟨h1, m, h2⟩ := hh
            exact ⟨h1, by rw [h2]; exact below_drewN (Below.refl _ _) _⟩
          obtain ⟨kr, hkr⟩ : ∃ kr, (restL nd).length = kr := ⟨_, rfl⟩
          rw [hkr] at HSA qY3
          have bkr : (0 : Int) ≤ (kr : Int) ∧ (kr : Int) ≤ 1000 := by omega
          clear hXat hYat hxn hps hpu ls lu hrl hX0 hX1 hX2 hTXa hkX
          go_quiet (fail)
          go_wp2_with fail
          go_quiet (fail)
          go_wp2_with fail
          go_quiet (fail)
          go_wp2_with fail
          clear qX2 qY2
          go_region_held3 (fun W => W.cell? ⟨bX, oX + 2, none⟩ = some (.string X1) ∧ W.cell? ⟨bY, oY + 2, none⟩ = some (.string X1))
            (first | exact HK.out _ (below_drewN (Below.refl _ _) _).drew | exact HK.out _ (below_drewN (Below.refl _ _) _) | exact HK.out _ (stp (below_drewN (Below.refl _ _) _) hb5) | exact HK.out _ (stp (stp (below_drewN (Below.refl _ _) _) hb5) hb6))
            ((first
              | (go_at_call 31; (with_reducible refine (HSA.out _ _ _ (below_drewN (Below.refl _ _) _)).mono ?_); rintro e5 w5 ⟨rfl, hb5⟩)
              | (go_at_call 23; (with_reducible refine (HSM.out _ (stp (below_drewN (Below.refl _ _) _) hb5)).mono ?_); rintro e6 w6 ⟨rfl, hb6⟩)))
          go_wp2_with fail
          go_ret
          exact ⟨rfl, stp HB4.out (stp (stp (below_drewN (Below.refl _ _) _) hb5) hb6)⟩
      | false =>
        by_cases hXone : Xc = 1
        · by_cases hYone : Yc = 1
          · have ls := bareL_no hps
            rw [ls] at hXat qX3 hXle
            obtain ⟨bXa, oXa, EX0, EX1, EX2, hAXa, -, hX0, hX1, hX2, rX0, rX1, rX2⟩ := at_at hXat (k := 0) (by simp)
            simp only [List.getElem_cons_zero, Nat.zero_mul, Nat.add_zero] at hX0 hX1 hX2 rX0 rX1 rX2
            obtain rfl : EX0 = ⟨#[]⟩ := ba_inj hX0
            obtain rfl : EX1 = ⟨#[120, 109, 108, 110, 115]⟩ := ba_inj hX1
            obtain rfl : xs = EX2 := ba_inj (hxn.trans hX2.symm)
            obtain ⟨kX, hkX⟩ : ∃ k, (⟨[], xmlns5, nd.space⟩ :: restL nd : List At).length = k := ⟨_, rfl⟩
            have hkX1 : kX = (restL nd).length + 1 := by rw [← hkX, List.length_cons]
            rw [hkX] at qX3 hXle
            subst hAXa
            have hTXa := ats_tail1 (w := w4) (b := bXa) (off := oXa) hkX hXle hXone
            rw [List.drop_succ_cons, List.drop_zero] at hTXa
            have bXk : (1 : Int) ≤ (kX : Int) ∧ (kX : Int) ≤ 1001 := by omega
            have bX0 : (0 : Int) < (kX : Int) := by omega
            have bX00 : 0 < kX := by omega
            have lu := bareL_no hpu
            rw [lu] at hYat qY3 hYle
            obtain ⟨bYa, oYa, EY0, EY1, EY2, hAYa, -, hY0, hY1, hY2, rY0, rY1, rY2⟩ := at_at hYat (k := 0) (by simp)
            simp only [List.getElem_cons_zero, Nat.zero_mul, Nat.add_zero] at hY0 hY1 hY2 rY0 rY1 rY2
            obtain rfl : EY0 = ⟨#[]⟩ := ba_inj hY0
            obtain rfl : EY1 = ⟨#[120, 109, 108, 110, 115]⟩ := ba_inj hY1
            obtain rfl : xs = EY2 := ba_inj (hxn.trans hY2.symm)
            obtain ⟨kY, hkY⟩ : ∃ k, (⟨[], xmlns5, nd.space⟩ :: restL nd : List At).length = k := ⟨_, rfl⟩
            have hkY1 : kY = (restL nd).length + 1 := by rw [← hkY, List.length_cons]
            rw [hkY] at qY3 hYle
            subst hAYa
            have hTYa := ats_tail1 (w := w4) (b := bYa) (off := oYa) hkY hYle hYone
            rw [List.drop_succ_cons, List.drop_zero] at hTYa
            have bYk : (1 : Int) ≤ (kY : Int) ∧ (kY : Int) ≤ 1001 := by omega
            have bY0 : (0 : Int) < (kY : Int) := by omega
            have bY00 : 0 < kY := by omega
            have HSA : Hid (∀ (W : World) (ca cb : Nat), Below w4.heap.size w4 W → Calls Tryz.prog 31 #[.slice (some ⟨bXa, oXa, none⟩) (restL nd).length ca, .slice (some ⟨bYa, oYa, none⟩) (restL nd).length cb] W fun e w' => e = .returned (.bool true) ∧ Below W.heap.size W w') := Lib.hid fun W ca cb hW => (rattrs (some ⟨bXa, oXa, none⟩) (some ⟨bYa, oYa, none⟩) (restL nd).length ca (restL nd).length cb (restL nd) (restL nd) W (hTXa.on hW) rfl (hTYa.on hW) rfl (by omega) (by omega) true (decide_eq_true rfl)).mono fun e w' hh => by
              obtain ⟨h1, m, h2⟩ := hh
              exact ⟨h1, by rw [h2]; exact below_drewN (Below.refl _ _) _⟩
            obtain ⟨kr, hkr⟩ : ∃ kr, (restL nd).length = kr := ⟨_, rfl⟩
            rw [hkr] at HSA 
            have bkr : (0 : Int) ≤ (kr : Int) ∧ (kr : Int) ≤ 1000 := by omega
            clear hXat hYat hxn hps hpu ls lu hrl hX0 hX1 hX2 hTXa hkX hY0 hY1 hY2 hTYa hkY
            go_quiet (fail)
            go_wp2_with fail
            go_quiet (fail)
            go_wp2_with fail
            go_quiet (fail)
            go_wp2_with fail
            clear qX2 qY2
            go_region_held3 (fun W => W.cell? ⟨bX, oX + 2, none⟩ = some (.string X1) ∧ W.cell? ⟨bY, oY + 2, none⟩ = some (.string X1))
              (first | exact HK.out _ (below_drewN (Below.refl _ _) _).drew | exact HK.out _ (below_drewN (Below.refl _ _) _) | exact HK.out _ (stp (below_drewN (Below.refl _ _) _) hb5) | exact HK.out _ (stp (stp (below_drewN (Below.refl _ _) _) hb5) hb6))
              ((first
                | (go_at_call 31; (with_reducible refine (HSA.out _ _ _ (below_drewN (Below.refl _ _) _)).mono ?_); rintro e5 w5 ⟨rfl, hb5⟩)
                | (go_at_call 23; (with_reducible refine (HSM.out _ (stp (below_drewN (Below.refl _ _) _) hb5)).mono ?_); rintro e6 w6 ⟨rfl, hb6⟩)))
            go_wp2_with fail
            go_ret
            exact ⟨rfl, stp HB4.out (stp (stp (below_drewN (Below.refl _ _) _) hb5) hb6)⟩
          · have ls := bareL_no hps
            rw [ls] at hXat qX3 hXle
            obtain ⟨bXa, oXa, EX0, EX1, EX2, hAXa, -, hX0, hX1, hX2, rX0, rX1, rX2⟩ := at_at hXat (k := 0) (by simp)
            simp only [List.getElem_cons_zero, Nat.zero_mul, Nat.add_zero] at hX0 hX1 hX2 rX0 rX1 rX2
            obtain rfl : EX0 = ⟨#[]⟩ := ba_inj hX0
            obtain rfl : EX1 = ⟨#[120, 109, 108, 110, 115]⟩ := ba_inj hX1
            obtain rfl : xs = EX2 := ba_inj (hxn.trans hX2.symm)
            obtain ⟨kX, hkX⟩ : ∃ k, (⟨[], xmlns5, nd.space⟩ :: restL nd : List At).length = k := ⟨_, rfl⟩
            have hkX1 : kX = (restL nd).length + 1 := by rw [← hkX, List.length_cons]
            rw [hkX] at qX3 hXle
            subst hAXa
            have hTXa := ats_tail1 (w := w4) (b := bXa) (off := oXa) hkX hXle hXone
            rw [List.drop_succ_cons, List.drop_zero] at hTXa
            have bXk : (1 : Int) ≤ (kX : Int) ∧ (kX : Int) ≤ 1001 := by omega
            have bX0 : (0 : Int) < (kX : Int) := by omega
            have bX00 : 0 < kX := by omega
            have lu := bareL_no hpu
            rw [lu] at hYat qY3 hYle
            obtain ⟨bYa, oYa, EY0, EY1, EY2, hAYa, -, hY0, hY1, hY2, rY0, rY1, rY2⟩ := at_at hYat (k := 0) (by simp)
            simp only [List.getElem_cons_zero, Nat.zero_mul, Nat.add_zero] at hY0 hY1 hY2 rY0 rY1 rY2
            obtain rfl : EY0 = ⟨#[]⟩ := ba_inj hY0
            obtain rfl : EY1 = ⟨#[120, 109, 108, 110, 115]⟩ := ba_inj hY1
            obtain rfl : xs = EY2 := ba_inj (hxn.trans hY2.symm)
            obtain ⟨kY, hkY⟩ : ∃ k, (⟨[], xmlns5, nd.space⟩ :: restL nd : List At).length = k := ⟨_, rfl⟩
            have hkY1 : kY = (restL nd).length + 1 := by rw [← hkY, List.length_cons]
            rw [hkY] at qY3 hYle
            subst hAYa
            have hTYa := ats_tail2 hYat
            rw [List.drop_succ_cons, List.drop_zero] at hTYa
            have bYk : (1 : Int) ≤ (kY : Int) ∧ (kY : Int) ≤ 1001 := by omega
            have bY0 : (0 : Int) < (kY : Int) := by omega
            have bY00 : 0 < kY := by omega
            have HSA : Hid (∀ (W : World) (ca cb : Nat), Below w4.heap.size w4 W → Calls Tryz.prog 31 #[.slice (some ⟨bXa, oXa, none⟩) (restL nd).length ca, .slice (some ⟨bYa, oYa + 3, none⟩) (restL nd).length cb] W fun e w' => e = .returned (.bool true) ∧ Below W.heap.size W w') := Lib.hid fun W ca cb hW => (rattrs (some ⟨bXa, oXa, none⟩) (some ⟨bYa, oYa + 3, none⟩) (restL nd).length ca (restL nd).length cb (restL nd) (restL nd) W (hTXa.on hW) rfl (hTYa.on hW) rfl (by omega) (by omega) true (decide_eq_true rfl)).mono fun e w' hh => by
              obtain ⟨h1, m, h2⟩ := hh
              exact ⟨h1, by rw [h2]; exact below_drewN (Below.refl _ _) _⟩
            obtain ⟨kr, hkr⟩ : ∃ kr, (restL nd).length = kr := ⟨_, rfl⟩
            rw [hkr] at HSA 
            have bkr : (0 : Int) ≤ (kr : Int) ∧ (kr : Int) ≤ 1000 := by omega
            clear hXat hYat hxn hps hpu ls lu hrl hX0 hX1 hX2 hTXa hkX hY0 hY1 hY2 hTYa hkY
            go_quiet (fail)
            go_wp2_with fail
            go_quiet (fail)
            go_wp2_with fail
            go_quiet (fail)
            go_wp2_with fail
            clear qX2 qY2
            go_region_held3 (fun W => W.cell? ⟨bX, oX + 2, none⟩ = some (.string X1) ∧ W.cell? ⟨bY, oY + 2, none⟩ = some (.string X1))
              (first | exact HK.out _ (below_drewN (Below.refl _ _) _).drew | exact HK.out _ (below_drewN (Below.refl _ _) _) | exact HK.out _ (stp (below_drewN (Below.refl _ _) _) hb5) | exact HK.out _ (stp (stp (below_drewN (Below.refl _ _) _) hb5) hb6))
              ((first
                | (go_at_call 31; (with_reducible refine (HSA.out _ _ _ (below_drewN (Below.refl _ _) _)).mono ?_); rintro e5 w5 ⟨rfl, hb5⟩)
                | (go_at_call 23; (with_reducible refine (HSM.out _ (stp (below_drewN (Below.refl _ _) _) hb5)).mono ?_); rintro e6 w6 ⟨rfl, hb6⟩)))
            go_wp2_with fail
            go_ret
            exact ⟨rfl, stp HB4.out (stp (stp (below_drewN (Below.refl _ _) _) hb5) hb6)⟩
        · by_cases hYone : Yc = 1
          · have ls := bareL_no hps
            rw [ls] at hXat qX3 hXle
            obtain ⟨bXa, oXa, EX0, EX1, EX2, hAXa, -, hX0, hX1, hX2, rX0, rX1, rX2⟩ := at_at hXat (k := 0) (by simp)
            simp only [List.getElem_cons_zero, Nat.zero_mul, Nat.add_zero] at hX0 hX1 hX2 rX0 rX1 rX2
            obtain rfl : EX0 = ⟨#[]⟩ := ba_inj hX0
            obtain rfl : EX1 = ⟨#[120, 109, 108, 110, 115]⟩ := ba_inj hX1
            obtain rfl : xs = EX2 := ba_inj (hxn.trans hX2.symm)
            obtain ⟨kX, hkX⟩ : ∃ k, (⟨[], xmlns5, nd.space⟩ :: restL nd : List At).length = k := ⟨_, rfl⟩
            have hkX1 : kX = (restL nd).length + 1 := by rw [← hkX, List.length_cons]
            rw [hkX] at qX3 hXle
            subst hAXa
            have hTXa := ats_tail2 hXat
            rw [List.drop_succ_cons, List.drop_zero] at hTXa
            have bXk : (1 : Int) ≤ (kX : Int) ∧ (kX : Int) ≤ 1001 := by omega
            have bX0 : (0 : Int) < (kX : Int) := by omega
            have bX00 : 0 < kX := by omega
            have lu := bareL_no hpu
            rw [lu] at hYat qY3 hYle
            obtain ⟨bYa, oYa, EY0, EY1, EY2, hAYa, -, hY0, hY1, hY2, rY0, rY1, rY2⟩ := at_at hYat (k := 0) (by simp)
            simp only [List.getElem_cons_zero, Nat.zero_mul, Nat.add_zero] at hY0 hY1 hY2 rY0 rY1 rY2
            obtain rfl : EY0 = ⟨#[]⟩ := ba_inj hY0
            obtain rfl : EY1 = ⟨#[120, 109, 108, 110, 115]⟩ := ba_inj hY1
            obtain rfl : xs = EY2 := ba_inj (hxn.trans hY2.symm)
            obtain ⟨kY, hkY⟩ : ∃ k, (⟨[], xmlns5, nd.space⟩ :: restL nd : List At).length = k := ⟨_, rfl⟩
            have hkY1 : kY = (restL nd).length + 1 := by rw [← hkY, List.length_cons]
            rw [hkY] at qY3 hYle
            subst hAYa
            have hTYa := ats_tail1 (w := w4) (b := bYa) (off := oYa) hkY hYle hYone
            rw [List.drop_succ_cons, List.drop_zero] at hTYa
            have bYk : (1 : Int) ≤ (kY : Int) ∧ (kY : Int) ≤ 1001 := by omega
            have bY0 : (0 : Int) < (kY : Int) := by omega
            have bY00 : 0 < kY := by omega
            have HSA : Hid (∀ (W : World) (ca cb : Nat), Below w4.heap.size w4 W → Calls Tryz.prog 31 #[.slice (some ⟨bXa, oXa + 3, none⟩) (restL nd).length ca, .slice (some ⟨bYa, oYa, none⟩) (restL nd).length cb] W fun e w' => e = .returned (.bool true) ∧ Below W.heap.size W w') := Lib.hid fun W ca cb hW => (rattrs (some ⟨bXa, oXa + 3, none⟩) (some ⟨bYa, oYa, none⟩) (restL nd).length ca (restL nd).length cb (restL nd) (restL nd) W (hTXa.on hW) rfl (hTYa.on hW) rfl (by omega) (by omega) true (decide_eq_true rfl)).mono fun e w' hh => by
              obtain ⟨h1, m, h2⟩ := hh
              exact ⟨h1, by rw [h2]; exact below_drewN (Below.refl _ _) _⟩
            obtain ⟨kr, hkr⟩ : ∃ kr, (restL nd).length = kr := ⟨_, rfl⟩
            rw [hkr] at HSA 
            have bkr : (0 : Int) ≤ (kr : Int) ∧ (kr : Int) ≤ 1000 := by omega
            clear hXat hYat hxn hps hpu ls lu hrl hX0 hX1 hX2 hTXa hkX hY0 hY1 hY2 hTYa hkY
            go_quiet (fail)
            go_wp2_with fail
            go_quiet (fail)
            go_wp2_with fail
            go_quiet (fail)
            go_wp2_with fail
            clear qX2 qY2
            go_region_held3 (fun W => W.cell? ⟨bX, oX + 2, none⟩ = some (.string X1) ∧ W.cell? ⟨bY, oY + 2, none⟩ = some (.string X1))
              (first | exact HK.out _ (below_drewN (Below.refl _ _) _).drew | exact HK.out _ (below_drewN (Below.refl _ _) _) | exact HK.out _ (stp (below_drewN (Below.refl _ _) _) hb5) | exact HK.out _ (stp (stp (below_drewN (Below.refl _ _) _) hb5) hb6))
              ((first
                | (go_at_call 31; (with_reducible refine (HSA.out _ _ _ (below_drewN (Below.refl _ _) _)).mono ?_); rintro e5 w5 ⟨rfl, hb5⟩)
                | (go_at_call 23; (with_reducible refine (HSM.out _ (stp (below_drewN (Below.refl _ _) _) hb5)).mono ?_); rintro e6 w6 ⟨rfl, hb6⟩)))
            go_wp2_with fail
            go_ret
            exact ⟨rfl, stp HB4.out (stp (stp (below_drewN (Below.refl _ _) _) hb5) hb6)⟩
          · have ls := bareL_no hps
            rw [ls] at hXat qX3 hXle
            obtain ⟨bXa, oXa, EX0, EX1, EX2, hAXa, -, hX0, hX1, hX2, rX0, rX1, rX2⟩ := at_at hXat (k := 0) (by simp)
            simp only [List.getElem_cons_zero, Nat.zero_mul, Nat.add_zero] at hX0 hX1 hX2 rX0 rX1 rX2
            obtain rfl : EX0 = ⟨#[]⟩ := ba_inj hX0
            obtain rfl : EX1 = ⟨#[120, 109, 108, 110, 115]⟩ := ba_inj hX1
            obtain rfl : xs = EX2 := ba_inj (hxn.trans hX2.symm)
            obtain ⟨kX, hkX⟩ : ∃ k, (⟨[], xmlns5, nd.space⟩ :: restL nd : List At).length = k := ⟨_, rfl⟩
            have hkX1 : kX = (restL nd).length + 1 := by rw [← hkX, List.length_cons]
            rw [hkX] at qX3 hXle
            subst hAXa
            have hTXa := ats_tail2 hXat
            rw [List.drop_succ_cons, List.drop_zero] at hTXa
            have bXk : (1 : Int) ≤ (kX : Int) ∧ (kX : Int) ≤ 1001 := by omega
            have bX0 : (0 : Int) < (kX : Int) := by omega
            have bX00 : 0 < kX := by omega
            have lu := bareL_no hpu
            rw [lu] at hYat qY3 hYle
            obtain ⟨bYa, oYa, EY0, EY1, EY2, hAYa, -, hY0, hY1, hY2, rY0, rY1, rY2⟩ := at_at hYat (k := 0) (by simp)
            simp only [List.getElem_cons_zero, Nat.zero_mul, Nat.add_zero] at hY0 hY1 hY2 rY0 rY1 rY2
            obtain rfl : EY0 = ⟨#[]⟩ := ba_inj hY0
            obtain rfl : EY1 = ⟨#[120, 109, 108, 110, 115]⟩ := ba_inj hY1
            obtain rfl : xs = EY2 := ba_inj (hxn.trans hY2.symm)
            obtain ⟨kY, hkY⟩ : ∃ k, (⟨[], xmlns5, nd.space⟩ :: restL nd : List At).length = k := ⟨_, rfl⟩
            have hkY1 : kY = (restL nd).length + 1 := by rw [← hkY, List.length_cons]
            rw [hkY] at qY3 hYle
            subst hAYa
            have hTYa := ats_tail2 hYat
            rw [List.drop_succ_cons, List.drop_zero] at hTYa
            have bYk : (1 : Int) ≤ (kY : Int) ∧ (kY : Int) ≤ 1001 := by omega
            have bY0 : (0 : Int) < (kY : Int) := by omega
            have bY00 : 0 < kY := by omega
            have HSA : Hid (∀ (W : World) (ca cb : Nat), Below w4.heap.size w4 W → Calls Tryz.prog 31 #[.slice (some ⟨bXa, oXa + 3, none⟩) (restL nd).length ca, .slice (some ⟨bYa, oYa + 3, none⟩) (restL nd).length cb] W fun e w' => e = .returned (.bool true) ∧ Below W.heap.size W w') := Lib.hid fun W ca cb hW => (rattrs (some ⟨bXa, oXa + 3, none⟩) (some ⟨bYa, oYa + 3, none⟩) (restL nd).length ca (restL nd).length cb (restL nd) (restL nd) W (hTXa.on hW) rfl (hTYa.on hW) rfl (by omega) (by omega) true (decide_eq_true rfl)).mono fun e w' hh => by
              obtain ⟨h1, m, h2⟩ := hh
              exact ⟨h1, by rw [h2]; exact below_drewN (Below.refl _ _) _⟩
            obtain ⟨kr, hkr⟩ : ∃ kr, (restL nd).length = kr := ⟨_, rfl⟩
            rw [hkr] at HSA 
            have bkr : (0 : Int) ≤ (kr : Int) ∧ (kr : Int) ≤ 1000 := by omega
            clear hXat hYat hxn hps hpu ls lu hrl hX0 hX1 hX2 hTXa hkX hY0 hY1 hY2 hTYa hkY
            go_quiet (fail)
            go_wp2_with fail
            go_quiet (fail)
            go_wp2_with fail
            go_quiet (fail)
            go_wp2_with fail
            clear qX2 qY2
            go_region_held3 (fun W => W.cell? ⟨bX, oX + 2, none⟩ = some (.string X1) ∧ W.cell? ⟨bY, oY + 2, none⟩ = some (.string X1))
              (first | exact HK.out _ (below_drewN (Below.refl _ _) _).drew | exact HK.out _ (below_drewN (Below.refl _ _) _) | exact HK.out _ (stp (below_drewN (Below.refl _ _) _) hb5) | exact HK.out _ (stp (stp (below_drewN (Below.refl _ _) _) hb5) hb6))
              ((first
                | (go_at_call 31; (with_reducible refine (HSA.out _ _ _ (below_drewN (Below.refl _ _) _)).mono ?_); rintro e5 w5 ⟨rfl, hb5⟩)
                | (go_at_call 23; (with_reducible refine (HSM.out _ (stp (below_drewN (Below.refl _ _) _) hb5)).mono ?_); rintro e6 w6 ⟨rfl, hb6⟩)))
            go_wp2_with fail
            go_ret
            exact ⟨rfl, stp HB4.out (stp (stp (below_drewN (Below.refl _ _) _) hb5) hb6)⟩
end Hx
end Go.Proofs.YtioiifdcgdoanaaGreatDoor
