/-
  Texts of one seat, put together: TreF.
-/
import Derived.Test.YteobcohjikjalaaGreatDoorSp15
import Derived.Test.YteobcohjikjalaaGreatDoorSp16
set_option linter.unusedSimpArgs false
namespace Go.Proofs.YteobcohjikjalaaGreatDoor
open Go.RowKit
namespace Hx
open Lx Tr Tx Nmb Es
set_option maxRecDepth 100000
set_option maxHeartbeats 16000000
set_option linter.unusedVariables false
theorem ret_z {a b : Int} (h : a = b) : Ending.returned (.int .i64 a) = .returned (.int .i64 b) := by rw [h]
def bhZ (v : List Nd) (d p : Nat) : Int := match restD d (v.drop p) with
  | some r => ((v.length - r.length : Nat) : Int)
  | none => -1
theorem bhZ_none {v : List Nd} {d p : Nat} (h : restD d (v.drop p) = none) : bhZ v d p = -1 := by unfold bhZ; rw [h]
theorem bhZ_some {v r : List Nd} {d p : Nat} (h : restD d (v.drop p) = some r) : bhZ v d p = ((v.length - r.length : Nat) : Int) := by unfold bhZ; rw [h]
def RB (d : Nat) (A : Option Addr) (n c : Nat) (v : List Nd) : Prop := ∀ (z : Int) (p : Nat) (w : World), z + d = 13 → p ≤ n → RdB NdS w A v →
  Calls Tryz.prog 45 #[.slice A n c, .int .i64 p, .int .i64 z] w fun e w' => e = .returned (.int .i64 (bhZ v d p)) ∧ Below w.heap.size w w'
theorem rb_end (d : Nat) (A : Option Addr) (n c : Nat) (v : List Nd) (hn : v.length = n) (hl : n ≤ 512) (z : Int) (p : Nat) (w : World) (hp : p = n) :
    Calls Tryz.prog 45 #[.slice A n c, .int .i64 p, .int .i64 z] w fun e w' => e = .returned (.int .i64 (bhZ v d p)) ∧ Below w.heap.size w w' := by
  have HQ : Hid (bhZ v d p = -1) := Lib.hid (bhZ_none (by rw [List.drop_of_length_le (by omega)]; cases d <;> rfl))
  subst hp
  clear hn
  go_enter Tryz.func45, Tryz.ntmps45
  go_wp2_with fail
  go_ret
  exact ⟨ret_z HQ.out.symm, Below.refl _ _⟩
theorem rb_bad (d : Nat) (A : Option Addr) (n c : Nat) (v : List Nd) (hn : v.length = n) (hl : n ≤ 512) (z : Int) (p : Nat) (w : World) (hp : p < n) (hr : RdB NdS w A v) (hs : SmallN (v[p]'(by omega))) (hh : ndOk (v[p]'(by omega)) = false) :
    Calls Tryz.prog 45 #[.slice A n c, .int .i64 p, .int .i64 z] w fun e w' => e = .returned (.int .i64 (bhZ v d p)) ∧ Below w.heap.size w w' := by
  have hp' : p < v.length := by omega
  obtain ⟨b0, off, x, y, t, A1, c1, hA, hbB, hin, q0, q1, q2, q3, q4, q5⟩ := nd_at hr hp'
  obtain ⟨nd, hnd⟩ : ∃ nd, v[p]'hp' = nd := ⟨_, rfl⟩
  rw [hnd] at hin q0 q3 q5 hs
  have hAt : NdAt nd x y t A1 c1 w := hin
  have bk : (0 : Int) ≤ (p : Int) ∧ (p : Int) < (n : Int) := by omega
  have bl : (n : Int) ≤ 512 := by omega
  have f0 : decide (n ≤ p) = false := decide_eq_false (by omega)
  have HRE := Lib.hid (restD_eq (d := d) hp')
  rw [hnd] at HRE
  have hB : holdB nd = (ndOk nd && decide (0 ≤ nd.many)) := rfl
  rw [hnd] at hh
  have HQ : Hid (bhZ v d p = -1) := Lib.hid (bhZ_none (by rw [HRE.out, if_neg]; rw [hB, hh]; rintro ⟨h, _⟩; cases h))
  have HC := Lib.hid (rnode nd x y t A1 c1 w hAt hs false hh)
  unfold NdV at HC
  subst hA
  clear hn hr hs hp' hnd hin hAt HRE hB hh
  go_enter Tryz.func45, Tryz.ntmps45
  go_wp2_with (first
    | (go_at_call 64; (with_reducible refine (HC.out).mono ?_); rintro e1 w1 ⟨rfl, hb1⟩; skip)
    | fail)
  go_ret
  exact ⟨ret_z HQ.out.symm, hb1⟩
theorem rb_neg (d : Nat) (A : Option Addr) (n c : Nat) (v : List Nd) (hn : v.length = n) (hl : n ≤ 512) (z : Int) (p : Nat) (w : World) (hp : p < n) (hr : RdB NdS w A v) (hs : SmallN (v[p]'(by omega))) (hh : ndOk (v[p]'(by omega)) = true) (hm : (v[p]'(by omega)).many < 0) :
    Calls Tryz.prog 45 #[.slice A n c, .int .i64 p, .int .i64 z] w fun e w' => e = .returned (.int .i64 (bhZ v d p)) ∧ Below w.heap.size w w' := by
  have hp' : p < v.length := by omega
  obtain ⟨b0, off, x, y, t, A1, c1, hA, hbB, hin, q0, q1, q2, q3, q4, q5⟩ := nd_at hr hp'
  obtain ⟨nd, hnd⟩ : ∃ nd, v[p]'hp' = nd := ⟨_, rfl⟩
  rw [hnd] at hin q0 q3 q5 hs
  have hAt : NdAt nd x y t A1 c1 w := hin
  have bk : (0 : Int) ≤ (p : Int) ∧ (p : Int) < (n : Int) := by omega
  have bl : (n : Int) ≤ 512 := by omega
  have f0 : decide (n ≤ p) = false := decide_eq_false (by omega)
  have HRE := Lib.hid (restD_eq (d := d) hp')
  rw [hnd] at HRE
  have hB : holdB nd = (ndOk nd && decide (0 ≤ nd.many)) := rfl
  rw [hnd] at hh hm
  have HQ : Hid (bhZ v d p = -1) := Lib.hid (bhZ_none (by rw [HRE.out, if_neg]; rw [hB, decide_eq_false (by omega : ¬ 0 ≤ nd.many), Bool.and_false]; rintro ⟨h, _⟩; cases h))
  have HC := Lib.hid (rnode nd x y t A1 c1 w hAt hs true hh)
  unfold NdV at HC
  obtain ⟨kd, hkd⟩ : ∃ kd, nd.kind = kd := ⟨_, rfl⟩
  obtain ⟨mm, hmm⟩ : ∃ mm, nd.many = mm := ⟨_, rfl⟩
  obtain ⟨n2, hn2⟩ : ∃ n2, nd.attrs.length = n2 := ⟨_, rfl⟩
  have ba := hin.lo
  have bb := hin.hi
  subst hA
  rw [hkd, hmm, hn2] at HC
  rw [hkd] at q0
  rw [hmm] at q5 ba bb
  rw [hn2] at q3
  rw [hmm] at hm
  have g1 : decide (mm < 0) = true := decide_eq_true (by omega)
  clear hn hr hs hp' hnd hin hAt HRE hB hh hkd hmm hn2
  go_enter Tryz.func45, Tryz.ntmps45
  go_wp2_with (first
    | (go_at_call 64; (with_reducible refine (HC.out).mono ?_); rintro e1 w1 ⟨rfl, hb1⟩; have hq1 := fun o => (hb1.cell (p := ⟨b0, o, none⟩) hbB); have s0 := (hq1 _).trans q0; have s5 := (hq1 _).trans q5; clear hq1)
    | fail)
  go_ret
  exact ⟨ret_z HQ.out.symm, hb1⟩
theorem rb_many (d : Nat) (A : Option Addr) (n c : Nat) (v : List Nd) (hn : v.length = n) (hl : n ≤ 512) (z : Int) (p : Nat) (w : World) (hp : p < n) (hr : RdB NdS w A v) (hs : SmallN (v[p]'(by omega))) (hh : ndOk (v[p]'(by omega)) = true) (hm : (n : Int) < (v[p]'(by omega)).many) :
    Calls Tryz.prog 45 #[.slice A n c, .int .i64 p, .int .i64 z] w fun e w' => e = .returned (.int .i64 (bhZ v d p)) ∧ Below w.heap.size w w' := by
  have hp' : p < v.length := by omega
  obtain ⟨b0, off, x, y, t, A1, c1, hA, hbB, hin, q0, q1, q2, q3, q4, q5⟩ := nd_at hr hp'
  obtain ⟨nd, hnd⟩ : ∃ nd, v[p]'hp' = nd := ⟨_, rfl⟩
  rw [hnd] at hin q0 q3 q5 hs
  have hAt : NdAt nd x y t A1 c1 w := hin
  have bk : (0 : Int) ≤ (p : Int) ∧ (p : Int) < (n : Int) := by omega
  have bl : (n : Int) ≤ 512 := by omega
  have f0 : decide (n ≤ p) = false := decide_eq_false (by omega)
  have HRE := Lib.hid (restD_eq (d := d) hp')
  rw [hnd] at HRE
  have hB : holdB nd = (ndOk nd && decide (0 ≤ nd.many)) := rfl
  rw [hnd] at hh hm
  have HQ : Hid (bhZ v d p = -1) := Lib.hid (bhZ_none (by
    rw [HRE.out]
    split
    · cases hk : kidsD (restD (d - 1)) nd.many.toNat false (v.drop (p + 1)) with
      | none => rfl
      | some y =>
        have := kidsD_len (b' := y.1) (r := y.2) hk
        rw [List.length_drop] at this
        omega
    · rfl))
  have HC := Lib.hid (rnode nd x y t A1 c1 w hAt hs true hh)
  unfold NdV at HC
  obtain ⟨kd, hkd⟩ : ∃ kd, nd.kind = kd := ⟨_, rfl⟩
  obtain ⟨mm, hmm⟩ : ∃ mm, nd.many = mm := ⟨_, rfl⟩
  obtain ⟨n2, hn2⟩ : ∃ n2, nd.attrs.length = n2 := ⟨_, rfl⟩
  have ba := hin.lo
  have bb := hin.hi
  subst hA
  rw [hkd, hmm, hn2] at HC
  rw [hkd] at q0
  rw [hmm] at q5 ba bb
  rw [hn2] at q3
  rw [hmm] at hm
  have g1 : decide (mm < 0) = false := decide_eq_false (by omega)
  have g2 : decide ((n : Int) < mm) = true := decide_eq_true (by omega)
  clear hn hr hs hp' hnd hin hAt HRE hB hh hkd hmm hn2
  go_enter Tryz.func45, Tryz.ntmps45
  go_wp2_with (first
    | (go_at_call 64; (with_reducible refine (HC.out).mono ?_); rintro e1 w1 ⟨rfl, hb1⟩; have hq1 := fun o => (hb1.cell (p := ⟨b0, o, none⟩) hbB); have s0 := (hq1 _).trans q0; have s5 := (hq1 _).trans q5; clear hq1)
    | fail)
  go_ret
  exact ⟨ret_z HQ.out.symm, hb1⟩
theorem rb_deep (d : Nat) (A : Option Addr) (n c : Nat) (v : List Nd) (hn : v.length = n) (hl : n ≤ 512) (z : Int) (p : Nat) (w : World) (hp : p < n) (hr : RdB NdS w A v) (hs : SmallN (v[p]'(by omega))) (hd : d = 0) (hz : z = 13) (hh : ndOk (v[p]'(by omega)) = true) (hk : (v[p]'(by omega)).kind = 1) (hm0 : 0 ≤ (v[p]'(by omega)).many) (hm : (v[p]'(by omega)).many ≤ (n : Int)) :
    Calls Tryz.prog 45 #[.slice A n c, .int .i64 p, .int .i64 z] w fun e w' => e = .returned (.int .i64 (bhZ v d p)) ∧ Below w.heap.size w w' := by
  have hp' : p < v.length := by omega
  obtain ⟨b0, off, x, y, t, A1, c1, hA, hbB, hin, q0, q1, q2, q3, q4, q5⟩ := nd_at hr hp'
  obtain ⟨nd, hnd⟩ : ∃ nd, v[p]'hp' = nd := ⟨_, rfl⟩
  rw [hnd] at hin q0 q3 q5 hs
  have hAt : NdAt nd x y t A1 c1 w := hin
  have bk : (0 : Int) ≤ (p : Int) ∧ (p : Int) < (n : Int) := by omega
  have bl : (n : Int) ≤ 512 := by omega
  have f0 : decide (n ≤ p) = false := decide_eq_false (by omega)
  have HRE := Lib.hid (restD_eq (d := d) hp')
  rw [hnd] at HRE
  have hB : holdB nd = (ndOk nd && decide (0 ≤ nd.many)) := rfl
  rw [hnd] at hh hm hm0 hk
  have HQ : Hid (bhZ v d p = -1) := Lib.hid (bhZ_none (by rw [HRE.out, if_neg]; rintro ⟨_, h⟩; exact h ⟨hk, hd⟩))
  have HC := Lib.hid (rnode nd x y t A1 c1 w hAt hs true hh)
  unfold NdV at HC
  obtain ⟨kd, hkd⟩ : ∃ kd, nd.kind = kd := ⟨_, rfl⟩
  obtain ⟨mm, hmm⟩ : ∃ mm, nd.many = mm := ⟨_, rfl⟩
  obtain ⟨n2, hn2⟩ : ∃ n2, nd.attrs.length = n2 := ⟨_, rfl⟩
  have ba := hin.lo
  have bb := hin.hi
  subst hA
  rw [hkd, hmm, hn2] at HC
  rw [hkd] at q0
  rw [hmm] at q5 ba bb
  rw [hn2] at q3
  rw [hmm] at hm hm0
  have g1 : decide (mm < 0) = false := decide_eq_false (by omega)
  have g2 : decide ((n : Int) < mm) = false := decide_eq_false (by omega)
  obtain rfl : 1 = kd := by rw [← hkd, hk]
  rw [show ((1 : Nat) : Int) = 1 from rfl] at HC q0
  subst hz
  clear hn hr hs hp' hnd hin hAt HRE hB hh hkd hmm hn2 hk hd
  go_enter Tryz.func45, Tryz.ntmps45
  go_wp2_with (first
    | (go_at_call 64; (with_reducible refine (HC.out).mono ?_); rintro e1 w1 ⟨rfl, hb1⟩; have hq1 := fun o => (hb1.cell (p := ⟨b0, o, none⟩) hbB); have s0 := (hq1 _).trans q0; have s5 := (hq1 _).trans q5; clear hq1)
    | fail)
  go_ret
  exact ⟨ret_z HQ.out.symm, hb1⟩
theorem rb_go1 (d : Nat) (A : Option Addr) (n c : Nat) (v : List Nd) (hn : v.length = n) (hl : n ≤ 512) (z : Int) (p : Nat) (w : World) (hp : p < n) (hr : RdB NdS w A v) (hs : SmallN (v[p]'(by omega))) (hdd : d ≤ 12) (hd : 0 < d) (ih : 0 < d → RB (d - 1) A n c v) (hz : z + d = 13) (hh : ndOk (v[p]'(by omega)) = true) (hk : (v[p]'(by omega)).kind = 1) (hm0 : 0 ≤ (v[p]'(by omega)).many) (hm : (v[p]'(by omega)).many ≤ (n : Int)) :
    Calls Tryz.prog 45 #[.slice A n c, .int .i64 p, .int .i64 z] w fun e w' => e = .returned (.int .i64 (bhZ v d p)) ∧ Below w.heap.size w w' := by
  have hp' : p < v.length := by omega
  obtain ⟨b0, off, x, y, t, A1, c1, hA, hbB, hin, q0, q1, q2, q3, q4, q5⟩ := nd_at hr hp'
  obtain ⟨nd, hnd⟩ : ∃ nd, v[p]'hp' = nd := ⟨_, rfl⟩
  rw [hnd] at hin q0 q3 q5 hs
  have hAt : NdAt nd x y t A1 c1 w := hin
  have bk : (0 : Int) ≤ (p : Int) ∧ (p : Int) < (n : Int) := by omega
  have bl : (n : Int) ≤ 512 := by omega
  have f0 : decide (n ≤ p) = false := decide_eq_false (by omega)
  have HRE := Lib.hid (restD_eq (d := d) hp')
  rw [hnd] at HRE
  have hB : holdB nd = (ndOk nd && decide (0 ≤ nd.many)) := rfl
  rw [hnd] at hh hm hm0 hk
  have HRE2 : Hid (restD d (v.drop p) = (kidsD (restD (d - 1)) nd.many.toNat false (v.drop (p + 1))).map (·.2)) := Lib.hid (by rw [HRE.out, if_pos ⟨by rw [hB, hh, decide_eq_true hm0]; rfl, by omega⟩])
  have HC := Lib.hid (rnode nd x y t A1 c1 w hAt hs true hh)
  unfold NdV at HC
  obtain ⟨kd, hkd⟩ : ∃ kd, nd.kind = kd := ⟨_, rfl⟩
  obtain ⟨mm, hmm⟩ : ∃ mm, nd.many = mm := ⟨_, rfl⟩
  obtain ⟨n2, hn2⟩ : ∃ n2, nd.attrs.length = n2 := ⟨_, rfl⟩
  have ba := hin.lo
  have bb := hin.hi
  subst hA
  rw [hkd, hmm, hn2] at HC
  rw [hkd] at q0
  rw [hmm] at q5 ba bb
  rw [hn2] at q3
  rw [hmm] at hm hm0 HRE2
  have g1 : decide (mm < 0) = false := decide_eq_false (by omega)
  have g2 : decide ((n : Int) < mm) = false := decide_eq_false (by omega)
  have HLN := Lib.hid hn
  have HZ := Lib.hid hz
  have HIH := Lib.hid ih
  have HR := Lib.hid hr
  have HPL : Hid (p < n) := Lib.hid hp
  have fz : decide ((12 : Int) < z) = false := decide_eq_false (by omega)
  have bz : (1 : Int) ≤ z ∧ z ≤ 12 := by omega
  have HD0 := Lib.hid hd
  have HNO : Hid (kidsD (restD (d - 1)) mm.toNat false (v.drop (p + 1)) = none → bhZ v d p = -1) := Lib.hid fun h => bhZ_none (by rw [HRE2.out, h]; rfl)
  have HYES : Hid (∀ (l' : List Nd) (b : Bool), kidsD (restD (d - 1)) mm.toNat false (v.drop (p + 1)) = some (b, l') → bhZ v d p = ((n - l'.length : Nat) : Int)) := Lib.hid fun l' b h => by rw [bhZ_some (r := l') (by rw [HRE2.out, h]; rfl), HLN.out]
  obtain rfl : 1 = kd := by rw [← hkd, hk]
  rw [show ((1 : Nat) : Int) = 1 from rfl] at HC q0
  have HBB := Lib.hid hbB
  clear hn hr hs hp' hnd hin hAt HRE hB hh hkd hmm hn2 hk hz ih hd hdd
  go_enter Tryz.func45, Tryz.ntmps45
  go_wp2_with (first
    | (go_at_call 64; (with_reducible refine (HC.out).mono ?_); rintro e1 w1 ⟨rfl, hb1⟩; have hq1 := fun o => (hb1.cell (p := ⟨b0, o, none⟩) hbB); have s0 := (hq1 _).trans q0; have s5 := (hq1 _).trans q5; clear hq1; have HB1 := Lib.hid hb1; clear hb1)
    | fail)
  go_loopg [7, 8, 9] n (fun gg x7 x8 i wr => ∃ (j : Nat) (b : Bool) (p' : Nat), j + gg = n ∧ (j : Int) ≤ mm ∧ i = .int .i64 j ∧ x8 = .bool b ∧ x7 = .int .i64 p' ∧ kidsD (restD (d - 1)) j false (v.drop (p + 1)) = some (b, v.drop p') ∧ p' ≤ n ∧ Below w.heap.size w wr)
  case atStart => exact ⟨0, false, p + 1, by omega, hm0, rfl, rfl, by go_num, by rw [kidsD], by have := HPL.out; omega, HB1.out⟩
  case round =>
    obtain ⟨j, b, p', hjg, hjm, rfl, rfl, rfl, hkd, hpn, hbw⟩ := hrel
    have HBW := Lib.hid hbw
    have HKD := Lib.hid hkd
    clear s0 s5
    have r5 := (hbw.cell (p := ⟨b0, _, none⟩) HBB.out).trans q5
    have bp : (0 : Int) ≤ (p' : Int) ∧ (p' : Int) ≤ (n : Int) := by omega
    by_cases hlt : (j : Int) < mm
    · have HNXT : Hid _ := Lib.hid (kids_next hkd (m := mm.toNat) (by omega))
      have hcall := HIH.out HD0.out (z + 1) p' wr (by have := HZ.out; have := HD0.out; omega) hpn (HR.out.on hbw)
      cases hr : restD (d - 1) (v.drop p') with
      | none =>
        have HF : Hid (bhZ v d p = -1) := Lib.hid (HNO.out (by
          by_cases hp2 : p' < v.length
          · exact (HNXT.out.2 hp2).2.1 hr
          · exact HNXT.out.1 (by omega)))
        rw [bhZ_none hr] at hcall
        have HCALL := Lib.hid hcall
        clear hr hcall hkd hbw HNXT
        go_wp2_with (first
          | (go_at_call 45; (with_reducible refine (HCALL.out).mono ?_); rintro e2 w2 ⟨rfl, hb2⟩)
          | fail)
        go_ret
        exact ⟨ret_z HF.out.symm, stp HBW.out hb2⟩
      | some r =>
        rw [bhZ_some hr] at hcall
        have hlr := restD_len hr
        have hsuf := restD_drop hr
        rw [List.length_drop] at hsuf hlr
        have hp2 : p' < v.length := by omega
        rw [List.drop_drop, show p' + (v.length - p' - r.length) = v.length - r.length by omega] at hsuf
        obtain ⟨p3, hp3⟩ : ∃ p3, v.length - r.length = p3 := ⟨_, rfl⟩
        rw [hp3] at hsuf hcall
        have HCALL := Lib.hid hcall
        obtain ⟨bb', off', x', y', t', A1', c1', hA', _, hin', u0, _, _, _, _, _⟩ := nd_at (HR.out.on hbw) hp2
        injection hA' with hA'
        injection hA' with ha1 ha2 _
        subst ha1 ha2
        obtain ⟨k2, hk2⟩ : ∃ k2, (v[p']'hp2).kind = k2 := ⟨_, rfl⟩
        rw [hk2] at u0
        have HN2 := Lib.hid (HNXT.out.2 hp2)
        rw [hk2] at HN2
        have bp2 : (0 : Int) ≤ (p' : Int) ∧ (p' : Int) < (n : Int) := by rw [← HLN.out]; omega
        have bp3 : (0 : Int) ≤ (p3 : Int) ∧ (p3 : Int) ≤ (n : Int) := by rw [← HLN.out]; omega
        have f9 : decide ((p3 : Int) < 0) = false := decide_eq_false (by omega)
        obtain ⟨tt, htt⟩ : ∃ tt, ((k2 : Int) == 2) = tt := ⟨_, rfl⟩
        have HTT : Hid (decide (k2 = 2) = tt) := Lib.hid (by rw [← htt, Bool.eq_iff_iff]; simp; omega)
        have HT2 : Hid (tt = true ↔ k2 = 2) := Lib.hid (by rw [← HTT.out]; simp)
        have HSUF := Lib.hid hsuf
        have HRR := Lib.hid hr
        have HJ : Hid (p3 ≤ n) := Lib.hid (by rw [← HLN.out]; omega)
        have HWR : Hid (b0 < wr.heap.size) := Lib.hid (Nat.lt_of_lt_of_le HBB.out hbw.size)
        clear hr hcall hkd HNXT hk2 hin' hsuf hlr hp3 hbw
        by_cases hboth : b = true ∧ tt = true
        · obtain ⟨rfl, rfl⟩ := hboth
          have HF : Hid (bhZ v d p = -1) := Lib.hid (HNO.out (HN2.out.1 ⟨rfl, HT2.out.1 rfl⟩))
          go_wp2_with (first
            | (go_at_call 45; (with_reducible refine (HCALL.out).mono ?_); rintro e2 w2 ⟨rfl, hb2⟩; have u02 := (hb2.cell (p := ⟨b0, _, none⟩) HWR.out).trans u0)
            | fail)
          go_ret
          exact ⟨ret_z HF.out.symm, stp HBW.out hb2⟩
        · have HNX : Hid (kidsD (restD (d - 1)) (j + 1) false (v.drop (p + 1)) = some (tt, v.drop p3)) := Lib.hid (by
            rw [HN2.out.2.2 r (fun h => hboth ⟨h.1, HT2.out.2 h.2⟩) HRR.out, HTT.out, ← HSUF.out])
          have HJ2 : Hid (j + 1 ≤ n) := Lib.hid (by
            have := kidsD_len HNX.out
            rw [List.length_drop, List.length_drop, HLN.out] at this
            omega)
          have hbt : (b = false ∧ tt = false) ∨ (b = false ∧ tt = true) ∨ (b = true ∧ tt = false) := by
            cases b <;> cases tt <;> simp_all
          clear hboth
          rcases hbt with ⟨rfl, rfl⟩ | ⟨rfl, rfl⟩ | ⟨rfl, rfl⟩
          all_goals
            go_wp2_with (first
              | (go_at_call 45; (with_reducible refine (HCALL.out).mono ?_); rintro e2 w2 ⟨rfl, hb2⟩; have u02 := (hb2.cell (p := ⟨b0, _, none⟩) HWR.out).trans u0; have HB2 := Lib.hid hb2; clear hb2)
              | fail)
            go_roundg (gk - 1)
            case rel => exact ⟨j + 1, _, p3, by have := HJ2.out; omega, by omega, by go_num, rfl, rfl, HNX.out, HJ.out, stp HBW.out HB2.out⟩
            case measure => have := HJ2.out; omega
    · have hje : mm.toNat = j := by omega
      have hY := HYES.out (v.drop p') b (by rw [hje]; exact hkd)
      rw [List.length_drop, HLN.out, show n - (n - p') = p' by omega] at hY
      have HY := Lib.hid hY
      clear hkd hje hY hbw
      go_wp2_with fail
      go_ret
      exact ⟨ret_z HY.out.symm, HBW.out⟩
theorem rb_go2 (d : Nat) (A : Option Addr) (n c : Nat) (v : List Nd) (hn : v.length = n) (hl : n ≤ 512) (z : Int) (p : Nat) (w : World) (hp : p < n) (hr : RdB NdS w A v) (hs : SmallN (v[p]'(by omega))) (hdd : d ≤ 12) (ih : 0 < d → RB (d - 1) A n c v) (hz : z + d = 13) (hh : ndOk (v[p]'(by omega)) = true) (hk : (v[p]'(by omega)).kind = 2) (hm0 : 0 ≤ (v[p]'(by omega)).many) (hm : (v[p]'(by omega)).many ≤ (n : Int)) :
    Calls Tryz.prog 45 #[.slice A n c, .int .i64 p, .int .i64 z] w fun e w' => e = .returned (.int .i64 (bhZ v d p)) ∧ Below w.heap.size w w' := by
  have hp' : p < v.length := by omega
  obtain ⟨b0, off, x, y, t, A1, c1, hA, hbB, hin, q0, q1, q2, q3, q4, q5⟩ := nd_at hr hp'
  obtain ⟨nd, hnd⟩ : ∃ nd, v[p]'hp' = nd := ⟨_, rfl⟩
  rw [hnd] at hin q0 q3 q5 hs
  have hAt : NdAt nd x y t A1 c1 w := hin
  have bk : (0 : Int) ≤ (p : Int) ∧ (p : Int) < (n : Int) := by omega
  have bl : (n : Int) ≤ 512 := by omega
  have f0 : decide (n ≤ p) = false := decide_eq_false (by omega)
  have HRE := Lib.hid (restD_eq (d := d) hp')
  rw [hnd] at HRE
  have hB : holdB nd = (ndOk nd && decide (0 ≤ nd.many)) := rfl
  rw [hnd] at hh hm hm0 hk
  have HRE2 : Hid (restD d (v.drop p) = (kidsD (restD (d - 1)) nd.many.toNat false (v.drop (p + 1))).map (·.2)) := Lib.hid (by rw [HRE.out, if_pos ⟨by rw [hB, hh, decide_eq_true hm0]; rfl, by omega⟩])
  have HC := Lib.hid (rnode nd x y t A1 c1 w hAt hs true hh)
  unfold NdV at HC
  obtain ⟨kd, hkd⟩ : ∃ kd, nd.kind = kd := ⟨_, rfl⟩
  obtain ⟨mm, hmm⟩ : ∃ mm, nd.many = mm := ⟨_, rfl⟩
  obtain ⟨n2, hn2⟩ : ∃ n2, nd.attrs.length = n2 := ⟨_, rfl⟩
  have ba := hin.lo
  have bb := hin.hi
  subst hA
  rw [hkd, hmm, hn2] at HC
  rw [hkd] at q0
  rw [hmm] at q5 ba bb
  rw [hn2] at q3
  rw [hmm] at hm hm0 HRE2
  have g1 : decide (mm < 0) = false := decide_eq_false (by omega)
  have g2 : decide ((n : Int) < mm) = false := decide_eq_false (by omega)
  have HLN := Lib.hid hn
  have HZ := Lib.hid hz
  have HIH := Lib.hid ih
  have HR := Lib.hid hr
  have HPL : Hid (p < n) := Lib.hid hp
  have HM2 : Hid (mm = 0) := Lib.hid (by rw [← hmm]; exact (ndOk_two hh hk).1)
  have HNO : Hid (kidsD (restD (d - 1)) mm.toNat false (v.drop (p + 1)) = none → bhZ v d p = -1) := Lib.hid fun h => bhZ_none (by rw [HRE2.out, h]; rfl)
  have HYES : Hid (∀ (l' : List Nd) (b : Bool), kidsD (restD (d - 1)) mm.toNat false (v.drop (p + 1)) = some (b, l') → bhZ v d p = ((n - l'.length : Nat) : Int)) := Lib.hid fun l' b h => by rw [bhZ_some (r := l') (by rw [HRE2.out, h]; rfl), HLN.out]
  obtain rfl : 2 = kd := by rw [← hkd, hk]
  rw [show ((2 : Nat) : Int) = 2 from rfl] at HC q0
  have HBB := Lib.hid hbB
  clear hn hr hs hp' hnd hin hAt HRE hB hh hkd hmm hn2 hk hz ih hdd
  go_enter Tryz.func45, Tryz.ntmps45
  go_wp2_with (first
    | (go_at_call 64; (with_reducible refine (HC.out).mono ?_); rintro e1 w1 ⟨rfl, hb1⟩; have hq1 := fun o => (hb1.cell (p := ⟨b0, o, none⟩) hbB); have s0 := (hq1 _).trans q0; have s5 := (hq1 _).trans q5; clear hq1; have HB1 := Lib.hid hb1; clear hb1)
    | fail)
  go_loopg [7, 8, 9] n (fun gg x7 x8 i wr => ∃ (j : Nat) (b : Bool) (p' : Nat), j + gg = n ∧ (j : Int) ≤ mm ∧ i = .int .i64 j ∧ x8 = .bool b ∧ x7 = .int .i64 p' ∧ kidsD (restD (d - 1)) j false (v.drop (p + 1)) = some (b, v.drop p') ∧ p' ≤ n ∧ Below w.heap.size w wr)
  case atStart => exact ⟨0, false, p + 1, by omega, hm0, rfl, rfl, by go_num, by rw [kidsD], by have := HPL.out; omega, HB1.out⟩
  case round =>
    obtain ⟨j, b, p', hjg, hjm, rfl, rfl, rfl, hkd, hpn, hbw⟩ := hrel
    have HBW := Lib.hid hbw
    have HKD := Lib.hid hkd
    clear s0 s5
    have r5 := (hbw.cell (p := ⟨b0, _, none⟩) HBB.out).trans q5
    have bp : (0 : Int) ≤ (p' : Int) ∧ (p' : Int) ≤ (n : Int) := by omega
    by_cases hlt : (j : Int) < mm
    · have := HM2.out
      omega
    · have hje : mm.toNat = j := by omega
      have hY := HYES.out (v.drop p') b (by rw [hje]; exact hkd)
      rw [List.length_drop, HLN.out, show n - (n - p') = p' by omega] at hY
      have HY := Lib.hid hY
      clear hkd hje hY hbw
      go_wp2_with fail
      go_ret
      exact ⟨ret_z HY.out.symm, HBW.out⟩
theorem rb_all (A : Option Addr) (n c : Nat) (v : List Nd) (hn : v.length = n) (hl : n ≤ 512) (hsm : ∀ n ∈ v, SmallN n) : ∀ d, d ≤ 12 → RB d A n c v := by
  have step : ∀ d, d ≤ 12 → (0 < d → RB (d - 1) A n c v) → RB d A n c v := by
    intro d hd ih z p w hz hp hr
    by_cases hpl : p < n
    · have hpv : p < v.length := by omega
      have hs := hsm _ (List.getElem_mem hpv)
      cases hh : ndOk (v[p]'hpv) with
      | false => exact rb_bad d A n c v hn hl z p w hpl hr hs hh
      | true =>
        by_cases hm0 : (v[p]'hpv).many < 0
        · exact rb_neg d A n c v hn hl z p w hpl hr hs hh hm0
        · by_cases hm : (n : Int) < (v[p]'hpv).many
          · exact rb_many d A n c v hn hl z p w hpl hr hs hh hm
          · by_cases hk : (v[p]'hpv).kind = 1
            · by_cases hd0 : d = 0
              · exact rb_deep d A n c v hn hl z p w hpl hr hs hd0 (by omega) hh hk (by omega) (by omega)
              · exact rb_go1 d A n c v hn hl z p w hpl hr hs hd (by omega) ih hz hh hk (by omega) (by omega)
            · exact rb_go2 d A n c v hn hl z p w hpl hr hs hd ih hz hh ((ndOk_kind hh).resolve_left hk) (by omega) (by omega)
    · exact rb_end d A n c v hn hl z p w (by omega)
  intro d
  induction d with
  | zero => intro hd; exact step 0 hd (fun h => by omega)
  | succ d ih => intro hd; exact step (d + 1) hd (fun _ => ih (by omega))
end Hx
end Go.Proofs.YteobcohjikjalaaGreatDoor
