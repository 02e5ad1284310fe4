/-
  Texts of one seat, put together: SpaX.
-/
import Derived.Test.YtioiifdcgdoanaaGreatDoorBkA
import Derived.Test.YtioiifdcgdoanaaGreatDoorBk29
import Derived.Test.YtioiifdcgdoanaaGreatDoorBk30
namespace Go.Proofs.YtioiifdcgdoanaaGreatDoor
open Go.RowKit
namespace Hx
open Lx Tr Tx Nmb Es Ns
set_option maxRecDepth 100000
set_option maxHeartbeats 16000000
set_option linter.unusedVariables false
theorem NotGreat.up {m : Nat} {n : Nd} (h : NotGreat m n) (hm : m < 20000) : SmallU m n :=
  ⟨by have := h.space; omega, by have := h.name; omega, by have := h.text; omega, by have := h.attrs; omega, fun a ha => by obtain ⟨h1, h2, h3⟩ := h.each a ha; exact ⟨by omega, by omega, by omega⟩⟩
theorem NodesTo.no0 {l : List Nd} {z : Int} {w w' : World} {e : Ending} (h : NodesTo l z w e w') (hl : l = []) : ∃ A c, e = .returned (.tuple #[.slice A 0 c, .int .i64 z]) ∧ Below w.heap.size w w' := by
  obtain ⟨A, c, h1, h2⟩ := h.with (n := 0) (by rw [hl]; rfl)
  exact ⟨A, c, h1, h2.2⟩
theorem strange11 (A : Option Addr) (n c : Nat) (v : List Nd) (w : World) (hr : RdB NdS w A v) (hn : v.length = n) (hm : n ≤ 1000000) (q : Bool) (hq : v.any (fun m => decide (m.space = ofXml)) = q) :
    Calls Tryz.prog 28 #[.slice A n c] w fun e w' => e = .returned (.bool q) ∧ Below w.heap.size w w' := by
  have HR := hI hr
  have HN := hI hn
  have HQ := hI hq
  have bn : (n : Int) ≤ 1000000 := by omega
  clear hr hn hq
  go_enter Tryz.func28, Tryz.ntmps28
  go_wp2_with fail
  go_loopg [3] n (fun gg i wr => ∃ j : Nat, j + gg = n ∧ i = .int .i64 j ∧ (v.take j).any (fun m => decide (m.space = ofXml)) = false ∧ Below w.heap.size w wr)
  case atStart => exact ⟨0, by omega, rfl, rfl, Below.refl _ _⟩
  case round =>
    obtain ⟨j, hjg, rfl, hany, hbw⟩ := hrel
    have HBW := hI hbw
    by_cases hlt : j < n
    · have hjl : j < v.length := by rw [HN.out]; exact hlt
      obtain ⟨b0, off, x, y, z, A1, c1, hA, hbB, hin, c0w, c1w, c2w, c3w, c4w, c5w⟩ := nd_at HR.out hjl
      obtain ⟨t, ht⟩ : ∃ t, v[j]'hjl = t := ⟨_, rfl⟩
      rw [ht] at hin
      have c1' := (hbw.cell (p := ⟨b0, _, none⟩) hbB).trans c1w
      have bj : (0 : Int) ≤ (j : Int) ∧ (j : Int) < (n : Int) := by omega
      have hlt2 : (j : Int) < (n : Int) := by omega
      obtain ⟨p, hp⟩ : ∃ p, decide (x.data.toList = ofXml) = p := ⟨_, rfl⟩
      have f2 := eq_lit x ofXml p hp
      unfold ofXml at f2
      have HTK : Hid ((v.take (j + 1)).any (fun m => decide (m.space = ofXml)) = p) := hI (by
        rw [List.take_succ_eq_append_getElem hjl, ht, List.any_append, hany, Bool.false_or, List.any_cons, List.any_nil, Bool.or_false, ← hin.space]
        exact hp)
      have HLT := hI hjl
      subst hA
      clear hany hbw hin c0w c1w c2w c3w c4w c5w ht hjl hbB hp
      cases p with
      | true =>
        obtain rfl : q = true := by
          rw [← HQ.out, ← List.take_append_drop (j + 1) v, List.any_append, HTK.out, Bool.true_or]
        go_wp2_with fail
        go_ret
        exact ⟨rfl, HBW.out⟩
      | false =>
        go_wp2_with fail
        go_roundg (gk - 1)
        case measure => omega
        case rel => exact ⟨j + 1, by omega, by go_num, HTK.out, HBW.out⟩
    · obtain rfl : j = n := by omega
      have hjj : ¬ ((j : Int) < (j : Int)) := by omega
      rw [← HN.out, List.take_length] at hany
      obtain rfl : q = false := by rw [← HQ.out]; exact hany
      clear hany hbw
      go_wp2_with fail
      go_ret
      exact ⟨rfl, HBW.out⟩
theorem bare_up {k : Nat} (hk : k ≤ 900000) {v l : List Nd} {z : Int} (h : ∀ n ∈ v, SmallU k n) (ha : ∀ n ∈ v, n.attrs.length ≤ 30) (hq : bareR v [] = (l, z)) : ∀ m ∈ l, SmallU 1000000 m := by
  have key : ∀ m ∈ (bareW v []).1.1, SmallU 1000000 m :=
    (walkD_prop (P := fun _ => True) (Q := fun n => SmallU k n ∧ n.attrs.length ≤ 30) (W := SmallU 1000000) (fun o n _ hn => by
      have h1 := bareN_small hk o hn.1
      refine ⟨⟨h1.space, h1.name, h1.text, ?_, h1.each⟩, trivial⟩
      show (bareL o n).length ≤ _
      unfold bareL
      have h2 := spacesL_len n.attrs []
      have h3 := ownD_len o n
      have h4 := hn.2
      rw [List.length_nil] at h2
      rw [List.length_append, List.length_append, numD_len, List.length_map]
      omega) (fun n hn => hn.1.up (by omega)) 12 [] v trivial (fun n hn => ⟨h n hn, ha n hn⟩)).1
  unfold bareR at hq
  split at hq
  · split at hq
    · injection hq with hq _
      rw [← hq]
      exact key
    · injection hq with hq _
      rw [← hq]
      exact fun m hm => by cases hm
  · injection hq with hq _
    rw [← hq]
    exact fun m hm => by cases hm
theorem may_attrs {v : List Nd} (h : mayV v = true) : ∀ n ∈ v, n.attrs.length ≤ 30 := fun n hn => by
  have hok := may_ndOk h n hn
  rcases ndOk_kind hok with hk | hk
  · have := (atsOk_iff.1 (ndOk_one hok hk).2.2.2).2.2
    omega
  · rw [(ndOk_two hok hk).2.2.2.1]
    exact Nat.zero_le _
theorem back11 (A : Option Addr) (n c : Nat) (A2 : Option Addr) (n2 c2 : Nat) (v raw : List Nd) (w : World) (hr : RdB NdS w A v) (hn : v.length = n) (hmax : n ≤ 9223372036854775807) (hr2 : RdB NdS w A2 raw) (hn2 : raw.length = n2) (hmax2 : n2 ≤ 9223372036854775807) (hE : Ev9 w) (hT : TbH w) :
    Calls Tryz.prog 5 #[.slice A n c, .slice A2 n2 c2] w fun e w' => e = .returned (.bool true) ∧ Below w.heap.size w w' := by
  have HR := hI hr
  have HN := hI hn
  have HR2 := hI hr2
  have HN2 := hI hn2
  have HG1 : Hid (∀ W, Below w.heap.size w W → Calls Tryz.prog 18 #[.slice A n c, .int .i64 100, .int .i64 5000] W (GreatTo v 100 5000 W)) := hI fun W hW => rgreat10 A n c v 100 5000 W (hr.on hW) hn (by decide) (by decide) hmax
  have HG2 : Hid (∀ W, Below w.heap.size w W → Calls Tryz.prog 18 #[.slice A2 n2 c2, .int .i64 100, .int .i64 5000] W (GreatTo raw 100 5000 W)) := hI fun W hW => rgreat10 A2 n2 c2 raw 100 5000 W (hr2.on hW) hn2 (by decide) (by decide) hmax2
  clear hr hn hr2 hn2 hmax hmax2
  go_enter Tryz.func5, Tryz.ntmps5
  go_upto_region 4 with (first
    | (go_at_call 17; (with_reducible refine (alive11 w hE hT).mono ?_); rintro e1 w1 ⟨rfl, hb1⟩; have HB1 := hI hb1; clear hb1)
    | (go_at_call 18; (with_reducible refine (HG1.out w1 HB1.out).mono ?_); rintro e2 w2 ⟨qa, rfl, hb2, hqa⟩; have HB2 := hI (stp HB1.out hb2); have HQA := hI hqa; clear hb2 hqa)
    | (go_at_call 18; (with_reducible refine (HG2.out w2 HB2.out).mono ?_); rintro e3 w3 ⟨qb, rfl, hb3, hqb⟩; have HB3 := hI (stp HB2.out hb3); have HQB := hI hqb; clear hb3 hqb)
    | fail)
  · go_ret
    exact ⟨rfl, by first | exact HB3.out | exact HB2.out⟩
  · go_ret
    exact ⟨rfl, by first | exact HB3.out | exact HB2.out⟩
  · obtain rfl : qa = false := by
      cases qa
      · rfl
      · first | exact absurd rfl (by assumption) | assumption | simp_all
    obtain rfl : qb = false := by
      cases qb
      · rfl
      · first | exact absurd rfl (by assumption) | assumption | simp_all
    have hsm1 : ∀ m ∈ v, SmallU 5000 m := fun m hm => ((HQA.out rfl).2 m hm).up (by decide)
    have hsm2 : ∀ m ∈ raw, SmallU 5000 m := fun m hm => ((HQB.out rfl).2 m hm).up (by decide)
    have hle : n ≤ 100 := by have := (HQA.out rfl).1; have := HN.out; omega
    have hle2 : n2 ≤ 100 := by have := (HQB.out rfl).1; have := HN2.out; omega
    obtain ⟨a9, e9, hae⟩ : ∃ a9 e9, bareR v [] = (a9, e9) := ⟨_, _, rfl⟩
    obtain ⟨na, hna⟩ : ∃ na, a9.length = na := ⟨_, rfl⟩
    have HBA := hI ((bare_to A n c v ⟨#[]⟩ w3 (HR.out.on HB3.out) HN.out (by omega) (fun _ m hm => (hsm1 m hm).up (by decide)) (by decide) (hT.to HB3.out) a9 e9 hae).mono fun e w' hh => hh.with hna)
    by_cases he : e9 = 0
    · subst he
      obtain ⟨k1, k2, k3, k4, k5⟩ := bare_back hae
      have hsa := bare_up (k := 5000) (by decide) hsm1 (may_attrs (mayS_iff.1 k4).2) hae
      have HRS : Hid (∀ A c W, RdB NdS W A a9 → Calls Tryz.prog 20 #[.slice A na c] W fun e w' => ∃ A c, e = .returned (.tuple #[.slice A n c, .int .i64 0]) ∧ RdB NdS w' A v ∧ Below W.heap.size W w') := hI fun A c W hW => (resolve_to A na c a9 W hW hna (by have := HN.out; omega) (fun _ m hm => hsa m hm) v 0 k1).mono fun e w' hh => hh.with HN.out
      have HSV : Hid (∀ B d W, Below w.heap.size w W → RdB NdS W B v → Calls Tryz.prog 27 #[.slice B n d, .slice A n c] W fun e w' => e = .returned (.bool true) ∧ Below W.heap.size W w') := hI fun B d W hW hb => same10 B A n d n c v v W hb HN.out (HR.out.on hW) HN.out (by omega) (by omega) (fun t ht => by have := (hsm1 t ht).attrs; omega) (fun t ht => by have := (hsm1 t ht).attrs; omega) true (decide_eq_true rfl)
      clear hae hna k1 k2 k3 k4 k5 hsa
      go_upto_region 9 with (first
        | (go_at_call 16; (with_reducible refine (HBA.out).mono ?_); rintro e10 w10 ⟨A10, c10, rfl, hr10, hb10⟩; have HR10 := hI hr10; have HB10 := hI (stp HB3.out hb10); clear hr10 hb10)
        | (go_at_call 20; (with_reducible refine (HRS.out _ _ w10 HR10.out).mono ?_); rintro e11 w11 ⟨A11, c11, rfl, hr11, hb11⟩; have HR11 := hI hr11; have HB11 := hI (stp HB10.out hb11); clear hr11 hb11)
        | (go_at_call 27; (with_reducible refine (HSV.out _ _ w11 HB11.out HR11.out).mono ?_); rintro e12 w12 ⟨rfl, hb12⟩; have HB12 := hI (stp HB11.out hb12); clear hb12)
        | fail)
      obtain ⟨c9, g, hcg⟩ : ∃ c9 g, resolveR raw = (c9, g) := ⟨_, _, rfl⟩
      obtain ⟨nc, hnc⟩ : ∃ nc, c9.length = nc := ⟨_, rfl⟩
      have HRR := hI (resolve_to A2 n2 c2 raw w12 (HR2.out.on HB12.out) HN2.out (by omega) (fun _ m hm => (hsm2 m hm).up (by decide)) c9 g hcg)
      by_cases hg : g = 0
      · subst hg
        obtain ⟨hmc, hlc, _, hstr⟩ := res_may hcg
        have hsc := resolveR_small (k := 5000) (by decide) hsm2 hcg
        have hcl : nc ≤ 512 := by have := (mayV_iff.1 hmc).1; omega
        have HCK : Hid (∀ A c W, RdB NdS W A c9 → Calls Tryz.prog 24 #[.slice A nc c] W fun e w' => e = .returned (.int .i64 (checkS c9)) ∧ Below W.heap.size W w') := hI fun A c W hW => check11 A nc c c9 W hW hnc (by omega) (fun _ m hm => (hsc m hm).to (by decide)) _ rfl
        have HRR2 := hI (HRR.out.mono fun e w' hh => hh.with hnc)
        cases hms : mayS c9 with
        | false =>
          have hc8 : checkS c9 = 8 := by unfold checkS; rw [hms]; rfl
          rw [hc8] at HCK
          have hex : c9.any (fun m => decide (m.space = ofXml)) = true := by
            rcases hstr with h | ⟨m, hm, he⟩
            · rw [h] at hms; cases hms
            · rw [List.any_eq_true]; exact ⟨m, hm, decide_eq_true he⟩
          have HST : Hid (∀ A c W, RdB NdS W A c9 → Calls Tryz.prog 28 #[.slice A nc c] W fun e w' => e = .returned (.bool true) ∧ Below W.heap.size W w') := hI fun A c W hW => strange11 A nc c c9 W hW hnc (by omega) true hex
          clear hcg hnc hmc hlc hstr hsc hms hc8 hex hsm1 hsm2 HRR
          go_wp2_with (first
            | (go_at_call 20; (with_reducible refine (HRR2.out).mono ?_); rintro e20 w20 ⟨A20, c20, rfl, hr20, hb20⟩; have HR20 := hI hr20; have HB20 := hI (stp HB12.out hb20); clear hr20 hb20)
            | (go_at_call 24; (with_reducible refine (HCK.out _ _ w20 HR20.out).mono ?_); rintro e21 w21 ⟨rfl, hb21⟩; have HR21 := hI (HR20.out.on hb21); have HB21 := hI (stp HB20.out hb21); clear hb21)
            | (go_at_call 28; (with_reducible refine (HST.out _ _ w21 HR21.out).mono ?_); rintro e22 w22 ⟨rfl, hb22⟩; have HB22 := hI (stp HB21.out hb22); clear hb22)
            | fail)
          go_ret
          exact ⟨rfl, HB22.out⟩
        | true =>
          have hc0 : checkS c9 = 0 := by unfold checkS; rw [hms]; rfl
          rw [hc0] at HCK
          obtain ⟨d9, h9, hdh⟩ : ∃ d9 h9, bareR c9 [] = (d9, h9) := ⟨_, _, rfl⟩
          obtain ⟨nd, hnd⟩ : ∃ nd, d9.length = nd := ⟨_, rfl⟩
          have hBAR : ∀ A c W, Below w.heap.size w W → RdB NdS W A c9 → Calls Tryz.prog 16 #[.slice A nc c, .string ⟨#[]⟩] W fun e w' => ∃ A c, e = .returned (.tuple #[.slice A nd c, .int .i64 h9]) ∧ RdB NdS w' A d9 ∧ Below W.heap.size W w' := fun A c W hW hr => (bare_to A nc c c9 ⟨#[]⟩ W hr hnc (by omega) (fun _ m hm => (hsc m hm).up (by decide)) (by decide) (hT.to hW) d9 h9 hdh).mono fun e w' hh => hh.with hnd
          have HBAR := hI hBAR
          by_cases hh : h9 = 0
          · subst hh
            obtain ⟨hb1, hb2, hb3, hb4, hb5⟩ := bare_back hdh
            have hsd := bareR_small (k := 5000) (by decide) hsc hdh
            have HRD : Hid (∀ A c W, RdB NdS W A d9 → Calls Tryz.prog 20 #[.slice A nd c] W fun e w' => ∃ A c, e = .returned (.tuple #[.slice A nc c, .int .i64 0]) ∧ RdB NdS w' A c9 ∧ Below W.heap.size W w') := hI fun A c W hW => (resolve_to A nd c d9 W hW hnd (by omega) (fun _ m hm => bare_up (k := 5000) (by decide) hsc (may_attrs hmc) hdh m hm) c9 0 hb1).mono fun e w' hh => hh.with hnc
            have HSM : Hid (∀ A c B d W, RdB NdS W A c9 → RdB NdS W B c9 → Calls Tryz.prog 27 #[.slice A nc c, .slice B nc d] W fun e w' => e = .returned (.bool true) ∧ Below W.heap.size W w') := hI fun A c B d W ha hb => same10 A B nc c nc d c9 c9 W ha hnc hb hnc (by omega) (by omega) (fun t ht => by have := (hsc t ht).attrs; omega) (fun t ht => by have := (hsc t ht).attrs; omega) true (decide_eq_true rfl)
            clear hcg hnc hmc hlc hstr hsc hms hc0 hdh hnd hb1 hb2 hb3 hb4 hb5 hsd hsm1 hsm2 hBAR HRR
            go_wp2_with (first
              | (go_at_call 20; (with_reducible refine (HRR2.out).mono ?_); rintro e20 w20 ⟨A20, c20, rfl, hr20, hb20⟩; have HR20 := hI hr20; have HB20 := hI (stp HB12.out hb20); clear hr20 hb20)
              | (go_at_call 24; (with_reducible refine (HCK.out _ _ w20 HR20.out).mono ?_); rintro e21 w21 ⟨rfl, hb21⟩; have HR21 := hI (HR20.out.on hb21); have HB21 := hI (stp HB20.out hb21); clear hb21)
              | (go_at_call 16; (with_reducible refine (HBAR.out _ _ w21 HB21.out HR21.out).mono ?_); rintro e22 w22 ⟨A22, c22, rfl, hr22, hb22⟩; have HR22 := hI hr22; have HR212 := hI (HR21.out.on hb22); have HB22 := hI (stp HB21.out hb22); clear hr22 hb22)
              | (go_at_call 20; (with_reducible refine (HRD.out _ _ w22 HR22.out).mono ?_); rintro e23 w23 ⟨A23, c23, rfl, hr23, hb23⟩; have HR23 := hI hr23; have HR213 := hI (HR212.out.on hb23); have HB23 := hI (stp HB22.out hb23); clear hr23 hb23)
              | (go_at_call 27; (with_reducible refine (HSM.out _ _ _ _ w23 HR23.out HR213.out).mono ?_); rintro e24 w24 ⟨rfl, hb24⟩; have HB24 := hI (stp HB23.out hb24); clear hb24)
              | fail)
            go_ret
            exact ⟨rfl, HB24.out⟩
          · obtain ⟨_, _, he4⟩ := bare_bad hdh hh
            obtain rfl : h9 = 4 := he4 hms rfl
            clear hcg hnc hmc hlc hstr hsc hms hc0 hdh hnd he4 hsm1 hsm2 hBAR HRR
            go_wp2_with (first
              | (go_at_call 20; (with_reducible refine (HRR2.out).mono ?_); rintro e20 w20 ⟨A20, c20, rfl, hr20, hb20⟩; have HR20 := hI hr20; have HB20 := hI (stp HB12.out hb20); clear hr20 hb20)
              | (go_at_call 24; (with_reducible refine (HCK.out _ _ w20 HR20.out).mono ?_); rintro e21 w21 ⟨rfl, hb21⟩; have HR21 := hI (HR20.out.on hb21); have HB21 := hI (stp HB20.out hb21); clear hb21)
              | (go_at_call 16; (with_reducible refine (HBAR.out _ _ w21 HB21.out HR21.out).mono ?_); rintro e22 w22 ⟨A22, c22, rfl, hr22, hb22⟩; have HB22 := hI (stp HB21.out hb22); clear hr22 hb22)
              | fail)
            go_ret
            exact ⟨rfl, HB22.out⟩
      · have hc0 := (res_bad hcg hg).1
        have HRR2 := hI (HRR.out.mono fun e w' hh => hh.no0 hc0)
        have fg : (g == 0) = false := by simp; exact hg
        clear hcg hnc hc0 hsm1 hsm2 HRR
        go_wp2_with (first
          | (go_at_call 20; (with_reducible refine (HRR2.out).mono ?_); rintro e20 w20 ⟨A20, c20, rfl, hb20⟩; have HB20 := hI (stp HB12.out hb20); clear hb20)
          | fail)
        go_ret
        exact ⟨rfl, HB20.out⟩
    · have fe : (e9 == 0) = false := by simp; exact he
      clear hae hna he
      go_upto_region 9 with (first
        | (go_at_call 16; (with_reducible refine (HBA.out).mono ?_); rintro e10 w10 ⟨A10, c10, rfl, hr10, hb10⟩; have HB10 := hI (stp HB3.out hb10); clear hr10 hb10)
        | fail)
      obtain ⟨c9, g, hcg⟩ : ∃ c9 g, resolveR raw = (c9, g) := ⟨_, _, rfl⟩
      obtain ⟨nc, hnc⟩ : ∃ nc, c9.length = nc := ⟨_, rfl⟩
      have HRR := hI (resolve_to A2 n2 c2 raw w10 (HR2.out.on HB10.out) HN2.out (by omega) (fun _ m hm => (hsm2 m hm).up (by decide)) c9 g hcg)
      by_cases hg : g = 0
      · subst hg
        obtain ⟨hmc, hlc, _, hstr⟩ := res_may hcg
        have hsc := resolveR_small (k := 5000) (by decide) hsm2 hcg
        have hcl : nc ≤ 512 := by have := (mayV_iff.1 hmc).1; omega
        have HCK : Hid (∀ A c W, RdB NdS W A c9 → Calls Tryz.prog 24 #[.slice A nc c] W fun e w' => e = .returned (.int .i64 (checkS c9)) ∧ Below W.heap.size W w') := hI fun A c W hW => check11 A nc c c9 W hW hnc (by omega) (fun _ m hm => (hsc m hm).to (by decide)) _ rfl
        have HRR2 := hI (HRR.out.mono fun e w' hh => hh.with hnc)
        cases hms : mayS c9 with
        | false =>
          have hc8 : checkS c9 = 8 := by unfold checkS; rw [hms]; rfl
          rw [hc8] at HCK
          have hex : c9.any (fun m => decide (m.space = ofXml)) = true := by
            rcases hstr with h | ⟨m, hm, he⟩
            · rw [h] at hms; cases hms
            · rw [List.any_eq_true]; exact ⟨m, hm, decide_eq_true he⟩
          have HST : Hid (∀ A c W, RdB NdS W A c9 → Calls Tryz.prog 28 #[.slice A nc c] W fun e w' => e = .returned (.bool true) ∧ Below W.heap.size W w') := hI fun A c W hW => strange11 A nc c c9 W hW hnc (by omega) true hex
          clear hcg hnc hmc hlc hstr hsc hms hc8 hex hsm1 hsm2 HRR
          go_wp2_with (first
            | (go_at_call 20; (with_reducible refine (HRR2.out).mono ?_); rintro e20 w20 ⟨A20, c20, rfl, hr20, hb20⟩; have HR20 := hI hr20; have HB20 := hI (stp HB10.out hb20); clear hr20 hb20)
            | (go_at_call 24; (with_reducible refine (HCK.out _ _ w20 HR20.out).mono ?_); rintro e21 w21 ⟨rfl, hb21⟩; have HR21 := hI (HR20.out.on hb21); have HB21 := hI (stp HB20.out hb21); clear hb21)
            | (go_at_call 28; (with_reducible refine (HST.out _ _ w21 HR21.out).mono ?_); rintro e22 w22 ⟨rfl, hb22⟩; have HB22 := hI (stp HB21.out hb22); clear hb22)
            | fail)
          go_ret
          exact ⟨rfl, HB22.out⟩
        | true =>
          have hc0 : checkS c9 = 0 := by unfold checkS; rw [hms]; rfl
          rw [hc0] at HCK
          obtain ⟨d9, h9, hdh⟩ : ∃ d9 h9, bareR c9 [] = (d9, h9) := ⟨_, _, rfl⟩
          obtain ⟨nd, hnd⟩ : ∃ nd, d9.length = nd := ⟨_, rfl⟩
          have hBAR : ∀ A c W, Below w.heap.size w W → RdB NdS W A c9 → Calls Tryz.prog 16 #[.slice A nc c, .string ⟨#[]⟩] W fun e w' => ∃ A c, e = .returned (.tuple #[.slice A nd c, .int .i64 h9]) ∧ RdB NdS w' A d9 ∧ Below W.heap.size W w' := fun A c W hW hr => (bare_to A nc c c9 ⟨#[]⟩ W hr hnc (by omega) (fun _ m hm => (hsc m hm).up (by decide)) (by decide) (hT.to hW) d9 h9 hdh).mono fun e w' hh => hh.with hnd
          have HBAR := hI hBAR
          by_cases hh : h9 = 0
          · subst hh
            obtain ⟨hb1, hb2, hb3, hb4, hb5⟩ := bare_back hdh
            have hsd := bareR_small (k := 5000) (by decide) hsc hdh
            have HRD : Hid (∀ A c W, RdB NdS W A d9 → Calls Tryz.prog 20 #[.slice A nd c] W fun e w' => ∃ A c, e = .returned (.tuple #[.slice A nc c, .int .i64 0]) ∧ RdB NdS w' A c9 ∧ Below W.heap.size W w') := hI fun A c W hW => (resolve_to A nd c d9 W hW hnd (by omega) (fun _ m hm => bare_up (k := 5000) (by decide) hsc (may_attrs hmc) hdh m hm) c9 0 hb1).mono fun e w' hh => hh.with hnc
            have HSM : Hid (∀ A c B d W, RdB NdS W A c9 → RdB NdS W B c9 → Calls Tryz.prog 27 #[.slice A nc c, .slice B nc d] W fun e w' => e = .returned (.bool true) ∧ Below W.heap.size W w') := hI fun A c B d W ha hb => same10 A B nc c nc d c9 c9 W ha hnc hb hnc (by omega) (by omega) (fun t ht => by have := (hsc t ht).attrs; omega) (fun t ht => by have := (hsc t ht).attrs; omega) true (decide_eq_true rfl)
            clear hcg hnc hmc hlc hstr hsc hms hc0 hdh hnd hb1 hb2 hb3 hb4 hb5 hsd hsm1 hsm2 hBAR HRR
            go_wp2_with (first
              | (go_at_call 20; (with_reducible refine (HRR2.out).mono ?_); rintro e20 w20 ⟨A20, c20, rfl, hr20, hb20⟩; have HR20 := hI hr20; have HB20 := hI (stp HB10.out hb20); clear hr20 hb20)
              | (go_at_call 24; (with_reducible refine (HCK.out _ _ w20 HR20.out).mono ?_); rintro e21 w21 ⟨rfl, hb21⟩; have HR21 := hI (HR20.out.on hb21); have HB21 := hI (stp HB20.out hb21); clear hb21)
              | (go_at_call 16; (with_reducible refine (HBAR.out _ _ w21 HB21.out HR21.out).mono ?_); rintro e22 w22 ⟨A22, c22, rfl, hr22, hb22⟩; have HR22 := hI hr22; have HR212 := hI (HR21.out.on hb22); have HB22 := hI (stp HB21.out hb22); clear hr22 hb22)
              | (go_at_call 20; (with_reducible refine (HRD.out _ _ w22 HR22.out).mono ?_); rintro e23 w23 ⟨A23, c23, rfl, hr23, hb23⟩; have HR23 := hI hr23; have HR213 := hI (HR212.out.on hb23); have HB23 := hI (stp HB22.out hb23); clear hr23 hb23)
              | (go_at_call 27; (with_reducible refine (HSM.out _ _ _ _ w23 HR23.out HR213.out).mono ?_); rintro e24 w24 ⟨rfl, hb24⟩; have HB24 := hI (stp HB23.out hb24); clear hb24)
              | fail)
            go_ret
            exact ⟨rfl, HB24.out⟩
          · obtain ⟨_, _, he4⟩ := bare_bad hdh hh
            obtain rfl : h9 = 4 := he4 hms rfl
            clear hcg hnc hmc hlc hstr hsc hms hc0 hdh hnd he4 hsm1 hsm2 hBAR HRR
            go_wp2_with (first
              | (go_at_call 20; (with_reducible refine (HRR2.out).mono ?_); rintro e20 w20 ⟨A20, c20, rfl, hr20, hb20⟩; have HR20 := hI hr20; have HB20 := hI (stp HB10.out hb20); clear hr20 hb20)
              | (go_at_call 24; (with_reducible refine (HCK.out _ _ w20 HR20.out).mono ?_); rintro e21 w21 ⟨rfl, hb21⟩; have HR21 := hI (HR20.out.on hb21); have HB21 := hI (stp HB20.out hb21); clear hb21)
              | (go_at_call 16; (with_reducible refine (HBAR.out _ _ w21 HB21.out HR21.out).mono ?_); rintro e22 w22 ⟨A22, c22, rfl, hr22, hb22⟩; have HB22 := hI (stp HB21.out hb22); clear hr22 hb22)
              | fail)
            go_ret
            exact ⟨rfl, HB22.out⟩
      · have hc0 := (res_bad hcg hg).1
        have HRR2 := hI (HRR.out.mono fun e w' hh => hh.no0 hc0)
        have fg : (g == 0) = false := by simp; exact hg
        clear hcg hnc hc0 hsm1 hsm2 HRR
        go_wp2_with (first
          | (go_at_call 20; (with_reducible refine (HRR2.out).mono ?_); rintro e20 w20 ⟨A20, c20, rfl, hb20⟩; have HB20 := hI (stp HB10.out hb20); clear hb20)
          | fail)
        go_ret
        exact ⟨rfl, HB20.out⟩
end Hx
end Go.Proofs.YtioiifdcgdoanaaGreatDoor
