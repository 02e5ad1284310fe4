/-
  Texts of one seat, put together: SrbK.
-/
import Derived.Test.YteobcohjikjalaaGreatDoorSp36
import Derived.Test.YteobcohjikjalaaGreatDoorSp41
import Derived.Test.YteobcohjikjalaaGreatDoorSp45
import Derived.Test.YteobcohjikjalaaGreatDoorSp46
import Derived.Test.YteobcohjikjalaaGreatDoorSp37
import Derived.Test.YteobcohjikjalaaGreatDoorSp24
set_option linter.unusedSimpArgs false
namespace Go.Proofs.YteobcohjikjalaaGreatDoor
open Go.RowKit
namespace Hx
open Lx Tr Tx Nmb Es Ns
set_option maxRecDepth 100000
set_option maxHeartbeats 16000000
set_option linter.unusedVariables false
set_option linter.unusedSimpArgs false
theorem ng_small {m k : Nat} {n : Nd} (h : NotGreat m n) (hm : m ≤ k) (hm2 : m < 20000) : SmallU k n := by
  obtain ⟨h1, h2, h3, h4, h5⟩ := h
  exact ⟨by omega, by omega, by omega, by omega, fun a ha => by have := h5 a ha; omega⟩

theorem resolve_len {v l : List Nd} {n : Nat} {z : Int} (hn : v.length = n) (hn6 : n ≤ 100) (h : resolveR v = (l, z)) : l.length ≤ 1000000 := by
  unfold resolveR at h
  split at h
  · rename_i hm
    split at h
    · injection h with h _
      have := (walkD_rest (f := resF) (dn := resDn) 12 v [] [] (mayV_iff.1 hm.1).2.2).2
      rw [show walkD resF resDn 12 [] v = resW v from rfl, h] at this
      simp at this
      omega
    · injection h with h _
      rw [← h]; simp
  · injection h with h _
    rw [← h]; simp
theorem bare_len {v l : List Nd} {o : List UInt8} {n : Nat} {z : Int} (hn : v.length = n) (hn6 : n ≤ 100) (h : bareR v o = (l, z)) : l.length ≤ 1000000 := by
  unfold bareR at h
  split at h
  · rename_i hm
    have hmv : mayV v = true := by have := hm.1; unfold mayS at this; rw [Bool.and_eq_true] at this; exact this.2
    split at h
    · injection h with h _
      have := (walkD_rest (f := bareF) (dn := bareDn) 12 v [] o (mayV_iff.1 hmv).2.2).2
      rw [show walkD bareF bareDn 12 o v = bareW v o from rfl, h] at this
      simp at this
      omega
    · injection h with h _
      rw [← h]; simp
  · injection h with h _
    rw [← h]; simp

theorem space_tells (HSAME : ∀ (A B : Option Addr) (n c n2 d : Nat) (l l2 : List Nd) (W : World), RdB NdS W A l → l.length = n → RdB NdS W B l2 → l2.length = n2 → n ≤ 1000000 → n2 ≤ 1000000 → (∀ t ∈ l, t.attrs.length ≤ 1000000) → (∀ t ∈ l2, t.attrs.length ≤ 1000000) → ∀ q : Bool, decide (l = l2) = q → Calls Tryz.prog 10 #[.slice A n c, .slice B n2 d] W fun e w' => e = .returned (.bool q) ∧ Below W.heap.size W w')
    (HMAY : ∀ (A : Option Addr) (n c : Nat) (v : List Nd) (W : World), RdB NdS W A v → v.length = n → n ≤ 1000000 → (∀ x ∈ v, SmallN x) → ∀ q : Bool, mayS v = q → Calls Tryz.prog 28 #[.slice A n c] W fun e w' => e = .returned (.bool q) ∧ Below W.heap.size W w')
    (HCHK : ∀ (A : Option Addr) (n c : Nat) (v : List Nd) (W : World), RdB NdS W A v → v.length = n → n ≤ 1000000 → (∀ x ∈ v, SmallN x) → Calls Tryz.prog 12 #[.slice A n c] W fun e w' => e = .returned (.int .i64 (checkS v)) ∧ Below W.heap.size W w')
    (A : Option Addr) (n c : Nat) (v : List Nd) (outer : ByteArray) (w : World) (hr : RdB NdS w A v) (hn : v.length = n) (hmax : n ≤ 9223372036854775807) (hT : TbH w) :
    Calls Tryz.prog 3 #[.slice A n c, .string outer] w fun e w' => e = .returned (.bool true) ∧ Below w.heap.size w w' := by
  have HG : Hid (Calls Tryz.prog 4 #[.slice A n c, .int .i64 100, .int .i64 5000] w (GreatTo v 100 5000 w)) := Lib.hid (rgreat10 A n c v 100 5000 w hr hn (by omega) (by omega) hmax)
  have HRV := Lib.hid hr
  have HN := Lib.hid hn
  have HTT := Lib.hid hT
  clear hr hT
  go_enter Tryz.func3, Tryz.ntmps3
  go_wp2_with fail
  go_at_call 4
  (with_reducible refine (HG.out).mono ?_)
  rintro e1 w1 ⟨qg, rfl, hb1, hqg⟩
  have HB1 := Lib.hid hb1
  clear hb1
  cases qg with
  | true =>
    clear hqg
    go_wp2_with fail
    go_ret
    exact ⟨rfl, HB1.out⟩
  | false =>
    obtain ⟨hl, hng⟩ := hqg rfl
    by_cases ho : 1000 < outer.size
    · have d1 : decide ((1000 : Int) < (outer.size : Int)) = true := decide_eq_true (by omega)
      clear hl hng hqg
      go_wp2_with fail
      go_ret
      exact ⟨rfl, HB1.out⟩
    · have d1 : decide ((1000 : Int) < (outer.size : Int)) = false := decide_eq_false (by omega)
      have hsu : ∀ k, 5000 ≤ k → ∀ m ∈ v, SmallU k m := fun k hk m hm => ng_small (hng m hm) hk (by omega)
      have hsn : ∀ m ∈ v, SmallN m := fun m hm => (hsu 5000 (Nat.le_refl _) m hm).to (by omega)
      have hat : ∀ m ∈ v, m.attrs.length ≤ 1000000 := fun m hm => (hsn m hm).attrs
      have hn6 : n ≤ 100 := by omega
      obtain ⟨lr, zr, hlr⟩ : ∃ lr zr, resolveR v = (lr, zr) := ⟨_, _, rfl⟩
      obtain ⟨lb, zb, hlb⟩ : ∃ lb zb, bareR v outer.data.toList = (lb, zb) := ⟨_, _, rfl⟩
      obtain ⟨nr, hnr⟩ : ∃ nr, lr.length = nr := ⟨_, rfl⟩
      obtain ⟨nb, hnb⟩ : ∃ nb, lb.length = nb := ⟨_, rfl⟩
      have hsr : ∀ t ∈ lr, t.attrs.length ≤ 1000000 := fun t ht => ((resolveR_small (by decide) (hsu 5000 (Nat.le_refl _)) hlr t ht).to (by omega)).attrs
      have hsb : ∀ t ∈ lb, t.attrs.length ≤ 1000000 := fun t ht => (bareR_small (by decide) (hsu 5000 (Nat.le_refl _)) hlb t ht).attrs
      have hnr6 : nr ≤ 1000000 := by
        rw [← hnr]
        exact resolve_len hn hn6 hlr
      have hnb6 : nb ≤ 1000000 := by
        rw [← hnb]
        exact bare_len hn hn6 hlb
      have HARG : Hid (∀ W, Below w.heap.size w W → RdB NdS W A v) := Lib.hid fun W hW => HRV.out.on hW
      have HTW : Hid (Calls Tryz.prog 5 #[.slice A n c] w1 fun e w' => ∃ A c, e = .returned (.slice A n c) ∧ NdOut w1.heap.size w1 v A c w' ∧ Below w1.heap.size w1 w') := Lib.hid (by
        have := rtwin10 A n c v w1 (HRV.out.on HB1.out) hn (by omega) hat
        unfold TwinTo at this
        rw [hn] at this
        exact this)
      have HRE : Hid (∀ A c W, RdB NdS W A v → Calls Tryz.prog 6 #[.slice A n c] W fun e w' => ∃ A c, e = .returned (.tuple #[.slice A nr c, .int .i64 zr]) ∧ NdOut W.heap.size W lr A c w' ∧ Below W.heap.size W w') := Lib.hid fun A c W h => by
        have := resolve_to A n c v W h hn (by omega) (fun _ => hsu 1000000 (by omega)) lr zr hlr
        unfold NodesTo at this
        rw [hnr] at this
        exact this
      have HRR : Hid (∀ A c W, RdB NdS W A v → Calls Tryz.prog 7 #[.slice A n c] W fun e w' => ∃ A c, e = .returned (.tuple #[.slice A nr c, .int .i64 zr]) ∧ RdB NdS w' A lr ∧ Below W.heap.size W w') := Lib.hid fun A c W h => by
        have := rresolve11 A n c v W h hn (by omega) (fun _ => hsn)
        unfold OtNo at this
        rw [hlr] at this
        dsimp only at this
        rw [hnr] at this
        exact this.mono fun e w' ⟨A, c, h1, _, h3, h4⟩ => ⟨A, c, h1, h3, h4⟩
      have HBA : Hid (∀ A c W, RdB NdS W A v → TbH W → Calls Tryz.prog 8 #[.slice A n c, .string outer] W fun e w' => ∃ A c, e = .returned (.tuple #[.slice A nb c, .int .i64 zb]) ∧ NdOut W.heap.size W lb A c w' ∧ Below W.heap.size W w') := Lib.hid fun A c W h hTW => by
        have := bare_to A n c v outer W h hn (by omega) (fun _ => hsu 900000 (by omega)) (by omega) hTW lb zb hlb
        unfold NodesTo at this
        rw [hnb] at this
        exact this
      have HBR : Hid (∀ A c W, RdB NdS W A v → Calls Tryz.prog 9 #[.slice A n c, .string outer] W fun e w' => ∃ A c, e = .returned (.tuple #[.slice A nb c, .int .i64 zb]) ∧ RdB NdS w' A lb ∧ Below W.heap.size W w') := Lib.hid fun A c W h => by
        have := rbare11 A n c v outer W h hn hsn (by omega) (fun W' hW' => HMAY A n c v W' (h.on hW') hn (by omega) hsn _ rfl)
        unfold OtNo at this
        rw [hlb] at this
        dsimp only at this
        rw [hnb] at this
        exact this.mono fun e w' ⟨A, c, h1, _, h3, h4⟩ => ⟨A, c, h1, h3, h4⟩
      have HS1 : Hid (∀ A c B d W, RdB NdS W A lr → RdB NdS W B lr → Calls Tryz.prog 10 #[.slice A nr c, .slice B nr d] W fun e w' => e = .returned (.bool true) ∧ Below W.heap.size W w') := Lib.hid fun A c B d W ha hb => HSAME A B nr c nr d lr lr W ha hnr hb hnr hnr6 hnr6 hsr hsr true (decide_eq_true rfl)
      have HS2 : Hid (∀ A c B d W, RdB NdS W A lb → RdB NdS W B lb → Calls Tryz.prog 10 #[.slice A nb c, .slice B nb d] W fun e w' => e = .returned (.bool true) ∧ Below W.heap.size W w') := Lib.hid fun A c B d W ha hb => HSAME A B nb c nb d lb lb W ha hnb hb hnb hnb6 hnb6 hsb hsb true (decide_eq_true rfl)
      have HS3 : Hid (∀ A c B d W, RdB NdS W A v → RdB NdS W B v → Calls Tryz.prog 10 #[.slice A n c, .slice B n d] W fun e w' => e = .returned (.bool true) ∧ Below W.heap.size W w') := Lib.hid fun A c B d W ha hb => HSAME A B n c n d v v W ha hn hb hn (by omega) (by omega) hat hat true (decide_eq_true rfl)
      have HCK : Hid (∀ A c W, RdB NdS W A v → Calls Tryz.prog 11 #[.slice A n c] W fun e w' => e = .returned (.int .i64 (checkS v)) ∧ Below W.heap.size W w') := Lib.hid fun A c W h => check11 A n c v W h hn (by omega) (fun _ => hsn) _ rfl
      have HRC : Hid (∀ A c W, RdB NdS W A v → Calls Tryz.prog 12 #[.slice A n c] W fun e w' => e = .returned (.int .i64 (checkS v)) ∧ Below W.heap.size W w') := Lib.hid fun A c W h => HCHK A n c v W h hn (by omega) hsn
      have HP1 : Hid (∀ A c W0 W1 W, NdOut W0.heap.size W0 lr A c W1 → Below W1.heap.size W1 W → Calls Tryz.prog 13 #[.slice A nr c] W fun e w' => e = .returned (.tuple #[]) ∧ Below W0.heap.size W w' ∧ ∀ k, W1.heap.size ≤ k → w'.heap[k]? = W.heap[k]?) := Lib.hid fun A c W0 W1 W h hb => spoil3 W0.heap.size W1.heap.size W A nr c lr W (Sp3.of h hb) hnr hnr6 hsr
      have HP2 : Hid (∀ A c W0 W1 W, NdOut W0.heap.size W0 lb A c W1 → (∀ k, W0.heap.size ≤ k → k < W1.heap.size → W.heap[k]? = W1.heap[k]?) → Calls Tryz.prog 13 #[.slice A nb c] W fun e w' => e = .returned (.tuple #[]) ∧ Below W0.heap.size W w') := Lib.hid fun A c W0 W1 W h hb => (spoil3 W0.heap.size W1.heap.size W A nb c lb W (Sp3.kept h hb) hnb hnb6 hsb).mono fun e w' h => ⟨h.1, h.2.1⟩
      obtain ⟨ck, hck⟩ : ∃ ck, checkS v = ck := ⟨_, rfl⟩
      rw [hck] at HCK HRC
      clear hl hng hqg hsu hsn hat hlr hlb hnr hnb hsr hsb hnr6 hnb6 hck HSAME HMAY HCHK hn
      go_wp2_with (first
        | (go_at_call 5; (with_reducible refine (HTW.out).mono ?_); rintro e3 w3 ⟨Ao, co, rfl, ho3, hb3⟩; have KO := Lib.hid (fun W (hW : Below w3.heap.size w3 W) => (ho3.below hW).all); have HB3 := Lib.hid (stp HB1.out hb3); clear ho3 hb3)
        | (go_at_call 6; (with_reducible refine (HRE.out _ _ _ (KO.out _ (Below.refl _ _))).mono ?_); rintro e4 w4 ⟨A4, c4, rfl, ho4, hb4⟩; have HO4 := Lib.hid ho4; have H34 := Lib.hid hb4; clear ho4 hb4)
        | (go_at_call 7; (with_reducible refine (HRR.out _ _ _ (HARG.out _ (stp HB3.out H34.out))).mono ?_); rintro e5 w5 ⟨A5, c5, rfl, hr5, hb5⟩; have HR5 := Lib.hid hr5; have H45 := Lib.hid hb5; have H35 := Lib.hid (stp H34.out hb5); have HT5 := Lib.hid (HTT.out.to (stp HB3.out H35.out)); clear hr5 hb5)
        | (go_at_call 8; (with_reducible refine (HBA.out _ _ _ (KO.out _ H35.out) HT5.out).mono ?_); rintro e6 w6 ⟨A6, c6, rfl, ho6, hb6⟩; have HO6 := Lib.hid ho6; have H56 := Lib.hid hb6; have H36 := Lib.hid (stp H35.out hb6); clear ho6 hb6)
        | (go_at_call 9; (with_reducible refine (HBR.out _ _ _ (HARG.out _ (stp HB3.out H36.out))).mono ?_); rintro e7 w7 ⟨A7, c7, rfl, hr7, hb7⟩; have HR7 := Lib.hid hr7; have H67 := Lib.hid hb7; have H37 := Lib.hid (stp H36.out hb7); have H57 := Lib.hid (stp H56.out hb7); clear hr7 hb7)
        | (go_at_call 10; (with_reducible refine (HS1.out _ _ _ _ _ (HO4.out.below (stp H45.out H57.out)).all (HR5.out.on H57.out)).mono ?_); rintro e8 w8 ⟨rfl, hb8⟩; have H78 := Lib.hid hb8; have H38 := Lib.hid (stp H37.out hb8); have H68 := Lib.hid (stp H67.out hb8); clear hb8)
        | (go_at_call 10; (with_reducible refine (HS2.out _ _ _ _ _ (HO6.out.below H68.out).all (HR7.out.on H78.out)).mono ?_); rintro e9 w9 ⟨rfl, hb9⟩; have H39 := Lib.hid (stp H38.out hb9); have H69 := Lib.hid (stp H68.out hb9); clear hb9)
        | (go_at_call 11; (with_reducible refine (HCK.out _ _ _ (KO.out _ H39.out)).mono ?_); rintro e10 w10 ⟨rfl, hb10⟩; have H310 := Lib.hid (stp H39.out hb10); have H610 := Lib.hid (stp H69.out hb10); clear hb10)
        | (go_at_call 12; (with_reducible refine (HRC.out _ _ _ (HARG.out _ (stp HB3.out H310.out))).mono ?_); rintro e11 w11 ⟨rfl, hb11⟩; have H311 := Lib.hid (stp H310.out hb11); have H611 := Lib.hid (stp H610.out hb11); have H411 := Lib.hid (stp H45.out (stp H56.out (stp H610.out hb11))); clear hb11)
        | (go_at_call 13; (with_reducible refine (HP1.out _ _ _ _ _ HO4.out H411.out).mono ?_); rintro e12 w12 ⟨rfl, hb12, hk12⟩; have H12 := Lib.hid hb12; have HK12 := Lib.hid hk12; clear hb12 hk12)
        | (go_at_call 13; (with_reducible refine (HP2.out _ _ _ _ _ HO6.out (fun k hk1 hk2 => (HK12.out k (Nat.le_trans H45.out.size hk1)).trans (H611.out.block k hk2))).mono ?_); rintro e13 w13 ⟨rfl, hb13⟩; have K13 := Lib.hid ((H311.out.trans H12.out).trans (hb13.mono H35.out.size)); clear hb13)
        | (go_at_call 10; (with_reducible refine (HS3.out _ _ _ _ _ (KO.out _ K13.out) (HARG.out _ (stp HB3.out K13.out))).mono ?_); rintro e14 w14 ⟨rfl, hb14⟩; have HB14 := Lib.hid (stp HB3.out (stp K13.out hb14)); clear hb14)
        | fail)
      go_ret
      exact ⟨rfl, HB14.out⟩

end Hx
end Go.Proofs.YteobcohjikjalaaGreatDoor
