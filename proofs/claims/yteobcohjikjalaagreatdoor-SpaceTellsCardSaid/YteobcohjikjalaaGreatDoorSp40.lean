/-
  Texts of one seat, put together: SpaI.
-/
import Derived.Test.YteobcohjikjalaaGreatDoorSp33
set_option linter.unusedSimpArgs false
namespace Go.Proofs.YteobcohjikjalaaGreatDoor
open Go.RowKit
namespace Hx
open Lx Tr Tx Nmb Es Ns
set_option maxRecDepth 100000
set_option maxHeartbeats 16000000
set_option linter.unusedVariables false
def spA (a : At) : Bool := !decide (a.space = [])
def spN (n : Nd) : Bool := !rawN n
theorem spN_eq (n : Nd) : spN n = (!decide (n.space = []) || n.attrs.any spA) := by
  unfold spN rawN
  have h1 : n.attrs.any spA = !(n.attrs.all fun a => a.space.isEmpty) := by
    rw [List.all_eq_not_any_not, Bool.not_not]
    congr 1
    funext a
    unfold spA
    cases a.space <;> rfl
  rw [h1, Bool.not_and]
  cases n.space <;> rfl
theorem hs1 (x y z : ByteArray) (w : World) (p : Bool) (hp : decide (x.data.toList = []) = p) :
    Calls Tryz.prog 36 #[.agg #[.string x, .string y, .string z]] w fun e w' => e = .returned (.bool !p) ∧ Below w.heap.size w w' := by
  have HBO : Hid (∀ o, Below w.heap.size w (w.alloc o)) := Lib.hid fun o => (Below.refl _ _).alloc (Nat.le_refl _) o
  have f1 := emp_lit x p hp
  clear hp
  cases p with
  | false =>
    go_enter Tryz.func36, Tryz.ntmps36
    go_wp2_with fail
    go_ret
    exact ⟨rfl, HBO.out _⟩
  | true =>
    go_enter Tryz.func36, Tryz.ntmps36
    go_wp2_with fail
    go_ret
    exact ⟨rfl, HBO.out _⟩
theorem ixSp  (A : Option Addr) (n c : Nat) (l : List At) (w : World) (hr : RdB AtS w A l) (hn : l.length = n) (hm : n ≤ 1000000) (q : Bool) (hq : l.any (spA) = q) :
    Calls Tryz.prog 58 #[.slice A n c, .func (.func 36) #[] #[]] w fun e w' => Below w.heap.size w w' ∧ ∃ r : Int, e = .returned (.int .i64 r) ∧ decide (0 ≤ r) = q := by
  have HR := Lib.hid hr
  have HN := Lib.hid hn
  have HQ := Lib.hid hq
  have bn : (n : Int) ≤ 1000000 := by omega
  clear hr hn hq
  go_enter Tryz.func58, Tryz.ntmps58
  go_wp2_with fail
  go_loopg [8] n (fun gg i wr => ∃ j : Nat, j + gg = n ∧ i = .int .i64 j ∧ (l.take j).any (spA) = false ∧ Below w.heap.size w wr)
  case atStart => exact ⟨0, by omega, rfl, rfl, Below.refl _ _⟩
  case round =>
    obtain ⟨j, hjg, rfl, hany, hbw⟩ := hrel
    have HBW := Lib.hid hbw
    by_cases hlt : j < n
    · have hjl : j < l.length := by rw [HN.out]; exact hlt
      obtain ⟨b0, off, x2, y2, z2, hA, hbB, hx, hy, hz, c0, c1, c2⟩ := at_at HR.out hjl
      obtain ⟨a, ha⟩ : ∃ a, l[j]'hjl = a := ⟨_, rfl⟩
      rw [ha] at hx hy hz
      have q0 := (hbw.cell (p := ⟨b0, _, none⟩) hbB).trans c0
      have q1 := (hbw.cell (p := ⟨b0, _, none⟩) hbB).trans c1
      have q2 := (hbw.cell (p := ⟨b0, _, none⟩) hbB).trans c2
      have htk : l.take (j + 1) = l.take j ++ [a] := by rw [List.take_succ_eq_append_getElem hjl, ha]
      have bj : (0 : Int) ≤ (j : Int) ∧ (j : Int) < (n : Int) := by omega
      obtain ⟨kq, hkq⟩ : ∃ kq, (spA) a = kq := ⟨_, rfl⟩
      obtain ⟨p, hp⟩ : ∃ p, decide (x2.data.toList = []) = p := ⟨_, rfl⟩
      have HC : Hid (Calls Tryz.prog 36 #[.agg #[.string x2, .string y2, .string z2]] wr fun e w' => e = .returned (.bool kq) ∧ Below wr.heap.size wr w') := Lib.hid (by
        have := hs1 x2 y2 z2 wr p hp
        rwa [show (!p) = kq by rw [← hkq, ← hp, hx]; rfl] at this)
      clear hp
      subst hA
      cases kq with
      | true =>
        obtain rfl : q = true := by
          rw [← HQ.out, List.any_eq_true]
          exact ⟨a, by rw [← ha]; exact List.getElem_mem hjl, hkq⟩
        clear hany hbw hx hy hz c0 c1 c2 htk ha hjl hbB hkq
        go_wp2_with (first
          | (go_at_call 36; (with_reducible refine (HC.out).mono ?_); rintro e2 w2 ⟨rfl, hb2⟩; have HB2 := Lib.hid (stp HBW.out hb2); clear hb2)
          | fail)
        go_ret
        exact ⟨HB2.out, _, rfl, decide_eq_true (by omega)⟩
      | false =>
        have HA2 : Hid ((l.take (j + 1)).any (spA) = false) := Lib.hid (by rw [htk, List.any_append, hany]; simpa using hkq)
        clear hany hbw hx hy hz c0 c1 c2 htk ha hjl hbB hkq
        go_wp2_with (first
          | (go_at_call 36; (with_reducible refine (HC.out).mono ?_); rintro e2 w2 ⟨rfl, hb2⟩; have HB2 := Lib.hid (stp HBW.out hb2); clear hb2)
          | fail)
        go_roundg (gk - 1)
        case measure => omega
        case rel => exact ⟨j + 1, by omega, by go_num, HA2.out, HB2.out⟩
    · obtain rfl : j = n := by omega
      have hjj : ¬ ((j : Int) < (j : Int)) := by omega
      rw [← HN.out, List.take_length] at hany
      obtain rfl : q = false := by rw [← HQ.out]; exact hany
      clear hany hbw
      go_wp2_with fail
      go_ret
      exact ⟨HBW.out, _, rfl, by decide⟩
theorem hasAts11 (A : Option Addr) (n c : Nat) (l : List At) (w : World) (hr : RdB AtS w A l) (hn : l.length = n) (hm : n ≤ 1000000) (q : Bool) (hq : l.any spA = q) :
    Calls Tryz.prog 35 #[.slice A n c, .func (.func 36) #[] #[]] w fun e w' => e = .returned (.bool q) ∧ Below w.heap.size w w' := by
  have HX := Lib.hid (ixSp A n c l w hr hn hm q hq)
  clear hr hn hq
  go_enter Tryz.func35, Tryz.ntmps35
  go_wp2_with (first
    | (go_at_call 58; (with_reducible refine (HX.out).mono ?_); rintro e2 w2 ⟨hb2, r, rfl, hr2⟩; have HB2 := Lib.hid hb2; clear hb2)
    | fail)
  go_ret
  exact ⟨rfl, HB2.out⟩
theorem hasSpace11 (n : Nd) (x y z : ByteArray) (A : Option Addr) (c : Nat) (w : World) (h : NdAt n x y z A c w) (hs : SmallN n) (q : Bool) (hq : spN n = q) :
    Calls Tryz.prog 16 #[NdV n x y z A c] w fun e w' => e = .returned (.bool q) ∧ Below w.heap.size w w' := by
  have HBO : Hid (∀ o, Below w.heap.size w (w.alloc o)) := Lib.hid fun o => (Below.refl _ _).alloc (Nat.le_refl _) o
  obtain ⟨p, hp⟩ : ∃ p, decide (x.data.toList = []) = p := ⟨_, rfl⟩
  obtain ⟨r, hr⟩ : ∃ r, n.attrs.any spA = r := ⟨_, rfl⟩
  have HQ : Hid (q = (!p || r)) := Lib.hid (by rw [← hq, spN_eq, ← hp, ← hr, h.space])
  have HC : Hid (∀ W, Below w.heap.size w W → Calls Tryz.prog 35 #[.slice A n.attrs.length c, .func (.func 36) #[] #[]] W fun e w' => e = .returned (.bool r) ∧ Below W.heap.size W w') := Lib.hid fun W hW => hasAts11 A n.attrs.length c n.attrs W (h.rd.on hW) rfl hs.attrs r hr
  have f1 := emp_lit x p hp
  unfold NdV
  clear h hs hq hp hr
  cases p with
  | false =>
    obtain rfl : q = true := HQ.out
    go_enter Tryz.func16, Tryz.ntmps16
    go_wp2_with fail
    go_ret
    exact ⟨rfl, HBO.out _⟩
  | true =>
    obtain rfl : q = r := HQ.out
    go_enter Tryz.func16, Tryz.ntmps16
    go_wp2_with (first
      | (go_at_call 35; (with_reducible refine (HC.out _ (HBO.out _)).mono ?_); rintro e1 w1 ⟨rfl, hb1⟩; have HB1 : Hid (Below w.heap.size w w1) := Lib.hid (bel_in9 (HBO.out _) hb1); clear hb1)
      | fail)
    go_ret
    exact ⟨rfl, HB1.out⟩
theorem ixNd (A : Option Addr) (n c : Nat) (v : List Nd) (w : World) (hr : RdB NdS w A v) (hn : v.length = n) (hm : n ≤ 1000000) (hsm : ∀ m ∈ v, SmallN m) (q : Bool) (hq : v.any spN = q) :
    Calls Tryz.prog 34 #[.slice A n c, .func (.func 16) #[] #[]] w fun e w' => Below w.heap.size w w' ∧ ∃ r : Int, e = .returned (.int .i64 r) ∧ decide (0 ≤ r) = q := by
  have HR := Lib.hid hr
  have HN := Lib.hid hn
  have HQ := Lib.hid hq
  have HSM := Lib.hid hsm
  have bn : (n : Int) ≤ 1000000 := by omega
  clear hr hn hq hsm
  go_enter Tryz.func34, Tryz.ntmps34
  go_wp2_with fail
  go_loopg [8] n (fun gg i wr => ∃ j : Nat, j + gg = n ∧ i = .int .i64 j ∧ (v.take j).any spN = false ∧ Below w.heap.size w wr)
  case atStart => exact ⟨0, by omega, rfl, rfl, Below.refl _ _⟩
  case round =>
    obtain ⟨j, hjg, rfl, hany, hbw⟩ := hrel
    have HBW := Lib.hid hbw
    by_cases hlt : j < n
    · have hjl : j < v.length := by rw [HN.out]; exact hlt
      obtain ⟨b0, off, x, y, z, A1, c1, hA, hbB, hin, c0w, c1w, c2w, c3w, c4w, c5w⟩ := nd_at HR.out hjl
      have hsm := HSM.out _ (List.getElem_mem hjl)
      obtain ⟨t, ht⟩ : ∃ t, v[j]'hjl = t := ⟨_, rfl⟩
      rw [ht] at hin c0w c3w c5w hsm
      have c0 := (hbw.cell (p := ⟨b0, _, none⟩) hbB).trans c0w
      have c1' := (hbw.cell (p := ⟨b0, _, none⟩) hbB).trans c1w
      have c2 := (hbw.cell (p := ⟨b0, _, none⟩) hbB).trans c2w
      have c3 := (hbw.cell (p := ⟨b0, _, none⟩) hbB).trans c3w
      have c4 := (hbw.cell (p := ⟨b0, _, none⟩) hbB).trans c4w
      have c5 := (hbw.cell (p := ⟨b0, _, none⟩) hbB).trans c5w
      have hnd : NdAt t x y z A1 c1 w := hin
      have htk : v.take (j + 1) = v.take j ++ [t] := by rw [List.take_succ_eq_append_getElem hjl, ht]
      have bj : (0 : Int) ≤ (j : Int) ∧ (j : Int) < (n : Int) := by omega
      obtain ⟨kq, hkq⟩ : ∃ kq, spN t = kq := ⟨_, rfl⟩
      have HC : Hid (Calls Tryz.prog 16 #[.agg #[.int .u8 (t.kind : Int), .string x, .string y, .slice A1 t.attrs.length c1, .string z, .int .i64 t.many]] wr fun e w' => e = .returned (.bool kq) ∧ Below wr.heap.size wr w') := Lib.hid (hasSpace11 t x y z A1 c1 wr (hnd.on hbw) hsm kq hkq)
      subst hA
      cases kq with
      | true =>
        obtain rfl : q = true := by
          rw [← HQ.out, List.any_eq_true]
          exact ⟨t, by rw [← ht]; exact List.getElem_mem hjl, hkq⟩
        clear hany hbw hin hnd hsm c0w c1w c2w c3w c4w c5w htk ht hjl hbB hkq
        go_wp2_with (first
          | (go_at_call 16; (with_reducible refine (HC.out).mono ?_); rintro e2 w2 ⟨rfl, hb2⟩; have HB2 := Lib.hid (stp HBW.out hb2); clear hb2)
          | fail)
        go_ret
        exact ⟨HB2.out, _, rfl, decide_eq_true (by omega)⟩
      | false =>
        have HA2 : Hid ((v.take (j + 1)).any spN = false) := Lib.hid (by rw [htk, List.any_append, hany]; simpa using hkq)
        clear hany hbw hin hnd hsm c0w c1w c2w c3w c4w c5w htk ht hjl hbB hkq
        go_wp2_with (first
          | (go_at_call 16; (with_reducible refine (HC.out).mono ?_); rintro e2 w2 ⟨rfl, hb2⟩; have HB2 := Lib.hid (stp HBW.out hb2); clear hb2)
          | fail)
        go_roundg (gk - 1)
        case measure => omega
        case rel => exact ⟨j + 1, by omega, by go_num, HA2.out, HB2.out⟩
    · obtain rfl : j = n := by omega
      have hjj : ¬ ((j : Int) < (j : Int)) := by omega
      rw [← HN.out, List.take_length] at hany
      obtain rfl : q = false := by rw [← HQ.out]; exact hany
      clear hany hbw
      go_wp2_with fail
      go_ret
      exact ⟨HBW.out, _, rfl, by decide⟩
theorem hasNds11 (A : Option Addr) (n c : Nat) (v : List Nd) (w : World) (hr : RdB NdS w A v) (hn : v.length = n) (hm : n ≤ 1000000) (hsm : ∀ m ∈ v, SmallN m) (q : Bool) (hq : rawV v = !q) :
    Calls Tryz.prog 15 #[.slice A n c, .func (.func 16) #[] #[]] w fun e w' => e = .returned (.bool q) ∧ Below w.heap.size w w' := by
  have hq2 : v.any spN = q := by
    have : v.any spN = !rawV v := by
      unfold rawV
      rw [List.all_eq_not_any_not, Bool.not_not]
      rfl
    rw [this, hq, Bool.not_not]
  have HX := Lib.hid (ixNd A n c v w hr hn hm hsm q hq2)
  clear hr hn hq hq2 hsm
  go_enter Tryz.func15, Tryz.ntmps15
  go_wp2_with (first
    | (go_at_call 34; (with_reducible refine (HX.out).mono ?_); rintro e2 w2 ⟨hb2, r, rfl, hr2⟩; have HB2 := Lib.hid hb2; clear hb2)
    | fail)
  go_ret
  exact ⟨rfl, HB2.out⟩
end Hx
end Go.Proofs.YteobcohjikjalaaGreatDoor
