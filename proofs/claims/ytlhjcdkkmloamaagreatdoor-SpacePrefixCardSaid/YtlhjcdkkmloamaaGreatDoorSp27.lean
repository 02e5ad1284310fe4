/-
  Texts of one seat, put together: SpaI, TreF, TreI, TrhB, SpaR.
-/
import Derived.Test.YtlhjcdkkmloamaaGreatDoorSp12
import Derived.Test.YtlhjcdkkmloamaaGreatDoorSp10
import Derived.Test.YtlhjcdkkmloamaaGreatDoorSp13
import Derived.Test.YtlhjcdkkmloamaaGreatDoorSp20
import Derived.Test.YtlhjcdkkmloamaaGreatDoorSp22
import Derived.Test.YtlhjcdkkmloamaaGreatDoorSp24
set_option linter.unusedSimpArgs false
namespace Go.Proofs.YtlhjcdkkmloamaaGreatDoor
open Go.RowKit
namespace Hx
open Lx Tr Tx Nmb Es Ns
set_option maxRecDepth 100000
set_option maxHeartbeats 16000000
set_option linter.unusedVariables false
def spA (a : At) : Bool := !decide (a.space = [])
def spN (n : Nd) : Bool := !rawN n
theorem spN_eq (n : Nd) : spN n = (!decide (n.space = []) || n.attrs.any spA) := by
  unfold spN rawN
  have h1 : n.attrs.any spA = !(n.attrs.all fun a => a.space.isEmpty) := by
    rw [List.all_eq_not_any_not, Bool.not_not]
    congr 1
    funext a
    unfold spA
    cases a.space <;> rfl
  rw [h1, Bool.not_and]
  cases n.space <;> rfl
theorem hs1 (x y z : ByteArray) (w : World) (p : Bool) (hp : decide (x.data.toList = []) = p) :
    Calls Tryz.prog 30 #[.agg #[.string x, .string y, .string z]] w fun e w' => e = .returned (.bool !p) ∧ Below w.heap.size w w' := by
  have HBO : Hid (∀ o, Below w.heap.size w (w.alloc o)) := Lib.hid fun o => (Below.refl _ _).alloc (Nat.le_refl _) o
  have f1 := emp_lit x p hp
  clear hp
  cases p with
  | false =>
    go_enter Tryz.func30, Tryz.ntmps30
    go_wp2_with fail
    go_ret
    exact ⟨rfl, HBO.out _⟩
  | true =>
    go_enter Tryz.func30, Tryz.ntmps30
    go_wp2_with fail
    go_ret
    exact ⟨rfl, HBO.out _⟩
theorem ixSp  (A : Option Addr) (n c : Nat) (l : List At) (w : World) (hr : RdB AtS w A l) (hn : l.length = n) (hm : n ≤ 1000000) (q : Bool) (hq : l.any (spA) = q) :
    Calls Tryz.prog 48 #[.slice A n c, .func (.func 30) #[] #[]] w fun e w' => Below w.heap.size w w' ∧ ∃ r : Int, e = .returned (.int .i64 r) ∧ decide (0 ≤ r) = q := by
  have HR := Lib.hid hr
  have HN := Lib.hid hn
  have HQ := Lib.hid hq
  have bn : (n : Int) ≤ 1000000 := by omega
  clear hr hn hq
  go_enter Tryz.func48, Tryz.ntmps48
  go_wp2_with fail
  go_loopg [8] n (fun gg i wr => ∃ j : Nat, j + gg = n ∧ i = .int .i64 j ∧ (l.take j).any (spA) = false ∧ Below w.heap.size w wr)
  case atStart => exact ⟨0, by omega, rfl, rfl, Below.refl _ _⟩
  case round =>
    obtain ⟨j, hjg, rfl, hany, hbw⟩ := hrel
    have HBW := Lib.hid hbw
    by_cases hlt : j < n
    · have hjl : j < l.length := by rw [HN.out]; exact hlt
      obtain ⟨b0, off, x2, y2, z2, hA, hbB, hx, hy, hz, c0, c1, c2⟩ := at_at HR.out hjl
      obtain ⟨a, ha⟩ : ∃ a, l[j]'hjl = a := ⟨_, rfl⟩
      rw [ha] at hx hy hz
      have q0 := (hbw.cell (p := ⟨b0, _, none⟩) hbB).trans c0
      have q1 := (hbw.cell (p := ⟨b0, _, none⟩) hbB).trans c1
      have q2 := (hbw.cell (p := ⟨b0, _, none⟩) hbB).trans c2
      have htk : l.take (j + 1) = l.take j ++ [a] := by rw [List.take_succ_eq_append_getElem hjl, ha]
      have bj : (0 : Int) ≤ (j : Int) ∧ (j : Int) < (n : Int) := by omega
      obtain ⟨kq, hkq⟩ : ∃ kq, (spA) a = kq := ⟨_, rfl⟩
      obtain ⟨p, hp⟩ : ∃ p, decide (x2.data.toList = []) = p := ⟨_, rfl⟩
      have HC : Hid (Calls Tryz.prog 30 #[.agg #[.string x2, .string y2, .string z2]] wr fun e w' => e = .returned (.bool kq) ∧ Below wr.heap.size wr w') := Lib.hid (by
        have := hs1 x2 y2 z2 wr p hp
        rwa [show (!p) = kq by rw [← hkq, ← hp, hx]; rfl] at this)
      clear hp
      subst hA
      cases kq with
      | true =>
        obtain rfl : q = true := by
          rw [← HQ.out, List.any_eq_true]
          exact ⟨a, by rw [← ha]; exact List.getElem_mem hjl, hkq⟩
        clear hany hbw hx hy hz c0 c1 c2 htk ha hjl hbB hkq
        go_wp2_with (first
          | (go_at_call 30; (with_reducible refine (HC.out).mono ?_); rintro e2 w2 ⟨rfl, hb2⟩; have HB2 := Lib.hid (stp HBW.out hb2); clear hb2)
          | fail)
        go_ret
        exact ⟨HB2.out, _, rfl, decide_eq_true (by omega)⟩
      | false =>
        have HA2 : Hid ((l.take (j + 1)).any (spA) = false) := Lib.hid (by rw [htk, List.any_append, hany]; simpa using hkq)
        clear hany hbw hx hy hz c0 c1 c2 htk ha hjl hbB hkq
        go_wp2_with (first
          | (go_at_call 30; (with_reducible refine (HC.out).mono ?_); rintro e2 w2 ⟨rfl, hb2⟩; have HB2 := Lib.hid (stp HBW.out hb2); clear hb2)
          | fail)
        go_roundg (gk - 1)
        case measure => omega
        case rel => exact ⟨j + 1, by omega, by go_num, HA2.out, HB2.out⟩
    · obtain rfl : j = n := by omega
      have hjj : ¬ ((j : Int) < (j : Int)) := by omega
      rw [← HN.out, List.take_length] at hany
      obtain rfl : q = false := by rw [← HQ.out]; exact hany
      clear hany hbw
      go_wp2_with fail
      go_ret
      exact ⟨HBW.out, _, rfl, by decide⟩
theorem hasAts11 (A : Option Addr) (n c : Nat) (l : List At) (w : World) (hr : RdB AtS w A l) (hn : l.length = n) (hm : n ≤ 1000000) (q : Bool) (hq : l.any spA = q) :
    Calls Tryz.prog 29 #[.slice A n c, .func (.func 30) #[] #[]] w fun e w' => e = .returned (.bool q) ∧ Below w.heap.size w w' := by
  have HX := Lib.hid (ixSp A n c l w hr hn hm q hq)
  clear hr hn hq
  go_enter Tryz.func29, Tryz.ntmps29
  go_wp2_with (first
    | (go_at_call 48; (with_reducible refine (HX.out).mono ?_); rintro e2 w2 ⟨hb2, r, rfl, hr2⟩; have HB2 := Lib.hid hb2; clear hb2)
    | fail)
  go_ret
  exact ⟨rfl, HB2.out⟩
theorem hasSpace11 (n : Nd) (x y z : ByteArray) (A : Option Addr) (c : Nat) (w : World) (h : NdAt n x y z A c w) (hs : SmallN n) (q : Bool) (hq : spN n = q) :
    Calls Tryz.prog 14 #[NdV n x y z A c] w fun e w' => e = .returned (.bool q) ∧ Below w.heap.size w w' := by
  have HBO : Hid (∀ o, Below w.heap.size w (w.alloc o)) := Lib.hid fun o => (Below.refl _ _).alloc (Nat.le_refl _) o
  obtain ⟨p, hp⟩ : ∃ p, decide (x.data.toList = []) = p := ⟨_, rfl⟩
  obtain ⟨r, hr⟩ : ∃ r, n.attrs.any spA = r := ⟨_, rfl⟩
  have HQ : Hid (q = (!p || r)) := Lib.hid (by rw [← hq, spN_eq, ← hp, ← hr, h.space])
  have HC : Hid (∀ W, Below w.heap.size w W → Calls Tryz.prog 29 #[.slice A n.attrs.length c, .func (.func 30) #[] #[]] W fun e w' => e = .returned (.bool r) ∧ Below W.heap.size W w') := Lib.hid fun W hW => hasAts11 A n.attrs.length c n.attrs W (h.rd.on hW) rfl hs.attrs r hr
  have f1 := emp_lit x p hp
  unfold NdV
  clear h hs hq hp hr
  cases p with
  | false =>
    obtain rfl : q = true := HQ.out
    go_enter Tryz.func14, Tryz.ntmps14
    go_wp2_with fail
    go_ret
    exact ⟨rfl, HBO.out _⟩
  | true =>
    obtain rfl : q = r := HQ.out
    go_enter Tryz.func14, Tryz.ntmps14
    go_wp2_with (first
      | (go_at_call 29; (with_reducible refine (HC.out _ (HBO.out _)).mono ?_); rintro e1 w1 ⟨rfl, hb1⟩; have HB1 : Hid (Below w.heap.size w w1) := Lib.hid (bel_in9 (HBO.out _) hb1); clear hb1)
      | fail)
    go_ret
    exact ⟨rfl, HB1.out⟩
theorem ixNd (A : Option Addr) (n c : Nat) (v : List Nd) (w : World) (hr : RdB NdS w A v) (hn : v.length = n) (hm : n ≤ 1000000) (hsm : ∀ m ∈ v, SmallN m) (q : Bool) (hq : v.any spN = q) :
    Calls Tryz.prog 28 #[.slice A n c, .func (.func 14) #[] #[]] w fun e w' => Below w.heap.size w w' ∧ ∃ r : Int, e = .returned (.int .i64 r) ∧ decide (0 ≤ r) = q := by
  have HR := Lib.hid hr
  have HN := Lib.hid hn
  have HQ := Lib.hid hq
  have HSM := Lib.hid hsm
  have bn : (n : Int) ≤ 1000000 := by omega
  clear hr hn hq hsm
  go_enter Tryz.func28, Tryz.ntmps28
  go_wp2_with fail
  go_loopg [8] n (fun gg i wr => ∃ j : Nat, j + gg = n ∧ i = .int .i64 j ∧ (v.take j).any spN = false ∧ Below w.heap.size w wr)
  case atStart => exact ⟨0, by omega, rfl, rfl, Below.refl _ _⟩
  case round =>
    obtain ⟨j, hjg, rfl, hany, hbw⟩ := hrel
    have HBW := Lib.hid hbw
    by_cases hlt : j < n
    · have hjl : j < v.length := by rw [HN.out]; exact hlt
      obtain ⟨b0, off, x, y, z, A1, c1, hA, hbB, hin, c0w, c1w, c2w, c3w, c4w, c5w⟩ := nd_at HR.out hjl
      have hsm := HSM.out _ (List.getElem_mem hjl)
      obtain ⟨t, ht⟩ : ∃ t, v[j]'hjl = t := ⟨_, rfl⟩
      rw [ht] at hin c0w c3w c5w hsm
      have c0 := (hbw.cell (p := ⟨b0, _, none⟩) hbB).trans c0w
      have c1' := (hbw.cell (p := ⟨b0, _, none⟩) hbB).trans c1w
      have c2 := (hbw.cell (p := ⟨b0, _, none⟩) hbB).trans c2w
      have c3 := (hbw.cell (p := ⟨b0, _, none⟩) hbB).trans c3w
      have c4 := (hbw.cell (p := ⟨b0, _, none⟩) hbB).trans c4w
      have c5 := (hbw.cell (p := ⟨b0, _, none⟩) hbB).trans c5w
      have hnd : NdAt t x y z A1 c1 w := hin
      have htk : v.take (j + 1) = v.take j ++ [t] := by rw [List.take_succ_eq_append_getElem hjl, ht]
      have bj : (0 : Int) ≤ (j : Int) ∧ (j : Int) < (n : Int) := by omega
      obtain ⟨kq, hkq⟩ : ∃ kq, spN t = kq := ⟨_, rfl⟩
      have HC : Hid (Calls Tryz.prog 14 #[.agg #[.int .u8 (t.kind : Int), .string x, .string y, .slice A1 t.attrs.length c1, .string z, .int .i64 t.many]] wr fun e w' => e = .returned (.bool kq) ∧ Below wr.heap.size wr w') := Lib.hid (hasSpace11 t x y z A1 c1 wr (hnd.on hbw) hsm kq hkq)
      subst hA
      cases kq with
      | true =>
        obtain rfl : q = true := by
          rw [← HQ.out, List.any_eq_true]
          exact ⟨t, by rw [← ht]; exact List.getElem_mem hjl, hkq⟩
        clear hany hbw hin hnd hsm c0w c1w c2w c3w c4w c5w htk ht hjl hbB hkq
        go_wp2_with (first
          | (go_at_call 14; (with_reducible refine (HC.out).mono ?_); rintro e2 w2 ⟨rfl, hb2⟩; have HB2 := Lib.hid (stp HBW.out hb2); clear hb2)
          | fail)
        go_ret
        exact ⟨HB2.out, _, rfl, decide_eq_true (by omega)⟩
      | false =>
        have HA2 : Hid ((v.take (j + 1)).any spN = false) := Lib.hid (by rw [htk, List.any_append, hany]; simpa using hkq)
        clear hany hbw hin hnd hsm c0w c1w c2w c3w c4w c5w htk ht hjl hbB hkq
        go_wp2_with (first
          | (go_at_call 14; (with_reducible refine (HC.out).mono ?_); rintro e2 w2 ⟨rfl, hb2⟩; have HB2 := Lib.hid (stp HBW.out hb2); clear hb2)
          | fail)
        go_roundg (gk - 1)
        case measure => omega
        case rel => exact ⟨j + 1, by omega, by go_num, HA2.out, HB2.out⟩
    · obtain rfl : j = n := by omega
      have hjj : ¬ ((j : Int) < (j : Int)) := by omega
      rw [← HN.out, List.take_length] at hany
      obtain rfl : q = false := by rw [← HQ.out]; exact hany
      clear hany hbw
      go_wp2_with fail
      go_ret
      exact ⟨HBW.out, _, rfl, by decide⟩
theorem hasNds11 (A : Option Addr) (n c : Nat) (v : List Nd) (w : World) (hr : RdB NdS w A v) (hn : v.length = n) (hm : n ≤ 1000000) (hsm : ∀ m ∈ v, SmallN m) (q : Bool) (hq : rawV v = !q) :
    Calls Tryz.prog 13 #[.slice A n c, .func (.func 14) #[] #[]] w fun e w' => e = .returned (.bool q) ∧ Below w.heap.size w w' := by
  have hq2 : v.any spN = q := by
    have : v.any spN = !rawV v := by
      unfold rawV
      rw [List.all_eq_not_any_not, Bool.not_not]
      rfl
    rw [this, hq, Bool.not_not]
  have HX := Lib.hid (ixNd A n c v w hr hn hm hsm q hq2)
  clear hr hn hq hq2 hsm
  go_enter Tryz.func13, Tryz.ntmps13
  go_wp2_with (first
    | (go_at_call 28; (with_reducible refine (HX.out).mono ?_); rintro e2 w2 ⟨hb2, r, rfl, hr2⟩; have HB2 := Lib.hid hb2; clear hb2)
    | fail)
  go_ret
  exact ⟨rfl, HB2.out⟩
end Hx
end Go.Proofs.YtlhjcdkkmloamaaGreatDoor
namespace Go.Proofs.YtlhjcdkkmloamaaGreatDoor
open Go.RowKit
namespace Hx
open Lx Tr Tx Nmb Es
set_option linter.unusedVariables false
theorem checkV_yes {v : List Nd} (h : mayV v = true) : checkV v = 0 := by unfold checkV; rw [if_pos h]
theorem checkV_no {v : List Nd} (h : mayV v = false) : checkV v = 8 := by unfold checkV; rw [h]; rfl
end Hx
end Go.Proofs.YtlhjcdkkmloamaaGreatDoor
namespace Go.Proofs.YtlhjcdkkmloamaaGreatDoor
open Go.RowKit
namespace Hx
open Lx Tr Tx Nmb Es Ns
set_option maxRecDepth 100000
set_option maxHeartbeats 16000000
set_option linter.unusedVariables false
def NodesTo (l : List Nd) (z : Int) (w : World) (e : Ending) (w' : World) : Prop := ∃ A c, e = .returned (.tuple #[.slice A l.length c, .int .i64 z]) ∧ NdOut w.heap.size w l A c w' ∧ Below w.heap.size w w'
theorem NodesTo.no {l : List Nd} {z : Int} {w w' : World} (hl : l = []) (hb : Below w.heap.size w w') : NodesTo l z w (.returned (.tuple #[.slice none 0 0, .int .i64 z])) w' := by
  subst hl
  exact ⟨none, 0, rfl, NdOut.none _ _ _, hb⟩
theorem rw_made {clo : Value} {tc : TypeId} {w w2 : World} {A : Option Addr} {c : Nat} {v : List Nd} (hr : RdB NdS w A v) (hb : Below w.heap.size w w2) (hv : w2.heap[w.heap.size]? = some (.cells #[.slice A v.length c] 24 (0, 0))) :
    RwSt clo tc w.heap.size (w2.heap.size + 1 + 1) w.heap.size w2.heap.size (w2.heap.size + 1) A c v [] (.slice none 0 0) ((w2.alloc (.cells #[.slice none 0 0] 24)).alloc (.cells #[clo] tc)) := by
  have h0 := heap_alloc_new w2 (.cells #[.slice none 0 0] 24)
  have h1 := heap_alloc_new (w2.alloc (.cells #[.slice none 0 0] 24)) (.cells #[clo] tc)
  rw [World.size_alloc] at h1
  have hb3 : Below w2.heap.size w2 ((w2.alloc (.cells #[.slice none 0 0] 24)).alloc (.cells #[clo] tc)) := stpA (stpA (Below.refl _ _) _) _
  have hlt := lt_heap hv
  refine ⟨kept_heap hv hb3, kept_heap h0 (stpA (Below.refl _ _) _), h1, ?_, World.ownsRow_nil _ _ _ _, (fun b hb => by cases hb), by omega, by simp⟩
  exact hr.keep (fun _ hb => hb) fun b o hlt2 => (stp hb hb3).cell (p := ⟨b, o, none⟩) hlt2
def D0 : List (List UInt8 × AB) := insD (insD [] [] ⟨⟨#[]⟩, ⟨#[]⟩, ⟨#[]⟩⟩) xml3 ⟨⟨#[]⟩, ⟨#[]⟩, ⟨ofXml.toArray⟩⟩
theorem env0 : EnvD D0 [] := fun p => by
  unfold D0
  rw [lookD_ins, lookD_ins, lookE]
  by_cases h3 : p = xml3
  · rw [if_pos h3, if_pos h3.symm]
  · rw [if_neg h3, if_neg (Ne.symm h3)]
    by_cases h0 : p = []
    · rw [if_pos h0.symm, decide_eq_true h0]
    · rw [if_neg (Ne.symm h0), decide_eq_false h0]
      rfl
structure SmallU (k : Nat) (n : Nd) : Prop where
  space : n.space.length ≤ k
  name : n.name.length ≤ k
  text : n.text.length ≤ k
  attrs : n.attrs.length ≤ 400000
  each : ∀ a ∈ n.attrs, a.space.length ≤ k ∧ a.name.length ≤ k ∧ a.value.length ≤ k
theorem SmallU.to {k : Nat} {n : Nd} (h : SmallU k n) (hk : k ≤ 1000000) : SmallN n :=
  ⟨by have := h.space; omega, by have := h.name; omega, by have := h.text; omega, by have := h.attrs; omega, fun a ha => by obtain ⟨h1, h2, h3⟩ := h.each a ha; exact ⟨by omega, by omega, by omega⟩⟩
theorem walkK_prop {g : List Nd → (List Nd × Bool) × List Nd} {Q W : Nd → Prop} (hg : ∀ l, (∀ n ∈ l, Q n) → (∀ m ∈ (g l).1.1, W m) ∧ ∀ n ∈ (g l).2, Q n) : ∀ (k : Nat) (l : List Nd), (∀ n ∈ l, Q n) → (∀ m ∈ (walkK g k l).1.1, W m) ∧ ∀ n ∈ (walkK g k l).2, Q n
  | 0, l, h => by rw [walkK]; exact ⟨(fun m hm => by cases hm), h⟩
  | k + 1, l, h => by
    obtain ⟨h1, h2⟩ := hg l h
    obtain ⟨h3, h4⟩ := walkK_prop hg k _ h2
    rw [walkK]
    refine ⟨fun m hm => ?_, h4⟩
    rcases List.mem_append.1 hm with hm | hm
    · exact h1 m hm
    · exact h3 m hm
theorem walkD_prop {ε : Type} {f : ε → Nd → Nd × Bool} {dn : ε → Nd → ε} {P : ε → Prop} {Q W : Nd → Prop} (h1 : ∀ e n, P e → Q n → W (f e n).1 ∧ P (dn e n)) (h2 : ∀ n, Q n → W n) : ∀ (d : Nat) (e : ε) (l : List Nd), P e → (∀ n ∈ l, Q n) → (∀ m ∈ (walkD f dn d e l).1.1, W m) ∧ ∀ n ∈ (walkD f dn d e l).2, Q n
  | d, e, [], _, _ => by cases d <;> (rw [walkD]; exact ⟨(fun m hm => by cases hm), (fun m hm => by cases hm)⟩)
  | 0, e, n :: l, hP, hQ => by
    rw [walkD]
    exact ⟨fun m hm => by rw [List.mem_singleton.1 hm]; exact h2 n (hQ n List.mem_cons_self), fun m hm => hQ m (List.mem_cons_of_mem _ hm)⟩
  | d + 1, e, n :: l, hP, hQ => by
    obtain ⟨h3, h4⟩ := h1 e n hP (hQ n List.mem_cons_self)
    rw [walkD]
    split
    · exact ⟨fun m hm => by rw [List.mem_singleton.1 hm]; exact h2 n (hQ n List.mem_cons_self), fun m hm => hQ m (List.mem_cons_of_mem _ hm)⟩
    · obtain ⟨h5, h6⟩ := walkK_prop (fun l' hl' => walkD_prop h1 h2 d (dn e n) l' h4 hl') n.many.toNat l (fun m hm => hQ m (List.mem_cons_of_mem _ hm))
      refine ⟨fun m hm => ?_, h6⟩
      rcases List.mem_cons.1 hm with rfl | hm
      · exact h3
      · exact h5 m hm
def SmallE (k : Nat) (E : List (List At)) : Prop := ∀ l ∈ E, ∀ a ∈ l, a.value.length ≤ k
theorem lookE_small {k : Nat} (hk : 36 ≤ k) : ∀ (E : List (List At)) (p : List UInt8), SmallE k E → (lookE E p).1.length ≤ k
  | [], p, _ => by
    rw [lookE]
    split
    · exact hk
    · exact Nat.zero_le _
  | l :: E, p, h => by
    rw [lookE]
    cases hd : declL l p with
    | none => exact lookE_small hk E p fun l' hl' => h l' (List.mem_cons_of_mem _ hl')
    | some v =>
      obtain ⟨a, ha, _, rfl⟩ := declL_mem hd
      exact h l List.mem_cons_self a ha
theorem cut_small {l a b : List UInt8} (h : cutC l = some (a, b)) : a.length ≤ l.length ∧ b.length ≤ l.length := by
  obtain ⟨e, _⟩ := cutC_some h
  rw [e, List.length_append, List.length_cons]
  omega
theorem nameP_small (l : List UInt8) : (Ns.nameP l).2.length ≤ l.length := by
  unfold Ns.nameP
  cases h : cutC l with
  | none => exact Nat.le_refl _
  | some x =>
    obtain ⟨a, b⟩ := x
    exact (cut_small h).2
theorem atE_small {k : Nat} (hk : 36 ≤ k) {E : List (List At)} (hE : SmallE k E) {a : At} (h : a.name.length ≤ k ∧ a.value.length ≤ k) : (atE E a).1.space.length ≤ k ∧ (atE E a).1.name.length ≤ k ∧ (atE E a).1.value.length ≤ k := by
  unfold atE
  cases hc : cutC a.name with
  | none => exact ⟨Nat.zero_le _, h.1, h.2⟩
  | some x =>
    obtain ⟨p, q⟩ := x
    exact ⟨lookE_small hk E p hE, Nat.le_trans (cut_small hc).2 h.1, h.2⟩
theorem atsE_small {k : Nat} (hk : 36 ≤ k) {E : List (List At)} (hE : SmallE k E) : ∀ (l acc : List At), (∀ a ∈ l, a.name.length ≤ k ∧ a.value.length ≤ k) → (∀ a ∈ acc, a.space.length ≤ k ∧ a.name.length ≤ k ∧ a.value.length ≤ k) →
    (∀ a ∈ (atsE E acc l).1, a.space.length ≤ k ∧ a.name.length ≤ k ∧ a.value.length ≤ k) ∧ (atsE E acc l).1.length ≤ acc.length + l.length
  | [], acc, _, h2 => ⟨h2, Nat.le_refl _⟩
  | a :: l, acc, h1, h2 => by
    have h1' : ∀ b ∈ l, b.name.length ≤ k ∧ b.value.length ≤ k := fun b hb => h1 b (List.mem_cons_of_mem _ hb)
    rw [atsE]
    cases hd : decl a.name with
    | some p =>
      obtain ⟨h3, h4⟩ := atsE_small hk hE l acc h1' h2
      exact ⟨h3, by rw [List.length_cons]; show (atsE E acc l).1.length ≤ _; omega⟩
    | none =>
      obtain ⟨h3, h4⟩ := atsE_small hk hE l (acc ++ [(atE E a).1]) h1' (fun b hb => by
        rcases List.mem_append.1 hb with hb | hb
        · exact h2 b hb
        · rw [List.mem_singleton.1 hb]; exact atE_small hk hE (h1 a List.mem_cons_self))
      refine ⟨h3, ?_⟩
      rw [List.length_append, List.length_singleton] at h4
      rw [List.length_cons]
      show (atsE E (acc ++ [(atE E a).1]) l).1.length ≤ _
      omega
theorem res_small {k : Nat} (hk : 36 ≤ k) {v : List Nd} (h : ∀ n ∈ v, SmallU k n) : ∀ m ∈ (resW v).1.1, SmallU k m :=
  (walkD_prop (P := SmallE k) (Q := SmallU k) (W := SmallU k) (fun E n hE hn => by
    have hE2 : SmallE k (n.attrs :: E) := fun l hl a ha => by
      rcases List.mem_cons.1 hl with rfl | hl
      · exact (hn.each a ha).2.2
      · exact hE l hl a ha
    obtain ⟨h1, h2⟩ := atsE_small hk hE2 n.attrs [] (fun a ha => (hn.each a ha).2) (fun a ha => by cases ha)
    refine ⟨⟨lookE_small hk _ _ hE2, Nat.le_trans (nameP_small _) hn.name, Nat.zero_le _, ?_, h1⟩, hE2⟩
    have := hn.attrs
    show (atsE (n.attrs :: E) [] n.attrs).1.length ≤ _
    rw [List.length_nil] at h2
    omega) (fun n hn => hn) 12 [] v (fun l hl => by cases hl) h).1
theorem resolveR_small {k : Nat} (hk : 36 ≤ k) {v l : List Nd} {z : Int} (h : ∀ n ∈ v, SmallU k n) (hq : resolveR v = (l, z)) : ∀ m ∈ l, SmallU k m := by
  unfold resolveR at hq
  split at hq
  · split at hq
    · injection hq with hq _
      rw [← hq]
      exact res_small hk h
    · injection hq with hq _
      rw [← hq]
      exact fun m hm => by cases hm
  · injection hq with hq _
    rw [← hq]
    exact fun m hm => by cases hm
theorem resolve_to (A : Option Addr) (n c : Nat) (v : List Nd) (w : World) (hr : RdB NdS w A v) (hn : v.length = n) (hmax : n ≤ 9223372036854775807) (hsm : n ≤ 512 → ∀ m ∈ v, SmallU 1000000 m) (l : List Nd) (z : Int) (hq : resolveR v = (l, z)) :
    Calls Tryz.prog 6 #[.slice A n c] w (NodesTo l z w) := by
  have hmf : ∀ (fn : Fn) (first cap : Array Value) (w : World), (Instr.makeFunc fn first cap).run Tryz.prog w = .ok (.func fn first cap) w := fun _ _ _ _ => rfl
  have hmm := @run_makeMap Tryz.prog
  have HB0 : Hid (Below w.heap.size w (w.alloc (.cells #[.slice A n c] 24))) := Lib.hid (stpA (Below.refl _ _) _)
  have HBX : Hid (∀ w1, Below (w.alloc (.cells #[.slice A n c] 24)).heap.size (w.alloc (.cells #[.slice A n c] 24)) w1 → w1.heap[w.heap.size]? = some (.cells #[.slice A n c] 24 (0, 0))) := Lib.hid fun w1 hb => kept_heap (heap_alloc_new w _) hb
  have hsm' : n ≤ 512 → ∀ m ∈ v, SmallN m := fun h m hm => (hsm h m hm).to (Nat.le_refl _)
  cases hm : mayV v with
  | false =>
    have HC : Hid (∀ W, Below w.heap.size w W → Calls Tryz.prog 12 #[.slice A n c] W fun e w' => e = .returned (.int .i64 8) ∧ Below W.heap.size W w') := Lib.hid fun W hW => checkv A n c v W (hr.on hW) hn hmax hsm' 8 (checkV_no hm)
    have hlz : l = [] ∧ z = 8 := by
      unfold resolveR at hq
      rw [if_neg (by rw [hm]; simp)] at hq
      injection hq with h1 h2
      exact ⟨h1.symm, h2.symm⟩
    obtain ⟨rfl, rfl⟩ := hlz
    clear hr hn hmax hsm hsm' hm hq
    go_enter Tryz.func6, Tryz.ntmps6
    go_wp2_with (first
      | (go_at_call 12; (with_reducible refine (HC.out _ HB0.out).mono ?_); rintro e1 w1 ⟨rfl, hb1⟩; have HB1 := Lib.hid hb1; clear hb1)
      | fail)
    go_ret2
    exact NodesTo.no rfl (stp HB0.out HB1.out)
  | true =>
    have h5 := (mayV_iff.1 hm).1
    have hrest := (mayV_iff.1 hm).2.2
    have hs := hsm (by omega)
    have hs' := hsm' (by omega)
    have HC : Hid (∀ W, Below w.heap.size w W → Calls Tryz.prog 12 #[.slice A n c] W fun e w' => e = .returned (.int .i64 0) ∧ Below W.heap.size W w') := Lib.hid fun W hW => checkv A n c v W (hr.on hW) hn hmax hsm' 0 (checkV_yes hm)
    have hcon : ∀ q, rawV v = !q → ∀ W, Below w.heap.size w W → Calls Tryz.prog 13 #[.slice A n c, .func (.func 14) #[] #[]] W fun e w' => e = .returned (.bool q) ∧ Below W.heap.size W w' := fun q hq W hW => hasNds11 A n c v W (hr.on hW) hn (by omega) hs' q hq
    cases hraw : rawV v with
    | false =>
      have HR := Lib.hid (hcon true (by rw [hraw]; rfl))
      have hlz : l = [] ∧ z = 8 := by
        unfold resolveR at hq
        rw [if_neg (by rw [hraw]; simp)] at hq
        injection hq with h1 h2
        exact ⟨h1.symm, h2.symm⟩
      obtain ⟨rfl, rfl⟩ := hlz
      clear hr hn hmax hsm hsm' hm hq h5 hrest hs hs' hcon hraw
      go_enter Tryz.func6, Tryz.ntmps6
      go_wp2_with (first
        | (go_at_call 12; (with_reducible refine (HC.out _ HB0.out).mono ?_); rintro e1 w1 ⟨rfl, hb1⟩; have HB1 := Lib.hid hb1; have kv1 := cell_of_one (HBX.out w1 hb1); clear hb1)
        | (go_at_call 13; (with_reducible refine (HR.out _ (stp HB0.out HB1.out)).mono ?_); rintro e2 w2 ⟨rfl, hb2⟩; have HB2 := Lib.hid hb2; clear hb2)
        | fail)
      go_ret2
      exact NodesTo.no rfl (stp (stp HB0.out HB1.out) HB2.out)
    | true =>
      have HR := Lib.hid (hcon false (by rw [hraw]; rfl))
      have hp0 : 0 < v.length := by
        obtain ⟨_, ⟨m, l, rfl, _⟩, _⟩ := mayV_iff.1 hm
        simp
      obtain ⟨WW, hWW⟩ : ∃ WW, resW v = WW := ⟨_, rfl⟩
      have hlz : (l, z) = if WW.1.2 = true then (WW.1.1, 0) else ([], 110) := by
        rw [← hq]
        unfold resolveR
        rw [if_pos ⟨hm, hraw⟩, hWW]
      have hlen : WW.1.2 = true → WW.1.1.length ≤ 512 := fun _ => by
        have := (walkD_rest (f := resF) (dn := resDn) 12 v [] [] hrest).2
        rw [show walkD resF resDn 12 [] v = resW v from rfl, hWW] at this
        simp at this
        omega
      have hsmall : ∀ m ∈ WW.1.1, SmallN m := fun m hm => by
        rw [← hWW] at hm
        exact (res_small (by decide) hs m hm).to (Nat.le_refl _)
      obtain ⟨qq, hqq⟩ : ∃ qq, WW.1.2 = qq := ⟨_, rfl⟩
      have HMD : Hid (∀ W : World, MapD (W.alloc (.map #[] 0)) W.heap.size []) := Lib.hid fun W => ⟨#[], 0, heap_alloc_new W _, rfl⟩
      have HCALL : Hid (∀ (w2 w7 : World), Below w.heap.size w w2 → w2.heap[w.heap.size]? = some (.cells #[.slice A n c] 24 (0, 0)) → Below (w2.heap.size + 1 + 1) ((w2.alloc (.cells #[.slice none 0 0] 24)).alloc (.cells #[resClo w.heap.size w2.heap.size (w2.heap.size + 1)] 41)) w7 → MapD w7 (w2.heap.size + 1 + 1) D0 →
          Calls Tryz.prog 15 #[.map (some (w2.heap.size + 1 + 1)), .pointer (some ⟨w.heap.size, 0, none⟩), .pointer (some ⟨w2.heap.size, 0, none⟩), .pointer (some ⟨w2.heap.size + 1, 0, none⟩)] w7 fun e w' => ∃ (A' : Option Addr) (k' c' : Nat), e = .returned (.bool qq) ∧ Below w.heap.size w w' ∧ w'.heap[w2.heap.size]? = some (.cells #[.slice A' k' c'] 24 (0, 0)) ∧ (WW.1.2 = true → RdB NdS w' A' WW.1.1 ∧ WW.1.1.length = k')) := Lib.hid fun w2 w7 hb hv hb7 hmd => by
        have hst := (rw_made (clo := resClo w.heap.size w2.heap.size (w2.heap.size + 1)) (tc := 41) (c := c) hr hb (by rw [hn]; exact hv)).below (w' := w7) (by rw [World.size_alloc, World.size_alloc]; exact hb7)
        refine (res_all _ _ _ _ _ A c v h5 hs' hraw (may_ndOk hm) 12 (w2.heap.size + 1 + 1) D0 [] [] (.slice none 0 0) [] w7 hmd env0 hp0 hrest hst).mono ?_
        rintro e w' ⟨M, V', rfl, hf, hs2, hM⟩
        rw [List.nil_append] at hs2
        rw [List.length_nil, List.drop_zero, show walkD resF resDn 12 [] v = resW v from rfl, hWW] at hM ⊢
        obtain ⟨A1, c1, rfl, hrd⟩ := hs2.read
        refine ⟨A1, M.length, c1, by rw [hqq], (hb.trans ((stpA (stpA (Below.refl w2.heap.size w2) _) _).mono hb.size)).trans ((hb7.mono (by have := hb.size; omega)).trans hf.bel), hs2.hl, fun hh => ?_⟩
        rw [hM hh] at hrd
        exact ⟨hrd, by rw [← hM hh, List.length_map]⟩
      have HLZ := Lib.hid hlz
      have HQQ := Lib.hid hqq
      have HSM := Lib.hid hsmall
      have HLEN := Lib.hid hlen
      clear hr hn hmax hsm hsm' hm hq h5 hrest hs hs' hcon hraw hp0 hWW hlz hlen hsmall hqq
      go_enter Tryz.func6, Tryz.ntmps6
      cases qq with
      | false =>
        have hlz : l = [] ∧ z = 110 := by
          have := HLZ.out
          rw [HQQ.out] at this
          injection this with h1 h2
          exact ⟨h1, h2⟩
        obtain ⟨rfl, rfl⟩ := hlz
        go_wp2_with (first
          | (go_at_call 12; (with_reducible refine (HC.out _ HB0.out).mono ?_); rintro e1 w1 ⟨rfl, hb1⟩; have HB1 := Lib.hid hb1; have kv1 := cell_of_one (HBX.out w1 hb1); clear hb1)
          | (go_at_call 13; (with_reducible refine (HR.out _ (stp HB0.out HB1.out)).mono ?_); rintro e2 w2 ⟨rfl, hb2⟩; have HB2 := Lib.hid hb2; have HW4 : Hid (((w2.alloc (.cells #[.slice none 0 0] 24)).alloc (.cells #[resClo w.heap.size w2.heap.size (w2.heap.size + 1)] 41)).heap.size = w2.heap.size + 1 + 1) := Lib.hid (by rw [World.size_alloc, World.size_alloc]); clear hb2)
          | (obtain ⟨w7, hr7, hm7, hz7, hk7, hb7⟩ := run_updD HM6.out ⟨#[120, 109, 108]⟩ xml3 rfl ⟨⟨#[]⟩, ⟨#[]⟩, ⟨ofXml.toArray⟩⟩; refine wpList_ins (mv := .map (some (w2.heap.size + 1 + 1))) (kv := .string ⟨#[120, 109, 108]⟩) (vv := atV ⟨⟨#[]⟩, ⟨#[]⟩, ⟨ofXml.toArray⟩⟩) rfl _ _ _ _ rfl rfl rfl rfl hr7 ?_; have HM7 : Hid (MapD w7 (w2.heap.size + 1 + 1) D0) := Lib.hid hm7; have HB7 : Hid (Below (w2.heap.size + 1 + 1) ((w2.alloc (.cells #[.slice none 0 0] 24)).alloc (.cells #[resClo w.heap.size w2.heap.size (w2.heap.size + 1)] 41)) w7) := Lib.hid ((((Below.refl _ _).alloc (by rw [HW4.out]; exact Nat.le_refl _) _).trans (HB6.out _ (Nat.le_refl _))).trans (hb7 _ (Nat.le_refl _))); clear hr7 hm7 hz7 hk7 hb7)
          | (obtain ⟨w6, hr6, hm6, hz6, hk6, hb6⟩ := run_updD (w := ((w2.alloc (.cells #[.slice none 0 0] 24)).alloc (.cells #[resClo w.heap.size w2.heap.size (w2.heap.size + 1)] 41)).alloc (.map #[] 0)) (b := w2.heap.size + 1 + 1) (D := []) (by have := HMD.out ((w2.alloc (.cells #[.slice none 0 0] 24)).alloc (.cells #[resClo w.heap.size w2.heap.size (w2.heap.size + 1)] 41)); rw [HW4.out] at this; exact this) ⟨#[]⟩ [] rfl ⟨⟨#[]⟩, ⟨#[]⟩, ⟨#[]⟩⟩; refine wpList_ins (mv := .map (some (w2.heap.size + 1 + 1))) (kv := .string ⟨#[]⟩) (vv := atV ⟨⟨#[]⟩, ⟨#[]⟩, ⟨#[]⟩⟩) rfl _ _ _ _ rfl rfl rfl rfl hr6 ?_; have HM6 := Lib.hid hm6; have HB6 := Lib.hid hb6; clear hr6 hm6 hz6 hk6 hb6)
          | (go_at_call 15; (with_reducible refine (HCALL.out w2 w7 (stp (stp HB0.out HB1.out) HB2.out) (HBX.out w2 (stp HB1.out HB2.out)) HB7.out HM7.out).mono ?_); rintro e8 w8 ⟨A8, k8, c8, rfl, hb8, hl8, hm8⟩; have HB8 := Lib.hid hb8; clear hb8 hl8 hm8)
          | fail)
        go_ret2
        exact NodesTo.no rfl HB8.out
      | true =>
        have hlz : l = WW.1.1 ∧ z = 0 := by
          have := HLZ.out
          rw [HQQ.out] at this
          injection this with h1 h2
          exact ⟨h1, h2⟩
        obtain ⟨rfl, rfl⟩ := hlz
        go_wp2_with (first
          | (go_at_call 12; (with_reducible refine (HC.out _ HB0.out).mono ?_); rintro e1 w1 ⟨rfl, hb1⟩; have HB1 := Lib.hid hb1; have kv1 := cell_of_one (HBX.out w1 hb1); clear hb1)
          | (go_at_call 13; (with_reducible refine (HR.out _ (stp HB0.out HB1.out)).mono ?_); rintro e2 w2 ⟨rfl, hb2⟩; have HB2 := Lib.hid hb2; have HW4 : Hid (((w2.alloc (.cells #[.slice none 0 0] 24)).alloc (.cells #[resClo w.heap.size w2.heap.size (w2.heap.size + 1)] 41)).heap.size = w2.heap.size + 1 + 1) := Lib.hid (by rw [World.size_alloc, World.size_alloc]); clear hb2)
          | (obtain ⟨w7, hr7, hm7, hz7, hk7, hb7⟩ := run_updD HM6.out ⟨#[120, 109, 108]⟩ xml3 rfl ⟨⟨#[]⟩, ⟨#[]⟩, ⟨ofXml.toArray⟩⟩; refine wpList_ins (mv := .map (some (w2.heap.size + 1 + 1))) (kv := .string ⟨#[120, 109, 108]⟩) (vv := atV ⟨⟨#[]⟩, ⟨#[]⟩, ⟨ofXml.toArray⟩⟩) rfl _ _ _ _ rfl rfl rfl rfl hr7 ?_; have HM7 : Hid (MapD w7 (w2.heap.size + 1 + 1) D0) := Lib.hid hm7; have HB7 : Hid (Below (w2.heap.size + 1 + 1) ((w2.alloc (.cells #[.slice none 0 0] 24)).alloc (.cells #[resClo w.heap.size w2.heap.size (w2.heap.size + 1)] 41)) w7) := Lib.hid ((((Below.refl _ _).alloc (by rw [HW4.out]; exact Nat.le_refl _) _).trans (HB6.out _ (Nat.le_refl _))).trans (hb7 _ (Nat.le_refl _))); clear hr7 hm7 hz7 hk7 hb7)
          | (obtain ⟨w6, hr6, hm6, hz6, hk6, hb6⟩ := run_updD (w := ((w2.alloc (.cells #[.slice none 0 0] 24)).alloc (.cells #[resClo w.heap.size w2.heap.size (w2.heap.size + 1)] 41)).alloc (.map #[] 0)) (b := w2.heap.size + 1 + 1) (D := []) (by have := HMD.out ((w2.alloc (.cells #[.slice none 0 0] 24)).alloc (.cells #[resClo w.heap.size w2.heap.size (w2.heap.size + 1)] 41)); rw [HW4.out] at this; exact this) ⟨#[]⟩ [] rfl ⟨⟨#[]⟩, ⟨#[]⟩, ⟨#[]⟩⟩; refine wpList_ins (mv := .map (some (w2.heap.size + 1 + 1))) (kv := .string ⟨#[]⟩) (vv := atV ⟨⟨#[]⟩, ⟨#[]⟩, ⟨#[]⟩⟩) rfl _ _ _ _ rfl rfl rfl rfl hr6 ?_; have HM6 := Lib.hid hm6; have HB6 := Lib.hid hb6; clear hr6 hm6 hz6 hk6 hb6)
          | (go_at_call 15; (with_reducible refine (HCALL.out w2 w7 (stp (stp HB0.out HB1.out) HB2.out) (HBX.out w2 (stp HB1.out HB2.out)) HB7.out HM7.out).mono ?_); rintro e8 w8 ⟨A8, k8, c8, rfl, hb8, hl8, hm8⟩; have HB8 := Lib.hid hb8; have kl8 := cell_of_one hl8; have HTW := Lib.hid (twin10 A8 k8 c8 WW.1.1 w8 (hm8 HQQ.out).1 (hm8 HQQ.out).2 (by have := HLEN.out HQQ.out; have := (hm8 HQQ.out).2; omega) HSM.out); clear hb8 hl8 hm8)
          | (go_at_call 19; (with_reducible refine (HTW.out).mono ?_); rintro e9 w9 ⟨A9, c9, rfl, ho9, hb9⟩; have HO9 := Lib.hid ho9; have HB9 := Lib.hid hb9; clear ho9 hb9)
          | fail)
        go_ret2
        exact ⟨A9, c9, rfl, ⟨HO9.out.rd.mono fun b hb => ⟨Nat.le_trans HB8.out.size hb.1, hb.2.1, hb.2.2.1, fun _ => hb.2.2.2 hb.1⟩, HO9.out.le, HO9.out.cm, HO9.out.nil⟩, stp HB8.out HB9.out⟩
end Hx
end Go.Proofs.YtlhjcdkkmloamaaGreatDoor
