/-
  Texts of one seat, put together: SpaR, SpaK, SpaL.
-/
import Derived.Test.YteobcohjikjalaaGreatDoorSp39
import Derived.Test.YteobcohjikjalaaGreatDoorSp40
import Derived.Test.YteobcohjikjalaaGreatDoorSp25
import Derived.Test.YteobcohjikjalaaGreatDoorSp23
import Derived.Test.YteobcohjikjalaaGreatDoorSp34
import Derived.Test.YteobcohjikjalaaGreatDoorShelf
set_option linter.unusedSimpArgs false
namespace Go.Proofs.YteobcohjikjalaaGreatDoor
open Go.RowKit
namespace Hx
open Lx Tr Tx Nmb Es Ns
set_option maxRecDepth 100000
set_option maxHeartbeats 16000000
set_option linter.unusedVariables false
def NodesTo (l : List Nd) (z : Int) (w : World) (e : Ending) (w' : World) : Prop := ∃ A c, e = .returned (.tuple #[.slice A l.length c, .int .i64 z]) ∧ NdOut w.heap.size w l A c w' ∧ Below w.heap.size w w'
theorem NodesTo.no {l : List Nd} {z : Int} {w w' : World} (hl : l = []) (hb : Below w.heap.size w w') : NodesTo l z w (.returned (.tuple #[.slice none 0 0, .int .i64 z])) w' := by
  subst hl
  exact ⟨none, 0, rfl, NdOut.none _ _ _, hb⟩
theorem rw_made {clo : Value} {tc : TypeId} {w w2 : World} {A : Option Addr} {c : Nat} {v : List Nd} (hr : RdB NdS w A v) (hb : Below w.heap.size w w2) (hv : w2.heap[w.heap.size]? = some (.cells #[.slice A v.length c] 22 (0, 0))) :
    RwSt clo tc w.heap.size (w2.heap.size + 1 + 1) w.heap.size w2.heap.size (w2.heap.size + 1) A c v [] (.slice none 0 0) ((w2.alloc (.cells #[.slice none 0 0] 22)).alloc (.cells #[clo] tc)) := by
  have h0 := heap_alloc_new w2 (.cells #[.slice none 0 0] 22)
  have h1 := heap_alloc_new (w2.alloc (.cells #[.slice none 0 0] 22)) (.cells #[clo] tc)
  rw [World.size_alloc] at h1
  have hb3 : Below w2.heap.size w2 ((w2.alloc (.cells #[.slice none 0 0] 22)).alloc (.cells #[clo] tc)) := stpA (stpA (Below.refl _ _) _) _
  have hlt := lt_heap hv
  refine ⟨kept_heap hv hb3, kept_heap h0 (stpA (Below.refl _ _) _), h1, ?_, World.ownsRow_nil _ _ _ _, (fun b hb => by cases hb), by omega, by simp⟩
  exact hr.keep (fun _ hb => hb) fun b o hlt2 => (stp hb hb3).cell (p := ⟨b, o, none⟩) hlt2
def D0 : List (List UInt8 × AB) := insD (insD [] [] ⟨⟨#[]⟩, ⟨#[]⟩, ⟨#[]⟩⟩) xml3 ⟨⟨#[]⟩, ⟨#[]⟩, ⟨ofXml.toArray⟩⟩
theorem env0 : EnvD D0 [] := fun p => by
  unfold D0
  rw [lookD_ins, lookD_ins, lookE]
  by_cases h3 : p = xml3
  · rw [if_pos h3, if_pos h3.symm]
  · rw [if_neg h3, if_neg (Ne.symm h3)]
    by_cases h0 : p = []
    · rw [if_pos h0.symm, decide_eq_true h0]
    · rw [if_neg (Ne.symm h0), decide_eq_false h0]
      rfl
structure SmallU (k : Nat) (n : Nd) : Prop where
  space : n.space.length ≤ k
  name : n.name.length ≤ k
  text : n.text.length ≤ k
  attrs : n.attrs.length ≤ 400000
  each : ∀ a ∈ n.attrs, a.space.length ≤ k ∧ a.name.length ≤ k ∧ a.value.length ≤ k
theorem SmallU.to {k : Nat} {n : Nd} (h : SmallU k n) (hk : k ≤ 1000000) : SmallN n :=
  ⟨by have := h.space; omega, by have := h.name; omega, by have := h.text; omega, by have := h.attrs; omega, fun a ha => by obtain ⟨h1, h2, h3⟩ := h.each a ha; exact ⟨by omega, by omega, by omega⟩⟩
theorem walkK_prop {g : List Nd → (List Nd × Bool) × List Nd} {Q W : Nd → Prop} (hg : ∀ l, (∀ n ∈ l, Q n) → (∀ m ∈ (g l).1.1, W m) ∧ ∀ n ∈ (g l).2, Q n) : ∀ (k : Nat) (l : List Nd), (∀ n ∈ l, Q n) → (∀ m ∈ (walkK g k l).1.1, W m) ∧ ∀ n ∈ (walkK g k l).2, Q n
  | 0, l, h => by rw [walkK]; exact ⟨(fun m hm => by cases hm), h⟩
  | k + 1, l, h => by
    obtain ⟨h1, h2⟩ := hg l h
    obtain ⟨h3, h4⟩ := walkK_prop hg k _ h2
    rw [walkK]
    refine ⟨fun m hm => ?_, h4⟩
    rcases List.mem_append.1 hm with hm | hm
    · exact h1 m hm
    · exact h3 m hm
theorem walkD_prop {ε : Type} {f : ε → Nd → Nd × Bool} {dn : ε → Nd → ε} {P : ε → Prop} {Q W : Nd → Prop} (h1 : ∀ e n, P e → Q n → W (f e n).1 ∧ P (dn e n)) (h2 : ∀ n, Q n → W n) : ∀ (d : Nat) (e : ε) (l : List Nd), P e → (∀ n ∈ l, Q n) → (∀ m ∈ (walkD f dn d e l).1.1, W m) ∧ ∀ n ∈ (walkD f dn d e l).2, Q n
  | d, e, [], _, _ => by cases d <;> (rw [walkD]; exact ⟨(fun m hm => by cases hm), (fun m hm => by cases hm)⟩)
  | 0, e, n :: l, hP, hQ => by
    rw [walkD]
    exact ⟨fun m hm => by rw [List.mem_singleton.1 hm]; exact h2 n (hQ n List.mem_cons_self), fun m hm => hQ m (List.mem_cons_of_mem _ hm)⟩
  | d + 1, e, n :: l, hP, hQ => by
    obtain ⟨h3, h4⟩ := h1 e n hP (hQ n List.mem_cons_self)
    rw [walkD]
    split
    · exact ⟨fun m hm => by rw [List.mem_singleton.1 hm]; exact h2 n (hQ n List.mem_cons_self), fun m hm => hQ m (List.mem_cons_of_mem _ hm)⟩
    · obtain ⟨h5, h6⟩ := walkK_prop (fun l' hl' => walkD_prop h1 h2 d (dn e n) l' h4 hl') n.many.toNat l (fun m hm => hQ m (List.mem_cons_of_mem _ hm))
      refine ⟨fun m hm => ?_, h6⟩
      rcases List.mem_cons.1 hm with rfl | hm
      · exact h3
      · exact h5 m hm
def SmallE (k : Nat) (E : List (List At)) : Prop := ∀ l ∈ E, ∀ a ∈ l, a.value.length ≤ k
theorem lookE_small {k : Nat} (hk : 36 ≤ k) : ∀ (E : List (List At)) (p : List UInt8), SmallE k E → (lookE E p).1.length ≤ k
  | [], p, _ => by
    rw [lookE]
    split
    · exact hk
    · exact Nat.zero_le _
  | l :: E, p, h => by
    rw [lookE]
    cases hd : declL l p with
    | none => exact lookE_small hk E p fun l' hl' => h l' (List.mem_cons_of_mem _ hl')
    | some v =>
      obtain ⟨a, ha, _, rfl⟩ := declL_mem hd
      exact h l List.mem_cons_self a ha
theorem cut_small {l a b : List UInt8} (h : cutC l = some (a, b)) : a.length ≤ l.length ∧ b.length ≤ l.length := by
  obtain ⟨e, _⟩ := cutC_some h
  rw [e, List.length_append, List.length_cons]
  omega
theorem nameP_small (l : List UInt8) : (Ns.nameP l).2.length ≤ l.length := by
  unfold Ns.nameP
  cases h : cutC l with
  | none => exact Nat.le_refl _
  | some x =>
    obtain ⟨a, b⟩ := x
    exact (cut_small h).2
theorem atE_small {k : Nat} (hk : 36 ≤ k) {E : List (List At)} (hE : SmallE k E) {a : At} (h : a.name.length ≤ k ∧ a.value.length ≤ k) : (atE E a).1.space.length ≤ k ∧ (atE E a).1.name.length ≤ k ∧ (atE E a).1.value.length ≤ k := by
  unfold atE
  cases hc : cutC a.name with
  | none => exact ⟨Nat.zero_le _, h.1, h.2⟩
  | some x =>
    obtain ⟨p, q⟩ := x
    exact ⟨lookE_small hk E p hE, Nat.le_trans (cut_small hc).2 h.1, h.2⟩
theorem atsE_small {k : Nat} (hk : 36 ≤ k) {E : List (List At)} (hE : SmallE k E) : ∀ (l acc : List At), (∀ a ∈ l, a.name.length ≤ k ∧ a.value.length ≤ k) → (∀ a ∈ acc, a.space.length ≤ k ∧ a.name.length ≤ k ∧ a.value.length ≤ k) →
    (∀ a ∈ (atsE E acc l).1, a.space.length ≤ k ∧ a.name.length ≤ k ∧ a.value.length ≤ k) ∧ (atsE E acc l).1.length ≤ acc.length + l.length
  | [], acc, _, h2 => ⟨h2, Nat.le_refl _⟩
  | a :: l, acc, h1, h2 => by
    have h1' : ∀ b ∈ l, b.name.length ≤ k ∧ b.value.length ≤ k := fun b hb => h1 b (List.mem_cons_of_mem _ hb)
    rw [atsE]
    cases hd : decl a.name with
    | some p =>
      obtain ⟨h3, h4⟩ := atsE_small hk hE l acc h1' h2
      exact ⟨h3, by rw [List.length_cons]; show (atsE E acc l).1.length ≤ _; omega⟩
    | none =>
      obtain ⟨h3, h4⟩ := atsE_small hk hE l (acc ++ [(atE E a).1]) h1' (fun b hb => by
        rcases List.mem_append.1 hb with hb | hb
        · exact h2 b hb
        · rw [List.mem_singleton.1 hb]; exact atE_small hk hE (h1 a List.mem_cons_self))
      refine ⟨h3, ?_⟩
      rw [List.length_append, List.length_singleton] at h4
      rw [List.length_cons]
      show (atsE E (acc ++ [(atE E a).1]) l).1.length ≤ _
      omega
theorem res_small {k : Nat} (hk : 36 ≤ k) {v : List Nd} (h : ∀ n ∈ v, SmallU k n) : ∀ m ∈ (resW v).1.1, SmallU k m :=
  (walkD_prop (P := SmallE k) (Q := SmallU k) (W := SmallU k) (fun E n hE hn => by
    have hE2 : SmallE k (n.attrs :: E) := fun l hl a ha => by
      rcases List.mem_cons.1 hl with rfl | hl
      · exact (hn.each a ha).2.2
      · exact hE l hl a ha
    obtain ⟨h1, h2⟩ := atsE_small hk hE2 n.attrs [] (fun a ha => (hn.each a ha).2) (fun a ha => by cases ha)
    refine ⟨⟨lookE_small hk _ _ hE2, Nat.le_trans (nameP_small _) hn.name, Nat.zero_le _, ?_, h1⟩, hE2⟩
    have := hn.attrs
    show (atsE (n.attrs :: E) [] n.attrs).1.length ≤ _
    rw [List.length_nil] at h2
    omega) (fun n hn => hn) 12 [] v (fun l hl => by cases hl) h).1
theorem resolveR_small {k : Nat} (hk : 36 ≤ k) {v l : List Nd} {z : Int} (h : ∀ n ∈ v, SmallU k n) (hq : resolveR v = (l, z)) : ∀ m ∈ l, SmallU k m := by
  unfold resolveR at hq
  split at hq
  · split at hq
    · injection hq with hq _
      rw [← hq]
      exact res_small hk h
    · injection hq with hq _
      rw [← hq]
      exact fun m hm => by cases hm
  · injection hq with hq _
    rw [← hq]
    exact fun m hm => by cases hm
theorem resolve_to (A : Option Addr) (n c : Nat) (v : List Nd) (w : World) (hr : RdB NdS w A v) (hn : v.length = n) (hmax : n ≤ 9223372036854775807) (hsm : n ≤ 512 → ∀ m ∈ v, SmallU 1000000 m) (l : List Nd) (z : Int) (hq : resolveR v = (l, z)) :
    Calls Tryz.prog 6 #[.slice A n c] w (NodesTo l z w) := by
  have hmf : ∀ (fn : Fn) (first cap : Array Value) (w : World), (Instr.makeFunc fn first cap).run Tryz.prog w = .ok (.func fn first cap) w := fun _ _ _ _ => rfl
  have hmm := @run_makeMap Tryz.prog
  have HB0 : Hid (Below w.heap.size w (w.alloc (.cells #[.slice A n c] 22))) := Lib.hid (stpA (Below.refl _ _) _)
  have HBX : Hid (∀ w1, Below (w.alloc (.cells #[.slice A n c] 22)).heap.size (w.alloc (.cells #[.slice A n c] 22)) w1 → w1.heap[w.heap.size]? = some (.cells #[.slice A n c] 22 (0, 0))) := Lib.hid fun w1 hb => kept_heap (heap_alloc_new w _) hb
  have hsm' : n ≤ 512 → ∀ m ∈ v, SmallN m := fun h m hm => (hsm h m hm).to (Nat.le_refl _)
  cases hm : mayV v with
  | false =>
    have HC : Hid (∀ W, Below w.heap.size w W → Calls Tryz.prog 14 #[.slice A n c] W fun e w' => e = .returned (.int .i64 8) ∧ Below W.heap.size W w') := Lib.hid fun W hW => checkv A n c v W (hr.on hW) hn hmax hsm' 8 (checkV_no hm)
    have hlz : l = [] ∧ z = 8 := by
      unfold resolveR at hq
      rw [if_neg (by rw [hm]; simp)] at hq
      injection hq with h1 h2
      exact ⟨h1.symm, h2.symm⟩
    obtain ⟨rfl, rfl⟩ := hlz
    clear hr hn hmax hsm hsm' hm hq
    go_enter Tryz.func6, Tryz.ntmps6
    go_wp2_with (first
      | (go_at_call 14; (with_reducible refine (HC.out _ HB0.out).mono ?_); rintro e1 w1 ⟨rfl, hb1⟩; have HB1 := Lib.hid hb1; clear hb1)
      | fail)
    go_ret2
    exact NodesTo.no rfl (stp HB0.out HB1.out)
  | true =>
    have h5 := (mayV_iff.1 hm).1
    have hrest := (mayV_iff.1 hm).2.2
    have hs := hsm (by omega)
    have hs' := hsm' (by omega)
    have HC : Hid (∀ W, Below w.heap.size w W → Calls Tryz.prog 14 #[.slice A n c] W fun e w' => e = .returned (.int .i64 0) ∧ Below W.heap.size W w') := Lib.hid fun W hW => checkv A n c v W (hr.on hW) hn hmax hsm' 0 (checkV_yes hm)
    have hcon : ∀ q, rawV v = !q → ∀ W, Below w.heap.size w W → Calls Tryz.prog 15 #[.slice A n c, .func (.func 16) #[] #[]] W fun e w' => e = .returned (.bool q) ∧ Below W.heap.size W w' := fun q hq W hW => hasNds11 A n c v W (hr.on hW) hn (by omega) hs' q hq
    cases hraw : rawV v with
    | false =>
      have HR := Lib.hid (hcon true (by rw [hraw]; rfl))
      have hlz : l = [] ∧ z = 8 := by
        unfold resolveR at hq
        rw [if_neg (by rw [hraw]; simp)] at hq
        injection hq with h1 h2
        exact ⟨h1.symm, h2.symm⟩
      obtain ⟨rfl, rfl⟩ := hlz
      clear hr hn hmax hsm hsm' hm hq h5 hrest hs hs' hcon hraw
      go_enter Tryz.func6, Tryz.ntmps6
      go_wp2_with (first
        | (go_at_call 14; (with_reducible refine (HC.out _ HB0.out).mono ?_); rintro e1 w1 ⟨rfl, hb1⟩; have HB1 := Lib.hid hb1; have kv1 := cell_of_one (HBX.out w1 hb1); clear hb1)
        | (go_at_call 15; (with_reducible refine (HR.out _ (stp HB0.out HB1.out)).mono ?_); rintro e2 w2 ⟨rfl, hb2⟩; have HB2 := Lib.hid hb2; clear hb2)
        | fail)
      go_ret2
      exact NodesTo.no rfl (stp (stp HB0.out HB1.out) HB2.out)
    | true =>
      have HR := Lib.hid (hcon false (by rw [hraw]; rfl))
      have hp0 : 0 < v.length := by
        obtain ⟨_, ⟨m, l, rfl, _⟩, _⟩ := mayV_iff.1 hm
        simp
      obtain ⟨WW, hWW⟩ : ∃ WW, resW v = WW := ⟨_, rfl⟩
      have hlz : (l, z) = if WW.1.2 = true then (WW.1.1, 0) else ([], 110) := by
        rw [← hq]
        unfold resolveR
        rw [if_pos ⟨hm, hraw⟩, hWW]
      have hlen : WW.1.2 = true → WW.1.1.length ≤ 512 := fun _ => by
        have := (walkD_rest (f := resF) (dn := resDn) 12 v [] [] hrest).2
        rw [show walkD resF resDn 12 [] v = resW v from rfl, hWW] at this
        simp at this
        omega
      have hsmall : ∀ m ∈ WW.1.1, SmallN m := fun m hm => by
        rw [← hWW] at hm
        exact (res_small (by decide) hs m hm).to (Nat.le_refl _)
      obtain ⟨qq, hqq⟩ : ∃ qq, WW.1.2 = qq := ⟨_, rfl⟩
      have HMD : Hid (∀ W : World, MapD (W.alloc (.map #[] 0)) W.heap.size []) := Lib.hid fun W => ⟨#[], 0, heap_alloc_new W _, rfl⟩
      have HCALL : Hid (∀ (w2 w7 : World), Below w.heap.size w w2 → w2.heap[w.heap.size]? = some (.cells #[.slice A n c] 22 (0, 0)) → Below (w2.heap.size + 1 + 1) ((w2.alloc (.cells #[.slice none 0 0] 22)).alloc (.cells #[resClo w.heap.size w2.heap.size (w2.heap.size + 1)] 44)) w7 → MapD w7 (w2.heap.size + 1 + 1) D0 →
          Calls Tryz.prog 17 #[.map (some (w2.heap.size + 1 + 1)), .pointer (some ⟨w.heap.size, 0, none⟩), .pointer (some ⟨w2.heap.size, 0, none⟩), .pointer (some ⟨w2.heap.size + 1, 0, none⟩)] w7 fun e w' => ∃ (A' : Option Addr) (k' c' : Nat), e = .returned (.bool qq) ∧ Below w.heap.size w w' ∧ w'.heap[w2.heap.size]? = some (.cells #[.slice A' k' c'] 22 (0, 0)) ∧ (WW.1.2 = true → RdB NdS w' A' WW.1.1 ∧ WW.1.1.length = k')) := Lib.hid fun w2 w7 hb hv hb7 hmd => by
        have hst := (rw_made (clo := resClo w.heap.size w2.heap.size (w2.heap.size + 1)) (tc := 44) (c := c) hr hb (by rw [hn]; exact hv)).below (w' := w7) (by rw [World.size_alloc, World.size_alloc]; exact hb7)
        refine (res_all _ _ _ _ _ A c v h5 hs' hraw (may_ndOk hm) 12 (w2.heap.size + 1 + 1) D0 [] [] (.slice none 0 0) [] w7 hmd env0 hp0 hrest hst).mono ?_
        rintro e w' ⟨M, V', rfl, hf, hs2, hM⟩
        rw [List.nil_append] at hs2
        rw [List.length_nil, List.drop_zero, show walkD resF resDn 12 [] v = resW v from rfl, hWW] at hM ⊢
        obtain ⟨A1, c1, rfl, hrd⟩ := hs2.read
        refine ⟨A1, M.length, c1, by rw [hqq], (hb.trans ((stpA (stpA (Below.refl w2.heap.size w2) _) _).mono hb.size)).trans ((hb7.mono (by have := hb.size; omega)).trans hf.bel), hs2.hl, fun hh => ?_⟩
        rw [hM hh] at hrd
        exact ⟨hrd, by rw [← hM hh, List.length_map]⟩
      have HLZ := Lib.hid hlz
      have HQQ := Lib.hid hqq
      have HSM := Lib.hid hsmall
      have HLEN := Lib.hid hlen
      clear hr hn hmax hsm hsm' hm hq h5 hrest hs hs' hcon hraw hp0 hWW hlz hlen hsmall hqq
      go_enter Tryz.func6, Tryz.ntmps6
      cases qq with
      | false =>
        have hlz : l = [] ∧ z = 110 := by
          have := HLZ.out
          rw [HQQ.out] at this
          injection this with h1 h2
          exact ⟨h1, h2⟩
        obtain ⟨rfl, rfl⟩ := hlz
        go_wp2_with (first
          | (go_at_call 14; (with_reducible refine (HC.out _ HB0.out).mono ?_); rintro e1 w1 ⟨rfl, hb1⟩; have HB1 := Lib.hid hb1; have kv1 := cell_of_one (HBX.out w1 hb1); clear hb1)
          | (go_at_call 15; (with_reducible refine (HR.out _ (stp HB0.out HB1.out)).mono ?_); rintro e2 w2 ⟨rfl, hb2⟩; have HB2 := Lib.hid hb2; have HW4 : Hid (((w2.alloc (.cells #[.slice none 0 0] 22)).alloc (.cells #[resClo w.heap.size w2.heap.size (w2.heap.size + 1)] 44)).heap.size = w2.heap.size + 1 + 1) := Lib.hid (by rw [World.size_alloc, World.size_alloc]); clear hb2)
          | (obtain ⟨w7, hr7, hm7, hz7, hk7, hb7⟩ := run_updD HM6.out ⟨#[120, 109, 108]⟩ xml3 rfl ⟨⟨#[]⟩, ⟨#[]⟩, ⟨ofXml.toArray⟩⟩; refine wpList_ins (mv := .map (some (w2.heap.size + 1 + 1))) (kv := .string ⟨#[120, 109, 108]⟩) (vv := atV ⟨⟨#[]⟩, ⟨#[]⟩, ⟨ofXml.toArray⟩⟩) rfl _ _ _ _ rfl rfl rfl rfl hr7 ?_; have HM7 : Hid (MapD w7 (w2.heap.size + 1 + 1) D0) := Lib.hid hm7; have HB7 : Hid (Below (w2.heap.size + 1 + 1) ((w2.alloc (.cells #[.slice none 0 0] 22)).alloc (.cells #[resClo w.heap.size w2.heap.size (w2.heap.size + 1)] 44)) w7) := Lib.hid ((((Below.refl _ _).alloc (by rw [HW4.out]; exact Nat.le_refl _) _).trans (HB6.out _ (Nat.le_refl _))).trans (hb7 _ (Nat.le_refl _))); clear hr7 hm7 hz7 hk7 hb7)
          | (obtain ⟨w6, hr6, hm6, hz6, hk6, hb6⟩ := run_updD (w := ((w2.alloc (.cells #[.slice none 0 0] 22)).alloc (.cells #[resClo w.heap.size w2.heap.size (w2.heap.size + 1)] 44)).alloc (.map #[] 0)) (b := w2.heap.size + 1 + 1) (D := []) (by have := HMD.out ((w2.alloc (.cells #[.slice none 0 0] 22)).alloc (.cells #[resClo w.heap.size w2.heap.size (w2.heap.size + 1)] 44)); rw [HW4.out] at this; exact this) ⟨#[]⟩ [] rfl ⟨⟨#[]⟩, ⟨#[]⟩, ⟨#[]⟩⟩; refine wpList_ins (mv := .map (some (w2.heap.size + 1 + 1))) (kv := .string ⟨#[]⟩) (vv := atV ⟨⟨#[]⟩, ⟨#[]⟩, ⟨#[]⟩⟩) rfl _ _ _ _ rfl rfl rfl rfl hr6 ?_; have HM6 := Lib.hid hm6; have HB6 := Lib.hid hb6; clear hr6 hm6 hz6 hk6 hb6)
          | (go_at_call 17; (with_reducible refine (HCALL.out w2 w7 (stp (stp HB0.out HB1.out) HB2.out) (HBX.out w2 (stp HB1.out HB2.out)) HB7.out HM7.out).mono ?_); rintro e8 w8 ⟨A8, k8, c8, rfl, hb8, hl8, hm8⟩; have HB8 := Lib.hid hb8; clear hb8 hl8 hm8)
          | fail)
        go_ret2
        exact NodesTo.no rfl HB8.out
      | true =>
        have hlz : l = WW.1.1 ∧ z = 0 := by
          have := HLZ.out
          rw [HQQ.out] at this
          injection this with h1 h2
          exact ⟨h1, h2⟩
        obtain ⟨rfl, rfl⟩ := hlz
        go_wp2_with (first
          | (go_at_call 14; (with_reducible refine (HC.out _ HB0.out).mono ?_); rintro e1 w1 ⟨rfl, hb1⟩; have HB1 := Lib.hid hb1; have kv1 := cell_of_one (HBX.out w1 hb1); clear hb1)
          | (go_at_call 15; (with_reducible refine (HR.out _ (stp HB0.out HB1.out)).mono ?_); rintro e2 w2 ⟨rfl, hb2⟩; have HB2 := Lib.hid hb2; have HW4 : Hid (((w2.alloc (.cells #[.slice none 0 0] 22)).alloc (.cells #[resClo w.heap.size w2.heap.size (w2.heap.size + 1)] 44)).heap.size = w2.heap.size + 1 + 1) := Lib.hid (by rw [World.size_alloc, World.size_alloc]); clear hb2)
          | (obtain ⟨w7, hr7, hm7, hz7, hk7, hb7⟩ := run_updD HM6.out ⟨#[120, 109, 108]⟩ xml3 rfl ⟨⟨#[]⟩, ⟨#[]⟩, ⟨ofXml.toArray⟩⟩; refine wpList_ins (mv := .map (some (w2.heap.size + 1 + 1))) (kv := .string ⟨#[120, 109, 108]⟩) (vv := atV ⟨⟨#[]⟩, ⟨#[]⟩, ⟨ofXml.toArray⟩⟩) rfl _ _ _ _ rfl rfl rfl rfl hr7 ?_; have HM7 : Hid (MapD w7 (w2.heap.size + 1 + 1) D0) := Lib.hid hm7; have HB7 : Hid (Below (w2.heap.size + 1 + 1) ((w2.alloc (.cells #[.slice none 0 0] 22)).alloc (.cells #[resClo w.heap.size w2.heap.size (w2.heap.size + 1)] 44)) w7) := Lib.hid ((((Below.refl _ _).alloc (by rw [HW4.out]; exact Nat.le_refl _) _).trans (HB6.out _ (Nat.le_refl _))).trans (hb7 _ (Nat.le_refl _))); clear hr7 hm7 hz7 hk7 hb7)
          | (obtain ⟨w6, hr6, hm6, hz6, hk6, hb6⟩ := run_updD (w := ((w2.alloc (.cells #[.slice none 0 0] 22)).alloc (.cells #[resClo w.heap.size w2.heap.size (w2.heap.size + 1)] 44)).alloc (.map #[] 0)) (b := w2.heap.size + 1 + 1) (D := []) (by have := HMD.out ((w2.alloc (.cells #[.slice none 0 0] 22)).alloc (.cells #[resClo w.heap.size w2.heap.size (w2.heap.size + 1)] 44)); rw [HW4.out] at this; exact this) ⟨#[]⟩ [] rfl ⟨⟨#[]⟩, ⟨#[]⟩, ⟨#[]⟩⟩; refine wpList_ins (mv := .map (some (w2.heap.size + 1 + 1))) (kv := .string ⟨#[]⟩) (vv := atV ⟨⟨#[]⟩, ⟨#[]⟩, ⟨#[]⟩⟩) rfl _ _ _ _ rfl rfl rfl rfl hr6 ?_; have HM6 := Lib.hid hm6; have HB6 := Lib.hid hb6; clear hr6 hm6 hz6 hk6 hb6)
          | (go_at_call 17; (with_reducible refine (HCALL.out w2 w7 (stp (stp HB0.out HB1.out) HB2.out) (HBX.out w2 (stp HB1.out HB2.out)) HB7.out HM7.out).mono ?_); rintro e8 w8 ⟨A8, k8, c8, rfl, hb8, hl8, hm8⟩; have HB8 := Lib.hid hb8; have kl8 := cell_of_one hl8; have HTW := Lib.hid (twin10 A8 k8 c8 WW.1.1 w8 (hm8 HQQ.out).1 (hm8 HQQ.out).2 (by have := HLEN.out HQQ.out; have := (hm8 HQQ.out).2; omega) HSM.out); clear hb8 hl8 hm8)
          | (go_at_call 21; (with_reducible refine (HTW.out).mono ?_); rintro e9 w9 ⟨A9, c9, rfl, ho9, hb9⟩; have HO9 := Lib.hid ho9; have HB9 := Lib.hid hb9; clear ho9 hb9)
          | fail)
        go_ret2
        exact ⟨A9, c9, rfl, ⟨HO9.out.rd.mono fun b hb => ⟨Nat.le_trans HB8.out.size hb.1, hb.2.1, hb.2.2.1, fun _ => hb.2.2.2 hb.1⟩, HO9.out.le, HO9.out.cm, HO9.out.nil⟩, stp HB8.out HB9.out⟩
end Hx
end Go.Proofs.YteobcohjikjalaaGreatDoor
set_option linter.unusedSimpArgs false
namespace Go.Proofs.YteobcohjikjalaaGreatDoor
open Go.RowKit
namespace Hx
open Lx Tr Tx Nmb Es Ns
set_option linter.unusedVariables false
theorem ba_inj {x y : ByteArray} (h : x.data.toList = y.data.toList) : x = y := ByteArray.ext (Array.ext' h)
theorem getD_at (S : List ByteArray) (j : Nat) (h : j < S.length) : S.getD j ByteArray.empty = S[j] := by
  rw [List.getD_eq_getElem?_getD, List.getElem?_eq_getElem h]
  rfl
theorem idx11 (A : Option Addr) (n c base : Nat) (S : List ByteArray) (w : World) (h : w.ownsRow base 9 1 (.slice A n c) n (S.map Value.string)) (hn : S.length = n) (hb : n ≤ 1000000) (x : ByteArray) (k : Nat) (hm : x.data.toList ∈ S.map (·.data.toList)) (hk : (S.map (·.data.toList)).idxOf x.data.toList = k) :
    Calls Tryz.prog 51 #[.slice A n c, .string x] w fun e w' => e = .returned (.int .i64 (k : Int)) ∧ Below w.heap.size w w' := by
  have hlt : k < S.length := by
    have := List.idxOf_lt_length_of_mem hm
    rw [hk, List.length_map] at this
    exact this
  have hkn : k < n := by rw [← hn]; exact hlt
  obtain ⟨g, off, rfl, _⟩ := nu_at h hn hkn
  have hc : ∀ j, j < S.length → w.cell? ⟨g, off + j, none⟩ = some (.string (S.getD j ByteArray.empty)) := fun j hj => by
    obtain ⟨g2, off2, e, h2⟩ := nu_at h hn (k := j) (by omega)
    injection e with e
    injection e with e1 e2
    subst e1 e2
    rw [h2, getD_at S j hj]
  have hi : Lib.idxOfS (S.take n) x = (k : Int) := by
    refine Lib.idxOfS_hit S n k x hkn (by omega) ?_ fun j hj => ?_
    · rw [getD_at S k hlt]
      apply ba_inj
      have := List.getElem_idxOf (x := x.data.toList) (xs := S.map (·.data.toList)) (by rw [hk, List.length_map]; exact hlt)
      simp only [hk, List.getElem_map] at this
      exact this
    · rw [getD_at S j (by omega)]
      intro e
      have hj2 : j < (S.map (·.data.toList)).findIdx (· == x.data.toList) := by
        have : (S.map (·.data.toList)).findIdx (· == x.data.toList) = k := hk
        rw [this]
        exact hj
      have := List.not_of_lt_findIdx hj2
      rw [List.getElem_map, e] at this
      simp at this
  refine (Tryz.slices_Index_string g off n c S x w (by omega) (by omega) hc).mono fun e w' h3 => ?_
  obtain ⟨h3, rfl⟩ := h3
  exact ⟨by rw [h3, hi], Below.refl _ _⟩
theorem numD_snoc : ∀ (i : Nat) (S : List (List UInt8)) (s : List UInt8), numD i (S ++ [s]) = numD i S ++ [⟨[], xmlns5 ++ 58 :: prefN (i + S.length), s⟩]
  | i, [], s => rfl
  | i, t :: S, s => by
    rw [List.cons_append, numD, numD, numD_snoc (i + 1) S s, List.length_cons, show i + 1 + S.length = i + (S.length + 1) by omega]
    rfl
theorem spacesL_len : ∀ (l : List At) (acc : List (List UInt8)), (spacesL acc l).length ≤ acc.length + l.length
  | [], acc => Nat.le_refl _
  | a :: l, acc => by
    rw [spacesL, List.length_cons]
    split
    · have := spacesL_len l acc
      omega
    · have := spacesL_len l (acc ++ [a.space])
      rw [List.length_append] at this
      simp at this
      omega
structure BaSt (base bS : Nat) (w : World) (L : List AB) (V : Value) (S : List ByteArray) (VS : Value) (wr : World) : Prop where
  own : wr.ownsRow base 41 3 V L.length (L.flatMap abCells)
  sp : wr.ownsRow bS 9 1 VS S.length (S.map Value.string)
  ne : ∀ g, V.ownBlock = some g → VS.ownBlock ≠ some g
  sz : base ≤ wr.heap.size
  below : Below base w wr
theorem BaSt.on {base bS : Nat} {w : World} {L : List AB} {V : Value} {S : List ByteArray} {VS : Value} {wr w' : World} (h : BaSt base bS w L V S VS wr) (hb : Below wr.heap.size wr w') : BaSt base bS w L V S VS w' :=
  ⟨own_belowK h.own hb (Nat.le_refl _), own_belowK h.sp hb (Nat.le_refl _), h.ne, Nat.le_trans h.sz hb.size, h.below.trans (hb.mono h.sz)⟩
theorem BaSt.snoc {base bS : Nat} {w : World} {L : List AB} {V : Value} {S : List ByteArray} {VS : Value} {wr w4 w5 : World} {V5 : Value} (h : BaSt base bS w L V S VS wr) (h4 : Below wr.heap.size wr w4) (b : AB)
    (hown : w5.ownsRow base 41 3 V5 (L.length + 1) (L.flatMap abCells ++ abCells b)) (hgr : w4.grownBy w5 V.ownBlock) (hat : V5.ownBlock = V.ownBlock ∨ V5.ownBlock = some w4.heap.size) : BaSt base bS w (L ++ [b]) V5 S VS w5 := by
  have h' := h.on h4
  refine ⟨?_, ?_, fun g hg => ?_, Nat.le_trans h'.sz hgr.size, h'.below.grown hgr h'.sz fun g hg => (h'.own.lt g hg).1⟩
  · rw [List.length_append, List.flatMap_append, List.flatMap_cons, List.flatMap_nil, List.append_nil]
    exact hown
  · refine h'.sp.kept hgr ?_
    cases hv : VS.ownBlock with
    | none => exact .inl rfl
    | some g => exact .inr fun e => h'.ne g e.symm hv
  · rcases hat with e | e
    · exact h'.ne g (e.symm.trans hg)
    · intro hs
      rw [e] at hg
      injection hg with hg
      have := (h'.sp.lt g hs).2
      omega
theorem BaSt.len {base bS : Nat} {w : World} {L : List AB} {V : Value} {S : List ByteArray} {VS : Value} {wr : World} (h : BaSt base bS w L V S VS wr) : ∃ A c, V = .slice A L.length c := by
  rcases h.own.2 with ⟨rfl, h0⟩ | ⟨g, cap, cur, rfl, _⟩
  · exact ⟨none, 0, by rw [h0]⟩
  · exact ⟨_, cap, rfl⟩
end Hx
end Go.Proofs.YteobcohjikjalaaGreatDoor
