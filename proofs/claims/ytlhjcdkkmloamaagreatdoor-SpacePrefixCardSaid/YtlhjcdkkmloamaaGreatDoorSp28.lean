/-
  Texts of one seat, put together: SpaV, PkA, PkB, PkC.
-/
import Derived.Test.YtlhjcdkkmloamaaGreatDoorSp26
import Derived.Test.YtlhjcdkkmloamaaGreatDoorSp27
import Derived.Test.YtlhjcdkkmloamaaGreatDoorSp09
import Derived.Test.YtlhjcdkkmloamaaGreatDoorSp02
import Derived.Test.YtlhjcdkkmloamaaGreatDoorSp04
import Derived.Test.YtlhjcdkkmloamaaGreatDoorSp05
import Derived.Test.YtlhjcdkkmloamaaGreatDoorSp15
import Derived.Deep.AppendLies
import Derived.Test.YtlhjcdkkmloamaaGreatDoorSp18
import Derived.Shelf.Strings.SlTrimAscii
import Derived.Deep.QuietTactic
set_option linter.unusedSimpArgs false
namespace Go.Proofs.YtlhjcdkkmloamaaGreatDoor
open Go.RowKit
namespace Hx
open Lx Tr Tx Nmb Es Ns
set_option maxRecDepth 100000
set_option maxHeartbeats 16000000
set_option linter.unusedVariables false
theorem numD_small : ∀ (S : List (List UInt8)) (i k : Nat), i + S.length ≤ 500000 → (∀ s ∈ S, s.length ≤ k) → ∀ a ∈ numD i S, a.space.length ≤ k + 16 ∧ a.name.length ≤ k + 16 ∧ a.value.length ≤ k + 16
  | [], i, k, _, _, a, ha => by cases ha
  | s :: S, i, k, hi, hS, a, ha => by
    rw [List.length_cons] at hi
    rw [numD] at ha
    rcases List.mem_cons.1 ha with rfl | ha
    · have h1 := hS s List.mem_cons_self
      have h2 := prefN_len i (by omega)
      refine ⟨Nat.zero_le _, ?_, by show s.length ≤ k + 16; omega⟩
      show (xmlns5 ++ 58 :: prefN i).length ≤ k + 16
      rw [List.length_append, List.length_cons]
      have : xmlns5.length = 5 := rfl
      omega
    · exact numD_small S (i + 1) k (by omega) (fun s hs => hS s (List.mem_cons_of_mem _ hs)) a ha
theorem bareA_small {S : List (List UInt8)} {k : Nat} {a : At} (hS : S.length ≤ 500000) (h : a.space.length ≤ k ∧ a.name.length ≤ k ∧ a.value.length ≤ k) : (bareA S a).space.length ≤ k + 16 ∧ (bareA S a).name.length ≤ k + 16 ∧ (bareA S a).value.length ≤ k + 16 := by
  obtain ⟨h1, h2, h3⟩ := h
  have h4 := prefN_len (S.idxOf a.space) (by have := List.idxOf_le_length (a := a.space) (l := S); omega)
  have h5 : xml3.length = 3 := rfl
  unfold bareA
  split
  · exact ⟨Nat.zero_le _, by show a.name.length ≤ _; omega, by show a.value.length ≤ _; omega⟩
  · split
    · refine ⟨Nat.zero_le _, ?_, by show a.value.length ≤ _; omega⟩
      show (xml3 ++ 58 :: a.name).length ≤ _
      rw [List.length_append, List.length_cons]
      omega
    · refine ⟨Nat.zero_le _, ?_, by show a.value.length ≤ _; omega⟩
      show (prefN (S.idxOf a.space) ++ 58 :: a.name).length ≤ _
      rw [List.length_append, List.length_cons]
      omega
theorem bareN_small {k : Nat} (hk : k ≤ 900000) (o : List UInt8) {n : Nd} (h : SmallU k n) : SmallN (bareN o n) := by
  have hl := spacesL_len n.attrs []
  rw [List.length_nil] at hl
  have ha := h.attrs
  refine ⟨Nat.zero_le _, Nat.le_trans h.name (by omega), Nat.zero_le _, ?_, fun a hm => ?_⟩
  · show (bareL o n).length ≤ _
    unfold bareL
    rw [List.length_append, List.length_append, numD_len, List.length_map]
    have := ownD_len o n
    omega
  · have hm : a ∈ bareL o n := hm
    unfold bareL at hm
    rcases List.mem_append.1 hm with hm | hm
    · unfold ownD at hm
      split at hm
      · cases hm
      · obtain rfl := List.mem_singleton.1 hm
        exact ⟨Nat.zero_le _, by show xmlns5.length ≤ 1000000; decide, Nat.le_trans h.space (by omega)⟩
    · rcases List.mem_append.1 hm with hm | hm
      · obtain ⟨h1, h2, h3⟩ := numD_small (spacesL [] n.attrs) 0 k (by omega) (fun s hs => by
          rcases (spacesL_mem n.attrs []).2.2 s hs with h0 | ⟨b, hb, rfl, _⟩
          · cases h0
          · exact (h.each b hb).1) a hm
        exact ⟨by omega, by omega, by omega⟩
      · obtain ⟨b, hb, rfl⟩ := List.mem_map.1 hm
        obtain ⟨h1, h2, h3⟩ := bareA_small (S := spacesL [] n.attrs) (by omega) (h.each b hb)
        exact ⟨by omega, by omega, by omega⟩
theorem bare_small {k : Nat} (hk : k ≤ 900000) {v : List Nd} (o : List UInt8) (h : ∀ n ∈ v, SmallU k n) : ∀ m ∈ (bareW v o).1.1, SmallN m :=
  (walkD_prop (P := fun _ => True) (Q := SmallU k) (W := SmallN) (fun o n _ hn => ⟨bareN_small hk o hn, trivial⟩) (fun n hn => hn.to (by omega)) 12 o v trivial h).1
theorem bareR_small {k : Nat} (hk : k ≤ 900000) {v l : List Nd} {o : List UInt8} {z : Int} (h : ∀ n ∈ v, SmallU k n) (hq : bareR v o = (l, z)) : ∀ m ∈ l, SmallN m := by
  unfold bareR at hq
  split at hq
  · split at hq
    · injection hq with hq _
      rw [← hq]
      exact bare_small hk o h
    · injection hq with hq _
      rw [← hq]
      exact fun m hm => by cases hm
  · injection hq with hq _
    rw [← hq]
    exact fun m hm => by cases hm
theorem bareR_no {v l : List Nd} {o : List UInt8} {z : Int} (hq : bareR v o = (l, z)) (h : ¬ (mayS v = true ∧ okT o = true ∧ o ≠ ofXml ∧ o ≠ ofXmlns)) : l = [] ∧ z = 8 := by
  unfold bareR at hq
  rw [if_neg h] at hq
  injection hq with h1 h2
  exact ⟨h1.symm, h2.symm⟩
theorem bare_to (A : Option Addr) (n c : Nat) (v : List Nd) (o : ByteArray) (w : World) (hr : RdB NdS w A v) (hn : v.length = n) (hmax : n ≤ 9223372036854775807) (hsm : n ≤ 512 → ∀ m ∈ v, SmallU 900000 m) (hos : o.size ≤ 1000000) (hT : TbH w) (l : List Nd) (z : Int) (hq : bareR v o.data.toList = (l, z)) :
    Calls Tryz.prog 25 #[.slice A n c, .string o] w (NodesTo l z w) := by
  have hmf : ∀ (fn : Fn) (first cap : Array Value) (w : World), (Instr.makeFunc fn first cap).run Tryz.prog w = .ok (.func fn first cap) w := fun _ _ _ _ => rfl
  have HB0 : Hid (Below w.heap.size w (w.alloc (.cells #[.slice A n c] 24))) := Lib.hid (stpA (Below.refl _ _) _)
  have HBX : Hid (∀ w1, Below (w.alloc (.cells #[.slice A n c] 24)).heap.size (w.alloc (.cells #[.slice A n c] 24)) w1 → w1.heap[w.heap.size]? = some (.cells #[.slice A n c] 24 (0, 0))) := Lib.hid fun w1 hb => kept_heap (heap_alloc_new w _) hb
  have hsm9 : n ≤ 512 → ∀ m ∈ v, SmallN m := fun h m hm => (hsm h m hm).to (by decide)
  have HC : Hid (∀ W, Below w.heap.size w W → Calls Tryz.prog 41 #[.slice A n c] W fun e w' => e = .returned (.int .i64 (checkS v)) ∧ Below W.heap.size W w') := Lib.hid fun W hW => check11 A n c v W (hr.on hW) hn hmax hsm9 _ rfl
  cases hm : mayS v with
  | false =>
    have hc : checkS v = 8 := by unfold checkS; rw [hm]; rfl
    rw [hc] at HC
    obtain ⟨rfl, rfl⟩ := bareR_no hq (fun h => by rw [hm] at h; cases h.1)
    clear hr hn hmax hsm hsm9 hq hos hm hT hc
    go_enter Tryz.func25, Tryz.ntmps25
    go_wp2_with (first
      | (go_at_call 41; (with_reducible refine (HC.out _ HB0.out).mono ?_); rintro e1 w1 ⟨rfl, hb1⟩; have HB1 := Lib.hid hb1; have kv1 := cell_of_one (HBX.out w1 hb1); clear hb1)
      | fail)
    go_ret2
    exact NodesTo.no rfl (stp HB0.out HB1.out)
  | true =>
    have hc : checkS v = 0 := by unfold checkS; rw [hm]; rfl
    rw [hc] at HC
    have hmv := (mayS_iff.1 hm).2
    have h5 := (mayV_iff.1 hmv).1
    have hrest := (mayV_iff.1 hmv).2.2
    have hs := hsm (by omega)
    have hs9 := hsm9 (by omega)
    obtain ⟨er, her⟩ : ∃ er, chkE o = er := ⟨_, rfl⟩
    have HCT : Hid (∀ W : World, Calls Tryz.prog 42 #[.string o] W fun e w' => e = .returned (.int .i64 er) ∧ Below W.heap.size W w') := Lib.hid fun W => check5 o W hos er her
    obtain ⟨a2, h2⟩ : ∃ a, decide (o.data.toList = ofXml) = a := ⟨_, rfl⟩
    obtain ⟨a3, h3⟩ : ∃ a, decide (o.data.toList = ofXmlns) = a := ⟨_, rfl⟩
    have f2 := eq_lit o ofXml a2 h2
    have f3 := eq_lit o ofXmlns a3 h3
    unfold ofXml at f2
    unfold ofXmlns at f3
    cases hok : okT o.data.toList with
    | false =>
      have h0 : ¬ er = 0 := by rw [← her]; exact chk9_bad hok
      obtain ⟨rfl, rfl⟩ := bareR_no hq (fun h => by rw [hok] at h; cases h.2.1)
      clear hr hn hmax hsm hsm9 hq hos hm hT hc hmv h5 hrest hs hs9 h2 h3 her hok
      go_enter Tryz.func25, Tryz.ntmps25
      go_wp2_with (first
        | (go_at_call 41; (with_reducible refine (HC.out _ HB0.out).mono ?_); rintro e1 w1 ⟨rfl, hb1⟩; have HB1 := Lib.hid hb1; have kv1 := cell_of_one (HBX.out w1 hb1); clear hb1)
        | (go_at_call 42; (with_reducible refine (HCT.out w1).mono ?_); rintro e2 w2 ⟨rfl, hb2⟩; have HB2 := Lib.hid hb2; clear hb2)
        | fail)
      go_ret2
      exact NodesTo.no rfl (stp (stp HB0.out HB1.out) HB2.out)
    | true =>
      obtain rfl : er = 0 := by rw [← her]; exact chk9_ok hok
      cases a2 with
      | true =>
        obtain ⟨rfl, rfl⟩ := bareR_no hq (fun h => h.2.2.1 (of_decide_eq_true h2))
        clear hr hn hmax hsm hsm9 hq hos hm hT hc hmv h5 hrest hs hs9 h2 h3 her hok
        go_enter Tryz.func25, Tryz.ntmps25
        go_wp2_with (first
          | (go_at_call 41; (with_reducible refine (HC.out _ HB0.out).mono ?_); rintro e1 w1 ⟨rfl, hb1⟩; have HB1 := Lib.hid hb1; have kv1 := cell_of_one (HBX.out w1 hb1); clear hb1)
          | (go_at_call 42; (with_reducible refine (HCT.out w1).mono ?_); rintro e2 w2 ⟨rfl, hb2⟩; have HB2 := Lib.hid hb2; clear hb2)
          | fail)
        go_ret2
        exact NodesTo.no rfl (stp (stp HB0.out HB1.out) HB2.out)
      | false =>
        cases a3 with
        | true =>
          obtain ⟨rfl, rfl⟩ := bareR_no hq (fun h => h.2.2.2 (of_decide_eq_true h3))
          clear hr hn hmax hsm hsm9 hq hos hm hT hc hmv h5 hrest hs hs9 h2 h3 her hok
          go_enter Tryz.func25, Tryz.ntmps25
          go_wp2_with (first
            | (go_at_call 41; (with_reducible refine (HC.out _ HB0.out).mono ?_); rintro e1 w1 ⟨rfl, hb1⟩; have HB1 := Lib.hid hb1; have kv1 := cell_of_one (HBX.out w1 hb1); clear hb1)
            | (go_at_call 42; (with_reducible refine (HCT.out w1).mono ?_); rintro e2 w2 ⟨rfl, hb2⟩; have HB2 := Lib.hid hb2; clear hb2)
            | fail)
          go_ret2
          exact NodesTo.no rfl (stp (stp HB0.out HB1.out) HB2.out)
        | false =>
          have hp0 : 0 < v.length := by
            obtain ⟨_, ⟨m, l, rfl, _⟩, _⟩ := mayV_iff.1 hmv
            simp
          obtain ⟨WW, hWW⟩ : ∃ WW, bareW v o.data.toList = WW := ⟨_, rfl⟩
          have hlz : (l, z) = if WW.1.2 = true then (WW.1.1, 0) else ([], 4) := by
            rw [← hq]
            unfold bareR
            rw [if_pos ⟨hm, hok, of_decide_eq_false h2, of_decide_eq_false h3⟩, hWW]
          have hlen : WW.1.2 = true → WW.1.1.length ≤ 512 := fun _ => by
            have := (walkD_rest (f := bareF) (dn := bareDn) 12 v [] o.data.toList hrest).2
            rw [show walkD bareF bareDn 12 o.data.toList v = bareW v o.data.toList from rfl, hWW] at this
            simp at this
            omega
          have hsmall : ∀ m ∈ WW.1.1, SmallN m := fun m hm => by
            rw [← hWW] at hm
            exact bare_small (by decide) o.data.toList hs m hm
          obtain ⟨qq, hqq⟩ : ∃ qq, WW.1.2 = qq := ⟨_, rfl⟩
          have HCALL : Hid (∀ (w2 : World), Below w.heap.size w w2 → w2.heap[w.heap.size]? = some (.cells #[.slice A n c] 24 (0, 0)) →
              Calls Tryz.prog 43 #[.string o, .pointer (some ⟨w.heap.size, 0, none⟩), .pointer (some ⟨w2.heap.size, 0, none⟩), .pointer (some ⟨w2.heap.size + 1, 0, none⟩)] ((w2.alloc (.cells #[.slice none 0 0] 24)).alloc (.cells #[.func (.func 43) #[] #[.pointer (some ⟨w.heap.size, 0, none⟩), .pointer (some ⟨w2.heap.size, 0, none⟩), .pointer (some ⟨w2.heap.size + 1, 0, none⟩)]] 23)) fun e w' => ∃ (A' : Option Addr) (k' c' : Nat), e = .returned (.bool qq) ∧ Below w.heap.size w w' ∧ w'.heap[w2.heap.size]? = some (.cells #[.slice A' k' c'] 24 (0, 0)) ∧ (WW.1.2 = true → RdB NdS w' A' WW.1.1 ∧ WW.1.1.length = k')) := Lib.hid fun w2 hb hv => by
            have hst := rw_made (clo := barClo w.heap.size w2.heap.size (w2.heap.size + 1)) (tc := 23) (c := c) hr hb (by rw [hn]; exact hv)
            have hbw := hb.trans ((stpA (stpA (Below.refl w2.heap.size w2) (.cells #[.slice none 0 0] 24)) (.cells #[barClo w.heap.size w2.heap.size (w2.heap.size + 1)] 23)).mono hb.size)
            refine (bar_all _ _ _ _ _ A c v h5 hs9 (may_ndOk hmv) 12 o [] (.slice none 0 0) [] _ (fun W hW => hT.to (hbw.trans hW)) hp0 hrest hst).mono ?_
            rintro e w' ⟨M, V', rfl, hf, hs2, hM⟩
            rw [List.nil_append] at hs2
            rw [List.length_nil, List.drop_zero, show walkD bareF bareDn 12 o.data.toList v = bareW v o.data.toList from rfl, hWW] at hM ⊢
            obtain ⟨A1, c1, rfl, hrd⟩ := hs2.read
            refine ⟨A1, M.length, c1, by rw [hqq], hbw.trans hf.bel, hs2.hl, fun hh => ?_⟩
            rw [hM hh] at hrd
            exact ⟨hrd, by rw [← hM hh, List.length_map]⟩
          have HLZ := Lib.hid hlz
          have HQQ := Lib.hid hqq
          have HSM := Lib.hid hsmall
          have HLEN := Lib.hid hlen
          clear hr hn hmax hsm hsm9 hq hos hm hT hc hmv h5 hrest hs hs9 h2 h3 her hok hp0 hWW hlz hlen hsmall hqq
          go_enter Tryz.func25, Tryz.ntmps25
          cases qq with
          | false =>
            have hlz : l = [] ∧ z = 4 := by
              have := HLZ.out
              rw [HQQ.out] at this
              injection this with h1 h2
              exact ⟨h1, h2⟩
            obtain ⟨rfl, rfl⟩ := hlz
            go_wp2_with (first
              | (go_at_call 41; (with_reducible refine (HC.out _ HB0.out).mono ?_); rintro e1 w1 ⟨rfl, hb1⟩; have HB1 := Lib.hid hb1; have kv1 := cell_of_one (HBX.out w1 hb1); clear hb1)
              | (go_at_call 42; (with_reducible refine (HCT.out w1).mono ?_); rintro e2 w2 ⟨rfl, hb2⟩; have HB2 := Lib.hid hb2; clear hb2)
              | (go_at_call 43; (with_reducible refine (HCALL.out w2 (stp (stp HB0.out HB1.out) HB2.out) (HBX.out w2 (stp HB1.out HB2.out))).mono ?_); rintro e8 w8 ⟨A8, k8, c8, rfl, hb8, hl8, hm8⟩; have HB8 := Lib.hid hb8; clear hb8 hl8 hm8)
              | fail)
            go_ret2
            exact NodesTo.no rfl HB8.out
          | true =>
            have hlz : l = WW.1.1 ∧ z = 0 := by
              have := HLZ.out
              rw [HQQ.out] at this
              injection this with h1 h2
              exact ⟨h1, h2⟩
            obtain ⟨rfl, rfl⟩ := hlz
            go_wp2_with (first
              | (go_at_call 41; (with_reducible refine (HC.out _ HB0.out).mono ?_); rintro e1 w1 ⟨rfl, hb1⟩; have HB1 := Lib.hid hb1; have kv1 := cell_of_one (HBX.out w1 hb1); clear hb1)
              | (go_at_call 42; (with_reducible refine (HCT.out w1).mono ?_); rintro e2 w2 ⟨rfl, hb2⟩; have HB2 := Lib.hid hb2; clear hb2)
              | (go_at_call 43; (with_reducible refine (HCALL.out w2 (stp (stp HB0.out HB1.out) HB2.out) (HBX.out w2 (stp HB1.out HB2.out))).mono ?_); rintro e8 w8 ⟨A8, k8, c8, rfl, hb8, hl8, hm8⟩; have HB8 := Lib.hid hb8; have kl8 := cell_of_one hl8; have HTW := Lib.hid (twin10 A8 k8 c8 WW.1.1 w8 (hm8 HQQ.out).1 (hm8 HQQ.out).2 (by have := HLEN.out HQQ.out; have := (hm8 HQQ.out).2; omega) HSM.out); clear hb8 hl8 hm8)
              | (go_at_call 19; (with_reducible refine (HTW.out).mono ?_); rintro e9 w9 ⟨A9, c9, rfl, ho9, hb9⟩; have HO9 := Lib.hid ho9; have HB9 := Lib.hid hb9; clear ho9 hb9)
              | fail)
            go_ret2
            exact ⟨A9, c9, rfl, ⟨HO9.out.rd.mono fun b hb => ⟨Nat.le_trans HB8.out.size hb.1, hb.2.1, hb.2.2.1, fun _ => hb.2.2.2 hb.1⟩, HO9.out.le, HO9.out.cm, HO9.out.nil⟩, stp HB8.out HB9.out⟩
end Hx
end Go.Proofs.YtlhjcdkkmloamaaGreatDoor
namespace Go.Proofs.YtlhjcdkkmloamaaGreatDoor
open Go.RowKit
namespace Hx
open Lx Tr Tx Nmb Es
set_option linter.unusedVariables false
theorem cell_blkP {w w' : World} {b o : Nat} (h : w'.heap[b]? = w.heap[b]?) : w'.cell? ⟨b, o, none⟩ = w.cell? ⟨b, o, none⟩ := by simp [World.cell?, h]
theorem ownp_set {w : World} {base : Nat} {e : TypeId} {size n c g j : Nat} {xs : List Value} (h : w.ownsRow base e size (.slice (some ⟨g, 0, none⟩) n c) n xs) (u : Value) (hj : j < n * size) :
    (w.setCell ⟨g, j, none⟩ u).ownsRow base e size (.slice (some ⟨g, 0, none⟩) n c) n (xs.set j u) := by
  refine ⟨by rw [List.length_set]; exact h.1, .inr ?_⟩
  rcases h.2 with ⟨e0, _⟩ | ⟨g', cap, cur, hv, hb, hg, h1, h2, h3, h4⟩
  · cases e0
  · injection hv with e1 _ e3
    injection e1 with e1
    injection e1 with e1 _ _
    subst e1 e3
    refine ⟨g, c, cur.setIfInBounds j u, rfl, hb, heap_setCell_same w g j cur e u hg, h1, h2, by rw [Array.size_setIfInBounds]; exact h3, ?_⟩
    rw [Array.toList_setIfInBounds, ← h4, List.take_set]
theorem ownp_cut {w : World} {base : Nat} {e : TypeId} {size n c m : Nat} {A : Option Addr} {xs : List Value} (h : w.ownsRow base e size (.slice A n c) n xs) (hm : m ≤ n) : w.ownsRow base e size (.slice A m c) m (xs.take (m * size)) := by
  have hms : m * size ≤ n * size := Nat.mul_le_mul_right _ hm
  refine ⟨by rw [List.length_take, h.1]; omega, ?_⟩
  rcases h.2 with ⟨e0, h0⟩ | ⟨g, cap, cur, hv, hb, hg, h1, h2, h3, h4⟩
  · injection e0 with e1 e2 e3
    subst e1 e2 e3
    obtain rfl : m = 0 := by omega
    exact .inl ⟨rfl, rfl⟩
  · injection hv with e1 _ e3
    subst e1 e3
    refine .inr ⟨g, c, cur, rfl, hb, hg, by omega, h2, h3, ?_⟩
    rw [← h4, List.take_take]
    congr 1
    omega
structure GrSt (base hi : Nat) (L : List NB) (O : List Nat) (Vn Vo : Value) (wr : World) : Prop where
  nd : wr.ownsRow base 32 6 Vn L.length (L.flatMap nbCells)
  op : wr.ownsRow base 3 1 Vo O.length ((zs O).map encZ)
  ne : ∀ q, Vn.ownBlock = some q → Vo.ownBlock ≠ some q
  inn : ∀ b ∈ L, NdIn b.n b.x b.y b.z b.A b.c wr (fun k => base ≤ k ∧ k < hi ∧ some k ≠ Vn.ownBlock ∧ some k ≠ Vo.ownBlock)
  lo : base ≤ hi
  sz : hi ≤ wr.heap.size
theorem ownp_keep {w w' : World} {base : Nat} {e : TypeId} {size : Nat} {v : Value} {n : Nat} {xs : List Value} (h : w.ownsRow base e size v n xs) (hk : ∀ q, v.ownBlock = some q → w'.heap[q]? = w.heap[q]?) : w'.ownsRow base e size v n xs := by
  refine ⟨h.1, ?_⟩
  rcases h.2 with h0 | ⟨g, cap, cur, hv, hb, hg, h1⟩
  · exact .inl h0
  · exact .inr ⟨g, cap, cur, hv, hb, (hk g (by rw [hv]; rfl)).trans hg, h1⟩
theorem GrSt.keep {base hi hi' : Nat} {L : List NB} {O : List Nat} {Vn Vo : Value} {wr w' : World} (h : GrSt base hi L O Vn Vo wr) (hk : ∀ q, base ≤ q → (q < hi ∨ Vn.ownBlock = some q ∨ Vo.ownBlock = some q) → w'.heap[q]? = wr.heap[q]?) (h1 : hi ≤ hi') (h2 : hi' ≤ w'.heap.size) : GrSt base hi' L O Vn Vo w' :=
  ⟨ownp_keep h.nd fun q hq => hk q (h.nd.lt q hq).1 (.inr (.inl hq)), ownp_keep h.op fun q hq => hk q (h.op.lt q hq).1 (.inr (.inr hq)), h.ne,
   fun b hb => (h.inn b hb).keep (fun k hk => ⟨hk.1, Nat.lt_of_lt_of_le hk.2.1 h1, hk.2.2⟩) fun b o hS => cell_blkP (hk b hS.1 (.inl hS.2.1)), Nat.le_trans h.lo h1, h2⟩
theorem GrSt.below {base hi hi' : Nat} {L : List NB} {O : List Nat} {Vn Vo : Value} {wr w' : World} (h : GrSt base hi L O Vn Vo wr) (hb : Below wr.heap.size wr w') (h1 : hi ≤ hi') (h2 : hi' ≤ w'.heap.size) : GrSt base hi' L O Vn Vo w' :=
  h.keep (fun q _ hq => hb.block q (by
    rcases hq with hq | hq | hq
    · exact Nat.lt_of_lt_of_le hq h.sz
    · exact (h.nd.lt q hq).2
    · exact (h.op.lt q hq).2)) h1 h2
theorem GrSt.push {base hi : Nat} {L : List NB} {O : List Nat} {Vn Vo V5 : Value} {w2 w5 : World} (h : GrSt base hi L O Vn Vo w2) (b : NB) (hb : NdIn b.n b.x b.y b.z b.A b.c w2 (fun k => base ≤ k ∧ k < hi ∧ some k ≠ Vn.ownBlock ∧ some k ≠ Vo.ownBlock))
    (hown : w5.ownsRow base 32 6 V5 (L.length + 1) (L.flatMap nbCells ++ nbCells b)) (hgr : w2.grownBy w5 Vn.ownBlock) (hlie : V5.ownBlock = Vn.ownBlock ∨ ∃ q, hi ≤ q ∧ V5.ownBlock = some q ∧ Vo.ownBlock ≠ some q) : GrSt base hi (L ++ [b]) O V5 Vo w5 := by
  have hne : ∀ q, V5.ownBlock = some q → Vo.ownBlock ≠ some q := fun q hq => by
    rcases hlie with e | ⟨q', _, e, e2⟩
    · exact h.ne q (by rw [← e]; exact hq)
    · rw [e] at hq
      injection hq with hq
      rw [← hq]
      exact e2
  have hS : ∀ k, (base ≤ k ∧ k < hi ∧ some k ≠ Vn.ownBlock ∧ some k ≠ Vo.ownBlock) → (base ≤ k ∧ k < hi ∧ some k ≠ V5.ownBlock ∧ some k ≠ Vo.ownBlock) := fun k hk => ⟨hk.1, hk.2.1, fun e => by
    rcases hlie with e1 | ⟨q', h1, e1, _⟩
    · exact hk.2.2.1 (by rw [← e1]; exact e)
    · rw [e1] at e
      injection e with e
      have := hk.2.1
      omega, hk.2.2.2⟩
  have hc : ∀ k o, (base ≤ k ∧ k < hi ∧ some k ≠ Vn.ownBlock ∧ some k ≠ Vo.ownBlock) → w5.cell? ⟨k, o, none⟩ = w2.cell? ⟨k, o, none⟩ := fun k o hk => cell_blkP (hgr.block k (Nat.lt_of_lt_of_le hk.2.1 h.sz) hk.2.2.1)
  refine ⟨by rw [List.length_append, List.flatMap_append]; simpa using hown, ownp_keep h.op fun q hq => hgr.block q (h.op.lt q hq).2 (fun e => h.ne q e.symm hq), hne, fun b' hb' => ?_, h.lo, Nat.le_trans h.sz hgr.size⟩
  rcases List.mem_append.1 hb' with hb' | hb'
  · exact (h.inn b' hb').keep hS hc
  · obtain rfl := List.mem_singleton.1 hb'
    exact hb.keep hS hc
theorem GrSt.open {base hi : Nat} {L : List NB} {O : List Nat} {Vn Vo V5 : Value} {w2 w5 : World} (h : GrSt base hi L O Vn Vo w2) (i : Nat)
    (hown : w5.ownsRow base 3 1 V5 (O.length + 1) ((zs O).map encZ ++ [.int .i64 i])) (hgr : w2.grownBy w5 Vo.ownBlock) (hlie : V5.ownBlock = Vo.ownBlock ∨ ∃ q, hi ≤ q ∧ V5.ownBlock = some q ∧ Vn.ownBlock ≠ some q) : GrSt base hi L (O ++ [i]) Vn V5 w5 := by
  have hne : ∀ q, Vn.ownBlock = some q → V5.ownBlock ≠ some q := fun q hq => by
    rcases hlie with e | ⟨q', _, e, e2⟩
    · rw [e]; exact h.ne q hq
    · rw [e]
      intro e3
      injection e3 with e3
      rw [e3] at e2
      exact e2 hq
  have hS : ∀ k, (base ≤ k ∧ k < hi ∧ some k ≠ Vn.ownBlock ∧ some k ≠ Vo.ownBlock) → (base ≤ k ∧ k < hi ∧ some k ≠ Vn.ownBlock ∧ some k ≠ V5.ownBlock) := fun k hk => ⟨hk.1, hk.2.1, hk.2.2.1, fun e => by
    rcases hlie with e1 | ⟨q', h1, e1, _⟩
    · exact hk.2.2.2 (by rw [← e1]; exact e)
    · rw [e1] at e
      injection e with e
      have := hk.2.1
      omega⟩
  have hc : ∀ k o, (base ≤ k ∧ k < hi ∧ some k ≠ Vn.ownBlock ∧ some k ≠ Vo.ownBlock) → w5.cell? ⟨k, o, none⟩ = w2.cell? ⟨k, o, none⟩ := fun k o hk => cell_blkP (hgr.block k (Nat.lt_of_lt_of_le hk.2.1 h.sz) hk.2.2.2)
  refine ⟨ownp_keep h.nd fun q hq => hgr.block q (h.nd.lt q hq).2 (fun e => h.ne q hq e.symm), ?_, hne, fun b' hb' => (h.inn b' hb').keep hS hc, h.lo, Nat.le_trans h.sz hgr.size⟩
  have e : (zs (O ++ [i])).map encZ = (zs O).map encZ ++ [.int .i64 i] := by simp [zs, encZ]
  rw [e, List.length_append]
  exact hown
theorem GrSt.shut {base hi : Nat} {L : List NB} {O : List Nat} {Vn : Value} {A : Option Addr} {n c m : Nat} {wr : World} (h : GrSt base hi L O Vn (.slice A n c) wr) (hn : O.length = n) (hm : m + 1 = n) : GrSt base hi L O.dropLast Vn (.slice A m c) wr := by
  subst hn
  have hl : O.dropLast.length = m := by rw [List.length_dropLast]; omega
  have ho : ∀ x y : Nat, (Value.slice A x c).ownBlock = (Value.slice A y c).ownBlock := fun _ _ => by cases A <;> rfl
  refine ⟨h.nd, ?_, fun q hq => by rw [ho m O.length]; exact h.ne q hq, fun b hb => (h.inn b hb).keep (fun k hk => ⟨hk.1, hk.2.1, hk.2.2.1, by rw [ho m O.length]; exact hk.2.2.2⟩) fun _ _ _ => rfl, h.lo, h.sz⟩
  have := ownp_cut h.op (m := m) (by omega)
  rw [hl]
  have e : ((zs O).map encZ).take (m * 1) = (zs O.dropLast).map encZ := by
    rw [← List.map_take, Nat.mul_one]
    congr 1
    unfold zs
    rw [← List.map_take, List.dropLast_eq_take]
    congr 2
    omega
  rw [e] at this
  exact this
def bumpB (b : NB) : NB := { b with n := bumpN b.n }
theorem flat_set6 : ∀ (L : List NB) (i : Nat) (hi : i < L.length) (u : Value), nbCells (bumpB (L[i]'hi)) = (nbCells (L[i]'hi)).set 5 u → (L.modify i bumpB).flatMap nbCells = (L.flatMap nbCells).set (i * 6 + 5) u
  | [], i, hi, _, _ => absurd hi (Nat.not_lt_zero _)
  | b :: L, 0, _, u, h => by
    have h : nbCells (bumpB b) = (nbCells b).set 5 u := h
    rw [List.modify_zero_cons, List.flatMap_cons, List.flatMap_cons, h]
    have hl : (nbCells b).length = 6 := rfl
    rw [List.set_append_left _ _ (by rw [hl]; decide)]
  | b :: L, i + 1, hi, u, h => by
    have h : nbCells (bumpB (L[i]'(by simpa using hi))) = (nbCells (L[i]'(by simpa using hi))).set 5 u := h
    rw [List.modify_succ_cons, List.flatMap_cons, List.flatMap_cons, flat_set6 L i (by simpa using hi) u h]
    have hl : (nbCells b).length = 6 := rfl
    rw [List.set_append_right _ _ (by rw [hl]; omega), hl]
    congr 2
    omega
theorem GrSt.bump {base hi : Nat} {L : List NB} {O : List Nat} {Vo : Value} {g c : Nat} {wr : World} (h : GrSt base hi L O (.slice (some ⟨g, 0, none⟩) L.length c) Vo wr) (i : Nat) (hi' : i < L.length) (hm : (L[i]'hi').n.many ≤ 1000000) :
    GrSt base hi (L.modify i bumpB) O (.slice (some ⟨g, 0, none⟩) L.length c) Vo (wr.setCell ⟨g, i * 6 + 5, none⟩ (.int .i64 ((L[i]'hi').n.many + 1))) := by
  have hl : (L.modify i bumpB).length = L.length := List.length_modify ..
  have hlt := h.nd.lt g rfl
  have hoth : ∀ q, q ≠ g → (wr.setCell ⟨g, i * 6 + 5, none⟩ (.int .i64 ((L[i]'hi').n.many + 1))).heap[q]? = wr.heap[q]? := fun q hq => heap_setCell_other _ _ _ _ hq
  refine ⟨?_, ownp_keep h.op fun q hq => hoth q (fun e => h.ne g rfl (by rw [← e]; exact hq)), h.ne, fun b hb => ?_, h.lo, by have := h.sz; simpa [World.setCell] using this⟩
  · rw [hl, flat_set6 L i hi' (.int .i64 ((L[i]'hi').n.many + 1)) rfl]
    exact ownp_set h.nd _ (by omega)
  · have hin : NdIn b.n b.x b.y b.z b.A b.c wr (fun k => base ≤ k ∧ k < hi ∧ some k ≠ (Value.slice (some ⟨g, 0, none⟩) L.length c).ownBlock ∧ some k ≠ Vo.ownBlock) := by
      obtain ⟨j, hj, e⟩ := List.getElem_of_mem hb
      rw [List.getElem_modify] at e
      have hj' : j < L.length := by rw [← hl]; exact hj
      have hold := h.inn _ (List.getElem_mem hj')
      by_cases hij : i = j
      · rw [if_pos hij] at e
        subst hij
        rw [← e]
        exact ⟨hold.space, hold.name, hold.text, hold.attrs, hold.le, hold.cm, hold.nil, hold.kd, by have := hold.lo; show _ ≤ _ + 1; omega, by show _ + 1 ≤ _; omega⟩
      · rw [if_neg hij] at e
        rw [← e]
        exact hold
    exact hin.keep (fun k hk => hk) fun k o hk => cell_blkP (hoth k (fun e => hk.2.2.1 (by rw [e]; rfl)))
theorem pk_map_bump (L : List NB) (i : Nat) : (L.modify i bumpB).map NB.n = (L.map NB.n).modify i bumpN := by
  induction L generalizing i with
  | nil => cases i <;> rfl
  | cons b L ih =>
    cases i with
    | zero => rfl
    | succ i => rw [List.modify_succ_cons, List.map_cons, ih, List.map_cons, List.modify_succ_cons]
end Hx
end Go.Proofs.YtlhjcdkkmloamaaGreatDoor
namespace Go.Proofs.YtlhjcdkkmloamaaGreatDoor
open Go.RowKit
namespace Hx
open Lx Tr Tx Nmb Es
set_option maxRecDepth 100000
set_option maxHeartbeats 16000000
set_option linter.unusedVariables false
structure StkSt (B gs base hi : Nat) (L : List NB) (O : List Nat) (bb : Bool) (Vn Vo : Value) (wr : World) : Prop where
  box : wr.heap[gs]? = some (.cells #[Vn, Vo, .bool bb] 90 (0, 0))
  gr : GrSt base hi L O Vn Vo wr
  lo : B ≤ gs ∧ gs < base
structure FrP (B gs : Nat) (Vn Vo : Value) (w : World) (Vn' Vo' : Value) (w' : World) : Prop where
  bel : Below B w w'
  blk : ∀ k, k < w.heap.size → k ≠ gs → some k ≠ Vn.ownBlock → some k ≠ Vo.ownBlock → w'.heap[k]? = w.heap[k]?
  lieN : ∀ k, k < w.heap.size → Vn'.ownBlock = some k → Vn.ownBlock = some k
  lieO : ∀ k, k < w.heap.size → Vo'.ownBlock = some k → Vo.ownBlock = some k
theorem FrP.below {B gs : Nat} {Vn Vo : Value} {w w' : World} (h : Below w.heap.size w w') (hB : B ≤ w.heap.size) : FrP B gs Vn Vo w Vn Vo w' := ⟨h.mono hB, fun k hk _ _ _ => h.block k hk, fun _ _ e => e, fun _ _ e => e⟩
theorem FrP.trans {B gs : Nat} {Vn Vo Vn1 Vo1 Vn2 Vo2 : Value} {w w1 w2 : World} (h : FrP B gs Vn Vo w Vn1 Vo1 w1) (k : FrP B gs Vn1 Vo1 w1 Vn2 Vo2 w2) : FrP B gs Vn Vo w Vn2 Vo2 w2 :=
  ⟨h.bel.trans k.bel, fun q h1 h2 h3 h4 => (k.blk q (Nat.lt_of_lt_of_le h1 h.bel.size) h2 (fun e => h3 (h.lieN q h1 e.symm).symm) (fun e => h4 (h.lieO q h1 e.symm).symm)).trans (h.blk q h1 h2 h3 h4),
    fun q h1 h2 => h.lieN q h1 (k.lieN q (Nat.lt_of_lt_of_le h1 h.bel.size) h2), fun q h1 h2 => h.lieO q h1 (k.lieO q (Nat.lt_of_lt_of_le h1 h.bel.size) h2)⟩
def bumpL (O : List Nat) (L : List NB) : List NB := match O.getLast? with
  | none => L
  | some i => L.modify i bumpB
theorem bumpL_map (O : List Nat) (L : List NB) : (bumpL O L).map NB.n = bump O (L.map NB.n) := by
  unfold bumpL bump
  cases O.getLast? with
  | none => rfl
  | some i => exact pk_map_bump L i
theorem bumpL_len (O : List Nat) (L : List NB) : (bumpL O L).length = L.length := by
  unfold bumpL
  cases O.getLast? with
  | none => rfl
  | some i => exact List.length_modify ..
theorem ownp_row {w : World} {base : Nat} {e : TypeId} {size n c : Nat} {A : Option Addr} {xs : List Value} (h : w.ownsRow base e size (.slice A n c) n xs) (hn : 0 < n) : ∃ g cur, A = some ⟨g, 0, none⟩ ∧ w.heap[g]? = some (.cells cur e (0, 0)) ∧ base ≤ g ∧ g < w.heap.size ∧ ∀ j u, xs[j]? = some u → w.cell? ⟨g, j, none⟩ = some u := by
  have h9 := h
  rcases h.2 with ⟨e0, h0⟩ | ⟨g, cap, cur, hv, hb, hg, _⟩
  · injection e0 with _ e0 _
    omega
  · injection hv with e1 e2 e3
    subst e1
    refine ⟨g, cur, rfl, hg, hb, (h9.lt g rfl).2, fun j u hu => ?_⟩
    have := h9.cells (g := g) rfl j u hu
    rw [addr_plain, Nat.zero_add] at this
    exact this
theorem nb_cell5 {L : List NB} {i : Nat} (hi : i < L.length) : (L.flatMap nbCells)[i * 6 + 5]? = some (.int .i64 (L[i]'hi).n.many) := by
  rw [flat_at nbCells 6 (fun _ => rfl) L i 5 hi (by decide)]
  rfl
theorem nb_cell2 {L : List NB} {i : Nat} (hi : i < L.length) : (L.flatMap nbCells)[i * 6 + 2]? = some (.string (L[i]'hi).y) := by
  rw [flat_at nbCells 6 (fun _ => rfl) L i 2 hi (by decide)]
  rfl
theorem zs_cell {O : List Nat} {i k : Nat} (h : O[k]? = some i) : ((zs O).map encZ)[k]? = some (.int .i64 (i : Int)) := by
  simp [zs, h, encZ]
theorem StkSt.bump {B gs base hi n c go gn : Nat} {L : List NB} {O : List Nat} {bb : Bool} {Vo : Value} {wr : World} (h : StkSt B gs base hi L O bb (.slice (some ⟨gn, 0, none⟩) n c) Vo wr) (hn : L.length = n) (i : Nat) (hi' : i < L.length) (hm : (L[i]'hi').n.many ≤ 1000000) :
    StkSt B gs base hi (L.modify i bumpB) O bb (.slice (some ⟨gn, 0, none⟩) n c) Vo (wr.setCell ⟨gn, i * 6 + 5, none⟩ (.int .i64 ((L[i]'hi').n.many + 1))) ∧ FrP B gs (.slice (some ⟨gn, 0, none⟩) n c) Vo wr (.slice (some ⟨gn, 0, none⟩) n c) Vo (wr.setCell ⟨gn, i * 6 + 5, none⟩ (.int .i64 ((L[i]'hi').n.many + 1))) := by
  subst hn
  have hg := h.gr.nd.lt gn rfl
  have hlo := h.lo
  have hoth : ∀ q, q ≠ gn → (wr.setCell ⟨gn, i * 6 + 5, none⟩ (.int .i64 ((L[i]'hi').n.many + 1))).heap[q]? = wr.heap[q]? := fun q hq => heap_setCell_other _ _ _ _ hq
  exact ⟨⟨(hoth gs (by omega)).trans h.box, h.gr.bump i hi' hm, h.lo⟩, (Below.refl B wr).setCell (p := ⟨gn, i * 6 + 5, none⟩) (by show B ≤ gn; omega) _, fun k _ _ hk _ => hoth k (fun e => hk (by rw [e]; rfl)), fun _ _ e => e, fun _ _ e => e⟩
theorem lt_heapP {w : World} {k : Nat} {o : Obj} (h : w.heap[k]? = some o) : k < w.heap.size := (Array.getElem?_eq_some_iff.1 h).1
theorem StkSt.below {B gs base hi hi' : Nat} {L : List NB} {O : List Nat} {bb : Bool} {Vn Vo : Value} {wr w' : World} (h : StkSt B gs base hi L O bb Vn Vo wr) (hb : Below wr.heap.size wr w') (h1 : hi ≤ hi') (h2 : hi' ≤ w'.heap.size) : StkSt B gs base hi' L O bb Vn Vo w' :=
  ⟨kept_heap h.box hb, h.gr.below hb h1 h2, h.lo⟩
theorem StkSt.pushN {B gs base hi n c : Nat} {L : List NB} {O : List Nat} {bb : Bool} {A : Option Addr} {Vo : Value} {W : World} {b : NB} {g8 c8 : Nat} {w8 : World} {ob : Obj} (h : StkSt B gs base hi L O bb (.slice A n c) Vo W) (hn : L.length = n)
    (hb : NdIn b.n b.x b.y b.z b.A b.c W (fun k => base ≤ k ∧ k < hi ∧ some k ≠ (Value.slice A n c).ownBlock ∧ some k ≠ Vo.ownBlock)) (hown8 : w8.ownsRow base 32 6 (.slice (some ⟨g8, 0, none⟩) (n + 1) c8) (n + 1) (L.flatMap nbCells ++ nbCells b))
    (hgr : (W.alloc ob).grownBy w8 (Value.slice A n c).ownBlock) (hor : (Value.slice A n c).ownBlock = some g8 ∨ g8 = W.heap.size + 1) :
    StkSt B gs base hi (L ++ [b]) O bb (.slice (some ⟨g8, 0, none⟩) (n + 1) c8) Vo (w8.setCell ⟨gs, 0, none⟩ (.slice (some ⟨g8, 0, none⟩) (n + 1) c8)) ∧ FrP B gs (.slice A n c) Vo W (.slice (some ⟨g8, 0, none⟩) (n + 1) c8) Vo (w8.setCell ⟨gs, 0, none⟩ (.slice (some ⟨g8, 0, none⟩) (n + 1) c8)) := by
  subst hn
  have hlo := h.lo
  have hbz := h.gr.lo
  have hsz := h.gr.sz
  have ha : Below W.heap.size W (W.alloc ob) := stpA (Below.refl _ _) _
  have h2 := h.below ha (Nat.le_refl _) (by rw [World.size_alloc]; omega)
  have hgs : some gs ≠ (Value.slice A L.length c).ownBlock := fun e => by have := (h.gr.nd.lt gs e.symm).1; omega
  have hb2 : NdIn b.n b.x b.y b.z b.A b.c (W.alloc ob) (fun k => base ≤ k ∧ k < hi ∧ some k ≠ (Value.slice A L.length c).ownBlock ∧ some k ≠ Vo.ownBlock) := hb.keep (fun _ hk => hk) fun k o hk => cell_blkP (ha.block k (by have := hk.2.1; omega))
  have hp := h2.gr.push b hb2 hown8 hgr (by
    rcases hor with e | e
    · exact .inl e.symm
    · refine .inr ⟨g8, by omega, rfl, fun e2 => ?_⟩
      have := (h.gr.op.lt g8 e2).2
      omega)
  have hs8 := hgr.size
  rw [World.size_alloc] at hs8
  have hoth : ∀ q, q ≠ gs → (w8.setCell ⟨gs, 0, none⟩ (.slice (some ⟨g8, 0, none⟩) (L.length + 1) c8)).heap[q]? = w8.heap[q]? := fun q hq => heap_setCell_other _ _ _ _ hq
  have hbox : w8.heap[gs]? = some (.cells #[.slice A L.length c, Vo, .bool bb] 90 (0, 0)) := (hgr.block gs (by have := lt_heapP h2.box; omega) hgs).trans h2.box
  refine ⟨⟨?_, hp.keep (fun q hq _ => hoth q (by omega)) (Nat.le_refl _) (by simp [World.setCell]; omega), h.lo⟩, ⟨?_, fun k hk h1 h3 _ => (hoth k h1).trans ((hgr.block k (by rw [World.size_alloc]; omega) h3).trans (ha.block k hk)), fun k hk e => ?_, fun _ _ e => e⟩⟩
  · exact heap_setCell_same w8 gs 0 _ _ _ hbox
  · exact (((Below.refl B W).alloc (by omega) ob).grown hgr (by rw [World.size_alloc]; omega) (fun q hq => by have := (h.gr.nd.lt q hq).1; omega)).setCell (p := ⟨gs, 0, none⟩) hlo.1 _
  · have e3 : g8 = k := by simpa [Value.ownBlock] using e
    rcases hor with e4 | e4
    · rw [e4, e3]
    · omega
theorem stkput_none (B gs base hi : Nat) (L : List NB) (O : List Nat) (bb : Bool) (Vn Vo : Value) (b : NB) (w : World) (h : StkSt B gs base hi L O bb Vn Vo w) (hb : NdIn b.n b.x b.y b.z b.A b.c w (fun k => base ≤ k ∧ k < hi ∧ some k ≠ Vn.ownBlock ∧ some k ≠ Vo.ownBlock)) (hl : L.length ≤ 100000) (hl2 : O.length ≤ 100000) (hO : O = []) :
    Calls Tryz.prog 92 #[.pointer (some ⟨gs, 0, none⟩), .agg #[.int .u8 (b.n.kind : Int), .string b.x, .string b.y, .slice b.A b.n.attrs.length b.c, .string b.z, .int .i64 b.n.many]] w fun e w' => e = .returned (.tuple #[]) ∧ ∃ Vn', StkSt B gs base hi (bumpL O L ++ [b]) O bb Vn' Vo w' ∧ FrP B gs Vn Vo w Vn' Vo w' := by
  obtain ⟨i0, hi0, hz0, hz1, hz2⟩ := info_parts infoNd
  have HI := Lib.hid hi0
  have HZ0 := Lib.hid hz0
  have HZ1 := Lib.hid hz1
  have HZ2 := Lib.hid hz2
  obtain ⟨An, cn, rfl⟩ := own_form2 h.gr.nd
  obtain ⟨Ao, co, rfl⟩ := own_form2 h.gr.op
  obtain ⟨n, hn⟩ : ∃ n, L.length = n := ⟨_, rfl⟩
  obtain ⟨m, hm⟩ : ∃ m, O.length = m := ⟨_, rfl⟩
  subst hO
  obtain rfl : 0 = m := hm
  rw [show ([] : List Nat).length = 0 from rfl] at h
  rw [show ([] : List Nat).length = 0 from rfl] at hb ⊢
  simp only [hn] at h hb ⊢
  obtain ⟨W0, hW0⟩ : ∃ W0, w.alloc (.cells #[.int .u8 (b.n.kind : Int), .string b.x, .string b.y, .slice b.A b.n.attrs.length b.c, .string b.z, .int .i64 b.n.many] 32) = W0 := ⟨_, rfl⟩
  have HST := Lib.hid h
  have HB := Lib.hid hb
  have HL : Hid (n ≤ 100000) := Lib.hid (by omega)
  have HBE : Hid (Below w.heap.size w W0) := Lib.hid (by rw [← hW0]; exact stpA (Below.refl _ _) _)
  have HBX : Hid (W0.heap[w.heap.size]? = some (.cells #[.int .u8 (b.n.kind : Int), .string b.x, .string b.y, .slice b.A b.n.attrs.length b.c, .string b.z, .int .i64 b.n.many] 32 (0, 0))) := Lib.hid (by rw [← hW0]; exact heap_alloc_new _ _)
  have HS0 : Hid (W0.heap.size = w.heap.size + 1) := Lib.hid (by rw [← hW0, World.size_alloc])
  have hg0 := kept_heap h.box HBE.out
  have k1 := cellV W0 _ 1 _ _ _ hg0
  have HSTW := Lib.hid (h.below HBE.out (Nat.le_refl _) (Nat.le_trans h.gr.sz HBE.out.size))
  have HOWN : Hid (W0.drew.ownsRow base 32 6 (.slice An n cn) n (L.flatMap nbCells)) := Lib.hid (by have := own_belowK HSTW.out.gr.nd (Below.refl W0.heap.size W0).drew (Nat.le_refl _); rw [hn] at this; exact this)
  have HNL := Lib.hid hn
  have HB9 : Hid (NdIn b.n b.x b.y b.z b.A b.c W0.drew (fun k => base ≤ k ∧ k < hi ∧ some k ≠ (Value.slice An n cn).ownBlock ∧ some k ≠ (Value.slice Ao 0 co).ownBlock)) := Lib.hid ((hb : NdIn b.n b.x b.y b.z b.A b.c w (fun k => base ≤ k ∧ k < hi ∧ some k ≠ (Value.slice An n cn).ownBlock ∧ some k ≠ (Value.slice Ao 0 co).ownBlock)).keep (fun _ hk => hk) fun k o hk => cell_blkP ((HBE.out.drew).block k (by have := hk.2.1; have := h.gr.sz; omega)))
  have HNB : Hid (some w.heap.size ≠ (Value.slice An n cn).ownBlock) := Lib.hid fun e => by have := (h.gr.nd.lt _ e.symm).2; omega
  have HSZ : Hid (base ≤ W0.drew.heap.size) := Lib.hid (by have := HSTW.out.gr.lo; have := HSTW.out.gr.sz; exact Nat.le_trans (by assumption) (by assumption))
  clear h hb hl hl2 hi0 hz0 hz1 hz2 hg0
  go_enter Tryz.func92, Tryz.ntmps92
  go_wp2_with fail
  refine wp_region_noPanic ?_
  refine wp_region_Z (fun W => W.cell? ⟨gs, 0, none⟩ = some (.slice An n cn) ∧ W.cell? ⟨w.heap.size, 0, none⟩ = some (.int .u8 (b.n.kind : Int)) ∧ W.cell? ⟨w.heap.size, 1, none⟩ = some (.string b.x) ∧ W.cell? ⟨w.heap.size, 2, none⟩ = some (.string b.y) ∧ W.cell? ⟨w.heap.size, 3, none⟩ = some (.slice b.A b.n.attrs.length b.c) ∧ W.cell? ⟨w.heap.size, 4, none⟩ = some (.string b.z) ∧ W.cell? ⟨w.heap.size, 5, none⟩ = some (.int .i64 b.n.many)) 10 (by kernel_rfl) ?_
  have hS : W0.drew.cell? ⟨gs, 0, none⟩ = some (.slice An n cn) ∧ W0.drew.cell? ⟨w.heap.size, 0, none⟩ = some (.int .u8 (b.n.kind : Int)) ∧ W0.drew.cell? ⟨w.heap.size, 1, none⟩ = some (.string b.x) ∧ W0.drew.cell? ⟨w.heap.size, 2, none⟩ = some (.string b.y) ∧ W0.drew.cell? ⟨w.heap.size, 3, none⟩ = some (.slice b.A b.n.attrs.length b.c) ∧ W0.drew.cell? ⟨w.heap.size, 4, none⟩ = some (.string b.z) ∧ W0.drew.cell? ⟨w.heap.size, 5, none⟩ = some (.int .i64 b.n.many) := ⟨cellV W0.drew _ 0 _ _ _ HSTW.out.box, cellV W0.drew _ 0 _ _ _ HBX.out, cellV W0.drew _ 1 _ _ _ HBX.out, cellV W0.drew _ 2 _ _ _ HBX.out, cellV W0.drew _ 3 _ _ _ HBX.out, cellV W0.drew _ 4 _ _ _ HBX.out, cellV W0.drew _ 5 _ _ _ HBX.out⟩
  refine takeZ (i := 0) (v := .pointer (some ⟨gs, 0, none⟩)) rfl (by kernel_rfl) (by kernel_rfl) (by kernel_rfl) (by kernel_rfl) (fun _ _ _ h => h) (Or.inl ⟨by rfl, ?_⟩) hS ?_
  · intro w' hSw; (try dsimp only at hSw); go_simp
  try simp only [Act.put, List.setIfInBounds_toArray, List.set_cons_zero, List.set_cons_succ]
  refine takeZ (i := 1) (v := .pointer (some ⟨gs, 0, none⟩)) rfl (by kernel_rfl) (by kernel_rfl) (by kernel_rfl) (by kernel_rfl) (fun _ _ _ h => h) (Or.inl ⟨by rfl, ?_⟩) hS ?_
  · intro w' hSw; (try dsimp only at hSw); go_simp
  try simp only [Act.put, List.setIfInBounds_toArray, List.set_cons_zero, List.set_cons_succ]
  refine takeZ (i := 2) (v := .pointer (some ⟨gs, 0, none⟩)) rfl (by kernel_rfl) (by kernel_rfl) (by kernel_rfl) (by kernel_rfl) (fun _ _ _ h => h) (Or.inl ⟨by rfl, ?_⟩) hS ?_
  · intro w' hSw; (try dsimp only at hSw); go_simp
  try simp only [Act.put, List.setIfInBounds_toArray, List.set_cons_zero, List.set_cons_succ]
  refine takeZ (i := 3) (v := .pointer (some ⟨gs, 0, none⟩)) rfl (by kernel_rfl) (by kernel_rfl) (by kernel_rfl) (by kernel_rfl) (fun _ _ _ h => h) (Or.inl ⟨by rfl, ?_⟩) hS ?_
  · intro w' hSw; (try dsimp only at hSw); go_simp
  try simp only [Act.put, List.setIfInBounds_toArray, List.set_cons_zero, List.set_cons_succ]
  refine takeZ (i := 4) (v := .slice An n cn) rfl (by kernel_rfl) (by kernel_rfl) (by kernel_rfl) (by kernel_rfl) (fun _ _ _ h => h) (Or.inl ⟨by rfl, ?_⟩) hS ?_
  · intro w' hSw; (try dsimp only at hSw); go_simp
  try simp only [Act.put, List.setIfInBounds_toArray, List.set_cons_zero, List.set_cons_succ]
  refine takeZ (i := 5) (v := .agg #[.int .u8 (b.n.kind : Int), .string b.x, .string b.y, .slice b.A b.n.attrs.length b.c, .string b.z, .int .i64 b.n.many]) rfl (by kernel_rfl) (by kernel_rfl) (by kernel_rfl) (by kernel_rfl) (fun _ _ _ h => h) (Or.inl ⟨by rfl, ?_⟩) hS ?_
  · intro w' hSw; (try dsimp only at hSw); go_simp
  try simp only [Act.put, List.setIfInBounds_toArray, List.set_cons_zero, List.set_cons_succ]
  refine stepZ (i := 6) (by kernel_rfl) rfl (fun K hK => ?_)
  go_simp
  have HA1 := Lib.hid (kept_heap (a := W0.drew) HSTW.out.box (stpA (Below.refl W0.drew.heap.size W0.drew) (.cells #[.int .u8 (b.n.kind : Int), .string b.x, .string b.y, .slice b.A b.n.attrs.length b.c, .string b.z, .int .i64 b.n.many] 32)))
  have HA2 := Lib.hid (kept_heap (a := W0.drew) HBX.out (stpA (Below.refl W0.drew.heap.size W0.drew) (.cells #[.int .u8 (b.n.kind : Int), .string b.x, .string b.y, .slice b.A b.n.attrs.length b.c, .string b.z, .int .i64 b.n.many] 32)))
  have hS6 : (W0.drew.alloc (.cells #[.int .u8 (b.n.kind : Int), .string b.x, .string b.y, .slice b.A b.n.attrs.length b.c, .string b.z, .int .i64 b.n.many] 32)).cell? ⟨gs, 0, none⟩ = some (.slice An n cn) ∧ (W0.drew.alloc (.cells #[.int .u8 (b.n.kind : Int), .string b.x, .string b.y, .slice b.A b.n.attrs.length b.c, .string b.z, .int .i64 b.n.many] 32)).cell? ⟨w.heap.size, 0, none⟩ = some (.int .u8 (b.n.kind : Int)) ∧ (W0.drew.alloc (.cells #[.int .u8 (b.n.kind : Int), .string b.x, .string b.y, .slice b.A b.n.attrs.length b.c, .string b.z, .int .i64 b.n.many] 32)).cell? ⟨w.heap.size, 1, none⟩ = some (.string b.x) ∧ (W0.drew.alloc (.cells #[.int .u8 (b.n.kind : Int), .string b.x, .string b.y, .slice b.A b.n.attrs.length b.c, .string b.z, .int .i64 b.n.many] 32)).cell? ⟨w.heap.size, 2, none⟩ = some (.string b.y) ∧ (W0.drew.alloc (.cells #[.int .u8 (b.n.kind : Int), .string b.x, .string b.y, .slice b.A b.n.attrs.length b.c, .string b.z, .int .i64 b.n.many] 32)).cell? ⟨w.heap.size, 3, none⟩ = some (.slice b.A b.n.attrs.length b.c) ∧ (W0.drew.alloc (.cells #[.int .u8 (b.n.kind : Int), .string b.x, .string b.y, .slice b.A b.n.attrs.length b.c, .string b.z, .int .i64 b.n.many] 32)).cell? ⟨w.heap.size, 4, none⟩ = some (.string b.z) ∧ (W0.drew.alloc (.cells #[.int .u8 (b.n.kind : Int), .string b.x, .string b.y, .slice b.A b.n.attrs.length b.c, .string b.z, .int .i64 b.n.many] 32)).cell? ⟨w.heap.size, 5, none⟩ = some (.int .i64 b.n.many) := ⟨cellV (W0.drew.alloc (.cells #[.int .u8 (b.n.kind : Int), .string b.x, .string b.y, .slice b.A b.n.attrs.length b.c, .string b.z, .int .i64 b.n.many] 32)) _ 0 _ _ _ HA1.out, cellV (W0.drew.alloc (.cells #[.int .u8 (b.n.kind : Int), .string b.x, .string b.y, .slice b.A b.n.attrs.length b.c, .string b.z, .int .i64 b.n.many] 32)) _ 0 _ _ _ HA2.out, cellV (W0.drew.alloc (.cells #[.int .u8 (b.n.kind : Int), .string b.x, .string b.y, .slice b.A b.n.attrs.length b.c, .string b.z, .int .i64 b.n.many] 32)) _ 1 _ _ _ HA2.out, cellV (W0.drew.alloc (.cells #[.int .u8 (b.n.kind : Int), .string b.x, .string b.y, .slice b.A b.n.attrs.length b.c, .string b.z, .int .i64 b.n.many] 32)) _ 2 _ _ _ HA2.out, cellV (W0.drew.alloc (.cells #[.int .u8 (b.n.kind : Int), .string b.x, .string b.y, .slice b.A b.n.attrs.length b.c, .string b.z, .int .i64 b.n.many] 32)) _ 3 _ _ _ HA2.out, cellV (W0.drew.alloc (.cells #[.int .u8 (b.n.kind : Int), .string b.x, .string b.y, .slice b.A b.n.attrs.length b.c, .string b.z, .int .i64 b.n.many] 32)) _ 4 _ _ _ HA2.out, cellV (W0.drew.alloc (.cells #[.int .u8 (b.n.kind : Int), .string b.x, .string b.y, .slice b.A b.n.attrs.length b.c, .string b.z, .int .i64 b.n.many] 32)) _ 5 _ _ _ HA2.out⟩
  refine hK.out _ _ (fun _ => hS6) (fun _ => ?_)
  clear hK K hS
  try simp only [Act.put, List.setIfInBounds_toArray, List.set_cons_zero, List.set_cons_succ]
  refine stepZ (i := 7) (by kernel_rfl) rfl (fun K hK => ?_)
  refine step_append_lies _ rfl (.tmp 34) (.tmp 36) 24 rfl base 32 i0 (.agg #[.int .u8 0, .string ⟨#[]⟩, .string ⟨#[]⟩, .slice none 0 0, .string ⟨#[]⟩, .int .i64 0]) 6 88 Tryz.underlying24 HI.out HZ0.out HZ1.out HZ2.out rfl (by decide) _ n _ rfl (own_belowK HOWN.out (stpA (Below.refl _ _) _) (Nat.le_refl _)) ⟨W0.heap.size, 0, none⟩ 1 1 [.int .u8 (b.n.kind : Int), .string b.x, .string b.y, .slice b.A b.n.attrs.length b.c, .string b.z, .int .i64 b.n.many] rfl rfl (new_at W0.drew [.int .u8 (b.n.kind : Int), .string b.x, .string b.y, .slice b.A b.n.attrs.length b.c, .string b.z, .int .i64 b.n.many] 32 _ rfl) (by simp [Value.oneCell']) (by decide) (by have := HL.out; unfold maxLen; omega) (by have := HL.out; omega) (by have := HSZ.out; show base ≤ (World.alloc W0 _).heap.size; rw [World.size_alloc]; exact Nat.le_succ_of_le this) (W0.heap.size + 1) (by show (World.alloc W0 _).heap.size = _; rw [World.size_alloc]) ?_
  intro g8 c8 w8 hown8 hgr8 hor hlt8
  have hpush := (HSTW.out.below (Below.refl W0.heap.size W0).drew (Nat.le_refl _) (HSTW.out.gr.sz)).pushN (b := b) HNL.out HB9.out hown8 hgr8 hor
  have HP8 := Lib.hid hpush.1
  have HF8 := Lib.hid hpush.2
  have st8 : ∀ (q : Nat) (o : Obj), W0.heap[q]? = some o → some q ≠ (Value.slice An n cn).ownBlock → w8.heap[q]? = some o := fun q o ho hne => by
    have h1 := kept_heap (a := W0.drew) ho (stpA (Below.refl W0.drew.heap.size W0.drew) (.cells #[.int .u8 (b.n.kind : Int), .string b.x, .string b.y, .slice b.A b.n.attrs.length b.c, .string b.z, .int .i64 b.n.many] 32))
    exact (hgr8.block _ (Array.getElem?_eq_some_iff.1 h1).1 hne).trans h1
  have hgl := st8 gs _ HSTW.out.box (fun e => by have := (HSTW.out.gr.nd.lt _ e.symm).1; have := HSTW.out.lo; omega)
  have hbx := st8 w.heap.size _ HBX.out (fun e => HNB.out e)
  have k8 : w8.cell? ⟨gs, 0, none⟩ = some (.slice An n cn) ∧ w8.cell? ⟨w.heap.size, 0, none⟩ = some (.int .u8 (b.n.kind : Int)) ∧ w8.cell? ⟨w.heap.size, 1, none⟩ = some (.string b.x) ∧ w8.cell? ⟨w.heap.size, 2, none⟩ = some (.string b.y) ∧ w8.cell? ⟨w.heap.size, 3, none⟩ = some (.slice b.A b.n.attrs.length b.c) ∧ w8.cell? ⟨w.heap.size, 4, none⟩ = some (.string b.z) ∧ w8.cell? ⟨w.heap.size, 5, none⟩ = some (.int .i64 b.n.many) := ⟨cellV w8 _ 0 _ _ _ hgl, cellV w8 _ 0 _ _ _ hbx, cellV w8 _ 1 _ _ _ hbx, cellV w8 _ 2 _ _ _ hbx, cellV w8 _ 3 _ _ _ hbx, cellV w8 _ 4 _ _ _ hbx, cellV w8 _ 5 _ _ _ hbx⟩
  have f8 : w8.frozen? ⟨gs, 0, none⟩ = false := freeV w8 _ 0 _ _ hgl
  have k81 := k8.1
  clear hown8 hgr8 hor hgl hbx st8 hpush
  refine hK.out _ _ (fun _ => k8) (fun _ => ?_)
  clear hK K
  try simp only [Act.put, List.setIfInBounds_toArray, List.set_cons_zero, List.set_cons_succ]
  refine stepZ (i := 8) (by kernel_rfl) rfl (fun K hK => ?_)
  go_simp
  refine hK.out _ _ (fun _ => k8) (fun _ => ?_)
  clear hK K
  try simp only [Act.put, List.setIfInBounds_toArray, List.set_cons_zero, List.set_cons_succ]
  refine takeZ (i := 9) (v := .pointer (some ⟨gs, 0, none⟩)) rfl (by kernel_rfl) (by kernel_rfl) (by kernel_rfl) (by kernel_rfl) (fun _ _ _ h => h) (Or.inl ⟨by rfl, ?_⟩) k8 ?_
  · intro w' hSw; (try dsimp only at hSw); go_simp
  try simp only [Act.put, List.setIfInBounds_toArray, List.set_cons_zero, List.set_cons_succ]
  refine stepZ (i := 10) (by kernel_rfl) rfl (fun K hK => ?_)
  go_simp
  refine hK.out _ _ (fun h => absurd rfl h) (fun _ => ?_)
  clear hK K
  try simp only [Act.put, List.setIfInBounds_toArray, List.set_cons_zero, List.set_cons_succ]
  refine doneZ (by kernel_rfl) ?_ _
  refine NoPanic.normal ?_
  go_wp2_with fail
  (try simp only [Exit.inBlock, Exit.then, Exit.noGoto])
  go_end0
  exact ⟨rfl, _, HP8.out, (FrP.below HBE.out (by have := HST.out.gr.sz; have := HST.out.gr.lo; have := HST.out.lo; omega)).trans ((FrP.below (Below.refl _ _).drew (by have := HSTW.out.gr.sz; have := HSTW.out.gr.lo; have := HSTW.out.lo; omega)).trans HF8.out)⟩
theorem stkput_some (B gs base hi : Nat) (L : List NB) (O : List Nat) (bb : Bool) (Vn Vo : Value) (b : NB) (w : World) (h : StkSt B gs base hi L O bb Vn Vo w) (hb : NdIn b.n b.x b.y b.z b.A b.c w (fun k => base ≤ k ∧ k < hi ∧ some k ≠ Vn.ownBlock ∧ some k ≠ Vo.ownBlock)) (hl : L.length ≤ 100000) (hl2 : O.length ≤ 100000) (O1 : List Nat) (i : Nat) (hO : O = O1 ++ [i]) (hi' : i < L.length) (hmm : 0 ≤ (L[i]'hi').n.many ∧ (L[i]'hi').n.many ≤ 1000000) :
    Calls Tryz.prog 92 #[.pointer (some ⟨gs, 0, none⟩), .agg #[.int .u8 (b.n.kind : Int), .string b.x, .string b.y, .slice b.A b.n.attrs.length b.c, .string b.z, .int .i64 b.n.many]] w fun e w' => e = .returned (.tuple #[]) ∧ ∃ Vn', StkSt B gs base hi (bumpL O L ++ [b]) O bb Vn' Vo w' ∧ FrP B gs Vn Vo w Vn' Vo w' := by
  obtain ⟨i0, hi0, hz0, hz1, hz2⟩ := info_parts infoNd
  have HI := Lib.hid hi0
  have HZ0 := Lib.hid hz0
  have HZ1 := Lib.hid hz1
  have HZ2 := Lib.hid hz2
  obtain ⟨An, cn, rfl⟩ := own_form2 h.gr.nd
  obtain ⟨Ao, co, rfl⟩ := own_form2 h.gr.op
  obtain ⟨n, hn⟩ : ∃ n, L.length = n := ⟨_, rfl⟩
  obtain ⟨m, hm⟩ : ∃ m, O.length = m := ⟨_, rfl⟩
  obtain ⟨k, hk⟩ : ∃ k, O1.length = k := ⟨_, rfl⟩
  have hmk : m = k + 1 := by rw [← hm, hO, List.length_append, hk]; rfl
  subst hmk
  obtain ⟨mm, hmv⟩ : ∃ mm, (L[i]'hi').n.many = mm := ⟨_, rfl⟩
  rw [hmv] at hmm
  have hbl : bumpL O L = L.modify i bumpB := by unfold bumpL; rw [hO, List.getLast?_concat]
  obtain ⟨go, _, rfl, _, _, _, hcO⟩ := ownp_row h.gr.op (by omega)
  obtain ⟨gn, curn, rfl, hgn, hgb, hgl0, hcN⟩ := ownp_row h.gr.nd (by omega)
  have hOk : O[k]? = some i := by rw [hO, List.getElem?_append_right (by omega), hk, Nat.sub_self]; rfl
  have hc1 := hcO k _ (zs_cell hOk)
  have hc2 := hcN (i * 6 + 5) _ (nb_cell5 hi')
  rw [hmv] at hc2
  rw [hbl]
  have HHI := Lib.hid hi'
  simp only [hn, hm] at h hb ⊢
  obtain ⟨W0, hW0⟩ : ∃ W0, w.alloc (.cells #[.int .u8 (b.n.kind : Int), .string b.x, .string b.y, .slice b.A b.n.attrs.length b.c, .string b.z, .int .i64 b.n.many] 32) = W0 := ⟨_, rfl⟩
  have HST := Lib.hid h
  have HB := Lib.hid hb
  have HL : Hid (n ≤ 100000) := Lib.hid (by omega)
  have HBE : Hid (Below w.heap.size w W0) := Lib.hid (by rw [← hW0]; exact stpA (Below.refl _ _) _)
  have HBX : Hid (W0.heap[w.heap.size]? = some (.cells #[.int .u8 (b.n.kind : Int), .string b.x, .string b.y, .slice b.A b.n.attrs.length b.c, .string b.z, .int .i64 b.n.many] 32 (0, 0))) := Lib.hid (by rw [← hW0]; exact heap_alloc_new _ _)
  have HS0 : Hid (W0.heap.size = w.heap.size + 1) := Lib.hid (by rw [← hW0, World.size_alloc])
  have hg0 := kept_heap h.box HBE.out
  have k0 := cellV W0 _ 0 _ _ _ hg0
  have k1 := cellV W0 _ 1 _ _ _ hg0
  have kO : W0.cell? ⟨go, k, none⟩ = some (.int .i64 (i : Int)) := (cell_blkP (HBE.out.block go (by have := (h.gr.op.lt go rfl).2; omega))).trans hc1
  have kM : W0.cell? ⟨gn, i * 6 + 5, none⟩ = some (.int .i64 mm) := (cell_blkP (HBE.out.block gn hgl0)).trans hc2
  have fM : W0.frozen? ⟨gn, i * 6 + 5, none⟩ = false := freeV W0 gn _ _ _ ((HBE.out.block gn hgl0).trans hgn)
  have HSTW := Lib.hid (h.below HBE.out (Nat.le_refl _) (Nat.le_trans h.gr.sz HBE.out.size))
  have HSTD := Lib.hid (HSTW.out.below (Below.refl W0.heap.size W0).drew (Nat.le_refl _) HSTW.out.gr.sz)
  have HGN : Hid (gn < w.heap.size) := Lib.hid hgl0
  have bk : (0 : Int) ≤ (k : Int) ∧ (k : Int) ≤ 100000 := by omega
  have bi : (0 : Int) ≤ (i : Int) ∧ (i : Int) < (n : Int) ∧ (n : Int) ≤ 100000 := by omega
  have bmm : (0 : Int) ≤ mm ∧ mm ≤ 1000000 := hmm
  have wmm : IntKind.i64.wrap (mm + 1) = mm + 1 := IntWalk.i64_in _ (by omega)
  have bkk : ¬ ((k : Int) + 1 ≤ (k : Int)) := by omega
  have HNL := Lib.hid hn
  have HMV := Lib.hid hmv
  have HML := Lib.hid hm
  have HNB : Hid (some w.heap.size ≠ (Value.slice (some ⟨gn, 0, none⟩) n cn).ownBlock) := Lib.hid fun e => by have := (h.gr.nd.lt _ e.symm).2; omega
  clear h hb hl hl2 hi0 hz0 hz1 hz2 hg0 hO hOk hc1 hc2 hcO hcN hmm hbl hk hn hm hgn hgb hgl0 hmv
  go_enter Tryz.func92, Tryz.ntmps92
  go_wp2_with fail
  refine wp_region_noPanic ?_
  refine wp_region_Z (fun W => W.cell? ⟨gs, 0, none⟩ = some (.slice (some ⟨gn, 0, none⟩) n cn) ∧ W.cell? ⟨gs, 1, none⟩ = some (.slice (some ⟨go, 0, none⟩) (k + 1) co) ∧ W.cell? ⟨go, k, none⟩ = some (.int .i64 (i : Int)) ∧ W.cell? ⟨gn, i * 6 + 5, none⟩ = some (.int .i64 mm)) 17 (by kernel_rfl) ?_
  have hS : W0.drew.cell? ⟨gs, 0, none⟩ = some (.slice (some ⟨gn, 0, none⟩) n cn) ∧ W0.drew.cell? ⟨gs, 1, none⟩ = some (.slice (some ⟨go, 0, none⟩) (k + 1) co) ∧ W0.drew.cell? ⟨go, k, none⟩ = some (.int .i64 (i : Int)) ∧ W0.drew.cell? ⟨gn, i * 6 + 5, none⟩ = some (.int .i64 mm) := ⟨k0, k1, kO, kM⟩
  refine takeZ (i := 0) (v := .pointer (some ⟨gs, 0, none⟩)) rfl (by kernel_rfl) (by kernel_rfl) (by kernel_rfl) (by kernel_rfl) (fun _ _ _ h => h) (Or.inl ⟨by rfl, ?_⟩) hS ?_
  · intro w' hSw; (try dsimp only at hSw); go_simp
  try simp only [Act.put, List.setIfInBounds_toArray, List.set_cons_zero, List.set_cons_succ]
  refine takeZ (i := 1) (v := .pointer (some ⟨gs, 0, none⟩)) rfl (by kernel_rfl) (by kernel_rfl) (by kernel_rfl) (by kernel_rfl) (fun _ _ _ h => h) (Or.inl ⟨by rfl, ?_⟩) hS ?_
  · intro w' hSw; (try dsimp only at hSw); go_simp
  try simp only [Act.put, List.setIfInBounds_toArray, List.set_cons_zero, List.set_cons_succ]
  refine takeZ (i := 2) (v := .pointer (some ⟨gs, 0, none⟩)) rfl (by kernel_rfl) (by kernel_rfl) (by kernel_rfl) (by kernel_rfl) (fun _ _ _ h => h) (Or.inl ⟨by rfl, ?_⟩) hS ?_
  · intro w' hSw; (try dsimp only at hSw); go_simp
  try simp only [Act.put, List.setIfInBounds_toArray, List.set_cons_zero, List.set_cons_succ]
  refine takeZ (i := 3) (v := .slice (some ⟨gn, 0, none⟩) n cn) rfl (by kernel_rfl) (by kernel_rfl) (by kernel_rfl) (by kernel_rfl) (fun _ _ _ h => h) (Or.inl ⟨by rfl, ?_⟩) hS ?_
  · intro w' hSw; (try dsimp only at hSw); go_simp
  try simp only [Act.put, List.setIfInBounds_toArray, List.set_cons_zero, List.set_cons_succ]
  refine takeZ (i := 4) (v := .pointer (some ⟨gs, 0, none⟩)) rfl (by kernel_rfl) (by kernel_rfl) (by kernel_rfl) (by kernel_rfl) (fun _ _ _ h => h) (Or.inl ⟨by rfl, ?_⟩) hS ?_
  · intro w' hSw; (try dsimp only at hSw); go_simp
  try simp only [Act.put, List.setIfInBounds_toArray, List.set_cons_zero, List.set_cons_succ]
  refine takeZ (i := 5) (v := .pointer (some ⟨gs, 0, none⟩)) rfl (by kernel_rfl) (by kernel_rfl) (by kernel_rfl) (by kernel_rfl) (fun _ _ _ h => h) (Or.inl ⟨by rfl, ?_⟩) hS ?_
  · intro w' hSw; (try dsimp only at hSw); go_simp
  try simp only [Act.put, List.setIfInBounds_toArray, List.set_cons_zero, List.set_cons_succ]
  refine takeZ (i := 6) (v := .pointer (some ⟨gs, 1, none⟩)) rfl (by kernel_rfl) (by kernel_rfl) (by kernel_rfl) (by kernel_rfl) (fun _ _ _ h => h) (Or.inl ⟨by rfl, ?_⟩) hS ?_
  · intro w' hSw; (try dsimp only at hSw); go_simp
  try simp only [Act.put, List.setIfInBounds_toArray, List.set_cons_zero, List.set_cons_succ]
  refine takeZ (i := 7) (v := .slice (some ⟨go, 0, none⟩) (k + 1) co) rfl (by kernel_rfl) (by kernel_rfl) (by kernel_rfl) (by kernel_rfl) (fun _ _ _ h => h) (Or.inl ⟨by rfl, ?_⟩) hS ?_
  · intro w' hSw; (try dsimp only at hSw); go_simp
  try simp only [Act.put, List.setIfInBounds_toArray, List.set_cons_zero, List.set_cons_succ]
  refine takeZ (i := 8) (v := .int .i64 (k : Int)) rfl (by kernel_rfl) (by kernel_rfl) (by kernel_rfl) (by kernel_rfl) (fun _ _ _ h => h) (Or.inl ⟨by rfl, ?_⟩) hS ?_
  · intro w' hSw; (try dsimp only at hSw); go_simp
  try simp only [Act.put, List.setIfInBounds_toArray, List.set_cons_zero, List.set_cons_succ]
  refine takeZ (i := 9) (v := .pointer (some ⟨go, k, none⟩)) rfl (by kernel_rfl) (by kernel_rfl) (by kernel_rfl) (by kernel_rfl) (fun _ _ _ h => h) (Or.inl ⟨by rfl, ?_⟩) hS ?_
  · intro w' hSw; (try dsimp only at hSw); go_simp
  try simp only [Act.put, List.setIfInBounds_toArray, List.set_cons_zero, List.set_cons_succ]
  refine takeZ (i := 10) (v := .int .i64 (i : Int)) rfl (by kernel_rfl) (by kernel_rfl) (by kernel_rfl) (by kernel_rfl) (fun _ _ _ h => h) (Or.inl ⟨by rfl, ?_⟩) hS ?_
  · intro w' hSw; (try dsimp only at hSw); go_simp
  try simp only [Act.put, List.setIfInBounds_toArray, List.set_cons_zero, List.set_cons_succ]
  refine takeZ (i := 11) (v := .pointer (some ⟨gn, i * 6, none⟩)) rfl (by kernel_rfl) (by kernel_rfl) (by kernel_rfl) (by kernel_rfl) (fun _ _ _ h => h) (Or.inl ⟨by rfl, ?_⟩) hS ?_
  · intro w' hSw; (try dsimp only at hSw); go_simp
  try simp only [Act.put, List.setIfInBounds_toArray, List.set_cons_zero, List.set_cons_succ]
  refine takeZ (i := 12) (v := .pointer (some ⟨gn, i * 6 + 5, none⟩)) rfl (by kernel_rfl) (by kernel_rfl) (by kernel_rfl) (by kernel_rfl) (fun _ _ _ h => h) (Or.inl ⟨by rfl, ?_⟩) hS ?_
  · intro w' hSw; (try dsimp only at hSw); go_simp
  try simp only [Act.put, List.setIfInBounds_toArray, List.set_cons_zero, List.set_cons_succ]
  refine takeZ (i := 13) (v := .int .i64 mm) rfl (by kernel_rfl) (by kernel_rfl) (by kernel_rfl) (by kernel_rfl) (fun _ _ _ h => h) (Or.inl ⟨by rfl, ?_⟩) hS ?_
  · intro w' hSw; (try dsimp only at hSw); go_simp
  try simp only [Act.put, List.setIfInBounds_toArray, List.set_cons_zero, List.set_cons_succ]
  refine takeZ (i := 14) (v := .int .i64 (mm + 1)) rfl (by kernel_rfl) (by kernel_rfl) (by kernel_rfl) (by kernel_rfl) (fun _ _ _ h => h) (Or.inl ⟨by rfl, ?_⟩) hS ?_
  · intro w' hSw; (try dsimp only at hSw); go_simp
  try simp only [Act.put, List.setIfInBounds_toArray, List.set_cons_zero, List.set_cons_succ]
  refine stepZ (i := 15) (by kernel_rfl) rfl (fun K hK => ?_)
  go_simp
  refine hK.out _ _ (fun _ => hS) (fun _ => ?_)
  clear hK K
  try simp only [Act.put, List.setIfInBounds_toArray, List.set_cons_zero, List.set_cons_succ]
  refine takeZ (i := 16) (v := .pointer (some ⟨gn, i * 6 + 5, none⟩)) rfl (by kernel_rfl) (by kernel_rfl) (by kernel_rfl) (by kernel_rfl) (fun _ _ _ h => h) (Or.inl ⟨by rfl, ?_⟩) hS ?_
  · intro w' hSw; (try dsimp only at hSw); go_simp
  try simp only [Act.put, List.setIfInBounds_toArray, List.set_cons_zero, List.set_cons_succ]
  refine stepZ (i := 17) (by kernel_rfl) rfl (fun K hK => ?_)
  go_simp
  refine hK.out _ _ (fun h => absurd rfl h) (fun _ => ?_)
  clear hK K
  try simp only [Act.put, List.setIfInBounds_toArray, List.set_cons_zero, List.set_cons_succ]
  refine doneZ (by kernel_rfl) ?_ _
  refine NoPanic.normal ?_
  have hmod := HSTD.out.bump (go := go) HNL.out i HHI.out (by rw [HMV.out]; exact bmm.2)
  rw [HMV.out] at hmod
  rw [show W0.drew.setCell ⟨gn, i * 6 + 5, none⟩ (.int .i64 (mm + 1)) = (W0.setCell ⟨gn, i * 6 + 5, none⟩ (.int .i64 (mm + 1))).drew from rfl] at hmod
  obtain ⟨W1, hW1⟩ : ∃ W1, (W0.setCell ⟨gn, i * 6 + 5, none⟩ (.int .i64 (mm + 1))).drew = W1 := ⟨_, rfl⟩
  have hbx1 : W1.heap[w.heap.size]? = some (.cells #[.int .u8 (b.n.kind : Int), .string b.x, .string b.y, .slice b.A b.n.attrs.length b.c, .string b.z, .int .i64 b.n.many] 32 (0, 0)) := by rw [← hW1]; exact (heap_setCell_other _ _ _ _ (by have := HGN.out; show w.heap.size ≠ gn; omega)).trans HBX.out
  rw [hW1] at hmod
  rw [hW1]
  have HST1 := Lib.hid hmod.1
  have HFR1 := Lib.hid hmod.2
  have HBX1 := Lib.hid hbx1
  have HLM : Hid ((L.modify i bumpB).length = n) := Lib.hid (by rw [List.length_modify]; exact HNL.out)
  clear hmod hbx1 hW1 k0 k1 kO kM fM HNL
  have HNL := HLM
  have HOWN : Hid (W1.drew.ownsRow base 32 6 (.slice (some ⟨gn, 0, none⟩) n cn) n ((L.modify i bumpB).flatMap nbCells)) := Lib.hid (by have := own_belowK HST1.out.gr.nd (Below.refl W1.heap.size W1).drew (Nat.le_refl _); rw [HNL.out] at this; exact this)
  have HB9 : Hid (NdIn b.n b.x b.y b.z b.A b.c W1.drew (fun k => base ≤ k ∧ k < hi ∧ some k ≠ (Value.slice (some ⟨gn, 0, none⟩) n cn).ownBlock ∧ some k ≠ (Value.slice (some ⟨go, 0, none⟩) (O1.length + 1) co).ownBlock)) := Lib.hid (HB.out.keep (fun _ hk => hk) fun k o hk => (cell_blkP (HFR1.out.blk k (by have := hk.2.1; have := HST1.out.gr.sz; have := HSTW.out.gr.sz; show k < W0.heap.size; omega) (by have := hk.1; have := HST1.out.lo; omega) hk.2.2.1 hk.2.2.2) : W1.cell? ⟨k, o, none⟩ = W0.drew.cell? ⟨k, o, none⟩).trans (cell_blkP (HBE.out.block k (by have := hk.2.1; have := HST.out.gr.sz; omega))))
  have HSZ : Hid (base ≤ W1.drew.heap.size) := Lib.hid (by have := HST1.out.gr.lo; have := HST1.out.gr.sz; exact Nat.le_trans (by assumption) (by assumption))
  have k1 := cellV W1 _ 1 _ _ _ HST1.out.box
  go_wp2_with fail
  refine wp_region_noPanic ?_
  refine wp_region_Z (fun W => W.cell? ⟨gs, 0, none⟩ = some (.slice (some ⟨gn, 0, none⟩) n cn) ∧ W.cell? ⟨w.heap.size, 0, none⟩ = some (.int .u8 (b.n.kind : Int)) ∧ W.cell? ⟨w.heap.size, 1, none⟩ = some (.string b.x) ∧ W.cell? ⟨w.heap.size, 2, none⟩ = some (.string b.y) ∧ W.cell? ⟨w.heap.size, 3, none⟩ = some (.slice b.A b.n.attrs.length b.c) ∧ W.cell? ⟨w.heap.size, 4, none⟩ = some (.string b.z) ∧ W.cell? ⟨w.heap.size, 5, none⟩ = some (.int .i64 b.n.many)) 10 (by kernel_rfl) ?_
  have hS : W1.drew.cell? ⟨gs, 0, none⟩ = some (.slice (some ⟨gn, 0, none⟩) n cn) ∧ W1.drew.cell? ⟨w.heap.size, 0, none⟩ = some (.int .u8 (b.n.kind : Int)) ∧ W1.drew.cell? ⟨w.heap.size, 1, none⟩ = some (.string b.x) ∧ W1.drew.cell? ⟨w.heap.size, 2, none⟩ = some (.string b.y) ∧ W1.drew.cell? ⟨w.heap.size, 3, none⟩ = some (.slice b.A b.n.attrs.length b.c) ∧ W1.drew.cell? ⟨w.heap.size, 4, none⟩ = some (.string b.z) ∧ W1.drew.cell? ⟨w.heap.size, 5, none⟩ = some (.int .i64 b.n.many) := ⟨cellV W1.drew _ 0 _ _ _ HST1.out.box, cellV W1.drew _ 0 _ _ _ HBX1.out, cellV W1.drew _ 1 _ _ _ HBX1.out, cellV W1.drew _ 2 _ _ _ HBX1.out, cellV W1.drew _ 3 _ _ _ HBX1.out, cellV W1.drew _ 4 _ _ _ HBX1.out, cellV W1.drew _ 5 _ _ _ HBX1.out⟩
  refine takeZ (i := 0) (v := .pointer (some ⟨gs, 0, none⟩)) rfl (by kernel_rfl) (by kernel_rfl) (by kernel_rfl) (by kernel_rfl) (fun _ _ _ h => h) (Or.inl ⟨by rfl, ?_⟩) hS ?_
  · intro w' hSw; (try dsimp only at hSw); go_simp
  try simp only [Act.put, List.setIfInBounds_toArray, List.set_cons_zero, List.set_cons_succ]
  refine takeZ (i := 1) (v := .pointer (some ⟨gs, 0, none⟩)) rfl (by kernel_rfl) (by kernel_rfl) (by kernel_rfl) (by kernel_rfl) (fun _ _ _ h => h) (Or.inl ⟨by rfl, ?_⟩) hS ?_
  · intro w' hSw; (try dsimp only at hSw); go_simp
  try simp only [Act.put, List.setIfInBounds_toArray, List.set_cons_zero, List.set_cons_succ]
  refine takeZ (i := 2) (v := .pointer (some ⟨gs, 0, none⟩)) rfl (by kernel_rfl) (by kernel_rfl) (by kernel_rfl) (by kernel_rfl) (fun _ _ _ h => h) (Or.inl ⟨by rfl, ?_⟩) hS ?_
  · intro w' hSw; (try dsimp only at hSw); go_simp
  try simp only [Act.put, List.setIfInBounds_toArray, List.set_cons_zero, List.set_cons_succ]
  refine takeZ (i := 3) (v := .pointer (some ⟨gs, 0, none⟩)) rfl (by kernel_rfl) (by kernel_rfl) (by kernel_rfl) (by kernel_rfl) (fun _ _ _ h => h) (Or.inl ⟨by rfl, ?_⟩) hS ?_
  · intro w' hSw; (try dsimp only at hSw); go_simp
  try simp only [Act.put, List.setIfInBounds_toArray, List.set_cons_zero, List.set_cons_succ]
  refine takeZ (i := 4) (v := .slice (some ⟨gn, 0, none⟩) n cn) rfl (by kernel_rfl) (by kernel_rfl) (by kernel_rfl) (by kernel_rfl) (fun _ _ _ h => h) (Or.inl ⟨by rfl, ?_⟩) hS ?_
  · intro w' hSw; (try dsimp only at hSw); go_simp
  try simp only [Act.put, List.setIfInBounds_toArray, List.set_cons_zero, List.set_cons_succ]
  refine takeZ (i := 5) (v := .agg #[.int .u8 (b.n.kind : Int), .string b.x, .string b.y, .slice b.A b.n.attrs.length b.c, .string b.z, .int .i64 b.n.many]) rfl (by kernel_rfl) (by kernel_rfl) (by kernel_rfl) (by kernel_rfl) (fun _ _ _ h => h) (Or.inl ⟨by rfl, ?_⟩) hS ?_
  · intro w' hSw; (try dsimp only at hSw); go_simp
  try simp only [Act.put, List.setIfInBounds_toArray, List.set_cons_zero, List.set_cons_succ]
  refine stepZ (i := 6) (by kernel_rfl) rfl (fun K hK => ?_)
  go_simp
  have HA1 := Lib.hid (kept_heap (a := W1.drew) HST1.out.box (stpA (Below.refl W1.drew.heap.size W1.drew) (.cells #[.int .u8 (b.n.kind : Int), .string b.x, .string b.y, .slice b.A b.n.attrs.length b.c, .string b.z, .int .i64 b.n.many] 32)))
  have HA2 := Lib.hid (kept_heap (a := W1.drew) HBX1.out (stpA (Below.refl W1.drew.heap.size W1.drew) (.cells #[.int .u8 (b.n.kind : Int), .string b.x, .string b.y, .slice b.A b.n.attrs.length b.c, .string b.z, .int .i64 b.n.many] 32)))
  have hS6 : (W1.drew.alloc (.cells #[.int .u8 (b.n.kind : Int), .string b.x, .string b.y, .slice b.A b.n.attrs.length b.c, .string b.z, .int .i64 b.n.many] 32)).cell? ⟨gs, 0, none⟩ = some (.slice (some ⟨gn, 0, none⟩) n cn) ∧ (W1.drew.alloc (.cells #[.int .u8 (b.n.kind : Int), .string b.x, .string b.y, .slice b.A b.n.attrs.length b.c, .string b.z, .int .i64 b.n.many] 32)).cell? ⟨w.heap.size, 0, none⟩ = some (.int .u8 (b.n.kind : Int)) ∧ (W1.drew.alloc (.cells #[.int .u8 (b.n.kind : Int), .string b.x, .string b.y, .slice b.A b.n.attrs.length b.c, .string b.z, .int .i64 b.n.many] 32)).cell? ⟨w.heap.size, 1, none⟩ = some (.string b.x) ∧ (W1.drew.alloc (.cells #[.int .u8 (b.n.kind : Int), .string b.x, .string b.y, .slice b.A b.n.attrs.length b.c, .string b.z, .int .i64 b.n.many] 32)).cell? ⟨w.heap.size, 2, none⟩ = some (.string b.y) ∧ (W1.drew.alloc (.cells #[.int .u8 (b.n.kind : Int), .string b.x, .string b.y, .slice b.A b.n.attrs.length b.c, .string b.z, .int .i64 b.n.many] 32)).cell? ⟨w.heap.size, 3, none⟩ = some (.slice b.A b.n.attrs.length b.c) ∧ (W1.drew.alloc (.cells #[.int .u8 (b.n.kind : Int), .string b.x, .string b.y, .slice b.A b.n.attrs.length b.c, .string b.z, .int .i64 b.n.many] 32)).cell? ⟨w.heap.size, 4, none⟩ = some (.string b.z) ∧ (W1.drew.alloc (.cells #[.int .u8 (b.n.kind : Int), .string b.x, .string b.y, .slice b.A b.n.attrs.length b.c, .string b.z, .int .i64 b.n.many] 32)).cell? ⟨w.heap.size, 5, none⟩ = some (.int .i64 b.n.many) := ⟨cellV (W1.drew.alloc (.cells #[.int .u8 (b.n.kind : Int), .string b.x, .string b.y, .slice b.A b.n.attrs.length b.c, .string b.z, .int .i64 b.n.many] 32)) _ 0 _ _ _ HA1.out, cellV (W1.drew.alloc (.cells #[.int .u8 (b.n.kind : Int), .string b.x, .string b.y, .slice b.A b.n.attrs.length b.c, .string b.z, .int .i64 b.n.many] 32)) _ 0 _ _ _ HA2.out, cellV (W1.drew.alloc (.cells #[.int .u8 (b.n.kind : Int), .string b.x, .string b.y, .slice b.A b.n.attrs.length b.c, .string b.z, .int .i64 b.n.many] 32)) _ 1 _ _ _ HA2.out, cellV (W1.drew.alloc (.cells #[.int .u8 (b.n.kind : Int), .string b.x, .string b.y, .slice b.A b.n.attrs.length b.c, .string b.z, .int .i64 b.n.many] 32)) _ 2 _ _ _ HA2.out, cellV (W1.drew.alloc (.cells #[.int .u8 (b.n.kind : Int), .string b.x, .string b.y, .slice b.A b.n.attrs.length b.c, .string b.z, .int .i64 b.n.many] 32)) _ 3 _ _ _ HA2.out, cellV (W1.drew.alloc (.cells #[.int .u8 (b.n.kind : Int), .string b.x, .string b.y, .slice b.A b.n.attrs.length b.c, .string b.z, .int .i64 b.n.many] 32)) _ 4 _ _ _ HA2.out, cellV (W1.drew.alloc (.cells #[.int .u8 (b.n.kind : Int), .string b.x, .string b.y, .slice b.A b.n.attrs.length b.c, .string b.z, .int .i64 b.n.many] 32)) _ 5 _ _ _ HA2.out⟩
  refine hK.out _ _ (fun _ => hS6) (fun _ => ?_)
  clear hK K hS
  try simp only [Act.put, List.setIfInBounds_toArray, List.set_cons_zero, List.set_cons_succ]
  refine stepZ (i := 7) (by kernel_rfl) rfl (fun K hK => ?_)
  refine step_append_lies _ rfl (.tmp 34) (.tmp 36) 24 rfl base 32 i0 (.agg #[.int .u8 0, .string ⟨#[]⟩, .string ⟨#[]⟩, .slice none 0 0, .string ⟨#[]⟩, .int .i64 0]) 6 88 Tryz.underlying24 HI.out HZ0.out HZ1.out HZ2.out rfl (by decide) _ n _ rfl (own_belowK HOWN.out (stpA (Below.refl _ _) _) (Nat.le_refl _)) ⟨W1.heap.size, 0, none⟩ 1 1 [.int .u8 (b.n.kind : Int), .string b.x, .string b.y, .slice b.A b.n.attrs.length b.c, .string b.z, .int .i64 b.n.many] rfl rfl (new_at W1.drew [.int .u8 (b.n.kind : Int), .string b.x, .string b.y, .slice b.A b.n.attrs.length b.c, .string b.z, .int .i64 b.n.many] 32 _ rfl) (by simp [Value.oneCell']) (by decide) (by have := HL.out; unfold maxLen; omega) (by have := HL.out; omega) (by have := HSZ.out; show base ≤ (World.alloc W1 _).heap.size; rw [World.size_alloc]; exact Nat.le_succ_of_le this) (W1.heap.size + 1) (by show (World.alloc W1 _).heap.size = _; rw [World.size_alloc]) ?_
  intro g8 c8 w8 hown8 hgr8 hor hlt8
  have hpush := (HST1.out.below (Below.refl W1.heap.size W1).drew (Nat.le_refl _) (HST1.out.gr.sz)).pushN (b := b) HNL.out HB9.out hown8 hgr8 hor
  have HP8 := Lib.hid hpush.1
  have HF8 := Lib.hid hpush.2
  have st8 : ∀ (q : Nat) (o : Obj), W1.heap[q]? = some o → some q ≠ (Value.slice (some ⟨gn, 0, none⟩) n cn).ownBlock → w8.heap[q]? = some o := fun q o ho hne => by
    have h1 := kept_heap (a := W1.drew) ho (stpA (Below.refl W1.drew.heap.size W1.drew) (.cells #[.int .u8 (b.n.kind : Int), .string b.x, .string b.y, .slice b.A b.n.attrs.length b.c, .string b.z, .int .i64 b.n.many] 32))
    exact (hgr8.block _ (Array.getElem?_eq_some_iff.1 h1).1 hne).trans h1
  have hgl := st8 gs _ HST1.out.box (fun e => by have := (HST1.out.gr.nd.lt _ e.symm).1; have := HST1.out.lo; omega)
  have hbx := st8 w.heap.size _ HBX1.out (fun e => HNB.out e)
  have k8 : w8.cell? ⟨gs, 0, none⟩ = some (.slice (some ⟨gn, 0, none⟩) n cn) ∧ w8.cell? ⟨w.heap.size, 0, none⟩ = some (.int .u8 (b.n.kind : Int)) ∧ w8.cell? ⟨w.heap.size, 1, none⟩ = some (.string b.x) ∧ w8.cell? ⟨w.heap.size, 2, none⟩ = some (.string b.y) ∧ w8.cell? ⟨w.heap.size, 3, none⟩ = some (.slice b.A b.n.attrs.length b.c) ∧ w8.cell? ⟨w.heap.size, 4, none⟩ = some (.string b.z) ∧ w8.cell? ⟨w.heap.size, 5, none⟩ = some (.int .i64 b.n.many) := ⟨cellV w8 _ 0 _ _ _ hgl, cellV w8 _ 0 _ _ _ hbx, cellV w8 _ 1 _ _ _ hbx, cellV w8 _ 2 _ _ _ hbx, cellV w8 _ 3 _ _ _ hbx, cellV w8 _ 4 _ _ _ hbx, cellV w8 _ 5 _ _ _ hbx⟩
  have f8 : w8.frozen? ⟨gs, 0, none⟩ = false := freeV w8 _ 0 _ _ hgl
  have k81 := k8.1
  clear hown8 hgr8 hor hgl hbx st8 hpush
  refine hK.out _ _ (fun _ => k8) (fun _ => ?_)
  clear hK K
  try simp only [Act.put, List.setIfInBounds_toArray, List.set_cons_zero, List.set_cons_succ]
  refine stepZ (i := 8) (by kernel_rfl) rfl (fun K hK => ?_)
  go_simp
  refine hK.out _ _ (fun _ => k8) (fun _ => ?_)
  clear hK K
  try simp only [Act.put, List.setIfInBounds_toArray, List.set_cons_zero, List.set_cons_succ]
  refine takeZ (i := 9) (v := .pointer (some ⟨gs, 0, none⟩)) rfl (by kernel_rfl) (by kernel_rfl) (by kernel_rfl) (by kernel_rfl) (fun _ _ _ h => h) (Or.inl ⟨by rfl, ?_⟩) k8 ?_
  · intro w' hSw; (try dsimp only at hSw); go_simp
  try simp only [Act.put, List.setIfInBounds_toArray, List.set_cons_zero, List.set_cons_succ]
  refine stepZ (i := 10) (by kernel_rfl) rfl (fun K hK => ?_)
  go_simp
  refine hK.out _ _ (fun h => absurd rfl h) (fun _ => ?_)
  clear hK K
  try simp only [Act.put, List.setIfInBounds_toArray, List.set_cons_zero, List.set_cons_succ]
  refine doneZ (by kernel_rfl) ?_ _
  refine NoPanic.normal ?_
  go_wp2_with fail
  (try simp only [Exit.inBlock, Exit.then, Exit.noGoto])
  go_end0
  exact ⟨rfl, _, HP8.out, (((FrP.below HBE.out (by have := HST.out.gr.sz; have := HST.out.gr.lo; have := HST.out.lo; omega)).trans (FrP.below (Below.refl _ _).drew (by have := HSTW.out.gr.sz; have := HSTW.out.gr.lo; have := HSTW.out.lo; omega))).trans HFR1.out).trans ((FrP.below (Below.refl _ _).drew (by have := HST1.out.gr.sz; have := HST1.out.gr.lo; have := HST1.out.lo; omega)).trans HF8.out)⟩
theorem stkput (B gs base hi : Nat) (L : List NB) (O : List Nat) (bb : Bool) (Vn Vo : Value) (b : NB) (w : World) (h : StkSt B gs base hi L O bb Vn Vo w) (hb : NdIn b.n b.x b.y b.z b.A b.c w (fun k => base ≤ k ∧ k < hi ∧ some k ≠ Vn.ownBlock ∧ some k ≠ Vo.ownBlock)) (hl : L.length ≤ 100000) (hl2 : O.length ≤ 100000) (hO : ∀ i ∈ O, i < L.length) (hM : ∀ b ∈ L, 0 ≤ b.n.many ∧ b.n.many ≤ 1000000) :
    Calls Tryz.prog 92 #[.pointer (some ⟨gs, 0, none⟩), .agg #[.int .u8 (b.n.kind : Int), .string b.x, .string b.y, .slice b.A b.n.attrs.length b.c, .string b.z, .int .i64 b.n.many]] w fun e w' => e = .returned (.tuple #[]) ∧ ∃ Vn', StkSt B gs base hi (bumpL O L ++ [b]) O bb Vn' Vo w' ∧ FrP B gs Vn Vo w Vn' Vo w' := by
  rcases List.eq_nil_or_concat O with h0 | ⟨O1, i, h0⟩
  · exact stkput_none B gs base hi L O bb Vn Vo b w h hb hl hl2 h0
  · exact stkput_some B gs base hi L O bb Vn Vo b w h hb hl hl2 O1 i (by rw [h0, List.concat_eq_append]) (hO i (by rw [h0]; simp)) (hM _ (List.getElem_mem _))
theorem pk_drewN (w : World) (q : Nat) : Below w.heap.size w (w.drewN q) := ⟨rfl, (Below.refl w.heap.size w).drew.tape, rfl, Nat.le_refl _, fun _ _ => rfl⟩
theorem strp_ne {a b : ByteArray} (h : ¬ a = b) : (a.toList == b.toList) = false := beq_eq_false_iff_ne.2 fun e => h (by rw [Lib.toList_data, Lib.toList_data] at e; rw [ba_eq5 a, ba_eq5 b, e])
theorem strp_some {x : ByteArray} (h : ¬ x = ⟨#[]⟩) : x.toList.isEmpty = false := by
  rw [Lib.toList_data]
  cases hx : x.data.toList with
  | nil => exact absurd (by rw [ba_eq5 x, hx]) h
  | cons _ _ => rfl
theorem StkSt.shutO {B gs base hi c m k : Nat} {L : List NB} {O : List Nat} {bb : Bool} {Vn : Value} {A : Option Addr} {wr : World} (h : StkSt B gs base hi L O bb Vn (.slice A m c) wr) (hm : O.length = m) (hk : k + 1 = m) :
    StkSt B gs base hi L O.dropLast bb Vn (.slice A k c) (wr.setCell ⟨gs, 1, none⟩ (.slice A k c)) ∧ Below B wr (wr.setCell ⟨gs, 1, none⟩ (.slice A k c)) := by
  have hlo := h.lo
  have hbz := h.gr.lo
  have hsz := h.gr.sz
  exact ⟨⟨heap_setCell_same wr gs 1 _ _ _ h.box, (h.gr.shut hm hk).keep (fun q hq _ => heap_setCell_other _ _ _ _ (by show q ≠ gs; omega)) (Nat.le_refl _) (by simp [World.setCell]; omega), h.lo⟩, (Below.refl B wr).setCell (p := ⟨gs, 1, none⟩) hlo.1 _⟩
theorem stkshut_none (B gs base hi : Nat) (L : List NB) (O : List Nat) (bb : Bool) (Vn Vo : Value) (u : ByteArray) (w : World) (h : StkSt B gs base hi L O bb Vn Vo w) (hl : L.length ≤ 100000) (hl2 : O.length ≤ 100000) (hO : O = []) :
    Calls Tryz.prog 75 #[.pointer (some ⟨gs, 0, none⟩), .string u] w fun e w' => e = .returned (.int .i64 80) ∧ Below w.heap.size w w' := by
  obtain ⟨Ao, co, rfl⟩ := own_form2 h.gr.op
  subst hO
  have k0 := cellV w _ 0 _ _ _ h.box
  have k1 : w.cell? ⟨gs, 1, none⟩ = some (.slice Ao 0 co) := cellV w _ 1 _ _ _ h.box
  clear h hl hl2
  go_enter Tryz.func75, Tryz.ntmps75
  go_wp2_with fail
  go_quiet (fail)
  go_wp2_with fail
  go_ret
  exact ⟨rfl, pk_drewN _ _⟩
theorem stkshut_some (B gs base hi : Nat) (L : List NB) (O : List Nat) (bb : Bool) (Vn Vo : Value) (u : ByteArray) (w : World) (h : StkSt B gs base hi L O bb Vn Vo w) (hl : L.length ≤ 100000) (hl2 : O.length ≤ 100000) (O1 : List Nat) (i : Nat) (hO : O = O1 ++ [i]) (hi' : i < L.length) (q : Bool) (hq : decide ((L[i]'hi').y = u) = q) :
    Calls Tryz.prog 75 #[.pointer (some ⟨gs, 0, none⟩), .string u] w fun e w' => if q = true then e = .returned (.int .i64 0) ∧ Below B w w' ∧ ∃ Vo', StkSt B gs base hi L O.dropLast bb Vn Vo' w' else e = .returned (.int .i64 80) ∧ Below w.heap.size w w' := by
  obtain ⟨Ao, co, rfl⟩ := own_form2 h.gr.op
  obtain ⟨An, cn, rfl⟩ := own_form2 h.gr.nd
  obtain ⟨n, hn⟩ : ∃ n, L.length = n := ⟨_, rfl⟩
  obtain ⟨m, hm⟩ : ∃ m, O.length = m := ⟨_, rfl⟩
  obtain ⟨k, hk⟩ : ∃ k, O1.length = k := ⟨_, rfl⟩
  have hmk : m = k + 1 := by rw [← hm, hO, List.length_append, hk]; rfl
  subst hmk
  obtain ⟨yy, hyv⟩ : ∃ yy, (L[i]'hi').y = yy := ⟨_, rfl⟩
  obtain ⟨go, _, rfl, _, _, _, hcO⟩ := ownp_row h.gr.op (by omega)
  obtain ⟨gn, curn, rfl, hgn, hgb, hgl0, hcN⟩ := ownp_row h.gr.nd (by omega)
  have hOk : O[k]? = some i := by rw [hO, List.getElem?_append_right (by omega), hk, Nat.sub_self]; rfl
  have kO := hcO k _ (zs_cell hOk)
  have kY := hcN (i * 6 + 2) _ (nb_cell2 hi')
  rw [hyv] at kY hq
  simp only [hn, hm] at h
  have hg0 := h.box
  have k0 := cellV w _ 0 _ _ _ hg0
  have k1 := cellV w _ 1 _ _ _ hg0
  have f1 := freeV w gs 1 _ _ hg0
  have bk : (0 : Int) ≤ (k : Int) ∧ (k : Int) ≤ 100000 := by omega
  have bi : (0 : Int) ≤ (i : Int) ∧ (i : Int) < (n : Int) ∧ (n : Int) ≤ 100000 := by omega
  have bkk : ¬ ((k : Int) + 1 ≤ (k : Int)) := by omega
  have bco : (k : Int) ≤ (co : Int) := by
    rcases h.gr.op.2 with ⟨e0, _⟩ | ⟨g', cap, cur, hv, _, _, h1, _⟩
    · cases e0
    · injection hv with _ _ e3
      omega
  have HST := Lib.hid h
  have HM := Lib.hid hm
  have HN := Lib.hid hn
  clear h hl hl2 hO hi' hcO hcN hgn hgb hgl0 hyv hn hm hk hOk
  cases q with
  | true =>
    have hyu : yy = u := of_decide_eq_true hq
    subst hyu
    clear hq
    go_enter Tryz.func75, Tryz.ntmps75
    go_wp2_with fail
    go_quiet (fail)
    go_wp2_with fail
    go_ret

    have hs := (HST.out.below (pk_drewN w nq) (Nat.le_refl _) HST.out.gr.sz).shutO HM.out rfl
    rw [HN.out]
    exact ⟨rfl, (Below.mono (pk_drewN w nq) (by have := HST.out.lo; have := HST.out.gr.lo; have := HST.out.gr.sz; omega)).trans hs.2, _, hs.1⟩
  | false =>
    have hyu : ¬ yy = u := of_decide_eq_false hq
    have hyt := strp_ne hyu
    clear hq
    go_enter Tryz.func75, Tryz.ntmps75
    go_wp2_with fail
    go_quiet (fail)
    go_wp2_with fail
    go_ret

    exact ⟨rfl, pk_drewN _ _⟩
theorem dropW_nil {α : Type} (p : α → Bool) : ∀ l : List α, (∀ x ∈ l.dropWhile p, p x = true) → l.dropWhile p = []
  | [], _ => rfl
  | a :: l, h => by
    by_cases hp : p a = true
    · rw [List.dropWhile_cons_of_pos hp] at h ⊢
      exact dropW_nil p l h
    · rw [List.dropWhile_cons_of_neg hp] at h
      exact absurd (h a List.mem_cons_self) hp
theorem dropW_iff {α : Type} (p : α → Bool) : ∀ l : List α, l.dropWhile p = [] ↔ ∀ x ∈ l, p x = true
  | [] => by simp
  | a :: l => by
    by_cases hp : p a = true
    · rw [List.dropWhile_cons_of_pos hp, dropW_iff p l]
      simp [hp]
    · rw [List.dropWhile_cons_of_neg hp]
      simp [hp]
theorem trimS_nil (l : List UInt8) : Lib.trimS l [32, 9, 10, 13] = [] ↔ l.all blk = true := by
  have hc : ∀ x : UInt8, List.contains [32, 9, 10, 13] x = blk x := fun x => by
    unfold blk
    simp [List.contains, List.elem, Bool.or_assoc]
    rcases (x == 32), (x == 9), (x == 10), (x == 13) with ⟨_ | _, _ | _, _ | _, _ | _⟩ <;> rfl
  unfold Lib.trimS Lib.trimLeftS Lib.trimRightS
  rw [List.all_eq_true]
  constructor
  · intro h x hx
    have h1 : ∀ x ∈ l.reverse.dropWhile (List.contains [32, 9, 10, 13] ·), List.contains [32, 9, 10, 13] x = true := fun x hx => (dropW_iff _ _).1 h x (List.mem_reverse.2 hx)
    have h2 := dropW_nil _ _ h1
    rw [← hc]
    exact (dropW_iff _ _).1 h2 x (List.mem_reverse.2 hx)
  · intro h
    have h2 : l.reverse.dropWhile (List.contains [32, 9, 10, 13] ·) = [] := (dropW_iff _ _).2 fun x hx => by rw [hc]; exact h x (List.mem_reverse.1 hx)
    rw [h2]
    rfl
theorem trim10 (u : ByteArray) (w : World) (hu : u.size ≤ 1000000) : Calls Tryz.prog 93 #[.string u, .string ⟨#[32, 9, 10, 13]⟩] w fun e w' => ∃ x : ByteArray, e = .returned (.string x) ∧ Below w.heap.size w w' ∧ (u.data.toList.all blk = true → x = ⟨#[]⟩) ∧ (u.data.toList.all blk = false → ¬ x = ⟨#[]⟩) :=
  (Any.strings_Trim_laid Tryz.lays160 (by kernel_rfl) u ⟨#[32, 9, 10, 13]⟩ w (by omega) (by decide) (ascii_of_all (by decide))).mono fun e w' h => ⟨_, h.1, h.2, fun hq => by rw [(trimS_nil _).2 hq], fun hq e => by
    have : Lib.trimS u.data.toList [32, 9, 10, 13] = [] := by
      have := congrArg (fun b : ByteArray => b.data.toList) e
      simpa using this
    rw [(trimS_nil _).1 this] at hq
    cases hq⟩
theorem stkwords_none (B gs base hi : Nat) (L : List NB) (O : List Nat) (bb : Bool) (Vn Vo : Value) (u : ByteArray) (w : World) (h : StkSt B gs base hi L O bb Vn Vo w) (hl : L.length ≤ 100000) (hl2 : O.length ≤ 100000) (hO : O = []) (hu : u.size ≤ 1000000) (q : Bool) (hq : u.data.toList.all blk = q) (r : Int) (hr : r = if q = true then 0 else 80) :
    Calls Tryz.prog 77 #[.pointer (some ⟨gs, 0, none⟩), .string u] w fun e w' => e = .returned (.int .i64 r) ∧ Below w.heap.size w w' := by
  obtain ⟨Ao, co, rfl⟩ := own_form2 h.gr.op
  subst hO
  have k1 : w.cell? ⟨gs, 1, none⟩ = some (.slice Ao 0 co) := cellV w _ 1 _ _ _ h.box
  have HT := Lib.hid (trim10 u w hu)
  clear h hl hl2
  cases q with
  | true =>
    obtain rfl : r = 0 := hr
    have HQ := Lib.hid hq
    clear hq
    go_enter Tryz.func77, Tryz.ntmps77
    go_wp2_with (first
      | (go_at_call 93; (with_reducible refine (HT.out).mono ?_); rintro e1 w1 ⟨x, rfl, hb1, hx1, hx2⟩; obtain rfl := hx1 HQ.out; clear hx1 hx2)
      | fail)
    go_ret
    exact ⟨rfl, hb1⟩
  | false =>
    obtain rfl : r = 80 := hr
    have HQ := Lib.hid hq
    clear hq
    go_enter Tryz.func77, Tryz.ntmps77
    go_wp2_with (first
      | (go_at_call 93; (with_reducible refine (HT.out).mono ?_); rintro e1 w1 ⟨x, rfl, hb1, hx1, hx2⟩; have hx := strp_some (hx2 HQ.out); clear hx1 hx2)
      | fail)
    go_ret
    exact ⟨rfl, hb1⟩
theorem stkwords_open (B gs base hi : Nat) (L : List NB) (O : List Nat) (bb : Bool) (Vn Vo : Value) (u : ByteArray) (w : World) (h : StkSt B gs base hi L O bb Vn Vo w) (hl : L.length ≤ 100000) (hl2 : O.length ≤ 100000) (hO0 : O ≠ []) (hu : u.size ≤ 1000000) (hO : ∀ i ∈ O, i < L.length) (hM : ∀ b ∈ L, 0 ≤ b.n.many ∧ b.n.many ≤ 1000000) :
    Calls Tryz.prog 77 #[.pointer (some ⟨gs, 0, none⟩), .string u] w fun e w' => e = .returned (.int .i64 0) ∧ Below B w w' ∧ ∃ Vn', StkSt B gs base hi (bumpL O L ++ [(⟨⟨2, [], [], [], u.data.toList, 0⟩, ⟨#[]⟩, ⟨#[]⟩, u, none, 0⟩ : NB)]) O bb Vn' Vo w' := by
  have HPT : Hid (∀ W, Below w.heap.size w W → Calls Tryz.prog 92 #[.pointer (some ⟨gs, 0, none⟩), .agg #[.int .u8 2, .string ⟨#[]⟩, .string ⟨#[]⟩, .slice none 0 0, .string u, .int .i64 0]] W fun e w' => e = .returned (.tuple #[]) ∧ ∃ Vn', StkSt B gs base hi (bumpL O L ++ [(⟨⟨2, [], [], [], u.data.toList, 0⟩, ⟨#[]⟩, ⟨#[]⟩, u, none, 0⟩ : NB)]) O bb Vn' Vo w' ∧ FrP B gs Vn Vo W Vn' Vo w') := Lib.hid fun W hW => stkput B gs base hi L O bb Vn Vo (⟨⟨2, [], [], [], u.data.toList, 0⟩, ⟨#[]⟩, ⟨#[]⟩, u, none, 0⟩ : NB) W (h.below hW (Nat.le_refl _) (Nat.le_trans h.gr.sz hW.size)) ⟨rfl, rfl, rfl, RdS.nil _ _ _, Nat.le_refl _, Nat.zero_le _, fun _ => rfl, (by show 2 < 256; decide), (by show (-9223372036854775808 : Int) ≤ 0; decide), (by show (0 : Int) ≤ 9223372036854775807; decide)⟩ hl hl2 hO hM
  have HBW : Hid (∀ W, Below w.heap.size w W → Below B w W) := Lib.hid fun W hW => hW.mono (by have := h.lo; have := h.gr.lo; have := h.gr.sz; omega)
  obtain ⟨Ao, co, rfl⟩ := own_form2 h.gr.op
  obtain ⟨m, hm⟩ : ∃ m, O.length = m := ⟨_, rfl⟩
  have k1 := cellV w _ 1 _ _ _ h.box
  rw [hm] at k1
  have bm : (0 : Int) < (m : Int) := by
    have := List.length_pos_iff.2 hO0
    omega
  have HU := Lib.hid hu
  clear h hl hl2 hO hM hO0 hu
  go_enter Tryz.func77, Tryz.ntmps77
  go_wp2_with (first
    | (go_at_call 38; (with_reducible refine (clone9 u _ HU.out).mono ?_); rintro e1 w1 ⟨rfl, hb1⟩; have HB1 := Lib.hid hb1; clear hb1)
    | (go_at_call 92; (with_reducible refine (HPT.out _ HB1.out).mono ?_); rintro e2 w2 ⟨rfl, Vn', hs2, hf2⟩; have HS2 := Lib.hid hs2; have HF2 := Lib.hid hf2; clear hs2 hf2)
    | fail)
  go_ret
  rw [← hm] at *
  exact ⟨rfl, (HBW.out _ HB1.out).trans HF2.out.bel, _, HS2.out⟩
end Hx
end Go.Proofs.YtlhjcdkkmloamaaGreatDoor
