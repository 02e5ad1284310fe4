/-
  Texts of one seat, put together: SpaV.
-/
import Derived.Test.YteobcohjikjalaaGreatDoorSp44
import Derived.Test.YteobcohjikjalaaGreatDoorSp41
set_option linter.unusedSimpArgs false
namespace Go.Proofs.YteobcohjikjalaaGreatDoor
open Go.RowKit
namespace Hx
open Lx Tr Tx Nmb Es Ns
set_option maxRecDepth 100000
set_option maxHeartbeats 16000000
set_option linter.unusedVariables false
theorem numD_small : ∀ (S : List (List UInt8)) (i k : Nat), i + S.length ≤ 500000 → (∀ s ∈ S, s.length ≤ k) → ∀ a ∈ numD i S, a.space.length ≤ k + 16 ∧ a.name.length ≤ k + 16 ∧ a.value.length ≤ k + 16
  | [], i, k, _, _, a, ha => by cases ha
  | s :: S, i, k, hi, hS, a, ha => by
    rw [List.length_cons] at hi
    rw [numD] at ha
    rcases List.mem_cons.1 ha with rfl | ha
    · have h1 := hS s List.mem_cons_self
      have h2 := prefN_len i (by omega)
      refine ⟨Nat.zero_le _, ?_, by show s.length ≤ k + 16; omega⟩
      show (xmlns5 ++ 58 :: prefN i).length ≤ k + 16
      rw [List.length_append, List.length_cons]
      have : xmlns5.length = 5 := rfl
      omega
    · exact numD_small S (i + 1) k (by omega) (fun s hs => hS s (List.mem_cons_of_mem _ hs)) a ha
theorem bareA_small {S : List (List UInt8)} {k : Nat} {a : At} (hS : S.length ≤ 500000) (h : a.space.length ≤ k ∧ a.name.length ≤ k ∧ a.value.length ≤ k) : (bareA S a).space.length ≤ k + 16 ∧ (bareA S a).name.length ≤ k + 16 ∧ (bareA S a).value.length ≤ k + 16 := by
  obtain ⟨h1, h2, h3⟩ := h
  have h4 := prefN_len (S.idxOf a.space) (by have := List.idxOf_le_length (a := a.space) (l := S); omega)
  have h5 : xml3.length = 3 := rfl
  unfold bareA
  split
  · exact ⟨Nat.zero_le _, by show a.name.length ≤ _; omega, by show a.value.length ≤ _; omega⟩
  · split
    · refine ⟨Nat.zero_le _, ?_, by show a.value.length ≤ _; omega⟩
      show (xml3 ++ 58 :: a.name).length ≤ _
      rw [List.length_append, List.length_cons]
      omega
    · refine ⟨Nat.zero_le _, ?_, by show a.value.length ≤ _; omega⟩
      show (prefN (S.idxOf a.space) ++ 58 :: a.name).length ≤ _
      rw [List.length_append, List.length_cons]
      omega
theorem bareN_small {k : Nat} (hk : k ≤ 900000) (o : List UInt8) {n : Nd} (h : SmallU k n) : SmallN (bareN o n) := by
  have hl := spacesL_len n.attrs []
  rw [List.length_nil] at hl
  have ha := h.attrs
  refine ⟨Nat.zero_le _, Nat.le_trans h.name (by omega), Nat.zero_le _, ?_, fun a hm => ?_⟩
  · show (bareL o n).length ≤ _
    unfold bareL
    rw [List.length_append, List.length_append, numD_len, List.length_map]
    have := ownD_len o n
    omega
  · have hm : a ∈ bareL o n := hm
    unfold bareL at hm
    rcases List.mem_append.1 hm with hm | hm
    · unfold ownD at hm
      split at hm
      · cases hm
      · obtain rfl := List.mem_singleton.1 hm
        exact ⟨Nat.zero_le _, by show xmlns5.length ≤ 1000000; decide, Nat.le_trans h.space (by omega)⟩
    · rcases List.mem_append.1 hm with hm | hm
      · obtain ⟨h1, h2, h3⟩ := numD_small (spacesL [] n.attrs) 0 k (by omega) (fun s hs => by
          rcases (spacesL_mem n.attrs []).2.2 s hs with h0 | ⟨b, hb, rfl, _⟩
          · cases h0
          · exact (h.each b hb).1) a hm
        exact ⟨by omega, by omega, by omega⟩
      · obtain ⟨b, hb, rfl⟩ := List.mem_map.1 hm
        obtain ⟨h1, h2, h3⟩ := bareA_small (S := spacesL [] n.attrs) (by omega) (h.each b hb)
        exact ⟨by omega, by omega, by omega⟩
theorem bare_small {k : Nat} (hk : k ≤ 900000) {v : List Nd} (o : List UInt8) (h : ∀ n ∈ v, SmallU k n) : ∀ m ∈ (bareW v o).1.1, SmallN m :=
  (walkD_prop (P := fun _ => True) (Q := SmallU k) (W := SmallN) (fun o n _ hn => ⟨bareN_small hk o hn, trivial⟩) (fun n hn => hn.to (by omega)) 12 o v trivial h).1
theorem bareR_small {k : Nat} (hk : k ≤ 900000) {v l : List Nd} {o : List UInt8} {z : Int} (h : ∀ n ∈ v, SmallU k n) (hq : bareR v o = (l, z)) : ∀ m ∈ l, SmallN m := by
  unfold bareR at hq
  split at hq
  · split at hq
    · injection hq with hq _
      rw [← hq]
      exact bare_small hk o h
    · injection hq with hq _
      rw [← hq]
      exact fun m hm => by cases hm
  · injection hq with hq _
    rw [← hq]
    exact fun m hm => by cases hm
theorem bareR_no {v l : List Nd} {o : List UInt8} {z : Int} (hq : bareR v o = (l, z)) (h : ¬ (mayS v = true ∧ okT o = true ∧ o ≠ ofXml ∧ o ≠ ofXmlns)) : l = [] ∧ z = 8 := by
  unfold bareR at hq
  rw [if_neg h] at hq
  injection hq with h1 h2
  exact ⟨h1.symm, h2.symm⟩
theorem bare_to (A : Option Addr) (n c : Nat) (v : List Nd) (o : ByteArray) (w : World) (hr : RdB NdS w A v) (hn : v.length = n) (hmax : n ≤ 9223372036854775807) (hsm : n ≤ 512 → ∀ m ∈ v, SmallU 900000 m) (hos : o.size ≤ 1000000) (hT : TbH w) (l : List Nd) (z : Int) (hq : bareR v o.data.toList = (l, z)) :
    Calls Tryz.prog 8 #[.slice A n c, .string o] w (NodesTo l z w) := by
  have hmf : ∀ (fn : Fn) (first cap : Array Value) (w : World), (Instr.makeFunc fn first cap).run Tryz.prog w = .ok (.func fn first cap) w := fun _ _ _ _ => rfl
  have HB0 : Hid (Below w.heap.size w (w.alloc (.cells #[.slice A n c] 22))) := Lib.hid (stpA (Below.refl _ _) _)
  have HBX : Hid (∀ w1, Below (w.alloc (.cells #[.slice A n c] 22)).heap.size (w.alloc (.cells #[.slice A n c] 22)) w1 → w1.heap[w.heap.size]? = some (.cells #[.slice A n c] 22 (0, 0))) := Lib.hid fun w1 hb => kept_heap (heap_alloc_new w _) hb
  have hsm9 : n ≤ 512 → ∀ m ∈ v, SmallN m := fun h m hm => (hsm h m hm).to (by decide)
  have HC : Hid (∀ W, Below w.heap.size w W → Calls Tryz.prog 11 #[.slice A n c] W fun e w' => e = .returned (.int .i64 (checkS v)) ∧ Below W.heap.size W w') := Lib.hid fun W hW => check11 A n c v W (hr.on hW) hn hmax hsm9 _ rfl
  cases hm : mayS v with
  | false =>
    have hc : checkS v = 8 := by unfold checkS; rw [hm]; rfl
    rw [hc] at HC
    obtain ⟨rfl, rfl⟩ := bareR_no hq (fun h => by rw [hm] at h; cases h.1)
    clear hr hn hmax hsm hsm9 hq hos hm hT hc
    go_enter Tryz.func8, Tryz.ntmps8
    go_wp2_with (first
      | (go_at_call 11; (with_reducible refine (HC.out _ HB0.out).mono ?_); rintro e1 w1 ⟨rfl, hb1⟩; have HB1 := Lib.hid hb1; have kv1 := cell_of_one (HBX.out w1 hb1); clear hb1)
      | fail)
    go_ret2
    exact NodesTo.no rfl (stp HB0.out HB1.out)
  | true =>
    have hc : checkS v = 0 := by unfold checkS; rw [hm]; rfl
    rw [hc] at HC
    have hmv := (mayS_iff.1 hm).2
    have h5 := (mayV_iff.1 hmv).1
    have hrest := (mayV_iff.1 hmv).2.2
    have hs := hsm (by omega)
    have hs9 := hsm9 (by omega)
    obtain ⟨er, her⟩ : ∃ er, chkE o = er := ⟨_, rfl⟩
    have HCT : Hid (∀ W : World, Calls Tryz.prog 25 #[.string o] W fun e w' => e = .returned (.int .i64 er) ∧ Below W.heap.size W w') := Lib.hid fun W => check5 o W hos er her
    obtain ⟨a2, h2⟩ : ∃ a, decide (o.data.toList = ofXml) = a := ⟨_, rfl⟩
    obtain ⟨a3, h3⟩ : ∃ a, decide (o.data.toList = ofXmlns) = a := ⟨_, rfl⟩
    have f2 := eq_lit o ofXml a2 h2
    have f3 := eq_lit o ofXmlns a3 h3
    unfold ofXml at f2
    unfold ofXmlns at f3
    cases hok : okT o.data.toList with
    | false =>
      have h0 : ¬ er = 0 := by rw [← her]; exact chk9_bad hok
      obtain ⟨rfl, rfl⟩ := bareR_no hq (fun h => by rw [hok] at h; cases h.2.1)
      clear hr hn hmax hsm hsm9 hq hos hm hT hc hmv h5 hrest hs hs9 h2 h3 her hok
      go_enter Tryz.func8, Tryz.ntmps8
      go_wp2_with (first
        | (go_at_call 11; (with_reducible refine (HC.out _ HB0.out).mono ?_); rintro e1 w1 ⟨rfl, hb1⟩; have HB1 := Lib.hid hb1; have kv1 := cell_of_one (HBX.out w1 hb1); clear hb1)
        | (go_at_call 25; (with_reducible refine (HCT.out w1).mono ?_); rintro e2 w2 ⟨rfl, hb2⟩; have HB2 := Lib.hid hb2; clear hb2)
        | fail)
      go_ret2
      exact NodesTo.no rfl (stp (stp HB0.out HB1.out) HB2.out)
    | true =>
      obtain rfl : er = 0 := by rw [← her]; exact chk9_ok hok
      cases a2 with
      | true =>
        obtain ⟨rfl, rfl⟩ := bareR_no hq (fun h => h.2.2.1 (of_decide_eq_true h2))
        clear hr hn hmax hsm hsm9 hq hos hm hT hc hmv h5 hrest hs hs9 h2 h3 her hok
        go_enter Tryz.func8, Tryz.ntmps8
        go_wp2_with (first
          | (go_at_call 11; (with_reducible refine (HC.out _ HB0.out).mono ?_); rintro e1 w1 ⟨rfl, hb1⟩; have HB1 := Lib.hid hb1; have kv1 := cell_of_one (HBX.out w1 hb1); clear hb1)
          | (go_at_call 25; (with_reducible refine (HCT.out w1).mono ?_); rintro e2 w2 ⟨rfl, hb2⟩; have HB2 := Lib.hid hb2; clear hb2)
          | fail)
        go_ret2
        exact NodesTo.no rfl (stp (stp HB0.out HB1.out) HB2.out)
      | false =>
        cases a3 with
        | true =>
          obtain ⟨rfl, rfl⟩ := bareR_no hq (fun h => h.2.2.2 (of_decide_eq_true h3))
          clear hr hn hmax hsm hsm9 hq hos hm hT hc hmv h5 hrest hs hs9 h2 h3 her hok
          go_enter Tryz.func8, Tryz.ntmps8
          go_wp2_with (first
            | (go_at_call 11; (with_reducible refine (HC.out _ HB0.out).mono ?_); rintro e1 w1 ⟨rfl, hb1⟩; have HB1 := Lib.hid hb1; have kv1 := cell_of_one (HBX.out w1 hb1); clear hb1)
            | (go_at_call 25; (with_reducible refine (HCT.out w1).mono ?_); rintro e2 w2 ⟨rfl, hb2⟩; have HB2 := Lib.hid hb2; clear hb2)
            | fail)
          go_ret2
          exact NodesTo.no rfl (stp (stp HB0.out HB1.out) HB2.out)
        | false =>
          have hp0 : 0 < v.length := by
            obtain ⟨_, ⟨m, l, rfl, _⟩, _⟩ := mayV_iff.1 hmv
            simp
          obtain ⟨WW, hWW⟩ : ∃ WW, bareW v o.data.toList = WW := ⟨_, rfl⟩
          have hlz : (l, z) = if WW.1.2 = true then (WW.1.1, 0) else ([], 4) := by
            rw [← hq]
            unfold bareR
            rw [if_pos ⟨hm, hok, of_decide_eq_false h2, of_decide_eq_false h3⟩, hWW]
          have hlen : WW.1.2 = true → WW.1.1.length ≤ 512 := fun _ => by
            have := (walkD_rest (f := bareF) (dn := bareDn) 12 v [] o.data.toList hrest).2
            rw [show walkD bareF bareDn 12 o.data.toList v = bareW v o.data.toList from rfl, hWW] at this
            simp at this
            omega
          have hsmall : ∀ m ∈ WW.1.1, SmallN m := fun m hm => by
            rw [← hWW] at hm
            exact bare_small (by decide) o.data.toList hs m hm
          obtain ⟨qq, hqq⟩ : ∃ qq, WW.1.2 = qq := ⟨_, rfl⟩
          have HCALL : Hid (∀ (w2 : World), Below w.heap.size w w2 → w2.heap[w.heap.size]? = some (.cells #[.slice A n c] 22 (0, 0)) →
              Calls Tryz.prog 26 #[.string o, .pointer (some ⟨w.heap.size, 0, none⟩), .pointer (some ⟨w2.heap.size, 0, none⟩), .pointer (some ⟨w2.heap.size + 1, 0, none⟩)] ((w2.alloc (.cells #[.slice none 0 0] 22)).alloc (.cells #[.func (.func 26) #[] #[.pointer (some ⟨w.heap.size, 0, none⟩), .pointer (some ⟨w2.heap.size, 0, none⟩), .pointer (some ⟨w2.heap.size + 1, 0, none⟩)]] 55)) fun e w' => ∃ (A' : Option Addr) (k' c' : Nat), e = .returned (.bool qq) ∧ Below w.heap.size w w' ∧ w'.heap[w2.heap.size]? = some (.cells #[.slice A' k' c'] 22 (0, 0)) ∧ (WW.1.2 = true → RdB NdS w' A' WW.1.1 ∧ WW.1.1.length = k')) := Lib.hid fun w2 hb hv => by
            have hst := rw_made (clo := barClo w.heap.size w2.heap.size (w2.heap.size + 1)) (tc := 55) (c := c) hr hb (by rw [hn]; exact hv)
            have hbw := hb.trans ((stpA (stpA (Below.refl w2.heap.size w2) (.cells #[.slice none 0 0] 22)) (.cells #[barClo w.heap.size w2.heap.size (w2.heap.size + 1)] 55)).mono hb.size)
            refine (bar_all _ _ _ _ _ A c v h5 hs9 (may_ndOk hmv) 12 o [] (.slice none 0 0) [] _ (fun W hW => hT.to (hbw.trans hW)) hp0 hrest hst).mono ?_
            rintro e w' ⟨M, V', rfl, hf, hs2, hM⟩
            rw [List.nil_append] at hs2
            rw [List.length_nil, List.drop_zero, show walkD bareF bareDn 12 o.data.toList v = bareW v o.data.toList from rfl, hWW] at hM ⊢
            obtain ⟨A1, c1, rfl, hrd⟩ := hs2.read
            refine ⟨A1, M.length, c1, by rw [hqq], hbw.trans hf.bel, hs2.hl, fun hh => ?_⟩
            rw [hM hh] at hrd
            exact ⟨hrd, by rw [← hM hh, List.length_map]⟩
          have HLZ := Lib.hid hlz
          have HQQ := Lib.hid hqq
          have HSM := Lib.hid hsmall
          have HLEN := Lib.hid hlen
          clear hr hn hmax hsm hsm9 hq hos hm hT hc hmv h5 hrest hs hs9 h2 h3 her hok hp0 hWW hlz hlen hsmall hqq
          go_enter Tryz.func8, Tryz.ntmps8
          cases qq with
          | false =>
            have hlz : l = [] ∧ z = 4 := by
              have := HLZ.out
              rw [HQQ.out] at this
              injection this with h1 h2
              exact ⟨h1, h2⟩
            obtain ⟨rfl, rfl⟩ := hlz
            go_wp2_with (first
              | (go_at_call 11; (with_reducible refine (HC.out _ HB0.out).mono ?_); rintro e1 w1 ⟨rfl, hb1⟩; have HB1 := Lib.hid hb1; have kv1 := cell_of_one (HBX.out w1 hb1); clear hb1)
              | (go_at_call 25; (with_reducible refine (HCT.out w1).mono ?_); rintro e2 w2 ⟨rfl, hb2⟩; have HB2 := Lib.hid hb2; clear hb2)
              | (go_at_call 26; (with_reducible refine (HCALL.out w2 (stp (stp HB0.out HB1.out) HB2.out) (HBX.out w2 (stp HB1.out HB2.out))).mono ?_); rintro e8 w8 ⟨A8, k8, c8, rfl, hb8, hl8, hm8⟩; have HB8 := Lib.hid hb8; clear hb8 hl8 hm8)
              | fail)
            go_ret2
            exact NodesTo.no rfl HB8.out
          | true =>
            have hlz : l = WW.1.1 ∧ z = 0 := by
              have := HLZ.out
              rw [HQQ.out] at this
              injection this with h1 h2
              exact ⟨h1, h2⟩
            obtain ⟨rfl, rfl⟩ := hlz
            go_wp2_with (first
              | (go_at_call 11; (with_reducible refine (HC.out _ HB0.out).mono ?_); rintro e1 w1 ⟨rfl, hb1⟩; have HB1 := Lib.hid hb1; have kv1 := cell_of_one (HBX.out w1 hb1); clear hb1)
              | (go_at_call 25; (with_reducible refine (HCT.out w1).mono ?_); rintro e2 w2 ⟨rfl, hb2⟩; have HB2 := Lib.hid hb2; clear hb2)
              | (go_at_call 26; (with_reducible refine (HCALL.out w2 (stp (stp HB0.out HB1.out) HB2.out) (HBX.out w2 (stp HB1.out HB2.out))).mono ?_); rintro e8 w8 ⟨A8, k8, c8, rfl, hb8, hl8, hm8⟩; have HB8 := Lib.hid hb8; have kl8 := cell_of_one hl8; have HTW := Lib.hid (twin10 A8 k8 c8 WW.1.1 w8 (hm8 HQQ.out).1 (hm8 HQQ.out).2 (by have := HLEN.out HQQ.out; have := (hm8 HQQ.out).2; omega) HSM.out); clear hb8 hl8 hm8)
              | (go_at_call 21; (with_reducible refine (HTW.out).mono ?_); rintro e9 w9 ⟨A9, c9, rfl, ho9, hb9⟩; have HO9 := Lib.hid ho9; have HB9 := Lib.hid hb9; clear ho9 hb9)
              | fail)
            go_ret2
            exact ⟨A9, c9, rfl, ⟨HO9.out.rd.mono fun b hb => ⟨Nat.le_trans HB8.out.size hb.1, hb.2.1, hb.2.2.1, fun _ => hb.2.2.2 hb.1⟩, HO9.out.le, HO9.out.cm, HO9.out.nil⟩, stp HB8.out HB9.out⟩
end Hx
end Go.Proofs.YteobcohjikjalaaGreatDoor
