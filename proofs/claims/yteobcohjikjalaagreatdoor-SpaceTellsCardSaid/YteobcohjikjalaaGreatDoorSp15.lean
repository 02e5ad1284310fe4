/-
  Texts of one seat, put together: TreA, TreE.
-/
import Derived.Test.YteobcohjikjalaaGreatDoorSp14
import Derived.Test.YteobcohjikjalaaGreatDoorSp12
import Derived.Test.YteobcohjikjalaaGreatDoorSp10
import Derived.Test.YteobcohjikjalaaGreatDoorSp09
import Derived.RegionTactic
import Derived.ChangeAlike
import Derived.Maps.OwnSet
import Derived.Test.YteobcohjikjalaaGreatDoorSp03
import Derived.Deep.QuietTactic
import Derived.BigQuiet
set_option linter.unusedSimpArgs false
namespace Go.Proofs.YteobcohjikjalaaGreatDoor
open Go.RowKit
namespace Hx
open Lx Tr Tx Nmb Es
set_option maxRecDepth 100000
set_option maxHeartbeats 16000000
set_option linter.unusedVariables false
theorem istext (s : ByteArray) (w : World) (hm : s.size ≤ 1000000) (b : Bool) (h : okT s.data.toList = b) :
    Calls Tryz.prog 77 #[.string s] w fun e w' => e = .returned (.bool b) ∧ Below w.heap.size w w' := by
  cases b with
  | true =>
    have HC := Lib.hid (check5 s w hm 0 (chk9_ok h))
    clear hm h
    go_enter Tryz.func77, Tryz.ntmps77
    go_wp2_with (first
      | (go_at_call 25; (with_reducible refine (HC.out).mono ?_); rintro e1 w1 ⟨rfl, hb1⟩)
      | fail)
    go_ret
    exact ⟨rfl, hb1⟩
  | false =>
    obtain ⟨q, hq⟩ : ∃ q, chkE s = q := ⟨_, rfl⟩
    have h0 : (q == 0) = false := by
      have := chk9_bad h
      rw [hq] at this
      simpa using this
    have HC := Lib.hid (check5 s w hm q hq)
    clear hm h hq
    go_enter Tryz.func77, Tryz.ntmps77
    go_wp2_with (first
      | (go_at_call 25; (with_reducible refine (HC.out).mono ?_); rintro e1 w1 ⟨rfl, hb1⟩)
      | fail)
    go_ret
    exact ⟨rfl, hb1⟩
def ddK (ks : List Ky) : List Ky := ks.foldl addK []
theorem ddK_len : ∀ (ks D : List Ky), (ks.foldl addK D).length ≤ D.length + ks.length ∧ ((ks.foldl addK D).length = D.length + ks.length ↔ ks.Nodup ∧ ∀ p ∈ ks, p ∉ D) := by
  intro ks
  induction ks with
  | nil => intro D; simp
  | cons p ks ih =>
    intro D
    rw [List.foldl_cons]
    by_cases hp : p ∈ D
    · rw [show addK D p = D from if_pos hp]
      obtain ⟨h1, _⟩ := ih D
      refine ⟨by rw [List.length_cons]; omega, ?_⟩
      constructor
      · intro h; rw [List.length_cons] at h; omega
      · rintro ⟨_, h⟩; exact absurd hp (h p (by simp))
    · rw [show addK D p = D ++ [p] from if_neg hp]
      obtain ⟨h1, h2⟩ := ih (D ++ [p])
      rw [List.length_append, List.length_singleton] at h1 h2
      refine ⟨by rw [List.length_cons]; omega, ?_⟩
      rw [List.length_cons, show D.length + (ks.length + 1) = D.length + 1 + ks.length by omega, h2, List.nodup_cons]
      constructor
      · rintro ⟨k1, k2⟩
        refine ⟨⟨fun hm => (k2 p hm) (by simp), k1⟩, fun q hq => ?_⟩
        rcases List.mem_cons.1 hq with rfl | hq
        · exact hp
        · intro hd; exact k2 q hq (by simp [hd])
      · rintro ⟨⟨k0, k1⟩, k2⟩
        refine ⟨k1, fun q hq hd => ?_⟩
        rcases List.mem_append.1 hd with hd | hd
        · exact k2 q (by simp [hq]) hd
        · rw [List.mem_singleton] at hd; exact k0 (hd ▸ hq)
theorem ddK_snoc (l : List At) (k : Nat) (h : k < l.length) : ddK ((l.take (k + 1)).map key) = addK (ddK ((l.take k).map key)) (key (l[k]'h)) := by
  unfold ddK
  rw [List.take_succ_eq_append_getElem h, List.map_append, List.foldl_append]
  rfl
theorem ddK_all (l : List At) : decide ((ddK (l.map key)).length = l.length) = decide ((l.map key).Nodup) := by
  have := (ddK_len (l.map key) []).2
  unfold ddK
  rw [List.length_nil, Nat.zero_add, List.length_map] at this
  rw [decide_eq_decide, this]
  simp
theorem mayhave (A : Option Addr) (n cp : Nat) (l : List At) (w : World) (hr : RdB AtS w A l) (hn : l.length = n) (hm : n ≤ 1000000) (hsz : ∀ a ∈ l, a.space.length ≤ 1000000 ∧ a.name.length ≤ 1000000 ∧ a.value.length ≤ 1000000) (q : Bool) (h : atsOk l = q) :
    Calls Tryz.prog 79 #[.slice A n cp] w fun e w' => e = .returned (.bool q) ∧ Below w.heap.size w w' := by
  have HR := Lib.hid hr
  have HN := Lib.hid hn
  have HM := Lib.hid hm
  have HH := Lib.hid h
  have HSZ := Lib.hid hsz
  clear hr hn h hsz
  by_cases h16 : 16 < n
  · have f16 : decide ((16 : Int) < (n : Int)) = true := decide_eq_true (by omega)
    obtain rfl : false = q := by
      rw [← HH.out]
      unfold atsOk
      rw [HN.out, decide_eq_false (by omega : ¬ n ≤ 16), Bool.and_false]
    go_enter Tryz.func79, Tryz.ntmps79
    go_wp2_with fail
    go_ret
    exact ⟨rfl, Below.refl _ _⟩
  · have f16 : decide ((16 : Int) < (n : Int)) = false := decide_eq_false (by omega)
    have hmm := @run_makeMap Tryz.prog
    have HB0 : Hid (Below w.heap.size w (w.alloc (.map #[] 0))) := Lib.hid ((Below.refl _ _).alloc (Nat.le_refl _) _)
    go_enter Tryz.func79, Tryz.ntmps79
    go_wp2_with fail
    go_loopw [12] (fun i wr => ∃ k : Nat, k ≤ n ∧ i = .int .i64 k ∧ (l.take k).all atOk = true ∧ MapN wr w.heap.size (ddK ((l.take k).map key)) k ∧ Below w.heap.size w wr ∧ w.heap.size < wr.heap.size) (fun i _ => n - (intOf i).toNat)
    case atStart => exact ⟨0, Nat.zero_le _, rfl, rfl, ⟨⟨(fun p hp => by cases hp), List.nodup_nil⟩, #[], 0, MapKept.heap_alloc w _ |>.1, (fun e he => by simp at he), by simp, rfl, (fun e he => by simp at he)⟩, HB0.out, by simp⟩
    case round =>
      obtain ⟨k, hk, rfl, hall, hmap, hbw, hsz0⟩ := hrel
      have hm := HM.out
      have HBW := Lib.hid hbw
      have HALL := Lib.hid hall
      have HMAP := Lib.hid hmap
      by_cases hlt : k < n
      · have hk1 : k < l.length := by rw [HN.out]; exact hlt
        obtain ⟨b0, off, x, y, z, rfl, hbB, hx, hy, hz, c0, c1, c2⟩ := at_at (HR.out.on hbw) hk1
        have hs := HSZ.out _ (List.getElem_mem hk1)
        rw [← hx, ← hy, ← hz, ba_l, ba_l, ba_l] at hs
        have HXS := Lib.hid hs.1
        have HYS := Lib.hid hs.2.1
        have HZS := Lib.hid hs.2.2
        have HKEY : Hid (ddK ((l.take (k + 1)).map key) = addK (ddK ((l.take k).map key)) (x.data.toList, y.data.toList)) := Lib.hid (by rw [ddK_snoc l k hk1]; unfold key; rw [hx, hy])
        have HAT : Hid ((l.take (k + 1)).all atOk = (fullL y.data.toList && okT z.data.toList && okT x.data.toList)) := Lib.hid (by
          rw [List.take_succ_eq_append_getElem hk1, List.all_append, hall, hx, hy, hz]
          simp [atOk])
        have HQ : Hid ((fullL y.data.toList && okT z.data.toList && okT x.data.toList) = false → false = q) := Lib.hid fun hf => by
          rw [← HH.out]
          unfold atsOk
          have : l.all atOk = false := by
            rw [List.all_eq_false]
            refine ⟨_, List.getElem_mem hk1, ?_⟩
            unfold atOk
            rw [← hx, ← hy, ← hz, hf]
            decide
          rw [this]
          rfl
        have HBO : Hid (∀ o, Below wr.heap.size wr (wr.alloc o)) := Lib.hid fun o => (Below.refl _ _).alloc (Nat.le_refl _) o
        have bk : (0 : Int) ≤ (k : Int) ∧ (k : Int) < (n : Int) := by omega
        have HLT := Lib.hid hlt
        clear hbw hall hmap hx hy hz hs hk1
        cases hf1 : okT x.data.toList with
        | false =>
          have HF1 := Lib.hid hf1
          obtain rfl : false = q := HQ.out (by rw [hf1, Bool.and_false])
          clear hf1
          go_wp2_with (first
            | (go_at_call 77; (with_reducible refine (istext x _ HXS.out false HF1.out).mono ?_); rintro e1 w1 ⟨rfl, hb1⟩; have HB1 : Hid (Below wr.heap.size wr w1) := Lib.hid (bel_in9 (HBO.out _) hb1); have HX1 := Lib.hid (kept_heap (heap_alloc_new wr (.cells #[.string x, .string y, .string z] 41)) hb1); have d10 := cellV w1 _ 0 _ _ _ HX1.out; have d11 := cellV w1 _ 1 _ _ _ HX1.out; have d12 := cellV w1 _ 2 _ _ _ HX1.out; clear hb1)
            | fail)
          go_ret
          exact ⟨rfl, stp HBW.out HB1.out⟩
        | true =>
          have HF1 := Lib.hid hf1
          cases hf2 : fullL y.data.toList with
          | false =>
            have HF2 := Lib.hid hf2
            obtain rfl : false = q := HQ.out (by rw [hf2, Bool.false_and, Bool.false_and])
            clear hf1 hf2
            go_wp2_with (first
              | (go_at_call 77; (with_reducible refine (istext x _ HXS.out true HF1.out).mono ?_); rintro e1 w1 ⟨rfl, hb1⟩; have HB1 : Hid (Below wr.heap.size wr w1) := Lib.hid (bel_in9 (HBO.out _) hb1); have HX1 := Lib.hid (kept_heap (heap_alloc_new wr (.cells #[.string x, .string y, .string z] 41)) hb1); have d10 := cellV w1 _ 0 _ _ _ HX1.out; have d11 := cellV w1 _ 1 _ _ _ HX1.out; have d12 := cellV w1 _ 2 _ _ _ HX1.out; clear hb1)
              | (go_at_call 78; (with_reducible refine (full9q y _ HYS.out false HF2.out).mono ?_); rintro e2 w2 ⟨rfl, hb2⟩; have HB2 : Hid (Below wr.heap.size wr w2) := Lib.hid (stp HB1.out hb2); have HX2 := Lib.hid (kept_heap HX1.out hb2); have d20 := cellV w2 _ 0 _ _ _ HX2.out; have d21 := cellV w2 _ 1 _ _ _ HX2.out; have d22 := cellV w2 _ 2 _ _ _ HX2.out; clear hb2)
              | fail)
            go_ret
            exact ⟨rfl, stp HBW.out HB2.out⟩
          | true =>
            have HF2 := Lib.hid hf2
            cases hf3 : okT z.data.toList with
            | false =>
              have HF3 := Lib.hid hf3
              obtain rfl : false = q := HQ.out (by rw [hf3, Bool.and_false, Bool.false_and])
              clear hf1 hf2 hf3
              go_wp2_with (first
                | (go_at_call 77; (with_reducible refine (istext x _ HXS.out true HF1.out).mono ?_); rintro e1 w1 ⟨rfl, hb1⟩; have HB1 : Hid (Below wr.heap.size wr w1) := Lib.hid (bel_in9 (HBO.out _) hb1); have HX1 := Lib.hid (kept_heap (heap_alloc_new wr (.cells #[.string x, .string y, .string z] 41)) hb1); have d10 := cellV w1 _ 0 _ _ _ HX1.out; have d11 := cellV w1 _ 1 _ _ _ HX1.out; have d12 := cellV w1 _ 2 _ _ _ HX1.out; clear hb1)
                | (go_at_call 78; (with_reducible refine (full9q y _ HYS.out true HF2.out).mono ?_); rintro e2 w2 ⟨rfl, hb2⟩; have HB2 : Hid (Below wr.heap.size wr w2) := Lib.hid (stp HB1.out hb2); have HX2 := Lib.hid (kept_heap HX1.out hb2); have d20 := cellV w2 _ 0 _ _ _ HX2.out; have d21 := cellV w2 _ 1 _ _ _ HX2.out; have d22 := cellV w2 _ 2 _ _ _ HX2.out; clear hb2)
                | (go_at_call 77; (with_reducible refine (istext z _ HZS.out false HF3.out).mono ?_); rintro e3 w3 ⟨rfl, hb3⟩; have HB3 : Hid (Below wr.heap.size wr w3) := Lib.hid (stp HB2.out hb3); have HX3 := Lib.hid (kept_heap HX2.out hb3); have f32 := freeV w3 _ 2 _ _ HX3.out; have d30 := cellV w3 _ 0 _ _ _ HX3.out; have d31 := cellV w3 _ 1 _ _ _ HX3.out; have d32 := cellV w3 _ 2 _ _ _ HX3.out; clear hb3)
                | fail)
              go_ret
              exact ⟨rfl, stp HBW.out HB3.out⟩
            | true =>
              have HF3 := Lib.hid hf3
              have HAT2 : Hid ((l.take (k + 1)).all atOk = true) := Lib.hid (by rw [HAT.out, hf1, hf2, hf3]; rfl)
              clear hf1 hf2 hf3
              go_wp2_with (first
                | (go_at_call 77; (with_reducible refine (istext x _ HXS.out true HF1.out).mono ?_); rintro e1 w1 ⟨rfl, hb1⟩; have HB1 : Hid (Below wr.heap.size wr w1) := Lib.hid (bel_in9 (HBO.out _) hb1); have HX1 := Lib.hid (kept_heap (heap_alloc_new wr (.cells #[.string x, .string y, .string z] 41)) hb1); have d10 := cellV w1 _ 0 _ _ _ HX1.out; have d11 := cellV w1 _ 1 _ _ _ HX1.out; have d12 := cellV w1 _ 2 _ _ _ HX1.out; clear hb1)
                | (go_at_call 78; (with_reducible refine (full9q y _ HYS.out true HF2.out).mono ?_); rintro e2 w2 ⟨rfl, hb2⟩; have HB2 : Hid (Below wr.heap.size wr w2) := Lib.hid (stp HB1.out hb2); have HX2 := Lib.hid (kept_heap HX1.out hb2); have d20 := cellV w2 _ 0 _ _ _ HX2.out; have d21 := cellV w2 _ 1 _ _ _ HX2.out; have d22 := cellV w2 _ 2 _ _ _ HX2.out; clear hb2)
                | (go_at_call 77; (with_reducible refine (istext z _ HZS.out true HF3.out).mono ?_); rintro e3 w3 ⟨rfl, hb3⟩; have HB3 : Hid (Below wr.heap.size wr w3) := Lib.hid (stp HB2.out hb3); have HX3 := Lib.hid (kept_heap HX2.out hb3); have f32 := freeV w3 _ 2 _ _ HX3.out; have d30 := cellV w3 _ 0 _ _ _ HX3.out; have d31 := cellV w3 _ 1 _ _ _ HX3.out; have d32 := cellV w3 _ 2 _ _ _ HX3.out; clear hb3)
                | fail)
              obtain ⟨V, hV⟩ : ∃ V, w3.setCell ⟨wr.heap.size, 2, none⟩ (.string ⟨#[]⟩) = V := ⟨_, rfl⟩
              rw [hV]
              have hsz3 := HB3.out.size
              have hXV : V.heap[wr.heap.size]? = some (.cells #[.string x, .string y, .string ⟨#[]⟩] 41 (0, 0)) := by
                rw [← hV]
                exact heap_setCell_same w3 wr.heap.size 2 _ _ _ HX3.out
              have hBV : Below wr.heap.size wr V := by
                rw [← hV]
                exact HB3.out.setCell (p := ⟨wr.heap.size, 2, none⟩) (Nat.le_refl _) _
              obtain ⟨c, st, W1, W2, hc, E1, E2, E3, E4, hM2, o1, o2⟩ := map_step (w := V.drew) (HMAP.out.kept (hBV.block _ hsz0)) (p := (x.data.toList, y.data.toList)) ⟨by rw [ba_l]; exact HXS.out, by rw [ba_l]; exact HYS.out⟩
              have ek : kyV (x.data.toList, y.data.toList) = .agg #[.string x, .string y, .string ⟨#[]⟩] := rfl
              rw [ek] at E1 E2 E3
              unfold T0 at E1 E2 E3 E4
              have hne : wr.heap.size ≠ w.heap.size := by omega
              have dV0 := cellV V _ 0 _ _ _ hXV
              have dV1 := cellV V _ 1 _ _ _ hXV
              have dV2 := cellV V _ 2 _ _ _ hXV
              have hX1 := (o1.block _ hne).trans hXV
              have dW0 := cellV W1 _ 0 _ _ _ hX1
              have dW1 := cellV W1 _ 1 _ _ _ hX1
              have dW2 := cellV W1 _ 2 _ _ _ hX1
              have HB5 : Hid (Below w.heap.size w W2) := Lib.hid (((stp HBW.out hBV).drew.trans (o1.below (Nat.le_refl _))).trans (o2.below (Nat.le_refl _)))
              have HSZ5 : Hid (w.heap.size < W2.heap.size) := Lib.hid (by rw [o2.size, o1.size]; have : wr.heap.size ≤ V.heap.size := hBV.size; show w.heap.size < V.heap.size; omega)
              have HM5 := Lib.hid hM2
              have bc : (0 : Int) ≤ (c : Int) ∧ (c : Int) ≤ 1000000 := by omega
              clear hV hXV hBV hM2 o1 o2 hX1 ek hne hsz3 d10 d11 d12 d20 d21 d22 d30 d31 d32 f32 hsz0 hlt c0 c1 c2
              go_region
              all_goals
                go_wp2_with fail
                exact ⟨⟨k + 1, HLT.out, by go_num, HAT2.out, by rw [HKEY.out]; exact HM5.out, HB5.out, HSZ5.out⟩, by have := HLT.out; simp [intOf]; omega⟩
      · obtain rfl : k = n := by omega
        obtain ⟨_, es, clock, hes, _, _, hkeys, _⟩ := hmap
        have hsz : es.size = (ddK ((l.take k).map key)).length := by
          have := congrArg List.length hkeys
          rw [List.length_map, List.length_map] at this
          exact this
        have htk : l.take k = l := by rw [← HN.out]; exact List.take_length
        obtain ⟨r, hr⟩ : ∃ r, (((es.size : Nat) : Int) == (k : Int)) = r := ⟨_, rfl⟩
        have HQ : Hid (r = q) := Lib.hid (by
          rw [← hr, ← HH.out]
          unfold atsOk
          rw [htk] at hall hsz
          have h1 := ddK_all l
          rw [hall, HN.out, decide_eq_true (by omega : k ≤ 16), Bool.true_and, Bool.and_true, ← h1, hsz, HN.out]
          rw [Bool.eq_iff_iff]
          simp
          omega)
        have hlen : (Builtin.len_ #[96] 3 #[.map (some w.heap.size)]).run Tryz.prog wr = .ok (.int .i64 (es.size : Nat)) wr := by
          simp [Builtin.len_, MapKept.run_getObj_map hes, goInt, Result.andThen]
        clear hbw hall hkeys hsz htk hes
        go_wp2_with fail
        go_ret
        exact ⟨ret_b HQ.out, HBW.out⟩
theorem em_lR (s : ByteArray) : s.toList.isEmpty = s.data.toList.isEmpty := by rw [ByteArray.toList_eq]
theorem nodup_next {l : List At} {i : Nat} (hi : i < l.length) (h : ((l.take i).map key).Nodup) (h2 : ∀ k (hk : k < i), key (l[k]'(by omega)) ≠ key (l[i]'hi)) : ((l.take (i + 1)).map key).Nodup := by
  rw [List.take_succ_eq_append_getElem hi, List.map_append]
  refine List.nodup_append.2 ⟨h, by simp, fun a ha b hb e => ?_⟩
  simp only [List.map_cons, List.map_nil, List.mem_singleton] at hb
  obtain ⟨x, hx, rfl⟩ := List.mem_map.1 ha
  obtain ⟨k, hk, rfl⟩ := List.getElem_of_mem hx
  rw [List.length_take] at hk
  rw [List.getElem_take, hb] at e
  exact h2 k (by omega) e
theorem nodup_no {l : List At} {i k : Nat} (hi : i < l.length) (hk : k < i) (h : key (l[k]'(by omega)) = key (l[i]'hi)) : atsOk l = false := by
  unfold atsOk
  have : ¬ (l.map key).Nodup := by
    intro hn
    have := (List.getElem_inj (h₀ := by rw [List.length_map]; omega) (h₁ := by rw [List.length_map]; exact hi) hn (i := k) (j := i)).1 (by rw [List.getElem_map, List.getElem_map, h])
    omega
  rw [decide_eq_false this, Bool.and_false, Bool.false_and]
theorem bel_drewN {B : Nat} {a w : World} (h : Below B a w) (n : Nat) : Below B a (w.drewN n) := ⟨h.os, h.tape, h.output, h.size, h.block⟩
theorem rmayats (A : Option Addr) (n cp : Nat) (l : List At) (w : World) (hr : RdB AtS w A l) (hn : l.length = n) (hm : n ≤ 1000000) (hsz : ∀ a ∈ l, a.space.length ≤ 1000000 ∧ a.name.length ≤ 1000000 ∧ a.value.length ≤ 1000000) (q : Bool) (h : atsOk l = q) :
    Calls Tryz.prog 83 #[.slice A n cp] w fun e w' => e = .returned (.bool q) ∧ Below w.heap.size w w' := by
  have HR := Lib.hid hr
  have HN := Lib.hid hn
  have HM := Lib.hid hm
  have HH := Lib.hid h
  have HSZ := Lib.hid hsz
  clear hr hn h hsz
  go_enter Tryz.func83, Tryz.ntmps83
  go_wp2_with fail
  go_loopg [3] n (fun gg i wr => ∃ k : Nat, k + gg = n ∧ i = .int .i64 k ∧ (l.take k).all atOk = true ∧ ((l.take k).map key).Nodup ∧ Below w.heap.size w wr)
  case atStart => exact ⟨0, by omega, rfl, rfl, List.nodup_nil, Below.refl _ _⟩
  case round =>
    obtain ⟨i, hig, rfl, hall, hnd, hbw⟩ := hrel
    obtain ⟨wo, rfl⟩ : ∃ wo : World, wo = wr := ⟨_, rfl⟩
    obtain ⟨g0, rfl⟩ : ∃ g0 : Nat, g0 = gk := ⟨_, rfl⟩
    have hm := HM.out
    have HALL := Lib.hid hall
    have HND := Lib.hid hnd
    have HBW := Lib.hid hbw
    have HG := Lib.hid hig
    clear hall hnd hbw hig
    by_cases hlt : i < n
    · have hi1 : i < l.length := by rw [HN.out]; exact hlt
      have bi : (0 : Int) ≤ (i : Int) ∧ (i : Int) < (n : Int) := by omega
      go_wp2_with fail
      go_loopg [4] i (fun gg k wr => ∃ j : Nat, j + gg = i ∧ k = .int .i64 j ∧ (∀ k (hk : k < j), k < i → ∀ h2 : k < l.length, key (l[k]'h2) ≠ key (l[i]'hi1)) ∧ Below w.heap.size w wr)
      case atStart => exact ⟨0, by omega, rfl, fun k hk => by omega, HBW.out⟩
      case round =>
        obtain ⟨j, hjg, rfl, hno, hb2⟩ := hrel
        have HNO := Lib.hid hno
        have HB2 := Lib.hid hb2
        have HJG := Lib.hid hjg
        clear hno hjg
        by_cases hlj : j < i
        · have hj1 : j < l.length := by omega
          obtain ⟨b0, off, x, y, z, rfl, hbB, hx, hy, hz, c0, c1, c2⟩ := at_at (HR.out.on hb2) hi1
          obtain ⟨b9, of9, x2, y2, z2, e9, _, hx2, hy2, hz2, d0, d1, d2⟩ := at_at (HR.out.on hb2) hj1
          injection e9 with e9
          injection e9 with e1 e2 _
          subst e1 e2
          have bj : (0 : Int) ≤ (j : Int) ∧ (j : Int) < (n : Int) := by omega
          have HKE : Hid (key (l[j]'hj1) = key (l[i]'hi1) ↔ x2 = x ∧ y2 = y) := Lib.hid (by
            unfold key
            rw [Prod.mk.injEq, ← hx, ← hy, ← hx2, ← hy2]
            exact ⟨fun h => ⟨ba_x h.1, ba_x h.2⟩, fun h => by rw [h.1, h.2]; exact ⟨rfl, rfl⟩⟩)
          have HI1 := Lib.hid hi1
          have HLJ := Lib.hid hlj
          have HJ1 := Lib.hid hj1
          clear hx hy hz hx2 hy2 hz2 hb2
          by_cases hs : x2 = x
          · subst hs
            by_cases ht : y2 = y
            · subst ht
              obtain rfl : false = q := by rw [← HH.out]; exact (nodup_no HI1.out HLJ.out (HKE.out.2 ⟨rfl, rfl⟩)).symm
              have t1 : (x2.toList == x2.toList) = true := by simp
              have t2 : (y2.toList == y2.toList) = true := by simp
              go_wp2_with fail
              go_quiet (fail)
              go_wp2_with fail
              go_ret
              exact ⟨rfl, bel_drewN HB2.out _⟩
            · have t1 : (x2.toList == x2.toList) = true := by simp
              have t2 : (y2.toList == y.toList) = false := by rw [beq_eq_false_iff_ne, ByteArray.toList_eq, ByteArray.toList_eq]; exact fun h => ht (ba_x h)
              have HNE : Hid (key (l[j]'hj1) ≠ key (l[i]'HI1.out)) := Lib.hid fun h => ht (HKE.out.1 h).2
              clear ht
              go_wp2_with fail
              go_quiet (fail)
              go_wp2_with fail
              go_roundg (gk - 1)
              case rel => exact ⟨j + 1, by have := HJG.out; omega, by go_num, fun k hk hk2 h2 => by
                rcases Nat.lt_succ_iff_lt_or_eq.1 hk with h | h
                · exact HNO.out k h hk2 h2
                · subst h; exact HNE.out, bel_drewN HB2.out _⟩
              case measure => have := HJG.out; omega
          · have t1 : (x2.toList == x.toList) = false := by rw [beq_eq_false_iff_ne, ByteArray.toList_eq, ByteArray.toList_eq]; exact fun h => hs (ba_x h)
            have HNE : Hid (key (l[j]'hj1) ≠ key (l[i]'HI1.out)) := Lib.hid fun h => hs (HKE.out.1 h).1
            clear hs
            go_wp2_with fail
            go_quiet (fail)
            go_wp2_with fail
            go_roundg (gk - 1)
            case rel => exact ⟨j + 1, by have := HJG.out; omega, by go_num, fun k hk hk2 h2 => by
              rcases Nat.lt_succ_iff_lt_or_eq.1 hk with h | h
              · exact HNO.out k h hk2 h2
              · subst h; exact HNE.out, bel_drewN HB2.out _⟩
            case measure => have := HJG.out; omega
        · obtain rfl : j = i := by have := HJG.out; omega
          have HBW2 := HB2
          clear HB2
          obtain ⟨b0, off, x, y, z, rfl, hbB, hx, hy, hz, c0, c1, c2⟩ := at_at (HR.out.on hb2) hi1
          have hs := HSZ.out _ (List.getElem_mem hi1)
          rw [← hx, ← hy, ← hz, ba_l, ba_l, ba_l] at hs
          have HXS := Lib.hid hs.1
          have HYS := Lib.hid hs.2.1
          have HZS := Lib.hid hs.2.2
          have HND2 : Hid (((l.take (j + 1)).map key).Nodup) := Lib.hid (nodup_next hi1 HND.out fun k hk => HNO.out k hk hk (by omega))
          have HAT : Hid ((l.take (j + 1)).all atOk = (fullL y.data.toList && okT z.data.toList && okT x.data.toList)) := Lib.hid (by
            rw [List.take_succ_eq_append_getElem hi1, List.all_append, HALL.out, hx, hy, hz]
            simp [atOk])
          have HQ0 : Hid ((fullL y.data.toList && okT z.data.toList && okT x.data.toList) = false → false = q) := Lib.hid fun hf => by
            rw [← HH.out]
            unfold atsOk
            have : l.all atOk = false := by
              rw [List.all_eq_false]
              refine ⟨_, List.getElem_mem hi1, ?_⟩
              unfold atOk
              rw [← hx, ← hy, ← hz, hf]
              decide
            rw [this]
            rfl
          obtain ⟨a1, h1⟩ : ∃ a, fullL y.data.toList = a := ⟨_, rfl⟩
          obtain ⟨a2, h2⟩ : ∃ a, okT z.data.toList = a := ⟨_, rfl⟩
          obtain ⟨a3, h3⟩ : ∃ a, okT x.data.toList = a := ⟨_, rfl⟩
          obtain ⟨q2, hq2⟩ : ∃ q, chkE z = q := ⟨_, rfl⟩
          obtain ⟨q3, hq3⟩ : ∃ q, chkE x = q := ⟨_, rfl⟩
          have HK2 : Hid (a2 = true → q2 = 0) := Lib.hid fun h => by rw [← hq2]; exact chk9_ok (h2.trans h)
          have HK3 : Hid (a3 = true → q3 = 0) := Lib.hid fun h => by rw [← hq3]; exact chk9_ok (h3.trans h)
          have HL2 : Hid (a2 = false → q2 ≠ 0) := Lib.hid fun h => by rw [← hq2]; exact chk9_bad (h2.trans h)
          have HL3 : Hid (a3 = false → q3 ≠ 0) := Lib.hid fun h => by rw [← hq3]; exact chk9_bad (h3.trans h)
          rw [h1, h2, h3] at HAT HQ0
          have H1 := Lib.hid h1
          have HQ2 := Lib.hid hq2
          have HQ3 := Lib.hid hq3
          have HJG2 := Lib.hid hlt
          have hbs := hb2
          have HRB : Hid (b0 < wr.heap.size) := Lib.hid hbB
          clear hx hy hz hs hb2 h1 h2 h3 hq2 hq3 hlt hbs
          cases a1 with
          | false =>
            obtain rfl : false = q := HQ0.out rfl
            go_wp2_with (first
              | (go_at_call 82; (with_reducible refine (rfull9 y _ HYS.out false H1.out).mono ?_); rintro e1 w1 ⟨rfl, hb1⟩; have HB1 : Hid (Below wr.heap.size wr w1) := Lib.hid (hb1); have d10 := (hb1.cell (p := ⟨b0, _, none⟩) HRB.out).trans c0; have d11 := (hb1.cell (p := ⟨b0, _, none⟩) HRB.out).trans c1; have d12 := (hb1.cell (p := ⟨b0, _, none⟩) HRB.out).trans c2; clear hb1)
              | fail)
            go_ret
            exact ⟨rfl, HBW2.out.trans (HB1.out.mono HBW2.out.size)⟩
          | true =>
            cases a2 with
            | false =>
              obtain rfl : false = q := HQ0.out rfl
              have f2 : (q2 != 0) = true := by simpa using HL2.out rfl
              go_wp2_with (first
                | (go_at_call 82; (with_reducible refine (rfull9 y _ HYS.out true H1.out).mono ?_); rintro e1 w1 ⟨rfl, hb1⟩; have HB1 : Hid (Below wr.heap.size wr w1) := Lib.hid (hb1); have d10 := (hb1.cell (p := ⟨b0, _, none⟩) HRB.out).trans c0; have d11 := (hb1.cell (p := ⟨b0, _, none⟩) HRB.out).trans c1; have d12 := (hb1.cell (p := ⟨b0, _, none⟩) HRB.out).trans c2; clear hb1)
                | (go_at_call 29; (with_reducible refine (rcheck_any z _ HZS.out q2 HQ2.out).mono ?_); rintro e2 w2 ⟨rfl, hb2⟩; have HB2 : Hid (Below wr.heap.size wr w2) := Lib.hid (stp HB1.out hb2); have d20 := (hb2.cell (p := ⟨b0, _, none⟩) (Nat.lt_of_lt_of_le HRB.out HB1.out.size)).trans d10; have d21 := (hb2.cell (p := ⟨b0, _, none⟩) (Nat.lt_of_lt_of_le HRB.out HB1.out.size)).trans d11; have d22 := (hb2.cell (p := ⟨b0, _, none⟩) (Nat.lt_of_lt_of_le HRB.out HB1.out.size)).trans d12; clear hb2)
                | fail)
              go_ret
              exact ⟨rfl, HBW2.out.trans (HB2.out.mono HBW2.out.size)⟩
            | true =>
              obtain rfl : q2 = 0 := HK2.out rfl
              cases a3 with
              | false =>
                obtain rfl : false = q := HQ0.out rfl
                have f3 : (q3 != 0) = true := by simpa using HL3.out rfl
                go_wp2_with (first
                  | (go_at_call 82; (with_reducible refine (rfull9 y _ HYS.out true H1.out).mono ?_); rintro e1 w1 ⟨rfl, hb1⟩; have HB1 : Hid (Below wr.heap.size wr w1) := Lib.hid (hb1); have d10 := (hb1.cell (p := ⟨b0, _, none⟩) HRB.out).trans c0; have d11 := (hb1.cell (p := ⟨b0, _, none⟩) HRB.out).trans c1; have d12 := (hb1.cell (p := ⟨b0, _, none⟩) HRB.out).trans c2; clear hb1)
                  | (go_at_call 29; (with_reducible refine (rcheck_any z _ HZS.out 0 HQ2.out).mono ?_); rintro e2 w2 ⟨rfl, hb2⟩; have HB2 : Hid (Below wr.heap.size wr w2) := Lib.hid (stp HB1.out hb2); have d20 := (hb2.cell (p := ⟨b0, _, none⟩) (Nat.lt_of_lt_of_le HRB.out HB1.out.size)).trans d10; have d21 := (hb2.cell (p := ⟨b0, _, none⟩) (Nat.lt_of_lt_of_le HRB.out HB1.out.size)).trans d11; have d22 := (hb2.cell (p := ⟨b0, _, none⟩) (Nat.lt_of_lt_of_le HRB.out HB1.out.size)).trans d12; clear hb2)
                  | (go_at_call 29; (with_reducible refine (rcheck_any x _ HXS.out q3 HQ3.out).mono ?_); rintro e3 w3 ⟨rfl, hb3⟩; have HB3 : Hid (Below wr.heap.size wr w3) := Lib.hid (stp HB2.out hb3); have d30 := (hb3.cell (p := ⟨b0, _, none⟩) (Nat.lt_of_lt_of_le HRB.out HB2.out.size)).trans d20; have d31 := (hb3.cell (p := ⟨b0, _, none⟩) (Nat.lt_of_lt_of_le HRB.out HB2.out.size)).trans d21; have d32 := (hb3.cell (p := ⟨b0, _, none⟩) (Nat.lt_of_lt_of_le HRB.out HB2.out.size)).trans d22; clear hb3)
                  | fail)
                go_ret
                exact ⟨rfl, HBW2.out.trans (HB3.out.mono HBW2.out.size)⟩
              | true =>
                obtain rfl : q3 = 0 := HK3.out rfl
                have HAT2 : Hid ((l.take (j + 1)).all atOk = true) := Lib.hid (by rw [HAT.out]; rfl)
                go_wp2_with (first
                  | (go_at_call 82; (with_reducible refine (rfull9 y _ HYS.out true H1.out).mono ?_); rintro e1 w1 ⟨rfl, hb1⟩; have HB1 : Hid (Below wr.heap.size wr w1) := Lib.hid (hb1); have d10 := (hb1.cell (p := ⟨b0, _, none⟩) HRB.out).trans c0; have d11 := (hb1.cell (p := ⟨b0, _, none⟩) HRB.out).trans c1; have d12 := (hb1.cell (p := ⟨b0, _, none⟩) HRB.out).trans c2; clear hb1)
                  | (go_at_call 29; (with_reducible refine (rcheck_any z _ HZS.out 0 HQ2.out).mono ?_); rintro e2 w2 ⟨rfl, hb2⟩; have HB2 : Hid (Below wr.heap.size wr w2) := Lib.hid (stp HB1.out hb2); have d20 := (hb2.cell (p := ⟨b0, _, none⟩) (Nat.lt_of_lt_of_le HRB.out HB1.out.size)).trans d10; have d21 := (hb2.cell (p := ⟨b0, _, none⟩) (Nat.lt_of_lt_of_le HRB.out HB1.out.size)).trans d11; have d22 := (hb2.cell (p := ⟨b0, _, none⟩) (Nat.lt_of_lt_of_le HRB.out HB1.out.size)).trans d12; clear hb2)
                  | (go_at_call 29; (with_reducible refine (rcheck_any x _ HXS.out 0 HQ3.out).mono ?_); rintro e3 w3 ⟨rfl, hb3⟩; have HB3 : Hid (Below wr.heap.size wr w3) := Lib.hid (stp HB2.out hb3); have d30 := (hb3.cell (p := ⟨b0, _, none⟩) (Nat.lt_of_lt_of_le HRB.out HB2.out.size)).trans d20; have d31 := (hb3.cell (p := ⟨b0, _, none⟩) (Nat.lt_of_lt_of_le HRB.out HB2.out.size)).trans d21; have d32 := (hb3.cell (p := ⟨b0, _, none⟩) (Nat.lt_of_lt_of_le HRB.out HB2.out.size)).trans d22; clear hb3)
                  | fail)
                go_roundg (g0 - 1)
                case rel => exact ⟨j + 1, by have := HG.out; have := HJG2.out; omega, by go_num, HAT2.out, HND2.out, HBW2.out.trans (HB3.out.mono HBW2.out.size)⟩
                case measure => have := HG.out; have := HJG2.out; omega
    · obtain rfl : i = n := by have := HG.out; omega
      have htk : l.take i = l := by rw [← HN.out]; exact List.take_length
      obtain ⟨r, hr⟩ : ∃ r, decide ((i : Int) ≤ 16) = r := ⟨_, rfl⟩
      have HQ : Hid (r = q) := Lib.hid (by
        have h1 := HALL.out
        have h2 := HND.out
        rw [htk] at h1 h2
        rw [← hr, ← HH.out]
        unfold atsOk
        rw [h1, decide_eq_true h2, HN.out, Bool.true_and, Bool.true_and, decide_eq_decide]
        omega)
      clear htk
      go_wp2_with fail
      go_ret
      exact ⟨ret_b HQ.out, HBW.out⟩
theorem rnode_1 (n : Nd) (x y z : ByteArray) (A : Option Addr) (c : Nat) (w : World) (h : NdAt n x y z A c w) (hs : SmallN n) (hk : n.kind = 1) (q : Bool) (hq : ndOk n = q) :
    Calls Tryz.prog 64 #[NdV n x y z A c] w fun e w' => e = .returned (.bool q) ∧ Below w.heap.size w w' := by
  have HBO : Hid (∀ o, Below w.heap.size w (w.alloc o)) := Lib.hid fun o => (Below.refl _ _).alloc (Nat.le_refl _) o
  have HND : Hid (∀ W, Below w.heap.size w W → NdAt n x y z A c W) := Lib.hid fun W hW => h.on hW
  have HXS : Hid (x.size ≤ 1000000) := Lib.hid (by rw [← ba_l, h.space]; exact hs.space)
  have HYS : Hid (y.size ≤ 1000000) := Lib.hid (by rw [← ba_l, h.name]; exact hs.name)
  have HZS : Hid (z.size ≤ 1000000) := Lib.hid (by rw [← ba_l, h.text]; exact hs.text)
  have HLN : Hid (n.attrs.length ≤ 1000000) := Lib.hid hs.attrs
  have HEA := Lib.hid hs.each
  have ba := h.lo
  have bb := h.hi
  obtain ⟨m, hm⟩ : ∃ m, n.attrs.length = m := ⟨_, rfl⟩
  have HNL := Lib.hid hm
  obtain ⟨y9, hmy⟩ : ∃ y9, n.many = y9 := ⟨_, rfl⟩
  obtain ⟨a1, h1⟩ : ∃ a, fullL y.data.toList = a := ⟨_, rfl⟩
  obtain ⟨a2, h2⟩ : ∃ a, z.toList.isEmpty = a := ⟨_, rfl⟩
  obtain ⟨a3, h3⟩ : ∃ a, okT x.data.toList = a := ⟨_, rfl⟩
  obtain ⟨a4, h4⟩ : ∃ a, atsOk n.attrs = a := ⟨_, rfl⟩
  obtain ⟨q3, hq3⟩ : ∃ q, chkE x = q := ⟨_, rfl⟩
  have HQ : Hid (q = (a1 && (a2 && (a3 && a4)))) := Lib.hid (by
    rw [← hq, ← h1, ← h2, ← h3, ← h4, em_lR, h.space, h.name, h.text]
    unfold ndOk
    rw [if_pos hk]
    cases fullL n.name <;> cases n.text.isEmpty <;> cases okT n.space <;> cases atsOk n.attrs <;> rfl)
  have HK3 : Hid (a3 = true → q3 = 0) := Lib.hid fun h => by rw [← hq3]; exact chk9_ok (h3.trans h)
  have HL3 : Hid (a3 = false → q3 ≠ 0) := Lib.hid fun h => by rw [← hq3]; exact chk9_bad (h3.trans h)
  have H1 := Lib.hid h1
  have H4 := Lib.hid h4
  have HQ3 := Lib.hid hq3
  unfold NdV
  rw [hk, hm, hmy]
  rw [hmy] at ba bb
  clear h hs hk hq h1 h3 h4 hq3 hm hmy
  cases a1 with
  | false =>
    obtain rfl : q = false := HQ.out
    go_enter Tryz.func64, Tryz.ntmps64
    go_wp2_with (first
      | (go_at_call 82; (with_reducible refine (rfull9 y _ HYS.out false H1.out).mono ?_); rintro e1 w1 ⟨rfl, hb1⟩; have HB1 : Hid (Below w.heap.size w w1) := Lib.hid (bel_in9 (HBO.out _) hb1); have HX1 := Lib.hid (kept_heap (heap_alloc_new w (.cells #[.int .u8 ((1 : Nat) : Int), .string x, .string y, .slice A m c, .string z, .int .i64 y9] 39)) hb1); have d10 := cellV w1 _ 0 _ _ _ HX1.out; have d11 := cellV w1 _ 1 _ _ _ HX1.out; have d12 := cellV w1 _ 2 _ _ _ HX1.out; have d13 := cellV w1 _ 3 _ _ _ HX1.out; have d14 := cellV w1 _ 4 _ _ _ HX1.out; have d15 := cellV w1 _ 5 _ _ _ HX1.out; clear hb1)
      | fail)
    go_ret
    exact ⟨rfl, HB1.out⟩
  | true =>
    cases a2 with
    | false =>
      obtain rfl : q = false := HQ.out
      go_enter Tryz.func64, Tryz.ntmps64
      go_wp2_with (first
        | (go_at_call 82; (with_reducible refine (rfull9 y _ HYS.out true H1.out).mono ?_); rintro e1 w1 ⟨rfl, hb1⟩; have HB1 : Hid (Below w.heap.size w w1) := Lib.hid (bel_in9 (HBO.out _) hb1); have HX1 := Lib.hid (kept_heap (heap_alloc_new w (.cells #[.int .u8 ((1 : Nat) : Int), .string x, .string y, .slice A m c, .string z, .int .i64 y9] 39)) hb1); have d10 := cellV w1 _ 0 _ _ _ HX1.out; have d11 := cellV w1 _ 1 _ _ _ HX1.out; have d12 := cellV w1 _ 2 _ _ _ HX1.out; have d13 := cellV w1 _ 3 _ _ _ HX1.out; have d14 := cellV w1 _ 4 _ _ _ HX1.out; have d15 := cellV w1 _ 5 _ _ _ HX1.out; clear hb1)
        | fail)
      go_ret
      exact ⟨rfl, HB1.out⟩
    | true =>
      cases a3 with
      | false =>
        have f3 : (q3 == 0) = false := by simpa using HL3.out rfl
        obtain rfl : q = false := HQ.out
        go_enter Tryz.func64, Tryz.ntmps64
        go_wp2_with (first
          | (go_at_call 82; (with_reducible refine (rfull9 y _ HYS.out true H1.out).mono ?_); rintro e1 w1 ⟨rfl, hb1⟩; have HB1 : Hid (Below w.heap.size w w1) := Lib.hid (bel_in9 (HBO.out _) hb1); have HX1 := Lib.hid (kept_heap (heap_alloc_new w (.cells #[.int .u8 ((1 : Nat) : Int), .string x, .string y, .slice A m c, .string z, .int .i64 y9] 39)) hb1); have d10 := cellV w1 _ 0 _ _ _ HX1.out; have d11 := cellV w1 _ 1 _ _ _ HX1.out; have d12 := cellV w1 _ 2 _ _ _ HX1.out; have d13 := cellV w1 _ 3 _ _ _ HX1.out; have d14 := cellV w1 _ 4 _ _ _ HX1.out; have d15 := cellV w1 _ 5 _ _ _ HX1.out; clear hb1)
          | (go_at_call 29; (with_reducible refine (rcheck_any x _ HXS.out q3 HQ3.out).mono ?_); rintro e2 w2 ⟨rfl, hb2⟩; have HB2 : Hid (Below w.heap.size w w2) := Lib.hid (stp HB1.out hb2); have HX2 := Lib.hid (kept_heap HX1.out hb2); have d20 := cellV w2 _ 0 _ _ _ HX2.out; have d21 := cellV w2 _ 1 _ _ _ HX2.out; have d22 := cellV w2 _ 2 _ _ _ HX2.out; have d23 := cellV w2 _ 3 _ _ _ HX2.out; have d24 := cellV w2 _ 4 _ _ _ HX2.out; have d25 := cellV w2 _ 5 _ _ _ HX2.out; clear hb2)
          | fail)
        go_ret
        exact ⟨rfl, HB2.out⟩
      | true =>
        obtain rfl : q3 = 0 := HK3.out rfl
        obtain rfl : q = a4 := HQ.out
        go_enter Tryz.func64, Tryz.ntmps64
        go_wp2_with (first
          | (go_at_call 82; (with_reducible refine (rfull9 y _ HYS.out true H1.out).mono ?_); rintro e1 w1 ⟨rfl, hb1⟩; have HB1 : Hid (Below w.heap.size w w1) := Lib.hid (bel_in9 (HBO.out _) hb1); have HX1 := Lib.hid (kept_heap (heap_alloc_new w (.cells #[.int .u8 ((1 : Nat) : Int), .string x, .string y, .slice A m c, .string z, .int .i64 y9] 39)) hb1); have d10 := cellV w1 _ 0 _ _ _ HX1.out; have d11 := cellV w1 _ 1 _ _ _ HX1.out; have d12 := cellV w1 _ 2 _ _ _ HX1.out; have d13 := cellV w1 _ 3 _ _ _ HX1.out; have d14 := cellV w1 _ 4 _ _ _ HX1.out; have d15 := cellV w1 _ 5 _ _ _ HX1.out; clear hb1)
          | (go_at_call 29; (with_reducible refine (rcheck_any x _ HXS.out 0 HQ3.out).mono ?_); rintro e2 w2 ⟨rfl, hb2⟩; have HB2 : Hid (Below w.heap.size w w2) := Lib.hid (stp HB1.out hb2); have HX2 := Lib.hid (kept_heap HX1.out hb2); have d20 := cellV w2 _ 0 _ _ _ HX2.out; have d21 := cellV w2 _ 1 _ _ _ HX2.out; have d22 := cellV w2 _ 2 _ _ _ HX2.out; have d23 := cellV w2 _ 3 _ _ _ HX2.out; have d24 := cellV w2 _ 4 _ _ _ HX2.out; have d25 := cellV w2 _ 5 _ _ _ HX2.out; clear hb2)
          | (go_at_call 83; (with_reducible refine (rmayats A m c n.attrs _ (HND.out _ HB2.out).rd HNL.out (HNL.out ▸ HLN.out) HEA.out _ H4.out).mono ?_); rintro e3 w3 ⟨rfl, hb3⟩; have HB3 : Hid (Below w.heap.size w w3) := Lib.hid (stp HB2.out hb3))
          | fail)
        go_ret
        exact ⟨rfl, HB3.out⟩
theorem rnode_2 (n : Nd) (x y z : ByteArray) (A : Option Addr) (c : Nat) (w : World) (h : NdAt n x y z A c w) (hs : SmallN n) (hk : n.kind = 2) (q : Bool) (hq : ndOk n = q) :
    Calls Tryz.prog 64 #[NdV n x y z A c] w fun e w' => e = .returned (.bool q) ∧ Below w.heap.size w w' := by
  have HBO : Hid (∀ o, Below w.heap.size w (w.alloc o)) := Lib.hid fun o => (Below.refl _ _).alloc (Nat.le_refl _) o
  have HND : Hid (∀ W, Below w.heap.size w W → NdAt n x y z A c W) := Lib.hid fun W hW => h.on hW
  have HXS : Hid (x.size ≤ 1000000) := Lib.hid (by rw [← ba_l, h.space]; exact hs.space)
  have HYS : Hid (y.size ≤ 1000000) := Lib.hid (by rw [← ba_l, h.name]; exact hs.name)
  have HZS : Hid (z.size ≤ 1000000) := Lib.hid (by rw [← ba_l, h.text]; exact hs.text)
  have HLN : Hid (n.attrs.length ≤ 1000000) := Lib.hid hs.attrs
  have HEA := Lib.hid hs.each
  have ba := h.lo
  have bb := h.hi
  obtain ⟨m, hm⟩ : ∃ m, n.attrs.length = m := ⟨_, rfl⟩
  have HNL := Lib.hid hm
  obtain ⟨y9, hmy⟩ : ∃ y9, n.many = y9 := ⟨_, rfl⟩
  obtain ⟨a1, h1⟩ : ∃ a, y.toList.isEmpty = a := ⟨_, rfl⟩
  obtain ⟨a2, h2⟩ : ∃ a, x.toList.isEmpty = a := ⟨_, rfl⟩
  obtain ⟨a3, h3⟩ : ∃ a, ((m : Int) == 0) = a := ⟨_, rfl⟩
  obtain ⟨a4, h4⟩ : ∃ a, (y9 == 0) = a := ⟨_, rfl⟩
  obtain ⟨a5, h5⟩ : ∃ a, (!z.toList.isEmpty) = a := ⟨_, rfl⟩
  obtain ⟨a6, h6⟩ : ∃ a, okT z.data.toList = a := ⟨_, rfl⟩
  obtain ⟨q3, hq3⟩ : ∃ q, chkE z = q := ⟨_, rfl⟩
  have HQ : Hid (q = (a1 && (a2 && (a3 && (a4 && (a5 && a6)))))) := Lib.hid (by
    have e3 : ((m : Int) == 0) = n.attrs.isEmpty := by rw [← hm]; cases n.attrs <;> simp <;> omega
    have e6 : (y9 == 0) = decide (n.many = 0) := by rw [hmy, Bool.eq_iff_iff]; simp
    rw [← hq, ← h1, ← h2, ← h3, ← h4, ← h5, ← h6, e3, e6, em_lR, em_lR, em_lR, h.space, h.name, h.text]
    unfold ndOk
    rw [if_neg (by omega), if_pos hk]
    cases n.name.isEmpty <;> cases n.space.isEmpty <;> cases n.attrs.isEmpty <;> cases decide (n.many = 0) <;> cases n.text.isEmpty <;> cases okT n.text <;> rfl)
  have HK3 : Hid (a6 = true → q3 = 0) := Lib.hid fun h => by rw [← hq3]; exact chk9_ok (h6.trans h)
  have HL3 : Hid (a6 = false → q3 ≠ 0) := Lib.hid fun h => by rw [← hq3]; exact chk9_bad (h6.trans h)
  have HQ3 := Lib.hid hq3
  have HF3 : Hid ((q3 == 0) = a6) := Lib.hid (by cases a6 with | true => rw [HK3.out rfl]; rfl | false => simpa using HL3.out rfl)
  unfold NdV
  rw [hk, hm, hmy]
  rw [hmy] at ba bb
  clear h hs hk hq h6 hq3 hm hmy
  cases a1 with
  | false =>
    obtain rfl : q = false := HQ.out
    go_enter Tryz.func64, Tryz.ntmps64
    go_wp2_with fail
    go_ret
    exact ⟨rfl, HBO.out _⟩
  | true =>
    cases a2 with
    | false =>
      obtain rfl : q = false := HQ.out
      go_enter Tryz.func64, Tryz.ntmps64
      go_wp2_with fail
      go_ret
      exact ⟨rfl, HBO.out _⟩
    | true =>
      cases a3 with
      | false =>
        obtain rfl : q = false := HQ.out
        go_enter Tryz.func64, Tryz.ntmps64
        go_wp2_with fail
        go_ret
        exact ⟨rfl, HBO.out _⟩
      | true =>
        cases a4 with
        | false =>
          obtain rfl : q = false := HQ.out
          go_enter Tryz.func64, Tryz.ntmps64
          go_wp2_with fail
          go_ret
          exact ⟨rfl, HBO.out _⟩
        | true =>
          cases a5 with
          | false =>
            obtain rfl : q = false := HQ.out
            go_enter Tryz.func64, Tryz.ntmps64
            go_wp2_with fail
            go_ret
            exact ⟨rfl, HBO.out _⟩
          | true =>
            obtain rfl : q = a6 := HQ.out
            have f3 := HF3.out
            go_enter Tryz.func64, Tryz.ntmps64
            go_wp2_with (first
              | (go_at_call 29; (with_reducible refine (rcheck_any z _ HZS.out q3 HQ3.out).mono ?_); rintro e1 w1 ⟨rfl, hb1⟩; have HB1 : Hid (Below w.heap.size w w1) := Lib.hid (bel_in9 (HBO.out _) hb1))
              | fail)
            go_ret
            exact ⟨rfl, HB1.out⟩
theorem rnode_no (n : Nd) (x y z : ByteArray) (A : Option Addr) (c : Nat) (w : World) (h : NdAt n x y z A c w) (hs : SmallN n) (hk1 : n.kind ≠ 1) (hk2 : n.kind ≠ 2) (q : Bool) (hq : ndOk n = q) :
    Calls Tryz.prog 64 #[NdV n x y z A c] w fun e w' => e = .returned (.bool q) ∧ Below w.heap.size w w' := by
  have HBO : Hid (∀ o, Below w.heap.size w (w.alloc o)) := Lib.hid fun o => (Below.refl _ _).alloc (Nat.le_refl _) o
  obtain rfl : q = false := by rw [← hq]; unfold ndOk; rw [if_neg hk1, if_neg hk2]
  have f1 : ((n.kind : Int) == 1) = false := by simp; omega
  have f2 : ((n.kind : Int) == 2) = false := by simp; omega
  unfold NdV
  clear h hs hk1 hk2 hq
  go_enter Tryz.func64, Tryz.ntmps64
  go_wp2_with fail
  go_ret
  exact ⟨rfl, HBO.out _⟩
theorem rnode (n : Nd) (x y z : ByteArray) (A : Option Addr) (c : Nat) (w : World) (h : NdAt n x y z A c w) (hs : SmallN n) (q : Bool) (hq : ndOk n = q) :
    Calls Tryz.prog 64 #[NdV n x y z A c] w fun e w' => e = .returned (.bool q) ∧ Below w.heap.size w w' := by
  by_cases h1 : n.kind = 1
  · exact rnode_1 n x y z A c w h hs h1 q hq
  · by_cases h2 : n.kind = 2
    · exact rnode_2 n x y z A c w h hs h2 q hq
    · exact rnode_no n x y z A c w h hs h1 h2 q hq
end Hx
end Go.Proofs.YteobcohjikjalaaGreatDoor
