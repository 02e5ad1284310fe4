/-
  Texts of one seat, put together: LexG, TreA, TreK, TreB, EscC, EscD.
-/
import Derived.Test.YtkmaogafknehgaaG06
import Derived.Test.YtkmaogafknehgaaG05
import Derived.Deep.RegionHeld3
import Derived.Test.YtkmaogafknehgaaG02
import Derived.Test.YtkmaogafknehgaaG03
import Derived.RegionTactic
import Derived.ChangeAlike
import Derived.Maps.OwnSet
import Derived.Test.YtkmaogafknehgaaShelf
import Derived.Lib.ConvBytes
import Derived.Laws.Externs
namespace Go.Proofs.Ytkmaogafknehgaa
open Go.RowKit
namespace Hx
open Lx Tx Nmb Es
set_option linter.unusedVariables false
theorem ba_app (a b : ByteArray) : (a ++ b).data.toList = a.data.toList ++ b.data.toList := by simp
theorem bel_in9 {w w' w0 : World} (h0 : Below w0.heap.size w0 w) (h : Below w.heap.size w w') : Below w0.heap.size w0 w' := h0.trans (h.mono h0.size)
end Hx
end Go.Proofs.Ytkmaogafknehgaa
namespace Go.Proofs.Ytkmaogafknehgaa
open Go.RowKit
namespace Hx
open Lx Tr Tx Nmb Es
set_option linter.unusedVariables false
set_option maxRecDepth 100000 in
theorem istext (s : ByteArray) (w : World) (hm : s.size ≤ 1000000) (b : Bool) (h : okT s.data.toList = b) :
    Calls Try.prog 55 #[.string s] w fun e w' => e = .returned (.bool b) ∧ Below w.heap.size w w' := by
  cases b with
  | true =>
    have HC := Lib.hid (check5 s w hm 0 (chk9_ok h))
    clear hm h
    go_enter Try.func55, Try.ntmps55
    go_wp2_with (first
      | (go_at_call 61; (with_reducible refine (HC.out).mono ?_); rintro e1 w1 ⟨rfl, hb1⟩)
      | fail)
    go_ret
    exact ⟨rfl, hb1⟩
  | false =>
    obtain ⟨q, hq⟩ : ∃ q, chkE s = q := ⟨_, rfl⟩
    have h0 : (q == 0) = false := by
      have := chk9_bad h
      rw [hq] at this
      simpa using this
    have HC := Lib.hid (check5 s w hm q hq)
    clear hm h hq
    go_enter Try.func55, Try.ntmps55
    go_wp2_with (first
      | (go_at_call 61; (with_reducible refine (HC.out).mono ?_); rintro e1 w1 ⟨rfl, hb1⟩)
      | fail)
    go_ret
    exact ⟨rfl, hb1⟩
def ddK (ks : List Ky) : List Ky := ks.foldl addK []
theorem ddK_len : ∀ (ks D : List Ky), (ks.foldl addK D).length ≤ D.length + ks.length ∧ ((ks.foldl addK D).length = D.length + ks.length ↔ ks.Nodup ∧ ∀ p ∈ ks, p ∉ D) := by
  intro ks
  induction ks with
  | nil => intro D; simp
  | cons p ks ih =>
    intro D
    rw [List.foldl_cons]
    by_cases hp : p ∈ D
    · rw [show addK D p = D from if_pos hp]
      obtain ⟨h1, _⟩ := ih D
      refine ⟨by rw [List.length_cons]; omega, ?_⟩
      constructor
      · intro h; rw [List.length_cons] at h; omega
      · rintro ⟨_, h⟩; exact absurd hp (h p (by simp))
    · rw [show addK D p = D ++ [p] from if_neg hp]
      obtain ⟨h1, h2⟩ := ih (D ++ [p])
      rw [List.length_append, List.length_singleton] at h1 h2
      refine ⟨by rw [List.length_cons]; omega, ?_⟩
      rw [List.length_cons, show D.length + (ks.length + 1) = D.length + 1 + ks.length by omega, h2, List.nodup_cons]
      constructor
      · rintro ⟨k1, k2⟩
        refine ⟨⟨fun hm => (k2 p hm) (by simp), k1⟩, fun q hq => ?_⟩
        rcases List.mem_cons.1 hq with rfl | hq
        · exact hp
        · intro hd; exact k2 q hq (by simp [hd])
      · rintro ⟨⟨k0, k1⟩, k2⟩
        refine ⟨k1, fun q hq hd => ?_⟩
        rcases List.mem_append.1 hd with hd | hd
        · exact k2 q (by simp [hq]) hd
        · rw [List.mem_singleton] at hd; exact k0 (hd ▸ hq)
theorem ddK_snoc (l : List At) (k : Nat) (h : k < l.length) : ddK ((l.take (k + 1)).map key) = addK (ddK ((l.take k).map key)) (key (l[k]'h)) := by
  unfold ddK
  rw [List.take_succ_eq_append_getElem h, List.map_append, List.foldl_append]
  rfl
theorem ddK_all (l : List At) : decide ((ddK (l.map key)).length = l.length) = decide ((l.map key).Nodup) := by
  have := (ddK_len (l.map key) []).2
  unfold ddK
  rw [List.length_nil, Nat.zero_add, List.length_map] at this
  rw [decide_eq_decide, this]
  simp
set_option maxHeartbeats 8000000 in
set_option maxRecDepth 100000 in
theorem mayhave (A : Option Addr) (n cp : Nat) (l : List At) (w : World) (hr : RdB AtS w A l) (hn : l.length = n) (hm : n ≤ 1000000) (hsz : ∀ a ∈ l, a.space.length ≤ 1000000 ∧ a.name.length ≤ 1000000 ∧ a.value.length ≤ 1000000) (q : Bool) (h : atsOk l = q) :
    Calls Try.prog 57 #[.slice A n cp] w fun e w' => e = .returned (.bool q) ∧ Below w.heap.size w w' := by
  have HR := Lib.hid hr
  have HN := Lib.hid hn
  have HM := Lib.hid hm
  have HH := Lib.hid h
  have HSZ := Lib.hid hsz
  clear hr hn h hsz
  by_cases h16 : 16 < n
  · have f16 : decide ((16 : Int) < (n : Int)) = true := decide_eq_true (by omega)
    obtain rfl : false = q := by
      rw [← HH.out]
      unfold atsOk
      rw [HN.out, decide_eq_false (by omega : ¬ n ≤ 16), Bool.and_false]
    go_enter Try.func57, Try.ntmps57
    go_wp2_with fail
    go_ret
    exact ⟨rfl, Below.refl _ _⟩
  · have f16 : decide ((16 : Int) < (n : Int)) = false := decide_eq_false (by omega)
    have hmm := @run_makeMap Try.prog
    have HB0 : Hid (Below w.heap.size w (w.alloc (.map #[] 0))) := Lib.hid ((Below.refl _ _).alloc (Nat.le_refl _) _)
    go_enter Try.func57, Try.ntmps57
    go_wp2_with fail
    go_loopw [12] (fun i wr => ∃ k : Nat, k ≤ n ∧ i = .int .i64 k ∧ (l.take k).all atOk = true ∧ MapN wr w.heap.size (ddK ((l.take k).map key)) k ∧ Below w.heap.size w wr ∧ w.heap.size < wr.heap.size) (fun i _ => n - (intOf i).toNat)
    case atStart => exact ⟨0, Nat.zero_le _, rfl, rfl, ⟨⟨(fun p hp => by cases hp), List.nodup_nil⟩, #[], 0, MapKept.heap_alloc w _ |>.1, (fun e he => by simp at he), by simp, rfl, (fun e he => by simp at he)⟩, HB0.out, by simp⟩
    case round =>
      obtain ⟨k, hk, rfl, hall, hmap, hbw, hsz0⟩ := hrel
      have hm := HM.out
      have HBW := Lib.hid hbw
      have HALL := Lib.hid hall
      have HMAP := Lib.hid hmap
      by_cases hlt : k < n
      · have hk1 : k < l.length := by rw [HN.out]; exact hlt
        obtain ⟨b0, off, x, y, z, rfl, hbB, hx, hy, hz, c0, c1, c2⟩ := at_at (HR.out.on hbw) hk1
        have hs := HSZ.out _ (List.getElem_mem hk1)
        rw [← hx, ← hy, ← hz, ba_l, ba_l, ba_l] at hs
        have HXS := Lib.hid hs.1
        have HYS := Lib.hid hs.2.1
        have HZS := Lib.hid hs.2.2
        have HKEY : Hid (ddK ((l.take (k + 1)).map key) = addK (ddK ((l.take k).map key)) (x.data.toList, y.data.toList)) := Lib.hid (by rw [ddK_snoc l k hk1]; unfold key; rw [hx, hy])
        have HAT : Hid ((l.take (k + 1)).all atOk = (fullL y.data.toList && okT z.data.toList && okT x.data.toList)) := Lib.hid (by
          rw [List.take_succ_eq_append_getElem hk1, List.all_append, hall, hx, hy, hz]
          simp [atOk])
        have HQ : Hid ((fullL y.data.toList && okT z.data.toList && okT x.data.toList) = false → false = q) := Lib.hid fun hf => by
          rw [← HH.out]
          unfold atsOk
          have : l.all atOk = false := by
            rw [List.all_eq_false]
            refine ⟨_, List.getElem_mem hk1, ?_⟩
            unfold atOk
            rw [← hx, ← hy, ← hz, hf]
            decide
          rw [this]
          rfl
        have HBO : Hid (∀ o, Below wr.heap.size wr (wr.alloc o)) := Lib.hid fun o => (Below.refl _ _).alloc (Nat.le_refl _) o
        have bk : (0 : Int) ≤ (k : Int) ∧ (k : Int) < (n : Int) := by omega
        have HLT := Lib.hid hlt
        clear hbw hall hmap hx hy hz hs hk1
        cases hf1 : okT x.data.toList with
        | false =>
          have HF1 := Lib.hid hf1
          obtain rfl : false = q := HQ.out (by rw [hf1, Bool.and_false])
          clear hf1
          go_wp2_with (first
            | (go_at_call 55; (with_reducible refine (istext x _ HXS.out false HF1.out).mono ?_); rintro e1 w1 ⟨rfl, hb1⟩; have HB1 : Hid (Below wr.heap.size wr w1) := Lib.hid (bel_in9 (HBO.out _) hb1); have HX1 := Lib.hid (kept_heap (heap_alloc_new wr (.cells #[.string x, .string y, .string z] 55)) hb1); have d10 := cellV w1 _ 0 _ _ _ HX1.out; have d11 := cellV w1 _ 1 _ _ _ HX1.out; have d12 := cellV w1 _ 2 _ _ _ HX1.out; clear hb1)
            | fail)
          go_ret
          exact ⟨rfl, stp HBW.out HB1.out⟩
        | true =>
          have HF1 := Lib.hid hf1
          cases hf2 : fullL y.data.toList with
          | false =>
            have HF2 := Lib.hid hf2
            obtain rfl : false = q := HQ.out (by rw [hf2, Bool.false_and, Bool.false_and])
            clear hf1 hf2
            go_wp2_with (first
              | (go_at_call 55; (with_reducible refine (istext x _ HXS.out true HF1.out).mono ?_); rintro e1 w1 ⟨rfl, hb1⟩; have HB1 : Hid (Below wr.heap.size wr w1) := Lib.hid (bel_in9 (HBO.out _) hb1); have HX1 := Lib.hid (kept_heap (heap_alloc_new wr (.cells #[.string x, .string y, .string z] 55)) hb1); have d10 := cellV w1 _ 0 _ _ _ HX1.out; have d11 := cellV w1 _ 1 _ _ _ HX1.out; have d12 := cellV w1 _ 2 _ _ _ HX1.out; clear hb1)
              | (go_at_call 56; (with_reducible refine (full9q y _ HYS.out false HF2.out).mono ?_); rintro e2 w2 ⟨rfl, hb2⟩; have HB2 : Hid (Below wr.heap.size wr w2) := Lib.hid (stp HB1.out hb2); have HX2 := Lib.hid (kept_heap HX1.out hb2); have d20 := cellV w2 _ 0 _ _ _ HX2.out; have d21 := cellV w2 _ 1 _ _ _ HX2.out; have d22 := cellV w2 _ 2 _ _ _ HX2.out; clear hb2)
              | fail)
            go_ret
            exact ⟨rfl, stp HBW.out HB2.out⟩
          | true =>
            have HF2 := Lib.hid hf2
            cases hf3 : okT z.data.toList with
            | false =>
              have HF3 := Lib.hid hf3
              obtain rfl : false = q := HQ.out (by rw [hf3, Bool.and_false, Bool.false_and])
              clear hf1 hf2 hf3
              go_wp2_with (first
                | (go_at_call 55; (with_reducible refine (istext x _ HXS.out true HF1.out).mono ?_); rintro e1 w1 ⟨rfl, hb1⟩; have HB1 : Hid (Below wr.heap.size wr w1) := Lib.hid (bel_in9 (HBO.out _) hb1); have HX1 := Lib.hid (kept_heap (heap_alloc_new wr (.cells #[.string x, .string y, .string z] 55)) hb1); have d10 := cellV w1 _ 0 _ _ _ HX1.out; have d11 := cellV w1 _ 1 _ _ _ HX1.out; have d12 := cellV w1 _ 2 _ _ _ HX1.out; clear hb1)
                | (go_at_call 56; (with_reducible refine (full9q y _ HYS.out true HF2.out).mono ?_); rintro e2 w2 ⟨rfl, hb2⟩; have HB2 : Hid (Below wr.heap.size wr w2) := Lib.hid (stp HB1.out hb2); have HX2 := Lib.hid (kept_heap HX1.out hb2); have d20 := cellV w2 _ 0 _ _ _ HX2.out; have d21 := cellV w2 _ 1 _ _ _ HX2.out; have d22 := cellV w2 _ 2 _ _ _ HX2.out; clear hb2)
                | (go_at_call 55; (with_reducible refine (istext z _ HZS.out false HF3.out).mono ?_); rintro e3 w3 ⟨rfl, hb3⟩; have HB3 : Hid (Below wr.heap.size wr w3) := Lib.hid (stp HB2.out hb3); have HX3 := Lib.hid (kept_heap HX2.out hb3); have f32 := freeV w3 _ 2 _ _ HX3.out; have d30 := cellV w3 _ 0 _ _ _ HX3.out; have d31 := cellV w3 _ 1 _ _ _ HX3.out; have d32 := cellV w3 _ 2 _ _ _ HX3.out; clear hb3)
                | fail)
              go_ret
              exact ⟨rfl, stp HBW.out HB3.out⟩
            | true =>
              have HF3 := Lib.hid hf3
              have HAT2 : Hid ((l.take (k + 1)).all atOk = true) := Lib.hid (by rw [HAT.out, hf1, hf2, hf3]; rfl)
              clear hf1 hf2 hf3
              go_wp2_with (first
                | (go_at_call 55; (with_reducible refine (istext x _ HXS.out true HF1.out).mono ?_); rintro e1 w1 ⟨rfl, hb1⟩; have HB1 : Hid (Below wr.heap.size wr w1) := Lib.hid (bel_in9 (HBO.out _) hb1); have HX1 := Lib.hid (kept_heap (heap_alloc_new wr (.cells #[.string x, .string y, .string z] 55)) hb1); have d10 := cellV w1 _ 0 _ _ _ HX1.out; have d11 := cellV w1 _ 1 _ _ _ HX1.out; have d12 := cellV w1 _ 2 _ _ _ HX1.out; clear hb1)
                | (go_at_call 56; (with_reducible refine (full9q y _ HYS.out true HF2.out).mono ?_); rintro e2 w2 ⟨rfl, hb2⟩; have HB2 : Hid (Below wr.heap.size wr w2) := Lib.hid (stp HB1.out hb2); have HX2 := Lib.hid (kept_heap HX1.out hb2); have d20 := cellV w2 _ 0 _ _ _ HX2.out; have d21 := cellV w2 _ 1 _ _ _ HX2.out; have d22 := cellV w2 _ 2 _ _ _ HX2.out; clear hb2)
                | (go_at_call 55; (with_reducible refine (istext z _ HZS.out true HF3.out).mono ?_); rintro e3 w3 ⟨rfl, hb3⟩; have HB3 : Hid (Below wr.heap.size wr w3) := Lib.hid (stp HB2.out hb3); have HX3 := Lib.hid (kept_heap HX2.out hb3); have f32 := freeV w3 _ 2 _ _ HX3.out; have d30 := cellV w3 _ 0 _ _ _ HX3.out; have d31 := cellV w3 _ 1 _ _ _ HX3.out; have d32 := cellV w3 _ 2 _ _ _ HX3.out; clear hb3)
                | fail)
              obtain ⟨V, hV⟩ : ∃ V, w3.setCell ⟨wr.heap.size, 2, none⟩ (.string ⟨#[]⟩) = V := ⟨_, rfl⟩
              rw [hV]
              have hsz3 := HB3.out.size
              have hXV : V.heap[wr.heap.size]? = some (.cells #[.string x, .string y, .string ⟨#[]⟩] 55 (0, 0)) := by
                rw [← hV]
                exact heap_setCell_same w3 wr.heap.size 2 _ _ _ HX3.out
              have hBV : Below wr.heap.size wr V := by
                rw [← hV]
                exact HB3.out.setCell (p := ⟨wr.heap.size, 2, none⟩) (Nat.le_refl _) _
              obtain ⟨c, st, W1, W2, hc, E1, E2, E3, E4, hM2, o1, o2⟩ := map_step (w := V.drew) (HMAP.out.kept (hBV.block _ hsz0)) (p := (x.data.toList, y.data.toList)) ⟨by rw [ba_l]; exact HXS.out, by rw [ba_l]; exact HYS.out⟩
              have ek : kyV (x.data.toList, y.data.toList) = .agg #[.string x, .string y, .string ⟨#[]⟩] := rfl
              rw [ek] at E1 E2 E3
              unfold T0 at E1 E2 E3 E4
              have hne : wr.heap.size ≠ w.heap.size := by omega
              have dV0 := cellV V _ 0 _ _ _ hXV
              have dV1 := cellV V _ 1 _ _ _ hXV
              have dV2 := cellV V _ 2 _ _ _ hXV
              have hX1 := (o1.block _ hne).trans hXV
              have dW0 := cellV W1 _ 0 _ _ _ hX1
              have dW1 := cellV W1 _ 1 _ _ _ hX1
              have dW2 := cellV W1 _ 2 _ _ _ hX1
              have HB5 : Hid (Below w.heap.size w W2) := Lib.hid (((stp HBW.out hBV).drew.trans (o1.below (Nat.le_refl _))).trans (o2.below (Nat.le_refl _)))
              have HSZ5 : Hid (w.heap.size < W2.heap.size) := Lib.hid (by rw [o2.size, o1.size]; have : wr.heap.size ≤ V.heap.size := hBV.size; show w.heap.size < V.heap.size; omega)
              have HM5 := Lib.hid hM2
              have bc : (0 : Int) ≤ (c : Int) ∧ (c : Int) ≤ 1000000 := by omega
              clear hV hXV hBV hM2 o1 o2 hX1 ek hne hsz3 d10 d11 d12 d20 d21 d22 d30 d31 d32 f32 hsz0 hlt c0 c1 c2
              go_region
              all_goals
                go_wp2_with fail
                exact ⟨⟨k + 1, HLT.out, by go_num, HAT2.out, by rw [HKEY.out]; exact HM5.out, HB5.out, HSZ5.out⟩, by have := HLT.out; simp [intOf]; omega⟩
      · obtain rfl : k = n := by omega
        obtain ⟨_, es, clock, hes, _, _, hkeys, _⟩ := hmap
        have hsz : es.size = (ddK ((l.take k).map key)).length := by
          have := congrArg List.length hkeys
          rw [List.length_map, List.length_map] at this
          exact this
        have htk : l.take k = l := by rw [← HN.out]; exact List.take_length
        obtain ⟨r, hr⟩ : ∃ r, (((es.size : Nat) : Int) == (k : Int)) = r := ⟨_, rfl⟩
        have HQ : Hid (r = q) := Lib.hid (by
          rw [← hr, ← HH.out]
          unfold atsOk
          rw [htk] at hall hsz
          have h1 := ddK_all l
          rw [hall, HN.out, decide_eq_true (by omega : k ≤ 16), Bool.true_and, Bool.and_true, ← h1, hsz, HN.out]
          rw [Bool.eq_iff_iff]
          simp
          omega)
        have hlen : (Builtin.len_ #[99] 3 #[.map (some w.heap.size)]).run Try.prog wr = .ok (.int .i64 (es.size : Nat)) wr := by
          simp [Builtin.len_, MapKept.run_getObj_map hes, goInt, Result.andThen]
        clear hbw hall hkeys hsz htk hes
        go_wp2_with fail
        go_ret
        exact ⟨ret_b HQ.out, HBW.out⟩
end Hx
end Go.Proofs.Ytkmaogafknehgaa
namespace Go.Proofs.Ytkmaogafknehgaa
namespace Hx
open Lx Tr Tx Nmb Es
set_option linter.unusedVariables false
def holdB (n : Nd) : Bool := ndOk n && decide (0 ≤ n.many)
theorem kidsD_add {g : List Nd → Option (List Nd)} : ∀ (k k2 : Nat) (b b1 : Bool) (l m : List Nd), kidsD g k b l = some (b1, m) → kidsD g (k + k2) b l = kidsD g k2 b1 m := by
  intro k
  induction k with
  | zero =>
    intro k2 b b1 l m h
    rw [kidsD] at h
    obtain ⟨rfl, rfl⟩ := (Prod.mk.injEq _ _ _ _).mp (Option.some.inj h)
    rw [Nat.zero_add]
  | succ k ih =>
    intro k2 b b1 l m h
    cases l with
    | nil => rw [kidsD] at h; cases h
    | cons n l =>
      rw [kidsD] at h
      by_cases hb : b = true ∧ n.kind = 2
      · rw [if_pos hb] at h; cases h
      · rw [if_neg hb] at h
        rw [show k + 1 + k2 = (k + k2) + 1 by omega, kidsD, if_neg hb]
        cases hn : g (n :: l) with
        | none => rw [hn] at h; cases h
        | some y =>
          rw [hn] at h
          exact ih k2 _ _ _ _ h
theorem kidsD_fail {g : List Nd → Option (List Nd)} : ∀ (k k2 : Nat) (b : Bool) (l : List Nd), kidsD g k b l = none → kidsD g (k + k2) b l = none := by
  intro k
  induction k with
  | zero => intro k2 b l h; rw [kidsD] at h; cases h
  | succ k ih =>
    intro k2 b l h
    cases l with
    | nil => rw [show k + 1 + k2 = (k + k2) + 1 by omega, kidsD]
    | cons n l =>
      rw [kidsD] at h
      rw [show k + 1 + k2 = (k + k2) + 1 by omega, kidsD]
      by_cases hb : b = true ∧ n.kind = 2
      · rw [if_pos hb]
      · rw [if_neg hb] at h ⊢
        cases hn : g (n :: l) with
        | none => rfl
        | some y =>
          rw [hn] at h
          exact ih k2 _ _ h
/-- One node more among those within a node: none is there; two texts; it may not be; it may. -/
theorem kids_next {d j m : Nat} {b : Bool} {l : List Nd} {v : List Nd} {p' : Nat} (h : kidsD (restD d) j false l = some (b, v.drop p')) (hj : j < m) :
    (v.length ≤ p' → kidsD (restD d) m false l = none) ∧
    (∀ hp : p' < v.length, (b = true ∧ (v[p']'hp).kind = 2 → kidsD (restD d) m false l = none) ∧ (restD d (v.drop p') = none → kidsD (restD d) m false l = none) ∧
      (∀ r, ¬ (b = true ∧ (v[p']'hp).kind = 2) → restD d (v.drop p') = some r → kidsD (restD d) (j + 1) false l = some (decide ((v[p']'hp).kind = 2), r))) := by
  have e1 := kidsD_add j 1 false b l _ h
  have fail : kidsD (restD d) 1 b (v.drop p') = none → kidsD (restD d) m false l = none := by
    intro hf
    rw [hf] at e1
    have := kidsD_fail (j + 1) (m - (j + 1)) false l e1
    rwa [show j + 1 + (m - (j + 1)) = m by omega] at this
  refine ⟨fun hp => fail (by rw [List.drop_of_length_le hp, kidsD]), fun hp => ⟨fun hb => fail ?_, fun hn => fail ?_, fun r hb hr => ?_⟩⟩
  · rw [List.drop_eq_getElem_cons hp, kidsD, if_pos hb]
  · rw [List.drop_eq_getElem_cons hp] at hn ⊢
    rw [kidsD]
    by_cases hb : b = true ∧ (v[p']'hp).kind = 2
    · rw [if_pos hb]
    · rw [if_neg hb, hn]
  · rw [e1]
    rw [List.drop_eq_getElem_cons hp] at hr ⊢
    rw [kidsD, if_neg hb, hr]
    rfl
theorem restD_eq {d : Nat} {v : List Nd} {p : Nat} (hp : p < v.length) : restD d (v.drop p) = if holdB (v[p]'hp) = true ∧ ¬ ((v[p]'hp).kind = 1 ∧ d = 0) then (kidsD (restD (d - 1)) (v[p]'hp).many.toNat false (v.drop (p + 1))).map (·.2) else none := by
  rw [List.drop_eq_getElem_cons hp]
  have hB : holdB (v[p]'hp) = true ↔ ndOk (v[p]'hp) = true ∧ 0 ≤ (v[p]'hp).many := by unfold holdB; simp
  cases d with
  | zero =>
    rw [restD]
    by_cases h : ndOk (v[p]'hp) = true ∧ (v[p]'hp).kind = 2
    · have h0 := (ndOk_two h.1 h.2).1
      rw [if_pos h, if_pos ⟨hB.2 ⟨h.1, by omega⟩, by omega⟩, h0]
      rfl
    · rw [if_neg h, if_neg]
      rintro ⟨h1, h2⟩
      have h3 := hB.1 h1
      rcases ndOk_kind h3.1 with h4 | h4
      · exact h2 ⟨h4, rfl⟩
      · exact h ⟨h3.1, h4⟩
  | succ d =>
    rw [restD]
    by_cases h : ndOk (v[p]'hp) = true ∧ 0 ≤ (v[p]'hp).many
    · rw [if_pos h, if_pos ⟨hB.2 h, by omega⟩]
      rfl
    · rw [if_neg h, if_neg]
      rintro ⟨h1, _⟩
      exact h (hB.1 h1)
theorem mayV_one {v : List Nd} (h : v.length ≤ 512) (h1 : ∃ n l, v = n :: l ∧ n.kind = 1) : mayV v = decide (restD 12 v = some []) := by
  rw [Bool.eq_iff_iff, mayV_iff, decide_eq_true_eq]
  exact ⟨fun k => k.2.2, fun k => ⟨h, h1, k⟩⟩
theorem mayV_no {v : List Nd} (h : ¬ (v.length ≤ 512 ∧ ∃ n l, v = n :: l ∧ n.kind = 1)) : mayV v = false := by
  rw [Bool.eq_false_iff]
  intro hm
  have := mayV_iff.1 hm
  exact h ⟨this.1, this.2.1⟩
def checkV (v : List Nd) : Int := if mayV v = true then 0 else 8
end Hx
end Go.Proofs.Ytkmaogafknehgaa
namespace Go.Proofs.Ytkmaogafknehgaa
open Go.RowKit
namespace Hx
open Lx Tr Tx Nmb Es
set_option linter.unusedVariables false
theorem em_l (s : ByteArray) : s.toList.isEmpty = s.data.toList.isEmpty := by rw [ByteArray.toList_eq]
set_option maxHeartbeats 8000000 in
set_option maxRecDepth 100000 in
theorem hold_1 (n : Nd) (x y z : ByteArray) (A : Option Addr) (c : Nat) (w : World) (h : NdAt n x y z A c w) (hs : SmallN n) (hk : n.kind = 1) (q : Bool) (hq : holdB n = q) :
    Calls Try.prog 52 #[NdV n x y z A c] w fun e w' => e = .returned (.bool q) ∧ Below w.heap.size w w' := by
  have HBO : Hid (∀ o, Below w.heap.size w (w.alloc o)) := Lib.hid fun o => (Below.refl _ _).alloc (Nat.le_refl _) o
  have HND : Hid (∀ W, Below w.heap.size w W → NdAt n x y z A c W) := Lib.hid fun W hW => h.on hW
  have HXS : Hid (x.size ≤ 1000000) := Lib.hid (by rw [← ba_l, h.space]; exact hs.space)
  have HYS : Hid (y.size ≤ 1000000) := Lib.hid (by rw [← ba_l, h.name]; exact hs.name)
  have HZS : Hid (z.size ≤ 1000000) := Lib.hid (by rw [← ba_l, h.text]; exact hs.text)
  have HLN : Hid (n.attrs.length ≤ 1000000) := Lib.hid hs.attrs
  have HEA := Lib.hid hs.each
  have ba := h.lo
  have bb := h.hi
  obtain ⟨m, hm⟩ : ∃ m, n.attrs.length = m := ⟨_, rfl⟩
  have HNL := Lib.hid hm
  obtain ⟨y9, hmy⟩ : ∃ y9, n.many = y9 := ⟨_, rfl⟩
  obtain ⟨a1, h1⟩ : ∃ a, okT x.data.toList = a := ⟨_, rfl⟩
  obtain ⟨a2, h2⟩ : ∃ a, fullL y.data.toList = a := ⟨_, rfl⟩
  obtain ⟨a3, h3⟩ : ∃ a, atsOk n.attrs = a := ⟨_, rfl⟩
  obtain ⟨a4, h4⟩ : ∃ a, z.toList.isEmpty = a := ⟨_, rfl⟩
  obtain ⟨a5, h5⟩ : ∃ a, decide ((0 : Int) ≤ y9) = a := ⟨_, rfl⟩
  have HQ : Hid (q = (a1 && (a2 && (a3 && (a4 && a5))))) := Lib.hid (by
    rw [← hq, ← h1, ← h2, ← h3, ← h4, ← h5, em_l, h.space, h.name, h.text, ← hmy]
    unfold holdB ndOk
    rw [if_pos hk]
    cases fullL n.name <;> cases n.text.isEmpty <;> cases okT n.space <;> cases atsOk n.attrs <;> cases decide ((0 : Int) ≤ n.many) <;> rfl)
  have H1 := Lib.hid h1
  have H2 := Lib.hid h2
  have H3 := Lib.hid h3
  unfold NdV
  rw [hk, hm, hmy]
  rw [hmy] at ba bb
  clear h hs hk hq h1 h2 h3 hm hmy
  cases a1 with
  | false =>
    obtain rfl : q = false := HQ.out
    go_enter Try.func52, Try.ntmps52
    go_wp2_with (first
      | (go_at_call 55; (with_reducible refine (istext x _ HXS.out false H1.out).mono ?_); rintro e1 w1 ⟨rfl, hb1⟩; have HB1 : Hid (Below w.heap.size w w1) := Lib.hid (bel_in9 (HBO.out _) hb1); have HX1 := Lib.hid (kept_heap (heap_alloc_new w (.cells #[.int .u8 ((1 : Nat) : Int), .string x, .string y, .slice A m c, .string z, .int .i64 y9] 53)) hb1); have d10 := cellV w1 _ 0 _ _ _ HX1.out; have d11 := cellV w1 _ 1 _ _ _ HX1.out; have d12 := cellV w1 _ 2 _ _ _ HX1.out; have d13 := cellV w1 _ 3 _ _ _ HX1.out; have d14 := cellV w1 _ 4 _ _ _ HX1.out; have d15 := cellV w1 _ 5 _ _ _ HX1.out; clear hb1)
      | fail)
    go_ret
    exact ⟨rfl, HB1.out⟩
  | true =>
    cases a2 with
    | false =>
      obtain rfl : q = false := HQ.out
      go_enter Try.func52, Try.ntmps52
      go_wp2_with (first
        | (go_at_call 55; (with_reducible refine (istext x _ HXS.out true H1.out).mono ?_); rintro e1 w1 ⟨rfl, hb1⟩; have HB1 : Hid (Below w.heap.size w w1) := Lib.hid (bel_in9 (HBO.out _) hb1); have HX1 := Lib.hid (kept_heap (heap_alloc_new w (.cells #[.int .u8 ((1 : Nat) : Int), .string x, .string y, .slice A m c, .string z, .int .i64 y9] 53)) hb1); have d10 := cellV w1 _ 0 _ _ _ HX1.out; have d11 := cellV w1 _ 1 _ _ _ HX1.out; have d12 := cellV w1 _ 2 _ _ _ HX1.out; have d13 := cellV w1 _ 3 _ _ _ HX1.out; have d14 := cellV w1 _ 4 _ _ _ HX1.out; have d15 := cellV w1 _ 5 _ _ _ HX1.out; clear hb1)
        | (go_at_call 56; (with_reducible refine (full9q y _ HYS.out false H2.out).mono ?_); rintro e2 w2 ⟨rfl, hb2⟩; have HB2 : Hid (Below w.heap.size w w2) := Lib.hid (stp HB1.out hb2); have HX2 := Lib.hid (kept_heap HX1.out hb2); have d20 := cellV w2 _ 0 _ _ _ HX2.out; have d21 := cellV w2 _ 1 _ _ _ HX2.out; have d22 := cellV w2 _ 2 _ _ _ HX2.out; have d23 := cellV w2 _ 3 _ _ _ HX2.out; have d24 := cellV w2 _ 4 _ _ _ HX2.out; have d25 := cellV w2 _ 5 _ _ _ HX2.out; clear hb2)
        | fail)
      go_ret
      exact ⟨rfl, HB2.out⟩
    | true =>
      cases a3 with
      | false =>
        obtain rfl : q = false := HQ.out
        go_enter Try.func52, Try.ntmps52
        go_wp2_with (first
          | (go_at_call 55; (with_reducible refine (istext x _ HXS.out true H1.out).mono ?_); rintro e1 w1 ⟨rfl, hb1⟩; have HB1 : Hid (Below w.heap.size w w1) := Lib.hid (bel_in9 (HBO.out _) hb1); have HX1 := Lib.hid (kept_heap (heap_alloc_new w (.cells #[.int .u8 ((1 : Nat) : Int), .string x, .string y, .slice A m c, .string z, .int .i64 y9] 53)) hb1); have d10 := cellV w1 _ 0 _ _ _ HX1.out; have d11 := cellV w1 _ 1 _ _ _ HX1.out; have d12 := cellV w1 _ 2 _ _ _ HX1.out; have d13 := cellV w1 _ 3 _ _ _ HX1.out; have d14 := cellV w1 _ 4 _ _ _ HX1.out; have d15 := cellV w1 _ 5 _ _ _ HX1.out; clear hb1)
          | (go_at_call 56; (with_reducible refine (full9q y _ HYS.out true H2.out).mono ?_); rintro e2 w2 ⟨rfl, hb2⟩; have HB2 : Hid (Below w.heap.size w w2) := Lib.hid (stp HB1.out hb2); have HX2 := Lib.hid (kept_heap HX1.out hb2); have d20 := cellV w2 _ 0 _ _ _ HX2.out; have d21 := cellV w2 _ 1 _ _ _ HX2.out; have d22 := cellV w2 _ 2 _ _ _ HX2.out; have d23 := cellV w2 _ 3 _ _ _ HX2.out; have d24 := cellV w2 _ 4 _ _ _ HX2.out; have d25 := cellV w2 _ 5 _ _ _ HX2.out; clear hb2)
          | (go_at_call 57; (with_reducible refine (mayhave A m c n.attrs _ (HND.out _ HB2.out).rd HNL.out (HNL.out ▸ HLN.out) HEA.out false H3.out).mono ?_); rintro e3 w3 ⟨rfl, hb3⟩; have HB3 : Hid (Below w.heap.size w w3) := Lib.hid (stp HB2.out hb3); have HX3 := Lib.hid (kept_heap HX2.out hb3); have d30 := cellV w3 _ 0 _ _ _ HX3.out; have d31 := cellV w3 _ 1 _ _ _ HX3.out; have d32 := cellV w3 _ 2 _ _ _ HX3.out; have d33 := cellV w3 _ 3 _ _ _ HX3.out; have d34 := cellV w3 _ 4 _ _ _ HX3.out; have d35 := cellV w3 _ 5 _ _ _ HX3.out; clear hb3)
          | fail)
        go_ret
        exact ⟨rfl, HB3.out⟩
      | true =>
        cases a4 with
        | false =>
          obtain rfl : q = false := HQ.out
          go_enter Try.func52, Try.ntmps52
          go_wp2_with (first
            | (go_at_call 55; (with_reducible refine (istext x _ HXS.out true H1.out).mono ?_); rintro e1 w1 ⟨rfl, hb1⟩; have HB1 : Hid (Below w.heap.size w w1) := Lib.hid (bel_in9 (HBO.out _) hb1); have HX1 := Lib.hid (kept_heap (heap_alloc_new w (.cells #[.int .u8 ((1 : Nat) : Int), .string x, .string y, .slice A m c, .string z, .int .i64 y9] 53)) hb1); have d10 := cellV w1 _ 0 _ _ _ HX1.out; have d11 := cellV w1 _ 1 _ _ _ HX1.out; have d12 := cellV w1 _ 2 _ _ _ HX1.out; have d13 := cellV w1 _ 3 _ _ _ HX1.out; have d14 := cellV w1 _ 4 _ _ _ HX1.out; have d15 := cellV w1 _ 5 _ _ _ HX1.out; clear hb1)
            | (go_at_call 56; (with_reducible refine (full9q y _ HYS.out true H2.out).mono ?_); rintro e2 w2 ⟨rfl, hb2⟩; have HB2 : Hid (Below w.heap.size w w2) := Lib.hid (stp HB1.out hb2); have HX2 := Lib.hid (kept_heap HX1.out hb2); have d20 := cellV w2 _ 0 _ _ _ HX2.out; have d21 := cellV w2 _ 1 _ _ _ HX2.out; have d22 := cellV w2 _ 2 _ _ _ HX2.out; have d23 := cellV w2 _ 3 _ _ _ HX2.out; have d24 := cellV w2 _ 4 _ _ _ HX2.out; have d25 := cellV w2 _ 5 _ _ _ HX2.out; clear hb2)
            | (go_at_call 57; (with_reducible refine (mayhave A m c n.attrs _ (HND.out _ HB2.out).rd HNL.out (HNL.out ▸ HLN.out) HEA.out true H3.out).mono ?_); rintro e3 w3 ⟨rfl, hb3⟩; have HB3 : Hid (Below w.heap.size w w3) := Lib.hid (stp HB2.out hb3); have HX3 := Lib.hid (kept_heap HX2.out hb3); have d30 := cellV w3 _ 0 _ _ _ HX3.out; have d31 := cellV w3 _ 1 _ _ _ HX3.out; have d32 := cellV w3 _ 2 _ _ _ HX3.out; have d33 := cellV w3 _ 3 _ _ _ HX3.out; have d34 := cellV w3 _ 4 _ _ _ HX3.out; have d35 := cellV w3 _ 5 _ _ _ HX3.out; clear hb3)
            | fail)
          go_ret
          exact ⟨rfl, HB3.out⟩
        | true =>
          obtain rfl : q = a5 := HQ.out
          go_enter Try.func52, Try.ntmps52
          go_wp2_with (first
            | (go_at_call 55; (with_reducible refine (istext x _ HXS.out true H1.out).mono ?_); rintro e1 w1 ⟨rfl, hb1⟩; have HB1 : Hid (Below w.heap.size w w1) := Lib.hid (bel_in9 (HBO.out _) hb1); have HX1 := Lib.hid (kept_heap (heap_alloc_new w (.cells #[.int .u8 ((1 : Nat) : Int), .string x, .string y, .slice A m c, .string z, .int .i64 y9] 53)) hb1); have d10 := cellV w1 _ 0 _ _ _ HX1.out; have d11 := cellV w1 _ 1 _ _ _ HX1.out; have d12 := cellV w1 _ 2 _ _ _ HX1.out; have d13 := cellV w1 _ 3 _ _ _ HX1.out; have d14 := cellV w1 _ 4 _ _ _ HX1.out; have d15 := cellV w1 _ 5 _ _ _ HX1.out; clear hb1)
            | (go_at_call 56; (with_reducible refine (full9q y _ HYS.out true H2.out).mono ?_); rintro e2 w2 ⟨rfl, hb2⟩; have HB2 : Hid (Below w.heap.size w w2) := Lib.hid (stp HB1.out hb2); have HX2 := Lib.hid (kept_heap HX1.out hb2); have d20 := cellV w2 _ 0 _ _ _ HX2.out; have d21 := cellV w2 _ 1 _ _ _ HX2.out; have d22 := cellV w2 _ 2 _ _ _ HX2.out; have d23 := cellV w2 _ 3 _ _ _ HX2.out; have d24 := cellV w2 _ 4 _ _ _ HX2.out; have d25 := cellV w2 _ 5 _ _ _ HX2.out; clear hb2)
            | (go_at_call 57; (with_reducible refine (mayhave A m c n.attrs _ (HND.out _ HB2.out).rd HNL.out (HNL.out ▸ HLN.out) HEA.out true H3.out).mono ?_); rintro e3 w3 ⟨rfl, hb3⟩; have HB3 : Hid (Below w.heap.size w w3) := Lib.hid (stp HB2.out hb3); have HX3 := Lib.hid (kept_heap HX2.out hb3); have d30 := cellV w3 _ 0 _ _ _ HX3.out; have d31 := cellV w3 _ 1 _ _ _ HX3.out; have d32 := cellV w3 _ 2 _ _ _ HX3.out; have d33 := cellV w3 _ 3 _ _ _ HX3.out; have d34 := cellV w3 _ 4 _ _ _ HX3.out; have d35 := cellV w3 _ 5 _ _ _ HX3.out; clear hb3)
            | fail)
          go_ret
          exact ⟨rfl, HB3.out⟩
set_option maxHeartbeats 8000000 in
set_option maxRecDepth 100000 in
theorem hold_2 (n : Nd) (x y z : ByteArray) (A : Option Addr) (c : Nat) (w : World) (h : NdAt n x y z A c w) (hs : SmallN n) (hk : n.kind = 2) (q : Bool) (hq : holdB n = q) :
    Calls Try.prog 52 #[NdV n x y z A c] w fun e w' => e = .returned (.bool q) ∧ Below w.heap.size w w' := by
  have HBO : Hid (∀ o, Below w.heap.size w (w.alloc o)) := Lib.hid fun o => (Below.refl _ _).alloc (Nat.le_refl _) o
  have HND : Hid (∀ W, Below w.heap.size w W → NdAt n x y z A c W) := Lib.hid fun W hW => h.on hW
  have HXS : Hid (x.size ≤ 1000000) := Lib.hid (by rw [← ba_l, h.space]; exact hs.space)
  have HYS : Hid (y.size ≤ 1000000) := Lib.hid (by rw [← ba_l, h.name]; exact hs.name)
  have HZS : Hid (z.size ≤ 1000000) := Lib.hid (by rw [← ba_l, h.text]; exact hs.text)
  have HLN : Hid (n.attrs.length ≤ 1000000) := Lib.hid hs.attrs
  have HEA := Lib.hid hs.each
  have ba := h.lo
  have bb := h.hi
  obtain ⟨m, hm⟩ : ∃ m, n.attrs.length = m := ⟨_, rfl⟩
  have HNL := Lib.hid hm
  obtain ⟨y9, hmy⟩ : ∃ y9, n.many = y9 := ⟨_, rfl⟩
  obtain ⟨a1, h1⟩ : ∃ a, x.toList.isEmpty = a := ⟨_, rfl⟩
  obtain ⟨a2, h2⟩ : ∃ a, y.toList.isEmpty = a := ⟨_, rfl⟩
  obtain ⟨a3, h3⟩ : ∃ a, ((m : Int) == 0) = a := ⟨_, rfl⟩
  obtain ⟨a4, h4⟩ : ∃ a, (!z.toList.isEmpty) = a := ⟨_, rfl⟩
  obtain ⟨a5, h5⟩ : ∃ a, okT z.data.toList = a := ⟨_, rfl⟩
  obtain ⟨a6, h6⟩ : ∃ a, (y9 == 0) = a := ⟨_, rfl⟩
  have HQ : Hid (q = (a1 && (a2 && (a3 && (a4 && (a5 && a6)))))) := Lib.hid (by
    have e3 : ((m : Int) == 0) = n.attrs.isEmpty := by rw [← hm]; cases n.attrs <;> simp <;> omega
    have e6 : (y9 == 0) = (decide (n.many = 0) && decide (0 ≤ n.many)) := by rw [hmy, Bool.eq_iff_iff]; simp; omega
    rw [← hq, ← h1, ← h2, ← h3, ← h4, ← h5, ← h6, e3, e6, em_l, em_l, em_l, h.space, h.name, h.text]
    unfold holdB ndOk
    rw [if_neg (by omega), if_pos hk]
    cases n.name.isEmpty <;> cases n.space.isEmpty <;> cases n.attrs.isEmpty <;> cases decide (n.many = 0) <;> cases n.text.isEmpty <;> cases okT n.text <;> cases decide ((0 : Int) ≤ n.many) <;> rfl)
  have H5 := Lib.hid h5
  unfold NdV
  rw [hk, hm, hmy]
  rw [hmy] at ba bb
  clear h hs hk hq h5 hm hmy
  cases a1 with
  | false =>
    obtain rfl : q = false := HQ.out
    go_enter Try.func52, Try.ntmps52
    go_wp2_with fail
    go_ret
    exact ⟨rfl, HBO.out _⟩
  | true =>
    cases a2 with
    | false =>
      obtain rfl : q = false := HQ.out
      go_enter Try.func52, Try.ntmps52
      go_wp2_with fail
      go_ret
      exact ⟨rfl, HBO.out _⟩
    | true =>
      cases a3 with
      | false =>
        obtain rfl : q = false := HQ.out
        go_enter Try.func52, Try.ntmps52
        go_wp2_with fail
        go_ret
        exact ⟨rfl, HBO.out _⟩
      | true =>
        cases a4 with
        | false =>
          obtain rfl : q = false := HQ.out
          go_enter Try.func52, Try.ntmps52
          go_wp2_with fail
          go_ret
          exact ⟨rfl, HBO.out _⟩
        | true =>
          cases a5 with
          | false =>
            obtain rfl : q = false := HQ.out
            go_enter Try.func52, Try.ntmps52
            go_wp2_with (first
              | (go_at_call 55; (with_reducible refine (istext z _ HZS.out false H5.out).mono ?_); rintro e1 w1 ⟨rfl, hb1⟩; have HB1 : Hid (Below w.heap.size w w1) := Lib.hid (bel_in9 (HBO.out _) hb1); have HX1 := Lib.hid (kept_heap (heap_alloc_new w (.cells #[.int .u8 ((2 : Nat) : Int), .string x, .string y, .slice A m c, .string z, .int .i64 y9] 53)) hb1); have d10 := cellV w1 _ 0 _ _ _ HX1.out; have d11 := cellV w1 _ 1 _ _ _ HX1.out; have d12 := cellV w1 _ 2 _ _ _ HX1.out; have d13 := cellV w1 _ 3 _ _ _ HX1.out; have d14 := cellV w1 _ 4 _ _ _ HX1.out; have d15 := cellV w1 _ 5 _ _ _ HX1.out; clear hb1)
              | fail)
            go_ret
            exact ⟨rfl, HB1.out⟩
          | true =>
            obtain rfl : q = a6 := HQ.out
            go_enter Try.func52, Try.ntmps52
            go_wp2_with (first
              | (go_at_call 55; (with_reducible refine (istext z _ HZS.out true H5.out).mono ?_); rintro e1 w1 ⟨rfl, hb1⟩; have HB1 : Hid (Below w.heap.size w w1) := Lib.hid (bel_in9 (HBO.out _) hb1); have HX1 := Lib.hid (kept_heap (heap_alloc_new w (.cells #[.int .u8 ((2 : Nat) : Int), .string x, .string y, .slice A m c, .string z, .int .i64 y9] 53)) hb1); have d10 := cellV w1 _ 0 _ _ _ HX1.out; have d11 := cellV w1 _ 1 _ _ _ HX1.out; have d12 := cellV w1 _ 2 _ _ _ HX1.out; have d13 := cellV w1 _ 3 _ _ _ HX1.out; have d14 := cellV w1 _ 4 _ _ _ HX1.out; have d15 := cellV w1 _ 5 _ _ _ HX1.out; clear hb1)
              | fail)
            go_ret
            exact ⟨rfl, HB1.out⟩
set_option maxHeartbeats 8000000 in
set_option maxRecDepth 100000 in
theorem hold_no (n : Nd) (x y z : ByteArray) (A : Option Addr) (c : Nat) (w : World) (h : NdAt n x y z A c w) (hs : SmallN n) (hk1 : n.kind ≠ 1) (hk2 : n.kind ≠ 2) (q : Bool) (hq : holdB n = q) :
    Calls Try.prog 52 #[NdV n x y z A c] w fun e w' => e = .returned (.bool q) ∧ Below w.heap.size w w' := by
  have HBO : Hid (∀ o, Below w.heap.size w (w.alloc o)) := Lib.hid fun o => (Below.refl _ _).alloc (Nat.le_refl _) o
  obtain rfl : q = false := by rw [← hq]; unfold holdB ndOk; rw [if_neg hk1, if_neg hk2]; rfl
  have f1 : ((n.kind : Int) == 1) = false := by simp; omega
  have f2 : ((n.kind : Int) == 2) = false := by simp; omega
  unfold NdV
  clear h hs hk1 hk2 hq
  go_enter Try.func52, Try.ntmps52
  go_wp2_with fail
  go_ret
  exact ⟨rfl, HBO.out _⟩
/-- A node may be, and has no less than no nodes within it. -/
theorem hold10 (n : Nd) (x y z : ByteArray) (A : Option Addr) (c : Nat) (w : World) (h : NdAt n x y z A c w) (hs : SmallN n) (q : Bool) (hq : holdB n = q) :
    Calls Try.prog 52 #[NdV n x y z A c] w fun e w' => e = .returned (.bool q) ∧ Below w.heap.size w w' := by
  by_cases h1 : n.kind = 1
  · exact hold_1 n x y z A c w h hs h1 q hq
  · by_cases h2 : n.kind = 2
    · exact hold_2 n x y z A c w h hs h2 q hq
    · exact hold_no n x y z A c w h hs h1 h2 q hq
end Hx
end Go.Proofs.Ytkmaogafknehgaa
namespace Go.Proofs.Ytkmaogafknehgaa
open Go.RowKit
namespace Hx
open Tx Nmb Es
set_option linter.unusedVariables false
def lowv (c : UInt8) : Nat := (c ||| 32).toNat
theorem low_bits (c : UInt8) : bits .or .u8 (c.toNat : Int) 32 = (lowv c : Int) := u8_every (fun c => bits .or .u8 (c.toNat : Int) 32 = (lowv c : Int)) (by decide +kernel) c
theorem low_cases (c : UInt8) : lowv c ≤ 255 ∧ ((48 ≤ c.toNat ∧ c.toNat ≤ 57 ∧ hxv c = some (c.toNat - 48)) ∨ ((c.toNat < 48 ∨ 57 < c.toNat) ∧ c.toNat ≠ 95 ∧ 97 ≤ lowv c ∧ lowv c ≤ 102 ∧ hxv c = some (lowv c - 87)) ∨
    ((c.toNat < 48 ∨ 57 < c.toNat) ∧ c.toNat ≠ 95 ∧ 103 ≤ lowv c ∧ lowv c ≤ 122 ∧ hxv c = none) ∨ ((c.toNat < 48 ∨ 57 < c.toNat) ∧ (lowv c < 97 ∨ 122 < lowv c) ∧ hxv c = none)) :=
  u8_every (fun c => lowv c ≤ 255 ∧ ((48 ≤ c.toNat ∧ c.toNat ≤ 57 ∧ hxv c = some (c.toNat - 48)) ∨ ((c.toNat < 48 ∨ 57 < c.toNat) ∧ c.toNat ≠ 95 ∧ 97 ≤ lowv c ∧ lowv c ≤ 102 ∧ hxv c = some (lowv c - 87)) ∨
    ((c.toNat < 48 ∨ 57 < c.toNat) ∧ c.toNat ≠ 95 ∧ 103 ≤ lowv c ∧ lowv c ≤ 122 ∧ hxv c = none) ∨ ((c.toNat < 48 ∨ 57 < c.toNat) ∧ (lowv c < 97 ∨ 122 < lowv c) ∧ hxv c = none))) (by decide +kernel) c
/-- What ParseUint answers at the base of 16, of six bytes at most. -/
def puV (o : Option Nat) (ev : Value) : Value := match o with | some n => .tuple #[.int .u64 (n : Int), .nilIface] | none => .tuple #[.int .u64 0, ev]
theorem pow16 {k : Nat} (h : k ≤ 5) : 16 ^ k ≤ 1048576 := Nat.le_trans (Nat.pow_le_pow_right (by decide) h) (by decide)
theorem u64_in {x : Int} (h0 : 0 ≤ x) (h1 : x ≤ 9007199254740991) : IntKind.u64.wrap x = x := by rw [IntKind.wrap_u64]; omega
theorem u8_in {x : Int} (h0 : 0 ≤ x) (h1 : x ≤ 255) : IntKind.u8.wrap x = x := by rw [IntKind.wrap_u8]; omega
end Hx
end Go.Proofs.Ytkmaogafknehgaa
namespace Go.Proofs.Ytkmaogafknehgaa
open Go.RowKit
namespace Hx
open Tx Nmb Es
set_option linter.unusedVariables false
/-- The number of hexadecimal digits, six at most, whatever stands first. -/
def hexO (l : List UInt8) : Option Nat := if l = [] then none else hexF l
/-- What hexadecimal answers. -/
def hexI (l : List UInt8) : Int × Int := match hexV l with | some n => ((n : Int), 0) | none => (0, 80)
theorem hexO_le {l : List UInt8} {n : Nat} (h : hexO l = some n) (h6 : l.length ≤ 6) : n ≤ 16777215 := by
  unfold hexO at h
  split at h
  · cases h
  · have key : ∀ (k : Nat), k ≤ l.length → ∀ m, hexF (l.take k) = some m → m + 1 ≤ 16 ^ k := by
      intro k
      induction k with
      | zero => intro _ m h; cases h; decide
      | succ k ih =>
        intro hk m hm
        have hc : l[k]? = some (l[k]'(by omega)) := List.getElem?_eq_getElem (by omega)
        rw [take_next8 hc, hexF_snoc] at hm
        cases h1 : hexF (l.take k) with
        | none => rw [h1] at hm; cases hm
        | some p =>
          have := ih (by omega) p h1
          rw [h1] at hm
          cases h3 : hxv (l[k]'(by omega)) with
          | none => rw [h3] at hm; cases hm
          | some d =>
            rw [h3] at hm
            have hd : d ≤ 15 := by
              unfold hxv at h3
              split at h3
              · cases h3; omega
              · split at h3
                · cases h3; omega
                · split at h3
                  · cases h3; omega
                  · cases h3
            have : m = 16 * p + d := by simpa using hm.symm
            rw [this, Nat.pow_succ]
            omega
    have := key l.length (Nat.le_refl _) n (by rw [List.take_length]; exact h)
    have h2 : 16 ^ l.length ≤ 16 ^ 6 := Nat.pow_le_pow_right (by decide) h6
    have h3 : (16 : Nat) ^ 6 = 16777216 := by decide
    omega
theorem hexV_O {l : List UInt8} (h6 : ¬ 6 < l.length) (h : l.head? ≠ some 48) : hexV l = hexO l := by
  unfold hexO
  by_cases h0 : l = []
  · rw [if_pos h0, hexV_out (.inl h0)]
  · rw [if_neg h0, hexV_in h0 h6 h]
theorem pre48 (l : List UInt8) : Lib.hasPrefix l [48] = decide (l.head? = some 48) := by
  cases l with
  | nil => rfl
  | cons c r =>
    by_cases hb : c = 48
    · subst hb; simp [Lib.hasPrefix, List.isPrefixOf]
    · have hb2 : (48 == c) = false := by simpa using Ne.symm hb
      have e : decide ((c :: r).head? = some 48) = false := decide_eq_false (fun h => hb (Option.some.inj h))
      rw [e]
      simp [Lib.hasPrefix, List.isPrefixOf, hb2]
theorem hp48 (s : ByteArray) (b : Bool) (w : World) (h : decide (s.data.toList.head? = some 48) = b) :
    Calls Try.prog 73 #[.string s, .string ⟨#[48]⟩] w fun e w' => e = .returned (.bool b) ∧ w = w' :=
  (Try.strings_HasPrefix s ⟨#[48]⟩ w).mono fun e w' ⟨h1, h2⟩ => ⟨by rw [h1, ← h]; exact congrArg _ (congrArg _ (pre48 _)), h2.symm⟩
end Hx
end Go.Proofs.Ytkmaogafknehgaa
