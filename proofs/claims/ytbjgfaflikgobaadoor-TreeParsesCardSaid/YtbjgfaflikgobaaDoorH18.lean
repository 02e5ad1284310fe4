/-
  Texts of one seat, put together: PkF.
-/
import Derived.Test.YtbjgfaflikgobaaDoorH17
import Derived.Test.YtbjgfaflikgobaaDoorH11
namespace Go.Proofs.YtbjgfaflikgobaaDoor
open Go.RowKit
namespace Hx
open Lx Tr Tx Nmb Es
set_option linter.unusedVariables false
theorem tk_atB {w : World} {B : Nat} {A : Option Addr} {l : List Tk} {k : Nat} (hr : RdC TkC w B A l) (hk : k < l.length) (hs : Small (l[k]'hk)) :
    ∃ (b off : Nat) (x u : ByteArray) (A1 : Option Addr) (p1 : Nat), A = some ⟨b, off, none⟩ ∧ b < B ∧ w.cell? ⟨b, off + k * 4, none⟩ = some (.int .u8 ((l[k]'hk).kind : Int)) ∧ w.cell? ⟨b, off + k * 4 + 1, none⟩ = some (.string x) ∧
      w.cell? ⟨b, off + k * 4 + 2, none⟩ = some (.slice A1 (l[k]'hk).attrs.length p1) ∧ w.cell? ⟨b, off + k * 4 + 3, none⟩ = some (.string u) ∧ ∀ W : World, (∀ q, q < B → W.heap[q]? = w.heap[q]?) → B ≤ W.heap.size → TkAt (l[k]'hk) x u A1 p1 W := by
  obtain ⟨b, off, e, hb, hc⟩ := hr (by omega)
  obtain ⟨cs, ⟨x, A1, p1, u, rfl, hkd, hx, hu, hle, hmx, hnl, hrd⟩, hcell⟩ := hc k hk
  obtain ⟨s1, s2, s3, s4⟩ := hs
  refine ⟨b, off, x, u, A1, p1, e, hb, hcell 0 (by simp), hcell 1 (by simp), hcell 2 (by simp), hcell 3 (by simp), fun W hW hB => ⟨hx, hu, hrd.keep hB fun b o hb => cell_blkP (hW b hb), hle, ?_, ?_, s3, s4⟩⟩
  · rw [← ba_len5, hx]; exact s1
  · rw [← ba_len5, hu]; exact s2
theorem pk_mayT_kind {t : Tk} (h : mayT t = true) : t.kind = 1 ∨ t.kind = 2 ∨ t.kind = 3 ∨ t.kind = 4 := by
  unfold mayT at h
  split at h
  · omega
  · split at h
    · omega
    · split at h
      · omega
      · cases h
theorem stktake (B gs base : Nat) (s : PS) (bb : Bool) (K : Nat) (t : Tk) (x u : ByteArray) (A : Option Addr) (cp : Nat) (w : World) (h : StOf B gs base s bb w) (hi : PSb K s) (hK : K ≤ 100000) (ht : TkAt t x u A cp w) (hBl : ∀ W, (∀ k, k < B → W.heap[k]? = w.heap[k]?) → w.heap.size ≤ W.heap.size → TkAt t x u A cp W) (hk : t.kind = 1 ∨ t.kind = 2 ∨ t.kind = 3 ∨ t.kind = 4) :
    Calls Tryd.prog 11 #[.pointer (some ⟨gs, 0, none⟩), TkV t x u A cp] w (ResTo B gs base (decide (t.kind = 4)) (stepP s bb t) w) := by
  rcases hk with hk | hk | hk | hk
  · rw [decide_eq_false (by omega)]
    exact stktake_begin B gs base s bb K t x u A cp w h hi hK ht (fun _ => hBl) (.inl hk)
  · rw [decide_eq_false (by omega)]
    exact stktake_shut B gs base s bb K t x u A cp w h hi hK ht (fun _ => hBl) hk
  · rw [decide_eq_false (by omega)]
    exact stktake_begin B gs base s bb K t x u A cp w h hi hK ht (fun _ => hBl) (.inr hk)
  · rw [decide_eq_true hk]
    cases bb with
    | true => exact stktake_two B gs base s true K t x u A cp w h hi hK ht (fun _ => hBl) hk rfl
    | false => exact stktake_words B gs base s false K t x u A cp w h hi hK ht (fun _ => hBl) hk rfl
/-- What each answers, over the stack's take. -/
def EachTo (B gs base : Nat) (x : Except Int PS) (w : World) (e : Ending) (w' : World) : Prop := ∃ r : Int, e = .returned (.int .i64 r) ∧ Below B w w' ∧ match x with
  | .error q => r = q ∧ r ≠ 0
  | .ok s => r = 0 ∧ ∃ b, StOf B gs base s b w'
set_option maxHeartbeats 16000000 in
set_option maxRecDepth 100000 in
theorem each_take (B gs base : Nat) (K : Nat) (s0 : PS) (b0' : Bool) (ts : List Tk) (A : Option Addr) (n c : Nat) (w : World) (h : StOf B gs base s0 b0' w) (hi : PSb K s0) (hK : K + n ≤ 100000) (hn : ts.length = n) (hrd : RdC TkC w B A ts) (hBz : B ≤ w.heap.size) (hsm : ∀ t ∈ ts, Small t) (hkd : ∀ t ∈ ts, t.kind = 1 ∨ t.kind = 2 ∨ t.kind = 3 ∨ t.kind = 4) :
    Calls Tryd.prog 9 #[.slice A n c, .func (.func 11) #[.pointer (some ⟨gs, 0, none⟩)] #[]] w (EachTo B gs base (runP s0 b0' ts) w) := by
  have HST := Lib.hid h
  have HPS := Lib.hid hi
  have HN := Lib.hid hn
  have HRD := Lib.hid hrd
  have HBZ := Lib.hid hBz
  have HSM := Lib.hid hsm
  have HKD := Lib.hid hkd
  have bK : (K : Int) + (n : Int) ≤ 100000 := by omega
  clear h hi hn hrd hBz hsm hkd
  go_enter Tryd.func9, Tryd.ntmps9
  go_wp2_with fail
  go_loopg [10] n (fun gg i wr => ∃ (j : Nat) (s : PS) (bb : Bool), j + gg = n ∧ i = .int .i64 j ∧ runP s0 b0' ts = runP s bb (ts.drop j) ∧ StOf B gs base s bb wr ∧ PSb (K + j) s ∧ Below B w wr)
  case atStart => exact ⟨0, s0, b0', by omega, rfl, by rw [List.drop_zero], HST.out, HPS.out, Below.refl _ _⟩
  case round =>
    obtain ⟨j, s, bb, hjg, rfl, hrun, hst0, hps, hbw⟩ := hrel
    have HBW := Lib.hid hbw
    have HRUN := Lib.hid hrun
    by_cases hlt : j < n
    · have hlt2 : (j : Int) < (n : Int) := by omega
      have hjl : j < ts.length := by rw [HN.out]; exact hlt
      have hsj := HSM.out _ (List.getElem_mem hjl)
      have hkj := HKD.out _ (List.getElem_mem hjl)
      obtain ⟨b0, off, x, u, A1, p1, hA, hb0, hc0, hc1, hc2, hc3, hTA⟩ := tk_atB HRD.out hjl hsj
      obtain ⟨t, ht⟩ : ∃ t, ts[j]'hjl = t := ⟨_, rfl⟩
      rw [ht] at hc0 hc2 hTA hkj
      obtain ⟨na, hna⟩ : ∃ na, t.attrs.length = na := ⟨_, rfl⟩
      obtain ⟨kd, hkd⟩ : ∃ kd, t.kind = kd := ⟨_, rfl⟩
      rw [hkd] at hc0
      rw [hna] at hc2
      have hst : ∀ o, wr.cell? ⟨b0, o, none⟩ = w.cell? ⟨b0, o, none⟩ := fun o => cell_blkP (HBW.out.block b0 hb0)
      have q0 := (hst _).trans hc0
      have q1 := (hst _).trans hc1
      have q2 := (hst _).trans hc2
      have q3 := (hst _).trans hc3
      obtain ⟨W4, hW4⟩ : ∃ W4, wr.alloc (.cells #[.int .u8 (kd : Int), .string x, .slice A1 na p1, .string u] 26) = W4 := ⟨_, rfl⟩
      have HB4 : Hid (Below wr.heap.size wr W4) := Lib.hid (by rw [← hW4]; exact stpA (Below.refl _ _) _)
      have HX4 : Hid (W4.heap[wr.heap.size]? = some (.cells #[.int .u8 (kd : Int), .string x, .slice A1 na p1, .string u] 26 (0, 0))) := Lib.hid (by rw [← hW4]; exact heap_alloc_new wr _)
      have hW4B : Below B w W4 := HBW.out.trans (HB4.out.mono (Nat.le_trans HBZ.out HBW.out.size))
      have hdr := List.drop_eq_getElem_cons hjl
      rw [ht] at hdr
      have hTA4 : ∀ W, (∀ k, k < B → W.heap[k]? = W4.heap[k]?) → W4.heap.size ≤ W.heap.size → TkAt t x u A1 p1 W := fun W h1 h2 => hTA W (fun q hq => (h1 q hq).trans (hW4B.block q hq)) (Nat.le_trans (Nat.le_trans HBZ.out hW4B.size) h2)
      have hs4 : StOf B gs base s bb W4 := by
        obtain ⟨⟨hi2, L, Vn, Vo, hV, hs⟩⟩ := hst0
        exact ⟨hi2, L, Vn, Vo, hV, hs.below HB4.out (Nat.le_refl _) (Nat.le_trans hs.gr.sz HB4.out.size)⟩
      have HC0 := stktake B gs base s bb (K + j) t x u A1 p1 W4 hs4 hps (by omega) (hTA4 W4 (fun _ _ => rfl) (Nat.le_refl _)) hTA4 hkj
      have HBB := Lib.hid hW4B
      rw [hdr] at hrun
      unfold TkV at HC0
      rw [hna, hkd] at HC0
      subst hA
      cases hx : stepP s bb t with
      | error q =>
        have HC := Lib.hid (HC0.mono (R' := fun e w' => e = .returned (.int .i64 q) ∧ Below B W4 w') fun e w' h => by
          obtain ⟨r, h1, h2, h3⟩ := h
          rw [hx] at h3
          exact ⟨by rw [h1, h3], h2⟩)
        have hq0 : q ≠ 0 := by rcases stepP_err hx with h | h <;> omega
        have fq : (q == 0) = false := by simp; omega
        have HR : Hid (runP s0 b0' ts = .error q) := Lib.hid (by rw [hrun, runP, hx])
        clear hsj hkj hc0 hc1 hc2 hc3 hTA hna hst hW4B hdr hTA4 hs4 hst0 hps hbw hrun HRUN hb0 HC0 hx
        go_wp2_with (first
          | (refine wpList_load_row rfl _ _ rfl wr.heap.size rfl 26 #[.int .u8 (kd : Int), .string x, .slice A1 na p1, .string u] (0, 0) _ HX4.out Tryd.underlying26 rfl infoTkP ?_)
          | (go_at_call 11; (with_reducible refine (HC.out).mono ?_); rintro e5 w5 ⟨rfl, hb5⟩; have HB5 := Lib.hid (HBB.out.trans hb5); clear hb5)
          | fail)
        go_ret
        rw [HR.out]
        exact ⟨q, rfl, HB5.out, rfl, hq0⟩
      | ok s' =>
        have HC := Lib.hid (HC0.mono (R' := fun e w' => e = .returned (.int .i64 0) ∧ Below B W4 w' ∧ StOf B gs base s' (decide (t.kind = 4)) w') fun e w' h => by
          obtain ⟨r, h1, h2, h3⟩ := h
          rw [hx] at h3
          exact ⟨by rw [h1, h3.1], h2, by rw [hkd]; exact ⟨h3.2⟩⟩)
        have HR : Hid (runP s0 b0' ts = runP s' (decide (t.kind = 4)) (ts.drop (j + 1))) := Lib.hid (by rw [hrun, runP, hx])
        have HMORE : Hid (PSb (K + (j + 1)) s') := Lib.hid (hps.more hx)
        clear hsj hkj hc0 hc1 hc2 hc3 hTA hna hst hW4B hdr hTA4 hs4 hst0 hps hbw hrun HRUN hb0 HC0 hx
        go_wp2_with (first
          | (refine wpList_load_row rfl _ _ rfl wr.heap.size rfl 26 #[.int .u8 (kd : Int), .string x, .slice A1 na p1, .string u] (0, 0) _ HX4.out Tryd.underlying26 rfl infoTkP ?_)
          | (go_at_call 11; (with_reducible refine (HC.out).mono ?_); rintro e5 w5 ⟨rfl, hb5, hs5⟩; have HB5 := Lib.hid (HBB.out.trans hb5); have HS5 := Lib.hid hs5; clear hb5 hs5)
          | fail)
        go_roundg (gk - 1)
        case measure => omega
        case rel => exact ⟨j + 1, s', _, by omega, by go_num, HR.out, HS5.out, HMORE.out, HB5.out⟩
    · obtain rfl : j = n := by omega
      have hjj : ¬ ((j : Int) < (j : Int)) := by omega
      rw [List.drop_of_length_le (by rw [HN.out]; exact Nat.le_refl _), runP] at hrun
      have HR := Lib.hid hrun
      have HS := Lib.hid hst0
      clear hst0 hps hbw hrun
      go_wp2_with fail
      go_ret
      rw [HR.out]
      exact ⟨0, rfl, HBW.out, rfl, bb, HS.out⟩
set_option maxHeartbeats 16000000 in
set_option maxRecDepth 100000 in
theorem each_check (ts : List Tk) (A : Option Addr) (n c : Nat) (w : World) (hn : ts.length = n) (hm : n ≤ 100000) (hr : RdC TkC w w.heap.size A ts) (hsm : ∀ t ∈ ts, Small t) (q : Int) (hq : (if ts.all mayT = true then (0 : Int) else 8) = q) :
    Calls Tryd.prog 9 #[.slice A n c, .func (.func 10) #[] #[]] w fun e w' => e = .returned (.int .i64 q) ∧ Below w.heap.size w w' := by
  have HN := Lib.hid hn
  have HRD := Lib.hid hr
  have HSM := Lib.hid hsm
  have HQ := Lib.hid hq
  have bn : (n : Int) ≤ 100000 := by omega
  clear hn hr hsm hq
  go_enter Tryd.func9, Tryd.ntmps9
  go_wp2_with fail
  go_loopg [10] n (fun gg i wr => ∃ j : Nat, j + gg = n ∧ i = .int .i64 j ∧ (ts.take j).all mayT = true ∧ Below w.heap.size w wr)
  case atStart => exact ⟨0, by omega, rfl, rfl, Below.refl _ _⟩
  case round =>
    obtain ⟨j, hjg, rfl, hall, hbw⟩ := hrel
    have HBW := Lib.hid hbw
    have HBZ : Hid (w.heap.size ≤ w.heap.size) := Lib.hid (Nat.le_refl _)
    by_cases hlt : j < n
    · have hlt2 : (j : Int) < (n : Int) := by omega
      have hjl : j < ts.length := by rw [HN.out]; exact hlt
      have hsj := HSM.out _ (List.getElem_mem hjl)
      obtain ⟨b0, off, x, u, A1, p1, hA, hb0, hc0, hc1, hc2, hc3, hTA⟩ := tk_atB HRD.out hjl hsj
      obtain ⟨t, ht⟩ : ∃ t, ts[j]'hjl = t := ⟨_, rfl⟩
      rw [ht] at hc0 hc2 hTA
      obtain ⟨na, hna⟩ : ∃ na, t.attrs.length = na := ⟨_, rfl⟩
      obtain ⟨kd, hkd⟩ : ∃ kd, t.kind = kd := ⟨_, rfl⟩
      rw [hkd] at hc0
      rw [hna] at hc2
      have hst : ∀ o, wr.cell? ⟨b0, o, none⟩ = w.cell? ⟨b0, o, none⟩ := fun o => cell_blkP (HBW.out.block b0 hb0)
      have q0 := (hst _).trans hc0
      have q1 := (hst _).trans hc1
      have q2 := (hst _).trans hc2
      have q3 := (hst _).trans hc3
      obtain ⟨W4, hW4⟩ : ∃ W4, wr.alloc (.cells #[.int .u8 (kd : Int), .string x, .slice A1 na p1, .string u] 26) = W4 := ⟨_, rfl⟩
      have HB4 : Hid (Below wr.heap.size wr W4) := Lib.hid (by rw [← hW4]; exact stpA (Below.refl _ _) _)
      have HX4 : Hid (W4.heap[wr.heap.size]? = some (.cells #[.int .u8 (kd : Int), .string x, .slice A1 na p1, .string u] 26 (0, 0))) := Lib.hid (by rw [← hW4]; exact heap_alloc_new wr _)
      have hW4B : Below w.heap.size w W4 := HBW.out.trans (HB4.out.mono HBW.out.size)
      have hdr := List.drop_eq_getElem_cons hjl
      rw [ht] at hdr
      have hC : ∀ q, checkR t = q → Calls Tryd.prog 10 #[TkV t x u A1 p1] W4 fun e w' => e = .returned (.int .i64 q) ∧ Below W4.heap.size W4 w' := fun q hq => check9q t x u A1 p1 W4 (hTA W4 (fun q hq => hW4B.block q hq) hW4B.size) q hq
      unfold TkV at hC
      rw [hna, hkd] at hC
      have HBB := Lib.hid hW4B
      subst hA
      cases hx : mayT t with
      | false =>
        have HC := Lib.hid (hC 8 (by unfold checkR; rw [hx]; rfl))
        obtain rfl : q = 8 := by
          rw [← HQ.out, if_neg]
          intro h
          have := List.all_eq_true.1 h _ (List.getElem_mem hjl)
          rw [ht, hx] at this
          cases this
        clear hsj hc0 hc1 hc2 hc3 hTA hna hst hW4B hdr hbw hall hb0 hC hx
        go_wp2_with (first
          | (refine wpList_load_row rfl _ _ rfl wr.heap.size rfl 26 #[.int .u8 (kd : Int), .string x, .slice A1 na p1, .string u] (0, 0) _ HX4.out Tryd.underlying26 rfl infoTkP ?_)
          | (go_at_call 10; (with_reducible refine (HC.out).mono ?_); rintro e5 w5 ⟨rfl, hb5⟩; have HB5 := Lib.hid (stp HBB.out hb5); clear hb5)
          | fail)
        go_ret
        exact ⟨rfl, HB5.out⟩
      | true =>
        have HC := Lib.hid (hC 0 (by unfold checkR; rw [hx]; rfl))
        have HA2 : Hid ((ts.take (j + 1)).all mayT = true) := Lib.hid (by rw [List.take_succ_eq_append_getElem hjl, List.all_append, hall, ht]; simp [hx])
        clear hsj hc0 hc1 hc2 hc3 hTA hna hst hW4B hdr hbw hall hb0 hC hx
        go_wp2_with (first
          | (refine wpList_load_row rfl _ _ rfl wr.heap.size rfl 26 #[.int .u8 (kd : Int), .string x, .slice A1 na p1, .string u] (0, 0) _ HX4.out Tryd.underlying26 rfl infoTkP ?_)
          | (go_at_call 10; (with_reducible refine (HC.out).mono ?_); rintro e5 w5 ⟨rfl, hb5⟩; have HB5 := Lib.hid (stp HBB.out hb5); clear hb5)
          | fail)
        go_roundg (gk - 1)
        case measure => omega
        case rel => exact ⟨j + 1, by omega, by go_num, HA2.out, HB5.out⟩
    · obtain rfl : j = n := by omega
      have hjj : ¬ ((j : Int) < (j : Int)) := by omega
      obtain rfl : q = 0 := by
        rw [← HQ.out]
        rw [← HN.out, List.take_length] at hall
        rw [if_pos hall]
      clear hall hbw
      go_wp2_with fail
      go_ret
      exact ⟨rfl, HBW.out⟩
/-- What Parse answers. -/
def ParseTo (ts : List Tk) (w : World) (e : Ending) (w' : World) : Prop := ∃ (v : List Nd) (q : Int) (A : Option Addr) (c : Nat), parseR ts = (v, q) ∧ e = .returned (.tuple #[.slice A v.length c, .int .i64 q]) ∧ RdB NdS w' A v ∧ v.length ≤ c ∧ c ≤ maxLen ∧ (A = none → c = 0) ∧ Below w.heap.size w w'
theorem ParseTo.bad {ts : List Tk} {w w' : World} {q : Int} (h : parseR ts = ([], q)) (hb : Below w.heap.size w w') : ParseTo ts w (.returned (.tuple #[.slice none 0 0, .int .i64 q])) w' := ⟨[], q, none, 0, h, rfl, RdS.nil _ _ _, Nat.le_refl _, Nat.zero_le _, fun _ => rfl, hb⟩
theorem GrSt.read {base hi : Nat} {L : List NB} {O : List Nat} {A : Option Addr} {n c : Nat} {Vo : Value} {wr : World} (h : GrSt base hi L O (.slice A n c) Vo wr) : RdB NdS wr A (L.map NB.n) ∧ L.length = n ∧ n ≤ c ∧ c ≤ maxLen ∧ (A = none → c = 0) := by
  have hl : L.length = n := by
    have h1 := h.nd
    rcases h1.2 with ⟨e, h0⟩ | ⟨g, cap, cur, hv, _⟩
    · injection e with _ e _; omega
    · injection hv with _ e _; exact e.symm
  have hnd := h.nd
  rw [hl] at hnd
  have := RdS.of_own (C := NdS) (S := fun b => b < wr.heap.size) nbCells NB.n (fun _ => rfl) (by decide) L (fun b hb => ⟨b.x, b.y, b.z, b.A, b.c, rfl, (h.inn b hb).keep (fun k hk => Nat.lt_of_lt_of_le hk.2.1 h.sz) fun _ _ _ => rfl⟩) (fun g hg => (hnd.lt g hg).2) hnd
  exact this
set_option maxHeartbeats 16000000 in
set_option maxRecDepth 100000 in
theorem parse10 (A : Option Addr) (n c : Nat) (ts : List Tk) (w : World) (hr : RdC TkC w w.heap.size A ts) (hn : ts.length = n) (hmax : n ≤ 9223372036854775807) (hsm : ∀ t ∈ ts, Small t) :
    Calls Tryd.prog 5 #[.slice A n c] w (ParseTo ts w) := by
  by_cases hlong : 512 < n
  · have hT : parseR ts = ([], 4) := by unfold parseR; rw [if_pos (by omega)]
    have f1 : decide ((512 : Int) < (n : Int)) = true := decide_eq_true (by omega)
    have HT := Lib.hid hT
    clear hr hn hmax hsm hT hlong
    go_enter Tryd.func5, Tryd.ntmps5
    go_wp2_with fail
    go_ret2
    exact ParseTo.bad HT.out (Below.refl _ _)
  · have f1 : decide ((512 : Int) < (n : Int)) = false := decide_eq_false (by omega)
    have hpar : parseR ts = if ts.all mayT = true then endP (runP ⟨[], []⟩ false ts) else ([], 8) := by unfold parseR; rw [if_neg (by omega)]
    have hCH : ∀ q, (if ts.all mayT = true then (0 : Int) else 8) = q → Calls Tryd.prog 9 #[.slice A n c, .func (.func 10) #[] #[]] w fun e w' => e = .returned (.int .i64 q) ∧ Below w.heap.size w w' := fun q hq => each_check ts A n c w hn (by omega) hr hsm q hq
    cases hall : ts.all mayT with
    | false =>
      have HC := Lib.hid (hCH 8 (by rw [hall]; rfl))
      have HT : Hid (parseR ts = ([], 8)) := Lib.hid (by rw [hpar, hall]; rfl)
      clear hr hn hmax hsm hlong hpar hCH hall
      go_enter Tryd.func5, Tryd.ntmps5
      go_wp2_with (first
        | (go_at_call 9; (with_reducible refine (HC.out).mono ?_); rintro e1 w1 ⟨rfl, hb1⟩; have HB1 := Lib.hid hb1; clear hb1)
        | fail)
      go_ret2
      exact ParseTo.bad HT.out HB1.out
    | true =>
      have HC := Lib.hid (hCH 0 (by rw [hall]; rfl))
      rw [hall, if_pos rfl] at hpar
      have hkd : ∀ t ∈ ts, t.kind = 1 ∨ t.kind = 2 ∨ t.kind = 3 ∨ t.kind = 4 := fun t ht => pk_mayT_kind (List.all_eq_true.1 hall t ht)
      have hTK : ∀ W, Below w.heap.size w W → Calls Tryd.prog 9 #[.slice A n c, .func (.func 11) #[.pointer (some ⟨W.heap.size, 0, none⟩)] #[]] (W.alloc (.cells #[.slice none 0 0, .slice none 0 0, .bool false] 42)) (EachTo w.heap.size W.heap.size (W.heap.size + 1) (runP ⟨[], []⟩ false ts) (W.alloc (.cells #[.slice none 0 0, .slice none 0 0, .bool false] 42))) := fun W hW =>
        each_take w.heap.size W.heap.size (W.heap.size + 1) 0 ⟨[], []⟩ false ts A n c _ ⟨⟨W.heap.size + 1, [], .slice none 0 0, .slice none 0 0, rfl, ⟨heap_alloc_new W _, ⟨World.ownsRow_nil _ _ _ _, World.ownsRow_nil _ _ _ _, (fun q h => by cases h), (fun b hb => by cases hb), Nat.le_refl _, by rw [World.size_alloc]; exact Nat.le_refl _⟩, hW.size, Nat.lt_succ_self _⟩⟩⟩ PSb.nil (by omega) hn (hr.keep (Nat.le_refl _) fun b o hb => (hW.alloc hW.size _).cell (p := ⟨b, o, none⟩) hb) (by rw [World.size_alloc]; exact Nat.le_succ_of_le hW.size) hsm hkd
      have HBA : Hid (∀ W, Below w.heap.size w W → Below w.heap.size w (W.alloc (.cells #[.slice none 0 0, .slice none 0 0, .bool false] 42))) := Lib.hid fun W hW => hW.alloc hW.size _
      cases hx : runP ⟨[], []⟩ false ts with
      | error q =>
        rw [hx] at hTK hpar
        have hq0 : q ≠ 0 := by rcases runP_err _ _ _ _ hx with h | h <;> omega
        have fq : (q == 0) = false := by simp; omega
        have HTK : Hid (∀ W, Below w.heap.size w W → Calls Tryd.prog 9 #[.slice A n c, .func (.func 11) #[.pointer (some ⟨W.heap.size, 0, none⟩)] #[]] (W.alloc (.cells #[.slice none 0 0, .slice none 0 0, .bool false] 42)) fun e w' => e = .returned (.int .i64 q) ∧ Below w.heap.size (W.alloc (.cells #[.slice none 0 0, .slice none 0 0, .bool false] 42)) w') := Lib.hid fun W hW => (hTK W hW).mono fun e w' h => by
          obtain ⟨r, h1, h2, h3⟩ := h
          exact ⟨by rw [h1, h3.1], h2⟩
        have HT : Hid (parseR ts = ([], q)) := Lib.hid (by rw [hpar]; rfl)
        clear hr hn hmax hsm hlong hpar hCH hall hTK hkd hx
        go_enter Tryd.func5, Tryd.ntmps5
        go_wp2_with (first
          | (go_at_call 9; (with_reducible refine (HC.out).mono ?_); rintro e1 w1 ⟨rfl, hb1⟩; have HB1 := Lib.hid hb1; clear hb1)
          | (go_at_call 9; (with_reducible refine (HTK.out w1 HB1.out).mono ?_); rintro e2 w2 ⟨rfl, hb2⟩; have HB2 := Lib.hid ((HBA.out _ HB1.out).trans hb2); clear hb2)
          | fail)
        go_ret2
        exact ParseTo.bad HT.out HB2.out
      | ok s =>
        rw [hx] at hTK hpar
        have HTK : Hid (∀ W, Below w.heap.size w W → Calls Tryd.prog 9 #[.slice A n c, .func (.func 11) #[.pointer (some ⟨W.heap.size, 0, none⟩)] #[]] (W.alloc (.cells #[.slice none 0 0, .slice none 0 0, .bool false] 42)) fun e w' => e = .returned (.int .i64 0) ∧ Below w.heap.size (W.alloc (.cells #[.slice none 0 0, .slice none 0 0, .bool false] 42)) w' ∧ ∃ (An : Option Addr) (cn : Nat) (Ao : Option Addr) (co : Nat) (b : Bool), w'.heap[W.heap.size]? = some (.cells #[.slice An s.V.length cn, .slice Ao s.O.length co, .bool b] 42 (0, 0)) ∧ RdB NdS w' An s.V ∧ s.V.length ≤ cn ∧ cn ≤ maxLen ∧ (An = none → cn = 0)) := Lib.hid fun W hW => (hTK W hW).mono fun e w' h => by
          obtain ⟨r, h1, h2, h3, b, ⟨hi2, L, Vn, Vo, hV, hst⟩⟩ := h
          obtain ⟨An, cn, rfl⟩ := own_form2 hst.gr.nd
          obtain ⟨Ao, co, rfl⟩ := own_form2 hst.gr.op
          obtain ⟨r1, r2, r3, r4, r5⟩ := hst.gr.read
          have hl : L.length = s.V.length := by rw [← hV, List.length_map]
          rw [hV] at r1
          exact ⟨by rw [h1, h3], h2, An, cn, Ao, co, b, by rw [← hl]; exact hst.box, r1, by omega, r4, r5⟩
        obtain ⟨vn, hvn⟩ : ∃ vn, s.V.length = vn := ⟨_, rfl⟩
        obtain ⟨on, hon⟩ : ∃ on, s.O.length = on := ⟨_, rfl⟩
        rw [hvn, hon] at HTK
        have HV := Lib.hid hvn
        have arms := HTK
        clear arms
        by_cases hend : s.V = [] ∨ s.O ≠ []
        · have HT : Hid (parseR ts = ([], 80)) := Lib.hid (by rw [hpar]; unfold endP; dsimp only; rw [if_pos hend])
          have hvo : vn = 0 ∨ 0 < on := by
            rcases hend with h | h
            · left; rw [← hvn, h]; rfl
            · right; rw [← hon]; exact List.length_pos_iff.2 h
          clear hr hn hmax hsm hlong hpar hCH hall hTK hkd hx hend hvn hon
          rcases hvo with rfl | hvo
          · go_enter Tryd.func5, Tryd.ntmps5
            go_wp2_with (first
              | (go_at_call 9; (with_reducible refine (HC.out).mono ?_); rintro e1 w1 ⟨rfl, hb1⟩; have HB1 := Lib.hid hb1; clear hb1)
              | (go_at_call 9; (with_reducible refine (HTK.out w1 HB1.out).mono ?_); rintro e2 w2 ⟨rfl, hb2, An, cn, Ao, co, b, hbox, -, -, -, -⟩; have HB2 := Lib.hid ((HBA.out _ HB1.out).trans hb2); have k0 := cellV w2 _ 0 _ _ _ hbox; have k1 := cellV w2 _ 1 _ _ _ hbox; clear hb2 hbox)
              | fail)
            go_ret2
            exact ParseTo.bad HT.out HB2.out
          · have hvo2 : (0 : Int) < (on : Int) := by omega
            by_cases hv0 : vn = 0
            · subst hv0
              go_enter Tryd.func5, Tryd.ntmps5
              go_wp2_with (first
                | (go_at_call 9; (with_reducible refine (HC.out).mono ?_); rintro e1 w1 ⟨rfl, hb1⟩; have HB1 := Lib.hid hb1; clear hb1)
                | (go_at_call 9; (with_reducible refine (HTK.out w1 HB1.out).mono ?_); rintro e2 w2 ⟨rfl, hb2, An, cn, Ao, co, b, hbox, -, -, -, -⟩; have HB2 := Lib.hid ((HBA.out _ HB1.out).trans hb2); have k0 := cellV w2 _ 0 _ _ _ hbox; have k1 := cellV w2 _ 1 _ _ _ hbox; clear hb2 hbox)
                | fail)
              go_ret2
              exact ParseTo.bad HT.out HB2.out
            · have fv : ((vn : Int) == 0) = false := by simp; omega
              have fv2 : ¬ (vn : Int) = 0 := by omega
              go_enter Tryd.func5, Tryd.ntmps5
              go_wp2_with (first
                | (go_at_call 9; (with_reducible refine (HC.out).mono ?_); rintro e1 w1 ⟨rfl, hb1⟩; have HB1 := Lib.hid hb1; clear hb1)
                | (go_at_call 9; (with_reducible refine (HTK.out w1 HB1.out).mono ?_); rintro e2 w2 ⟨rfl, hb2, An, cn, Ao, co, b, hbox, -, -, -, -⟩; have HB2 := Lib.hid ((HBA.out _ HB1.out).trans hb2); have k0 := cellV w2 _ 0 _ _ _ hbox; have k1 := cellV w2 _ 1 _ _ _ hbox; clear hb2 hbox)
                | fail)
              go_ret2
              exact ParseTo.bad HT.out HB2.out
        · have HT : Hid (parseR ts = (s.V, 0)) := Lib.hid (by rw [hpar]; unfold endP; dsimp only; rw [if_neg hend])
          have fv : ((vn : Int) == 0) = false := by
            simp
            intro h
            exact hend (.inl (List.eq_nil_of_length_eq_zero (by omega)))
          have fv2 : ¬ (vn : Int) = 0 := by
            intro h
            exact hend (.inl (List.eq_nil_of_length_eq_zero (by omega)))
          obtain rfl : on = 0 := by
            rw [← hon]
            by_cases h : s.O = []
            · rw [h]; rfl
            · exact absurd (.inr h) hend
          clear hr hn hmax hsm hlong hpar hCH hall hTK hkd hx hend hvn hon
          go_enter Tryd.func5, Tryd.ntmps5
          go_wp2_with (first
            | (go_at_call 9; (with_reducible refine (HC.out).mono ?_); rintro e1 w1 ⟨rfl, hb1⟩; have HB1 := Lib.hid hb1; clear hb1)
            | (go_at_call 9; (with_reducible refine (HTK.out w1 HB1.out).mono ?_); rintro e2 w2 ⟨rfl, hb2, An, cn, Ao, co, b, hbox, hrd, hle, hcm, hnl⟩; have HB2 := Lib.hid ((HBA.out _ HB1.out).trans hb2); have k0 := cellV w2 _ 0 _ _ _ hbox; have k1 := cellV w2 _ 1 _ _ _ hbox; have HRD := Lib.hid hrd; have HRE := Lib.hid (And.intro hle (And.intro hcm hnl)); clear hb2 hbox hrd hle hcm hnl)
            | fail)
          go_ret2
          exact ⟨s.V, 0, An, cn, HT.out, by rw [HV.out]; rfl, HRD.out, by rw [HV.out]; exact HRE.out.1, HRE.out.2.1, HRE.out.2.2, HB2.out⟩
end Hx
end Go.Proofs.YtbjgfaflikgobaaDoor
