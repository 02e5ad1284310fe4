/-
  What is put is got, and the other way round, place by place.
-/
import Derived.Test.YtjpebnnifbnjjaaTextW
import Derived.WalkKit
import Derived.ProofKit
import Derived.OpenShut
import Derived.ShutString
import Derived.ChangeOld
import Derived.Below
namespace Go.Proofs.Ytjpebnnifbnjjaa.textBack
open Go.ChangeShapes Go.WideShapes Go.ChangeAt Go.RowKit
open Go.ChangeMaps (open_string shut_string)
open Hx Tx
set_option linter.unusedVariables false

theorem own : ownKnob Try.prog.godebug = none := by kernel_rfl
theorem laidOut : laidOutB Try.prog = true := by kernel_rfl

set_option linter.unusedVariables false
theorem of_yes {l : List Int} {t : ByteArray} (h : ofR l = (t, 0)) : ∃ ns, zs ns = l ∧ ns.length = l.length ∧ pts t.data.toList = some ns ∧ t.size ≤ 16384 := by
  unfold ofR at h
  by_cases hm : l.all may = true
  · rw [if_pos hm] at h
    by_cases hl : 16384 < (byL l).length
    · rw [if_pos hl] at h
      have := congrArg Prod.snd h
      simp at this
    · rw [if_neg hl] at h
      have ht := congrArg Prod.fst h
      simp only at ht
      subst ht
      have hall : ∀ z ∈ l, may z = true := List.all_eq_true.1 hm
      refine ⟨l.map Int.toNat, ?_, by simp, ?_, ?_⟩
      · unfold zs
        rw [List.map_map]
        refine Eq.trans (List.map_congr_left (g := id) fun z hz => ?_) (List.map_id l)
        have := (may_sv (hall z hz)).1
        show ((z.toNat : Nat) : Int) = z
        omega
      · refine pts_encs fun n hn => ?_
        obtain ⟨z, hz, rfl⟩ := List.mem_map.1 hn
        have := (may_sv (hall z hz)).1
        rw [Int.toNat_of_nonneg this]
        exact hall z hz
      · show (byL l).toArray.size ≤ 16384
        rw [List.size_toArray]
        omega
  · rw [if_neg hm] at h
    have := congrArg Prod.snd h
    simp at this
theorem of_zs {s : ByteArray} {ns : List Nat} (h : pts s.data.toList = some ns) (hm : s.size ≤ 16384) : ofR (zs ns) = (s, 0) := by
  obtain ⟨h1, h2⟩ := (pts_iff _ _).1 h
  have hb : byL (zs ns) = encs ns := by
    unfold byL zs
    rw [List.map_map]
    congr 1
    exact Eq.trans (List.map_congr_left (g := id) fun n _ => rfl) (List.map_id ns)
  have hl : (encs ns).length = s.size := by rw [← h1]; exact ba_len5 s
  unfold ofR
  rw [if_pos, if_neg, hb, ← h1]
  · rw [hb, hl]; omega
  · rw [List.all_eq_true]
    intro z hz
    unfold zs at hz
    obtain ⟨n, hn, rfl⟩ := List.mem_map.1 hz
    exact h2 n hn
theorem place_k {s : ByteArray} {ns : List Nat} (h : pts s.data.toList = some ns) (k : Nat) (hk : k < ns.length) (x : Nat) (hx : ns[k]'hk = x) (a : Nat) (ha : (encs (ns.take k)).length = a) :
    a < s.size ∧ nextR (s.data.toList.drop a) = (x, (enc x).length, 0) ∧ may (x : Int) = true ∧ (encs (ns.take (k + 1))).length = a + (enc x).length ∧ 1 ≤ (enc x).length := by
  obtain ⟨h1, h2⟩ := (pts_iff _ _).1 h
  subst ha
  have hs : ns = ns.take k ++ x :: ns.drop (k + 1) := by
    rw [← hx, List.getElem_cons_drop, List.take_append_drop]
  have hmx : may (x : Int) = true := h2 x (hx ▸ List.getElem_mem hk)
  have hd : s.data.toList.drop (encs (ns.take k)).length = enc x ++ encs (ns.drop (k + 1)) := by
    have e : encs ns = encs (ns.take k) ++ (enc x ++ encs (ns.drop (k + 1))) := by
      exact (congrArg encs hs).trans (by rw [encs_append, encs_cons])
    rw [h1, e, List.drop_left]
  have he := (enc_length x).1
  refine ⟨?_, ?_, hmx, ?_, he⟩
  · have := congrArg List.length hd
    rw [List.length_drop, List.length_append, ba_len5] at this
    omega
  · unfold nextR
    rw [hd, one_enc x hmx]
  · rw [List.take_succ_eq_append_getElem hk, hx, encs_append, List.length_append, encs_cons, encs_nil, List.append_nil]
theorem place_end {s : ByteArray} {ns : List Nat} (h : pts s.data.toList = some ns) : (encs (ns.take ns.length)).length = s.size := by
  rw [List.take_length, ← ((pts_iff _ _).1 h).1]
  exact ba_len5 s
theorem encs_le (ns : List Nat) : ns.length ≤ (encs ns).length := by
  induction ns with
  | nil => simp
  | cons n ns ih =>
    rw [encs_cons, List.length_append]
    have := (enc_length n).1
    simp only [List.length_cons]
    omega
theorem pts_le {s : ByteArray} {ns : List Nat} (h : pts s.data.toList = some ns) : ns.length ≤ s.size := by
  have h2 := congrArg List.length ((pts_iff _ _).1 h).1
  rw [ba_len5] at h2
  have h3 := encs_le ns
  omega
set_option maxRecDepth 100000 in
theorem walkOut (a0 : Option Addr) (len0 cap0 : Nat) (s : ByteArray) (w : World) (h : 500 < len0 ∨ 2000 < s.size) :
    Calls Try.prog 6 #[.slice a0 len0 cap0, .string s] w fun e w' => e = .returned (.bool true) ∧ Below w.heap.size w w' := by
  by_cases h0 : 500 < len0
  · have t0 : decide ((500 : Int) < (len0 : Int)) = true := by simp; omega
    clear h h0
    go_enter Try.func6, Try.ntmps6
    go_wp2_with (first
      | (go_at_call 12; (with_reducible refine (alive5 w).mono ?_); rintro e w1 ⟨rfl, hb1⟩)
      | fail)
    go_ret
    exact ⟨rfl, hb1⟩
  · have t0 : decide ((500 : Int) < (len0 : Int)) = false := by simp; omega
    have t1 : decide ((2000 : Int) < (s.size : Int)) = true := by simp; omega
    clear h h0
    go_enter Try.func6, Try.ntmps6
    go_wp2_with (first
      | (go_at_call 12; (with_reducible refine (alive5 w).mono ?_); rintro e w1 ⟨rfl, hb1⟩)
      | fail)
    go_ret
    exact ⟨rfl, hb1⟩
set_option maxHeartbeats 4000000 in
set_option maxRecDepth 100000 in
theorem walk0N (a0 : Option Addr) (len0 cap0 : Nat) (l : List Int) (s : ByteArray) (w : World) (hr : RdZ w w.heap.size a0 l) (hn : l.length = len0) (h0 : len0 ≤ 500) (h1 : s.size ≤ 2000) (t : ByteArray) (hq : ofR l = (t, 0)) (ns : List Nat) (hz : zs ns = l) (hnl : ns.length = l.length) (ht : pts t.data.toList = some ns) (htm : t.size ≤ 16384) (hc : chkE s = 50) :
    Calls Try.prog 6 #[.slice a0 len0 cap0, .string s] w fun e w' => e = .returned (.bool true) ∧ Below w.heap.size w w' := by
  have t0 : decide ((500 : Int) < (len0 : Int)) = false := by simp; omega
  have t1 : decide ((2000 : Int) < (s.size : Int)) = false := by simp; omega
  have HR := Lib.hid hr
  have HN := Lib.hid hn
  have HQ := Lib.hid hq
  have HL : Hid (len0 ≤ 100000) := Lib.hid (by omega)
  have HM : Hid (s.size ≤ 1000000) := Lib.hid (by omega)
  have HM2 : Hid (s.size ≤ 16384) := Lib.hid (by omega)
  have hnn : ns.length = len0 := hnl.trans hn
  have HNN := Lib.hid hnn
  have HZ := Lib.hid hz
  have HT := Lib.hid ht
  have HTM := Lib.hid htm
  have HC := Lib.hid hc
  clear hr hn hq h0 h1 hnn hz hnl ht htm hc
  go_enter Try.func6, Try.ntmps6
  go_wp2_with (first
    | (go_at_call 12; (with_reducible refine (alive5 w).mono ?_); rintro e w1 ⟨rfl, hb1⟩)
    | (go_at_call 11; (with_reducible refine (of5 a0 len0 cap0 l w1 (HR.out.on hb1) HN.out HL.out t 0 HQ.out).mono ?_); rintro e w2 ⟨rfl, hb2⟩; have hB2 := stp hb1 hb2)
    | (go_at_call 14; (with_reducible refine (points5_ok t ns w2 HTM.out HT.out).mono ?_); rintro e w3 ⟨hb3, A3, c3, rfl, hz3, hr3⟩; rw [HZ.out] at hr3; rw [HNN.out]; have hB3 := stp hB2 hb3; have HR3 := Lib.hid hr3; clear hr3 hz3)
    | (go_at_call 16; (with_reducible refine (rsame5_yes A3 a0 len0 c3 cap0 l w3 HR3.out (HR.out.on hB3) HN.out (by have := HL.out; omega)).mono ?_); rintro e w4 ⟨rfl, hb4⟩; have hB4 := stp hB3 hb4)
    | (go_at_call 14; (with_reducible refine (points5_no s 50 w4 HM.out HC.out (by decide)).mono ?_); rintro e w5 ⟨rfl, hb5⟩; have hB5 := stp hB4 hb5)
    | (go_at_call 9; (with_reducible refine (check5 s w5 HM.out 50 HC.out).mono ?_); rintro e w6 ⟨rfl, hb6⟩; have hB6 := stp hB5 hb6)
    | fail)
  go_ret
  exact ⟨rfl, hB6⟩
set_option maxHeartbeats 4000000 in
set_option maxRecDepth 100000 in
theorem walk0T (a0 : Option Addr) (len0 cap0 : Nat) (l : List Int) (s : ByteArray) (w : World) (hr : RdZ w w.heap.size a0 l) (hn : l.length = len0) (h0 : len0 ≤ 500) (h1 : s.size ≤ 2000) (t : ByteArray) (hq : ofR l = (t, 0)) (ns : List Nat) (hz : zs ns = l) (hnl : ns.length = l.length) (ht : pts t.data.toList = some ns) (htm : t.size ≤ 16384) (ms : List Nat) (hp : pts s.data.toList = some ms) :
    Calls Try.prog 6 #[.slice a0 len0 cap0, .string s] w fun e w' => e = .returned (.bool true) ∧ Below w.heap.size w w' := by
  have t0 : decide ((500 : Int) < (len0 : Int)) = false := by simp; omega
  have t1 : decide ((2000 : Int) < (s.size : Int)) = false := by simp; omega
  have HR := Lib.hid hr
  have HN := Lib.hid hn
  have HQ := Lib.hid hq
  have HL : Hid (len0 ≤ 100000) := Lib.hid (by omega)
  have HM : Hid (s.size ≤ 1000000) := Lib.hid (by omega)
  have HM2 : Hid (s.size ≤ 16384) := Lib.hid (by omega)
  have hnn : ns.length = len0 := hnl.trans hn
  have HNN := Lib.hid hnn
  have HZ := Lib.hid hz
  have HT := Lib.hid ht
  have HTM := Lib.hid htm
  have HP := Lib.hid hp
  have hml := pts_le hp
  have HML : Hid (ms.length ≤ 100000) := Lib.hid (by omega)
  have HOF := Lib.hid (of_zs hp (by omega))
  have HPL : Hid (∀ k (hk : k < ms.length) x, ms[k]'hk = x → ∀ a, (encs (ms.take k)).length = a → a < s.size ∧ nextR (s.data.toList.drop a) = (x, (enc x).length, 0) ∧ may (x : Int) = true ∧ (encs (ms.take (k + 1))).length = a + (enc x).length ∧ 1 ≤ (enc x).length) := Lib.hid (fun k hk x hx a ha => place_k hp k hk x hx a ha)
  have HPE := Lib.hid (place_end hp)
  clear hr hn hq h0 h1 hnn hz hnl ht htm hp hml
  go_enter Try.func6, Try.ntmps6
  go_wp2_with (first
    | (go_at_call 12; (with_reducible refine (alive5 w).mono ?_); rintro e w1 ⟨rfl, hb1⟩)
    | (go_at_call 11; (with_reducible refine (of5 a0 len0 cap0 l w1 (HR.out.on hb1) HN.out HL.out t 0 HQ.out).mono ?_); rintro e w2 ⟨rfl, hb2⟩; have hB2 := stp hb1 hb2)
    | (go_at_call 14; (with_reducible refine (points5_ok t ns w2 HTM.out HT.out).mono ?_); rintro e w3 ⟨hb3, A3, c3, rfl, hz3, hr3⟩; rw [HZ.out] at hr3; rw [HNN.out]; have hB3 := stp hB2 hb3; have HR3 := Lib.hid hr3; clear hr3 hz3)
    | (go_at_call 16; (with_reducible refine (rsame5_yes A3 a0 len0 c3 cap0 l w3 HR3.out (HR.out.on hB3) HN.out (by have := HL.out; omega)).mono ?_); rintro e w4 ⟨rfl, hb4⟩; have hB4 := stp hB3 hb4)
    | (go_at_call 14; (with_reducible refine (points5_ok s ms w4 HM2.out HP.out).mono ?_); rintro e w5 ⟨hb5, A5, c5, rfl, hz5, hr5⟩; have hB5 := stp hB4 hb5; have HR5 := Lib.hid hr5; clear hr5 hz5)
    | (go_at_call 11; (with_reducible refine (of5 A5 ms.length c5 (zs ms) w5 HR5.out (zs_length ms) HML.out s 0 HOF.out).mono ?_); rintro e w6 ⟨rfl, hb6⟩; have hB6 := stp hB5 hb6)
    | fail)
  have HB6 := Lib.hid hb6
  have HBB := Lib.hid hB6
  go_loopw [14, 15] (fun at' i wr => ∃ k a : Nat, k ≤ ms.length ∧ i = .int .i64 k ∧ at' = .int .i64 a ∧ (encs (ms.take k)).length = a ∧ Below w6.heap.size w6 wr) (fun _ i _ => ms.length - (intOf i).toNat)
  case atStart => exact ⟨0, 0, Nat.zero_le _, rfl, rfl, rfl, Below.refl _ _⟩
  case round =>
    obtain ⟨k, a, hk, rfl, rfl, hat, hbw⟩ := hrel
    have HBW := Lib.hid hbw
    have HAT := Lib.hid hat
    by_cases hlt : k < ms.length
    · obtain ⟨x, hx⟩ : ∃ x, ms[k]'hlt = x := ⟨_, rfl⟩
      obtain ⟨p1, p2, p3, p4, p5⟩ := HPL.out k hlt x hx a hat
      obtain ⟨m, hm⟩ : ∃ m, (enc x).length = m := ⟨_, rfl⟩
      rw [hm] at p2 p4 p5
      have hs6 := hb6.size
      have hsw := hbw.size
      obtain ⟨g, o, rfl, hg, hcl⟩ := HR5.out (by rw [zs_length]; omega)
      have hx' : (zs ms)[k]'(by rw [zs_length]; exact hlt) = (x : Int) := by unfold zs; rw [List.getElem_map, hx]
      have k1 := (hbw.cell (p := ⟨g, o + k, none⟩) (by show g < _; omega)).trans ((hb6.cell (p := ⟨g, o + k, none⟩) hg).trans (hcl k (by rw [zs_length]; exact hlt)))
      rw [hx'] at k1
      have k2 : wr.cell? ⟨g, o + k, none⟩ = some (.int .i64 x) := k1
      have K2 := Lib.hid k2
      have HG := Lib.hid hg
      have P1 := Lib.hid p1
      have P2 := Lib.hid p2
      have P3 := Lib.hid p3
      have P4 := Lib.hid p4
      have bk : (0 : Int) ≤ (k : Int) ∧ (k : Int) < (ms.length : Int) := by omega
      have bm : decide ((m : Int) < 1) = false := by simp; omega
      have HMM := HM.out
      have hml := HML.out
      have bs : m ≤ 4 := hm ▸ (enc_length x).2
      clear hcl hx hx' k1 k2 p2 p3 p4 hat hbw hm
      go_wp2_with (first
        | (go_at_call 10; (with_reducible refine (next5 s a wr HM.out P1.out x m 0 P2.out).mono ?_); rintro e w7 ⟨rfl, hb7⟩; have k7 := (hb7.cell (p := ⟨g, o + k, none⟩) (by show g < _; omega)).trans K2.out; have HB7 := Lib.hid hb7)
        | (go_at_call 18; (with_reducible refine (may5 x true w7 P3.out).mono ?_); rintro e w8 ⟨rfl, hb8⟩; have HB8 := Lib.hid hb8)
        | fail)
      go_roundw
      case rel => exact ⟨k + 1, a + m, hlt, by go_num, by go_num, P4.out, stp (stp HBW.out HB7.out) HB8.out⟩
      case measure => simp [intOf]; omega
    · obtain rfl : k = ms.length := by omega
      rw [HPE.out] at hat
      subst hat
      go_wp2_with fail
      go_ret
      exact ⟨rfl, stp HBB.out hbw⟩
set_option maxHeartbeats 4000000 in
set_option maxRecDepth 100000 in
theorem walk4N (a0 : Option Addr) (len0 cap0 : Nat) (l : List Int) (s : ByteArray) (w : World) (hr : RdZ w w.heap.size a0 l) (hn : l.length = len0) (h0 : len0 ≤ 500) (h1 : s.size ≤ 2000) (t : ByteArray) (hq : ofR l = (t, 4))  (hc : chkE s = 50) :
    Calls Try.prog 6 #[.slice a0 len0 cap0, .string s] w fun e w' => e = .returned (.bool true) ∧ Below w.heap.size w w' := by
  have t0 : decide ((500 : Int) < (len0 : Int)) = false := by simp; omega
  have t1 : decide ((2000 : Int) < (s.size : Int)) = false := by simp; omega
  have HR := Lib.hid hr
  have HN := Lib.hid hn
  have HQ := Lib.hid hq
  have HL : Hid (len0 ≤ 100000) := Lib.hid (by omega)
  have HM : Hid (s.size ≤ 1000000) := Lib.hid (by omega)
  have HM2 : Hid (s.size ≤ 16384) := Lib.hid (by omega)
  have HC := Lib.hid hc
  clear hr hn hq h0 h1 hc
  go_enter Try.func6, Try.ntmps6
  go_wp2_with (first
    | (go_at_call 12; (with_reducible refine (alive5 w).mono ?_); rintro e w1 ⟨rfl, hb1⟩)
    | (go_at_call 11; (with_reducible refine (of5 a0 len0 cap0 l w1 (HR.out.on hb1) HN.out HL.out t 4 HQ.out).mono ?_); rintro e w2 ⟨rfl, hb2⟩; have hB2 := stp hb1 hb2)
    | (go_at_call 14; (with_reducible refine (points5_no s 50 w2 HM.out HC.out (by decide)).mono ?_); rintro e w5 ⟨rfl, hb5⟩; have hB5 := stp hB2 hb5)
    | (go_at_call 9; (with_reducible refine (check5 s w5 HM.out 50 HC.out).mono ?_); rintro e w6 ⟨rfl, hb6⟩; have hB6 := stp hB5 hb6)
    | fail)
  go_ret
  exact ⟨rfl, hB6⟩
set_option maxHeartbeats 4000000 in
set_option maxRecDepth 100000 in
theorem walk4T (a0 : Option Addr) (len0 cap0 : Nat) (l : List Int) (s : ByteArray) (w : World) (hr : RdZ w w.heap.size a0 l) (hn : l.length = len0) (h0 : len0 ≤ 500) (h1 : s.size ≤ 2000) (t : ByteArray) (hq : ofR l = (t, 4))  (ms : List Nat) (hp : pts s.data.toList = some ms) :
    Calls Try.prog 6 #[.slice a0 len0 cap0, .string s] w fun e w' => e = .returned (.bool true) ∧ Below w.heap.size w w' := by
  have t0 : decide ((500 : Int) < (len0 : Int)) = false := by simp; omega
  have t1 : decide ((2000 : Int) < (s.size : Int)) = false := by simp; omega
  have HR := Lib.hid hr
  have HN := Lib.hid hn
  have HQ := Lib.hid hq
  have HL : Hid (len0 ≤ 100000) := Lib.hid (by omega)
  have HM : Hid (s.size ≤ 1000000) := Lib.hid (by omega)
  have HM2 : Hid (s.size ≤ 16384) := Lib.hid (by omega)
  have HP := Lib.hid hp
  have hml := pts_le hp
  have HML : Hid (ms.length ≤ 100000) := Lib.hid (by omega)
  have HOF := Lib.hid (of_zs hp (by omega))
  have HPL : Hid (∀ k (hk : k < ms.length) x, ms[k]'hk = x → ∀ a, (encs (ms.take k)).length = a → a < s.size ∧ nextR (s.data.toList.drop a) = (x, (enc x).length, 0) ∧ may (x : Int) = true ∧ (encs (ms.take (k + 1))).length = a + (enc x).length ∧ 1 ≤ (enc x).length) := Lib.hid (fun k hk x hx a ha => place_k hp k hk x hx a ha)
  have HPE := Lib.hid (place_end hp)
  clear hr hn hq h0 h1 hp hml
  go_enter Try.func6, Try.ntmps6
  go_wp2_with (first
    | (go_at_call 12; (with_reducible refine (alive5 w).mono ?_); rintro e w1 ⟨rfl, hb1⟩)
    | (go_at_call 11; (with_reducible refine (of5 a0 len0 cap0 l w1 (HR.out.on hb1) HN.out HL.out t 4 HQ.out).mono ?_); rintro e w2 ⟨rfl, hb2⟩; have hB2 := stp hb1 hb2)
    | (go_at_call 14; (with_reducible refine (points5_ok s ms w2 HM2.out HP.out).mono ?_); rintro e w5 ⟨hb5, A5, c5, rfl, hz5, hr5⟩; have hB5 := stp hB2 hb5; have HR5 := Lib.hid hr5; clear hr5 hz5)
    | (go_at_call 11; (with_reducible refine (of5 A5 ms.length c5 (zs ms) w5 HR5.out (zs_length ms) HML.out s 0 HOF.out).mono ?_); rintro e w6 ⟨rfl, hb6⟩; have hB6 := stp hB5 hb6)
    | fail)
  have HB6 := Lib.hid hb6
  have HBB := Lib.hid hB6
  go_loopw [14, 15] (fun at' i wr => ∃ k a : Nat, k ≤ ms.length ∧ i = .int .i64 k ∧ at' = .int .i64 a ∧ (encs (ms.take k)).length = a ∧ Below w6.heap.size w6 wr) (fun _ i _ => ms.length - (intOf i).toNat)
  case atStart => exact ⟨0, 0, Nat.zero_le _, rfl, rfl, rfl, Below.refl _ _⟩
  case round =>
    obtain ⟨k, a, hk, rfl, rfl, hat, hbw⟩ := hrel
    have HBW := Lib.hid hbw
    have HAT := Lib.hid hat
    by_cases hlt : k < ms.length
    · obtain ⟨x, hx⟩ : ∃ x, ms[k]'hlt = x := ⟨_, rfl⟩
      obtain ⟨p1, p2, p3, p4, p5⟩ := HPL.out k hlt x hx a hat
      obtain ⟨m, hm⟩ : ∃ m, (enc x).length = m := ⟨_, rfl⟩
      rw [hm] at p2 p4 p5
      have hs6 := hb6.size
      have hsw := hbw.size
      obtain ⟨g, o, rfl, hg, hcl⟩ := HR5.out (by rw [zs_length]; omega)
      have hx' : (zs ms)[k]'(by rw [zs_length]; exact hlt) = (x : Int) := by unfold zs; rw [List.getElem_map, hx]
      have k1 := (hbw.cell (p := ⟨g, o + k, none⟩) (by show g < _; omega)).trans ((hb6.cell (p := ⟨g, o + k, none⟩) hg).trans (hcl k (by rw [zs_length]; exact hlt)))
      rw [hx'] at k1
      have k2 : wr.cell? ⟨g, o + k, none⟩ = some (.int .i64 x) := k1
      have K2 := Lib.hid k2
      have HG := Lib.hid hg
      have P1 := Lib.hid p1
      have P2 := Lib.hid p2
      have P3 := Lib.hid p3
      have P4 := Lib.hid p4
      have bk : (0 : Int) ≤ (k : Int) ∧ (k : Int) < (ms.length : Int) := by omega
      have bm : decide ((m : Int) < 1) = false := by simp; omega
      have HMM := HM.out
      have hml := HML.out
      have bs : m ≤ 4 := hm ▸ (enc_length x).2
      clear hcl hx hx' k1 k2 p2 p3 p4 hat hbw hm
      go_wp2_with (first
        | (go_at_call 10; (with_reducible refine (next5 s a wr HM.out P1.out x m 0 P2.out).mono ?_); rintro e w7 ⟨rfl, hb7⟩; have k7 := (hb7.cell (p := ⟨g, o + k, none⟩) (by show g < _; omega)).trans K2.out; have HB7 := Lib.hid hb7)
        | (go_at_call 18; (with_reducible refine (may5 x true w7 P3.out).mono ?_); rintro e w8 ⟨rfl, hb8⟩; have HB8 := Lib.hid hb8)
        | fail)
      go_roundw
      case rel => exact ⟨k + 1, a + m, hlt, by go_num, by go_num, P4.out, stp (stp HBW.out HB7.out) HB8.out⟩
      case measure => simp [intOf]; omega
    · obtain rfl : k = ms.length := by omega
      rw [HPE.out] at hat
      subst hat
      go_wp2_with fail
      go_ret
      exact ⟨rfl, stp HBB.out hbw⟩
set_option maxHeartbeats 4000000 in
set_option maxRecDepth 100000 in
theorem walk50N (a0 : Option Addr) (len0 cap0 : Nat) (l : List Int) (s : ByteArray) (w : World) (hr : RdZ w w.heap.size a0 l) (hn : l.length = len0) (h0 : len0 ≤ 500) (h1 : s.size ≤ 2000) (t : ByteArray) (hq : ofR l = (t, 50))  (hc : chkE s = 50) :
    Calls Try.prog 6 #[.slice a0 len0 cap0, .string s] w fun e w' => e = .returned (.bool true) ∧ Below w.heap.size w w' := by
  have t0 : decide ((500 : Int) < (len0 : Int)) = false := by simp; omega
  have t1 : decide ((2000 : Int) < (s.size : Int)) = false := by simp; omega
  have HR := Lib.hid hr
  have HN := Lib.hid hn
  have HQ := Lib.hid hq
  have HL : Hid (len0 ≤ 100000) := Lib.hid (by omega)
  have HM : Hid (s.size ≤ 1000000) := Lib.hid (by omega)
  have HM2 : Hid (s.size ≤ 16384) := Lib.hid (by omega)
  have HC := Lib.hid hc
  clear hr hn hq h0 h1 hc
  go_enter Try.func6, Try.ntmps6
  go_wp2_with (first
    | (go_at_call 12; (with_reducible refine (alive5 w).mono ?_); rintro e w1 ⟨rfl, hb1⟩)
    | (go_at_call 11; (with_reducible refine (of5 a0 len0 cap0 l w1 (HR.out.on hb1) HN.out HL.out t 50 HQ.out).mono ?_); rintro e w2 ⟨rfl, hb2⟩; have hB2 := stp hb1 hb2)
    | (go_at_call 14; (with_reducible refine (points5_no s 50 w2 HM.out HC.out (by decide)).mono ?_); rintro e w5 ⟨rfl, hb5⟩; have hB5 := stp hB2 hb5)
    | (go_at_call 9; (with_reducible refine (check5 s w5 HM.out 50 HC.out).mono ?_); rintro e w6 ⟨rfl, hb6⟩; have hB6 := stp hB5 hb6)
    | fail)
  go_ret
  exact ⟨rfl, hB6⟩
set_option maxHeartbeats 4000000 in
set_option maxRecDepth 100000 in
theorem walk50T (a0 : Option Addr) (len0 cap0 : Nat) (l : List Int) (s : ByteArray) (w : World) (hr : RdZ w w.heap.size a0 l) (hn : l.length = len0) (h0 : len0 ≤ 500) (h1 : s.size ≤ 2000) (t : ByteArray) (hq : ofR l = (t, 50))  (ms : List Nat) (hp : pts s.data.toList = some ms) :
    Calls Try.prog 6 #[.slice a0 len0 cap0, .string s] w fun e w' => e = .returned (.bool true) ∧ Below w.heap.size w w' := by
  have t0 : decide ((500 : Int) < (len0 : Int)) = false := by simp; omega
  have t1 : decide ((2000 : Int) < (s.size : Int)) = false := by simp; omega
  have HR := Lib.hid hr
  have HN := Lib.hid hn
  have HQ := Lib.hid hq
  have HL : Hid (len0 ≤ 100000) := Lib.hid (by omega)
  have HM : Hid (s.size ≤ 1000000) := Lib.hid (by omega)
  have HM2 : Hid (s.size ≤ 16384) := Lib.hid (by omega)
  have HP := Lib.hid hp
  have hml := pts_le hp
  have HML : Hid (ms.length ≤ 100000) := Lib.hid (by omega)
  have HOF := Lib.hid (of_zs hp (by omega))
  have HPL : Hid (∀ k (hk : k < ms.length) x, ms[k]'hk = x → ∀ a, (encs (ms.take k)).length = a → a < s.size ∧ nextR (s.data.toList.drop a) = (x, (enc x).length, 0) ∧ may (x : Int) = true ∧ (encs (ms.take (k + 1))).length = a + (enc x).length ∧ 1 ≤ (enc x).length) := Lib.hid (fun k hk x hx a ha => place_k hp k hk x hx a ha)
  have HPE := Lib.hid (place_end hp)
  clear hr hn hq h0 h1 hp hml
  go_enter Try.func6, Try.ntmps6
  go_wp2_with (first
    | (go_at_call 12; (with_reducible refine (alive5 w).mono ?_); rintro e w1 ⟨rfl, hb1⟩)
    | (go_at_call 11; (with_reducible refine (of5 a0 len0 cap0 l w1 (HR.out.on hb1) HN.out HL.out t 50 HQ.out).mono ?_); rintro e w2 ⟨rfl, hb2⟩; have hB2 := stp hb1 hb2)
    | (go_at_call 14; (with_reducible refine (points5_ok s ms w2 HM2.out HP.out).mono ?_); rintro e w5 ⟨hb5, A5, c5, rfl, hz5, hr5⟩; have hB5 := stp hB2 hb5; have HR5 := Lib.hid hr5; clear hr5 hz5)
    | (go_at_call 11; (with_reducible refine (of5 A5 ms.length c5 (zs ms) w5 HR5.out (zs_length ms) HML.out s 0 HOF.out).mono ?_); rintro e w6 ⟨rfl, hb6⟩; have hB6 := stp hB5 hb6)
    | fail)
  have HB6 := Lib.hid hb6
  have HBB := Lib.hid hB6
  go_loopw [14, 15] (fun at' i wr => ∃ k a : Nat, k ≤ ms.length ∧ i = .int .i64 k ∧ at' = .int .i64 a ∧ (encs (ms.take k)).length = a ∧ Below w6.heap.size w6 wr) (fun _ i _ => ms.length - (intOf i).toNat)
  case atStart => exact ⟨0, 0, Nat.zero_le _, rfl, rfl, rfl, Below.refl _ _⟩
  case round =>
    obtain ⟨k, a, hk, rfl, rfl, hat, hbw⟩ := hrel
    have HBW := Lib.hid hbw
    have HAT := Lib.hid hat
    by_cases hlt : k < ms.length
    · obtain ⟨x, hx⟩ : ∃ x, ms[k]'hlt = x := ⟨_, rfl⟩
      obtain ⟨p1, p2, p3, p4, p5⟩ := HPL.out k hlt x hx a hat
      obtain ⟨m, hm⟩ : ∃ m, (enc x).length = m := ⟨_, rfl⟩
      rw [hm] at p2 p4 p5
      have hs6 := hb6.size
      have hsw := hbw.size
      obtain ⟨g, o, rfl, hg, hcl⟩ := HR5.out (by rw [zs_length]; omega)
      have hx' : (zs ms)[k]'(by rw [zs_length]; exact hlt) = (x : Int) := by unfold zs; rw [List.getElem_map, hx]
      have k1 := (hbw.cell (p := ⟨g, o + k, none⟩) (by show g < _; omega)).trans ((hb6.cell (p := ⟨g, o + k, none⟩) hg).trans (hcl k (by rw [zs_length]; exact hlt)))
      rw [hx'] at k1
      have k2 : wr.cell? ⟨g, o + k, none⟩ = some (.int .i64 x) := k1
      have K2 := Lib.hid k2
      have HG := Lib.hid hg
      have P1 := Lib.hid p1
      have P2 := Lib.hid p2
      have P3 := Lib.hid p3
      have P4 := Lib.hid p4
      have bk : (0 : Int) ≤ (k : Int) ∧ (k : Int) < (ms.length : Int) := by omega
      have bm : decide ((m : Int) < 1) = false := by simp; omega
      have HMM := HM.out
      have hml := HML.out
      have bs : m ≤ 4 := hm ▸ (enc_length x).2
      clear hcl hx hx' k1 k2 p2 p3 p4 hat hbw hm
      go_wp2_with (first
        | (go_at_call 10; (with_reducible refine (next5 s a wr HM.out P1.out x m 0 P2.out).mono ?_); rintro e w7 ⟨rfl, hb7⟩; have k7 := (hb7.cell (p := ⟨g, o + k, none⟩) (by show g < _; omega)).trans K2.out; have HB7 := Lib.hid hb7)
        | (go_at_call 18; (with_reducible refine (may5 x true w7 P3.out).mono ?_); rintro e w8 ⟨rfl, hb8⟩; have HB8 := Lib.hid hb8)
        | fail)
      go_roundw
      case rel => exact ⟨k + 1, a + m, hlt, by go_num, by go_num, P4.out, stp (stp HBW.out HB7.out) HB8.out⟩
      case measure => simp [intOf]; omega
    · obtain rfl : k = ms.length := by omega
      rw [HPE.out] at hat
      subst hat
      go_wp2_with fail
      go_ret
      exact ⟨rfl, stp HBB.out hbw⟩
theorem walk (a0 : Option Addr) (len0 cap0 : Nat) (l0 : List Int) (a1 : ByteArray) (w : World) (w0 : RdZ w w.heap.size a0 l0) (n0 : l0.length = len0) (c0 : len0 ≤ cap0) (m0 : cap0 ≤ maxLen) (z0 : a0 = none → cap0 = 0) (w1 : a1.size ≤ maxLen) :
    Calls Try.prog 6 #[.slice a0 len0 cap0, .string a1] w fun e w' => e = .returned (.bool true) ∧ Below w.heap.size w w' := by
  by_cases h : 500 < len0 ∨ 2000 < a1.size
  · exact walkOut a0 len0 cap0 a1 w h
  · obtain ⟨t, q, hq⟩ : ∃ t q, ofR l0 = (t, q) := ⟨_, _, rfl⟩
    have hl := of_lits l0
    rw [hq] at hl
    rcases hps : pts a1.data.toList with _ | ms
    · have hc : chkE a1 = 50 := by unfold chkE; rw [if_neg (by omega), hps]; rfl
      rcases hl with e | e | e <;> simp only at e <;> subst e
      · obtain ⟨ns, hz, hnl, ht, htm⟩ := of_yes hq
        exact walk0N a0 len0 cap0 l0 a1 w w0 n0 (by omega) (by omega) t hq ns hz hnl ht htm hc
      · exact walk4N a0 len0 cap0 l0 a1 w w0 n0 (by omega) (by omega) t hq hc
      · exact walk50N a0 len0 cap0 l0 a1 w w0 n0 (by omega) (by omega) t hq hc
    · rcases hl with e | e | e <;> simp only at e <;> subst e
      · obtain ⟨ns, hz, hnl, ht, htm⟩ := of_yes hq
        exact walk0T a0 len0 cap0 l0 a1 w w0 n0 (by omega) (by omega) t hq ns hz hnl ht htm ms hps
      · exact walk4T a0 len0 cap0 l0 a1 w w0 n0 (by omega) (by omega) t hq ms hps
      · exact walk50T a0 len0 cap0 l0 a1 w w0 n0 (by omega) (by omega) t hq ms hps

set_option maxRecDepth 100000 in
theorem lifted (os : Os) (started : os.Started) (H : Type) (enc : TypeId × Value → H) :
    ReturnsInHanded {} Try.checked os 6 .any (Rows.textBackSpec.pre6 enc Try.prog Try.f6 Rows.textBackRow.domain false) (Rows.textBackSpec.post enc Try.prog Try.f6 false true false false) := by
  refine returnsInHanded_of_change (C := Try.checked) own started (by kernel_rfl) Try.func6
    (ChangeSpec.witness6 (enc := enc) (C := Try.checked) false ⟨#[], #[.slice none 0 0, .string ByteArray.empty], []⟩ 8 (by kernel_rfl) (by kernel_rfl) (by kernel_rfl) (by kernel_rfl)) ?_
  intro W base args ds gs before hval0 hW hcnd _
  have hval : ∀ (j : Nat) t v, Try.f6.params[j]? = some t → args[j]? = some v → Value.okWide Try.prog W .any base t v := hval0
  have hW' := hW
  obtain ⟨p, q, hA0, hV, rfl, hfz, hnd⟩ := hW
  have hA : DataW.TrodAll enc Try.prog W 0 (fun _ => true) true Try.f6.params.toList args.toList ds p := hA0
  rw [Try.params6] at hA hval
  obtain ⟨v0, vs0, d0, ds0, p0, q0, hargs, rfl, rfl, h0, r0⟩ := trodAll_cons hA
  obtain ⟨v1, vs1, d1, ds1, p1, q1, rfl, rfl, rfl, h1, r1⟩ := trodAll_cons r0
  obtain ⟨rfl, rfl, rfl⟩ := trodAll_nil r1
  obtain rfl : args = #[v0, v1] := by cases args; simp_all
  obtain ⟨rfl, rfl⟩ := trodVars_none hV
  obtain ⟨a0, len0, cap0, rfl⟩ := okWide_slice Try.underlying28 (hval 0 28 v0 rfl rfl)
  have k0 := h0
  have lt0 : ∀ x ∈ p0, x.block < W.heap.size := by obtain ⟨m, hm⟩ := k0; exact DataW.trod_lt m _ _ _ hm
  obtain ⟨l0, w0, n0, c0, m0, z0⟩ : ∃ l : List Int, RdZ W W.heap.size a0 l ∧ l.length = len0 ∧ len0 ≤ cap0 ∧ cap0 ≤ maxLen ∧ (a0 = none → cap0 = 0) := by
    obtain ⟨fuel, hf⟩ := h0
    rcases open_ints Try.underlying28 Try.underlying3 (by kernel_rfl) hf with ⟨hcs, _⟩ | ⟨x, l, c, zs, hcs, _, hl, hm, hz, _, hcell, hwz⟩
    · simp [Value.cells] at hcs
      obtain ⟨rfl, rfl, rfl⟩ := hcs
      exact ⟨[], RdG.nil _ _ _, rfl, Nat.le_refl _, Nat.zero_le _, fun _ => rfl⟩
    · simp [Value.cells] at hcs
      obtain ⟨rfl, rfl, rfl⟩ := hcs
      have hz' : zs.length = cap0 := by simpa using hz
      obtain ⟨l, hr, hn⟩ := rdZ_of_row hl hz' hcell hwz
      exact ⟨l, hr, hn, hl, hm, fun h => by cases h⟩
  obtain ⟨a1, rfl, rfl, rfl, w1⟩ := open_string Try.underlying9 (hval 1 9 v1 rfl rfl) h1
  clear hA0 hval0
  refine (walk a0 len0 cap0 l0 a1 W w0 n0 c0 m0 z0 w1).mono fun e W' ⟨he, bel⟩ => ?_
  subst he
  exact ⟨_, rfl, _, _, _, [], _, [], hW', trodAll_mk1 (shut_bool Try.underlying4 _), (trodAll_cons_mk (Below.trod laidOut (by kernel_rfl) (of_decide_eq_true (by kernel_rfl)) k0 bel lt0) (trodAll_cons_mk (shut_string Try.underlying9 w1) trodAll_mk0)), rfl, bel.frame _, fun h => by cases h⟩

theorem over : Rows.textBackRow.holds Try.pinned (OpenSpec.ofChange Rows.textBackSpec) :=
  OpenClaim.holds_of_wide 6 Try.f6 rfl rfl rfl rfl rfl rfl rfl ⟨rfl, rfl, rfl, rfl, rfl⟩ rfl rfl rfl rfl rfl (by kernel_rfl) Try.func6 (by kernel_rfl)
    (of_decide_eq_true (by kernel_rfl)) (by unfold Func.isWrapper; first | (rw [if_pos (by decide +kernel)]; kernel_rfl) | (rw [if_neg (by decide +kernel)]; exact ⟨rfl, rfl⟩))
    (fun os started H enc _ => lifted os started H enc)

theorem proved : Rows.TextBackSaid := over
end Go.Proofs.Ytjpebnnifbnjjaa.textBack
