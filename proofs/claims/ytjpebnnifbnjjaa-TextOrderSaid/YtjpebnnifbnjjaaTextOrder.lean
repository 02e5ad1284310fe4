/-
  Texts are in the order of their code points.
-/
import Derived.Test.YtjpebnnifbnjjaaTextW
import Derived.WalkKit
import Derived.ProofKit
import Derived.OpenShut
import Derived.ShutString
import Derived.ChangeOld
import Derived.Below
namespace Go.Proofs.Ytjpebnnifbnjjaa.textOrder
open Go.ChangeShapes Go.WideShapes Go.ChangeAt Go.RowKit
open Go.ChangeMaps (open_string shut_string)
open Hx Tx
set_option linter.unusedVariables false

theorem own : ownKnob Try.prog.godebug = none := by kernel_rfl
theorem laidOut : laidOutB Try.prog = true := by kernel_rfl

set_option linter.unusedVariables false
theorem of_yes {l : List Int} {t : ByteArray} (h : ofR l = (t, 0)) : ∃ ns, zs ns = l ∧ ns.length = l.length ∧ pts t.data.toList = some ns ∧ t.size ≤ 16384 := by
  unfold ofR at h
  by_cases hm : l.all may = true
  · rw [if_pos hm] at h
    by_cases hl : 16384 < (byL l).length
    · rw [if_pos hl] at h
      have := congrArg Prod.snd h
      simp at this
    · rw [if_neg hl] at h
      have ht := congrArg Prod.fst h
      simp only at ht
      subst ht
      have hall : ∀ z ∈ l, may z = true := List.all_eq_true.1 hm
      refine ⟨l.map Int.toNat, ?_, by simp, ?_, ?_⟩
      · unfold zs
        rw [List.map_map]
        refine Eq.trans (List.map_congr_left (g := id) fun z hz => ?_) (List.map_id l)
        have := (may_sv (hall z hz)).1
        show ((z.toNat : Nat) : Int) = z
        omega
      · refine pts_encs fun n hn => ?_
        obtain ⟨z, hz, rfl⟩ := List.mem_map.1 hn
        have := (may_sv (hall z hz)).1
        rw [Int.toNat_of_nonneg this]
        exact hall z hz
      · show (byL l).toArray.size ≤ 16384
        rw [List.size_toArray]
        omega
  · rw [if_neg hm] at h
    have := congrArg Prod.snd h
    simp at this
theorem of_zs {s : ByteArray} {ns : List Nat} (h : pts s.data.toList = some ns) (hm : s.size ≤ 16384) : ofR (zs ns) = (s, 0) := by
  obtain ⟨h1, h2⟩ := (pts_iff _ _).1 h
  have hb : byL (zs ns) = encs ns := by
    unfold byL zs
    rw [List.map_map]
    congr 1
    exact Eq.trans (List.map_congr_left (g := id) fun n _ => rfl) (List.map_id ns)
  have hl : (encs ns).length = s.size := by rw [← h1]; exact ba_len5 s
  unfold ofR
  rw [if_pos, if_neg, hb, ← h1]
  · rw [hb, hl]; omega
  · rw [List.all_eq_true]
    intro z hz
    unfold zs at hz
    obtain ⟨n, hn, rfl⟩ := List.mem_map.1 hz
    exact h2 n hn

theorem zs_get (ns : List Nat) (k : Nat) (h : k < (zs ns).length) : (zs ns)[k]'h = ((ns[k]'(by rw [zs_length] at h; exact h) : Nat) : Int) := by
  exact List.getElem_map (fun n : Nat => (n : Int))
theorem less_lex : ∀ (x y : List UInt8), Op.bytesLess x y = decide (x < y)
  | [], [] => by simp [Op.bytesLess]
  | _ :: _, [] => by simp [Op.bytesLess]
  | [], _ :: _ => by simp [Op.bytesLess]
  | a :: x, b :: y => by
    rw [Op.bytesLess, less_lex x y, Bool.eq_iff_iff]
    simp [List.cons_lt_cons_iff]
/-- The order of two lists that agree ahead of k. -/
theorem less_at (a b : List Nat) (k : Nat) (ha : k < a.length) (hb : k < b.length) (hp : a.take k = b.take k) (hne : a[k]'ha ≠ b[k]'hb) : a < b ↔ a[k]'ha < b[k]'hb := by
  have e1 : a = a.take k ++ a[k]'ha :: a.drop (k + 1) := by rw [List.getElem_cons_drop, List.take_append_drop]
  have e2 : b = a.take k ++ b[k]'hb :: b.drop (k + 1) := by rw [hp, List.getElem_cons_drop, List.take_append_drop]
  generalize a[k]'ha = x at *
  generalize b[k]'hb = y at *
  generalize a.take k = p at *
  generalize a.drop (k + 1) = u at *
  generalize b.drop (k + 1) = v at *
  subst e1 e2
  clear ha hb hp
  induction p with
  | nil =>
    rw [List.nil_append, List.nil_append, List.cons_lt_cons_iff]
    omega
  | cons z p ih =>
    rw [List.cons_append, List.cons_append, List.cons_lt_cons_iff]
    simp only [Nat.lt_irrefl, true_and, false_or]
    exact ih
theorem less_end (a b : List Nat) (k : Nat) (h : k = a.length ∨ k = b.length) (ha : k ≤ a.length) (hb : k ≤ b.length) (hp : a.take k = b.take k) : a < b ↔ a.length < b.length := by
  induction k generalizing a b with
  | zero =>
    cases a with
    | nil => cases b <;> simp
    | cons x a =>
      cases b with
      | nil => simp
      | cons y b => simp at h
  | succ k ih =>
    cases a with
    | nil => simp at ha
    | cons x a =>
      cases b with
      | nil => simp at hb
      | cons y b =>
        simp only [List.take_succ_cons, List.cons.injEq] at hp
        obtain ⟨rfl, hp⟩ := hp
        rw [List.cons_lt_cons_iff]
        have := ih a b (by simpa using h) (by simpa using ha) (by simpa using hb) hp
        simp only [Nat.lt_irrefl, true_and, false_or, List.length_cons]
        rw [this]
        omega
theorem take_more {a b : List Nat} {k : Nat} (ha : k < a.length) (hb : k < b.length) (hp : a.take k = b.take k) (he : a[k]'ha = b[k]'hb) : a.take (k + 1) = b.take (k + 1) := by
  rw [List.take_succ_eq_append_getElem ha, List.take_succ_eq_append_getElem hb, hp, he]
set_option maxRecDepth 100000 in
theorem walkOut (a0 : Option Addr) (len0 cap0 : Nat) (a1 : Option Addr) (len1 cap1 : Nat) (w : World) (h : 500 < len0 ∨ 500 < len1) :
    Calls Try.prog 7 #[.slice a0 len0 cap0, .slice a1 len1 cap1] w fun e w' => e = .returned (.bool true) ∧ Below w.heap.size w w' := by
  by_cases h0 : 500 < len0
  · have t0 : decide ((500 : Int) < (len0 : Int)) = true := by simp; omega
    clear h h0
    go_enter Try.func7, Try.ntmps7
    go_wp2_with (first
      | (go_at_call 12; (with_reducible refine (alive5 w).mono ?_); rintro e w1 ⟨rfl, hb1⟩)
      | fail)
    go_ret
    exact ⟨rfl, hb1⟩
  · have t0 : decide ((500 : Int) < (len0 : Int)) = false := by simp; omega
    have t1 : decide ((500 : Int) < (len1 : Int)) = true := by simp; omega
    clear h h0
    go_enter Try.func7, Try.ntmps7
    go_wp2_with (first
      | (go_at_call 12; (with_reducible refine (alive5 w).mono ?_); rintro e w1 ⟨rfl, hb1⟩)
      | fail)
    go_ret
    exact ⟨rfl, hb1⟩
set_option maxRecDepth 100000 in
theorem walkBad (a0 : Option Addr) (len0 cap0 : Nat) (l0 : List Int) (a1 : Option Addr) (len1 cap1 : Nat) (l1 : List Int) (w : World) (hr0 : RdZ w w.heap.size a0 l0) (hn0 : l0.length = len0) (hr1 : RdZ w w.heap.size a1 l1) (hn1 : l1.length = len1) (h0 : len0 ≤ 500) (h1 : len1 ≤ 500)
    (t0' : ByteArray) (q0 : Int) (hq0 : ofR l0 = (t0', q0)) (t1' : ByteArray) (q1 : Int) (hq1 : ofR l1 = (t1', q1)) (hne : q0 ≠ 0 ∨ (q0 = 0 ∧ q1 ≠ 0)) :
    Calls Try.prog 7 #[.slice a0 len0 cap0, .slice a1 len1 cap1] w fun e w' => e = .returned (.bool true) ∧ Below w.heap.size w w' := by
  have t0 : decide ((500 : Int) < (len0 : Int)) = false := by simp; omega
  have t1 : decide ((500 : Int) < (len1 : Int)) = false := by simp; omega
  have HR0 := Lib.hid hr0
  have HN0 := Lib.hid hn0
  have HQ0 := Lib.hid hq0
  have HR1 := Lib.hid hr1
  have HN1 := Lib.hid hn1
  have HQ1 := Lib.hid hq1
  have HL0 : Hid (len0 ≤ 100000) := Lib.hid (by omega)
  have HL1 : Hid (len1 ≤ 100000) := Lib.hid (by omega)
  clear hr0 hn0 hq0 hr1 hn1 hq1 h0 h1
  rcases hne with hne | ⟨rfl, hne⟩
  · go_enter Try.func7, Try.ntmps7
    go_wp2_with (first
      | (go_at_call 12; (with_reducible refine (alive5 w).mono ?_); rintro e w1 ⟨rfl, hb1⟩)
      | (go_at_call 11; (with_reducible refine (of5 a0 len0 cap0 l0 w1 (HR0.out.on hb1) HN0.out HL0.out t0' q0 HQ0.out).mono ?_); rintro e w2 ⟨rfl, hb2⟩; have hB2 := stp hb1 hb2)
      | (go_at_call 11; (with_reducible refine (of5 a1 len1 cap1 l1 w2 (HR1.out.on hB2) HN1.out HL1.out t1' q1 HQ1.out).mono ?_); rintro e w3 ⟨rfl, hb3⟩; have hB3 := stp hB2 hb3)
      | fail)
    go_ret
    exact ⟨rfl, hB3⟩
  · go_enter Try.func7, Try.ntmps7
    go_wp2_with (first
      | (go_at_call 12; (with_reducible refine (alive5 w).mono ?_); rintro e w1 ⟨rfl, hb1⟩)
      | (go_at_call 11; (with_reducible refine (of5 a0 len0 cap0 l0 w1 (HR0.out.on hb1) HN0.out HL0.out t0' 0 HQ0.out).mono ?_); rintro e w2 ⟨rfl, hb2⟩; have hB2 := stp hb1 hb2)
      | (go_at_call 11; (with_reducible refine (of5 a1 len1 cap1 l1 w2 (HR1.out.on hB2) HN1.out HL1.out t1' q1 HQ1.out).mono ?_); rintro e w3 ⟨rfl, hb3⟩; have hB3 := stp hB2 hb3)
      | fail)
    go_ret
    exact ⟨rfl, hB3⟩
set_option maxHeartbeats 4000000 in
set_option maxRecDepth 100000 in
theorem walkIn (a0 : Option Addr) (len0 cap0 : Nat) (na : List Nat) (a1 : Option Addr) (len1 cap1 : Nat) (nb : List Nat) (w : World) (hr0 : RdZ w w.heap.size a0 (zs na)) (hn0 : na.length = len0) (hr1 : RdZ w w.heap.size a1 (zs nb)) (hn1 : nb.length = len1) (h0 : len0 ≤ 500) (h1 : len1 ≤ 500)
    (x : ByteArray) (hq0 : ofR (zs na) = (x, 0)) (y : ByteArray) (hq1 : ofR (zs nb) = (y, 0)) (hlt : Op.bytesLess x.toList y.toList = decide (na < nb)) :
    Calls Try.prog 7 #[.slice a0 len0 cap0, .slice a1 len1 cap1] w fun e w' => e = .returned (.bool true) ∧ Below w.heap.size w w' := by
  have t0 : decide ((500 : Int) < (len0 : Int)) = false := by simp; omega
  have t1 : decide ((500 : Int) < (len1 : Int)) = false := by simp; omega
  have HR0 := Lib.hid hr0
  have HN0 := Lib.hid hn0
  have HQ0 := Lib.hid hq0
  have HR1 := Lib.hid hr1
  have HN1 := Lib.hid hn1
  have HQ1 := Lib.hid hq1
  have HH0 := Lib.hid h0
  have HH1 := Lib.hid h1
  have HL0 : Hid (len0 ≤ 100000) := Lib.hid (by omega)
  have HL1 : Hid (len1 ≤ 100000) := Lib.hid (by omega)
  clear hr0 hn0 hq0 hr1 hn1 hq1 h0 h1
  go_enter Try.func7, Try.ntmps7
  go_wp2_with (first
    | (go_at_call 12; (with_reducible refine (alive5 w).mono ?_); rintro e w1 ⟨rfl, hb1⟩)
    | (go_at_call 11; (with_reducible refine (of5 a0 len0 cap0 (zs na) w1 (HR0.out.on hb1) ((zs_length na).trans HN0.out) HL0.out x 0 HQ0.out).mono ?_); rintro e w2 ⟨rfl, hb2⟩; have hB2 := stp hb1 hb2)
    | (go_at_call 11; (with_reducible refine (of5 a1 len1 cap1 (zs nb) w2 (HR1.out.on hB2) ((zs_length nb).trans HN1.out) HL1.out y 0 HQ1.out).mono ?_); rintro e w3 ⟨rfl, hb3⟩; have hB3 := stp hB2 hb3)
    | fail)
  have HB3 := Lib.hid hB3
  have ltc : decide ((len0 : Int) < (len1 : Int)) = decide (len0 < len1) := by simp
  go_loopw [10, 11] (fun ls i wr => ∃ k : Nat, ls = .bool (decide (len0 < len1)) ∧ k ≤ len0 ∧ k ≤ len1 ∧ i = .int .i64 k ∧ na.take k = nb.take k ∧ Below w3.heap.size w3 wr) (fun _ i _ => len0 - (intOf i).toNat)
  case atStart => exact ⟨0, by rw [← ltc], Nat.zero_le _, Nat.zero_le _, rfl, rfl, Below.refl _ _⟩
  case round =>
    obtain ⟨k, rfl, hk0, hk1, rfl, htk, hbw⟩ := hrel
    have HBW := Lib.hid hbw
    have HTK := Lib.hid htk
    have hh0 := HH0.out
    have hh1 := HH1.out
    by_cases hlt0 : k < len0
    · by_cases hlt1 : k < len1
      · have c0 : decide ((k : Int) < (len0 : Int)) = true := by simp; omega
        have c1 : decide ((k : Int) < (len1 : Int)) = true := by simp; omega
        have hs3 := hB3.size
        have hsw := hbw.size
        have ka : k < na.length := by rw [HN0.out]; exact hlt0
        have kb : k < nb.length := by rw [HN1.out]; exact hlt1
        obtain ⟨ga, oa, rfl, hga, hca⟩ := HR0.out (by rw [zs_length, HN0.out]; omega)
        obtain ⟨gb, ob, rfl, hgb, hcb⟩ := HR1.out (by rw [zs_length, HN1.out]; omega)
        have k1 := (hbw.cell (p := ⟨ga, oa + k, none⟩) (by show ga < _; omega)).trans ((hB3.cell (p := ⟨ga, oa + k, none⟩) hga).trans (hca k (by rw [zs_length]; exact ka)))
        have k2 := (hbw.cell (p := ⟨gb, ob + k, none⟩) (by show gb < _; omega)).trans ((hB3.cell (p := ⟨gb, ob + k, none⟩) hgb).trans (hcb k (by rw [zs_length]; exact kb)))
        rw [zs_get] at k1 k2
        obtain ⟨u, hu⟩ : ∃ u, na[k]'ka = u := ⟨_, rfl⟩
        obtain ⟨v, hv⟩ : ∃ v, nb[k]'kb = v := ⟨_, rfl⟩
        rw [hu] at k1
        rw [hv] at k2
        have k1' : wr.cell? ⟨ga, oa + k, none⟩ = some (.int .i64 u) := k1
        have k2' : wr.cell? ⟨gb, ob + k, none⟩ = some (.int .i64 v) := k2
        have bk0 : (0 : Int) ≤ (k : Int) ∧ (k : Int) < (len0 : Int) := by omega
        have bk1 : (0 : Int) ≤ (k : Int) ∧ (k : Int) < (len1 : Int) := by omega
        have HU := Lib.hid hu
        have HV := Lib.hid hv
        clear hca hcb k1 k2 hbw htk hB3
        by_cases huv : u = v
        · subst huv
          clear hu hv
          go_wp2_with fail
          go_quiet (fail)
          go_wp2_with fail
          go_roundw
          case rel => exact ⟨k + 1, rfl, hlt0, hlt1, by go_num, take_more ka kb HTK.out (HU.out.trans HV.out.symm), below_dn5 HBW.out _⟩
          case measure => simp [intOf]; omega
        · have HF := Lib.hid (less_at na nb k ka kb HTK.out (by rw [HU.out, HV.out]; exact huv))
          have hne : ((u : Int) == (v : Int)) = false := by simp; omega
          have huv' : ¬ (u : Int) = (v : Int) := by omega
          clear hu hv
          go_wp2_with fail
          go_quiet (fail)
          go_wp2_with fail
          go_quiet (fail)
          go_wp2_with fail
          have hf : na < nb ↔ u < v := by have q := HF.out; rw [HU.out, HV.out] at q; exact q
          go_ret
          exact ⟨ret_b (by rw [beq_iff_eq]; exact decide_eq_decide.2 hf), stp HB3.out (below_dn5 HBW.out _)⟩
      · obtain rfl : k = len1 := by omega
        have c0 : decide ((k : Int) < (len0 : Int)) = true := by simp; omega
        have c1 : decide ((k : Int) < (k : Int)) = false := by simp
        have hf := less_end na nb k (.inr HN1.out.symm) (by rw [HN0.out]; omega) (by rw [HN1.out]; omega) HTK.out
        rw [HN0.out, HN1.out] at hf
        have HF := Lib.hid hf
        clear hf
        go_wp2_with fail
        go_ret
        exact ⟨ret_b (by rw [beq_iff_eq]; exact decide_eq_decide.2 HF.out), stp HB3.out HBW.out⟩
    · obtain rfl : k = len0 := by omega
      have c0 : decide ((k : Int) < (k : Int)) = false := by simp
      have hf := less_end na nb k (.inl HN0.out.symm) (by rw [HN0.out]; omega) (by rw [HN1.out]; omega) HTK.out
      rw [HN0.out, HN1.out] at hf
      have HF := Lib.hid hf
      clear hf
      go_wp2_with fail
      go_ret
      exact ⟨ret_b (by rw [beq_iff_eq]; exact decide_eq_decide.2 HF.out), stp HB3.out HBW.out⟩
theorem walk (a0 : Option Addr) (len0 cap0 : Nat) (l0 : List Int) (a1 : Option Addr) (len1 cap1 : Nat) (l1 : List Int) (w : World) (w0 : RdZ w w.heap.size a0 l0) (n0 : l0.length = len0) (c0 : len0 ≤ cap0) (m0 : cap0 ≤ maxLen) (z0 : a0 = none → cap0 = 0) (w1 : RdZ w w.heap.size a1 l1) (n1 : l1.length = len1) (c1 : len1 ≤ cap1) (m1 : cap1 ≤ maxLen) (z1 : a1 = none → cap1 = 0) :
    Calls Try.prog 7 #[.slice a0 len0 cap0, .slice a1 len1 cap1] w fun e w' => e = .returned (.bool true) ∧ Below w.heap.size w w' := by
  by_cases h : 500 < len0 ∨ 500 < len1
  · exact walkOut a0 len0 cap0 a1 len1 cap1 w h
  · obtain ⟨t, q, hq⟩ : ∃ t q, ofR l0 = (t, q) := ⟨_, _, rfl⟩
    obtain ⟨t', q', hq'⟩ : ∃ t' q', ofR l1 = (t', q') := ⟨_, _, rfl⟩
    by_cases hne : q ≠ 0 ∨ (q = 0 ∧ q' ≠ 0)
    · exact walkBad a0 len0 cap0 l0 a1 len1 cap1 l1 w w0 n0 w1 n1 (by omega) (by omega) t q hq t' q' hq' hne
    · obtain rfl : q = 0 := by omega
      obtain rfl : q' = 0 := by omega
      obtain ⟨na, rfl, hna, hpa, _⟩ := of_yes hq
      obtain ⟨nb, rfl, hnb, hpb, _⟩ := of_yes hq'
      refine walkIn a0 len0 cap0 na a1 len1 cap1 nb w w0 (hna.trans n0) w1 (hnb.trans n1) (by omega) (by omega) t hq t' hq' ?_
      obtain ⟨e1, e2⟩ := (pts_iff _ _).1 hpa
      obtain ⟨e3, e4⟩ := (pts_iff _ _).1 hpb
      rw [less_lex, ByteArray.toList_eq, ByteArray.toList_eq, e1, e3]
      exact decide_eq_decide.2 (order na nb e2 e4)

set_option maxRecDepth 100000 in
theorem lifted (os : Os) (started : os.Started) (H : Type) (enc : TypeId × Value → H) :
    ReturnsInHanded {} Try.checked os 7 .any (Rows.textOrderSpec.pre6 enc Try.prog Try.f7 Rows.textOrderRow.domain false) (Rows.textOrderSpec.post enc Try.prog Try.f7 false true false false) := by
  refine returnsInHanded_of_change (C := Try.checked) own started (by kernel_rfl) Try.func7
    (ChangeSpec.witness6 (enc := enc) (C := Try.checked) false ⟨#[], #[.slice none 0 0, .slice none 0 0], []⟩ 8 (by kernel_rfl) (by kernel_rfl) (by kernel_rfl) (by kernel_rfl)) ?_
  intro W base args ds gs before hval0 hW hcnd _
  have hval : ∀ (j : Nat) t v, Try.f7.params[j]? = some t → args[j]? = some v → Value.okWide Try.prog W .any base t v := hval0
  have hW' := hW
  obtain ⟨p, q, hA0, hV, rfl, hfz, hnd⟩ := hW
  have hA : DataW.TrodAll enc Try.prog W 0 (fun _ => true) true Try.f7.params.toList args.toList ds p := hA0
  rw [Try.params7] at hA hval
  obtain ⟨v0, vs0, d0, ds0, p0, q0, hargs, rfl, rfl, h0, r0⟩ := trodAll_cons hA
  obtain ⟨v1, vs1, d1, ds1, p1, q1, rfl, rfl, rfl, h1, r1⟩ := trodAll_cons r0
  obtain ⟨rfl, rfl, rfl⟩ := trodAll_nil r1
  obtain rfl : args = #[v0, v1] := by cases args; simp_all
  obtain ⟨rfl, rfl⟩ := trodVars_none hV
  obtain ⟨a0, len0, cap0, rfl⟩ := okWide_slice Try.underlying28 (hval 0 28 v0 rfl rfl)
  have k0 := h0
  have lt0 : ∀ x ∈ p0, x.block < W.heap.size := by obtain ⟨m, hm⟩ := k0; exact DataW.trod_lt m _ _ _ hm
  obtain ⟨l0, w0, n0, c0, m0, z0⟩ : ∃ l : List Int, RdZ W W.heap.size a0 l ∧ l.length = len0 ∧ len0 ≤ cap0 ∧ cap0 ≤ maxLen ∧ (a0 = none → cap0 = 0) := by
    obtain ⟨fuel, hf⟩ := h0
    rcases open_ints Try.underlying28 Try.underlying3 (by kernel_rfl) hf with ⟨hcs, _⟩ | ⟨x, l, c, zs, hcs, _, hl, hm, hz, _, hcell, hwz⟩
    · simp [Value.cells] at hcs
      obtain ⟨rfl, rfl, rfl⟩ := hcs
      exact ⟨[], RdG.nil _ _ _, rfl, Nat.le_refl _, Nat.zero_le _, fun _ => rfl⟩
    · simp [Value.cells] at hcs
      obtain ⟨rfl, rfl, rfl⟩ := hcs
      have hz' : zs.length = cap0 := by simpa using hz
      obtain ⟨l, hr, hn⟩ := rdZ_of_row hl hz' hcell hwz
      exact ⟨l, hr, hn, hl, hm, fun h => by cases h⟩
  obtain ⟨a1, len1, cap1, rfl⟩ := okWide_slice Try.underlying28 (hval 1 28 v1 rfl rfl)
  have k1 := h1
  have lt1 : ∀ x ∈ p1, x.block < W.heap.size := by obtain ⟨m, hm⟩ := k1; exact DataW.trod_lt m _ _ _ hm
  obtain ⟨l1, w1, n1, c1, m1, z1⟩ : ∃ l : List Int, RdZ W W.heap.size a1 l ∧ l.length = len1 ∧ len1 ≤ cap1 ∧ cap1 ≤ maxLen ∧ (a1 = none → cap1 = 0) := by
    obtain ⟨fuel, hf⟩ := h1
    rcases open_ints Try.underlying28 Try.underlying3 (by kernel_rfl) hf with ⟨hcs, _⟩ | ⟨x, l, c, zs, hcs, _, hl, hm, hz, _, hcell, hwz⟩
    · simp [Value.cells] at hcs
      obtain ⟨rfl, rfl, rfl⟩ := hcs
      exact ⟨[], RdG.nil _ _ _, rfl, Nat.le_refl _, Nat.zero_le _, fun _ => rfl⟩
    · simp [Value.cells] at hcs
      obtain ⟨rfl, rfl, rfl⟩ := hcs
      have hz' : zs.length = cap1 := by simpa using hz
      obtain ⟨l, hr, hn⟩ := rdZ_of_row hl hz' hcell hwz
      exact ⟨l, hr, hn, hl, hm, fun h => by cases h⟩
  clear hA0 hval0
  refine (walk a0 len0 cap0 l0 a1 len1 cap1 l1 W w0 n0 c0 m0 z0 w1 n1 c1 m1 z1).mono fun e W' ⟨he, bel⟩ => ?_
  subst he
  exact ⟨_, rfl, _, _, _, [], _, [], hW', trodAll_mk1 (shut_bool Try.underlying4 _), (trodAll_cons_mk (Below.trod laidOut (by kernel_rfl) (of_decide_eq_true (by kernel_rfl)) k0 bel lt0) (trodAll_cons_mk (Below.trod laidOut (by kernel_rfl) (of_decide_eq_true (by kernel_rfl)) k1 bel lt1) trodAll_mk0)), rfl, bel.frame _, fun h => by cases h⟩

theorem over : Rows.textOrderRow.holds Try.pinned (OpenSpec.ofChange Rows.textOrderSpec) :=
  OpenClaim.holds_of_wide 7 Try.f7 rfl rfl rfl rfl rfl rfl rfl ⟨rfl, rfl, rfl, rfl, rfl⟩ rfl rfl rfl rfl rfl (by kernel_rfl) Try.func7 (by kernel_rfl)
    (of_decide_eq_true (by kernel_rfl)) (by unfold Func.isWrapper; first | (rw [if_pos (by decide +kernel)]; kernel_rfl) | (rw [if_neg (by decide +kernel)]; exact ⟨rfl, rfl⟩))
    (fun os started H enc _ => lifted os started H enc)

theorem proved : Rows.TextOrderSaid := over
end Go.Proofs.Ytjpebnnifbnjjaa.textOrder
