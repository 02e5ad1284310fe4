/-
  A list's parts put together again with commas and blanks are that list, and two lists with a comma between are both; for every two texts, and no condition besides.
-/
import Derived.Test.YtncklfmpnbdmcaaAscW
import Derived.Deep.RegionHeld3
import Derived.RegionTactic
import Derived.ChangeAlike
import Derived.WalkKit
import Derived.ProofKit
import Derived.OpenShut
import Derived.ShutString
import Derived.ChangeOld
import Derived.Below
namespace Go.Proofs.Ytncklfmpnbdmcaa.asciiLists
open Go.ChangeShapes Go.WideShapes Go.ChangeAt Go.RowKit
open Go.ChangeMaps (open_string shut_string)
open Hx As
set_option linter.unusedVariables false

theorem own : ownKnob Try.prog.godebug = none := by kernel_rfl
theorem laidOut : laidOutB Try.prog = true := by kernel_rfl

theorem below_drw {w w' : World} (h : Below w.drew.heap.size w.drew w') : Below w.heap.size w w' := (Below.refl w.heap.size w).drew.trans h
/-- An operation whose guard lets it be done is done as without its guard. -/
theorem wpList_guarded {P : Program} {ops : Array Oper} {Q : Exit → Act → World → Prop} {a : Act} {w : World} {rest : List Oper} {o : Oper} (hw : Region.wanted o (yielded ops a.tmps) = true) (h : wpList P ops Q ({ o with guard := none } :: rest) a w) : wpList P ops Q (o :: rest) a w := by
  rw [wpList] at h ⊢
  rw [if_pos hw]
  rw [if_pos (show Region.wanted { o with guard := none } (yielded ops a.tmps) = true from rfl)] at h
  exact h
theorem tog_len (l : List (List UInt8)) (h : ∀ x ∈ l, x.length ≤ 1000) : (tog l).length ≤ l.length * 1004 := by
  induction l with
  | nil => simp [tog]
  | cons x l ih =>
    have h1 := h x (by simp)
    have h2 := ih (fun y hy => h y (by simp [hy]))
    simp only [tog, List.length_append, List.length_cons, List.length_nil] at *
    omega
theorem part_len (l x : List UInt8) (h : x ∈ parts l) : x.length ≤ l.length := by
  unfold parts at h
  rw [List.mem_filterMap] at h
  obtain ⟨p, hp, hpx⟩ := h
  unfold aPart at hpx
  split at hpx
  · cases hpx
  · cases hpx
    rw [lows_length]
    exact Nat.le_trans (trim_len p) (cut_mem l p hp)
set_option maxHeartbeats 1000000 in
set_option maxRecDepth 100000 in
theorem walkOut (a b : ByteArray) (w : World) (h : 1000 < a.size ∨ (a.size ≤ 1000 ∧ 1000 < b.size)) :
    Calls Try.prog 7 #[.string a, .string b] w fun e w' => e = .returned (.bool true) ∧ Below w.heap.size w w' := by
  rcases h with h | ⟨h, h2⟩
  · have da : decide ((1000 : Int) < (a.size : Int)) = true := by simp; omega
    have fa : 1000 < a.size := by omega
    clear h
    go_enter Try.func7, Try.ntmps7
    go_wp2_with (first
      | (go_at_call 10; (with_reducible refine (alive7 w).mono ?_); rintro e w1 ⟨rfl, hb1⟩)
      | fail)
    go_ret
    exact ⟨rfl, hb1⟩
  · have da : decide ((1000 : Int) < (a.size : Int)) = false := by simp; omega
    have fa : ¬ 1000 < a.size := by omega
    have db : decide ((1000 : Int) < (b.size : Int)) = true := by simp; omega
    have fb : 1000 < b.size := by omega
    clear h h2
    go_enter Try.func7, Try.ntmps7
    go_wp2_with (first
      | (go_at_call 10; (with_reducible refine (alive7 w).mono ?_); rintro e w1 ⟨rfl, hb1⟩)
      | fail)
    go_ret
    exact ⟨rfl, hb1⟩
set_option maxHeartbeats 1000000 in
set_option maxRecDepth 100000 in
theorem walkErrA (a b : ByteArray) (qa : Int) (hqa : (listE a.data.toList : Int) = qa) (ka : qa ≠ 0) (lb : List ByteArray) (nb : Nat) (hlb : listS b = lb) (hnb : lb.length = nb) (hqb : (listE b.data.toList : Int) = 0) (w : World) (ha : a.size ≤ 1000) (hb : b.size ≤ 1000) :
    Calls Try.prog 7 #[.string a, .string b] w fun e w' => e = .returned (.bool true) ∧ Below w.heap.size w w' := by
  have HA : Hid (a.size ≤ 1000000) := Lib.hid (by omega)
  have HB : Hid (b.size ≤ 1000000) := Lib.hid (by omega)
  have da : decide ((1000 : Int) < (a.size : Int)) = false := by simp; omega
  have db : decide ((1000 : Int) < (b.size : Int)) = false := by simp; omega
  have fa : ¬ 1000 < a.size := by omega
  have fb : ¬ 1000 < b.size := by omega
  have HQa := Lib.hid hqa
  have HLa : Hid (listS a = []) := Lib.hid (listS_nil a (by omega))
  have xa : (qa == 0) = false := by simpa using ka
  have ya : (qa != 0) = true := by simpa using ka
  clear hqa ka
  have HQb := Lib.hid hqb
  have HLb := Lib.hid hlb
  have HNb := Lib.hid hnb
  clear hqb hlb hnb
  clear ha hb
  go_enter Try.func7, Try.ntmps7
  go_wp2_with (first
    | (go_at_call 10; (with_reducible refine (alive7 w).mono ?_); rintro e w1 ⟨rfl, hb1⟩; have hB1 := hb1)
    | (go_at_call 8; (with_reducible refine (list7 a [] 0 qa w1 HA.out HLa.out rfl HQa.out).mono ?_); rintro e w2 ⟨hb2, A1, c1, rfl, hz1, hr1⟩; have hB2 := stp hB1 hb2; clear hz1 hr1)
    | (go_at_call 8; (with_reducible refine (list7 b lb nb 0 w2 HB.out HLb.out HNb.out HQb.out).mono ?_); rintro e w3 ⟨hb3, A2, c2, rfl, hz2, hr2⟩; have hB3 := stp hB2 hb3; clear hz2 hr2)
    | fail)
  go_ret
  exact ⟨rfl, hB3⟩
set_option maxHeartbeats 1000000 in
set_option maxRecDepth 100000 in
theorem walkErrB (a b : ByteArray) (la : List ByteArray) (na : Nat) (hla : listS a = la) (hna : la.length = na) (hqa : (listE a.data.toList : Int) = 0) (qb : Int) (hqb : (listE b.data.toList : Int) = qb) (kb : qb ≠ 0) (w : World) (ha : a.size ≤ 1000) (hb : b.size ≤ 1000) :
    Calls Try.prog 7 #[.string a, .string b] w fun e w' => e = .returned (.bool true) ∧ Below w.heap.size w w' := by
  have HA : Hid (a.size ≤ 1000000) := Lib.hid (by omega)
  have HB : Hid (b.size ≤ 1000000) := Lib.hid (by omega)
  have da : decide ((1000 : Int) < (a.size : Int)) = false := by simp; omega
  have db : decide ((1000 : Int) < (b.size : Int)) = false := by simp; omega
  have fa : ¬ 1000 < a.size := by omega
  have fb : ¬ 1000 < b.size := by omega
  have HQa := Lib.hid hqa
  have HLa := Lib.hid hla
  have HNa := Lib.hid hna
  clear hqa hla hna
  have HQb := Lib.hid hqb
  have HLb : Hid (listS b = []) := Lib.hid (listS_nil b (by omega))
  have xb : (qb == 0) = false := by simpa using kb
  have yb : (qb != 0) = true := by simpa using kb
  clear hqb kb
  clear ha hb
  go_enter Try.func7, Try.ntmps7
  go_wp2_with (first
    | (go_at_call 10; (with_reducible refine (alive7 w).mono ?_); rintro e w1 ⟨rfl, hb1⟩; have hB1 := hb1)
    | (go_at_call 8; (with_reducible refine (list7 a la na 0 w1 HA.out HLa.out HNa.out HQa.out).mono ?_); rintro e w2 ⟨hb2, A1, c1, rfl, hz1, hr1⟩; have hB2 := stp hB1 hb2; clear hz1 hr1)
    | (go_at_call 8; (with_reducible refine (list7 b [] 0 qb w2 HB.out HLb.out rfl HQb.out).mono ?_); rintro e w3 ⟨hb3, A2, c2, rfl, hz2, hr2⟩; have hB3 := stp hB2 hb3; clear hz2 hr2)
    | fail)
  go_ret
  exact ⟨rfl, hB3⟩
set_option maxHeartbeats 1000000 in
set_option maxRecDepth 100000 in
theorem walkErrC (a b : ByteArray) (qa : Int) (hqa : (listE a.data.toList : Int) = qa) (ka : qa ≠ 0) (qb : Int) (hqb : (listE b.data.toList : Int) = qb) (kb : qb ≠ 0) (w : World) (ha : a.size ≤ 1000) (hb : b.size ≤ 1000) :
    Calls Try.prog 7 #[.string a, .string b] w fun e w' => e = .returned (.bool true) ∧ Below w.heap.size w w' := by
  have HA : Hid (a.size ≤ 1000000) := Lib.hid (by omega)
  have HB : Hid (b.size ≤ 1000000) := Lib.hid (by omega)
  have da : decide ((1000 : Int) < (a.size : Int)) = false := by simp; omega
  have db : decide ((1000 : Int) < (b.size : Int)) = false := by simp; omega
  have fa : ¬ 1000 < a.size := by omega
  have fb : ¬ 1000 < b.size := by omega
  have HQa := Lib.hid hqa
  have HLa : Hid (listS a = []) := Lib.hid (listS_nil a (by omega))
  have xa : (qa == 0) = false := by simpa using ka
  have ya : (qa != 0) = true := by simpa using ka
  clear hqa ka
  have HQb := Lib.hid hqb
  have HLb : Hid (listS b = []) := Lib.hid (listS_nil b (by omega))
  have xb : (qb == 0) = false := by simpa using kb
  have yb : (qb != 0) = true := by simpa using kb
  clear hqb kb
  clear ha hb
  go_enter Try.func7, Try.ntmps7
  go_wp2_with (first
    | (go_at_call 10; (with_reducible refine (alive7 w).mono ?_); rintro e w1 ⟨rfl, hb1⟩; have hB1 := hb1)
    | (go_at_call 8; (with_reducible refine (list7 a [] 0 qa w1 HA.out HLa.out rfl HQa.out).mono ?_); rintro e w2 ⟨hb2, A1, c1, rfl, hz1, hr1⟩; have hB2 := stp hB1 hb2; clear hz1 hr1)
    | (go_at_call 8; (with_reducible refine (list7 b [] 0 qb w2 HB.out HLb.out rfl HQb.out).mono ?_); rintro e w3 ⟨hb3, A2, c2, rfl, hz2, hr2⟩; have hB3 := stp hB2 hb3; clear hz2 hr2)
    | fail)
  go_ret
  exact ⟨rfl, hB3⟩
set_option maxHeartbeats 8000000 in
set_option maxRecDepth 100000 in
theorem walkIn (a b v0 v : ByteArray) (la lb : List ByteArray) (na nb ns : Nat) (w : World) (ha : a.size ≤ 1000) (hb : b.size ≤ 1000) (hqa : listE a.data.toList = 0) (hqb : listE b.data.toList = 0) (hla : listS a = la) (hlb : listS b = lb) (hna : la.length = na) (hnb : lb.length = nb) (hns : na + nb = ns) (hv0 : a ++ ⟨#[44]⟩ = v0) (hv : v0 ++ b = v) :
    Calls Try.prog 7 #[.string a, .string b] w fun e w' => e = .returned (.bool true) ∧ Below w.heap.size w w' := by
  have HA : Hid (a.size ≤ 1000000) := Lib.hid (by omega)
  have HB : Hid (b.size ≤ 1000000) := Lib.hid (by omega)
  have da : decide ((1000 : Int) < (a.size : Int)) = false := by simp; omega
  have db : decide ((1000 : Int) < (b.size : Int)) = false := by simp; omega
  have fa : ¬ 1000 < a.size := by omega
  have fb : ¬ 1000 < b.size := by omega
  obtain ⟨i0, hi, hzz0, hzz1, hzz2⟩ := info_parts infoS
  have HI := Lib.hid hi
  have HY0 := Lib.hid hzz0
  have HY1 := Lib.hid hzz1
  have HY2 := Lib.hid hzz2
  obtain ⟨ta, hta⟩ : ∃ ta, parts a.data.toList = ta := ⟨_, rfl⟩
  obtain ⟨tb, htb⟩ : ∃ tb, parts b.data.toList = tb := ⟨_, rfl⟩
  have hma := listS_map a hqa
  have hmb := listS_map b hqb
  rw [hla, hta] at hma
  rw [hlb, htb] at hmb
  have hoka := listE_ok hqa
  have hokb := listE_ok hqb
  rw [hta] at hoka
  rw [htb] at hokb
  have hnta : ta.length = na := by rw [← hna, hma, List.length_map]
  have hntb : tb.length = nb := by rw [← hnb, hmb, List.length_map]
  have hna16 : na ≤ 16 := by rw [← hnta]; exact hoka.1
  have hnb16 : nb ≤ 16 := by rw [← hntb]; exact hokb.1
  have hvl : v.data.toList = a.data.toList ++ 44 :: b.data.toList := by rw [← hv, ← hv0]; simp
  have hv0s : v0.size = a.size + 1 := by rw [← ba_len7, ← hv0]; simp
  have hvs : v.size = a.size + 1 + b.size := by rw [← ba_len7, hvl, List.length_append, List.length_cons, ba_len7, ba_len7]; omega
  have hEv : listE v.data.toList = if 16 < ns then 4 else 0 := by rw [hvl, listE_app _ _ hqa hqb, hta, htb, hnta, hntb, hns]
  have hPv : parts v.data.toList = ta ++ tb := by rw [hvl, parts_app, hta, htb]
  have hcat1 : ∀ W, (Op.stringOp .add a ⟨#[44]⟩).run Try.prog W = .ok (.string v0) W := fun W => by rw [run_string_add_sum W a ⟨#[44]⟩ (by show a.size + 1 ≤ _; omega), hv0]
  have hcat2 : ∀ W, (Op.stringOp .add v0 b).run Try.prog W = .ok (.string v) W := fun W => by rw [run_string_add_sum W v0 b (by omega), hv]
  have HPZ : Hid (∀ x ∈ ta, x.length ≤ 1000) := fun x hx => by rw [← hta] at hx; exact Nat.le_trans (part_len _ x hx) (by rw [ba_len7]; exact ha)
  have HTA : Hid (∀ x ∈ ta, isTok x = true ∧ lows x = x) := hoka.2
  have HNT := Lib.hid hnta
  have HNTB := Lib.hid hntb
  have HMA := Lib.hid hma
  have HMB := Lib.hid hmb
  have HEV := Lib.hid hEv
  have HPV := Lib.hid hPv
  have HVS : Hid (v.size ≤ 1000000) := Lib.hid (by omega)
  have HNS := Lib.hid hns
  have HN16 : Hid (na ≤ 16 ∧ nb ≤ 16) := ⟨hna16, hnb16⟩
  have g1 : IntKind.i64.wrap ((na : Int) + (nb : Int)) = (ns : Int) := by rw [IntWalk.i64_in _ (by omega)]; omega
  have HQa : Hid ((listE a.data.toList : Int) = 0) := by show _ = _; rw [hqa]; rfl
  have HQb : Hid ((listE b.data.toList : Int) = 0) := by show _ = _; rw [hqb]; rfl
  have HLa := Lib.hid hla
  have HLb := Lib.hid hlb
  have HNa := Lib.hid hna
  have HNb := Lib.hid hnb
  clear ha hb hqa hqb hla hlb hna hnb hns hi hzz0 hzz1 hzz2 hta htb hma hmb hoka hokb hnta hntb hna16 hnb16 hvl hv0s hvs hEv hPv hv0 hv
  go_enter Try.func7, Try.ntmps7
  go_wp2_with (first
    | (go_at_call 10; (with_reducible refine (alive7 w).mono ?_); rintro e w1 ⟨rfl, hb1⟩; have hB1 := hb1)
    | (go_at_call 8; (with_reducible refine (list7 a la na 0 w1 HA.out HLa.out HNa.out HQa.out).mono ?_); rintro e w2 ⟨hb2, A1, c1, rfl, hz1, hr1⟩; have hB2 := stp hB1 hb2; have HR1 := Lib.hid hr1; have HZ1 := Lib.hid hz1; clear hz1 hr1)
    | (go_at_call 8; (with_reducible refine (list7 b lb nb 0 w2 HB.out HLb.out HNb.out HQb.out).mono ?_); rintro e w3 ⟨hb3, A2, c2, rfl, hz2, hr2⟩; have hB3 := stp hB2 hb3; have HR2 := Lib.hid hr2; have HZ2 := Lib.hid hz2; clear hz2 hr2; have HR13 := Lib.hid (HR1.out.on hb3))
    | fail)
  have HW3 := Lib.hid hB3
  clear hb1 hb2 hb3 hB1 hB2 hB3
  obtain ⟨u0, hu0⟩ : ∃ u0, mkB ([32, 44] ++ tog (ta.take 0)) = u0 := ⟨_, rfl⟩
  have hu0' : (⟨#[32, 44]⟩ : ByteArray) = u0 := hu0
  have HU0 := Lib.hid hu0
  rw [hu0']
  clear hu0 hu0'
  go_loopg [10, 11] na (fun gg x i wr => ∃ (k : Nat) (u : ByteArray), k + gg = na ∧ i = .int .i64 k ∧ x = .string u ∧ mkB ([32, 44] ++ tog (ta.take k)) = u ∧ Below w3.heap.size w3 wr)
  case atStart => exact ⟨0, u0, by omega, rfl, rfl, HU0.out, Below.refl _ _⟩
  case round =>
    obtain ⟨k, u, hk, rfl, rfl, hu, hbw⟩ := hrel
    have HU := Lib.hid hu
    have HBW := Lib.hid hbw
    have hn16 := HN16.out
    have husz : u.size ≤ 20000 := by
      rw [← hu, mkB_size, List.length_append]
      have := tog_len (ta.take k) (fun x hx => HPZ.out x (List.mem_of_mem_take hx))
      rw [List.length_take] at this
      have h2 : min k ta.length ≤ 16 := by rw [HNT.out]; omega
      have h3 : min k ta.length * 1004 ≤ 16 * 1004 := Nat.mul_le_mul_right _ h2
      simp only [List.length_cons, List.length_nil]
      omega
    by_cases hlt : k < na
    · have hkt : k < ta.length := by rw [HNT.out]; exact hlt
      obtain ⟨g, o, rfl, hg, hc⟩ := HR13.out (by rw [HNa.out]; omega)
      have hka : k < la.length := by rw [HNa.out]; exact hlt
      have hcell0 := (hbw.cell (p := ⟨g, o + k, none⟩) hg).trans (hc k hka)
      obtain ⟨p, hp⟩ : ∃ p, ta[k]'hkt = p := ⟨_, rfl⟩
      obtain ⟨xb, hxb⟩ : ∃ xb, la[k]'hka = xb := ⟨_, rfl⟩
      rw [hxb] at hcell0
      have hpk : ta[k]? = some p := by rw [List.getElem?_eq_getElem hkt, hp]
      have hxm : xb = mkB p := by
        have e : la[k]? = some xb := by rw [List.getElem?_eq_getElem hka, hxb]
        rw [HMA.out, List.getElem?_map, hpk] at e
        simpa using e.symm
      have hcell : wr.cell? ⟨g, o + k, none⟩ = some (.string xb) := hcell0
      obtain ⟨htk, hlw⟩ := HTA.out p (List.mem_of_getElem? hpk)
      have HTK : Hid (isTok xb.data.toList = true) := by show _ = _; rw [hxm]; exact htk
      have HLW : Hid (lowS xb = xb) := by
        show _ = _
        refine ba_ext7 ?_
        rw [hxm]
        exact hlw
      have hxz : xb.size ≤ 1000 := by rw [hxm, mkB_size]; exact HPZ.out p (List.mem_of_getElem? hpk)
      have HXZ : Hid (xb.size ≤ 1000000) := Lib.hid (by omega)
      have bk : (0 : Int) ≤ (k : Int) ∧ (k : Int) < (na : Int) := by omega
      obtain ⟨u1, hu1⟩ : ∃ u1, u ++ (⟨#[9]⟩ : ByteArray) = u1 := ⟨_, rfl⟩
      obtain ⟨u2, hu2⟩ : ∃ u2, u1 ++ xb = u2 := ⟨_, rfl⟩
      obtain ⟨u3, hu3⟩ : ∃ u3, u2 ++ (⟨#[32, 44, 32]⟩ : ByteArray) = u3 := ⟨_, rfl⟩
      have hz1 : u1.size = u.size + 1 := by rw [← ba_len7, ← ba_len7, ← hu1]; simp
      have hz2 : u2.size = u1.size + xb.size := by rw [← ba_len7, ← ba_len7, ← ba_len7, ← hu2]; simp
      have hs1 : ∀ W, (Op.stringOp .add u ⟨#[9]⟩).run Try.prog W = .ok (.string u1) W := fun W => by rw [run_string_add_sum W u ⟨#[9]⟩ (by show u.size + 1 ≤ _; omega), hu1]
      have hs2 : ∀ W, (Op.stringOp .add u1 xb).run Try.prog W = .ok (.string u2) W := fun W => by rw [run_string_add_sum W u1 xb (by omega), hu2]
      have hs3 : ∀ W, (Op.stringOp .add u2 ⟨#[32, 44, 32]⟩).run Try.prog W = .ok (.string u3) W := fun W => by rw [run_string_add_sum W u2 ⟨#[32, 44, 32]⟩ (by show u2.size + 3 ≤ _; omega), hu3]
      have HU3 : Hid (mkB ([32, 44] ++ tog (ta.take (k + 1))) = u3) := by
        show _ = _
        refine ba_ext7 ?_
        obtain ⟨hk2, e2⟩ := List.getElem?_eq_some_iff.1 hpk
        rw [← hu3, ← hu2, ← hu1, ← hu, hxm, mkB_list, List.take_succ_eq_append_getElem hk2, e2, tog_snoc]
        simp [mkB]
      have hgw : g < wr.heap.size := Nat.lt_of_lt_of_le hg hbw.size
      have HGW := Lib.hid hgw
      have HC := Lib.hid hcell
      clear hu hbw husz hc hcell0 hp hxb hpk hxm htk hlw hxz hu1 hu2 hu3 hz1 hz2 hka hkt hgw
      go_wp2_with fail
      go_region_held3 (fun w' => w'.cell? ⟨g, o + k, none⟩ = some (.string xb)) (first | assumption | (go_keep; done)) ((first
        | (go_at_call 9; (with_reducible refine (token7 xb true wr.drew HXZ.out HTK.out).mono ?_); rintro e w5 ⟨rfl, hb5⟩; have hB5 := below_drw hb5; have hc5 := (hB5.cell (p := ⟨g, o + k, none⟩) HGW.out).trans HC.out)
        | (go_at_call 15; (with_reducible refine (lower7 xb xb w5 HXZ.out HLW.out).mono ?_); rintro e w6 ⟨rfl, hb6⟩; have hB6 := stp hB5 hb6; have hc6 := (hB6.cell (p := ⟨g, o + k, none⟩) HGW.out).trans HC.out)
        | fail))
      go_wp2_with fail
      go_roundg (gk - 1)
      case rel => exact ⟨k + 1, u3, by omega, by go_num, rfl, HU3.out, stp HBW.out hB6⟩
      case measure => omega
    · obtain rfl : na = k := by omega
      have htk : ta.take na = ta := List.take_of_length_le (by rw [HNT.out]; exact Nat.le_refl _)
      rw [htk] at hu
      have HUE : Hid (listE u.data.toList = 0) := by
        show _ = _
        rw [← hu]
        exact listE_tog ta HTA.out (by rw [HNT.out]; omega)
      have HUL : Hid (listS u = la) := by
        show _ = _
        rw [listS_map u HUE.out, ← hu, mkB_list, parts_all ta HTA.out]
        exact HMA.out.symm
      have HUZ : Hid (u.size ≤ 1000000) := Lib.hid (by omega)
      have HN2 : Hid (na ≤ 1000000 ∧ ns ≤ 1000000) := by have := HNS.out; exact ⟨by omega, by omega⟩
      have HR1w := Lib.hid (HR13.out.on HBW.out)
      have HR2w := Lib.hid (HR2.out.on HBW.out)
      have HWW := Lib.hid (stp HW3.out HBW.out)
      clear hu hbw husz htk
      by_cases h16 : 16 < ns
      · have d1 : decide ((16 : Int) < (ns : Int)) = true := by simp; omega
        have HV4 : Hid ((listE v.data.toList : Int) = 4) := by show _ = _; rw [HEV.out, if_pos h16]; rfl
        have HVL : Hid (listS v = []) := Lib.hid (listS_nil v (by rw [HEV.out, if_pos h16]; decide))
        go_wp2_with (first
          | (go_at_call 8; (with_reducible refine (list7 v [] 0 4 wr HVS.out HVL.out rfl HV4.out).mono ?_); rintro e v1 ⟨hb1, A3, c3, rfl, hz3, hr3⟩; have hB1 := hb1; clear hz3 hr3; have HR1v := Lib.hid (HR1w.out.on hb1))
          | (go_at_call 11; (with_reducible refine (lists_yes u A1 na c1 la v1 HUZ.out HUE.out HUL.out HNa.out HN2.out.1 HR1v.out).mono ?_); rintro e v2 ⟨rfl, hb2⟩; have hB2 := stp hB1 hb2)
          | fail)
        go_ret
        exact ⟨rfl, stp HWW.out hB2⟩
      · have d1 : decide ((16 : Int) < (ns : Int)) = false := by simp; omega
        have hv0 : listE v.data.toList = 0 := by rw [HEV.out, if_neg h16]
        have HV4 : Hid ((listE v.data.toList : Int) = 0) := by show _ = _; rw [hv0]; rfl
        have HVL : Hid (listS v = la ++ lb) := by
          show _ = _
          rw [listS_map v hv0, HPV.out, List.map_append, ← HMA.out, ← HMB.out]
        have HVN : Hid ((la ++ lb).length = ns) := by
          show _ = _
          rw [List.length_append, HNa.out, HNb.out, HNS.out]
        clear hv0
        go_wp2_with (first
          | (go_at_call 8; (with_reducible refine (list7 v (la ++ lb) ns 0 wr HVS.out HVL.out HVN.out HV4.out).mono ?_); rintro e v1 ⟨hb1, A3, c3, rfl, hz3, hr3⟩; have hB1 := hb1; have HR3 := Lib.hid hr3; clear hz3 hr3; have HR1v := Lib.hid (HR1w.out.on hb1); have HR2v := Lib.hid (HR2w.out.on hb1))
          | (go_at_call 11; (with_reducible refine (lists_yes u A1 na c1 la v1 HUZ.out HUE.out HUL.out HNa.out HN2.out.1 HR1v.out).mono ?_); rintro e v2 ⟨rfl, hb2⟩; have hB2 := stp hB1 hb2; have HR1x := Lib.hid (HR1v.out.on hb2); have HR2x := Lib.hid (HR2v.out.on hb2); have HR3x := Lib.hid (HR3.out.on hb2); have HEE : Hid ((v2.alloc (.cells #[] 9)).ownsRow v2.heap.size 9 1 (.slice (some ⟨v2.heap.size, 0, none⟩) 0 0) 0 []) := Lib.hid (World.ownsRow_made v2 #[] 0 (Nat.le_refl _) (by decide) rfl); have hb7 := stpA (Below.refl v2.heap.size v2) (.cells #[] 9))
          | (at_builtin; refine wpList_guarded rfl ?_; refine wpList_append_rdg encS_one rfl (.tmp 131) (.tmp 132) 22 rfl v2.heap.size 9 i0 (.string ByteArray.empty) 16 Try.underlying22 HI.out HY0.out HY1.out HY2.out (by decide) rfl _ 0 _ rfl HEE.out v2.heap.size A1 na c1 la rfl (HR1x.out.below hb7) HNa.out HZ1.out (by have := HN2.out; omega) hb7.size ?_; intro x8 w8 hown8 hgr8; have HO8 := Lib.hid hown8; have hb8 := hb7.grown hgr8 hb7.size (fun g hg => (HEE.out.lt g hg).1); clear hown8 hgr8)
          | (at_builtin; refine wpList_guarded rfl ?_; refine wpList_append_rdg encS_one rfl (.tmp 133) (.tmp 134) 22 rfl v2.heap.size 9 i0 (.string ByteArray.empty) 16 Try.underlying22 HI.out HY0.out HY1.out HY2.out (by decide) rfl _ _ _ rfl HO8.out v2.heap.size A2 nb c2 lb rfl (HR2x.out.below hb8) HNb.out HZ2.out (by have := HN2.out; have := HN16.out; omega) hb8.size ?_; intro x9 w9 hown9 hgr9; have hb9 := hb8.grown hgr9 hb8.size (fun g hg => (HO8.out.lt g hg).1); rw [List.nil_append, Nat.zero_add, HNS.out, ← List.map_append] at hown9; obtain ⟨A9, c9, hv9, hz9, hr9, hl9⟩ := own_any hown9; subst hv9; have HR9 := Lib.hid hr9; clear hown9 hgr9 hr9 hz9 hl9)
          | (go_at_call 22; (with_reducible refine (rsameS A3 A9 ns ns c3 c9 (la ++ lb) (la ++ lb) true w9 (HR3x.out.on hb9) HR9.out HVN.out HVN.out ⟨HN2.out.2, HN2.out.2⟩ (decide_eq_true rfl)).mono ?_); rintro e w10 ⟨rfl, hb10⟩; have hB10 := stp hb9 hb10)
          | fail)
        go_ret
        exact ⟨rfl, stp HWW.out (stp hB2 hB10)⟩
theorem walk (a0 : ByteArray) (a1 : ByteArray) (w : World) (w0 : a0.size ≤ maxLen) (w1 : a1.size ≤ maxLen) :
    Calls Try.prog 7 #[.string a0, .string a1] w fun e w' => e = .returned (.bool true) ∧ Below w.heap.size w w' := by
  by_cases h : 1000 < a0.size ∨ (a0.size ≤ 1000 ∧ 1000 < a1.size)
  · exact walkOut a0 a1 w h
  · by_cases ha : listE a0.data.toList = 0
    · by_cases hb : listE a1.data.toList = 0
      · exact walkIn a0 a1 _ _ _ _ _ _ _ w (by omega) (by omega) ha hb rfl rfl rfl rfl rfl rfl rfl
      · exact walkErrB a0 a1 _ _ rfl rfl (by omega) _ rfl (by omega) w (by omega) (by omega)
    · by_cases hb : listE a1.data.toList = 0
      · exact walkErrA a0 a1 _ rfl (by omega) _ _ rfl rfl (by omega) w (by omega) (by omega)
      · exact walkErrC a0 a1 _ rfl (by omega) _ rfl (by omega) w (by omega) (by omega)

set_option maxRecDepth 100000 in
theorem lifted (os : Os) (started : os.Started) (H : Type) (enc : TypeId × Value → H) :
    ReturnsInHanded {} Try.checked os 7 .any (Rows.asciiListsSpec.pre6 enc Try.prog Try.f7 Rows.asciiListsRow.domain false) (Rows.asciiListsSpec.post enc Try.prog Try.f7 false true false false) := by
  refine returnsInHanded_of_change (C := Try.checked) own started (by kernel_rfl) Try.func7
    (ChangeSpec.witness6 (enc := enc) (C := Try.checked) false ⟨#[], #[.string ByteArray.empty, .string ByteArray.empty], []⟩ 8 (by kernel_rfl) (by kernel_rfl) (by kernel_rfl) (by kernel_rfl)) ?_
  intro W base args ds gs before hval0 hW hcnd _
  have hval : ∀ (j : Nat) t v, Try.f7.params[j]? = some t → args[j]? = some v → Value.okWide Try.prog W .any base t v := hval0
  have hW' := hW
  obtain ⟨p, q, hA0, hV, rfl, hfz, hnd⟩ := hW
  have hA : DataW.TrodAll enc Try.prog W 0 (fun _ => true) true Try.f7.params.toList args.toList ds p := hA0
  rw [Try.params7] at hA hval
  obtain ⟨v0, vs0, d0, ds0, p0, q0, hargs, rfl, rfl, h0, r0⟩ := trodAll_cons hA
  obtain ⟨v1, vs1, d1, ds1, p1, q1, rfl, rfl, rfl, h1, r1⟩ := trodAll_cons r0
  obtain ⟨rfl, rfl, rfl⟩ := trodAll_nil r1
  obtain rfl : args = #[v0, v1] := by cases args; simp_all
  obtain ⟨rfl, rfl⟩ := trodVars_none hV
  obtain ⟨a0, rfl, rfl, rfl, w0⟩ := open_string Try.underlying9 (hval 0 9 v0 rfl rfl) h0
  obtain ⟨a1, rfl, rfl, rfl, w1⟩ := open_string Try.underlying9 (hval 1 9 v1 rfl rfl) h1
  clear hA0 hval0
  refine (walk a0 a1 W w0 w1).mono fun e W' ⟨he, bel⟩ => ?_
  subst he
  exact ⟨_, rfl, _, _, _, [], _, [], hW', trodAll_mk1 (shut_bool Try.underlying4 _), (trodAll_cons_mk (shut_string Try.underlying9 w0) (trodAll_cons_mk (shut_string Try.underlying9 w1) trodAll_mk0)), rfl, bel.frame _, fun h => by cases h⟩

theorem over : Rows.asciiListsRow.holds Try.pinned (OpenSpec.ofChange Rows.asciiListsSpec) :=
  OpenClaim.holds_of_wide 7 Try.f7 rfl rfl rfl rfl rfl rfl rfl ⟨rfl, rfl, rfl, rfl, rfl⟩ rfl rfl rfl rfl rfl (by kernel_rfl) Try.func7 (by kernel_rfl)
    (of_decide_eq_true (by kernel_rfl)) (by unfold Func.isWrapper; first | (rw [if_pos (by decide +kernel)]; kernel_rfl) | (rw [if_neg (by decide +kernel)]; exact ⟨rfl, rfl⟩))
    (fun os started H enc _ => lifted os started H enc)

theorem proved : Rows.AsciiListsSaid := over
end Go.Proofs.Ytncklfmpnbdmcaa.asciiLists
