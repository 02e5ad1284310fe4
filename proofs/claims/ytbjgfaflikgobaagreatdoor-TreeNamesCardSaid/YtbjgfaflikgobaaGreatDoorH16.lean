/-
  Texts of one seat, put together: EscH, EscV.
-/
import Derived.Test.YtbjgfaflikgobaaGreatDoorH15
import Derived.Test.YtbjgfaflikgobaaGreatDoorH05
import Derived.Test.YtbjgfaflikgobaaGreatDoorH08
namespace Go.Proofs.YtbjgfaflikgobaaGreatDoor
open Go.RowKit
namespace Hx
open Tx Nmb Es
set_option linter.unusedVariables false
theorem rd_self (p : List UInt8) (h : ∀ x ∈ p, x ≠ 60 ∧ x ≠ 38) : rd p = some p := by
  induction p with
  | nil => rfl
  | cons c p ih =>
    have hc := h c (by simp)
    rw [rd_byte c p hc.1 hc.2, ih (fun x hx => h x (by simp [hx]))]
    rfl
theorem rd_plain (p r : List UInt8) (h : ∀ x ∈ p, x ≠ 60 ∧ x ≠ 38) : rd (p ++ r) = (rd r).map (p ++ ·) := rd_append p r p (rd_self p h)
theorem dg_no60 (n : Nat) : (60 : UInt8) ∉ dg n := dg_not n 60 (by decide)
theorem hexV_no60 {l : List UInt8} {n : Nat} (h : hexV l = some n) : (60 : UInt8) ∉ l := by
  intro hm
  obtain ⟨k, hk⟩ := List.mem_iff_getElem?.1 hm
  have h0 : hxv 60 = none := by decide
  unfold hexV at h
  split at h
  · cases h
  · rw [hexF_stop hk h0] at h; cases h
theorem numL_no60 {l : List UInt8} {n : Nat} (h : numL l = some n) : (60 : UInt8) ∉ l := by
  by_cases hd : l.head? = some 120
  · cases l with
    | nil => cases hd
    | cons c r =>
      cases hd
      rw [numL_x] at h
      rw [Option.filter_eq_some_iff] at h
      intro hm
      rcases List.mem_cons.1 hm with e | e
      · cases e
      · exact hexV_no60 h.1 e
  · rw [numL_d hd, Option.filter_eq_some_iff] at h
    rw [((readN_iff l n).1 h.1).1]
    exact dg_no60 n
theorem meantL_no60 {l y : List UInt8} (h : meantL l = some y) : (60 : UInt8) ∉ l := by
  unfold meantL at h
  split at h
  · rename_i e; subst e; decide
  split at h
  · rename_i e; subst e; decide
  split at h
  · rename_i e; subst e; decide
  split at h
  · rename_i e; subst e; decide
  split at h
  · rename_i e; subst e; decide
  split at h
  · rename_i r _ _ _ _ _
    rw [Option.map_eq_some_iff] at h
    obtain ⟨n, hn, _⟩ := h
    intro hm
    rcases List.mem_cons.1 hm with e | e
    · cases e
    · exact numL_no60 hn e
  · cases h
theorem rd_lt : ∀ (n : Nat) (l : List UInt8), l.length ≤ n → (60 : UInt8) ∈ l → rd l = none
  | _, [], _, h => by simp at h
  | 0, c :: l, hn, _ => by simp at hn
  | n + 1, c :: l, hn, h => by
    simp only [List.length_cons] at hn
    by_cases h60 : c = 60
    · rw [h60]; exact rd_bad l
    · have hl : (60 : UInt8) ∈ l := (List.mem_cons.1 h).resolve_left (fun e => h60 e.symm)
      by_cases h38 : c = 38
      · subst h38
        rw [rd_amp]
        cases hs : semi l with
        | none => rfl
        | some p =>
          obtain ⟨x, t⟩ := p
          obtain ⟨e, hx⟩ := semi_some l x t hs
          simp only
          cases hm : meantL x with
          | none => rfl
          | some y =>
            simp only
            have ht : (60 : UInt8) ∈ t := by
              rw [e] at hl
              rcases List.mem_append.1 hl with q | q
              · exact absurd q (meantL_no60 hm)
              · rcases List.mem_cons.1 q with q | q
                · cases q
                · exact q
            have hlen := congrArg List.length e
            simp only [List.length_append, List.length_cons] at hlen
            rw [rd_lt n t (by omega) ht]
            rfl
      · rw [rd_byte c l h60 h38, rd_lt n l (by omega) hl]
        rfl
/-- What replace answers. -/
def repR (l : List UInt8) : ByteArray × Int := match rd l with | some y => (⟨y.toArray⟩, 0) | none => (⟨#[]⟩, 80)
theorem ext_take (s : ByteArray) (i : Nat) : (s.extract 0 i).data.toList = s.data.toList.take i := by rw [extract_mid8]; simp
theorem ext_drop (s : ByteArray) (j : Nat) : (s.extract j s.size).data.toList = s.data.toList.drop j := by
  rw [extract_mid8]
  show (s.data.toList.drop j).take (s.size - j) = _
  exact List.take_of_length_le (by rw [List.length_drop, ba_len5]; exact Nat.le_refl _)
theorem repR_none {l : List UInt8} (h : rd l = none) : repR l = (⟨#[]⟩, 80) := by unfold repR; rw [h]
theorem repR_some {l y : List UInt8} (h : rd l = some y) : repR l = (⟨y.toArray⟩, 0) := by unfold repR; rw [h]
theorem refR_none {l : List UInt8} {t : ByteArray} {e : Int} (h : refR l = (t, e)) : (e = 0 ∧ meantL l = some t.data.toList) ∨ (e = 80 ∧ meantL l = none) := by
  unfold refR at h
  cases hm : meantL l with
  | none => rw [hm] at h; cases h; exact .inr ⟨rfl, rfl⟩
  | some y => rw [hm] at h; cases h; exact .inl ⟨rfl, rfl⟩
set_option maxHeartbeats 8000000 in
set_option maxRecDepth 100000 in
theorem rep8 (M G : Nat) (s t : ByteArray) (e : Int) (w : World) (hm : s.size ≤ 1000000) (h60 : (60 : UInt8) ∉ s.data.toList) (hr : Rdr M G w) (hE : Ev w) (h : repR s.data.toList = (t, e)) :
    Calls Tryz.prog 169 #[.string s, .func (.func 171) #[RdV M G] #[]] w fun e' w' => e' = .returned (.tuple #[.string t, .int .i64 e]) ∧ Below w.heap.size w w' := by
  have HEv : Hid (∀ W, Below w.heap.size w W → Ev W) := Lib.hid fun W hW => hE.to hW
  have HR : Hid (∀ W, Below w.heap.size w W → Rdr M G W) := Lib.hid fun W hW => hr.to hW
  have HH := Lib.hid h
  have H60 := Lib.hid h60
  have HSM := Lib.hid hm
  clear hr hE h h60 hm
  unfold RdV
  go_enter Tryz.func169, Tryz.ntmps169
  go_wp2_with fail
  go_loopg [0, 7, 8, 9, 10, 11, 12, 13, 14] s.size (fun gg vs v7 v8 v9 v10 v11 v12 v13 v14 wr => ∃ (x : ByteArray) (l : List UInt8), vs = .string x ∧ gg = x.size ∧ Hid (rd s.data.toList = (rd x.data.toList).map (l ++ ·)) ∧ l.length + 4 * x.size ≤ 4000000 ∧ x.size ≤ 1000000 ∧ Hid ((60 : UInt8) ∉ x.data.toList) ∧ Bld w.heap.size w.heap.size l wr ∧ Below w.heap.size w wr)
  case atStart => exact ⟨s, [], rfl, rfl, Lib.hid (by cases rd s.data.toList <;> simp), by have := HSM.out; simp; omega, HSM.out, H60, bld_new w, (Below.refl _ _).alloc (Nat.le_refl _) _⟩
  case round =>
    obtain ⟨x, l, rfl, rfl, hrd, hlen, hxm, hx60, hbl, hbw⟩ := hrel
    have HBL := Lib.hid hbl
    have HBW := Lib.hid hbw
    have HL := Lib.hid hlen
    have HXM := Lib.hid hxm
    have hsz := hbw.size
    have hxl : x.data.toList.length = x.size := ba_len5 x
    clear hbl hbw
    rcases ix_cases x.data.toList 38 with ⟨hi, hno⟩ | ⟨i, hi, hil, hsp, hno⟩
    · -- no reference any more
      have hself : rd x.data.toList = some x.data.toList := rd_self _ (fun c hc => ⟨fun q => hx60.out (q ▸ hc), fun q => hno (q ▸ hc)⟩)
      have hall : rd s.data.toList = some (l ++ x.data.toList) := by rw [hrd.out, hself]; rfl
      obtain ⟨y, hy⟩ : ∃ y : ByteArray, (⟨(l ++ x.data.toList).toArray⟩ : ByteArray) = y := ⟨_, rfl⟩
      have hyl : y.data.toList = l ++ x.data.toList := by rw [← hy]
      have hh := HH.out
      rw [repR_some hall, hy] at hh
      obtain ⟨rfl, rfl⟩ : y = t ∧ (0 : Int) = e := by cases hh; exact ⟨rfl, rfl⟩
      have HI := Lib.hid hi
      have HYL := Lib.hid hyl
      clear hi hno hself hall hy hyl hh hlen hxl hxm HH
      go_wp2_with (first
        | (go_at_call 101; (with_reducible refine (cut_no_38 x wr HI.out).mono ?_); rintro e1 w1 ⟨rfl, hb1⟩; have HB1 := Lib.hid hb1; have HBL1 : Hid (Bld w.heap.size w.heap.size l w1) := Lib.hid (HBL.out.below hb1); clear hb1)
        | (go_at_call 44; (with_reducible refine (bws w.heap.size w.heap.size l x w1 HBL1.out (by have := HL.out; omega) (bel_in HBW.out HB1.out hsz).size).mono ?_); rintro e2 w2 ⟨rfl, hbl2, hb2⟩; have HB2 := Lib.hid hb2; have HBL2 : Hid (Bld w.heap.size w.heap.size y.data.toList w2) := Lib.hid (by rw [HYL.out]; exact hbl2); clear hb2 hbl2)
        | (go_at_call 45; (with_reducible refine (bst w.heap.size w.heap.size y w2 HBL2.out (bel_in (bel_in HBW.out HB1.out hsz) HB2.out (Nat.le_refl _)).size).mono ?_); rintro e3 w3 ⟨rfl, hbl3, hb3⟩)
        | fail)
      go_ret2
      exact ⟨rfl, bel_in (bel_in (bel_in HBW.out HB1.out hsz) HB2.out (Nat.le_refl _)) hb3 (Nat.le_refl _)⟩
    · obtain ⟨p, hp⟩ : ∃ p, x.extract 0 i = p := ⟨_, rfl⟩
      obtain ⟨bh, hbh⟩ : ∃ bh, x.extract (i + 1) x.size = bh := ⟨_, rfl⟩
      have hpl : p.data.toList = x.data.toList.take i := by rw [← hp]; exact ext_take _ _
      have hbl' : bh.data.toList = x.data.toList.drop (i + 1) := by rw [← hbh]; exact ext_drop _ _
      have hps : p.size + bh.size + 1 = x.size := by
        rw [← ba_len5 p, ← ba_len5 bh, hpl, hbl', List.length_take, List.length_drop]
        omega
      have hdec : rd x.data.toList = (rd (38 :: bh.data.toList)).map (p.data.toList ++ ·) := by
        conv => lhs; rw [hsp]
        rw [← hbl', ← hpl]
        refine rd_plain _ _ fun c hc => ⟨fun q => hx60.out ?_, fun q => hno ?_⟩
        · rw [hpl] at hc; rw [← q]; exact List.mem_of_mem_take hc
        · rw [hpl] at hc; rw [← q]; exact hc
      have hb60 : (60 : UInt8) ∉ bh.data.toList := fun q => hx60.out (by rw [hbl'] at q; exact List.mem_of_mem_drop q)
      have CU : Hid (Calls Tryz.prog 101 #[.string x, .string ⟨#[38]⟩] wr (CutAt p bh true wr)) := cut_yes_38 x p bh i (i + 1) x.size wr hxm hi (by omega) rfl rfl hp hbh
      clear hi hno hp hbh hpl hbl' hsp hil hxl
      rcases ix_cases bh.data.toList 59 with ⟨hj, hno2⟩ | ⟨j, hj, hjl, hsp2, hno2⟩
      · -- no semicolon
        have hall : rd s.data.toList = none := by rw [hrd.out, hdec, rd_amp, semi_none _ hno2]; rfl
        have hh := HH.out
        rw [repR_none hall] at hh
        obtain ⟨rfl, rfl⟩ : (⟨#[]⟩ : ByteArray) = t ∧ (80 : Int) = e := by cases hh; exact ⟨rfl, rfl⟩
        have HJ := Lib.hid hj
        clear hj hno2 hall hh HH hdec hb60
        go_wp2_with (first
          | (go_at_call 101; (with_reducible refine (CU.out).mono ?_); rintro e1 w1 ⟨rfl, hb1⟩; have HB1 := Lib.hid hb1; have HBL1 : Hid (Bld w.heap.size w.heap.size l w1) := Lib.hid (HBL.out.below hb1); clear hb1)
          | (go_at_call 44; (with_reducible refine (bws w.heap.size w.heap.size l p w1 HBL1.out (by have := HL.out; omega) (bel_in HBW.out HB1.out hsz).size).mono ?_); rintro e2 w2 ⟨rfl, hbl2, hb2⟩; have HB2 := Lib.hid hb2; clear hb2 hbl2)
          | (go_at_call 101; (with_reducible refine (cut_no_59 bh w2 HJ.out).mono ?_); rintro e3 w3 ⟨rfl, hb3⟩; have HB3 := Lib.hid hb3; clear hb3)
          | fail)
        go_ret2
        exact ⟨rfl, bel_in (bel_in (bel_in HBW.out HB1.out hsz) HB2.out (Nat.le_refl _)) HB3.out (bel_in (bel_in HBW.out HB1.out hsz) HB2.out (Nat.le_refl _)).size⟩
      · obtain ⟨nm, hnm⟩ : ∃ nm, bh.extract 0 j = nm := ⟨_, rfl⟩
        obtain ⟨rs, hrs⟩ : ∃ rs, bh.extract (j + 1) bh.size = rs := ⟨_, rfl⟩
        have hnl : nm.data.toList = bh.data.toList.take j := by rw [← hnm]; exact ext_take _ _
        have hrl : rs.data.toList = bh.data.toList.drop (j + 1) := by rw [← hrs]; exact ext_drop _ _
        have hbs := ba_len5 bh
        have hns : nm.size + rs.size + 1 = bh.size := by
          rw [← ba_len5 nm, ← ba_len5 rs, hnl, hrl, List.length_take, List.length_drop]
          omega
        have hsem : semi bh.data.toList = some (nm.data.toList, rs.data.toList) := by
          rw [hnl, hrl]
          conv => lhs; rw [hsp2]
          exact semi_of _ _ hno2
        have hr60 : (60 : UInt8) ∉ rs.data.toList := fun q => hb60 (by rw [hrl] at q; exact List.mem_of_mem_drop q)
        have CV : Hid (∀ W, Calls Tryz.prog 101 #[.string bh, .string ⟨#[59]⟩] W (CutAt nm rs true W)) := fun W => cut_yes_59 bh nm rs j (j + 1) bh.size W (by omega) hj (by omega) rfl rfl hnm hrs
        obtain ⟨tp, er, hre⟩ : ∃ tp er, refR nm.data.toList = (tp, er) := ⟨_, _, rfl⟩
        have HRE := Lib.hid hre
        have HNM : Hid (nm.size ≤ 1000000) := Lib.hid (by omega)
        have CRF : Hid (∀ W, Below w.heap.size w W → Calls Tryz.prog 171 #[.agg #[.map (some M), .slice (some ⟨G, 0, none⟩) 2 2], .string nm] W fun e' w' => e' = .returned (.tuple #[.string tp, .int .i64 er]) ∧ Below W.heap.size W w') := Lib.hid fun W hW => ref8 M G nm tp er W HNM.out (HR.out _ hW) (HEv.out _ hW) hre
        clear hj hno2 hnm hrs hnl hrl hsp2 hjl hb60 hbs
        rcases refR_none hre with ⟨rfl, hme⟩ | ⟨rfl, hme⟩
        · -- the reference is one
          have hrd2 : Hid (rd s.data.toList = (rd rs.data.toList).map ((l ++ p.data.toList ++ tp.data.toList) ++ ·)) := by
            show _ = _
            rw [hrd.out, hdec, rd_amp, hsem]
            simp only [hme, Option.map_map]
            cases rd rs.data.toList with
            | none => rfl
            | some y => simp
          have hty := meantL_len hme
          have htp : tp.size ≤ 4 := by rw [← ba_len5 tp]; exact hty
          have HTP := Lib.hid htp
          have HR60 := Lib.hid hr60
          have hLL := HL.out
          have HPS := Lib.hid hps
          have HNS := Lib.hid hns
          clear hme hre hsem hdec hty hr60
          go_wp2_with (first
            | (go_at_call 101; (with_reducible refine (CU.out).mono ?_); rintro e1 w1 ⟨rfl, hb1⟩; have HB1 := Lib.hid hb1; have HBL1 : Hid (Bld w.heap.size w.heap.size l w1) := Lib.hid (HBL.out.below hb1); clear hb1)
            | (go_at_call 44; (with_reducible refine (bws w.heap.size w.heap.size l p w1 HBL1.out (by have := HL.out; omega) (bel_in HBW.out HB1.out hsz).size).mono ?_); rintro e2 w2 ⟨rfl, hbl2, hb2⟩; have HB2 : Hid (Below w.heap.size w w2) := Lib.hid (bel_in (bel_in HBW.out HB1.out hsz) hb2 (Nat.le_refl _)); have HBL2 := Lib.hid hbl2; clear hb2 hbl2)
            | (go_at_call 101; (with_reducible refine (CV.out w2).mono ?_); rintro e3 w3 ⟨rfl, hb3⟩; have HB3 : Hid (Below w.heap.size w w3) := Lib.hid (bel_in HB2.out hb3 HB2.out.size); have HBL3 : Hid (Bld w.heap.size w.heap.size (l ++ p.data.toList) w3) := Lib.hid (HBL2.out.below hb3); clear hb3)
            | (go_at_call 171; (with_reducible refine (CRF.out w3 HB3.out).mono ?_); rintro e4 w4 ⟨rfl, hb4⟩; have HB4 : Hid (Below w.heap.size w w4) := Lib.hid (bel_in HB3.out hb4 HB3.out.size); have HBL4 : Hid (Bld w.heap.size w.heap.size (l ++ p.data.toList) w4) := Lib.hid (HBL3.out.below hb4); clear hb4)
            | (go_at_call 44; (with_reducible refine (bws w.heap.size w.heap.size (l ++ p.data.toList) tp w4 HBL4.out (by rw [List.length_append, ba_len5]; omega) HB4.out.size).mono ?_); rintro e5 w5 ⟨rfl, hbl5, hb5⟩; have HB5 : Hid (Below w.heap.size w w5) := Lib.hid (bel_in HB4.out hb5 (Nat.le_refl _)); have HBL5 := Lib.hid hbl5; clear hb5 hbl5)
            | fail)
          go_roundg rs.size
          case rel =>
            refine ⟨rs, l ++ p.data.toList ++ tp.data.toList, rfl, rfl, hrd2, ?_, by omega, HR60, HBL5.out, HB5.out⟩
            rw [List.length_append, List.length_append, ba_len5, ba_len5]
            omega
          case measure => omega
        · -- it is none
          have hall : rd s.data.toList = none := by
            rw [hrd.out, hdec, rd_amp, hsem]
            simp only [hme]
            rfl
          have hh := HH.out
          rw [repR_none hall] at hh
          obtain ⟨rfl, rfl⟩ : (⟨#[]⟩ : ByteArray) = t ∧ (80 : Int) = e := by cases hh; exact ⟨rfl, rfl⟩
          have hLL := HL.out
          clear hme hre hsem hdec hall hh HH hr60
          go_wp2_with (first
            | (go_at_call 101; (with_reducible refine (CU.out).mono ?_); rintro e1 w1 ⟨rfl, hb1⟩; have HB1 := Lib.hid hb1; have HBL1 : Hid (Bld w.heap.size w.heap.size l w1) := Lib.hid (HBL.out.below hb1); clear hb1)
            | (go_at_call 44; (with_reducible refine (bws w.heap.size w.heap.size l p w1 HBL1.out (by have := HL.out; omega) (bel_in HBW.out HB1.out hsz).size).mono ?_); rintro e2 w2 ⟨rfl, hbl2, hb2⟩; have HB2 : Hid (Below w.heap.size w w2) := Lib.hid (bel_in (bel_in HBW.out HB1.out hsz) hb2 (Nat.le_refl _)); clear hb2 hbl2)
            | (go_at_call 101; (with_reducible refine (CV.out w2).mono ?_); rintro e3 w3 ⟨rfl, hb3⟩; have HB3 : Hid (Below w.heap.size w w3) := Lib.hid (bel_in HB2.out hb3 HB2.out.size); clear hb3)
            | (go_at_call 171; (with_reducible refine (CRF.out w3 HB3.out).mono ?_); rintro e4 w4 ⟨rfl, hb4⟩; have HB4 : Hid (Below w.heap.size w w4) := Lib.hid (bel_in HB3.out hb4 HB3.out.size); clear hb4)
            | fail)
          go_ret2
          exact ⟨rfl, HB4.out⟩
end Hx
end Go.Proofs.YtbjgfaflikgobaaGreatDoor
namespace Go.Proofs.YtbjgfaflikgobaaGreatDoor
open Go.RowKit
namespace Hx
open Tx Nmb Es
set_option linter.unusedVariables false
set_option maxHeartbeats 2000000 in
set_option maxRecDepth 100000 in
theorem get8 (s t : ByteArray) (e : Int) (w : World) (hm : s.size ≤ 1000000) (h : getR s = (t, e)) (hE : Ev w := by first | assumption | exact Ev.to (by assumption) (by assumption)) :
    Calls Tryz.prog 146 #[.string s] w fun e' w' => e' = .returned (.tuple #[.string t, .int .i64 e]) ∧ Below w.heap.size w w' := by
  have hmf : ∀ (fn : Fn) (first cap : Array Value) (w : World), (Instr.makeFunc fn first cap).run Tryz.prog w = .ok (.func fn first cap) w := fun _ _ _ _ => rfl
  have HM := Lib.hid hm
  have HE := Lib.hid hE
  unfold getR at h
  by_cases h0 : chkE s = 0
  · rw [if_neg (by simpa using h0)] at h
    have HC := Lib.hid h0
    have hrep : repR s.data.toList = (t, e) := h
    by_cases h60 : (60 : UInt8) ∈ s.data.toList
    · rw [repR_none (rd_lt _ _ (Nat.le_refl _) h60)] at hrep
      obtain ⟨rfl, rfl⟩ : (⟨#[]⟩ : ByteArray) = t ∧ (80 : Int) = e := by cases hrep; exact ⟨rfl, rfl⟩
      have H6 : Hid (decide ((60 : UInt8) ∈ s.data.toList) = true) := Lib.hid (decide_eq_true h60)
      clear h h0 hrep h60 hm hE
      go_enter Tryz.func146, Tryz.ntmps146
      go_wp2_with (first
        | (go_at_call 63; (with_reducible refine (check5 s w HM.out 0 HC.out).mono ?_); rintro e1 w1 ⟨rfl, hb1⟩)
        | (go_at_call 104; (with_reducible refine (has_60 s true w1 H6.out).mono ?_); rintro e2 w2 ⟨rfl, rfl⟩)
        | fail)
      go_ret2
      exact ⟨rfl, hb1⟩
    · have H6 : Hid (decide ((60 : UInt8) ∈ s.data.toList) = false) := Lib.hid (decide_eq_false h60)
      have CR : Hid (∀ M G W, Rdr M G W → Ev W → Calls Tryz.prog 169 #[.string s, .func (.func 171) #[RdV M G] #[]] W fun e' w' => e' = .returned (.tuple #[.string t, .int .i64 e]) ∧ Below W.heap.size W w') := Lib.hid fun M G W h1 h2 => rep8 M G s t e W hm h60 h1 h2 hrep
      have hw : IntKind.i64.wrap e = e := by
        have : e = 0 ∨ e = 80 := by
          unfold repR at hrep
          split at hrep <;> cases hrep
          · exact .inl rfl
          · exact .inr rfl
        rcases this with rfl | rfl <;> rfl
      clear h h0 hrep h60 hm hE
      go_enter Tryz.func146, Tryz.ntmps146
      go_wp2_with (first
        | (go_at_call 63; (with_reducible refine (check5 s w HM.out 0 HC.out).mono ?_); rintro e1 w1 ⟨rfl, hb1⟩)
        | (go_at_call 104; (with_reducible refine (has_60 s false w1 H6.out).mono ?_); rintro e2 w2 ⟨rfl, rfl⟩)
        | (go_at_call 170; (with_reducible refine (reader8 w1).mono ?_); rintro e3 w3 ⟨M, G, rfl, hrd3, hb3⟩; have HRD := Lib.hid hrd3; have HB3 : Hid (Below w.heap.size w w3) := Lib.hid (bel_in hb1 hb3 hb1.size); clear hrd3 hb3)
        | (go_at_call 169; (with_reducible refine (CR.out M G w3 HRD.out (HE.out.to HB3.out)).mono ?_); rintro e4 w4 ⟨rfl, hb4⟩)
        | fail)
      go_ret2
      exact ⟨rfl, bel_in HB3.out hb4 HB3.out.size⟩
  · rw [if_pos h0] at h
    obtain ⟨rfl, he⟩ : (⟨#[]⟩ : ByteArray) = t ∧ chkE s = e := by cases h; exact ⟨rfl, rfl⟩
    have q0 : (e == 0) = false := by rw [← he]; simpa using h0
    have q1 : (e != 0) = true := by rw [← he]; simpa using h0
    have HC := Lib.hid he
    clear h h0 hm he hE
    go_enter Tryz.func146, Tryz.ntmps146
    go_wp2_with (first
      | (go_at_call 63; (with_reducible refine (check5 s w HM.out e HC.out).mono ?_); rintro e1 w1 ⟨rfl, hb1⟩)
      | fail)
    go_ret2
    exact ⟨rfl, hb1⟩
end Hx
end Go.Proofs.YtbjgfaflikgobaaGreatDoor
