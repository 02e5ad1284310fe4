/-
  Texts of one seat, put together: EscH, EscV, LeaE.
-/
import Derived.Test.YtichboamakgabaaGreatDoorG21
import Derived.Test.YtichboamakgabaaGreatDoorG06
import Derived.Test.YtichboamakgabaaGreatDoorG15
import Derived.Test.YtichboamakgabaaGreatDoorG16
import Derived.Test.YtichboamakgabaaGreatDoorG08
import Derived.Test.YtichboamakgabaaGreatDoorShelf
import Derived.Maps.AppendAt
namespace Go.Proofs.YtichboamakgabaaGreatDoor
open Go.RowKit
namespace Hx
open Tx Nmb Es
set_option linter.unusedVariables false
theorem rd_self (p : List UInt8) (h : ∀ x ∈ p, x ≠ 60 ∧ x ≠ 38) : rd p = some p := by
  induction p with
  | nil => rfl
  | cons c p ih =>
    have hc := h c (by simp)
    rw [rd_byte c p hc.1 hc.2, ih (fun x hx => h x (by simp [hx]))]
    rfl
theorem rd_plain (p r : List UInt8) (h : ∀ x ∈ p, x ≠ 60 ∧ x ≠ 38) : rd (p ++ r) = (rd r).map (p ++ ·) := rd_append p r p (rd_self p h)
theorem dg_no60 (n : Nat) : (60 : UInt8) ∉ dg n := dg_not n 60 (by decide)
theorem hexV_no60 {l : List UInt8} {n : Nat} (h : hexV l = some n) : (60 : UInt8) ∉ l := by
  intro hm
  obtain ⟨k, hk⟩ := List.mem_iff_getElem?.1 hm
  have h0 : hxv 60 = none := by decide
  unfold hexV at h
  split at h
  · cases h
  · rw [hexF_stop hk h0] at h; cases h
theorem numL_no60 {l : List UInt8} {n : Nat} (h : numL l = some n) : (60 : UInt8) ∉ l := by
  by_cases hd : l.head? = some 120
  · cases l with
    | nil => cases hd
    | cons c r =>
      cases hd
      rw [numL_x] at h
      rw [Option.filter_eq_some_iff] at h
      intro hm
      rcases List.mem_cons.1 hm with e | e
      · cases e
      · exact hexV_no60 h.1 e
  · rw [numL_d hd, Option.filter_eq_some_iff] at h
    rw [((readN_iff l n).1 h.1).1]
    exact dg_no60 n
theorem meantL_no60 {l y : List UInt8} (h : meantL l = some y) : (60 : UInt8) ∉ l := by
  unfold meantL at h
  split at h
  · rename_i e; subst e; decide
  split at h
  · rename_i e; subst e; decide
  split at h
  · rename_i e; subst e; decide
  split at h
  · rename_i e; subst e; decide
  split at h
  · rename_i e; subst e; decide
  split at h
  · rename_i r _ _ _ _ _
    rw [Option.map_eq_some_iff] at h
    obtain ⟨n, hn, _⟩ := h
    intro hm
    rcases List.mem_cons.1 hm with e | e
    · cases e
    · exact numL_no60 hn e
  · cases h
theorem rd_lt : ∀ (n : Nat) (l : List UInt8), l.length ≤ n → (60 : UInt8) ∈ l → rd l = none
  | _, [], _, h => by simp at h
  | 0, c :: l, hn, _ => by simp at hn
  | n + 1, c :: l, hn, h => by
    simp only [List.length_cons] at hn
    by_cases h60 : c = 60
    · rw [h60]; exact rd_bad l
    · have hl : (60 : UInt8) ∈ l := (List.mem_cons.1 h).resolve_left (fun e => h60 e.symm)
      by_cases h38 : c = 38
      · subst h38
        rw [rd_amp]
        cases hs : semi l with
        | none => rfl
        | some p =>
          obtain ⟨x, t⟩ := p
          obtain ⟨e, hx⟩ := semi_some l x t hs
          simp only
          cases hm : meantL x with
          | none => rfl
          | some y =>
            simp only
            have ht : (60 : UInt8) ∈ t := by
              rw [e] at hl
              rcases List.mem_append.1 hl with q | q
              · exact absurd q (meantL_no60 hm)
              · rcases List.mem_cons.1 q with q | q
                · cases q
                · exact q
            have hlen := congrArg List.length e
            simp only [List.length_append, List.length_cons] at hlen
            rw [rd_lt n t (by omega) ht]
            rfl
      · rw [rd_byte c l h60 h38, rd_lt n l (by omega) hl]
        rfl
/-- What replace answers. -/
def repR (l : List UInt8) : ByteArray × Int := match rd l with | some y => (⟨y.toArray⟩, 0) | none => (⟨#[]⟩, 80)
theorem ext_take (s : ByteArray) (i : Nat) : (s.extract 0 i).data.toList = s.data.toList.take i := by rw [extract_mid8]; simp
theorem ext_drop (s : ByteArray) (j : Nat) : (s.extract j s.size).data.toList = s.data.toList.drop j := by
  rw [extract_mid8]
  show (s.data.toList.drop j).take (s.size - j) = _
  exact List.take_of_length_le (by rw [List.length_drop, ba_len5]; exact Nat.le_refl _)
theorem repR_none {l : List UInt8} (h : rd l = none) : repR l = (⟨#[]⟩, 80) := by unfold repR; rw [h]
theorem repR_some {l y : List UInt8} (h : rd l = some y) : repR l = (⟨y.toArray⟩, 0) := by unfold repR; rw [h]
theorem refR_none {l : List UInt8} {t : ByteArray} {e : Int} (h : refR l = (t, e)) : (e = 0 ∧ meantL l = some t.data.toList) ∨ (e = 80 ∧ meantL l = none) := by
  unfold refR at h
  cases hm : meantL l with
  | none => rw [hm] at h; cases h; exact .inr ⟨rfl, rfl⟩
  | some y => rw [hm] at h; cases h; exact .inl ⟨rfl, rfl⟩
set_option maxHeartbeats 8000000 in
set_option maxRecDepth 100000 in
theorem rep8 (M G : Nat) (s t : ByteArray) (e : Int) (w : World) (hm : s.size ≤ 1000000) (h60 : (60 : UInt8) ∉ s.data.toList) (hr : Rdr M G w) (hE : Ev w) (h : repR s.data.toList = (t, e)) :
    Calls Tryz.prog 78 #[.string s, .func (.func 80) #[RdV M G] #[]] w fun e' w' => e' = .returned (.tuple #[.string t, .int .i64 e]) ∧ Below w.heap.size w w' := by
  have HEv : Hid (∀ W, Below w.heap.size w W → Ev W) := Lib.hid fun W hW => hE.to hW
  have HR : Hid (∀ W, Below w.heap.size w W → Rdr M G W) := Lib.hid fun W hW => hr.to hW
  have HH := Lib.hid h
  have H60 := Lib.hid h60
  have HSM := Lib.hid hm
  clear hr hE h h60 hm
  unfold RdV
  go_enter Tryz.func78, Tryz.ntmps78
  go_wp2_with fail
  go_loopg [0, 7, 8, 9, 10, 11, 12, 13, 14] s.size (fun gg vs v7 v8 v9 v10 v11 v12 v13 v14 wr => ∃ (x : ByteArray) (l : List UInt8), vs = .string x ∧ gg = x.size ∧ Hid (rd s.data.toList = (rd x.data.toList).map (l ++ ·)) ∧ l.length + 4 * x.size ≤ 4000000 ∧ x.size ≤ 1000000 ∧ Hid ((60 : UInt8) ∉ x.data.toList) ∧ Bld w.heap.size w.heap.size l wr ∧ Below w.heap.size w wr)
  case atStart => exact ⟨s, [], rfl, rfl, Lib.hid (by cases rd s.data.toList <;> simp), by have := HSM.out; simp; omega, HSM.out, H60, bld_new w, (Below.refl _ _).alloc (Nat.le_refl _) _⟩
  case round =>
    obtain ⟨x, l, rfl, rfl, hrd, hlen, hxm, hx60, hbl, hbw⟩ := hrel
    have HBL := Lib.hid hbl
    have HBW := Lib.hid hbw
    have HL := Lib.hid hlen
    have HXM := Lib.hid hxm
    have hsz := hbw.size
    have hxl : x.data.toList.length = x.size := ba_len5 x
    clear hbl hbw
    rcases ix_cases x.data.toList 38 with ⟨hi, hno⟩ | ⟨i, hi, hil, hsp, hno⟩
    · -- no reference any more
      have hself : rd x.data.toList = some x.data.toList := rd_self _ (fun c hc => ⟨fun q => hx60.out (q ▸ hc), fun q => hno (q ▸ hc)⟩)
      have hall : rd s.data.toList = some (l ++ x.data.toList) := by rw [hrd.out, hself]; rfl
      obtain ⟨y, hy⟩ : ∃ y : ByteArray, (⟨(l ++ x.data.toList).toArray⟩ : ByteArray) = y := ⟨_, rfl⟩
      have hyl : y.data.toList = l ++ x.data.toList := by rw [← hy]
      have hh := HH.out
      rw [repR_some hall, hy] at hh
      obtain ⟨rfl, rfl⟩ : y = t ∧ (0 : Int) = e := by cases hh; exact ⟨rfl, rfl⟩
      have HI := Lib.hid hi
      have HYL := Lib.hid hyl
      clear hi hno hself hall hy hyl hh hlen hxl hxm HH
      go_wp2_with (first
        | (go_at_call 35; (with_reducible refine (cut_no_38 x wr HI.out).mono ?_); rintro e1 w1 ⟨rfl, hb1⟩; have HB1 := Lib.hid hb1; have HBL1 : Hid (Bld w.heap.size w.heap.size l w1) := Lib.hid (HBL.out.below hb1); clear hb1)
        | (go_at_call 44; (with_reducible refine (bws w.heap.size w.heap.size l x w1 HBL1.out (by have := HL.out; omega) (bel_in HBW.out HB1.out hsz).size).mono ?_); rintro e2 w2 ⟨rfl, hbl2, hb2⟩; have HB2 := Lib.hid hb2; have HBL2 : Hid (Bld w.heap.size w.heap.size y.data.toList w2) := Lib.hid (by rw [HYL.out]; exact hbl2); clear hb2 hbl2)
        | (go_at_call 27; (with_reducible refine (bst w.heap.size w.heap.size y w2 HBL2.out (bel_in (bel_in HBW.out HB1.out hsz) HB2.out (Nat.le_refl _)).size).mono ?_); rintro e3 w3 ⟨rfl, hbl3, hb3⟩)
        | fail)
      go_ret2
      exact ⟨rfl, bel_in (bel_in (bel_in HBW.out HB1.out hsz) HB2.out (Nat.le_refl _)) hb3 (Nat.le_refl _)⟩
    · obtain ⟨p, hp⟩ : ∃ p, x.extract 0 i = p := ⟨_, rfl⟩
      obtain ⟨bh, hbh⟩ : ∃ bh, x.extract (i + 1) x.size = bh := ⟨_, rfl⟩
      have hpl : p.data.toList = x.data.toList.take i := by rw [← hp]; exact ext_take _ _
      have hbl' : bh.data.toList = x.data.toList.drop (i + 1) := by rw [← hbh]; exact ext_drop _ _
      have hps : p.size + bh.size + 1 = x.size := by
        rw [← ba_len5 p, ← ba_len5 bh, hpl, hbl', List.length_take, List.length_drop]
        omega
      have hdec : rd x.data.toList = (rd (38 :: bh.data.toList)).map (p.data.toList ++ ·) := by
        conv => lhs; rw [hsp]
        rw [← hbl', ← hpl]
        refine rd_plain _ _ fun c hc => ⟨fun q => hx60.out ?_, fun q => hno ?_⟩
        · rw [hpl] at hc; rw [← q]; exact List.mem_of_mem_take hc
        · rw [hpl] at hc; rw [← q]; exact hc
      have hb60 : (60 : UInt8) ∉ bh.data.toList := fun q => hx60.out (by rw [hbl'] at q; exact List.mem_of_mem_drop q)
      have CU : Hid (Calls Tryz.prog 35 #[.string x, .string ⟨#[38]⟩] wr (CutAt p bh true wr)) := cut_yes_38 x p bh i (i + 1) x.size wr hxm hi (by omega) rfl rfl hp hbh
      clear hi hno hp hbh hpl hbl' hsp hil hxl
      rcases ix_cases bh.data.toList 59 with ⟨hj, hno2⟩ | ⟨j, hj, hjl, hsp2, hno2⟩
      · -- no semicolon
        have hall : rd s.data.toList = none := by rw [hrd.out, hdec, rd_amp, semi_none _ hno2]; rfl
        have hh := HH.out
        rw [repR_none hall] at hh
        obtain ⟨rfl, rfl⟩ : (⟨#[]⟩ : ByteArray) = t ∧ (80 : Int) = e := by cases hh; exact ⟨rfl, rfl⟩
        have HJ := Lib.hid hj
        clear hj hno2 hall hh HH hdec hb60
        go_wp2_with (first
          | (go_at_call 35; (with_reducible refine (CU.out).mono ?_); rintro e1 w1 ⟨rfl, hb1⟩; have HB1 := Lib.hid hb1; have HBL1 : Hid (Bld w.heap.size w.heap.size l w1) := Lib.hid (HBL.out.below hb1); clear hb1)
          | (go_at_call 44; (with_reducible refine (bws w.heap.size w.heap.size l p w1 HBL1.out (by have := HL.out; omega) (bel_in HBW.out HB1.out hsz).size).mono ?_); rintro e2 w2 ⟨rfl, hbl2, hb2⟩; have HB2 := Lib.hid hb2; clear hb2 hbl2)
          | (go_at_call 35; (with_reducible refine (cut_no_59 bh w2 HJ.out).mono ?_); rintro e3 w3 ⟨rfl, hb3⟩; have HB3 := Lib.hid hb3; clear hb3)
          | fail)
        go_ret2
        exact ⟨rfl, bel_in (bel_in (bel_in HBW.out HB1.out hsz) HB2.out (Nat.le_refl _)) HB3.out (bel_in (bel_in HBW.out HB1.out hsz) HB2.out (Nat.le_refl _)).size⟩
      · obtain ⟨nm, hnm⟩ : ∃ nm, bh.extract 0 j = nm := ⟨_, rfl⟩
        obtain ⟨rs, hrs⟩ : ∃ rs, bh.extract (j + 1) bh.size = rs := ⟨_, rfl⟩
        have hnl : nm.data.toList = bh.data.toList.take j := by rw [← hnm]; exact ext_take _ _
        have hrl : rs.data.toList = bh.data.toList.drop (j + 1) := by rw [← hrs]; exact ext_drop _ _
        have hbs := ba_len5 bh
        have hns : nm.size + rs.size + 1 = bh.size := by
          rw [← ba_len5 nm, ← ba_len5 rs, hnl, hrl, List.length_take, List.length_drop]
          omega
        have hsem : semi bh.data.toList = some (nm.data.toList, rs.data.toList) := by
          rw [hnl, hrl]
          conv => lhs; rw [hsp2]
          exact semi_of _ _ hno2
        have hr60 : (60 : UInt8) ∉ rs.data.toList := fun q => hb60 (by rw [hrl] at q; exact List.mem_of_mem_drop q)
        have CV : Hid (∀ W, Calls Tryz.prog 35 #[.string bh, .string ⟨#[59]⟩] W (CutAt nm rs true W)) := fun W => cut_yes_59 bh nm rs j (j + 1) bh.size W (by omega) hj (by omega) rfl rfl hnm hrs
        obtain ⟨tp, er, hre⟩ : ∃ tp er, refR nm.data.toList = (tp, er) := ⟨_, _, rfl⟩
        have HRE := Lib.hid hre
        have HNM : Hid (nm.size ≤ 1000000) := Lib.hid (by omega)
        have CRF : Hid (∀ W, Below w.heap.size w W → Calls Tryz.prog 80 #[.agg #[.map (some M), .slice (some ⟨G, 0, none⟩) 2 2], .string nm] W fun e' w' => e' = .returned (.tuple #[.string tp, .int .i64 er]) ∧ Below W.heap.size W w') := Lib.hid fun W hW => ref8 M G nm tp er W HNM.out (HR.out _ hW) (HEv.out _ hW) hre
        clear hj hno2 hnm hrs hnl hrl hsp2 hjl hb60 hbs
        rcases refR_none hre with ⟨rfl, hme⟩ | ⟨rfl, hme⟩
        · -- the reference is one
          have hrd2 : Hid (rd s.data.toList = (rd rs.data.toList).map ((l ++ p.data.toList ++ tp.data.toList) ++ ·)) := by
            show _ = _
            rw [hrd.out, hdec, rd_amp, hsem]
            simp only [hme, Option.map_map]
            cases rd rs.data.toList with
            | none => rfl
            | some y => simp
          have hty := meantL_len hme
          have htp : tp.size ≤ 4 := by rw [← ba_len5 tp]; exact hty
          have HTP := Lib.hid htp
          have HR60 := Lib.hid hr60
          have hLL := HL.out
          have HPS := Lib.hid hps
          have HNS := Lib.hid hns
          clear hme hre hsem hdec hty hr60
          go_wp2_with (first
            | (go_at_call 35; (with_reducible refine (CU.out).mono ?_); rintro e1 w1 ⟨rfl, hb1⟩; have HB1 := Lib.hid hb1; have HBL1 : Hid (Bld w.heap.size w.heap.size l w1) := Lib.hid (HBL.out.below hb1); clear hb1)
            | (go_at_call 44; (with_reducible refine (bws w.heap.size w.heap.size l p w1 HBL1.out (by have := HL.out; omega) (bel_in HBW.out HB1.out hsz).size).mono ?_); rintro e2 w2 ⟨rfl, hbl2, hb2⟩; have HB2 : Hid (Below w.heap.size w w2) := Lib.hid (bel_in (bel_in HBW.out HB1.out hsz) hb2 (Nat.le_refl _)); have HBL2 := Lib.hid hbl2; clear hb2 hbl2)
            | (go_at_call 35; (with_reducible refine (CV.out w2).mono ?_); rintro e3 w3 ⟨rfl, hb3⟩; have HB3 : Hid (Below w.heap.size w w3) := Lib.hid (bel_in HB2.out hb3 HB2.out.size); have HBL3 : Hid (Bld w.heap.size w.heap.size (l ++ p.data.toList) w3) := Lib.hid (HBL2.out.below hb3); clear hb3)
            | (go_at_call 80; (with_reducible refine (CRF.out w3 HB3.out).mono ?_); rintro e4 w4 ⟨rfl, hb4⟩; have HB4 : Hid (Below w.heap.size w w4) := Lib.hid (bel_in HB3.out hb4 HB3.out.size); have HBL4 : Hid (Bld w.heap.size w.heap.size (l ++ p.data.toList) w4) := Lib.hid (HBL3.out.below hb4); clear hb4)
            | (go_at_call 44; (with_reducible refine (bws w.heap.size w.heap.size (l ++ p.data.toList) tp w4 HBL4.out (by rw [List.length_append, ba_len5]; omega) HB4.out.size).mono ?_); rintro e5 w5 ⟨rfl, hbl5, hb5⟩; have HB5 : Hid (Below w.heap.size w w5) := Lib.hid (bel_in HB4.out hb5 (Nat.le_refl _)); have HBL5 := Lib.hid hbl5; clear hb5 hbl5)
            | fail)
          go_roundg rs.size
          case rel =>
            refine ⟨rs, l ++ p.data.toList ++ tp.data.toList, rfl, rfl, hrd2, ?_, by omega, HR60, HBL5.out, HB5.out⟩
            rw [List.length_append, List.length_append, ba_len5, ba_len5]
            omega
          case measure => omega
        · -- it is none
          have hall : rd s.data.toList = none := by
            rw [hrd.out, hdec, rd_amp, hsem]
            simp only [hme]
            rfl
          have hh := HH.out
          rw [repR_none hall] at hh
          obtain ⟨rfl, rfl⟩ : (⟨#[]⟩ : ByteArray) = t ∧ (80 : Int) = e := by cases hh; exact ⟨rfl, rfl⟩
          have hLL := HL.out
          clear hme hre hsem hdec hall hh HH hr60
          go_wp2_with (first
            | (go_at_call 35; (with_reducible refine (CU.out).mono ?_); rintro e1 w1 ⟨rfl, hb1⟩; have HB1 := Lib.hid hb1; have HBL1 : Hid (Bld w.heap.size w.heap.size l w1) := Lib.hid (HBL.out.below hb1); clear hb1)
            | (go_at_call 44; (with_reducible refine (bws w.heap.size w.heap.size l p w1 HBL1.out (by have := HL.out; omega) (bel_in HBW.out HB1.out hsz).size).mono ?_); rintro e2 w2 ⟨rfl, hbl2, hb2⟩; have HB2 : Hid (Below w.heap.size w w2) := Lib.hid (bel_in (bel_in HBW.out HB1.out hsz) hb2 (Nat.le_refl _)); clear hb2 hbl2)
            | (go_at_call 35; (with_reducible refine (CV.out w2).mono ?_); rintro e3 w3 ⟨rfl, hb3⟩; have HB3 : Hid (Below w.heap.size w w3) := Lib.hid (bel_in HB2.out hb3 HB2.out.size); clear hb3)
            | (go_at_call 80; (with_reducible refine (CRF.out w3 HB3.out).mono ?_); rintro e4 w4 ⟨rfl, hb4⟩; have HB4 : Hid (Below w.heap.size w w4) := Lib.hid (bel_in HB3.out hb4 HB3.out.size); clear hb4)
            | fail)
          go_ret2
          exact ⟨rfl, HB4.out⟩
end Hx
end Go.Proofs.YtichboamakgabaaGreatDoor
namespace Go.Proofs.YtichboamakgabaaGreatDoor
open Go.RowKit
namespace Hx
open Tx Nmb Es
set_option linter.unusedVariables false
theorem getR_lits {s t : ByteArray} {e : Int} (h : getR s = (t, e)) : e = 0 ∨ e = 4 ∨ e = 50 ∨ e = 80 := by
  unfold getR at h
  rcases chk_lits s with k | k | k
  · rw [if_neg (by simpa using k)] at h
    split at h <;> cases h
    · exact .inl rfl
    · exact .inr (.inr (.inr rfl))
  · rw [if_pos (by rw [k]; decide), k] at h; cases h; exact .inr (.inl rfl)
  · rw [if_pos (by rw [k]; decide), k] at h; cases h; exact .inr (.inr (.inl rfl))
set_option maxHeartbeats 2000000 in
set_option maxRecDepth 100000 in
theorem get8 (s t : ByteArray) (e : Int) (w : World) (hm : s.size ≤ 1000000) (h : getR s = (t, e)) (hE : Ev w := by first | assumption | exact Ev.to (by assumption) (by assumption)) :
    Calls Tryz.prog 58 #[.string s] w fun e' w' => e' = .returned (.tuple #[.string t, .int .i64 e]) ∧ Below w.heap.size w w' := by
  have hmf : ∀ (fn : Fn) (first cap : Array Value) (w : World), (Instr.makeFunc fn first cap).run Tryz.prog w = .ok (.func fn first cap) w := fun _ _ _ _ => rfl
  have HM := Lib.hid hm
  have HE := Lib.hid hE
  unfold getR at h
  by_cases h0 : chkE s = 0
  · rw [if_neg (by simpa using h0)] at h
    have HC := Lib.hid h0
    have hrep : repR s.data.toList = (t, e) := h
    by_cases h60 : (60 : UInt8) ∈ s.data.toList
    · rw [repR_none (rd_lt _ _ (Nat.le_refl _) h60)] at hrep
      obtain ⟨rfl, rfl⟩ : (⟨#[]⟩ : ByteArray) = t ∧ (80 : Int) = e := by cases hrep; exact ⟨rfl, rfl⟩
      have H6 : Hid (decide ((60 : UInt8) ∈ s.data.toList) = true) := Lib.hid (decide_eq_true h60)
      clear h h0 hrep h60 hm hE
      go_enter Tryz.func58, Tryz.ntmps58
      go_wp2_with (first
        | (go_at_call 22; (with_reducible refine (check5 s w HM.out 0 HC.out).mono ?_); rintro e1 w1 ⟨rfl, hb1⟩)
        | (go_at_call 77; (with_reducible refine (has_60 s true w1 H6.out).mono ?_); rintro e2 w2 ⟨rfl, rfl⟩)
        | fail)
      go_ret2
      exact ⟨rfl, hb1⟩
    · have H6 : Hid (decide ((60 : UInt8) ∈ s.data.toList) = false) := Lib.hid (decide_eq_false h60)
      have CR : Hid (∀ M G W, Rdr M G W → Ev W → Calls Tryz.prog 78 #[.string s, .func (.func 80) #[RdV M G] #[]] W fun e' w' => e' = .returned (.tuple #[.string t, .int .i64 e]) ∧ Below W.heap.size W w') := Lib.hid fun M G W h1 h2 => rep8 M G s t e W hm h60 h1 h2 hrep
      have hw : IntKind.i64.wrap e = e := by
        have : e = 0 ∨ e = 80 := by
          unfold repR at hrep
          split at hrep <;> cases hrep
          · exact .inl rfl
          · exact .inr rfl
        rcases this with rfl | rfl <;> rfl
      clear h h0 hrep h60 hm hE
      go_enter Tryz.func58, Tryz.ntmps58
      go_wp2_with (first
        | (go_at_call 22; (with_reducible refine (check5 s w HM.out 0 HC.out).mono ?_); rintro e1 w1 ⟨rfl, hb1⟩)
        | (go_at_call 77; (with_reducible refine (has_60 s false w1 H6.out).mono ?_); rintro e2 w2 ⟨rfl, rfl⟩)
        | (go_at_call 79; (with_reducible refine (reader8 w1).mono ?_); rintro e3 w3 ⟨M, G, rfl, hrd3, hb3⟩; have HRD := Lib.hid hrd3; have HB3 : Hid (Below w.heap.size w w3) := Lib.hid (bel_in hb1 hb3 hb1.size); clear hrd3 hb3)
        | (go_at_call 78; (with_reducible refine (CR.out M G w3 HRD.out (HE.out.to HB3.out)).mono ?_); rintro e4 w4 ⟨rfl, hb4⟩)
        | fail)
      go_ret2
      exact ⟨rfl, bel_in HB3.out hb4 HB3.out.size⟩
  · rw [if_pos h0] at h
    obtain ⟨rfl, he⟩ : (⟨#[]⟩ : ByteArray) = t ∧ chkE s = e := by cases h; exact ⟨rfl, rfl⟩
    have q0 : (e == 0) = false := by rw [← he]; simpa using h0
    have q1 : (e != 0) = true := by rw [← he]; simpa using h0
    have HC := Lib.hid he
    clear h h0 hm he hE
    go_enter Tryz.func58, Tryz.ntmps58
    go_wp2_with (first
      | (go_at_call 22; (with_reducible refine (check5 s w HM.out e HC.out).mono ?_); rintro e1 w1 ⟨rfl, hb1⟩)
      | fail)
    go_ret2
    exact ⟨rfl, hb1⟩
end Hx
end Go.Proofs.YtichboamakgabaaGreatDoor
namespace Go.Proofs.YtichboamakgabaaGreatDoor
open Go.RowKit
namespace Hx
open Lx Tx Nmb Es
set_option linter.unusedVariables false
/-- The reader in block b: what is still to be read. -/
def Rd (b : Nat) (s : ByteArray) (w : World) : Prop := w.heap[b]? = some (.cells #[.string s] 50 (0, 0))
theorem Rd.lt {b : Nat} {s : ByteArray} {w : World} (h : Rd b s w) : b < w.heap.size := (Array.getElem?_eq_some_iff.1 h).1
theorem Rd.cell {b : Nat} {s : ByteArray} {w : World} (h : Rd b s w) : w.cell? ⟨b, 0, none⟩ = some (.string s) := by
  unfold Rd at h
  simp [World.cell?, h]
theorem Rd.free {b : Nat} {s : ByteArray} {w : World} (h : Rd b s w) : w.frozen? ⟨b, 0, none⟩ = false := by
  unfold Rd at h
  simp [World.frozen?, h]
theorem Rd.set {b : Nat} {s : ByteArray} {w : World} (h : Rd b s w) (t : ByteArray) : Rd b t (w.setCell ⟨b, 0, none⟩ (.string t)) := by
  unfold Rd at h ⊢
  simp [World.setCell, Array.getElem?_modify, h]
theorem Rd.grown {b : Nat} {s : ByteArray} {w w' : World} {row : Option Nat} (h : Rd b s w) (hg : w.grownBy w' row) (hne : some b ≠ row) : Rd b s w' := (hg.block b h.lt hne).trans h
theorem Rd.below {b : Nat} {s : ByteArray} {w w' : World} (h : Rd b s w) (hb : Below w.heap.size w w') : Rd b s w' := (hb.block b h.lt).trans h
theorem grown_below {w w' : World} (h : Below w.heap.size w w') (row : Option Nat) : w.grownBy w' row := ⟨h.os, h.tape, h.output, h.size, fun k hk _ => h.block k hk⟩
theorem grown_set (w : World) (b : Nat) (v : Value) : w.grownBy (w.setCell ⟨b, 0, none⟩ v) (some b) := ⟨rfl, rfl, rfl, by simp [World.setCell], fun k _ hne => Below.heap_setCell _ _ _ _ (fun e => hne (by rw [e]))⟩
theorem below_grown {w w' : World} {b n : Nat} (h : w.grownBy w' (some b)) (hn : n ≤ b) (hs : b < w.heap.size) : Below n w w' := ⟨h.os, h.tape, h.output, h.size, fun k hk => h.block k (by omega) (fun e => by injection e; omega)⟩
/-- The reader goes on. -/
structure Went (b : Nat) (t : ByteArray) (w w' : World) : Prop where
  rd : Rd b t w'
  gr : w.grownBy w' (some b)
theorem Went.trans {b : Nat} {s t : ByteArray} {w w1 w2 : World} (h : Went b s w w1) (k : Went b t w1 w2) : Went b t w w2 := ⟨k.rd, h.gr.trans k.gr⟩
theorem Went.after {b : Nat} {t : ByteArray} {w w1 w2 : World} (h : Below w.heap.size w w1) (k : Went b t w1 w2) : Went b t w w2 := ⟨k.rd, (grown_below h _).trans k.gr⟩
theorem Went.then {b : Nat} {t : ByteArray} {w w1 w2 : World} (h : Went b t w w1) (k : Below w1.heap.size w1 w2) : Went b t w w2 := ⟨h.rd.below k, h.gr.trans (grown_below k _)⟩
theorem Went.refl {b : Nat} {t : ByteArray} {w : World} (h : Rd b t w) : Went b t w w := ⟨h, World.grownBy.refl _ _⟩
/-- A panic with an error. -/
def Thrown (er : Int) : Ending := .panicked [{ v := .iface 24 (.int .i64 er), recovered := false }]
set_option maxHeartbeats 1000000 in
set_option maxRecDepth 100000 in
theorem take9 (b : Nat) (s t p : ByteArray) (is : Bool) (w : World) (h : Rd b s w) (h1 : Lib.hasPrefix s.data.toList p.data.toList = is) (h2 : Lib.trimPrefix s.data.toList p.data.toList = t.data.toList) :
    Calls Tryz.prog 38 #[.pointer (some ⟨b, 0, none⟩), .string p] w fun e w' => e = .returned (.bool is) ∧ Went b t w w' := by
  have HC : Hid (Calls Tryz.prog 52 #[.string s, .string p] w fun e w' => e = .returned (.tuple #[.string t, .bool is]) ∧ w = w') := Lib.hid ((Tryz.strings_CutPrefix s p w).mono fun e w' ⟨k1, k2⟩ => ⟨by rw [k1, h1, h2], k2.symm⟩)
  have hc := h.cell
  have hf := h.free
  have HR := Lib.hid h
  clear h h1 h2
  go_enter Tryz.func38, Tryz.ntmps38
  go_wp2_with (first
    | (go_at_call 52; (with_reducible refine (HC.out).mono ?_); rintro e1 w1 ⟨rfl, rfl⟩)
    | fail)
  go_ret
  exact ⟨rfl, HR.out.set _, grown_set _ _ _⟩
theorem ba_mk (l : List UInt8) : (⟨l.toArray⟩ : ByteArray).data.toList = l := by simp
theorem cut_parts (q : UInt8) (l : List UInt8) : (q ∉ l ∧ l.takeWhile (ne q) = l) ∨ ∃ y, l = l.takeWhile (ne q) ++ q :: y ∧ q ∉ l.takeWhile (ne q) := by
  obtain ⟨h1, h2, h3⟩ := tw_split (ne q) l
  have hn : q ∉ l.takeWhile (ne q) := fun hx => (ne_iff q q).1 (h2 _ hx) rfl
  cases hd : l.dropWhile (ne q) with
  | nil =>
    rw [hd, List.append_nil] at h1
    exact .inl ⟨by rw [h1]; exact hn, h1.symm⟩
  | cons d y =>
    have hdq : d = q := by have := h3 d y hd; unfold ne at this; simpa using this
    subst hdq
    rw [hd] at h1
    exact .inr ⟨y, h1, hn⟩
set_option maxRecDepth 100000 in
/-- strings.Clone. -/
theorem clone9 (s : ByteArray) (w : World) (h0 : s.size ≤ 1000000) :
    Calls Tryz.prog 73 #[.string s] w fun e w' => e = .returned (.string s) ∧ Below w.heap.size w w' := by
  have H0 : Hid (s.size ≤ 281474976710656) := Lib.hid (by omega)
  clear h0
  go_enter Tryz.func73, Tryz.ntmps73
  go_wp2_with (go_at_call 92; (with_reducible refine (Tryz.stringslite_Clone s w H0.out).mono ?_); rintro e w1 ⟨rfl, hb1⟩)
  go_ret
  exact ⟨rfl, hb1⟩
theorem pre_yes (p t : List UInt8) : Lib.hasPrefix (p ++ t) p = true ∧ Lib.trimPrefix (p ++ t) p = t := by
  refine ⟨?_, ?_⟩
  · simp [Lib.hasPrefix]
  · simp [Lib.trimPrefix, Lib.hasPrefix]
theorem pre_no {l p : List UInt8} (h : ¬ p <+: l) : Lib.hasPrefix l p = false ∧ Lib.trimPrefix l p = l := by
  have h1 : Lib.hasPrefix l p = false := by
    cases hb : Lib.hasPrefix l p with
    | false => rfl
    | true => exact absurd (by simpa [Lib.hasPrefix] using hb) h
  exact ⟨h1, by simp [Lib.trimPrefix, h1]⟩
theorem take_yes (b : Nat) (s t p : ByteArray) (w : World) (h : Rd b s w) (h1 : s.data.toList = p.data.toList ++ t.data.toList) :
    Calls Tryz.prog 38 #[.pointer (some ⟨b, 0, none⟩), .string p] w fun e w' => e = .returned (.bool true) ∧ Went b t w w' :=
  take9 b s t p true w h (by rw [h1]; exact (pre_yes _ _).1) (by rw [h1]; exact (pre_yes _ _).2)
theorem take_no (b : Nat) (s p : ByteArray) (w : World) (h : Rd b s w) (h1 : ¬ p.data.toList <+: s.data.toList) :
    Calls Tryz.prog 38 #[.pointer (some ⟨b, 0, none⟩), .string p] w fun e w' => e = .returned (.bool false) ∧ Went b s w w' :=
  take9 b s s p false w h (pre_no h1).1 (pre_no h1).2
set_option maxRecDepth 100000 in
theorem must_yes (b : Nat) (s t p : ByteArray) (w : World) (h : Rd b s w) (h1 : s.data.toList = p.data.toList ++ t.data.toList) :
    Calls Tryz.prog 55 #[.pointer (some ⟨b, 0, none⟩), .string p] w fun e w' => e = .returned (.tuple #[]) ∧ Went b t w w' := by
  have HC := Lib.hid (take_yes b s t p w h h1)
  clear h h1
  go_enter Tryz.func55, Tryz.ntmps55
  go_wp2_with (first
    | (go_at_call 38; (with_reducible refine (HC.out).mono ?_); rintro e1 w1 ⟨rfl, hw1⟩)
    | fail)
  go_end0
  exact ⟨rfl, hw1⟩
set_option maxRecDepth 100000 in
theorem must_no (b : Nat) (s p : ByteArray) (w : World) (h : Rd b s w) (h1 : ¬ p.data.toList <+: s.data.toList) :
    Calls Tryz.prog 55 #[.pointer (some ⟨b, 0, none⟩), .string p] w fun e w' => e = Thrown 80 ∧ Went b s w w' := by
  have HC := Lib.hid (take_no b s p w h h1)
  unfold Thrown
  clear h h1
  go_enter Tryz.func55, Tryz.ntmps55
  go_wp2_with (first
    | (go_at_call 38; (with_reducible refine (HC.out).mono ?_); rintro e1 w1 ⟨rfl, hw1⟩)
    | fail)
  exact ⟨rfl, rfl, hw1⟩
set_option maxHeartbeats 1000000 in
set_option maxRecDepth 100000 in
theorem until_60 (b : Nat) (s t u : ByteArray) (w : World) (h : Rd b s w) (hm : s.size ≤ 1000000) (ht : t.data.toList = s.data.toList.takeWhile (ne 60)) (hu : u.data.toList = s.data.toList.dropWhile (ne 60)) :
    Calls Tryz.prog 42 #[.pointer (some ⟨b, 0, none⟩), .string ⟨#[60]⟩] w fun e w' => e = .returned (.string t) ∧ Went b u w w' := by
  obtain ⟨h1, h2, h3⟩ := tw_split (ne 60) s.data.toList
  have hc := h.cell
  have hf := h.free
  have HR := Lib.hid h
  have hl := congrArg List.length h1
  rw [List.length_append, ← ht, ← hu, ba_l, ba_l, ba_l] at hl
  have HC : Hid (∃ (r : ByteArray) (f : Bool), Calls Tryz.prog 35 #[.string s, .string ⟨#[60]⟩] w (XCutAt t r f w)) := Lib.hid (by
    rcases cut_parts 60 s.data.toList with ⟨k1, k2⟩ | ⟨y, k1, k2⟩
    · have e : t = s := ba_x (ht.trans k2)
      exact ⟨⟨#[]⟩, false, by rw [e]; exact xcut_60_none s w k1⟩
    · exact ⟨⟨y.toArray⟩, true, xcut_60_some s t ⟨y.toArray⟩ w hm (by rw [ht, ba_mk]; exact k1) (by rw [ht]; exact k2)⟩)
  obtain ⟨k, hk⟩ : ∃ k, t.size = k := ⟨_, rfl⟩
  have hex : s.extract k s.size = u := ba_x (by
    rw [extract_l s k s.size (Nat.le_refl _), hu, ← (tw_len (ne 60) s.data.toList).1, ← ht, ba_l, hk, List.take_of_length_le (by rw [List.length_drop, ba_l]; omega)])
  have bk : (0 : Int) ≤ (k : Int) ∧ (k : Int) ≤ (s.size : Int) := by omega
  obtain ⟨r, f, hcut⟩ := HC.out
  have HCUT := Lib.hid hcut
  clear h hm ht hu h1 h2 h3 hl hcut HC
  go_enter Tryz.func42, Tryz.ntmps42
  go_wp2_with (first
    | (go_at_call 35; (with_reducible refine (HCUT.out).mono ?_); rintro e1 w1 ⟨rfl, hb1⟩; have HR1 := Lib.hid (HR.out.below hb1); have hc1 := HR1.out.cell; have hf1 := HR1.out.free)
    | fail)
  go_ret
  exact ⟨rfl, Went.after hb1 ⟨HR1.out.set _, grown_set _ _ _⟩⟩
set_option maxHeartbeats 1000000 in
set_option maxRecDepth 100000 in
theorem until_34 (b : Nat) (s t u : ByteArray) (w : World) (h : Rd b s w) (hm : s.size ≤ 1000000) (ht : t.data.toList = s.data.toList.takeWhile (ne 34)) (hu : u.data.toList = s.data.toList.dropWhile (ne 34)) :
    Calls Tryz.prog 42 #[.pointer (some ⟨b, 0, none⟩), .string ⟨#[34]⟩] w fun e w' => e = .returned (.string t) ∧ Went b u w w' := by
  obtain ⟨h1, h2, h3⟩ := tw_split (ne 34) s.data.toList
  have hc := h.cell
  have hf := h.free
  have HR := Lib.hid h
  have hl := congrArg List.length h1
  rw [List.length_append, ← ht, ← hu, ba_l, ba_l, ba_l] at hl
  have HC : Hid (∃ (r : ByteArray) (f : Bool), Calls Tryz.prog 35 #[.string s, .string ⟨#[34]⟩] w (XCutAt t r f w)) := Lib.hid (by
    rcases cut_parts 34 s.data.toList with ⟨k1, k2⟩ | ⟨y, k1, k2⟩
    · have e : t = s := ba_x (ht.trans k2)
      exact ⟨⟨#[]⟩, false, by rw [e]; exact xcut_34_none s w k1⟩
    · exact ⟨⟨y.toArray⟩, true, xcut_34_some s t ⟨y.toArray⟩ w hm (by rw [ht, ba_mk]; exact k1) (by rw [ht]; exact k2)⟩)
  obtain ⟨k, hk⟩ : ∃ k, t.size = k := ⟨_, rfl⟩
  have hex : s.extract k s.size = u := ba_x (by
    rw [extract_l s k s.size (Nat.le_refl _), hu, ← (tw_len (ne 34) s.data.toList).1, ← ht, ba_l, hk, List.take_of_length_le (by rw [List.length_drop, ba_l]; omega)])
  have bk : (0 : Int) ≤ (k : Int) ∧ (k : Int) ≤ (s.size : Int) := by omega
  obtain ⟨r, f, hcut⟩ := HC.out
  have HCUT := Lib.hid hcut
  clear h hm ht hu h1 h2 h3 hl hcut HC
  go_enter Tryz.func42, Tryz.ntmps42
  go_wp2_with (first
    | (go_at_call 35; (with_reducible refine (HCUT.out).mono ?_); rintro e1 w1 ⟨rfl, hb1⟩; have HR1 := Lib.hid (HR.out.below hb1); have hc1 := HR1.out.cell; have hf1 := HR1.out.free)
    | fail)
  go_ret
  exact ⟨rfl, Went.after hb1 ⟨HR1.out.set _, grown_set _ _ _⟩⟩
set_option maxHeartbeats 1000000 in
set_option maxRecDepth 100000 in
theorem until_39 (b : Nat) (s t u : ByteArray) (w : World) (h : Rd b s w) (hm : s.size ≤ 1000000) (ht : t.data.toList = s.data.toList.takeWhile (ne 39)) (hu : u.data.toList = s.data.toList.dropWhile (ne 39)) :
    Calls Tryz.prog 42 #[.pointer (some ⟨b, 0, none⟩), .string ⟨#[39]⟩] w fun e w' => e = .returned (.string t) ∧ Went b u w w' := by
  obtain ⟨h1, h2, h3⟩ := tw_split (ne 39) s.data.toList
  have hc := h.cell
  have hf := h.free
  have HR := Lib.hid h
  have hl := congrArg List.length h1
  rw [List.length_append, ← ht, ← hu, ba_l, ba_l, ba_l] at hl
  have HC : Hid (∃ (r : ByteArray) (f : Bool), Calls Tryz.prog 35 #[.string s, .string ⟨#[39]⟩] w (XCutAt t r f w)) := Lib.hid (by
    rcases cut_parts 39 s.data.toList with ⟨k1, k2⟩ | ⟨y, k1, k2⟩
    · have e : t = s := ba_x (ht.trans k2)
      exact ⟨⟨#[]⟩, false, by rw [e]; exact xcut_39_none s w k1⟩
    · exact ⟨⟨y.toArray⟩, true, xcut_39_some s t ⟨y.toArray⟩ w hm (by rw [ht, ba_mk]; exact k1) (by rw [ht]; exact k2)⟩)
  obtain ⟨k, hk⟩ : ∃ k, t.size = k := ⟨_, rfl⟩
  have hex : s.extract k s.size = u := ba_x (by
    rw [extract_l s k s.size (Nat.le_refl _), hu, ← (tw_len (ne 39) s.data.toList).1, ← ht, ba_l, hk, List.take_of_length_le (by rw [List.length_drop, ba_l]; omega)])
  have bk : (0 : Int) ≤ (k : Int) ∧ (k : Int) ≤ (s.size : Int) := by omega
  obtain ⟨r, f, hcut⟩ := HC.out
  have HCUT := Lib.hid hcut
  clear h hm ht hu h1 h2 h3 hl hcut HC
  go_enter Tryz.func42, Tryz.ntmps42
  go_wp2_with (first
    | (go_at_call 35; (with_reducible refine (HCUT.out).mono ?_); rintro e1 w1 ⟨rfl, hb1⟩; have HR1 := Lib.hid (HR.out.below hb1); have hc1 := HR1.out.cell; have hf1 := HR1.out.free)
    | fail)
  go_ret
  exact ⟨rfl, Went.after hb1 ⟨HR1.out.set _, grown_set _ _ _⟩⟩
theorem tw_at (p : UInt8 → Bool) : ∀ {l : List UInt8} {k : Nat}, k ≤ l.length → (∀ c ∈ l.take k, p c = true) → (∀ h : k < l.length, p (l[k]'h) = false) → l.takeWhile p = l.take k ∧ l.dropWhile p = l.drop k := by
  intro l k hk h1 h2
  have := tw_app (p := p) (a := l.take k) (b := l.drop k) h1 (fun c r e => by
    have hlt : k < l.length := by
      rcases Nat.lt_or_ge k l.length with h | h
      · exact h
      · rw [List.drop_of_length_le h] at e; cases e
    rw [List.drop_eq_getElem_cons hlt] at e
    injection e with e _
    rw [← e]
    exact h2 hlt)
  rwa [List.take_append_drop] at this
theorem all_step9 (p : UInt8 → Bool) {l : List UInt8} {k : Nat} (hk : k < l.length) (h : ∀ c ∈ l.take k, p c = true) (h1 : p (l[k]'hk) = true) : ∀ c ∈ l.take (k + 1), p c = true := by
  intro c hc
  rw [List.take_succ_eq_append_getElem hk, List.mem_append, List.mem_singleton] at hc
  rcases hc with hc | rfl
  · exact h c hc
  · exact h1
set_option maxRecDepth 100000 in
theorem word1 (c : UInt8) (w : World) (q : Bool) (h : wch c = q) :
    Calls Tryz.prog 72 #[.int .u8 c.toNat] w fun e w' => e = .returned (.bool q) ∧ w = w' := by
  unfold wch at h
  by_cases h58 : c = 58
  · subst h58
    obtain rfl : true = q := by rw [← h]; decide
    clear h
    go_enter Tryz.func72, Tryz.ntmps72
    go_wp2_with fail
    go_ret
    exact ⟨rfl, rfl⟩
  · have h2 : nch c = q := by rw [← h, (by simpa using h58 : (c == 58) = false), Bool.or_false]
    have HN := Lib.hid h2
    have g58 : ((c.toNat : Int) == 58) = false := by
      have : c.toNat ≠ 58 := fun e => h58 (UInt8.toNat_inj.1 e)
      simp; omega
    clear h h2 h58
    cases q with
    | false =>
      go_enter Tryz.func72, Tryz.ntmps72
      go_wp2_with (first
        | (go_at_call 33; (with_reducible refine (goesOn9 c _ false HN.out).mono ?_); rintro e1 w1 ⟨rfl, rfl⟩)
        | fail)
      go_ret
      exact ⟨rfl, rfl⟩
    | true =>
      go_enter Tryz.func72, Tryz.ntmps72
      go_wp2_with (first
        | (go_at_call 33; (with_reducible refine (goesOn9 c _ true HN.out).mono ?_); rintro e1 w1 ⟨rfl, rfl⟩)
        | fail)
      go_ret
      exact ⟨rfl, rfl⟩
theorem blk_index (c : UInt8) : ∃ j : Int, Lib.indexByte [32, 9, 10, 13] c = j ∧ decide ((0 : Int) ≤ j) = blk c := by
  refine ⟨_, rfl, ?_⟩
  rcases xix_cases [32, 9, 10, 13] c with ⟨h1, h2⟩ | ⟨i, h1, _, h2, _⟩
  · rw [h1]
    simp only [List.mem_cons, List.not_mem_nil, or_false, not_or] at h2
    unfold blk
    simp [h2.1, h2.2.1, h2.2.2.1, h2.2.2.2]
  · rw [h1]
    have hm : c ∈ ([32, 9, 10, 13] : List UInt8) := by rw [h2]; simp
    simp only [List.mem_cons, List.not_mem_nil, or_false] at hm
    have : blk c = true := by rcases hm with rfl | rfl | rfl | rfl <;> decide
    rw [this]
    exact decide_eq_true (by omega)
set_option maxRecDepth 100000 in
theorem blank1 (c : UInt8) (w : World) (q : Bool) (h : blk c = q) :
    Calls Tryz.prog 74 #[.int .u8 c.toNat] w fun e w' => e = .returned (.bool q) ∧ w = w' := by
  obtain ⟨j, hj, hd⟩ := blk_index c
  rw [h] at hd
  have HC : Hid (Calls Tryz.prog 88 #[.string ⟨#[32, 9, 10, 13]⟩, .int .u8 c.toNat] w fun e w' => e = .returned (.int .i64 j) ∧ w = w') := Lib.hid ((Tryz.stringslite_IndexByte ⟨#[32, 9, 10, 13]⟩ _ w).mono fun e w' ⟨k1, k2⟩ => ⟨by rw [k1, ← hj]; simp, k2.symm⟩)
  clear h hj
  go_enter Tryz.func74, Tryz.ntmps74
  go_wp2_with (first
    | (go_at_call 88; (with_reducible refine (HC.out).mono ?_); rintro e1 w1 ⟨rfl, rfl⟩)
    | go_in)
  go_ret
  first
    | exact ⟨rfl, rfl⟩
    | exact ⟨ret_b hd, rfl⟩
set_option maxHeartbeats 2000000 in
set_option maxRecDepth 100000 in
theorem while_word (b : Nat) (s t u : ByteArray) (w : World) (h : Rd b s w) (hm : s.size ≤ 1000000) (ht : t.data.toList = s.data.toList.takeWhile wch) (hu : u.data.toList = s.data.toList.dropWhile wch) :
    Calls Tryz.prog 71 #[.pointer (some ⟨b, 0, none⟩), .func (.func 72) #[] #[]] w fun e w' => e = .returned (.string t) ∧ Went b u w w' := by
  have hc := h.cell
  have hf := h.free
  have HR := Lib.hid h
  have HM := Lib.hid hm
  have HEND : Hid (∀ k, k ≤ s.size → (∀ c ∈ s.data.toList.take k, wch c = true) → (∀ h : k < s.data.toList.length, wch (s.data.toList[k]'h) = false) → s.extract 0 k = t ∧ s.extract k s.size = u) := Lib.hid fun k hk h1 h2 => by
    obtain ⟨e1, e2⟩ := tw_at wch (by rw [ba_l]; exact hk) h1 h2
    refine ⟨ba_x ?_, ba_x ?_⟩
    · rw [extract_l s 0 k hk, ht, e1, List.drop_zero, Nat.sub_zero]
    · rw [extract_l s k s.size (Nat.le_refl _), hu, e2, List.take_of_length_le (by rw [List.length_drop, ba_l]; omega)]
  clear h ht hu hm
  go_enter Tryz.func71, Tryz.ntmps71
  go_wp2_with fail
  go_loopw [5] (fun i wr => ∃ k : Nat, k ≤ s.size ∧ i = .int .i64 k ∧ (∀ c ∈ s.data.toList.take k, wch c = true) ∧ w = wr) (fun i _ => s.size - (intOf i).toNat)
  case atStart => exact ⟨0, Nat.zero_le _, rfl, by simp, by first | rfl | trivial⟩
  case round =>
    obtain ⟨k, hk, rfl, hn, rfl⟩ := hrel
    have hs := HM.out
    by_cases hlt : k < s.size
    · obtain ⟨d, hd⟩ : ∃ d, s[k]'hlt = d := ⟨_, rfl⟩
      have hda : ∀ h, s[k]'h = d := fun _ => hd
      have hkl : k < s.data.toList.length := by rw [ba_l]; exact hlt
      have hdk : s.data.toList[k]'hkl = d := (at_l s k hlt).trans hd
      have bk : (0 : Int) ≤ (k : Int) ∧ (k : Int) < (s.size : Int) := by omega
      have bk2 : (0 : Int) ≤ (k : Int) ∧ (k : Int) ≤ (s.size : Int) := by omega
      cases hg : wch d with
      | false =>
        have HD := Lib.hid hg
        obtain ⟨e1, e2⟩ := HEND.out k hk hn (fun _ => by rw [hdk]; exact hg)
        clear hg hd hdk hn
        go_wp2_with (first
          | (go_at_call 72; (with_reducible refine (word1 d _ false HD.out).mono ?_); rintro e1 w1 ⟨rfl, rfl⟩)
          | fail)
        go_ret
        exact ⟨rfl, HR.out.set _, grown_set _ _ _⟩
      | true =>
        have HD := Lib.hid hg
        have HV := Lib.hid (all_step9 wch hkl hn (by rw [hdk]; exact hg))
        clear hg hd hdk hn
        go_wp2_with (first
          | (go_at_call 72; (with_reducible refine (word1 d _ true HD.out).mono ?_); rintro e1 w1 ⟨rfl, rfl⟩)
          | fail)
        go_roundw
        case rel => exact ⟨k + 1, hlt, by go_num, HV.out, by first | rfl | trivial⟩
        case measure => simp [intOf]; omega
    · obtain rfl : k = s.size := by omega
      obtain ⟨e1, e2⟩ := HEND.out s.size (Nat.le_refl _) hn (fun h => by rw [ba_l] at h; omega)
      obtain rfl : s = t := by rw [← e1]; exact (ba_x (by rw [extract_l s 0 s.size (Nat.le_refl _), List.drop_zero, Nat.sub_zero, List.take_of_length_le (by rw [ba_l]; exact Nat.le_refl _)])).symm
      obtain rfl : ByteArray.empty = u := by rw [← e2]; exact (ba_x (by rw [extract_l s s.size s.size (Nat.le_refl _), List.drop_of_length_le (by rw [ba_l]; exact Nat.le_refl _), List.take_nil]; rfl)).symm
      clear e1 e2
      have bk2 : (0 : Int) ≤ (s.size : Int) ∧ (s.size : Int) ≤ (s.size : Int) := by omega
      clear hn
      go_wp2_with fail
      go_ret
      exact ⟨rfl, HR.out.set _, grown_set _ _ _⟩
set_option maxHeartbeats 2000000 in
set_option maxRecDepth 100000 in
theorem while_blank (b : Nat) (s t u : ByteArray) (w : World) (h : Rd b s w) (hm : s.size ≤ 1000000) (ht : t.data.toList = s.data.toList.takeWhile blk) (hu : u.data.toList = s.data.toList.dropWhile blk) :
    Calls Tryz.prog 71 #[.pointer (some ⟨b, 0, none⟩), .func (.func 74) #[] #[]] w fun e w' => e = .returned (.string t) ∧ Went b u w w' := by
  have hc := h.cell
  have hf := h.free
  have HR := Lib.hid h
  have HM := Lib.hid hm
  have HEND : Hid (∀ k, k ≤ s.size → (∀ c ∈ s.data.toList.take k, blk c = true) → (∀ h : k < s.data.toList.length, blk (s.data.toList[k]'h) = false) → s.extract 0 k = t ∧ s.extract k s.size = u) := Lib.hid fun k hk h1 h2 => by
    obtain ⟨e1, e2⟩ := tw_at blk (by rw [ba_l]; exact hk) h1 h2
    refine ⟨ba_x ?_, ba_x ?_⟩
    · rw [extract_l s 0 k hk, ht, e1, List.drop_zero, Nat.sub_zero]
    · rw [extract_l s k s.size (Nat.le_refl _), hu, e2, List.take_of_length_le (by rw [List.length_drop, ba_l]; omega)]
  clear h ht hu hm
  go_enter Tryz.func71, Tryz.ntmps71
  go_wp2_with fail
  go_loopw [5] (fun i wr => ∃ k : Nat, k ≤ s.size ∧ i = .int .i64 k ∧ (∀ c ∈ s.data.toList.take k, blk c = true) ∧ w = wr) (fun i _ => s.size - (intOf i).toNat)
  case atStart => exact ⟨0, Nat.zero_le _, rfl, by simp, by first | rfl | trivial⟩
  case round =>
    obtain ⟨k, hk, rfl, hn, rfl⟩ := hrel
    have hs := HM.out
    by_cases hlt : k < s.size
    · obtain ⟨d, hd⟩ : ∃ d, s[k]'hlt = d := ⟨_, rfl⟩
      have hda : ∀ h, s[k]'h = d := fun _ => hd
      have hkl : k < s.data.toList.length := by rw [ba_l]; exact hlt
      have hdk : s.data.toList[k]'hkl = d := (at_l s k hlt).trans hd
      have bk : (0 : Int) ≤ (k : Int) ∧ (k : Int) < (s.size : Int) := by omega
      have bk2 : (0 : Int) ≤ (k : Int) ∧ (k : Int) ≤ (s.size : Int) := by omega
      cases hg : blk d with
      | false =>
        have HD := Lib.hid hg
        obtain ⟨e1, e2⟩ := HEND.out k hk hn (fun _ => by rw [hdk]; exact hg)
        clear hg hd hdk hn
        go_wp2_with (first
          | (go_at_call 74; (with_reducible refine (blank1 d _ false HD.out).mono ?_); rintro e1 w1 ⟨rfl, rfl⟩)
          | fail)
        go_ret
        exact ⟨rfl, HR.out.set _, grown_set _ _ _⟩
      | true =>
        have HD := Lib.hid hg
        have HV := Lib.hid (all_step9 blk hkl hn (by rw [hdk]; exact hg))
        clear hg hd hdk hn
        go_wp2_with (first
          | (go_at_call 74; (with_reducible refine (blank1 d _ true HD.out).mono ?_); rintro e1 w1 ⟨rfl, rfl⟩)
          | fail)
        go_roundw
        case rel => exact ⟨k + 1, hlt, by go_num, HV.out, by first | rfl | trivial⟩
        case measure => simp [intOf]; omega
    · obtain rfl : k = s.size := by omega
      obtain ⟨e1, e2⟩ := HEND.out s.size (Nat.le_refl _) hn (fun h => by rw [ba_l] at h; omega)
      obtain rfl : s = t := by rw [← e1]; exact (ba_x (by rw [extract_l s 0 s.size (Nat.le_refl _), List.drop_zero, Nat.sub_zero, List.take_of_length_le (by rw [ba_l]; exact Nat.le_refl _)])).symm
      obtain rfl : ByteArray.empty = u := by rw [← e2]; exact (ba_x (by rw [extract_l s s.size s.size (Nat.le_refl _), List.drop_of_length_le (by rw [ba_l]; exact Nat.le_refl _), List.take_nil]; rfl)).symm
      clear e1 e2
      have bk2 : (0 : Int) ≤ (s.size : Int) ∧ (s.size : Int) ≤ (s.size : Int) := by omega
      clear hn
      go_wp2_with fail
      go_ret
      exact ⟨rfl, HR.out.set _, grown_set _ _ _⟩
set_option maxRecDepth 100000 in
theorem blank9 (b : Nat) (s u : ByteArray) (q : Bool) (w : World) (h : Rd b s w) (hm : s.size ≤ 1000000) (hu : u.data.toList = s.data.toList.dropWhile blk) (hq : decide (s.size ≠ u.size) = q) :
    Calls Tryz.prog 54 #[.pointer (some ⟨b, 0, none⟩)] w fun e w' => e = .returned (.bool q) ∧ Went b u w w' := by
  obtain ⟨t, ht⟩ : ∃ t : ByteArray, t.data.toList = s.data.toList.takeWhile blk := ⟨⟨(s.data.toList.takeWhile blk).toArray⟩, by simp⟩
  have HC := Lib.hid (while_blank b s t u w h hm ht hu)
  have hl := congrArg List.length (tw_split blk s.data.toList).1
  rw [List.length_append, ← ht, ← hu, ba_l, ba_l, ba_l] at hl
  have hem : t.toList.isEmpty = !q := by
    rw [empty_l, ← hq]
    by_cases h0 : t.size = 0
    · rw [decide_eq_true h0, decide_eq_false (by omega)]; rfl
    · rw [decide_eq_false h0, decide_eq_true (by omega)]; rfl
  clear h hm hu hq ht hl
  cases q with
  | false =>
    go_enter Tryz.func54, Tryz.ntmps54
    go_wp2_with (first
      | (go_at_call 71; (with_reducible refine (HC.out).mono ?_); rintro e1 w1 ⟨rfl, hw1⟩)
      | fail)
    go_ret
    exact ⟨rfl, hw1⟩
  | true =>
    go_enter Tryz.func54, Tryz.ntmps54
    go_wp2_with (first
      | (go_at_call 71; (with_reducible refine (HC.out).mono ?_); rintro e1 w1 ⟨rfl, hw1⟩)
      | fail)
    go_ret
    exact ⟨rfl, hw1⟩
theorem blank9_ (b : Nat) (s u : ByteArray) (w : World) (h : Rd b s w) (hm : s.size ≤ 1000000) (hu : u.data.toList = s.data.toList.dropWhile blk) :
    Calls Tryz.prog 54 #[.pointer (some ⟨b, 0, none⟩)] w fun e w' => (∃ q, e = .returned (.bool q)) ∧ Went b u w w' :=
  (blank9 b s u _ w h hm hu rfl).mono fun e w' h => ⟨⟨_, h.1⟩, h.2⟩
set_option maxHeartbeats 1000000 in
set_option maxRecDepth 100000 in
theorem full_yes (b : Nat) (s t u : ByteArray) (w : World) (h : Rd b s w) (hm : s.size ≤ 1000000) (ht : t.data.toList = s.data.toList.takeWhile wch) (hu : u.data.toList = s.data.toList.dropWhile wch) (hf : fullL t.data.toList = true) :
    Calls Tryz.prog 53 #[.pointer (some ⟨b, 0, none⟩)] w fun e w' => e = .returned (.string t) ∧ Went b u w w' := by
  have HC := Lib.hid (while_word b s t u w h hm ht hu)
  have hl := congrArg List.length (tw_split wch s.data.toList).1
  rw [List.length_append, ← ht, ← hu, ba_l, ba_l, ba_l] at hl
  have HT : Hid (t.size ≤ 1000000) := Lib.hid (by omega)
  have HF := Lib.hid hf
  clear h hm hu ht hl hf
  go_enter Tryz.func53, Tryz.ntmps53
  go_wp2_with (first
    | (go_at_call 71; (with_reducible refine (HC.out).mono ?_); rintro e1 w1 ⟨rfl, hw1⟩; have HW1 := Lib.hid hw1; clear hw1)
    | (go_at_call 19; (with_reducible refine (full9q t _ HT.out true HF.out).mono ?_); rintro e2 w2 ⟨rfl, hb2⟩; have HW2 := Lib.hid (HW1.out.then hb2); clear hb2)
    | (go_at_call 73; (with_reducible refine (clone9 t _ HT.out).mono ?_); rintro e3 w3 ⟨rfl, hb3⟩)
    | fail)
  go_ret
  exact ⟨rfl, HW2.out.then hb3⟩
set_option maxHeartbeats 1000000 in
set_option maxRecDepth 100000 in
theorem full_no (b : Nat) (s : ByteArray) (w : World) (h : Rd b s w) (hm : s.size ≤ 1000000) (hf : fullL (s.data.toList.takeWhile wch) = false) :
    Calls Tryz.prog 53 #[.pointer (some ⟨b, 0, none⟩)] w fun e w' => e = Thrown 80 ∧ ∃ u, Went b u w w' := by
  obtain ⟨t, ht⟩ : ∃ t : ByteArray, t.data.toList = s.data.toList.takeWhile wch := ⟨⟨(s.data.toList.takeWhile wch).toArray⟩, by simp⟩
  obtain ⟨u, hu⟩ : ∃ u : ByteArray, u.data.toList = s.data.toList.dropWhile wch := ⟨⟨(s.data.toList.dropWhile wch).toArray⟩, by simp⟩
  rw [← ht] at hf
  have HC := Lib.hid (while_word b s t u w h hm ht hu)
  have hl := congrArg List.length (tw_split wch s.data.toList).1
  rw [List.length_append, ← ht, ← hu, ba_l, ba_l, ba_l] at hl
  have HT : Hid (t.size ≤ 1000000) := Lib.hid (by omega)
  have HF := Lib.hid hf
  unfold Thrown
  clear h hm hu ht hl hf
  go_enter Tryz.func53, Tryz.ntmps53
  go_wp2_with (first
    | (go_at_call 71; (with_reducible refine (HC.out).mono ?_); rintro e1 w1 ⟨rfl, hw1⟩; have HW1 := Lib.hid hw1; clear hw1)
    | (go_at_call 19; (with_reducible refine (full9q t _ HT.out false HF.out).mono ?_); rintro e2 w2 ⟨rfl, hb2⟩; have HW2 := Lib.hid (HW1.out.then hb2); clear hb2)
    | fail)
  exact ⟨rfl, rfl, _, HW2.out⟩
theorem getR_told {s t : ByteArray} (hp : isP s.data.toList = true) (hs : s.size ≤ 16384) (h : rd s.data.toList = some t.data.toList) : getR s = (t, 0) := by
  unfold getR
  rw [if_neg (by unfold chkE; rw [if_neg (by omega), if_pos (show (pts s.data.toList).isSome = true from hp)]; decide), h]
theorem getR_none9 {s : ByteArray} (hp : isP s.data.toList = true) (hs : s.size ≤ 16384) (h : rd s.data.toList = none) : getR s = (⟨#[]⟩, 80) := by
  unfold getR
  rw [if_neg (by unfold chkE; rw [if_neg (by omega), if_pos (show (pts s.data.toList).isSome = true from hp)]; decide), h]
set_option maxRecDepth 100000 in
theorem plain_yes (s t : ByteArray) (w : World) (hp : isP s.data.toList = true) (hs : s.size ≤ 16384) (h : rd s.data.toList = some t.data.toList) (hE : Ev w) :
    Calls Tryz.prog 41 #[.string s] w fun e w' => e = .returned (.string t) ∧ Below w.heap.size w w' := by
  have HC := Lib.hid (get8 s t 0 w (by omega) (getR_told hp hs h) hE)
  clear hp hs h hE
  go_enter Tryz.func41, Tryz.ntmps41
  go_wp2_with (first
    | (go_at_call 58; (with_reducible refine (HC.out).mono ?_); rintro e1 w1 ⟨rfl, hb1⟩)
    | fail)
  go_ret
  exact ⟨rfl, hb1⟩
set_option maxRecDepth 100000 in
theorem plain_no (s : ByteArray) (w : World) (hp : isP s.data.toList = true) (hs : s.size ≤ 16384) (h : rd s.data.toList = none) (hE : Ev w) :
    Calls Tryz.prog 41 #[.string s] w fun e w' => e = Thrown 80 ∧ Below w.heap.size w w' := by
  have HC := Lib.hid (get8 s ⟨#[]⟩ 80 w (by omega) (getR_none9 hp hs h) hE)
  unfold Thrown
  clear hp hs h hE
  go_enter Tryz.func41, Tryz.ntmps41
  go_wp2_with (first
    | (go_at_call 58; (with_reducible refine (HC.out).mono ?_); rintro e1 w1 ⟨rfl, hb1⟩)
    | fail)
  exact ⟨rfl, rfl, hb1⟩
end Hx
end Go.Proofs.YtichboamakgabaaGreatDoor
