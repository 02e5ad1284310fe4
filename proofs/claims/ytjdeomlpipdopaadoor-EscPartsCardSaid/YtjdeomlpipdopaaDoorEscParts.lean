/-
  Two texts, written one behind the other, are both as they are written; and so with what is read; for every two texts, quoted or not, and no condition besides.
-/
import Derived.Test.YtjdeomlpipdopaaDoorEscW
import Derived.Test.YtjdeomlpipdopaaDoorNumV
import Derived.Test.YtjdeomlpipdopaaDoorCards
import Derived.Test.YtjdeomlpipdopaaDoorTie
import Derived.LaidMore
import Derived.LaidSub
import Derived.MakeChecks
import Derived.Stop.Joined
import Derived.Lib.LaidTab
import Derived.SevenTiedAt
import Derived.Stop.LaidErr
import Derived.WalkKit
import Derived.ProofKit
import Derived.OpenShut
import Derived.ShutString
import Derived.ChangeOld
import Derived.Below
namespace Go.Proofs.YtjdeomlpipdopaaDoor.escParts
open Go.ChangeShapes Go.WideShapes Go.ChangeAt Go.RowKit
open Go.ChangeMaps (open_string shut_string)
open Hx Tx Nmb Es
set_option linter.unusedVariables false

theorem own : ownKnob Tryd.prog.godebug = none := by kernel_rfl
theorem laidOut : laidOutB Tryd.prog = true := by kernel_rfl

theorem escS_app (q : Bool) (a b : ByteArray) : escS q (a ++ b) = escS q a ++ escS q b := by
  have e : (escS q (a ++ b)).data.toList = (escS q a ++ escS q b).data.toList := by
    show escL q (a ++ b).data.toList = _
    simp [escS, escL]
  rw [ba_eq5 (escS q (a ++ b)), e, ← ba_eq5]
theorem app_list (a b : ByteArray) : (a ++ b).data.toList = a.data.toList ++ b.data.toList := by simp
theorem app_size (a b : ByteArray) : (a ++ b).size = a.size + b.size := by rw [← ba_len5, app_list, List.length_append, ba_len5, ba_len5]
theorem put_parts {a b x y : ByteArray} {q : Bool} (ha : a.size ≤ 1000) (hb : b.size ≤ 1000) (h1 : putR a q = (x, 0)) (h2 : putR b q = (y, 0)) : putR (a ++ b) q = (x ++ y, 0) ∧ x.size ≤ 6000 ∧ y.size ≤ 6000 := by
  have k : ∀ {s t : ByteArray}, s.size ≤ 1000 → putR s q = (t, 0) → chkE s = 0 ∧ escS q s = t := by
    intro s t hs hp
    by_cases h0 : chkE s = 0
    · rw [putR_in q (by omega) h0] at hp
      cases hp
      exact ⟨h0, rfl⟩
    · unfold putR at hp
      rw [if_pos h0] at hp
      exact absurd (congrArg Prod.snd hp) h0
  obtain ⟨c1, rfl⟩ := k ha h1
  obtain ⟨c2, rfl⟩ := k hb h2
  have hs : (a ++ b).size ≤ 2000 := by rw [app_size]; omega
  have hc : chkE (a ++ b) = 0 := by
    rw [chk_in (by omega), app_list]
    exact pts_app ((chk_in (by omega)).1 c1) ((chk_in (by omega)).1 c2)
  have z1 := (escS_size q a).2
  have z2 := (escS_size q b).2
  exact ⟨by rw [putR_in q hs hc, escS_app], by omega, by omega⟩
theorem get_parts {a b x y : ByteArray} (ha : a.size ≤ 1000) (hb : b.size ≤ 1000) (h1 : getR a = (x, 0)) (h2 : getR b = (y, 0)) : getR (a ++ b) = (x ++ y, 0) := by
  have k : ∀ {s t : ByteArray}, getR s = (t, 0) → chkE s = 0 ∧ rd s.data.toList = some t.data.toList := by
    intro s t hp
    unfold getR at hp
    by_cases h0 : chkE s = 0
    · rw [if_neg (by simpa using h0)] at hp
      cases hr : rd s.data.toList with
      | none => rw [hr] at hp; cases hp
      | some z =>
        rw [hr] at hp
        cases hp
        exact ⟨h0, rfl⟩
    · rw [if_pos h0] at hp
      exact absurd (congrArg Prod.snd hp) h0
  obtain ⟨c1, r1⟩ := k h1
  obtain ⟨c2, r2⟩ := k h2
  have hs : (a ++ b).size ≤ 2000 := by rw [app_size]; omega
  have hc : chkE (a ++ b) = 0 := by
    rw [chk_in (by omega), app_list]
    exact pts_app ((chk_in (by unfold chkE at c1; split at c1 <;> first | omega | cases c1)).1 c1) ((chk_in (by unfold chkE at c2; split at c2 <;> first | omega | cases c2)).1 c2)
  unfold getR
  rw [if_neg (by simpa using hc), app_list, rd_append _ _ _ r1, r2]
  refine Prod.ext ?_ rfl
  show (⟨(x.data.toList ++ y.data.toList).toArray⟩ : ByteArray) = x ++ y
  rw [ba_eq5 (x ++ y), app_list]
theorem rd_len : ∀ (n : Nat) (l z : List UInt8), l.length ≤ n → rd l = some z → z.length ≤ 4 * l.length
  | n, [], z, _, h => by cases h; simp
  | 0, c :: l, z, h, _ => by simp at h
  | n + 1, c :: l, z, hn, h => by
    simp only [List.length_cons] at hn
    by_cases h60 : c = 60
    · subst h60; rw [rd_bad] at h; cases h
    · by_cases h38 : c = 38
      · subst h38
        rw [rd_amp] at h
        cases hs : semi l with
        | none => rw [hs] at h; cases h
        | some p =>
          obtain ⟨x, t⟩ := p
          rw [hs] at h
          simp only at h
          have hl := congrArg List.length (semi_some l x t hs).1
          simp only [List.length_append, List.length_cons] at hl
          cases hm : meantL x with
          | none => rw [hm] at h; cases h
          | some y =>
            rw [hm] at h
            simp only at h
            rw [Option.map_eq_some_iff] at h
            obtain ⟨u, hu, rfl⟩ := h
            have h1 := rd_len n t u (by omega) hu
            have h2 := meantL_len hm
            simp only [List.length_append, List.length_cons]
            omega
      · rw [rd_byte c l h60 h38, Option.map_eq_some_iff] at h
        obtain ⟨u, hu, rfl⟩ := h
        have h1 := rd_len n l u (by omega) hu
        simp only [List.length_cons]
        omega
theorem getR_size {s t : ByteArray} {e : Int} (h : getR s = (t, e)) : t.size ≤ 4 * s.size := by
  unfold getR at h
  split at h
  · cases h; exact Nat.zero_le _
  · cases hr : rd s.data.toList with
    | none => rw [hr] at h; cases h; exact Nat.zero_le _
    | some z =>
      rw [hr] at h
      cases h
      show z.length ≤ _
      rw [← ba_len5]
      exact rd_len _ _ _ (Nat.le_refl _) hr
set_option maxHeartbeats 1000000 in
set_option maxRecDepth 100000 in
theorem walkOut (a b : ByteArray) (q : Bool) (w : World) (h : 1000 < a.size ∨ (a.size ≤ 1000 ∧ 1000 < b.size)) (hT : Tb w := by first | assumption | exact Tb.to (by assumption) (by assumption)) (hE : Ev w := by first | assumption | exact Ev.to (by assumption) (by assumption)) :
    Calls Tryd.prog 6 #[.string a, .string b, .bool q] w fun e w' => e = .returned (.bool true) ∧ Below w.heap.size w w' := by
  rcases h with h | ⟨h, h2⟩
  · have da : decide ((1000 : Int) < (a.size : Int)) = true := by simp; omega
    have fa : 1000 < a.size := by omega
    clear h
    go_enter Tryd.func6, Tryd.ntmps6
    go_wp2_with (first
      | (go_at_call 11; (with_reducible refine (alive8 w).mono ?_); rintro e w1 ⟨rfl, hb1⟩; have hB1 := hb1)
      | fail)
    go_ret
    exact ⟨rfl, hB1⟩
  · have da : decide ((1000 : Int) < (a.size : Int)) = false := by simp; omega
    have fa : ¬ 1000 < a.size := by omega
    have db : decide ((1000 : Int) < (b.size : Int)) = true := by simp; omega
    have fb : 1000 < b.size := by omega
    clear h h2
    go_enter Tryd.func6, Tryd.ntmps6
    go_wp2_with (first
      | (go_at_call 11; (with_reducible refine (alive8 w).mono ?_); rintro e w1 ⟨rfl, hb1⟩; have hB1 := hb1)
      | fail)
    go_ret
    exact ⟨rfl, hB1⟩
set_option maxHeartbeats 8000000 in
set_option maxRecDepth 100000 in
theorem walkIn (a b x y z v s u zv : ByteArray) (q : Bool) (e f g h : Int) (w : World) (ha : a.size ≤ 1000) (hb : b.size ≤ 1000) (hp : putR a q = (x, e)) (hp2 : putR b q = (y, f)) (hg : getR a = (z, g)) (hg2 : getR b = (v, h)) (hs : a ++ b = s) (hu : x ++ y = u) (hzv : z ++ v = zv) (hT : Tb w := by first | assumption | exact Tb.to (by assumption) (by assumption)) (hE : Ev w := by first | assumption | exact Ev.to (by assumption) (by assumption)) :
    Calls Tryd.prog 6 #[.string a, .string b, .bool q] w fun e w' => e = .returned (.bool true) ∧ Below w.heap.size w w' := by
  have hsz := app_size a b
  rw [hs] at hsz
  have hzs := getR_size hg
  have hvs := getR_size hg2
  have HA : Hid (a.size ≤ 1000000) := Lib.hid (by omega)
  have HB : Hid (b.size ≤ 1000000) := Lib.hid (by omega)
  have HS : Hid (s.size ≤ 1000000) := Lib.hid (by omega)
  have da : decide ((1000 : Int) < (a.size : Int)) = false := by simp; omega
  have db : decide ((1000 : Int) < (b.size : Int)) = false := by simp; omega
  have fa : ¬ 1000 < a.size := by omega
  have fb : ¬ 1000 < b.size := by omega
  have hc1 : ∀ W, (Op.stringOp .add a b).run Tryd.prog W = .ok (.string s) W := fun W => by rw [run_string_add_sum W a b (by omega), hs]
  have hc3 : ∀ W, (Op.stringOp .add z v).run Tryd.prog W = .ok (.string zv) W := fun W => by rw [run_string_add_sum W z v (by omega), hzv]
  have HP := Lib.hid hp
  have HP2 := Lib.hid hp2
  have HG := Lib.hid hg
  have HG2 := Lib.hid hg2
  have HPP : Hid (e = 0 → f = 0 → putR s q = (u, 0) ∧ x.size ≤ 6000 ∧ y.size ≤ 6000) := by
    rintro rfl rfl
    rw [← hs, ← hu]
    exact put_parts ha hb hp hp2
  have HGG : Hid (g = 0 → h = 0 → getR s = (zv, 0)) := by
    rintro rfl rfl
    rw [← hs, ← hzv]
    exact get_parts ha hb hg hg2
  have HU := Lib.hid hu
  clear ha hb hp hp2 hg hg2 hs hu hzv hsz hzs hvs
  by_cases he0 : e = 0
  · subst he0
    by_cases hf0 : f = 0
    · subst hf0
      obtain ⟨k1, k2, k3⟩ := HPP.out rfl rfl
      have HPW := Lib.hid k1
      have hc2 : ∀ W, (Op.stringOp .add x y).run Tryd.prog W = .ok (.string u) W := fun W => by rw [run_string_add_sum W x y (by omega), HU.out]
      clear HPP k1 k2 k3
      by_cases hg0 : g = 0
      · subst hg0
        by_cases hh0 : h = 0
        · subst hh0
          have HGR := Lib.hid (HGG.out rfl rfl)
          clear HGG
          go_enter Tryd.func6, Tryd.ntmps6
          go_wp2_with (first
            | (go_at_call 11; (with_reducible refine (alive8 w).mono ?_); rintro e1 w1 ⟨rfl, hb1⟩; have hB1 := hb1)
            | (go_at_call 8; (with_reducible refine (put8 a x q 0 w1 HA.out HP.out).mono ?_); rintro e1 w2 ⟨rfl, hb2⟩; have hB2 := stp hB1 hb2)
            | (go_at_call 8; (with_reducible refine (put8 b y q 0 w2 HB.out HP2.out).mono ?_); rintro e1 w3 ⟨rfl, hb3⟩; have hB3 := stp hB2 hb3)
            | (go_at_call 13; (with_reducible refine (writes_yes s u q w3 HS.out HPW.out).mono ?_); rintro e1 w4 ⟨rfl, hb4⟩; have hB4 := stp hB3 hb4)
            | (go_at_call 9; (with_reducible refine (get8 a z 0 w4 HA.out HG.out).mono ?_); rintro e1 w5 ⟨rfl, hb5⟩; have hB5 := stp hB4 hb5)
            | (go_at_call 9; (with_reducible refine (get8 b v 0 w5 HB.out HG2.out).mono ?_); rintro e1 w6 ⟨rfl, hb6⟩; have hB6 := stp hB5 hb6)
            | (go_at_call 12; (with_reducible refine (reads_yes s zv w6 HS.out HGR.out).mono ?_); rintro e1 w7 ⟨rfl, hb7⟩; have hB7 := stp hB6 hb7)
            | fail)
          go_ret
          exact ⟨rfl, hB7⟩
        · have qh : (h == 0) = false := by simpa using hh0
          have qh' : (h != 0) = true := by simpa using hh0
          clear hh0 HGG
          go_enter Tryd.func6, Tryd.ntmps6
          go_wp2_with (first
            | (go_at_call 11; (with_reducible refine (alive8 w).mono ?_); rintro e1 w1 ⟨rfl, hb1⟩; have hB1 := hb1)
            | (go_at_call 8; (with_reducible refine (put8 a x q 0 w1 HA.out HP.out).mono ?_); rintro e1 w2 ⟨rfl, hb2⟩; have hB2 := stp hB1 hb2)
            | (go_at_call 8; (with_reducible refine (put8 b y q 0 w2 HB.out HP2.out).mono ?_); rintro e1 w3 ⟨rfl, hb3⟩; have hB3 := stp hB2 hb3)
            | (go_at_call 13; (with_reducible refine (writes_yes s u q w3 HS.out HPW.out).mono ?_); rintro e1 w4 ⟨rfl, hb4⟩; have hB4 := stp hB3 hb4)
            | (go_at_call 9; (with_reducible refine (get8 a z 0 w4 HA.out HG.out).mono ?_); rintro e1 w5 ⟨rfl, hb5⟩; have hB5 := stp hB4 hb5)
            | (go_at_call 9; (with_reducible refine (get8 b v h w5 HB.out HG2.out).mono ?_); rintro e1 w6 ⟨rfl, hb6⟩; have hB6 := stp hB5 hb6)
            | fail)
          go_ret
          exact ⟨rfl, hB6⟩
      · have qg : (g == 0) = false := by simpa using hg0
        have qg' : (g != 0) = true := by simpa using hg0
        clear hg0 HGG
        go_enter Tryd.func6, Tryd.ntmps6
        go_wp2_with (first
          | (go_at_call 11; (with_reducible refine (alive8 w).mono ?_); rintro e1 w1 ⟨rfl, hb1⟩; have hB1 := hb1)
          | (go_at_call 8; (with_reducible refine (put8 a x q 0 w1 HA.out HP.out).mono ?_); rintro e1 w2 ⟨rfl, hb2⟩; have hB2 := stp hB1 hb2)
          | (go_at_call 8; (with_reducible refine (put8 b y q 0 w2 HB.out HP2.out).mono ?_); rintro e1 w3 ⟨rfl, hb3⟩; have hB3 := stp hB2 hb3)
          | (go_at_call 13; (with_reducible refine (writes_yes s u q w3 HS.out HPW.out).mono ?_); rintro e1 w4 ⟨rfl, hb4⟩; have hB4 := stp hB3 hb4)
          | (go_at_call 9; (with_reducible refine (get8 a z g w4 HA.out HG.out).mono ?_); rintro e1 w5 ⟨rfl, hb5⟩; have hB5 := stp hB4 hb5)
          | (go_at_call 9; (with_reducible refine (get8 b v h w5 HB.out HG2.out).mono ?_); rintro e1 w6 ⟨rfl, hb6⟩; have hB6 := stp hB5 hb6)
          | fail)
        go_ret
        exact ⟨rfl, hB6⟩
    · have qf : (f == 0) = false := by simpa using hf0
      have qf' : (f != 0) = true := by simpa using hf0
      clear hf0 HPP
      by_cases hg0 : g = 0
      · subst hg0
        by_cases hh0 : h = 0
        · subst hh0
          have HGR := Lib.hid (HGG.out rfl rfl)
          clear HGG
          go_enter Tryd.func6, Tryd.ntmps6
          go_wp2_with (first
            | (go_at_call 11; (with_reducible refine (alive8 w).mono ?_); rintro e1 w1 ⟨rfl, hb1⟩; have hB1 := hb1)
            | (go_at_call 8; (with_reducible refine (put8 a x q 0 w1 HA.out HP.out).mono ?_); rintro e1 w2 ⟨rfl, hb2⟩; have hB2 := stp hB1 hb2)
            | (go_at_call 8; (with_reducible refine (put8 b y q f w2 HB.out HP2.out).mono ?_); rintro e1 w3 ⟨rfl, hb3⟩; have hB3 := stp hB2 hb3)
            | (go_at_call 9; (with_reducible refine (get8 a z 0 w3 HA.out HG.out).mono ?_); rintro e1 w4 ⟨rfl, hb4⟩; have hB4 := stp hB3 hb4)
            | (go_at_call 9; (with_reducible refine (get8 b v 0 w4 HB.out HG2.out).mono ?_); rintro e1 w5 ⟨rfl, hb5⟩; have hB5 := stp hB4 hb5)
            | (go_at_call 12; (with_reducible refine (reads_yes s zv w5 HS.out HGR.out).mono ?_); rintro e1 w6 ⟨rfl, hb6⟩; have hB6 := stp hB5 hb6)
            | fail)
          go_ret
          exact ⟨rfl, hB6⟩
        · have qh : (h == 0) = false := by simpa using hh0
          have qh' : (h != 0) = true := by simpa using hh0
          clear hh0 HGG
          go_enter Tryd.func6, Tryd.ntmps6
          go_wp2_with (first
            | (go_at_call 11; (with_reducible refine (alive8 w).mono ?_); rintro e1 w1 ⟨rfl, hb1⟩; have hB1 := hb1)
            | (go_at_call 8; (with_reducible refine (put8 a x q 0 w1 HA.out HP.out).mono ?_); rintro e1 w2 ⟨rfl, hb2⟩; have hB2 := stp hB1 hb2)
            | (go_at_call 8; (with_reducible refine (put8 b y q f w2 HB.out HP2.out).mono ?_); rintro e1 w3 ⟨rfl, hb3⟩; have hB3 := stp hB2 hb3)
            | (go_at_call 9; (with_reducible refine (get8 a z 0 w3 HA.out HG.out).mono ?_); rintro e1 w4 ⟨rfl, hb4⟩; have hB4 := stp hB3 hb4)
            | (go_at_call 9; (with_reducible refine (get8 b v h w4 HB.out HG2.out).mono ?_); rintro e1 w5 ⟨rfl, hb5⟩; have hB5 := stp hB4 hb5)
            | fail)
          go_ret
          exact ⟨rfl, hB5⟩
      · have qg : (g == 0) = false := by simpa using hg0
        have qg' : (g != 0) = true := by simpa using hg0
        clear hg0 HGG
        go_enter Tryd.func6, Tryd.ntmps6
        go_wp2_with (first
          | (go_at_call 11; (with_reducible refine (alive8 w).mono ?_); rintro e1 w1 ⟨rfl, hb1⟩; have hB1 := hb1)
          | (go_at_call 8; (with_reducible refine (put8 a x q 0 w1 HA.out HP.out).mono ?_); rintro e1 w2 ⟨rfl, hb2⟩; have hB2 := stp hB1 hb2)
          | (go_at_call 8; (with_reducible refine (put8 b y q f w2 HB.out HP2.out).mono ?_); rintro e1 w3 ⟨rfl, hb3⟩; have hB3 := stp hB2 hb3)
          | (go_at_call 9; (with_reducible refine (get8 a z g w3 HA.out HG.out).mono ?_); rintro e1 w4 ⟨rfl, hb4⟩; have hB4 := stp hB3 hb4)
          | (go_at_call 9; (with_reducible refine (get8 b v h w4 HB.out HG2.out).mono ?_); rintro e1 w5 ⟨rfl, hb5⟩; have hB5 := stp hB4 hb5)
          | fail)
        go_ret
        exact ⟨rfl, hB5⟩
  · have qe : (e == 0) = false := by simpa using he0
    have qe' : (e != 0) = true := by simpa using he0
    clear he0 HPP
    by_cases hg0 : g = 0
    · subst hg0
      by_cases hh0 : h = 0
      · subst hh0
        have HGR := Lib.hid (HGG.out rfl rfl)
        clear HGG
        go_enter Tryd.func6, Tryd.ntmps6
        go_wp2_with (first
          | (go_at_call 11; (with_reducible refine (alive8 w).mono ?_); rintro e1 w1 ⟨rfl, hb1⟩; have hB1 := hb1)
          | (go_at_call 8; (with_reducible refine (put8 a x q e w1 HA.out HP.out).mono ?_); rintro e1 w2 ⟨rfl, hb2⟩; have hB2 := stp hB1 hb2)
          | (go_at_call 8; (with_reducible refine (put8 b y q f w2 HB.out HP2.out).mono ?_); rintro e1 w3 ⟨rfl, hb3⟩; have hB3 := stp hB2 hb3)
          | (go_at_call 9; (with_reducible refine (get8 a z 0 w3 HA.out HG.out).mono ?_); rintro e1 w4 ⟨rfl, hb4⟩; have hB4 := stp hB3 hb4)
          | (go_at_call 9; (with_reducible refine (get8 b v 0 w4 HB.out HG2.out).mono ?_); rintro e1 w5 ⟨rfl, hb5⟩; have hB5 := stp hB4 hb5)
          | (go_at_call 12; (with_reducible refine (reads_yes s zv w5 HS.out HGR.out).mono ?_); rintro e1 w6 ⟨rfl, hb6⟩; have hB6 := stp hB5 hb6)
          | fail)
        go_ret
        exact ⟨rfl, hB6⟩
      · have qh : (h == 0) = false := by simpa using hh0
        have qh' : (h != 0) = true := by simpa using hh0
        clear hh0 HGG
        go_enter Tryd.func6, Tryd.ntmps6
        go_wp2_with (first
          | (go_at_call 11; (with_reducible refine (alive8 w).mono ?_); rintro e1 w1 ⟨rfl, hb1⟩; have hB1 := hb1)
          | (go_at_call 8; (with_reducible refine (put8 a x q e w1 HA.out HP.out).mono ?_); rintro e1 w2 ⟨rfl, hb2⟩; have hB2 := stp hB1 hb2)
          | (go_at_call 8; (with_reducible refine (put8 b y q f w2 HB.out HP2.out).mono ?_); rintro e1 w3 ⟨rfl, hb3⟩; have hB3 := stp hB2 hb3)
          | (go_at_call 9; (with_reducible refine (get8 a z 0 w3 HA.out HG.out).mono ?_); rintro e1 w4 ⟨rfl, hb4⟩; have hB4 := stp hB3 hb4)
          | (go_at_call 9; (with_reducible refine (get8 b v h w4 HB.out HG2.out).mono ?_); rintro e1 w5 ⟨rfl, hb5⟩; have hB5 := stp hB4 hb5)
          | fail)
        go_ret
        exact ⟨rfl, hB5⟩
    · have qg : (g == 0) = false := by simpa using hg0
      have qg' : (g != 0) = true := by simpa using hg0
      clear hg0 HGG
      go_enter Tryd.func6, Tryd.ntmps6
      go_wp2_with (first
        | (go_at_call 11; (with_reducible refine (alive8 w).mono ?_); rintro e1 w1 ⟨rfl, hb1⟩; have hB1 := hb1)
        | (go_at_call 8; (with_reducible refine (put8 a x q e w1 HA.out HP.out).mono ?_); rintro e1 w2 ⟨rfl, hb2⟩; have hB2 := stp hB1 hb2)
        | (go_at_call 8; (with_reducible refine (put8 b y q f w2 HB.out HP2.out).mono ?_); rintro e1 w3 ⟨rfl, hb3⟩; have hB3 := stp hB2 hb3)
        | (go_at_call 9; (with_reducible refine (get8 a z g w3 HA.out HG.out).mono ?_); rintro e1 w4 ⟨rfl, hb4⟩; have hB4 := stp hB3 hb4)
        | (go_at_call 9; (with_reducible refine (get8 b v h w4 HB.out HG2.out).mono ?_); rintro e1 w5 ⟨rfl, hb5⟩; have hB5 := stp hB4 hb5)
        | fail)
      go_ret
      exact ⟨rfl, hB5⟩
theorem walk (a0 : ByteArray) (a1 : ByteArray) (a2 : Bool) (w : World) (w0 : a0.size ≤ maxLen) (w1 : a1.size ≤ maxLen) (hT : Tb w := by first | assumption | exact Tb.to (by assumption) (by assumption)) (hE : Ev w := by first | assumption | exact Ev.to (by assumption) (by assumption)) :
    Calls Tryd.prog 6 #[.string a0, .string a1, .bool a2] w fun e w' => e = .returned (.bool true) ∧ Below w.heap.size w w' := by
  by_cases h : 1000 < a0.size ∨ (a0.size ≤ 1000 ∧ 1000 < a1.size)
  · exact walkOut a0 a1 a2 w h
  · exact walkIn a0 a1 _ _ _ _ _ _ _ a2 _ _ _ _ w (by omega) (by omega) rfl rfl rfl rfl rfl rfl rfl

theorem gTab : Tryd.prog.globalNamed "internal/strconv.uint64pow10" = some 1 := by kernel_rfl
theorem gTabType : (Tryd.prog.globals[1]?).map (·.type) = some 116 := by kernel_rfl
/-- What the row's list gives. -/
theorem table {W : World} (h : laidMetH Tryd.prog Rows.escPartsRow.laid W) : Tb W := by
  rw [MakeChecks.laidMetH_plain _ _ _ (by kernel_rfl)] at h
  have h2 := laidMet.filter (fun x => x.1 == "internal/strconv.uint64pow10") h
  have e : Rows.escPartsRow.laid.filter (fun x => x.1 == "internal/strconv.uint64pow10") = [("internal/strconv.uint64pow10", Lib.tabData .u64 Lib.pow10Tab)] := by kernel_rfl
  rw [e] at h2
  exact Lib.tabIs_of_head (rest := []) gTab gTabType Tryd.underlying116 Tryd.underlying86 (by kernel_rfl) (by kernel_rfl) h2
theorem gErr : Tryd.prog.globalNamed "strconv.ErrSyntax" = some 2 := by kernel_rfl
theorem gErrT : (Tryd.prog.globals[2]?).map (·.type) = some 53 := by kernel_rfl
theorem starE : "*" ++ "errors.errorString" = "*errors.errorString" := by decide
theorem rowE (u : TypeId) (h : Tryd.prog.typeName? 3 u = some "*errors.errorString") : u = 124 :=
  typeName_ptr_named (nm := "errors.errorString") (by rw [starE]; kernel_rfl) (by kernel_rfl) (by decide) u (by rw [starE]; exact h)
theorem erred {W : World} (h : laidMetH Tryd.prog Rows.escPartsRow.laid W) : Ev W := by
  rw [MakeChecks.laidMetH_plain _ _ _ (by kernel_rfl)] at h
  have h2 := laidMet.filter (fun x => x.1 == "strconv.ErrSyntax") h
  have e : Rows.escPartsRow.laid.filter (fun x => x.1 == "strconv.ErrSyntax") = [("strconv.ErrSyntax", Rows.laid_strconv_ErrSyntax)] := by kernel_rfl
  rw [e] at h2
  obtain ⟨a, s, h3, _⟩ := laid_sentinel (r := []) h2 gErr gErrT Tryd.underlying53 rowE Tryd.underlying124 Tryd.underlying126 rfl rfl Tryd.underlying9 (by kernel_rfl) (by kernel_rfl)
  exact ⟨_, _, by simpa using World.var?_cell gErr h3 0⟩
theorem door_met (os : Os) (args : Array Value) : laidMetH Tryd.prog Rows.escPartsRow.laid ((World.doorLaid Tryd.prog 400 os).forCall (fun _ _ => 0) ⟨#[], args, []⟩).memory :=
  laidMetH_of_parts3 (fuel := 8) (laidMet_of_run' 8 (by kernel_rfl) (by kernel_rfl)) (by kernel_rfl) (by kernel_rfl)
set_option maxRecDepth 100000 in
theorem lifted (os : Os) (started : os.Started) (H : Type) (enc : TypeId × Value → H) :
    ReturnsInHanded {} Tryd.checked os 6 .any (fun w args => (Rows.escPartsSpec.pre enc Tryd.prog Tryd.f6 [] false w args ∧ laidMetH Tryd.prog Rows.escPartsRow.laid w) ∧ sizedMet enc Tryd.prog Tryd.f6 (OpenSpec.ofChange Rows.escPartsSpec) false w args) (Rows.escPartsSpec.post enc Tryd.prog Tryd.f6 false true false false) := by
  refine returnsInHanded_of_change_and (C := Tryd.checked) (X := fun w _ => laidMetH Tryd.prog Rows.escPartsRow.laid w) (fun _ _ _ hh h => h.of_heap hh) own started (by kernel_rfl) Tryd.func6
    (ChangeSpec.witness_shaped (enc := enc) (C := Tryd.checked) (os := os) (X := fun w _ => laidMetH Tryd.prog Rows.escPartsRow.laid w) false (World.doorLaid Tryd.prog 400 os) #[.string ByteArray.empty, .string ByteArray.empty, .bool false] 8 rfl (World.shaped_of_RefB (by kernel_rfl) (by kernel_rfl)) (by kernel_rfl) (by kernel_rfl) (by kernel_rfl) (door_met os _)) ?_
  intro W base args ds gs before hval0 hW _ _ hL _
  have hval : ∀ (j : Nat) t v, Tryd.f6.params[j]? = some t → args[j]? = some v → Value.okWide Tryd.prog W .any base t v := hval0
  have hW' := hW
  obtain ⟨p, q, hA0, hV, rfl, hfz, hnd⟩ := hW
  have hA : DataW.TrodAll enc Tryd.prog W 0 (fun _ => true) true Tryd.f6.params.toList args.toList ds p := hA0
  rw [Tryd.params6] at hA hval
  obtain ⟨v0, vs0, d0, ds0, p0, q0, hargs, rfl, rfl, h0, r0⟩ := trodAll_cons hA
  obtain ⟨v1, vs1, d1, ds1, p1, q1, rfl, rfl, rfl, h1, r1⟩ := trodAll_cons r0
  obtain ⟨v2, vs2, d2, ds2, p2, q2, rfl, rfl, rfl, h2, r2⟩ := trodAll_cons r1
  obtain ⟨rfl, rfl, rfl⟩ := trodAll_nil r2
  obtain rfl : args = #[v0, v1, v2] := by cases args; simp_all
  obtain ⟨rfl, rfl⟩ := trodVars_none hV
  obtain ⟨a0, rfl, rfl, rfl, w0⟩ := open_string Tryd.underlying9 (hval 0 9 v0 rfl rfl) h0
  obtain ⟨a1, rfl, rfl, rfl, w1⟩ := open_string Tryd.underlying9 (hval 1 9 v1 rfl rfl) h1
  obtain ⟨a2, rfl, rfl, rfl⟩ := open_bool Tryd.underlying4 (hval 2 4 v2 rfl rfl) h2
  clear hA0 hval0
  refine (walk a0 a1 a2 W w0 w1 (table hL) (erred hL)).mono fun e W' ⟨he, bel⟩ => ?_
  subst he
  exact ⟨_, rfl, _, _, _, [], _, [], hW', trodAll_mk1 (shut_bool Tryd.underlying4 _), (trodAll_cons_mk (shut_string Tryd.underlying9 w0) (trodAll_cons_mk (shut_string Tryd.underlying9 w1) (trodAll_cons_mk (shut_bool Tryd.underlying4 _) trodAll_mk0))), rfl, bel.frame _, fun h => by cases h⟩

theorem over : Rows.escPartsRow.holds Tryd.pinned (OpenSpec.ofChange Rows.escPartsSpec) :=
  OpenClaim.holds_of_wide 6 Tryd.f6 rfl rfl rfl rfl rfl rfl rfl ⟨rfl, rfl, rfl, rfl, rfl⟩ rfl rfl rfl rfl rfl (by kernel_rfl) Tryd.func6 (by kernel_rfl)
    (of_decide_eq_true (by kernel_rfl)) (by unfold Func.isWrapper; first | (rw [if_pos (by decide +kernel)]; kernel_rfl) | (rw [if_neg (by decide +kernel)]; exact ⟨rfl, rfl⟩))
    (fun os started H enc _ => lifted os started H enc)

theorem said : Rows.EscPartsSaid := over
theorem plain (f : FuncId) (fn : Func) (hf : Tryd.pinned.checked.prog.funcNamed "tidewaiter/tidewaiterlaw08.EscParts" = some f) (hfn : Tryd.pinned.checked.prog.funcs[f]? = some fn) :
    true = Tryd.pinned.checked.prog.looks [] ∧ ∀ (j : Nat) t, fn.params[j]? = some t → Tryd.pinned.checked.prog.wantsStandIn t = false := by
  obtain rfl : f = 6 := Option.some.inj ((show Tryd.prog.funcNamed "tidewaiter/tidewaiterlaw08.EscParts" = some 6 by kernel_rfl).symm.trans hf) |>.symm
  obtain rfl : fn = Tryd.f6 := (Option.some.inj (Tryd.func6.symm.trans hfn)).symm
  refine ⟨by kernel_rfl, fun j t ht => ?_⟩
  rw [Tryd.params6] at ht
  have hm : t ∈ [9, 9, 4] := by simpa using Array.mem_of_getElem? ht
  have hall : ([9, 9, 4].all fun u => !Tryd.prog.wantsStandIn u) = true := by kernel_rfl
  exact (show Tryd.prog.wantsStandIn t = false by simpa using List.all_eq_true.1 hall t hm)
theorem proved : Rows.EscPartsCardSaid :=
  Claim7.holds_tied_plain_at .later [] _ _ _ _ said (fun _ h => by cases h) (by kernel_rfl) (fun _ h => by cases h) escParts_row_tie rfl ⟨rfl, rfl⟩ (by kernel_rfl) rfl plain (by kernel_rfl)
end Go.Proofs.YtjdeomlpipdopaaDoor.escParts
