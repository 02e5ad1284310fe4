/-
  The document's own chunk (tidewaiterref16): Encode.
-/
import Derived.Test.YtphakhklhicolaaDoorChkB
import Derived.Test.YtphakhklhicolaaDoorChkN
import Derived.Test.YtphakhklhicolaaDoorMemG
import Derived.Deep.RegionHeld3
namespace Go.Proofs.YtphakhklhicolaaDoor
open Go.RowKit
namespace Hx
open Ck
set_option linter.unusedVariables false
set_option linter.unusedSimpArgs false
/-- A number, as a value. -/
def encI (z : Int) : Value := .int .i64 z
set_option maxHeartbeats 8000000 in
set_option maxRecDepth 100000 in
theorem rencode16 (A : Option Addr) (n c : Nat) (l : List Int) (body t : ByteArray) (er : Int) (w : World) (hr : RdG encI w w.heap.size A l) (hn : l.length = n) (hm : n ≤ 1000000000000) (hbm : body.size ≤ 1000000000000) (hinv : encR body.data.toList l = (t.data.toList, er)) :
    Calls Tryd.prog 14 #[.string body, .slice A n c] w fun e w' => e = .returned (.tuple #[.string t, .int .i64 er]) ∧ Below w.heap.size w w' := by
  unfold encR at hinv
  rw [ba_len7, hn] at hinv
  have HR := Lib.hid hr
  have HN := Lib.hid hn
  by_cases h1 : 8192 < body.size
  · have d0 : decide ((8192 : Int) < (body.size : Int)) = true := decide_eq_true (by omega)
    rw [if_pos (.inl h1)] at hinv
    obtain ⟨z1, z4⟩ := (Prod.mk.injEq _ _ _ _).mp hinv
    obtain rfl : (⟨#[]⟩ : ByteArray) = t := ba_ext7 z1
    subst z4
    clear z1
    clear hr hn
    go_enter Tryd.func14, Tryd.ntmps14
    go_wp2_with fail
    go_ret2
    exact ⟨rfl, Below.refl _ _⟩
  have d0 : decide ((8192 : Int) < (body.size : Int)) = false := decide_eq_false (by omega)
  by_cases h2 : body.size < n
  · have d1 : decide ((body.size : Int) < (n : Int)) = true := decide_eq_true (by omega)
    rw [if_pos (.inr h2)] at hinv
    obtain ⟨z1, z4⟩ := (Prod.mk.injEq _ _ _ _).mp hinv
    obtain rfl : (⟨#[]⟩ : ByteArray) = t := ba_ext7 z1
    subst z4
    clear z1
    clear hr hn
    go_enter Tryd.func14, Tryd.ntmps14
    go_wp2_with fail
    go_ret2
    exact ⟨rfl, Below.refl _ _⟩
  have d1 : decide ((body.size : Int) < (n : Int)) = false := decide_eq_false (by omega)
  rw [if_neg (by omega)] at hinv
  have HH := Lib.hid hinv
  clear hr hn hinv
  go_enter Tryd.func14, Tryd.ntmps14
  go_wp2_with fail
  go_loopw [6, 7, 8] (fun x6 x7 x8 wr => ∃ (u : ByteArray) (a k : Nat), x6 = .string u ∧ x7 = .int .i64 a ∧ x8 = .int .i64 k ∧ k ≤ n ∧ a ≤ body.size ∧ u.size ≤ 12 * a ∧ encF body.data.toList a u.data.toList (l.drop k) = (t.data.toList, er) ∧ Below w.heap.size w wr) (fun _ _ i _ => n - (intOf i).toNat)
  case atStart => exact ⟨⟨#[]⟩, 0, 0, rfl, rfl, rfl, Nat.zero_le _, Nat.zero_le _, Nat.le_refl _, HH.out, Below.refl _ _⟩
  case round =>
    obtain ⟨u, a, k, rfl, rfl, rfl, hk, ha, hu, hinv, hbw⟩ := hrel
    have HBW := Lib.hid hbw
    by_cases hlt : k < n
    · have hkl : k < l.length := by rw [HN.out]; exact hlt
      obtain ⟨b0, off, rfl, hb0, hc⟩ := HR.out (by omega)
      have hcell := (hbw.cell (p := ⟨b0, off + k, none⟩) hb0).trans (hc k hkl)
      obtain ⟨x, hx⟩ : ∃ x, l[k]'hkl = x := ⟨_, rfl⟩
      rw [hx] at hcell
      have c1 : wr.cell? ⟨b0, off + k, none⟩ = some (.int .i64 x) := hcell
      have bk : (0 : Int) ≤ (k : Int) ∧ (k : Int) < (n : Int) := by omega
      have dl : decide ((k : Int) < (n : Int)) = true := decide_eq_true (by omega)
      have w0_ : IntKind.i64.wrap ((body.size : Int) - (a : Int)) = (body.size : Int) - (a : Int) := IntWalk.i64_in _ (by omega)
      rw [List.drop_eq_getElem_cons hkl, hx] at hinv
      unfold encF at hinv
      rw [ba_len7] at hinv
      by_cases hx1 : x < 1
      · have e1 : decide (x < 1) = true := decide_eq_true hx1
        rw [if_pos (.inl hx1)] at hinv
        obtain ⟨z1, z4⟩ := (Prod.mk.injEq _ _ _ _).mp hinv
        obtain rfl : (⟨#[]⟩ : ByteArray) = t := ba_ext7 z1
        subst z4
        clear z1
        clear hcell hc hx hbw hb0 HR
        go_wp2_with fail
        go_ret2
        exact ⟨rfl, HBW.out⟩
      have e1 : decide (x < 1) = false := decide_eq_false hx1
      by_cases hx2 : (body.size : Int) - (a : Int) < x
      · have e2 : decide ((body.size : Int) - (a : Int) < x) = true := decide_eq_true hx2
        rw [if_pos (.inr hx2)] at hinv
        obtain ⟨z1, z4⟩ := (Prod.mk.injEq _ _ _ _).mp hinv
        obtain rfl : (⟨#[]⟩ : ByteArray) = t := ba_ext7 z1
        subst z4
        clear z1
        clear hcell hc hx hbw hb0 HR
        go_wp2_with fail
        go_ret2
        exact ⟨rfl, HBW.out⟩
      have e2 : decide ((body.size : Int) - (a : Int) < x) = false := decide_eq_false hx2
      rw [if_neg (by omega)] at hinv
      obtain ⟨m, rfl⟩ : ∃ m : Nat, x = (m : Int) := ⟨x.toNat, by omega⟩
      rw [Int.toNat_natCast] at hinv
      have hm8 : m ≤ 8192 := by omega
      have hxl := hexL_len 4 m (by omega)
      obtain ⟨y, hy⟩ : ∃ y : ByteArray, y.data.toList = hexL m := ⟨⟨(hexL m).toArray⟩, rfl⟩
      have hys : y.size ≤ 4 := by rw [← ba_len7, hy]; exact hxl
      have HX := Lib.hid fun W => rhex16 m W hm8 y hy
      obtain ⟨z, hz⟩ : ∃ z, body.extract a (a + m) = z := ⟨_, rfl⟩
      have hzl : z.data.toList = (body.data.toList.drop a).take m := by rw [← hz, Lib.extract_data, Nat.add_sub_cancel_left]
      have hzz : z.size = m := by rw [← ba_len7, hzl, List.length_take, List.length_drop, ba_len7]; omega
      obtain ⟨v1, hv1⟩ : ∃ v, u ++ y = v := ⟨_, rfl⟩
      obtain ⟨v2, hv2⟩ : ∃ v, v1 ++ (⟨#[13, 10]⟩ : ByteArray) = v := ⟨_, rfl⟩
      obtain ⟨v3, hv3⟩ : ∃ v, v2 ++ z = v := ⟨_, rfl⟩
      obtain ⟨v4, hv4⟩ : ∃ v, v3 ++ (⟨#[13, 10]⟩ : ByteArray) = v := ⟨_, rfl⟩
      have s1 : v1.size = u.size + y.size := by rw [← hv1, ByteArray.size_append]
      have s2 : v2.size = v1.size + 2 := by rw [← hv2, ByteArray.size_append]; rfl
      have s3 : v3.size = v2.size + z.size := by rw [← hv3, ByteArray.size_append]
      have s4 : v4.size = v3.size + 2 := by rw [← hv4, ByteArray.size_append]; rfl
      have t1 : ∀ W, (Op.stringOp .add u y).run Tryd.prog W = .ok (.string v1) W := fun W => by rw [run_string_add_sum W u y (by omega), hv1]
      have t2 : ∀ W, (Op.stringOp .add v1 ⟨#[13, 10]⟩).run Tryd.prog W = .ok (.string v2) W := fun W => by rw [run_string_add_sum W v1 ⟨#[13, 10]⟩ (by show v1.size + 2 ≤ _; omega), hv2]
      have t3 : ∀ W, (Op.stringOp .add v2 z).run Tryd.prog W = .ok (.string v3) W := fun W => by rw [run_string_add_sum W v2 z (by omega), hv3]
      have t4 : ∀ W, (Op.stringOp .add v3 ⟨#[13, 10]⟩).run Tryd.prog W = .ok (.string v4) W := fun W => by rw [run_string_add_sum W v3 ⟨#[13, 10]⟩ (by show v3.size + 2 ≤ _; omega), hv4]
      have HIV : Hid (encF body.data.toList (a + m) v4.data.toList (l.drop (k + 1)) = (t.data.toList, er)) := Lib.hid (by
        rw [← hinv, ← hv4, ← hv3, ← hv2, ← hv1, ← hzl]
        unfold chunkL
        rw [ba_len7, hzz, ← hy]
        simp)
      have HVS : Hid (v4.size ≤ 12 * (a + m)) := Lib.hid (by omega)
      have HAM : Hid (a + m ≤ body.size) := Lib.hid (by omega)
      have w1_ : IntKind.i64.wrap ((a : Int) + (m : Int)) = (a : Int) + (m : Int) := IntWalk.i64_in _ (by omega)
      have bj : (0 : Int) ≤ (a : Int) ∧ (a : Int) ≤ (a : Int) + (m : Int) ∧ (a : Int) + (m : Int) ≤ (body.size : Int) := by omega
      have tn : ((a : Int) + (m : Int)).toNat = a + m := by omega
      have hz3 : body.extract a ((a : Int) + (m : Int)).toNat = z := by rw [tn]; exact hz
      have hlw : b0 < wr.heap.size := Nat.lt_of_lt_of_le hb0 hbw.size
      have HLW := Lib.hid hlw
      clear hcell hc hx hbw hb0 HR hinv hy hxl hzl hzz hv1 hv2 hv3 hv4 s1 s2 s3 s4 hys hlw
      go_wp2_with fail
      go_region_held3 (fun W => W.cell? ⟨b0, off + k, none⟩ = some (.int .i64 (m : Int))) (first | go_keep | exact (hb1.cell (p := ⟨b0, off + k, none⟩) HLW.out).trans c1) ((first
        | (go_at_call 20; (with_reducible refine (HX.out _).mono ?_); rintro e w1 ⟨rfl, hb1⟩)
        | fail))
      go_wp2_with fail
      go_roundw
      case rel => exact ⟨v4, a + m, k + 1, rfl, by go_num, by go_num, hlt, HAM.out, HVS.out, HIV.out, stp HBW.out.drew hb1⟩
      case measure => simp [intOf]; omega
    · obtain rfl : k = n := by omega
      have dl : decide ((k : Int) < (k : Int)) = false := decide_eq_false (by omega)
      rw [List.drop_of_length_le (by rw [HN.out]; exact Nat.le_refl _)] at hinv
      unfold encF at hinv
      rw [ba_len7] at hinv
      by_cases he : a = body.size
      · have e1 : ((a : Int) != (body.size : Int)) = false := by simp; omega
        have e2 : ((a : Int) == (body.size : Int)) = true := by simp; omega
        rw [if_pos he] at hinv
        obtain ⟨z1, z4⟩ := (Prod.mk.injEq _ _ _ _).mp hinv
        subst z4
        have t1 : ∀ W, (Op.stringOp .add u ⟨#[48, 13, 10, 13, 10]⟩).run Tryd.prog W = .ok (.string t) W := fun W => by rw [run_string_add_sum W u ⟨#[48, 13, 10, 13, 10]⟩ (by show u.size + 5 ≤ _; omega)]; congr 2; refine ba_ext7 ?_; rw [← z1]; simp [last5]
        clear z1 hinv hbw he HR
        go_wp2_with fail
        go_ret2
        exact ⟨rfl, HBW.out⟩
      · have e1 : ((a : Int) != (body.size : Int)) = true := by simp; omega
        have e2 : ((a : Int) == (body.size : Int)) = false := by simp; omega
        rw [if_neg he] at hinv
        obtain ⟨z1, z4⟩ := (Prod.mk.injEq _ _ _ _).mp hinv
        obtain rfl : (⟨#[]⟩ : ByteArray) = t := ba_ext7 z1
        subst z4
        clear z1
        clear hbw he HR
        go_wp2_with fail
        go_ret2
        exact ⟨rfl, HBW.out⟩
end Hx
end Go.Proofs.YtphakhklhicolaaDoor
