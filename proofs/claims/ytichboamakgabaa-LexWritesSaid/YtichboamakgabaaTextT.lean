/-
  Contracts of tidewaiterref05's Next, All, Is, Check, Points, Same.
-/
import Derived.Test.YtichboamakgabaaTextS
import Derived.Test.YtichboamakgabaaMemG
namespace Go.Proofs.Ytichboamakgabaa
open Go.RowKit
namespace Hx
open Tx
set_option linter.unusedVariables false

/-- A number, as a value. -/
def encZ (z : Int) : Value := .int .i64 z
theorem encZ_one (z : Int) : (encZ z).oneCell' = true := rfl
abbrev RdZ := @RdG Int encZ
/-- Code points, as numbers. -/
def zs (l : List Nat) : List Int := l.map fun n : Nat => (n : Int)
theorem zs_length (l : List Nat) : (zs l).length = l.length := by simp [zs]
theorem zs_append (a b : List Nat) : zs (a ++ b) = zs a ++ zs b := by simp [zs]
theorem infoZ : (Try.prog.info? 3).map (fun i => (i.zero, i.size, i.bytes)) = some (some (.int .i64 0), 1, 8) := by kernel_rfl
theorem extract_drop (s : ByteArray) (a : Nat) : s.extract a s.size = ⟨(s.data.toList.drop a).toArray⟩ := by
  have := ByteArray.extract_mk s.data.toList a s.size
  rw [← ba_eq5] at this
  rw [this, List.take_of_length_le (by rw [List.length_drop, ba_len5]; omega)]
theorem list_mk (l : List UInt8) : (⟨l.toArray⟩ : ByteArray).data.toList = l := rfl
theorem size_mk5 (l : List UInt8) : (⟨l.toArray⟩ : ByteArray).size = l.length := rfl
theorem one_le {l : List UInt8} {n k : Nat} (h : one l = some (n, k)) : 1 ≤ k ∧ k ≤ l.length ∧ n ≤ 1114111 := by
  obtain ⟨_, hs, rfl, r, rfl⟩ := one_sound h
  exact ⟨(enc_length n).1, by rw [List.length_append]; omega, sv_le hs⟩

/-- What All answers. -/
def AllTo (l : List UInt8) (w : World) (e : Ending) (w' : World) : Prop := Below w.heap.size w w' ∧
  ((∃ ns A c, pts l = some ns ∧ e = .returned (.tuple #[.slice A ns.length c, .bool true]) ∧ (A = none → c = 0) ∧ RdZ w' w'.heap.size A (zs ns)) ∨ (pts l = none ∧ e = .returned (.tuple #[.slice none 0 0, .bool false])))
def strSize : Value → Nat
  | .string t => t.size
  | _ => 0
set_option maxHeartbeats 4000000 in
set_option maxRecDepth 100000 in
theorem all_any (s : ByteArray) (w : World) (hm : s.size ≤ 1000000) : Calls Try.prog 43 #[.string s] w (AllTo s.data.toList w) := by
  obtain ⟨i0, hi, hz0, hz1, hz2⟩ := info_parts infoZ
  have QI := Lib.hid hi
  have QZ0 := Lib.hid hz0
  have QZ1 := Lib.hid hz1
  have QZ2 := Lib.hid hz2
  have HM := Lib.hid hm
  clear hi hz0 hz1 hz2 hm
  go_enter Try.func43, Try.ntmps43
  go_wp2_with fail
  go_loopw [0, 4] (fun sv v wr => ∃ (t : ByteArray) (ns : List Nat), sv = .string t ∧ wr.ownsRow w.heap.size 3 1 v ns.length ((zs ns).map encZ) ∧ Below w.heap.size w wr ∧ pts s.data.toList = (pts t.data.toList).map (ns ++ ·) ∧ ns.length + t.size ≤ s.size) (fun sv _ _ => strSize sv)
  case atStart => exact ⟨s, [], rfl, World.ownsRow_nil _ _ _ _, Below.refl _ _, by cases pts s.data.toList <;> rfl, by simp⟩
  case round =>
    obtain ⟨t, ns, rfl, hown, hbw, hp, hn⟩ := hrel
    have HO := Lib.hid hown
    have HBW := Lib.hid hbw
    have HP := Lib.hid hp
    have HN := Lib.hid hn
    have hsz := hbw.size
    clear hbw hp hn
    cases htl : t.data.toList with
    | nil =>
      obtain rfl : t = ⟨#[]⟩ := by rw [ba_eq5 t, htl]
      obtain ⟨A', c', rfl⟩ := own_form hown
      have HRD := Lib.hid (RdG.of_own hown).1
      have HZN : Hid (A' = none → c' = 0) := by
        intro hA
        subst hA
        rcases HO.out.2 with ⟨e, _⟩ | ⟨g, cap, cur, e, _⟩
        · injection e with _ _ h3
        · injection e with h3 _ _
          cases h3
      clear hown htl
      go_wp2_with fail
      go_ret2
      exact ⟨HBW.out, .inl ⟨ns, A', c', by rw [HP.out]; show some (ns ++ []) = _; rw [List.append_nil], rfl, HZN.out, HRD.out⟩⟩
    | cons b r =>
      have htz : 0 < t.size := by rw [← ba_len5, htl]; simp
      have hne : (t.toList == (⟨#[]⟩ : ByteArray).toList) = false := by
        rw [seq_b5]
        simp only [decide_eq_false_iff_not]
        rintro rfl
        exact absurd htz (by decide)
      have hne2 : (t.toList == []) = false := by rw [ByteArray.toList_eq, htl]; rfl
      have hts : t.size ≤ 1000000 := by have := HN.out; have := HM.out; omega
      have HTS := Lib.hid hts
      have hstep := pts_step t.data.toList (by rw [htl]; simp)
      cases ho : one t.data.toList with
      | none =>
        rw [ho] at hstep
        have hpn : pts s.data.toList = none := by rw [HP.out, hstep]; rfl
        have HPN := Lib.hid hpn
        have HO1 : Hid ((one t.data.toList).getD (0, 0) = (0, 0)) := by show _ = _; rw [ho]; rfl
        have HC : Hid (∀ W : World, Calls Try.prog 49 #[.string t] W fun e w' => e = .returned (.tuple #[.int .i64 0, .int .i64 0]) ∧ Below W.heap.size W w') := fun W => one_any t W HTS.out 0 0 HO1.out
        clear htl hstep ho hts hpn hown
        go_wp2_with (first
          | (go_at_call 49; (with_reducible refine (HC.out _).mono ?_); rintro e w1 ⟨rfl, hb1⟩)
          | fail)
        go_ret2
        exact ⟨stp HBW.out hb1, .inr ⟨HPN.out, rfl⟩⟩
      | some x =>
        obtain ⟨n, k⟩ := x
        rw [ho] at hstep
        have hle := one_le ho
        rw [ba_len5] at hle
        obtain ⟨u, hu⟩ : ∃ u, t.extract k t.size = u := ⟨_, rfl⟩
        have hul : u = ⟨(t.data.toList.drop k).toArray⟩ := by rw [← hu]; exact extract_drop t k
        have hud : u.data.toList = t.data.toList.drop k := by rw [hul]
        have hus : u.size + k = t.size := by rw [hul, size_mk5, List.length_drop, ba_len5]; omega
        have HO1 : Hid ((one t.data.toList).getD (0, 0) = (n, k)) := by show _ = _; rw [ho]; rfl
        have HP2 : Hid (pts s.data.toList = (pts u.data.toList).map ((ns ++ [n]) ++ ·)) := by
          show _ = _
          rw [HP.out, hstep, hud]
          cases hq : pts (t.data.toList.drop k) <;> simp [hq]
        have c0 : ((k : Int) == 0) = false := by simp; omega
        have b0 : (0 : Int) ≤ (k : Int) ∧ (k : Int) ≤ (t.size : Int) := by omega
        have b1 : k ≤ t.size := hle.2.1
        have HUS := Lib.hid hus
        have HLE := Lib.hid hle
        clear htl hstep ho hts hul hud hus hle hown
        go_wp2_with (first
          | (go_at_call 49; (with_reducible refine (one_any t wr HTS.out n k HO1.out).mono ?_); rintro e w1 ⟨rfl, hb1⟩; have HB1 := Lib.hid hb1; have hs1 := hb1.size; have HO2 := Lib.hid (own_below HO.out hb1 (Nat.le_refl _)))
          | (at_builtin; refine wpList_append_rdg encZ_one rfl (.tmp 16) (.tmp 18) 70 rfl w.heap.size 3 i0 (.int .i64 0) 8 Try.underlying70 QI.out QZ0.out QZ1.out QZ2.out (by decide) rfl _ ns.length _ rfl (own_below HO2.out (stpA (Below.refl w1.heap.size w1) (.cells #[.int .i64 n] 3)) (Nat.le_refl _)) (w1.heap.size + 1) (some ⟨w1.heap.size, 0, none⟩) 1 1 [(n : Int)] rfl (RdG.new (enc := encZ) w1 3 [(n : Int)]) rfl (fun h => by cases h) (by have := HN.out; have := HM.out; omega) (by rw [World.size_alloc]; omega) ?_; intro v4 w4 hown4 hgr4; have HO4 := Lib.hid hown4; have HG4 := Lib.hid hgr4; clear hown4 hgr4)
          | fail)
        have hb4 : Below w.heap.size w w4 := ((stp HBW.out HB1.out).alloc (by omega) _).grown HG4.out (by rw [World.size_alloc]; omega) (fun g hg => (HO.out.lt g hg).1)
        go_roundw
        case rel =>
          refine ⟨u, ns ++ [n], rfl, ?_, hb4, HP2.out, ?_⟩
          · rw [List.length_append, zs_append, List.map_append]
            exact HO4.out
          · have := HN.out
            have := HUS.out
            have := HLE.out
            simp
            omega
        case measure =>
          have := HUS.out
          have := HLE.out
          simp [strSize]
          omega

theorem all_is (s : ByteArray) (w : World) (hm : s.size ≤ 1000000) (b : Bool) (h : (pts s.data.toList).isSome = b) :
    Calls Try.prog 43 #[.string s] w fun e w' => Below w.heap.size w w' ∧ ∃ A n c, e = .returned (.tuple #[.slice A n c, .bool b]) := by
  subst h
  refine (all_any s w hm).mono fun e w' ⟨hb, hh⟩ => ⟨hb, ?_⟩
  rcases hh with ⟨ns, A, c, e1, e2, _⟩ | ⟨e1, e2⟩
  · exact ⟨A, _, c, by rw [e2, e1]; rfl⟩
  · exact ⟨none, 0, 0, by rw [e2, e1]; rfl⟩
set_option maxRecDepth 100000 in
theorem ris5_any (s : ByteArray) (w : World) (hm : s.size ≤ 1000000) (b : Bool) (h : (pts s.data.toList).isSome = b) :
    Calls Try.prog 33 #[.string s] w fun e w' => e = .returned (.bool b) ∧ Below w.heap.size w w' := by
  have HM := Lib.hid hm
  have HB := Lib.hid h
  clear hm h
  go_enter Try.func33, Try.ntmps33
  go_wp2_with (first
    | (go_at_call 43; (with_reducible refine (all_is s w HM.out b HB.out).mono ?_); rintro e w1 ⟨hb1, A1, n1, c1, rfl⟩)
    | fail)
  go_ret
  exact ⟨rfl, hb1⟩
/-- The error of a text. -/
def chkE (s : ByteArray) : Int := if 16384 < s.size then 4 else if (pts s.data.toList).isSome then 0 else 50
set_option maxHeartbeats 1000000 in
set_option maxRecDepth 100000 in
theorem rcheck_any (s : ByteArray) (w : World) (hm : s.size ≤ 1000000) (q : Int) (h : chkE s = q) :
    Calls Try.prog 22 #[.string s] w fun e w' => e = .returned (.int .i64 q) ∧ Below w.heap.size w w' := by
  unfold chkE at h
  have HM := Lib.hid hm
  by_cases h1 : 16384 < s.size
  · rw [if_pos h1] at h
    subst h
    have d0 : decide ((16384 : Int) < (s.size : Int)) = true := by simp; omega
    clear hm
    go_enter Try.func22, Try.ntmps22
    go_wp2
    go_ret
    exact ⟨rfl, Below.refl _ _⟩
  · rw [if_neg h1] at h
    have d0 : decide ((16384 : Int) < (s.size : Int)) = false := by simp; omega
    have d1 : ¬ (16384 < s.size) := h1
    cases hp : (pts s.data.toList).isSome
    · rw [hp] at h
      obtain rfl : (50 : Int) = q := h
      have HP := Lib.hid hp
      clear hm h1 hp
      go_enter Try.func22, Try.ntmps22
      go_wp2_with (go_at_call 33; (with_reducible refine (ris5_any s w HM.out false HP.out).mono ?_); rintro e w1 ⟨rfl, hb1⟩)
      go_ret
      exact ⟨rfl, hb1⟩
    · rw [hp] at h
      obtain rfl : (0 : Int) = q := h
      have HP := Lib.hid hp
      clear hm h1 hp
      go_enter Try.func22, Try.ntmps22
      go_wp2_with (go_at_call 33; (with_reducible refine (ris5_any s w HM.out true HP.out).mono ?_); rintro e w1 ⟨rfl, hb1⟩)
      go_ret
      exact ⟨rfl, hb1⟩
end Hx
end Go.Proofs.Ytichboamakgabaa
