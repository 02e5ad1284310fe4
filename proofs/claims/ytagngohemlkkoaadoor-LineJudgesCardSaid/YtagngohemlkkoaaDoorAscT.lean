/-
  Contracts of the document's own answers for layer 7 (tidewaiterref07): in, Token, Plain.
-/
import Derived.Test.YtagngohemlkkoaaDoorAscS
namespace Go.Proofs.YtagngohemlkkoaaDoor
open Go.RowKit
namespace Hx
open As
set_option linter.unusedVariables false
set_option maxHeartbeats 1000000 in
set_option maxRecDepth 100000 in
/-- ref.in. -/
theorem rin7 (s : ByteArray) (c : UInt8) (b : Bool) (w : World) (hm : s.size ≤ 1000000) (h : s.data.toList.contains c = b) :
    Calls Tryd.prog 52 #[.string s, .int .u8 c.toNat] w fun e w' => e = .returned (.bool b) ∧ w = w' := by
  have HM := Lib.hid hm
  have HB := Lib.hid h
  clear hm h
  go_enter Tryd.func52, Tryd.ntmps52
  go_wp2_with fail
  go_loopg [5] s.size (fun gg i wr => ∃ k : Nat, k + gg = s.size ∧ i = .int .i64 k ∧ w = wr ∧ (s.data.toList.take k).contains c = false)
  case atStart => exact ⟨0, by omega, rfl, rfl, rfl⟩
  case round =>
    obtain ⟨k, hk, rfl, rfl, hno⟩ := hrel
    have HNO := Lib.hid hno
    have hMM := HM.out
    clear hno
    by_cases hlt : k < s.size
    · obtain ⟨d, hd, hat⟩ := byte_at s k hlt
      have bk : (0 : Int) ≤ (k : Int) ∧ (k : Int) < (s.size : Int) := by omega
      by_cases hdc : d = c
      · subst hdc
        have d1 : ((d.toNat : Int) == (d.toNat : Int)) = true := by simp
        obtain rfl : true = b := by
          rw [← HB.out, List.contains_iff_mem.2 (List.mem_of_getElem? hd)]
        clear hd
        go_wp2_with fail
        go_ret
        exact ⟨rfl, rfl⟩
      · have hne : d.toNat ≠ c.toNat := fun e => hdc (UInt8.toNat_inj.1 e)
        have d1 : ((d.toNat : Int) == (c.toNat : Int)) = false := by simp; omega
        have d2 : (d.toNat == c.toNat) = false := by simpa using hne
        have HN2 : Hid ((s.data.toList.take (k + 1)).contains c = false) := by
          show _ = _
          rw [take_next hd]
          have h1 := HNO.out
          simp only [List.contains_eq_mem, decide_eq_false_iff_not, List.mem_append, List.mem_singleton] at h1 ⊢
          rintro (h | h)
          · exact h1 h
          · exact hdc h.symm
        clear hd hdc hne
        go_wp2_with fail
        go_roundg (gk - 1)
        case rel => exact ⟨k + 1, by omega, by go_num, rfl, HN2.out⟩
        case measure => omega
    · obtain rfl : s.size = k := by omega
      obtain rfl : false = b := by
        rw [← HB.out, ← HNO.out, List.take_of_length_le (by rw [ba_len7]; exact Nat.le_refl _)]
      go_wp2_with fail
      go_ret
      exact ⟨rfl, rfl⟩
theorem in_lit (c : UInt8) : ([33, 35, 36, 37, 38, 39, 42, 43, 45, 46, 94, 95, 96, 124, 126] : List UInt8).contains c = ([33, 35, 36, 37, 38, 39, 42, 43, 45, 46, 94, 95, 96, 124, 126] : List Nat).contains c.toNat :=
  u8_all (fun c => ([33, 35, 36, 37, 38, 39, 42, 43, 45, 46, 94, 95, 96, 124, 126] : List UInt8).contains c = ([33, 35, 36, 37, 38, 39, 42, 43, 45, 46, 94, 95, 96, 124, 126] : List Nat).contains c.toNat) (by decide +kernel) c
theorem rin_lit (c : UInt8) (b : Bool) (w : World) (h : ([33, 35, 36, 37, 38, 39, 42, 43, 45, 46, 94, 95, 96, 124, 126] : List Nat).contains c.toNat = b) :
    Calls Tryd.prog 52 #[.string ⟨#[33, 35, 36, 37, 38, 39, 42, 43, 45, 46, 94, 95, 96, 124, 126]⟩, .int .u8 c.toNat] w fun e w' => e = .returned (.bool b) ∧ w = w' :=
  rin7 _ c b w (by decide) (by rw [← h]; exact in_lit c)
theorem all_takeT (p : UInt8 → Bool) {l : List UInt8} {k : Nat} {c : UInt8} (h : l[k]? = some c) (h1 : (l.take k).all p = true) (h2 : p c = true) : (l.take (k + 1)).all p = true := by
  rw [take_next h, List.all_append, h1]
  simp [h2]
theorem all_noT (p : UInt8 → Bool) {l : List UInt8} {k : Nat} {c : UInt8} (h : l[k]? = some c) (h2 : p c = false) : l.all p = false := by
  rw [List.all_eq_false]
  exact ⟨c, List.mem_of_getElem? h, by simp [h2]⟩
set_option maxHeartbeats 8000000 in
set_option maxRecDepth 100000 in
/-- ref.Token. -/
theorem rtoken7 (s : ByteArray) (b : Bool) (w : World) (hm : s.size ≤ 1000000) (h : isTok s.data.toList = b) :
    Calls Tryd.prog 41 #[.string s] w fun e w' => e = .returned (.bool b) ∧ Below w.heap.size w w' := by
  have HM := Lib.hid hm
  have HB := Lib.hid h
  clear hm h
  go_enter Tryd.func41, Tryd.ntmps41
  go_wp2_with fail
  go_loopg [3] s.size (fun gg i wr => ∃ k : Nat, k + gg = s.size ∧ i = .int .i64 k ∧ w = wr ∧ (s.data.toList.take k).all tokb = true)
  case atStart => exact ⟨0, by omega, rfl, rfl, rfl⟩
  case round =>
    obtain ⟨k, hk, rfl, rfl, hall⟩ := hrel
    have HALL := Lib.hid hall
    have hMM := HM.out
    clear hall
    by_cases hlt : k < s.size
    · obtain ⟨c, hc, hat⟩ := byte_at s k hlt
      have bk : (0 : Int) ≤ (k : Int) ∧ (k : Int) < (s.size : Int) := by omega
      have hcl := c.toNat_lt
      have HNEXT : Hid (tokb c = true → (s.data.toList.take (k + 1)).all tokb = true) := fun h => all_takeT tokb hc HALL.out h
      have HSTOP : Hid (tokb c = false → isTok s.data.toList = false) := fun h => by
        show _ = _
        unfold isTok
        rw [all_noT tokb hc h]
        rfl
      have HTK : Hid (tokb c = ((decide (97 ≤ c.toNat) && decide (c.toNat ≤ 122)) || (decide (65 ≤ c.toNat) && decide (c.toNat ≤ 90)) || (decide (48 ≤ c.toNat) && decide (c.toNat ≤ 57)) || ([33, 35, 36, 37, 38, 39, 42, 43, 45, 46, 94, 95, 96, 124, 126] : List Nat).contains c.toNat)) := Lib.hid rfl
      clear hc
      rcases (show c.toNat ≤ 47 ∨ (48 ≤ c.toNat ∧ c.toNat ≤ 57) ∨ (58 ≤ c.toNat ∧ c.toNat ≤ 64) ∨ (65 ≤ c.toNat ∧ c.toNat ≤ 90) ∨ (91 ≤ c.toNat ∧ c.toNat ≤ 96) ∨ (97 ≤ c.toNat ∧ c.toNat ≤ 122) ∨ 123 ≤ c.toNat by omega) with hr | hr | hr | hr | hr | hr | hr
      · have d0 : decide ((97 : Int) ≤ (c.toNat : Int)) = false := by simp; omega
        have e0 : decide (97 ≤ c.toNat) = false := by simp; omega
        have f0 : ¬ 97 ≤ c.toNat := by omega
        have d1 : decide ((c.toNat : Int) ≤ 122) = true := by simp; omega
        have e1 : decide (c.toNat ≤ 122) = true := by simp; omega
        have f1 : c.toNat ≤ 122 := by omega
        have d2 : decide ((65 : Int) ≤ (c.toNat : Int)) = false := by simp; omega
        have e2 : decide (65 ≤ c.toNat) = false := by simp; omega
        have f2 : ¬ 65 ≤ c.toNat := by omega
        have d3 : decide ((c.toNat : Int) ≤ 90) = true := by simp; omega
        have e3 : decide (c.toNat ≤ 90) = true := by simp; omega
        have f3 : c.toNat ≤ 90 := by omega
        have d4 : decide ((48 : Int) ≤ (c.toNat : Int)) = false := by simp; omega
        have e4 : decide (48 ≤ c.toNat) = false := by simp; omega
        have f4 : ¬ 48 ≤ c.toNat := by omega
        have d5 : decide ((c.toNat : Int) ≤ 57) = true := by simp; omega
        have e5 : decide (c.toNat ≤ 57) = true := by simp; omega
        have f5 : c.toNat ≤ 57 := by omega
        have HK0 : Hid (tokb c = ([33, 35, 36, 37, 38, 39, 42, 43, 45, 46, 94, 95, 96, 124, 126] : List Nat).contains c.toNat) := by show _ = _; rw [HTK.out, e0, e1, e2, e3, e4, e5]; simp
        clear e0 e1 e2 e3 e4 e5 hr
        cases hin : ([33, 35, 36, 37, 38, 39, 42, 43, 45, 46, 94, 95, 96, 124, 126] : List Nat).contains c.toNat
        · have HIN := Lib.hid hin
          obtain rfl : false = b := by rw [← HB.out]; exact (HSTOP.out (HK0.out.trans hin)).symm
          clear hin
          go_wp2_with (go_at_call 52; (with_reducible refine (rin_lit c false w HIN.out).mono ?_); rintro e w1 ⟨rfl, rfl⟩)
          go_ret
          exact ⟨rfl, Below.refl _ _⟩
        · have HIN := Lib.hid hin
          have HK1 := Lib.hid (HNEXT.out (HK0.out.trans hin))
          clear hin
          go_wp2_with (go_at_call 52; (with_reducible refine (rin_lit c true w HIN.out).mono ?_); rintro e w1 ⟨rfl, rfl⟩)
          go_roundg (gk - 1)
          case rel => exact ⟨k + 1, by omega, by go_num, rfl, HK1.out⟩
          case measure => omega
      · have d0 : decide ((97 : Int) ≤ (c.toNat : Int)) = false := by simp; omega
        have e0 : decide (97 ≤ c.toNat) = false := by simp; omega
        have f0 : ¬ 97 ≤ c.toNat := by omega
        have d1 : decide ((c.toNat : Int) ≤ 122) = true := by simp; omega
        have e1 : decide (c.toNat ≤ 122) = true := by simp; omega
        have f1 : c.toNat ≤ 122 := by omega
        have d2 : decide ((65 : Int) ≤ (c.toNat : Int)) = false := by simp; omega
        have e2 : decide (65 ≤ c.toNat) = false := by simp; omega
        have f2 : ¬ 65 ≤ c.toNat := by omega
        have d3 : decide ((c.toNat : Int) ≤ 90) = true := by simp; omega
        have e3 : decide (c.toNat ≤ 90) = true := by simp; omega
        have f3 : c.toNat ≤ 90 := by omega
        have d4 : decide ((48 : Int) ≤ (c.toNat : Int)) = true := by simp; omega
        have e4 : decide (48 ≤ c.toNat) = true := by simp; omega
        have f4 : 48 ≤ c.toNat := by omega
        have d5 : decide ((c.toNat : Int) ≤ 57) = true := by simp; omega
        have e5 : decide (c.toNat ≤ 57) = true := by simp; omega
        have f5 : c.toNat ≤ 57 := by omega
        have HK1 : Hid (tokb c = true) := by show _ = _; rw [HTK.out, e0, e1, e2, e3, e4, e5]; simp
        clear e0 e1 e2 e3 e4 e5 hr
        go_wp2_with fail
        go_roundg (gk - 1)
        case rel => exact ⟨k + 1, by omega, by go_num, rfl, HNEXT.out HK1.out⟩
        case measure => omega
      · have d0 : decide ((97 : Int) ≤ (c.toNat : Int)) = false := by simp; omega
        have e0 : decide (97 ≤ c.toNat) = false := by simp; omega
        have f0 : ¬ 97 ≤ c.toNat := by omega
        have d1 : decide ((c.toNat : Int) ≤ 122) = true := by simp; omega
        have e1 : decide (c.toNat ≤ 122) = true := by simp; omega
        have f1 : c.toNat ≤ 122 := by omega
        have d2 : decide ((65 : Int) ≤ (c.toNat : Int)) = false := by simp; omega
        have e2 : decide (65 ≤ c.toNat) = false := by simp; omega
        have f2 : ¬ 65 ≤ c.toNat := by omega
        have d3 : decide ((c.toNat : Int) ≤ 90) = true := by simp; omega
        have e3 : decide (c.toNat ≤ 90) = true := by simp; omega
        have f3 : c.toNat ≤ 90 := by omega
        have d4 : decide ((48 : Int) ≤ (c.toNat : Int)) = true := by simp; omega
        have e4 : decide (48 ≤ c.toNat) = true := by simp; omega
        have f4 : 48 ≤ c.toNat := by omega
        have d5 : decide ((c.toNat : Int) ≤ 57) = false := by simp; omega
        have e5 : decide (c.toNat ≤ 57) = false := by simp; omega
        have f5 : ¬ c.toNat ≤ 57 := by omega
        have HK0 : Hid (tokb c = ([33, 35, 36, 37, 38, 39, 42, 43, 45, 46, 94, 95, 96, 124, 126] : List Nat).contains c.toNat) := by show _ = _; rw [HTK.out, e0, e1, e2, e3, e4, e5]; simp
        clear e0 e1 e2 e3 e4 e5 hr
        cases hin : ([33, 35, 36, 37, 38, 39, 42, 43, 45, 46, 94, 95, 96, 124, 126] : List Nat).contains c.toNat
        · have HIN := Lib.hid hin
          obtain rfl : false = b := by rw [← HB.out]; exact (HSTOP.out (HK0.out.trans hin)).symm
          clear hin
          go_wp2_with (go_at_call 52; (with_reducible refine (rin_lit c false w HIN.out).mono ?_); rintro e w1 ⟨rfl, rfl⟩)
          go_ret
          exact ⟨rfl, Below.refl _ _⟩
        · have HIN := Lib.hid hin
          have HK1 := Lib.hid (HNEXT.out (HK0.out.trans hin))
          clear hin
          go_wp2_with (go_at_call 52; (with_reducible refine (rin_lit c true w HIN.out).mono ?_); rintro e w1 ⟨rfl, rfl⟩)
          go_roundg (gk - 1)
          case rel => exact ⟨k + 1, by omega, by go_num, rfl, HK1.out⟩
          case measure => omega
      · have d0 : decide ((97 : Int) ≤ (c.toNat : Int)) = false := by simp; omega
        have e0 : decide (97 ≤ c.toNat) = false := by simp; omega
        have f0 : ¬ 97 ≤ c.toNat := by omega
        have d1 : decide ((c.toNat : Int) ≤ 122) = true := by simp; omega
        have e1 : decide (c.toNat ≤ 122) = true := by simp; omega
        have f1 : c.toNat ≤ 122 := by omega
        have d2 : decide ((65 : Int) ≤ (c.toNat : Int)) = true := by simp; omega
        have e2 : decide (65 ≤ c.toNat) = true := by simp; omega
        have f2 : 65 ≤ c.toNat := by omega
        have d3 : decide ((c.toNat : Int) ≤ 90) = true := by simp; omega
        have e3 : decide (c.toNat ≤ 90) = true := by simp; omega
        have f3 : c.toNat ≤ 90 := by omega
        have d4 : decide ((48 : Int) ≤ (c.toNat : Int)) = true := by simp; omega
        have e4 : decide (48 ≤ c.toNat) = true := by simp; omega
        have f4 : 48 ≤ c.toNat := by omega
        have d5 : decide ((c.toNat : Int) ≤ 57) = false := by simp; omega
        have e5 : decide (c.toNat ≤ 57) = false := by simp; omega
        have f5 : ¬ c.toNat ≤ 57 := by omega
        have HK1 : Hid (tokb c = true) := by show _ = _; rw [HTK.out, e0, e1, e2, e3, e4, e5]; simp
        clear e0 e1 e2 e3 e4 e5 hr
        go_wp2_with fail
        go_roundg (gk - 1)
        case rel => exact ⟨k + 1, by omega, by go_num, rfl, HNEXT.out HK1.out⟩
        case measure => omega
      · have d0 : decide ((97 : Int) ≤ (c.toNat : Int)) = false := by simp; omega
        have e0 : decide (97 ≤ c.toNat) = false := by simp; omega
        have f0 : ¬ 97 ≤ c.toNat := by omega
        have d1 : decide ((c.toNat : Int) ≤ 122) = true := by simp; omega
        have e1 : decide (c.toNat ≤ 122) = true := by simp; omega
        have f1 : c.toNat ≤ 122 := by omega
        have d2 : decide ((65 : Int) ≤ (c.toNat : Int)) = true := by simp; omega
        have e2 : decide (65 ≤ c.toNat) = true := by simp; omega
        have f2 : 65 ≤ c.toNat := by omega
        have d3 : decide ((c.toNat : Int) ≤ 90) = false := by simp; omega
        have e3 : decide (c.toNat ≤ 90) = false := by simp; omega
        have f3 : ¬ c.toNat ≤ 90 := by omega
        have d4 : decide ((48 : Int) ≤ (c.toNat : Int)) = true := by simp; omega
        have e4 : decide (48 ≤ c.toNat) = true := by simp; omega
        have f4 : 48 ≤ c.toNat := by omega
        have d5 : decide ((c.toNat : Int) ≤ 57) = false := by simp; omega
        have e5 : decide (c.toNat ≤ 57) = false := by simp; omega
        have f5 : ¬ c.toNat ≤ 57 := by omega
        have HK0 : Hid (tokb c = ([33, 35, 36, 37, 38, 39, 42, 43, 45, 46, 94, 95, 96, 124, 126] : List Nat).contains c.toNat) := by show _ = _; rw [HTK.out, e0, e1, e2, e3, e4, e5]; simp
        clear e0 e1 e2 e3 e4 e5 hr
        cases hin : ([33, 35, 36, 37, 38, 39, 42, 43, 45, 46, 94, 95, 96, 124, 126] : List Nat).contains c.toNat
        · have HIN := Lib.hid hin
          obtain rfl : false = b := by rw [← HB.out]; exact (HSTOP.out (HK0.out.trans hin)).symm
          clear hin
          go_wp2_with (go_at_call 52; (with_reducible refine (rin_lit c false w HIN.out).mono ?_); rintro e w1 ⟨rfl, rfl⟩)
          go_ret
          exact ⟨rfl, Below.refl _ _⟩
        · have HIN := Lib.hid hin
          have HK1 := Lib.hid (HNEXT.out (HK0.out.trans hin))
          clear hin
          go_wp2_with (go_at_call 52; (with_reducible refine (rin_lit c true w HIN.out).mono ?_); rintro e w1 ⟨rfl, rfl⟩)
          go_roundg (gk - 1)
          case rel => exact ⟨k + 1, by omega, by go_num, rfl, HK1.out⟩
          case measure => omega
      · have d0 : decide ((97 : Int) ≤ (c.toNat : Int)) = true := by simp; omega
        have e0 : decide (97 ≤ c.toNat) = true := by simp; omega
        have f0 : 97 ≤ c.toNat := by omega
        have d1 : decide ((c.toNat : Int) ≤ 122) = true := by simp; omega
        have e1 : decide (c.toNat ≤ 122) = true := by simp; omega
        have f1 : c.toNat ≤ 122 := by omega
        have d2 : decide ((65 : Int) ≤ (c.toNat : Int)) = true := by simp; omega
        have e2 : decide (65 ≤ c.toNat) = true := by simp; omega
        have f2 : 65 ≤ c.toNat := by omega
        have d3 : decide ((c.toNat : Int) ≤ 90) = false := by simp; omega
        have e3 : decide (c.toNat ≤ 90) = false := by simp; omega
        have f3 : ¬ c.toNat ≤ 90 := by omega
        have d4 : decide ((48 : Int) ≤ (c.toNat : Int)) = true := by simp; omega
        have e4 : decide (48 ≤ c.toNat) = true := by simp; omega
        have f4 : 48 ≤ c.toNat := by omega
        have d5 : decide ((c.toNat : Int) ≤ 57) = false := by simp; omega
        have e5 : decide (c.toNat ≤ 57) = false := by simp; omega
        have f5 : ¬ c.toNat ≤ 57 := by omega
        have HK1 : Hid (tokb c = true) := by show _ = _; rw [HTK.out, e0, e1, e2, e3, e4, e5]; simp
        clear e0 e1 e2 e3 e4 e5 hr
        go_wp2_with fail
        go_roundg (gk - 1)
        case rel => exact ⟨k + 1, by omega, by go_num, rfl, HNEXT.out HK1.out⟩
        case measure => omega
      · have d0 : decide ((97 : Int) ≤ (c.toNat : Int)) = true := by simp; omega
        have e0 : decide (97 ≤ c.toNat) = true := by simp; omega
        have f0 : 97 ≤ c.toNat := by omega
        have d1 : decide ((c.toNat : Int) ≤ 122) = false := by simp; omega
        have e1 : decide (c.toNat ≤ 122) = false := by simp; omega
        have f1 : ¬ c.toNat ≤ 122 := by omega
        have d2 : decide ((65 : Int) ≤ (c.toNat : Int)) = true := by simp; omega
        have e2 : decide (65 ≤ c.toNat) = true := by simp; omega
        have f2 : 65 ≤ c.toNat := by omega
        have d3 : decide ((c.toNat : Int) ≤ 90) = false := by simp; omega
        have e3 : decide (c.toNat ≤ 90) = false := by simp; omega
        have f3 : ¬ c.toNat ≤ 90 := by omega
        have d4 : decide ((48 : Int) ≤ (c.toNat : Int)) = true := by simp; omega
        have e4 : decide (48 ≤ c.toNat) = true := by simp; omega
        have f4 : 48 ≤ c.toNat := by omega
        have d5 : decide ((c.toNat : Int) ≤ 57) = false := by simp; omega
        have e5 : decide (c.toNat ≤ 57) = false := by simp; omega
        have f5 : ¬ c.toNat ≤ 57 := by omega
        have HK0 : Hid (tokb c = ([33, 35, 36, 37, 38, 39, 42, 43, 45, 46, 94, 95, 96, 124, 126] : List Nat).contains c.toNat) := by show _ = _; rw [HTK.out, e0, e1, e2, e3, e4, e5]; simp
        clear e0 e1 e2 e3 e4 e5 hr
        cases hin : ([33, 35, 36, 37, 38, 39, 42, 43, 45, 46, 94, 95, 96, 124, 126] : List Nat).contains c.toNat
        · have HIN := Lib.hid hin
          obtain rfl : false = b := by rw [← HB.out]; exact (HSTOP.out (HK0.out.trans hin)).symm
          clear hin
          go_wp2_with (go_at_call 52; (with_reducible refine (rin_lit c false w HIN.out).mono ?_); rintro e w1 ⟨rfl, rfl⟩)
          go_ret
          exact ⟨rfl, Below.refl _ _⟩
        · have HIN := Lib.hid hin
          have HK1 := Lib.hid (HNEXT.out (HK0.out.trans hin))
          clear hin
          go_wp2_with (go_at_call 52; (with_reducible refine (rin_lit c true w HIN.out).mono ?_); rintro e w1 ⟨rfl, rfl⟩)
          go_roundg (gk - 1)
          case rel => exact ⟨k + 1, by omega, by go_num, rfl, HK1.out⟩
          case measure => omega
    · obtain rfl : s.size = k := by omega
      have hall : s.data.toList.all tokb = true := by
        have := HALL.out
        rwa [List.take_of_length_le (by rw [ba_len7]; exact Nat.le_refl _)] at this
      have hb : decide (s.size ≠ 0) = b := by
        rw [← HB.out]
        unfold isTok
        rw [hall, Bool.true_and]
        by_cases h0 : s.size = 0
        · have : s.data.toList = [] := List.eq_nil_of_length_eq_zero (by rw [ba_len7]; exact h0)
          rw [this, decide_eq_false (by simpa using h0)]
          rfl
        · cases hl : s.data.toList with
          | nil => rw [← ba_len7, hl] at h0; exact absurd rfl h0
          | cons a r => rw [decide_eq_true h0]; rfl
      by_cases h0 : s.size = 0
      · have e1 : (s.toList == (⟨#[]⟩ : ByteArray).toList) = true := by rw [empty_b]; simpa using h0
        have e2 : (s.toList == []) = true := by rw [empty_b2]; simpa using h0
        obtain rfl : false = b := by rw [← hb]; simp [h0]
        clear hall hb
        go_wp2_with fail
        go_ret
        exact ⟨rfl, Below.refl _ _⟩
      · have e1 : (s.toList == (⟨#[]⟩ : ByteArray).toList) = false := by rw [empty_b]; simpa using h0
        have e2 : (s.toList == []) = false := by rw [empty_b2]; simpa using h0
        obtain rfl : true = b := by rw [← hb]; simp [h0]
        clear hall hb
        go_wp2_with fail
        go_ret
        exact ⟨rfl, Below.refl _ _⟩
end Hx
end Go.Proofs.YtagngohemlkkoaaDoor
