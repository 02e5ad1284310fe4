/-
  Contracts of package ascii: all, Token, Plain, trim, Trim, Lower, Same.
-/
import Derived.Test.YtagngohemlkkoaaDoorAscK
import Derived.Test.YtagngohemlkkoaaDoorAscU
import Derived.Test.YtagngohemlkkoaaDoorShelf
namespace Go.Proofs.YtagngohemlkkoaaDoor
open Go.RowKit
namespace Hx
open As
set_option linter.unusedVariables false
theorem kcell {W : World} {B t : Nat} {fz : Nat × Nat} {O : Array Value} (h : W.heap[B]? = some (.cells O t fz)) (hO : (kd.map encK).toArray = O) (c : UInt8) : W.cell? ⟨B, c.toNat, none⟩ = some (.int .u8 ((kindOf c).toNat : Int)) := by
  have hc : c.toNat < kd.length := by rw [kd_length]; exact c.toNat_lt
  rw [cell_of_row W B c.toNat _ t fz h, ← hO]
  simp only [List.getElem?_toArray, List.getElem?_map, List.getElem?_eq_getElem hc, kd_get c hc]
  rfl
/-- The world behind the array's copy. -/
theorem opnK (w w1 : World) (O : Array Value) (hb1 : Below w.heap.size w w1) : ∃ W, (w1.alloc (.cells zero256 71)).setRow w1.heap.size O = W ∧ W.heap[w1.heap.size]? = some (.cells O 71 (0, 0)) ∧ Below w.heap.size w W ∧ w.heap.size ≤ w1.heap.size ∧ W.heap.size = w1.heap.size + 1 :=
  ⟨_, rfl, setRow_heap _ _ _ _ _ _ (heap_alloc_new w1 _), below_setRow7 (stpA hb1 _) hb1.size _, hb1.size, by simp [World.setRow]⟩
set_option maxHeartbeats 2000000 in
set_option maxRecDepth 100000 in
/-- all: whether the bytes of a text are of a kind, or of those behind it. -/
theorem all7 (s : ByteArray) (m : Int) (b : Bool) (w : World) (hm : s.size ≤ 1000000) (h : s.data.toList.all (fun c => !decide (((kindOf c).toNat : Int) < m)) = b) :
    Calls Tryd.prog 31 #[.string s, .int .u8 m] w fun e w' => e = .returned (.bool b) ∧ Below w.heap.size w w' := by
  have hz := zero_256
  obtain ⟨O, hO⟩ : ∃ O, (kd.map encK).toArray = O := ⟨_, rfl⟩
  have HO := Lib.hid hO
  have HOS : Hid (O.size = 256) := by show _ = _; rw [← hO]; simp [kd_length]
  have HOC : Hid (O.all (·.oneCell') = true) := by show _ = _; rw [← hO]; simp [encK_one]
  clear hO
  have HM := Lib.hid hm
  have HH := Lib.hid h
  clear hm h
  go_enter Tryd.func31, Tryd.ntmps31
  go_wp2_with (first
    | (go_at_call 44; (with_reducible refine (kinds7 O w HO.out).mono ?_); rintro e w1 ⟨rfl, hb1⟩; have HB1 := Lib.hid hb1; clear hb1)
    | (refine wpList_store_row rfl _ _ _ rfl w1.heap.size O rfl rfl 71 zero256 (heap_alloc_new w1 _) (by rw [size256, HOS.out]) (by rw [HOS.out]; rfl) HOC.out ?_)
    | fail)
  obtain ⟨W, hW, hrow, hbW, hle, _⟩ := opnK w w1 O HB1.out
  rw [hW]
  have HC : Hid (∀ c : UInt8, W.cell? ⟨w1.heap.size, c.toNat, none⟩ = some (.int .u8 ((kindOf c).toNat : Int))) := Lib.hid (fun c => kcell hrow HO.out c)
  have HBW := Lib.hid hbW
  clear hW hrow hbW
  go_loopg [6, 10] s.size (fun gg x i wr => ∃ k : Nat, k + gg = s.size ∧ i = .int .i64 k ∧ W = wr ∧ (s.data.toList.take k).all (fun c => !decide (((kindOf c).toNat : Int) < m)) = true)
  case atStart => exact ⟨0, by omega, rfl, rfl, rfl⟩
  case round =>
    obtain ⟨k, hk, rfl, rfl, hall⟩ := hrel
    have HALL := Lib.hid hall
    have hMM := HM.out
    clear hall
    by_cases hlt : k < s.size
    · obtain ⟨c, hc, hat⟩ := byte_at s k hlt
      have bk : (0 : Int) ≤ (k : Int) ∧ (k : Int) < (s.size : Int) := by omega
      have hcl := c.toNat_lt
      have b1 : (0 : Int) ≤ (c.toNat : Int) ∧ (c.toNat : Int) < 256 := by omega
      have c1 := HC.out c
      cases hd : decide (((kindOf c).toNat : Int) < m) with
      | true =>
        obtain rfl : false = b := by rw [← HH.out]; exact (all_noT _ hc (by rw [hd]; rfl)).symm
        clear hc
        go_wp2_with fail
        go_ret
        exact ⟨rfl, HBW.out⟩
      | false =>
        have HN : Hid ((s.data.toList.take (k + 1)).all (fun c => !decide (((kindOf c).toNat : Int) < m)) = true) := all_takeT _ hc HALL.out (by rw [hd]; rfl)
        clear hc
        go_wp2_with fail
        go_roundg (gk - 1)
        case rel => exact ⟨k + 1, by omega, by go_num, rfl, HN.out⟩
        case measure => omega
    · obtain rfl : s.size = k := by omega
      obtain rfl : true = b := by
        rw [← HH.out, ← HALL.out, List.take_of_length_le (by rw [ba_len7]; exact Nat.le_refl _)]
      go_wp2_with fail
      go_ret
      exact ⟨rfl, HBW.out⟩
theorem plain_all (l : List UInt8) : l.all (fun c => !decide (((kindOf c).toNat : Int) < 1)) = plain l := by
  unfold plain
  congr 1
  funext c
  have := kind_plain c
  rw [show decide (((kindOf c).toNat : Int) < 1) = decide ((kindOf c).toNat < 1) by rw [decide_eq_decide]; omega, this, Bool.not_not]
theorem tok_all7 (l : List UInt8) : l.all (fun c => !decide (((kindOf c).toNat : Int) < 3)) = l.all tokb := by
  congr 1
  funext c
  have := kind_tok c
  rw [show decide (((kindOf c).toNat : Int) < 3) = decide ((kindOf c).toNat < 3) by rw [decide_eq_decide]; omega, this, Bool.not_not]
set_option maxRecDepth 100000 in
theorem token7 (s : ByteArray) (b : Bool) (w : World) (h0 : s.size ≤ 1000000) (h1 : isTok s.data.toList = b) :
    Calls Tryd.prog 18 #[.string s] w fun e w' => e = .returned (.bool b) ∧ Below w.heap.size w w' := by
  have H0 := Lib.hid h0
  have hem := empty_b s
  have hem2 := empty_b2 s
  by_cases hs : s.size = 0
  · have e1 : decide (s.size = 0) = true := by simp [hs]
    rw [e1] at hem hem2
    obtain rfl : false = b := by
      have : s.data.toList = [] := List.eq_nil_of_length_eq_zero (by rw [ba_len7]; exact hs)
      rw [← h1, this]
      rfl
    clear h0 h1
    go_enter Tryd.func18, Tryd.ntmps18
    go_wp2_with fail
    go_ret
    exact ⟨rfl, Below.refl _ _⟩
  · have e1 : decide (s.size = 0) = false := by simp [hs]
    rw [e1] at hem hem2
    have H1 : Hid (s.data.toList.all (fun c => !decide (((kindOf c).toNat : Int) < 3)) = b) := by
      show _ = _
      rw [tok_all7, ← h1]
      unfold isTok
      have : s.data.toList.isEmpty = false := by
        rw [List.isEmpty_eq_false_iff]
        intro h
        have := ba_len7 s
        rw [h] at this
        exact hs this.symm
      rw [this]
      simp
    clear h0 h1
    go_enter Tryd.func18, Tryd.ntmps18
    go_wp2_with (go_at_call 31; (with_reducible refine (all7 s 3 b w H0.out H1.out).mono ?_); rintro e w1 ⟨rfl, hb1⟩)
    go_ret
    exact ⟨rfl, hb1⟩
set_option maxRecDepth 100000 in
/-- strings.Clone. -/
theorem clone7 (s : ByteArray) (w : World) (h0 : s.size ≤ 1000000) :
    Calls Tryd.prog 37 #[.string s] w fun e w' => e = .returned (.string s) ∧ Below w.heap.size w w' := by
  have H0 : Hid (s.size ≤ 281474976710656) := Lib.hid (by omega)
  clear h0
  go_enter Tryd.func37, Tryd.ntmps37
  go_wp2_with (go_at_call 47; (with_reducible refine (Tryd.stringslite_Clone s w H0.out).mono ?_); rintro e w1 ⟨rfl, hb1⟩)
  go_ret
  exact ⟨rfl, hb1⟩
end Hx
end Go.Proofs.YtagngohemlkkoaaDoor
