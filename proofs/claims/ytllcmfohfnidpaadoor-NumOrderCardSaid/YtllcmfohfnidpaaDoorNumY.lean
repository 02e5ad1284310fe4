/-
  Contracts of num.Version: slices.Index of bytes, the reader of a part, the two parts.
-/
import Derived.Test.YtllcmfohfnidpaaDoorNumX
import Derived.Test.YtllcmfohfnidpaaDoorMemG
import Derived.Lib.ConvBytes
import Derived.Deep.LoopGhost
namespace Go.Proofs.YtllcmfohfnidpaaDoor
open Go.RowKit
namespace Hx
open Nmb
set_option linter.unusedVariables false
/-- Where a byte is met first. -/
def ix (x : UInt8) : List UInt8 → Option Nat
  | [] => none
  | b :: l => if b = x then some 0 else (ix x l).map (· + 1)
theorem ix_none {x : UInt8} {l : List UInt8} (h : x ∉ l) : ix x l = none := by
  induction l with
  | nil => rfl
  | cons b l ih =>
    rw [List.mem_cons, not_or] at h
    unfold ix
    rw [if_neg (Ne.symm h.1), ih h.2]
    rfl
theorem ix_cut {x : UInt8} {a : List UInt8} (h : x ∉ a) (b : List UInt8) : ix x (a ++ x :: b) = some a.length := by
  induction a with
  | nil => unfold ix; simp
  | cons c a ih =>
    rw [List.mem_cons, not_or] at h
    show (if c = x then some 0 else (ix x (a ++ x :: b)).map (· + 1)) = _
    rw [if_neg (Ne.symm h.1), ih h.2]
    rfl
theorem ix_some {x : UInt8} {l : List UInt8} {k : Nat} (h : ix x l = some k) : ∃ a b, l = a ++ x :: b ∧ a.length = k ∧ x ∉ a := by
  induction l generalizing k with
  | nil => cases h
  | cons c l ih =>
    unfold ix at h
    by_cases hc : c = x
    · rw [if_pos hc] at h
      obtain rfl : 0 = k := Option.some.inj h
      exact ⟨[], l, by rw [hc]; rfl, rfl, by simp⟩
    · rw [if_neg hc] at h
      cases hi : ix x l with
      | none => rw [hi] at h; cases h
      | some j =>
        rw [hi] at h
        obtain rfl : j + 1 = k := Option.some.inj h
        obtain ⟨a, b, h1, h2, h3⟩ := ih hi
        exact ⟨c :: a, b, by rw [h1]; rfl, by rw [List.length_cons, h2], by rw [List.mem_cons, not_or]; exact ⟨Ne.symm hc, h3⟩⟩
theorem ix_at {x : UInt8} {l : List UInt8} {k : Nat} (h : k < l.length) (h1 : x ∉ l.take k) (h2 : l[k]'h = x) : ix x l = some k := by
  have e : l = l.take k ++ x :: l.drop (k + 1) := by
    rw [← h2, ← List.drop_eq_getElem_cons h, List.take_append_drop]
  rw [e, ix_cut h1, List.length_take, Nat.min_eq_left (Nat.le_of_lt h)]
/-- What slices.Index answers. -/
def ixI (x : UInt8) (l : List UInt8) : Int := match ix x l with | some k => (k : Int) | none => -1
set_option maxHeartbeats 1000000 in
set_option maxRecDepth 100000 in
theorem index6 (A : Option Addr) (n cp : Nat) (l : List UInt8) (x : UInt8) (w : World) (hr : RdA w w.heap.size A l) (hn : l.length = n) (hm : n ≤ 1000000) (r : Int) (h : ixI x l = r) :
    Calls Tryd.prog 26 #[.slice A n cp, .int .u8 x.toNat] w fun e w' => e = .returned (.int .i64 r) ∧ Below w.heap.size w w' := by
  have HR := Lib.hid hr
  have HN := Lib.hid hn
  have HH := Lib.hid h
  clear hr hn h
  go_enter Tryd.func26, Tryd.ntmps26
  go_wp2_with fail
  go_loopw [8] (fun i wr => ∃ k : Nat, k ≤ n ∧ i = .int .i64 k ∧ x ∉ l.take k ∧ w = wr) (fun i _ => n - (intOf i).toNat)
  case atStart => exact ⟨0, Nat.zero_le _, rfl, by simp, by first | rfl | trivial⟩
  case round =>
    obtain ⟨k, hk, rfl, hno, rfl⟩ := hrel
    by_cases hlt : k < n
    · have hk2 : k < l.length := by rw [HN.out]; exact hlt
      obtain ⟨b, off, rfl, hbB, hc⟩ := HR.out (by omega)
      have hcell := hc k hk2
      obtain ⟨c, hcc⟩ : ∃ c, l[k]'hk2 = c := ⟨_, rfl⟩
      rw [hcc] at hcell
      have HNO := Lib.hid hno
      have HCC := Lib.hid hcc
      have hxl := x.toNat_lt
      have hcl := c.toNat_lt
      by_cases he : x = c
      · have hq : ((x.toNat : Int) == (c.toNat : Int)) = true := by rw [he]; simp
        have HX : Hid ((k : Int) = r) := Lib.hid (by rw [← HH.out]; unfold ixI; rw [ix_at hk2 hno (by rw [hcc, he])])
        clear hc hcc he hno HH
        go_wp2_with fail
        go_ret
        exact ⟨ret_i6 HX.out, Below.refl _ _⟩
      · have hq : ((x.toNat : Int) == (c.toNat : Int)) = false := by
          simp only [beq_eq_false_iff_ne, ne_eq]
          intro e
          exact he (UInt8.toNat_inj.1 (by omega))
        have HX : Hid (x ∉ l.take (k + 1)) := Lib.hid (by
          rw [List.take_succ_eq_append_getElem hk2, hcc, List.mem_append, not_or]
          exact ⟨hno, by simpa using he⟩)
        clear hc hcc he hno
        go_wp2_with fail
        go_roundw
        case rel => exact ⟨k + 1, hlt, by go_num, HX.out, by first | rfl | trivial⟩
        case measure => simp [intOf]; omega
    · obtain rfl : k = n := by omega
      have HX : Hid ((-1 : Int) = r) := Lib.hid (by
        rw [List.take_of_length_le (by rw [HN.out]; omega)] at hno
        rw [← HH.out]
        unfold ixI
        rw [ix_none hno])
      clear hno
      go_wp2_with fail
      go_ret
      exact ⟨ret_i6 HX.out, Below.refl _ _⟩
theorem index46 (A : Option Addr) (n cp : Nat) (l : List UInt8) (w : World) (hr : RdA w w.heap.size A l) (hn : l.length = n) (hm : n ≤ 1000000) (r : Int) (h : ixI 46 l = r) :
    Calls Tryd.prog 26 #[.slice A n cp, .int .u8 46] w fun e w' => e = .returned (.int .i64 r) ∧ Below w.heap.size w w' := index6 A n cp l 46 w hr hn hm r h
/-- What the reader of a part answers. -/
def partR (l : List UInt8) : Int × Int := match readN l with | some n => if n ≤ 99 then ((n : Int), 0) else (0, 60) | none => (0, 60)
set_option maxHeartbeats 1000000 in
set_option maxRecDepth 100000 in
theorem part6 (A : Option Addr) (n cp : Nat) (l : List UInt8) (w : World) (hr : RdA w w.heap.size A l) (hn : l.length = n) (hm : n ≤ 1000000) (a b : Int) (h : partR l = (a, b)) :
    Calls Tryd.prog 21 #[.slice A n cp] w fun e w' => e = .returned (.tuple #[.int .i64 a, .int .i64 b]) ∧ Below w.heap.size w w' := by
  obtain ⟨t, ht⟩ : ∃ t : ByteArray, t = ⟨l.toArray⟩ := ⟨_, rfl⟩
  have hcv := conv_str (P := Tryd.prog) (c := cp) hr hn Tryd.underlying43 Tryd.underlying5 Tryd.underlying9
  rw [← ht] at hcv
  have HM : Hid (t.size ≤ 1000000) := Lib.hid (by rw [ht]; show l.length ≤ _; omega)
  cases hrd : readN l with
  | none =>
    have HR : Hid (readR t.data.toList = (0, 60)) := Lib.hid (by rw [ht]; unfold readR; rw [list6, hrd])
    unfold partR at h
    rw [hrd] at h
    obtain ⟨rfl, rfl⟩ : 0 = a ∧ 60 = b := (Prod.mk.injEq _ _ _ _).mp h
    clear h hrd ht hr hn
    go_enter Tryd.func21, Tryd.ntmps21
    go_wp2_with (first
      | (go_at_call 18; (with_reducible refine (read6 t w HM.out 0 60 HR.out).mono ?_); rintro e w1 ⟨rfl, hb1⟩)
      | fail)
    go_ret2
    exact ⟨rfl, hb1⟩
  | some m =>
    have HR : Hid (readR t.data.toList = ((m : Int), 0)) := Lib.hid (by rw [ht]; unfold readR; rw [list6, hrd])
    have hmm : m ≤ 9007199254740991 := by have := (readN_iff _ _).1 hrd; unfold most at this; omega
    unfold partR at h
    rw [hrd] at h
    dsimp only at h
    by_cases h9 : m ≤ 99
    · rw [if_pos h9] at h
      obtain ⟨rfl, rfl⟩ : (m : Int) = a ∧ 0 = b := (Prod.mk.injEq _ _ _ _).mp h
      have d0 : decide ((99 : Int) < (m : Int)) = false := by simp; omega
      clear h hrd ht hr hn
      go_enter Tryd.func21, Tryd.ntmps21
      go_wp2_with (first
        | (go_at_call 18; (with_reducible refine (read6 t w HM.out m 0 HR.out).mono ?_); rintro e w1 ⟨rfl, hb1⟩)
        | fail)
      go_ret2
      exact ⟨rfl, hb1⟩
    · rw [if_neg h9] at h
      obtain ⟨rfl, rfl⟩ : 0 = a ∧ 60 = b := (Prod.mk.injEq _ _ _ _).mp h
      have d0 : decide ((99 : Int) < (m : Int)) = true := by simp; omega
      clear h hrd ht hr hn
      go_enter Tryd.func21, Tryd.ntmps21
      go_wp2_with (first
        | (go_at_call 18; (with_reducible refine (read6 t w HM.out m 0 HR.out).mono ?_); rintro e w1 ⟨rfl, hb1⟩)
        | fail)
      go_ret2
      exact ⟨rfl, hb1⟩
theorem part_bad {l : List UInt8} {a b : Int} (h : partR l = (a, b)) : (b = 0 ∧ 0 ≤ a ∧ a ≤ 99 ∧ readN l = some a.toNat) ∨ (b = 60 ∧ a = 0 ∧ ∀ n, n ≤ 99 → readN l ≠ some n) := by
  unfold partR at h
  cases hr : readN l with
  | none =>
    rw [hr] at h
    obtain ⟨rfl, rfl⟩ : 0 = a ∧ 60 = b := (Prod.mk.injEq _ _ _ _).mp h
    exact .inr ⟨rfl, rfl, fun n _ e => by cases e⟩
  | some m =>
    rw [hr] at h
    dsimp only at h
    by_cases h9 : m ≤ 99
    · rw [if_pos h9] at h
      obtain ⟨rfl, rfl⟩ : (m : Int) = a ∧ 0 = b := (Prod.mk.injEq _ _ _ _).mp h
      exact .inl ⟨rfl, by omega, by omega, by simp⟩
    · rw [if_neg h9] at h
      obtain ⟨rfl, rfl⟩ : 0 = a ∧ 60 = b := (Prod.mk.injEq _ _ _ _).mp h
      exact .inr ⟨rfl, rfl, fun n hn e => by injection e with e; omega⟩
theorem info_u8 : (Tryd.prog.info? 5).map (fun i => (i.zero, i.size, i.bytes)) = some (some (.int .u8 0), 1, 1) := by kernel_rfl
def encU (c : UInt8) : Value := .int .u8 c.toNat
set_option maxHeartbeats 2000000 in
set_option maxRecDepth 100000 in
theorem both_none (A : Option Addr) (n cp : Nat) (l : List UInt8) (w : World) (hr : RdA w w.heap.size A l) (hn : l.length = n) (hm : n ≤ 1000000) (h : ix 46 l = none) :
    Calls Tryd.prog 20 #[.slice A n cp, .int .u8 46, .func (.func 21) #[] #[]] w fun e w' => e = .returned (.tuple #[.int .i64 0, .int .i64 0, .int .i64 60]) ∧ Below w.heap.size w w' := by
  have HR := Lib.hid hr
  have HN := Lib.hid hn
  have HH : Hid (ixI 46 l = -1) := Lib.hid (by unfold ixI; rw [h])
  clear hr hn h
  go_enter Tryd.func20, Tryd.ntmps20
  go_wp2_with (first
    | (go_at_call 26; (with_reducible refine (index46 A n cp l w HR.out HN.out hm (-1) HH.out).mono ?_); rintro e w1 ⟨rfl, hb1⟩)
    | fail)
  refine bodyPost_ret (v := .tuple #[.int .i64 0, .int .i64 0, .int .i64 60]) ?_ rfl ⟨rfl, hb1⟩
  simp [results, Tryd.results20, go_sem]
set_option maxHeartbeats 4000000 in
set_option maxRecDepth 100000 in
theorem both_some (A : Option Addr) (n cp : Nat) (l : List UInt8) (w : World) (hr : RdA w w.heap.size A l) (hn : l.length = n) (hm : n ≤ 1000000) (hcp : n ≤ cp) (hA : A = none → cp = 0) (k : Nat) (h : ix 46 l = some k) (a1 b1 a2 b2 : Int) (h1 : partR (l.take k) = (a1, b1)) (h2 : partR (l.drop (k + 1)) = (a2, b2)) :
    Calls Tryd.prog 20 #[.slice A n cp, .int .u8 46, .func (.func 21) #[] #[]] w fun e w' => e = .returned (if b1 = 0 ∧ b2 = 0 then .tuple #[.int .i64 a1, .int .i64 a2, .int .i64 0] else .tuple #[.int .i64 0, .int .i64 0, .int .i64 60]) ∧ Below w.heap.size w w' := by
  obtain ⟨i0, hi, hz0, hz1, hz2⟩ := info_parts info_u8
  have hk : k < n := by
    obtain ⟨x, y, e1, e2, _⟩ := ix_some h
    rw [← hn, e1, List.length_append, List.length_cons]
    omega
  obtain ⟨A1, hr1, _, hs1⟩ := slice_to (enc := encU) (P := Tryd.prog) 43 5 Tryd.underlying43 i0 hi hz1 (show RdG encU w w.heap.size A l from hr) hn hA k (by omega) hcp
  obtain ⟨A2, hr2, _, hs2⟩ := slice_from (enc := encU) (P := Tryd.prog) 43 5 Tryd.underlying43 i0 hi hz1 (show RdG encU w w.heap.size A l from hr) hn hA (k + 1) (by omega) hcp
  have hs1' := hs1
  have hs2' : ∀ W, (Instr.slice 43 (.slice A n cp) (some (.int .i64 ((k : Int) + 1))) none none).run Tryd.prog W = .ok (.slice A2 (n - (k + 1)) (cp - (k + 1))) W := fun W => by
    have := hs2 W
    rwa [show (((k + 1 : Nat) : Int)) = (k : Int) + 1 by omega] at this
  have HR := Lib.hid hr
  have HN := Lib.hid hn
  have HR1 : Hid (∀ w1, Below w.heap.size w w1 → RdA w1 w1.heap.size A1 (l.take k)) := Lib.hid fun w1 hb => RdA.mono (RdA.below hr1 hb) hb.size
  have HR2 : Hid (∀ w1, Below w.heap.size w w1 → RdA w1 w1.heap.size A2 (l.drop (k + 1))) := Lib.hid fun w1 hb => RdA.mono (RdA.below hr2 hb) hb.size
  have HL1 : Hid ((l.take k).length = k) := Lib.hid (by rw [List.length_take]; omega)
  have HL2 : Hid ((l.drop (k + 1)).length = n - (k + 1)) := Lib.hid (by rw [List.length_drop]; omega)
  have HH : Hid (ixI 46 l = (k : Int)) := Lib.hid (by unfold ixI; rw [h])
  have HK1 : Hid (k ≤ 1000000) := Lib.hid (by omega)
  have HK2 : Hid (n - (k + 1) ≤ 1000000) := Lib.hid (by omega)
  have H1 := Lib.hid h1
  have H2 := Lib.hid h2
  have d0 : decide ((k : Int) < 0) = false := by simp
  rcases part_bad h1 with ⟨rfl, q1, q2, _⟩ | ⟨rfl, rfl, _⟩
  · rcases part_bad h2 with ⟨rfl, p1, p2, _⟩ | ⟨rfl, rfl, _⟩
    · rw [if_pos ⟨rfl, rfl⟩]
      clear hr hn h h1 h2 hs1 hs2 hi hz0 hz1 hz2 hr1 hr2 hcp hA
      go_enter Tryd.func20, Tryd.ntmps20
      go_wp2_with (first
        | (go_at_call 26; (with_reducible refine (index46 A n cp l w HR.out HN.out hm k HH.out).mono ?_); rintro e w1 ⟨rfl, hb1⟩)
        | (go_at_call 21; (with_reducible refine (part6 A1 k cp (l.take k) w1 (HR1.out _ hb1) HL1.out HK1.out a1 0 H1.out).mono ?_); rintro e w2 ⟨rfl, hb2⟩; have hB2 := stp hb1 hb2)
        | (go_at_call 21; (with_reducible refine (part6 A2 (n - (k + 1)) (cp - (k + 1)) (l.drop (k + 1)) w2 (HR2.out _ hB2) HL2.out HK2.out a2 0 H2.out).mono ?_); rintro e w3 ⟨rfl, hb3⟩; have hB3 := stp hB2 hb3)
        | fail)
      refine bodyPost_ret (v := .tuple #[.int .i64 a1, .int .i64 a2, .int .i64 0]) ?_ rfl ⟨rfl, hB3⟩
      simp [results, Tryd.results20, go_sem]
    · rw [if_neg (by omega)]
      clear hr hn h h1 h2 hs1 hs2 hi hz0 hz1 hz2 hr1 hr2 hcp hA
      go_enter Tryd.func20, Tryd.ntmps20
      go_wp2_with (first
        | (go_at_call 26; (with_reducible refine (index46 A n cp l w HR.out HN.out hm k HH.out).mono ?_); rintro e w1 ⟨rfl, hb1⟩)
        | (go_at_call 21; (with_reducible refine (part6 A1 k cp (l.take k) w1 (HR1.out _ hb1) HL1.out HK1.out a1 0 H1.out).mono ?_); rintro e w2 ⟨rfl, hb2⟩; have hB2 := stp hb1 hb2)
        | (go_at_call 21; (with_reducible refine (part6 A2 (n - (k + 1)) (cp - (k + 1)) (l.drop (k + 1)) w2 (HR2.out _ hB2) HL2.out HK2.out 0 60 H2.out).mono ?_); rintro e w3 ⟨rfl, hb3⟩; have hB3 := stp hB2 hb3)
        | fail)
      refine bodyPost_ret (v := .tuple #[.int .i64 0, .int .i64 0, .int .i64 60]) ?_ rfl ⟨rfl, hB3⟩
      simp [results, Tryd.results20, go_sem]
  · rw [if_neg (by omega)]
    clear hr hn h h1 h2 hs1 hs2 hi hz0 hz1 hz2 hr1 hr2 hcp hA
    go_enter Tryd.func20, Tryd.ntmps20
    go_wp2_with (first
      | (go_at_call 26; (with_reducible refine (index46 A n cp l w HR.out HN.out hm k HH.out).mono ?_); rintro e w1 ⟨rfl, hb1⟩)
      | (go_at_call 21; (with_reducible refine (part6 A1 k cp (l.take k) w1 (HR1.out _ hb1) HL1.out HK1.out 0 60 H1.out).mono ?_); rintro e w2 ⟨rfl, hb2⟩; have hB2 := stp hb1 hb2)
      | fail)
    refine bodyPost_ret (v := .tuple #[.int .i64 0, .int .i64 0, .int .i64 60]) ?_ rfl ⟨rfl, hB2⟩
    simp [results, Tryd.results20, go_sem]
theorem str_rd (s : ByteArray) (w : World) : ∃ C WB, (convert 9 43 (.string s)).run Tryd.prog w = .ok (.slice (some ⟨w.heap.size, 0, none⟩) s.size C) WB ∧ RdA WB WB.heap.size (some ⟨w.heap.size, 0, none⟩) s.data.toList ∧ s.size ≤ C ∧ Below w.heap.size w WB := by
  have h := Lib.run_convert_string_bytes (P := Tryd.prog) w 9 43 5 s Tryd.underlying9 Tryd.underlying43 Tryd.underlying5
  refine ⟨_, _, h, ?_, grownCap_ge _ _ _ _, ⟨rfl, rfl, rfl, by rw [Lib.bytesWorld_size]; omega, fun k hk => Lib.bytesWorld_at_old w _ _ k hk⟩⟩
  intro hp
  refine ⟨w.heap.size, 0, rfl, by rw [Lib.bytesWorld_size]; omega, fun j hj => ?_⟩
  have hs := ba_len6 s
  rw [Nat.zero_add, Lib.bytesWorld_cell w _ _ j (by omega)]
  rw [List.getD_eq_getElem?_getD, List.getElem?_eq_getElem hj]
  rfl
theorem dg_no46 (n : Nat) : (46 : UInt8) ∉ dg n := dg_not n 46 (by decide)
theorem cut_eq {l x y : List UInt8} {b : UInt8} {k : Nat} (e : l = x ++ b :: y) (h : x.length = k) : l.take k = x ∧ l.drop (k + 1) = y := by
  subst h
  rw [e]
  refine ⟨by simp, ?_⟩
  rw [show x ++ b :: y = (x ++ [b]) ++ y by simp, List.drop_left' (by simp)]
set_option maxHeartbeats 2000000 in
set_option maxRecDepth 100000 in
theorem version6 (s : ByteArray) (w : World) (hm : s.size ≤ 1000000) (a b c : Int) (h : verR s.data.toList = (a, b, c)) :
    Calls Tryd.prog 10 #[.string s] w fun e w' => e = .returned (.tuple #[.int .i64 a, .int .i64 b, .int .i64 c]) ∧ Below w.heap.size w w' := by
  obtain ⟨C, WB, hcv, hrd, hC, hb0⟩ := str_rd s w
  have hl := ba_len6 s
  have hsp := verR_spec h
  cases hi : ix 46 s.data.toList with
  | none =>
    obtain ⟨rfl, rfl, rfl⟩ : 0 = a ∧ 0 = b ∧ 60 = c := by
      rcases hsp with ⟨n, m, _, _, h3, _⟩ | ⟨_, p1, p2, p3⟩
      · exfalso
        rw [← h3] at hi
        unfold ver at hi
        rw [ix_cut (dg_no46 n)] at hi
        cases hi
      · exact ⟨p1.symm, p2.symm, p3.symm⟩
    have HB := Lib.hid hb0
    have HC := Lib.hid (both_none (some ⟨w.heap.size, 0, none⟩) s.size C s.data.toList WB hrd hl hm hi)
    clear hrd hC hb0 h hsp hi hl
    go_enter Tryd.func10, Tryd.ntmps10
    go_wp2_with (first
      | (go_at_call 20; (with_reducible refine HC.out.mono ?_); rintro e w2 ⟨rfl, hb2⟩)
      | fail)
    refine bodyPost_ret (v := .tuple #[.int .i64 0, .int .i64 0, .int .i64 60]) ?_ rfl ⟨rfl, stp HB.out hb2⟩
    simp [results, Tryd.results10, go_sem]
  | some k =>
    obtain ⟨x, y, e1, e2, e3⟩ := ix_some hi
    obtain ⟨ex, ey⟩ := cut_eq e1 e2
    obtain ⟨a1, b1, h1⟩ : ∃ a1 b1, partR (s.data.toList.take k) = (a1, b1) := ⟨_, _, rfl⟩
    obtain ⟨a2, b2, h2⟩ : ∃ a2 b2, partR (s.data.toList.drop (k + 1)) = (a2, b2) := ⟨_, _, rfl⟩
    have hv : (if b1 = 0 ∧ b2 = 0 then Value.tuple #[.int .i64 a1, .int .i64 a2, .int .i64 0] else .tuple #[.int .i64 0, .int .i64 0, .int .i64 60]) = .tuple #[.int .i64 a, .int .i64 b, .int .i64 c] := by
      have q1 := part_bad h1
      have q2 := part_bad h2
      rw [ex] at q1
      rw [ey] at q2
      rcases hsp with ⟨n, m, hn, hm9, h3, rfl, rfl, rfl⟩ | ⟨hno, rfl, rfl, rfl⟩
      · rw [e1] at h3
        unfold ver at h3
        obtain ⟨rfl, rfl⟩ := split_at (dg_no46 n) e3 h3
        have r1 : readN (dg n) = some n := (readN_iff _ _).2 ⟨rfl, by unfold most; omega⟩
        have r2 : readN (dg m) = some m := (readN_iff _ _).2 ⟨rfl, by unfold most; omega⟩
        rw [r1] at q1
        rw [r2] at q2
        rcases q1 with ⟨rfl, q11, _, q13⟩ | ⟨_, _, q13⟩
        · rcases q2 with ⟨rfl, q21, _, q23⟩ | ⟨_, _, q23⟩
          · rw [if_pos ⟨rfl, rfl⟩]
            injection q13 with q13
            injection q23 with q23
            rw [show a1 = (n : Int) by omega, show a2 = (m : Int) by omega]
          · exact absurd rfl (q23 m hm9)
        · exact absurd rfl (q13 n hn)
      · rw [if_neg]
        rintro ⟨rfl, rfl⟩
        rcases q1 with ⟨_, q11, q12, q13⟩ | ⟨q13, _⟩
        · rcases q2 with ⟨_, q21, q22, q23⟩ | ⟨q23, _⟩
          · refine hno a1.toNat a2.toNat (by omega) (by omega) ?_
            unfold ver
            rw [← ((readN_iff _ _).1 q13).1, ← ((readN_iff _ _).1 q23).1, e1]
          · omega
        · omega
    have HB := Lib.hid hb0
    have HC := Lib.hid (both_some (some ⟨w.heap.size, 0, none⟩) s.size C s.data.toList WB hrd hl hm hC (fun h => by cases h) k hi a1 b1 a2 b2 h1 h2)
    rw [hv] at HC
    clear hrd hC hb0 h hsp hi hl hv e1 e2 e3 ex ey h1 h2
    go_enter Tryd.func10, Tryd.ntmps10
    go_wp2_with (first
      | (go_at_call 20; (with_reducible refine HC.out.mono ?_); rintro e w2 ⟨rfl, hb2⟩)
      | fail)
    refine bodyPost_ret (v := .tuple #[.int .i64 a, .int .i64 b, .int .i64 c]) ?_ rfl ⟨rfl, stp HB.out hb2⟩
    simp [results, Tryd.results10, go_sem]
end Hx
end Go.Proofs.YtllcmfohfnidpaaDoor
