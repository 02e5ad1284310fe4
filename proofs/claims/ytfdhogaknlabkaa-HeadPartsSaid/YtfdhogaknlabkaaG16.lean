/-
  Texts of one seat, put together: NumT, NumU, NumX, HedJ.
-/
import Derived.Test.YtfdhogaknlabkaaG09
import Derived.Test.YtfdhogaknlabkaaG15
set_option linter.unusedSimpArgs false
set_option linter.unusedVariables false
namespace Go.Proofs.Ytfdhogaknlabkaa
open Go.RowKit
namespace Hx
open Nmb
set_option linter.unusedVariables false
/-- What Write answers. -/
def writeR (n : Int) : ByteArray × Int := if 0 ≤ n ∧ n ≤ 9007199254740991 then (⟨(dg n.toNat).toArray⟩, 0) else (⟨#[]⟩, 2)
/-- What Sum answers. -/
def sumR (n m : Int) : Int × Int := if 0 ≤ n ∧ n ≤ 9007199254740991 ∧ -9007199254740991 ≤ m ∧ m ≤ 9007199254740991 ∧ 0 ≤ n + m ∧ n + m ≤ 9007199254740991 then (n + m, 0) else (0, 2)
/-- What Level answers. -/
def levR (l : List UInt8) : Int × Int := match ((List.range 256).map fun k : Nat => (k : Int) - 128).find? (fun n => decide (sgn n = l)) with | some n => (n, 0) | none => (0, 60)
theorem levR_spec {l : List UInt8} {a b : Int} (h : levR l = (a, b)) : (-128 ≤ a ∧ a ≤ 127 ∧ sgn a = l ∧ b = 0) ∨ ((∀ n, -128 ≤ n → n ≤ 127 → sgn n ≠ l) ∧ a = 0 ∧ b = 60) := by
  unfold levR at h
  cases hf : ((List.range 256).map fun k : Nat => (k : Int) - 128).find? (fun n => decide (sgn n = l)) with
  | some n =>
    rw [hf] at h
    obtain ⟨rfl, rfl⟩ := (Prod.mk.injEq _ _ _ _).mp h
    have h1 := List.find?_some hf
    have h2 := List.mem_of_find?_eq_some hf
    obtain ⟨k, hk, rfl⟩ := List.mem_map.1 h2
    have := List.mem_range.1 hk
    exact .inl ⟨by omega, by omega, of_decide_eq_true h1, rfl⟩
  | none =>
    rw [hf] at h
    obtain ⟨rfl, rfl⟩ := (Prod.mk.injEq _ _ _ _).mp h
    refine .inr ⟨fun n h0 h1 => ?_, rfl, rfl⟩
    have := List.find?_eq_none.1 hf n (List.mem_map.2 ⟨(n + 128).toNat, List.mem_range.2 (by omega), by omega⟩)
    simpa using this
end Hx
end Go.Proofs.Ytfdhogaknlabkaa
namespace Go.Proofs.Ytfdhogaknlabkaa
open Go.RowKit
namespace Hx
open Nmb
set_option linter.unusedVariables false
/-- What Version answers. -/
def verR (l : List UInt8) : Int × Int × Int := match ((List.range 100).flatMap fun n => (List.range 100).map fun m => (n, m)).find? (fun p => decide (ver p.1 p.2 = l)) with | some p => (p.1, p.2, 0) | none => (0, 0, 60)
theorem verR_spec {l : List UInt8} {a b c : Int} (h : verR l = (a, b, c)) : (∃ n m : Nat, n ≤ 99 ∧ m ≤ 99 ∧ ver n m = l ∧ a = n ∧ b = m ∧ c = 0) ∨ ((∀ n m, n ≤ 99 → m ≤ 99 → ver n m ≠ l) ∧ a = 0 ∧ b = 0 ∧ c = 60) := by
  unfold verR at h
  cases hf : ((List.range 100).flatMap fun n => (List.range 100).map fun m => (n, m)).find? (fun p => decide (ver p.1 p.2 = l)) with
  | some p =>
    rw [hf] at h
    obtain ⟨rfl, rfl, rfl⟩ : _ = a ∧ _ = b ∧ _ = c := by simpa only [Prod.mk.injEq] using h
    have h1 := List.find?_some hf
    have h2 := List.mem_of_find?_eq_some hf
    obtain ⟨n, hn, h3⟩ := List.mem_flatMap.1 h2
    obtain ⟨m, hm, rfl⟩ := List.mem_map.1 h3
    have q1 := List.mem_range.1 hn
    have q2 := List.mem_range.1 hm
    exact .inl ⟨n, m, by omega, by omega, of_decide_eq_true h1, rfl, rfl, rfl⟩
  | none =>
    rw [hf] at h
    obtain ⟨rfl, rfl, rfl⟩ : _ = a ∧ _ = b ∧ _ = c := by simpa only [Prod.mk.injEq] using h
    refine .inr ⟨fun n m h0 h1 => ?_, rfl, rfl, rfl⟩
    have := List.find?_eq_none.1 hf (n, m) (List.mem_flatMap.2 ⟨n, List.mem_range.2 (by omega), List.mem_map.2 ⟨m, List.mem_range.2 (by omega), rfl⟩⟩)
    simpa using this
theorem ver_length {n m : Nat} (hn : n ≤ 99) (hm : m ≤ 99) : (ver n m).length ≤ 5 := by
  have h1 := dg_short 1 n (by omega)
  have h2 := dg_short 1 m (by omega)
  unfold ver
  rw [List.length_append, List.length_cons]
  omega
/-- The text of a version, put together. -/
theorem ver_text (n m : Nat) (hn : n ≤ 99) (hm : m ≤ 99) : ∃ u v x t : ByteArray, u = ⟨(dg n).toArray⟩ ∧ v = ⟨(dg m).toArray⟩ ∧ t = ⟨(ver n m).toArray⟩ ∧ (∀ (P : Program) W, (Op.stringOp .add u ⟨#[46]⟩).run P W = .ok (.string x) W) ∧ (∀ (P : Program) W, (Op.stringOp .add x v).run P W = .ok (.string t) W) := by
  have h1 : (dg n).length ≤ 2 := dg_short 1 n (by omega)
  have h2 : (dg m).length ≤ 2 := dg_short 1 m (by omega)
  refine ⟨⟨(dg n).toArray⟩, ⟨(dg m).toArray⟩, ⟨(dg n ++ [46]).toArray⟩, ⟨(ver n m).toArray⟩, rfl, rfl, rfl, fun P W => ?_, fun P W => ?_⟩
  · exact run_string_add_lists W (dg n) [46] (by omega) (by simp)
  · rw [run_string_add_lists W (dg n ++ [46]) (dg m) (by rw [List.length_append]; simp; omega) (by omega)]
    unfold ver
    simp
end Hx
end Go.Proofs.Ytfdhogaknlabkaa
namespace Go.Proofs.Ytfdhogaknlabkaa
open Go.RowKit
namespace Hx
open Nmb
set_option linter.unusedVariables false
theorem val_grows (a b : List UInt8) : val a ≤ val (a ++ b) := by
  have gen : ∀ (r : List UInt8) (x : Nat), x ≤ r.foldl (fun n b => 10 * n + (b.toNat - 48)) x := by
    intro r
    induction r with
    | nil => exact fun x => Nat.le_refl _
    | cons c r ih => exact fun x => Nat.le_trans (show x ≤ 10 * x + (c.toNat - 48) by omega) (ih _)
  unfold val
  rw [List.foldl_append]
  exact gen b _
theorem val_take (l : List UInt8) (k : Nat) : val (l.take k) ≤ val l := by
  have := val_grows (l.take k) (l.drop k)
  rwa [List.take_append_drop] at this
/-- A byte that is no digit. -/
theorem readN_sign (l : List UInt8) (k : Nat) (h : k < l.length) (h2 : isDg (l[k]'h) = false) : readN l = none := by
  unfold readN okN
  rw [not_all6 l k h h2]
  simp
/-- A 0 ahead of others. -/
theorem readN_zero (l : List UInt8) (k : Nat) (h : k < l.length) (h0 : 0 < k) (ha : (l.take k).all isDg = true) (hv : val (l.take k) = 0) : readN l = none := by
  have hn : l.take k ≠ [] := by
    intro e
    have := congrArg List.length e
    rw [List.length_take, List.length_nil] at this
    omega
  by_cases hf : (l.take k).head? = some 48
  · have hl : l.head? = some 48 := by
      rw [← head_app (r := l.drop k) hn, List.take_append_drop] at hf
      exact hf
    have hlen : (l.length == 1) = false := by simp; omega
    unfold readN okN
    rw [hl, hlen]
    simp
  · have := val_pos (l.take k) ha hn hf
    omega
/-- One that is too great. -/
theorem readN_great (l : List UInt8) (k : Nat) (h : most < val (l.take k)) : readN l = none := by
  unfold readN
  have := val_take l k
  rw [if_neg]
  rw [Bool.and_eq_true, decide_eq_true_eq]
  omega
/-- What was read of a text so far. -/
def okP (l : List UInt8) (k : Nat) : Prop := (l.take k).all isDg = true ∧ val (l.take k) ≤ most ∧ (2 ≤ k → (l.take k).head? ≠ some 48)
theorem okP_step (l : List UInt8) (k : Nat) (h : k < l.length) (h1 : okP l k) (hd : isDg (l[k]'h) = true) (h2 : k = 0 ∨ val (l.take k) ≠ 0) (h3 : val (l.take (k + 1)) ≤ most) : okP l (k + 1) := by
  refine ⟨?_, h3, fun hk => ?_⟩
  · rw [List.take_succ_eq_append_getElem h, List.all_append, h1.1]
    simp [hd]
  · have hn : l.take k ≠ [] := by
      intro e
      have := congrArg List.length e
      rw [List.length_take, List.length_nil] at this
      omega
    rw [List.take_succ_eq_append_getElem h, head_app hn]
    by_cases hk2 : 2 ≤ k
    · exact h1.2.2 hk2
    · obtain rfl : k = 1 := by omega
      intro e
      apply h2.resolve_left (by omega)
      cases l with
      | nil => simp at h
      | cons b r =>
        simp only [List.take_succ_cons, List.take_zero, List.head?_cons, Option.some.injEq] at e ⊢
        subst e
        rfl
theorem okP_end (l : List UInt8) (h0 : 0 < l.length) (h : okP l l.length) : readN l = some (val l) := by
  obtain ⟨h1, h2, h3⟩ := h
  rw [List.take_of_length_le (Nat.le_refl _)] at h1 h2 h3
  unfold readN okN
  rw [if_pos]
  rw [Bool.and_eq_true, decide_eq_true_eq]
  refine ⟨?_, h2⟩
  rw [h1]
  have hn : l.isEmpty = false := by rw [List.isEmpty_eq_false_iff]; intro e; rw [e] at h0; simp at h0
  rw [hn]
  by_cases hl : l.length = 1
  · simp [hl]
  · have := h3 (by omega)
    simp [this]
set_option maxHeartbeats 4000000 in
set_option maxRecDepth 100000 in
theorem read6 (s : ByteArray) (w : World) (hm : s.size ≤ 1000000) (a b : Int) (h : readR s.data.toList = (a, b)) :
    Calls Try.prog 81 #[.string s] w fun e w' => e = .returned (.tuple #[.int .i64 a, .int .i64 b]) ∧ Below w.heap.size w w' := by
  have hempty : s.toList.isEmpty = decide (s.size = 0) := by
    rw [ByteArray.toList_eq, Bool.eq_iff_iff, List.isEmpty_iff, decide_eq_true_eq, ← ba_len6]
    constructor
    · intro e; rw [e]; rfl
    · exact List.eq_nil_of_length_eq_zero
  obtain ⟨ie, his⟩ : ∃ ie, decide (s.size = 0) = ie := ⟨_, rfl⟩
  rw [his] at hempty
  have HIS := Lib.hid his
  have HH := Lib.hid h
  have HM := Lib.hid hm
  clear his h hm
  go_enter Try.func81, Try.ntmps81
  go_wp2_with fail
  go_step3
  go_wp2_with fail
  go_step3
  go_wp2_with fail
  go_loopw [12, 4, 5] (fun i n x wr => ∃ k : Nat, k ≤ s.size ∧ i = .int .i64 k ∧ n = .int .i64 (val (s.data.toList.take k) : Nat) ∧ x = .bool (!ie) ∧ okP s.data.toList k ∧ Below w.heap.size w wr) (fun i _ _ _ => s.size - (intOf i).toNat)
  case atStart => exact ⟨0, Nat.zero_le _, rfl, rfl, rfl, ⟨rfl, Nat.zero_le _, fun h => absurd h (by omega)⟩, Below.refl _ _⟩
  case round =>
    obtain ⟨k, hk, rfl, rfl, rfl, hok, hbw⟩ := hrel
    have hs := HM.out
    by_cases hlt : k < s.size
    · obtain rfl : false = ie := by rw [← HIS.out, decide_eq_false (by omega)]
      obtain ⟨m, hm⟩ : ∃ m, val (s.data.toList.take k) = m := ⟨_, rfl⟩
      have hml : m ≤ 9007199254740991 := by have := hok.2.1; unfold most at this; omega
      obtain ⟨c, hc⟩ : ∃ c, s[k]'hlt = c := ⟨_, rfl⟩
      have hca : ∀ h, s[k]'h = c := fun _ => hc
      have hcl := c.toNat_lt
      have hkl : k < s.data.toList.length := by rw [ba_len6]; exact hlt
      have hck : s.data.toList[k]'hkl = c := (at6 s k hlt).trans hc
      have bk : (0 : Int) ≤ (k : Int) ∧ (k : Int) < (s.size : Int) := by omega
      have HBW := Lib.hid hbw
      have hm2 := hm
      rw [hm]
      by_cases h1 : c.toNat < 48
      · have d1 : decide ((c.toNat : Int) < 48) = true := by simp; omega
        have HX := Lib.hid (readN_sign s.data.toList k hkl (by rw [hck]; simp [isDg]; omega))
        obtain ⟨rfl, rfl⟩ : 0 = a ∧ 60 = b := by
          have h := HH.out
          unfold readR at h
          rw [HX.out] at h
          exact (Prod.mk.injEq _ _ _ _).mp h
        clear hck hok hbw hm2 hm hc HH
        go_wp2_with fail
        rw [Exit.noGoto_ret]
        go_ret2
        exact ⟨rfl, HBW.out⟩
      · by_cases h2 : 57 < c.toNat
        · have d1 : decide ((c.toNat : Int) < 48) = false := by simp; omega
          have d2 : decide ((57 : Int) < (c.toNat : Int)) = true := by simp; omega
          have HX := Lib.hid (readN_sign s.data.toList k hkl (by rw [hck]; simp [isDg]; omega))
          obtain ⟨rfl, rfl⟩ : 0 = a ∧ 60 = b := by
            have h := HH.out
            unfold readR at h
            rw [HX.out] at h
            exact (Prod.mk.injEq _ _ _ _).mp h
          clear hck hok hbw hm2 hm hc HH
          go_wp2_with fail
          rw [Exit.noGoto_ret]
          go_ret2
          exact ⟨rfl, HBW.out⟩
        · have d1 : decide ((c.toNat : Int) < 48) = false := by simp; omega
          have d2 : decide ((57 : Int) < (c.toNat : Int)) = false := by simp; omega
          by_cases h0 : 0 < k
          · by_cases h3 : m = 0
            · subst h3
              have HX := Lib.hid (readN_zero s.data.toList k hkl h0 hok.1 hm)
              obtain ⟨rfl, rfl⟩ : 0 = a ∧ 60 = b := by
                have h := HH.out
                unfold readR at h
                rw [HX.out] at h
                exact (Prod.mk.injEq _ _ _ _).mp h
              clear hck hok hbw hm2 hm hc HH
              go_wp2_with fail
              rw [Exit.noGoto_ret]
              go_ret2
              exact ⟨rfl, HBW.out⟩
            · have d4 : ((m : Int) == 0) = false := by simp; omega
              have hv : val (s.data.toList.take (k + 1)) = 10 * m + (c.toNat - 48) := by rw [List.take_succ_eq_append_getElem hkl, hck, val_snoc, hm]
              by_cases h5 : (9007199254740991 - ((c.toNat : Int) - 48)) / 10 < (m : Int)
              · have d5 : decide ((9007199254740991 - ((c.toNat : Int) - 48)) / 10 < (m : Int)) = true := by simpa using h5
                have HX := Lib.hid (readN_great s.data.toList (k + 1) (by rw [hv]; unfold most; omega))
                obtain ⟨rfl, rfl⟩ : 0 = a ∧ 60 = b := by
                  have h := HH.out
                  unfold readR at h
                  rw [HX.out] at h
                  exact (Prod.mk.injEq _ _ _ _).mp h
                clear hck hok hbw hm2 hm hc HH hv h5
                go_wp2_with fail
                rw [Exit.noGoto_ret]
                go_ret2
                exact ⟨rfl, HBW.out⟩
              · have d5 : decide ((9007199254740991 - ((c.toNat : Int) - 48)) / 10 < (m : Int)) = false := by simpa using h5
                have HK := Lib.hid (okP_step s.data.toList k hkl hok (by rw [hck]; simp [isDg]; omega) (Or.inr (by omega)) (by rw [hv]; unfold most; omega))
                have bm : (0 : Int) ≤ 10 * (m : Int) + ((c.toNat : Int) - 48) ∧ 10 * (m : Int) + ((c.toNat : Int) - 48) ≤ 9007199254740991 := by omega
                have HV : Hid (((val (s.data.toList.take (k + 1)) : Nat) : Int) = 10 * (m : Int) + ((c.toNat : Int) - 48)) := Lib.hid (by rw [hv]; omega)
                clear hck hok hbw hm2 hm hc hv h5
                go_wp2_with fail
                go_roundw
                case rel => exact ⟨k + 1, hlt, by go_num, by rw [HV.out], rfl, HK.out, HBW.out⟩
                case measure => simp [intOf]; omega
          · have hk0 : k = 0 := by omega
            have HK0 := Lib.hid hk0
            clear hk0
            have hv : val (s.data.toList.take (k + 1)) = 10 * m + (c.toNat - 48) := by rw [List.take_succ_eq_append_getElem hkl, hck, val_snoc, hm]
            by_cases h5 : (9007199254740991 - ((c.toNat : Int) - 48)) / 10 < (m : Int)
            · have d5 : decide ((9007199254740991 - ((c.toNat : Int) - 48)) / 10 < (m : Int)) = true := by simpa using h5
              have HX := Lib.hid (readN_great s.data.toList (k + 1) (by rw [hv]; unfold most; omega))
              obtain ⟨rfl, rfl⟩ : 0 = a ∧ 60 = b := by
                have h := HH.out
                unfold readR at h
                rw [HX.out] at h
                exact (Prod.mk.injEq _ _ _ _).mp h
              clear hck hok hbw hm2 hm hc HH hv h5
              go_wp2_with fail
              rw [Exit.noGoto_ret]
              go_ret2
              exact ⟨rfl, HBW.out⟩
            · have d5 : decide ((9007199254740991 - ((c.toNat : Int) - 48)) / 10 < (m : Int)) = false := by simpa using h5
              have HK := Lib.hid (okP_step s.data.toList k hkl hok (by rw [hck]; simp [isDg]; omega) (Or.inl HK0.out) (by rw [hv]; unfold most; omega))
              have bm : (0 : Int) ≤ 10 * (m : Int) + ((c.toNat : Int) - 48) ∧ 10 * (m : Int) + ((c.toNat : Int) - 48) ≤ 9007199254740991 := by omega
              have HV : Hid (((val (s.data.toList.take (k + 1)) : Nat) : Int) = 10 * (m : Int) + ((c.toNat : Int) - 48)) := Lib.hid (by rw [hv]; omega)
              clear hck hok hbw hm2 hm hc hv h5
              go_wp2_with fail
              go_roundw
              case rel => exact ⟨k + 1, hlt, by go_num, by rw [HV.out], rfl, HK.out, HBW.out⟩
              case measure => simp [intOf]; omega
    · obtain rfl : k = s.size := by omega
      have h := HH.out
      unfold readR at h
      cases ie
      · have h0 := of_decide_eq_false HIS.out
        have hl := ba_len6 s
        rw [okP_end s.data.toList (by omega) (by rw [hl]; exact hok)] at h
        obtain ⟨hv, rfl⟩ : (val s.data.toList : Int) = a ∧ 0 = b := (Prod.mk.injEq _ _ _ _).mp h
        have he : s.data.toList.take s.size = s.data.toList := List.take_of_length_le (by omega)
        rw [he, hv]
        clear hok h HH hv he
        go_wp2_with fail
        rw [Exit.noGoto_ret]
        go_ret2
        exact ⟨rfl, hbw⟩
      · have h0 := of_decide_eq_true HIS.out
        have hl := ba_len6 s
        have hn : s.data.toList = [] := List.eq_nil_of_length_eq_zero (by omega)
        rw [hn] at h
        obtain ⟨rfl, rfl⟩ : 0 = a ∧ 60 = b := (Prod.mk.injEq _ _ _ _).mp h
        clear hok h HH hn hl
        go_wp2_with fail
        rw [Exit.noGoto_ret]
        go_ret2
        exact ⟨rfl, hbw⟩
end Hx
end Go.Proofs.Ytfdhogaknlabkaa
namespace Go.Proofs.Ytfdhogaknlabkaa
open Go.RowKit
namespace Hx
open Lx Hd
set_option linter.unusedVariables false
theorem st_at {w : World} {A : Option Addr} {l : List ByteArray} {k : Nat} (hr : RdG encS w w.heap.size A l) (hk : k < l.length) : ∃ b off, A = some ⟨b, off, none⟩ ∧ b < w.heap.size ∧ w.cell? ⟨b, off + k, none⟩ = some (.string (l[k]'hk)) := by
  obtain ⟨b, off, e, hb, hc⟩ := hr (by omega)
  exact ⟨b, off, e, hb, hc k hk⟩
def memB (x : ByteArray) (l : List ByteArray) : Bool := l.any fun z => decide (x = z)
theorem seqS (a b : ByteArray) : (a.toList == b.toList) = decide (a = b) := seq_b7 a b
set_option maxHeartbeats 8000000 in
set_option maxRecDepth 100000 in
theorem seq14 (A B : Option Addr) (n m c d : Nat) (la lb : List ByteArray) (q : Bool) (w : World) (ha : RdG encS w w.heap.size A la) (hb : RdG encS w w.heap.size B lb) (hn : la.length = n) (hm : lb.length = m) (hz : n ≤ 1000000 ∧ m ≤ 1000000) (h : decide (la = lb) = q) :
    Calls Try.prog 80 #[.slice A n c, .slice B m d] w fun e w' => e = .returned (.bool q) ∧ Below w.heap.size w w' := by
  have HA := Lib.hid ha
  have HB := Lib.hid hb
  have HN := Lib.hid hn
  have HM := Lib.hid hm
  have HZ := Lib.hid hz
  have HQ := Lib.hid h
  by_cases hnm : n = m
  · subst hnm
    have f0 : ((n : Int) != (n : Int)) = false := by simp
    clear ha hb hn hm hz h
    go_enter Try.func80, Try.ntmps80
    go_wp2_with fail
    go_loopg [13] n (fun gg i wr => ∃ (k : Nat), k + gg = n ∧ i = .int .i64 k ∧ la.take k = lb.take k ∧ Below w.heap.size w wr)
    case atStart => exact ⟨0, by omega, rfl, rfl, Below.refl _ _⟩
    case round =>
      obtain ⟨k, hk, rfl, hno, hbw⟩ := hrel
      have HBW := Lib.hid hbw
      have hkb : (k : Int) ≤ 1000000 := by have := HZ.out.1; omega
      by_cases hlt : k < n
      · have hk1 : k < la.length := by rw [HN.out]; exact hlt
        have hk2 : k < lb.length := by rw [HM.out]; exact hlt
        obtain ⟨b0, o0, rfl, hbB, c0⟩ := st_at (HA.out.on hbw) hk1
        obtain ⟨b1, o1, rfl, hbB1, c1⟩ := st_at (HB.out.on hbw) hk2
        have bk : (0 : Int) ≤ (k : Int) ∧ (k : Int) < (n : Int) := by omega
        by_cases he : la[k]'hk1 = lb[k]'hk2
        · have HT : Hid (la.take (k + 1) = lb.take (k + 1)) := Lib.hid (take_step hk1 hk2 hno he)
          rw [he] at c0
          obtain ⟨z, hz⟩ : ∃ z, lb[k]'hk2 = z := ⟨_, rfl⟩
          rw [hz] at c0 c1
          have e1 : (z.toList != z.toList) = false := by simp
          clear hbw hno he hz hk1 hk2
          go_wp2_with fail
          go_quiet (fail)
          go_wp2_with fail
          go_roundg (gk - 1)
          case rel => exact ⟨k + 1, by omega, by go_num, HT.out, below_drewN HBW.out _⟩
          case measure => omega
        · obtain rfl : false = q := by
            rw [← HQ.out, eq_comm, decide_eq_false_iff_not]
            exact ne_at hk1 hk2 he
          have hne : ((la[k]'hk1).toList == (lb[k]'hk2).toList) = false := by rw [seqS]; exact decide_eq_false he
          obtain ⟨y, hy⟩ : ∃ y, la[k]'hk1 = y := ⟨_, rfl⟩
          obtain ⟨z, hz⟩ : ∃ z, lb[k]'hk2 = z := ⟨_, rfl⟩
          rw [hy] at c0 hne
          rw [hz] at c1 hne
          have e1 : (y.toList != z.toList) = true := by rw [bne, hne]; rfl
          have e2 : ¬ y.toList = z.toList := by simpa using hne
          clear hbw hno he hy hz hk1 hk2
          go_wp2_with fail
          go_quiet (fail)
          go_wp2_with fail
          go_ret
          exact ⟨rfl, below_drewN HBW.out _⟩
      · obtain rfl : k = n := by omega
        have hd : decide ((k : Int) < (k : Int)) = false := by simp
        obtain rfl : true = q := by
          rw [← HQ.out, eq_comm, decide_eq_true_eq]
          rwa [List.take_of_length_le (by rw [HN.out]; exact Nat.le_refl _), List.take_of_length_le (by rw [HM.out]; exact Nat.le_refl _)] at hno
        clear hno hbw
        go_wp2_with fail
        go_ret
        exact ⟨rfl, HBW.out⟩
  · have d0 : ((n : Int) != (m : Int)) = true := by simp; omega
    have d1 : (n != m) = true := by simpa using hnm
    have d2 : (n == m) = false := by simpa using hnm
    obtain rfl : false = q := by
      rw [← h, eq_comm, decide_eq_false_iff_not]
      rintro rfl
      exact hnm (hn.symm.trans hm)
    clear ha hb hn hm hz h hnm
    go_enter Try.func80, Try.ntmps80
    go_wp2_with fail
    go_ret
    exact ⟨rfl, Below.refl _ _⟩
set_option maxHeartbeats 8000000 in
set_option maxRecDepth 100000 in
theorem sidx14 (A : Option Addr) (n c : Nat) (l : List ByteArray) (x : ByteArray) (w : World) (ha : RdG encS w w.heap.size A l) (hn : l.length = n) (hz : n ≤ 1000000) :
    Calls Try.prog 63 #[.slice A n c, .string x] w fun e w' => (∃ r : Int, e = .returned (.int .i64 r) ∧ decide (0 ≤ r) = memB x l) ∧ Below w.heap.size w w' := by
  have HA := Lib.hid ha
  have HN := Lib.hid hn
  have HZ := Lib.hid hz
  clear ha hn hz
  go_enter Try.func63, Try.ntmps63
  go_wp2_with fail
  go_loopg [8] n (fun gg i wr => ∃ (k : Nat), k + gg = n ∧ i = .int .i64 k ∧ x ∉ l.take k ∧ w = wr)
  case atStart => exact ⟨0, by omega, rfl, by simp, rfl⟩
  case round =>
    obtain ⟨k, hk, rfl, hno, rfl⟩ := hrel
    have hkb : (k : Int) ≤ 1000000 := by have := HZ.out; omega
    by_cases hlt : k < n
    · have hk1 : k < l.length := by rw [HN.out]; exact hlt
      obtain ⟨b0, o0, rfl, hbB, c0⟩ := st_at HA.out hk1
      have bk : (0 : Int) ≤ (k : Int) ∧ (k : Int) < (n : Int) := by omega
      by_cases he : x = l[k]'hk1
      · have HC : Hid (memB x l = true) := Lib.hid (List.any_eq_true.2 ⟨_, List.getElem_mem hk1, decide_eq_true he⟩)
        have e1 : (x.toList == (l[k]'hk1).toList) = true := by rw [seqS]; exact decide_eq_true he
        obtain ⟨z, hz⟩ : ∃ z, l[k]'hk1 = z := ⟨_, rfl⟩
        rw [hz] at c0 e1
        clear hno he hz hk1
        go_wp2_with fail
        go_ret
        exact ⟨⟨_, rfl, by rw [HC.out]; simp⟩, Below.refl _ _⟩
      · have HT : Hid (x ∉ l.take (k + 1)) := Lib.hid (by rw [List.take_succ_eq_append_getElem hk1, List.mem_append, not_or]; exact ⟨hno, by simpa using he⟩)
        have e1 : (x.toList == (l[k]'hk1).toList) = false := by rw [seqS]; exact decide_eq_false he
        obtain ⟨z, hz⟩ : ∃ z, l[k]'hk1 = z := ⟨_, rfl⟩
        rw [hz] at c0 e1
        clear hno he hz hk1
        go_wp2_with fail
        go_roundg (gk - 1)
        case rel => exact ⟨k + 1, by omega, by go_num, HT.out, rfl⟩
        case measure => omega
    · obtain rfl : k = n := by omega
      have hd : decide ((k : Int) < (k : Int)) = false := by simp
      rw [List.take_of_length_le (by rw [HN.out]; exact Nat.le_refl _)] at hno
      have HC : Hid (memB x l = false) := Lib.hid (List.any_eq_false.2 fun z hz e => hno (by rw [of_decide_eq_true e]; exact hz))
      clear hno
      go_wp2_with fail
      go_ret
      exact ⟨⟨_, rfl, by rw [HC.out]; simp⟩, Below.refl _ _⟩
set_option maxHeartbeats 8000000 in
set_option maxRecDepth 100000 in
theorem scont14 (A : Option Addr) (n c : Nat) (l : List ByteArray) (x : ByteArray) (q : Bool) (w : World) (ha : RdG encS w w.heap.size A l) (hn : l.length = n) (hz : n ≤ 1000000) (h : memB x l = q) :
    Calls Try.prog 36 #[.slice A n c, .string x] w fun e w' => e = .returned (.bool q) ∧ Below w.heap.size w w' := by
  have HC := Lib.hid (sidx14 A n c l x w ha hn hz)
  have HQ := Lib.hid h
  clear ha hn hz h
  go_enter Try.func36, Try.ntmps36
  go_wp2_with (first
    | (go_at_call 63; (with_reducible refine (HC.out).mono ?_); rintro e w1 ⟨⟨r, rfl, hrq⟩, hb1⟩; rw [HQ.out] at hrq)
    | fail)
  go_ret
  exact ⟨rfl, hb1⟩
def zRules : Array Value := #[.string ⟨#[]⟩, .nilFunc, .string ⟨#[]⟩, .nilFunc, .string ⟨#[]⟩, .nilFunc, .string ⟨#[]⟩, .nilFunc]
theorem sizeRules : (Try.prog.info? 69).map (·.size) = some 8 := by kernel_rfl
theorem sizeRule : (Try.prog.info? 68).map (·.size) = some 2 := by kernel_rfl
theorem sizeTold : (Try.prog.info? 72).map (·.size) = some 3 := by kernel_rfl
def zTold : Array Value := #[.int .u8 0, .int .i64 0, .slice none 0 0]
theorem oneTold (a b : Int) (A : Option Addr) (n c : Nat) : (#[Value.int .u8 a, Value.int .i64 b, Value.slice A n c] : Array Value).all (·.oneCell') = true := by simp [Value.oneCell']
theorem oneRules : (#[.string ⟨#[116, 114, 97, 110, 115, 102, 101, 114, 45, 101, 110, 99, 111, 100, 105, 110, 103]⟩, .func (.func 59) #[] #[], .string ⟨#[99, 111, 110, 116, 101, 110, 116, 45, 108, 101, 110, 103, 116, 104]⟩, .func (.func 60) #[] #[], .string ⟨#[99, 111, 110, 110, 101, 99, 116, 105, 111, 110]⟩, .func (.func 61) #[] #[], .string ⟨#[104, 111, 115, 116]⟩, .func (.func 62) #[] #[]] : Array Value).all (·.oneCell') = true := by simp [Value.oneCell']
/-- What a reader's variable holds keeps no text: a row of texts stays. -/
theorem RdG.setTold {w : World} {g B : Nat} {T : TypeId} {A : Option Addr} {l : List ByteArray} {cs : Array Value} (hg : w.heap[g]? = some (.cells zTold T (0, 0))) (h : RdG encS w B A l) : RdG encS (w.setRow g cs) B A l := by
  intro hp
  obtain ⟨b, off, e, hb, hc⟩ := h hp
  refine ⟨b, off, e, hb, fun j hj => ?_⟩
  have h1 := hc j hj
  have hne : b ≠ g := by
    rintro rfl
    rw [cellV _ _ _ _ _ _ hg] at h1
    have hlt := (Array.getElem?_eq_some_iff.1 h1).1
    have hlt3 : off + j < 3 := hlt
    match hoj : off + j, hlt3 with
    | 0, _ => rw [hoj] at h1; cases h1
    | 1, _ => rw [hoj] at h1; cases h1
    | 2, _ => rw [hoj] at h1; cases h1
  simp only [World.cell?] at h1 ⊢
  rw [setRow_other _ _ _ _ hne]
  exact h1
set_option maxHeartbeats 8000000 in
set_option maxRecDepth 100000 in
theorem rules14 (w : World) : Calls Try.prog 35 #[] w fun e w' => e = .returned (.agg #[.string ⟨#[116, 114, 97, 110, 115, 102, 101, 114, 45, 101, 110, 99, 111, 100, 105, 110, 103]⟩, .func (.func 59) #[] #[], .string ⟨#[99, 111, 110, 116, 101, 110, 116, 45, 108, 101, 110, 103, 116, 104]⟩, .func (.func 60) #[] #[], .string ⟨#[99, 111, 110, 110, 101, 99, 116, 105, 111, 110]⟩, .func (.func 61) #[] #[], .string ⟨#[104, 111, 115, 116]⟩, .func (.func 62) #[] #[]]) ∧ Below w.heap.size w w' := by
  go_enter Try.func35, Try.ntmps35
  go_wp2_with (first
    | (refine wpList_store_row rfl _ _ _ rfl w.heap.size #[.string ⟨#[116, 114, 97, 110, 115, 102, 101, 114, 45, 101, 110, 99, 111, 100, 105, 110, 103]⟩, .func (.func 59) #[] #[], .string ⟨#[99, 111, 110, 116, 101, 110, 116, 45, 108, 101, 110, 103, 116, 104]⟩, .func (.func 60) #[] #[], .string ⟨#[99, 111, 110, 110, 101, 99, 116, 105, 111, 110]⟩, .func (.func 61) #[] #[], .string ⟨#[104, 111, 115, 116]⟩, .func (.func 62) #[] #[]] rfl rfl 69 zRules (heap_alloc_new w _) sizeRules rfl oneRules ?_)
    | fail)
  exact bodyPost_ret (v := .agg #[.string ⟨#[116, 114, 97, 110, 115, 102, 101, 114, 45, 101, 110, 99, 111, 100, 105, 110, 103]⟩, .func (.func 59) #[] #[], .string ⟨#[99, 111, 110, 116, 101, 110, 116, 45, 108, 101, 110, 103, 116, 104]⟩, .func (.func 60) #[] #[], .string ⟨#[99, 111, 110, 110, 101, 99, 116, 105, 111, 110]⟩, .func (.func 61) #[] #[], .string ⟨#[104, 111, 115, 116]⟩, .func (.func 62) #[] #[]]) (results_cell_row rfl _ _ _ _ #[.string ⟨#[116, 114, 97, 110, 115, 102, 101, 114, 45, 101, 110, 99, 111, 100, 105, 110, 103]⟩, .func (.func 59) #[] #[], .string ⟨#[99, 111, 110, 116, 101, 110, 116, 45, 108, 101, 110, 103, 116, 104]⟩, .func (.func 60) #[] #[], .string ⟨#[99, 111, 110, 110, 101, 99, 116, 105, 111, 110]⟩, .func (.func 61) #[] #[], .string ⟨#[104, 111, 115, 116]⟩, .func (.func 62) #[] #[]] _ _ rfl (setRow_heap _ _ _ #[.string ⟨#[116, 114, 97, 110, 115, 102, 101, 114, 45, 101, 110, 99, 111, 100, 105, 110, 103]⟩, .func (.func 59) #[] #[], .string ⟨#[99, 111, 110, 116, 101, 110, 116, 45, 108, 101, 110, 103, 116, 104]⟩, .func (.func 60) #[] #[], .string ⟨#[99, 111, 110, 110, 101, 99, 116, 105, 111, 110]⟩, .func (.func 61) #[] #[], .string ⟨#[104, 111, 115, 116]⟩, .func (.func 62) #[] #[]] _ _ (heap_alloc_new w (.cells zRules 69))) Try.underlying69 rfl sizeRules) rfl ⟨rfl, below_setRowV (stpA (Below.refl _ _) _) (Nat.le_refl _) _⟩
theorem lists_no {s : ByteArray} {q : Int} (h : (As.listE s.data.toList : Int) = q) (h0 : q ≠ 0) : listS s = [] := by
  unfold listS
  rw [if_neg (by rintro e; rw [e] at h; exact h0 h.symm)]
theorem chunked_iff (l : List (List UInt8)) : decide (l.map mkB = [⟨#[99, 104, 117, 110, 107, 101, 100]⟩]) = decide (l = [nChunked]) := by
  refine decide_eq_decide.2 ⟨fun h => ?_, fun h => by rw [h]; rfl⟩
  have := congrArg (List.map fun x : ByteArray => x.data.toList) h
  rw [List.map_map] at this
  exact (List.map_congr_left (g := id) fun _ _ => rfl).trans (List.map_id _) |>.symm.trans this
set_option maxHeartbeats 8000000 in
set_option maxRecDepth 100000 in
theorem readCoding14 (s : ByteArray) (b : Bool) (w : World) (hm : s.size ≤ 1000000) (h : isChunked s.data.toList = b) : Calls Try.prog 59 #[.string s] w fun e w' => e = .returned (.tuple #[.agg #[.int .u8 2, .int .i64 0, .slice none 0 0], .bool b]) ∧ Below w.heap.size w w' := by
  obtain ⟨q, hq⟩ : ∃ q : Int, (As.listE s.data.toList : Int) = q := ⟨_, rfl⟩
  obtain ⟨l, hl⟩ : ∃ l, listS s = l := ⟨_, rfl⟩
  obtain ⟨n, hn⟩ : ∃ n, l.length = n := ⟨_, rfl⟩
  have HC : Hid (∀ W, Calls Try.prog 79 #[.string s] W (ListTo l n q W)) := Lib.hid fun W => list7 s l n q W hm hl hn hq
  unfold ListTo at HC
  unfold isChunked at h
  by_cases h0 : q = 0
  · subst h0
    have e0 : As.listE s.data.toList = 0 := by omega
    have hb : decide (l = [⟨#[99, 104, 117, 110, 107, 101, 100]⟩]) = b := by
      rw [← h, e0, ← hl]
      unfold listS
      rw [if_pos e0, chunked_iff]
      rfl
    have hz : n ≤ 1000000 := by
      rw [← hn, ← hl]
      unfold listS
      rw [if_pos e0, List.length_map]
      have := (As.listE_ok e0).1
      omega
    have HN := Lib.hid hn
    have HB := Lib.hid hb
    have HZ := Lib.hid hz
    have HEQ : Hid (∀ W A c, RdG encS W W.heap.size A l → Calls Try.prog 80 #[.slice A n c, .slice (some ⟨W.heap.size, 0, none⟩) 1 1] (W.alloc (.cells #[.string ⟨#[99, 104, 117, 110, 107, 101, 100]⟩] 9)) fun e w' => e = .returned (.bool b) ∧ Below (W.alloc (.cells #[.string ⟨#[99, 104, 117, 110, 107, 101, 100]⟩] 9)).heap.size (W.alloc (.cells #[.string ⟨#[99, 104, 117, 110, 107, 101, 100]⟩] 9)) w') := Lib.hid fun W A c h =>
      seq14 A (some ⟨W.heap.size, 0, none⟩) n 1 c 1 l [⟨#[99, 104, 117, 110, 107, 101, 100]⟩] b _ (h.on (stpA (Below.refl _ _) _)) (RdG.newS (enc := encS) W 9 [⟨#[99, 104, 117, 110, 107, 101, 100]⟩]) HN.out rfl ⟨HZ.out, by decide⟩ HB.out
    clear h hm hq hl hn hb hz e0
    go_enter Try.func59, Try.ntmps59
    go_wp2_with (first
    | (go_at_call 79; (with_reducible refine (HC.out _).mono ?_); rintro e w1 ⟨hb1, A, c, rfl, _, hr1⟩; have HR1 := Lib.hid hr1; clear hr1; have HG1 := Lib.hid (kept_heap (heap_alloc_new w (.cells zTold 72)) hb1); have HB1 := Lib.hid (stp (stpA (Below.refl w.heap.size w) (.cells zTold 72)) hb1); clear hb1)
    | (go_at_call 80; (with_reducible refine (HEQ.out w1 A c HR1.out).mono ?_); rintro e w2 ⟨rfl, hb2⟩; have HG2 := Lib.hid (kept_heap (kept_heap HG1.out (stpA (Below.refl _ _) (.cells #[.string ⟨#[99, 104, 117, 110, 107, 101, 100]⟩] 9))) hb2); have HB2 := Lib.hid (stp (stpA HB1.out (.cells #[.string ⟨#[99, 104, 117, 110, 107, 101, 100]⟩] 9)) hb2); clear hb2)
    | (refine wpList_store_row rfl _ _ _ rfl w.heap.size #[.int .u8 2, .int .i64 0, .slice none 0 0] rfl rfl 72 zTold HG2.out sizeTold rfl (oneTold 2 0 none 0 0) ?_)
    | fail)
    exact bodyPost_ret (v := .tuple #[.agg #[.int .u8 2, .int .i64 0, .slice none 0 0], .bool b]) (rcell2 (p := 2) (q := 3) rfl _ _ _ _ #[.int .u8 2, .int .i64 0, .slice none 0 0] _ _ rfl (setRow_heap _ _ _ #[.int .u8 2, .int .i64 0, .slice none 0 0] _ _ HG2.out) Try.underlying72 rfl sizeTold) rfl ⟨rfl, below_setRowV HB2.out (Nat.le_refl _) _⟩
  · have e0 : ((q : Int) == 0) = false := by simpa using h0
    obtain rfl : false = b := by
      rw [← h, decide_eq_false (by omega)]
      rfl
    clear h hm hq hl hn h0
    go_enter Try.func59, Try.ntmps59
    go_wp2_with (first
    | (go_at_call 79; (with_reducible refine (HC.out _).mono ?_); rintro e w1 ⟨hb1, A, c, rfl, _, _⟩; have HG1 := Lib.hid (kept_heap (heap_alloc_new w (.cells zTold 72)) hb1); have HB1 := Lib.hid (stp (stpA (Below.refl w.heap.size w) (.cells zTold 72)) hb1); clear hb1)
    | (refine wpList_store_row rfl _ _ _ rfl w.heap.size #[.int .u8 2, .int .i64 0, .slice none 0 0] rfl rfl 72 zTold HG1.out sizeTold rfl (oneTold 2 0 none 0 0) ?_)
    | fail)
    exact bodyPost_ret (v := .tuple #[.agg #[.int .u8 2, .int .i64 0, .slice none 0 0], .bool false]) (rcell2 (p := 2) (q := 3) rfl _ _ _ _ #[.int .u8 2, .int .i64 0, .slice none 0 0] _ _ rfl (setRow_heap _ _ _ #[.int .u8 2, .int .i64 0, .slice none 0 0] _ _ HG1.out) Try.underlying72 rfl sizeTold) rfl ⟨rfl, below_setRowV HB1.out (Nat.le_refl _) _⟩
set_option maxHeartbeats 8000000 in
set_option maxRecDepth 100000 in
theorem readLength14 (s : ByteArray) (a q : Int) (b : Bool) (w : World) (hm : s.size ≤ 1000000) (h : readR s.data.toList = (a, q)) (hb : (q == 0) = b) : Calls Try.prog 60 #[.string s] w fun e w' => e = .returned (.tuple #[.agg #[.int .u8 1, .int .i64 a, .slice none 0 0], .bool b]) ∧ Below w.heap.size w w' := by
  have HC := Lib.hid fun W => read6 s W hm a q h
  have HQ := Lib.hid hb
  clear hm h
  go_enter Try.func60, Try.ntmps60
  go_wp2_with (first
    | (go_at_call 81; (with_reducible refine (HC.out _).mono ?_); rintro e w1 ⟨rfl, hb1⟩; have HG1 := Lib.hid (kept_heap (heap_alloc_new w (.cells zTold 72)) hb1); have HB1 := Lib.hid (stp (stpA (Below.refl w.heap.size w) (.cells zTold 72)) hb1); clear hb1)
    | (refine wpList_store_row rfl _ _ _ rfl w.heap.size #[.int .u8 1, .int .i64 a, .slice none 0 0] rfl rfl 72 zTold HG1.out sizeTold rfl (oneTold 1 a none 0 0) ?_)
    | fail)
  exact bodyPost_ret (v := .tuple #[.agg #[.int .u8 1, .int .i64 a, .slice none 0 0], .bool b]) (rcell2 (p := 2) (q := 3) rfl _ _ _ _ #[.int .u8 1, .int .i64 a, .slice none 0 0] _ _ rfl (setRow_heap _ _ _ #[.int .u8 1, .int .i64 a, .slice none 0 0] _ _ HG1.out) Try.underlying72 rfl sizeTold) rfl ⟨rfl, below_setRowV HB1.out (Nat.le_refl _) _⟩
set_option maxHeartbeats 8000000 in
set_option maxRecDepth 100000 in
theorem readConn14 (s : ByteArray) (l : List ByteArray) (n : Nat) (q : Int) (b : Bool) (w : World) (hm : s.size ≤ 1000000) (hl : listS s = l) (hn : l.length = n) (hq : (As.listE s.data.toList : Int) = q) (hb : (q == 0) = b) : Calls Try.prog 61 #[.string s] w fun e w' => Below w.heap.size w w' ∧ ∃ A c, e = .returned (.tuple #[.agg #[.int .u8 0, .int .i64 0, .slice A n c], .bool b]) ∧ RdG encS w' w'.heap.size A l := by
  have HC : Hid (∀ W, Calls Try.prog 79 #[.string s] W (ListTo l n q W)) := Lib.hid fun W => list7 s l n q W hm hl hn hq
  unfold ListTo at HC
  have HQ := Lib.hid hb
  clear hm hl hn hq
  go_enter Try.func61, Try.ntmps61
  go_wp2_with (first
    | (go_at_call 79; (with_reducible refine (HC.out _).mono ?_); rintro e w1 ⟨hb1, A, c, rfl, _, hr1⟩; have HR1 := Lib.hid hr1; clear hr1; have HG1 := Lib.hid (kept_heap (heap_alloc_new w (.cells zTold 72)) hb1); have HB1 := Lib.hid (stp (stpA (Below.refl w.heap.size w) (.cells zTold 72)) hb1); clear hb1)
    | (refine wpList_store_row rfl _ _ _ rfl w.heap.size #[.int .u8 0, .int .i64 0, .slice A n c] rfl rfl 72 zTold HG1.out sizeTold rfl (oneTold 0 0 A n c) ?_)
    | fail)
  exact bodyPost_ret (v := .tuple #[.agg #[.int .u8 0, .int .i64 0, .slice A n c], .bool b]) (rcell2 (p := 2) (q := 3) rfl _ _ _ _ #[.int .u8 0, .int .i64 0, .slice A n c] _ _ rfl (setRow_heap _ _ _ #[.int .u8 0, .int .i64 0, .slice A n c] _ _ HG1.out) Try.underlying72 rfl sizeTold) rfl ⟨below_setRowV HB1.out (Nat.le_refl _) _, A, c, rfl, by rw [show (w1.setRow w.heap.size #[.int .u8 0, .int .i64 0, .slice A n c]).heap.size = w1.heap.size by simp [World.setRow]]; exact RdG.setTold HG1.out HR1.out⟩
end Hx
end Go.Proofs.Ytfdhogaknlabkaa
