/-
  Texts of one seat, put together: EscR, NumR, NumS, EscS.
-/
import Derived.Test.YtfdhogaknlabkaaG05
import Derived.Test.YtfdhogaknlabkaaG08
import Derived.Lib.AppendStr
import Derived.OwnWalk
import Derived.Deep.LoopGhost
import Derived.WalkKit
import Derived.ProofKit
import Derived.Below
set_option linter.unusedSimpArgs false
set_option linter.unusedVariables false
namespace Go.Proofs.Ytfdhogaknlabkaa
open Go.RowKit
namespace Hx
open Tx Nmb Es
set_option linter.unusedVariables false
theorem byte_at8 (s : ByteArray) (k : Nat) (h : k < s.size) : ∃ c, s.data.toList[k]? = some c ∧ ∀ (h : k < s.size), s[k]'h = c := by
  refine ⟨s[k]'h, ?_, fun _ => rfl⟩
  have e : k < s.data.toList.length := by rw [ba_len5]; exact h
  rw [List.getElem?_eq_getElem e]
  rfl
theorem take_next8 {α : Type} {l : List α} {k : Nat} {c : α} (h : l[k]? = some c) : l.take (k + 1) = l.take k ++ [c] := by
  obtain ⟨hk, e⟩ := List.getElem?_eq_some_iff.1 h
  rw [List.take_succ_eq_append_getElem hk, e]
theorem u8_ne {c : UInt8} {n : Nat} (hn : n < 256) (h : c.toNat ≠ n) : c ≠ UInt8.ofNat n := by
  rintro rfl
  apply h
  rw [UInt8.toNat_ofNat']
  omega
theorem u8_eq {c : UInt8} {n : Nat} (h : c.toNat = n) : c = UInt8.ofNat n := by
  subst h
  exact UInt8.ofNat_toNat.symm
theorem str_cells (l : List UInt8) : Lib.strCells ⟨l.toArray⟩ = Lib.byteCells l := rfl
/-- append(own, s...) of a text. -/
theorem wpList_append_str {P : Program} {w : World} {ops : Array Oper} {rest : List Oper} {o : Oper} {a : Act} {Q : Exit → Act → World → Prop} (hgd : o.guard = none) (sl x : Operand) (t u : TypeId)
    (ho : o.op = .call { callee := .builtin .append, args := #[sl, x], argTypes := #[t, u] })
    (base : Nat) (e : TypeId) (i : TypeInfo) (ht : P.underlying t = some (.slice e)) (hu : P.underlying u = some .string) (hi : P.info? e = some i) (hz : i.zero = some (.int .u8 0))
    (hsize : i.size = 1) (hby : i.bytes = 1) (v : Value) (n : Nat) (xs : List Value) (hs : a.eval sl = v) (hown : w.ownsRow base e 1 v n xs) (s : ByteArray) (hx : a.eval x = .string s)
    (hb : n + s.size ≤ 1000000000000) (hbase : base ≤ w.heap.size)
    (h : ∀ v' w', w'.ownsRow base e 1 v' (n + s.size) (xs ++ Lib.strCells s) → w.grownBy w' v.ownBlock → wpList P ops Q rest (a.put o.dst v') w') : wpList P ops Q (o :: rest) a w :=
  Lib.wpList_append_own_string w hgd sl x t u ho base e i ht hu hi hz hsize hby v n xs hs hown s hx (by unfold maxLen; omega) (by omega) hbase (fun v' w' h1 h2 _ => h v' w' h1 h2)
/-- A text as it is written. -/
def escS (q : Bool) (s : ByteArray) : ByteArray := ⟨(escL q s.data.toList).toArray⟩
theorem escS_size (q : Bool) (s : ByteArray) : s.size ≤ (escS q s).size ∧ (escS q s).size ≤ 6 * s.size := by
  have := escL_len q s.data.toList
  rw [← ba_len5 s, ← ba_len5 (escS q s)]
  exact this
/-- What Put answers. -/
def putR (s : ByteArray) (q : Bool) : ByteArray × Int := if chkE s ≠ 0 then (⟨#[]⟩, chkE s) else if 16384 < (escS q s).size then (⟨#[]⟩, 4) else (escS q s, 0)
end Hx
end Go.Proofs.Ytfdhogaknlabkaa
namespace Go.Proofs.Ytfdhogaknlabkaa
open Go.RowKit
namespace Hx
open Nmb
set_option linter.unusedVariables false
theorem ba_len6 (s : ByteArray) : s.data.toList.length = s.size := by cases s; simp [ByteArray.size]
theorem ba_ext6 {s t : ByteArray} (h : s.data.toList = t.data.toList) : s = t := by
  cases s; cases t
  simpa using h
theorem dg_le {n : Nat} (h : n ≤ 9223372036854775807) : (dg n).length ≤ 19 := dg_short 18 n (by omega)
set_option maxHeartbeats 2000000 in
set_option maxRecDepth 100000 in
theorem rdigits6 (n : Nat) (w : World) (hn : n ≤ 9223372036854775807) (t : ByteArray) (ht : t = ⟨(dg n).toArray⟩) :
    Calls Try.prog 72 #[.int .i64 n] w fun e w' => e = .returned (.string t) ∧ Below w.heap.size w w' := by
  have hd : t.data.toList = dg n := by rw [ht]
  have HD := Lib.hid hd
  have HL := Lib.hid (dg_le hn)
  have HN := Lib.hid hn
  clear ht hd hn
  go_enter Try.func72, Try.ntmps72
  go_wp2_with fail
  go_loopw [0, 3] (fun i s wr => ∃ (k : Nat) (u : ByteArray), i = .int .i64 k ∧ s = .string u ∧ k ≤ 9223372036854775807 ∧ dg n = dg k ++ u.data.toList ∧ Below w.heap.size w wr) (fun i _ _ => (intOf i).toNat)
  case atStart => exact ⟨n, ⟨#[]⟩, rfl, rfl, HN.out, by simp, Below.refl _ _⟩
  case round =>
    obtain ⟨k, u, rfl, rfl, hk, hdk, hbw⟩ := hrel
    have hul : u.size ≤ 19 := by
      have h1 := congrArg List.length hdk
      rw [List.length_append, ba_len6] at h1
      have := HL.out
      omega
    have HBW := Lib.hid hbw
    by_cases h9 : k < 10
    · obtain ⟨c, hc⟩ : ∃ c, dgt k = c := ⟨_, rfl⟩
      have hcn : (48 : Int) + (k : Int) = (c.toNat : Int) := by rw [← hc, dgt_nat h9]; omega
      have hcl := c.toNat_lt
      obtain ⟨v, hv⟩ : ∃ v, (⟨#[c]⟩ : ByteArray) ++ u = v := ⟨_, rfl⟩
      have hcat : ∀ W, (Op.stringOp .add ⟨#[c]⟩ u).run Try.prog W = .ok (.string v) W := fun W => by rw [run_string_add W ⟨#[c]⟩ u (by show ((1 : Nat) : Int) ≤ _; decide) (by omega), hv]
      have hvt : v = t := by
        refine ba_ext6 ?_
        rw [HD.out, hdk, dg_small h9, hc, ← hv]
        simp
      subst hvt
      have HU := Lib.hid hv
      have hcv := conv_one (P := Try.prog) wr c Try.underlying58 Try.underlying5 Try.underlying9
      clear hdk hv hc hbw HD HU
      go_wp2_with fail
      go_ret
      exact ⟨rfl, stpA HBW.out _⟩
    · obtain ⟨q, hq⟩ : ∃ q, k / 10 = q := ⟨_, rfl⟩
      obtain ⟨r, hr⟩ : ∃ r, k % 10 = r := ⟨_, rfl⟩
      have hr9 : r < 10 := by omega
      obtain ⟨c, hc⟩ : ∃ c, dgt r = c := ⟨_, rfl⟩
      have hcn : (48 : Int) + (r : Int) = (c.toNat : Int) := by rw [← hc, dgt_nat hr9]; omega
      have hcl := c.toNat_lt
      have g1 : (k : Int).tmod 10 = (r : Int) := by rw [Int.tmod_eq_emod_of_nonneg (by omega)]; omega
      have g2 : (k : Int).tdiv 10 = (q : Int) := by rw [Int.tdiv_eq_ediv_of_nonneg (by omega)]; omega
      obtain ⟨v, hv⟩ : ∃ v, (⟨#[c]⟩ : ByteArray) ++ u = v := ⟨_, rfl⟩
      have hcat : ∀ W, (Op.stringOp .add ⟨#[c]⟩ u).run Try.prog W = .ok (.string v) W := fun W => by rw [run_string_add W ⟨#[c]⟩ u (by show ((1 : Nat) : Int) ≤ _; decide) (by omega), hv]
      have HV : Hid (dg n = dg q ++ v.data.toList) := Lib.hid (by
        rw [hdk, dg_more (by omega), hq, hr, hc, ← hv]
        simp)
      have hqk : q < k := by omega
      have hcv := conv_one (P := Try.prog) wr c Try.underlying58 Try.underlying5 Try.underlying9
      clear hdk hv hc hbw HD hq hr
      go_wp2_with fail
      go_roundw
      case rel => exact ⟨q, v, rfl, rfl, by omega, HV.out, stpA HBW.out _⟩
      case measure => simp [intOf]; omega
end Hx
end Go.Proofs.Ytfdhogaknlabkaa
namespace Go.Proofs.Ytfdhogaknlabkaa
open Go.RowKit
namespace Hx
open Nmb
set_option linter.unusedVariables false
theorem ret_i6 {a b : Int} (h : a = b) : Ending.returned (.int .i64 a) = .returned (.int .i64 b) := by rw [h]
/-- What value answers. -/
def valR (l : List UInt8) : Int := if l.all isDg then (val l : Int) else -1
theorem not_all6 (l : List UInt8) (k : Nat) (h : k < l.length) (h2 : isDg (l[k]'h) = false) : l.all isDg = false := by
  rw [List.all_eq_false]
  exact ⟨l[k]'h, List.getElem_mem h, by simp [h2]⟩
theorem at6 (s : ByteArray) (k : Nat) (h : k < s.size) : s.data.toList[k]'(by rw [ba_len6]; exact h) = s[k]'h := by cases s; rfl
set_option maxHeartbeats 2000000 in
set_option maxRecDepth 100000 in
theorem rvalue6 (s : ByteArray) (w : World) (hs : s.size ≤ 16) (v : Int) (hv : valR s.data.toList = v) :
    Calls Try.prog 71 #[.string s] w fun e w' => e = .returned (.int .i64 v) ∧ Below w.heap.size w w' := by
  have HS := Lib.hid hs
  have HV := Lib.hid hv
  clear hs hv
  go_enter Try.func71, Try.ntmps71
  go_wp2_with fail
  go_loopw [3, 4] (fun n i wr => ∃ k : Nat, k ≤ s.size ∧ i = .int .i64 k ∧ n = .int .i64 (val (s.data.toList.take k) : Nat) ∧ (s.data.toList.take k).all isDg = true ∧ Below w.heap.size w wr) (fun _ i _ => s.size - (intOf i).toNat)
  case atStart => exact ⟨0, Nat.zero_le _, rfl, rfl, rfl, Below.refl _ _⟩
  case round =>
    obtain ⟨k, hk, rfl, rfl, hall, hbw⟩ := hrel
    have hs := HS.out
    by_cases hlt : k < s.size
    · obtain ⟨m, hm⟩ : ∃ m, val (s.data.toList.take k) = m := ⟨_, rfl⟩
      have hml : m < 1000000000000000 := by
        have h1 := val_lt _ hall
        rw [hm, List.length_take, ba_len6, Nat.min_eq_left hk] at h1
        exact Nat.lt_of_lt_of_le h1 (Nat.le_trans (Nat.pow_le_pow_right (by decide) (show k ≤ 15 by omega)) (by decide))
      obtain ⟨c, hc⟩ : ∃ c, s[k]'hlt = c := ⟨_, rfl⟩
      have hca : ∀ h, s[k]'h = c := fun _ => hc
      have hcl := c.toNat_lt
      have hkl : k < s.data.toList.length := by rw [ba_len6]; exact hlt
      have hck : s.data.toList[k]'hkl = c := (at6 s k hlt).trans hc
      have bk : (0 : Int) ≤ (k : Int) ∧ (k : Int) < (s.size : Int) := by omega
      have HALL := Lib.hid hall
      have HBW := Lib.hid hbw
      have HCK := Lib.hid hck
      have HM := Lib.hid hm
      rw [hm]
      by_cases h1 : c.toNat < 48
      · have HX : Hid (v = -1) := Lib.hid (by
          have := not_all6 s.data.toList k hkl (by rw [hck]; simp [isDg]; omega)
          rw [← HV.out]
          unfold valR
          rw [this]
          rfl)
        have d1 : decide ((c.toNat : Int) < 48) = true := by simp; omega
        clear hck hall hbw hm hc HV
        go_wp2_with fail
        go_ret
        exact ⟨ret_i6 HX.out.symm, HBW.out⟩
      · by_cases h2 : 57 < c.toNat
        · have HX : Hid (v = -1) := Lib.hid (by
            have := not_all6 s.data.toList k hkl (by rw [hck]; simp [isDg]; omega)
            rw [← HV.out]
            unfold valR
            rw [this]
            rfl)
          have d1 : decide ((c.toNat : Int) < 48) = false := by simp; omega
          have d2 : decide ((57 : Int) < (c.toNat : Int)) = true := by simp; omega
          clear hck hall hbw hm hc HV
          go_wp2_with fail
          go_ret
          exact ⟨ret_i6 HX.out.symm, HBW.out⟩
        · have d1 : decide ((c.toNat : Int) < 48) = false := by simp; omega
          have d2 : decide ((57 : Int) < (c.toNat : Int)) = false := by simp; omega
          obtain ⟨m', hm'⟩ : ∃ m', 10 * m + (c.toNat - 48) = m' := ⟨_, rfl⟩
          have HT : Hid (val (s.data.toList.take (k + 1)) = m' ∧ (s.data.toList.take (k + 1)).all isDg = true) := Lib.hid (by
            rw [List.take_succ_eq_append_getElem hkl, hck, val_snoc, hm, List.all_append, hall]
            refine ⟨hm', ?_⟩
            simp [isDg]
            omega)
          clear hck hall hbw hm hc
          go_wp2_with fail
          go_roundw
          case rel => exact ⟨k + 1, hlt, by go_num, by rw [HT.out.1]; go_num, HT.out.2, HBW.out⟩
          case measure => simp [intOf]; omega
    · obtain rfl : k = s.size := by omega
      have HX : Hid (v = (val (s.data.toList.take s.size) : Nat)) := Lib.hid (by
        rw [List.take_of_length_le (by rw [ba_len6]; omega)] at hall ⊢
        rw [← HV.out]
        unfold valR
        rw [if_pos hall])
      go_wp2_with fail
      go_ret
      exact ⟨ret_i6 HX.out.symm, hbw⟩
/-- What Read answers. -/
def readR (l : List UInt8) : Int × Int := match readN l with | some n => (n, 0) | none => (0, 60)
theorem list6 (l : List UInt8) : (⟨l.toArray⟩ : ByteArray).data.toList = l := rfl
theorem seq6 (a b : ByteArray) : (a.toList == b.toList) = decide (a.data.toList = b.data.toList) := by
  rw [Bool.eq_iff_iff]
  simp only [beq_iff_eq, decide_eq_true_eq, ByteArray.toList_eq]
set_option maxHeartbeats 2000000 in
set_option maxRecDepth 100000 in
theorem rread6 (s : ByteArray) (w : World) (a b : Int) (h : readR s.data.toList = (a, b)) :
    Calls Try.prog 47 #[.string s] w fun e w' => e = .returned (.tuple #[.int .i64 a, .int .i64 b]) ∧ Below w.heap.size w w' := by
  by_cases h0 : s.size < 1
  · have d0 : decide ((s.size : Int) < 1) = true := by simp; omega
    have hn : readN s.data.toList = none := by
      have : s.data.toList = [] := List.eq_nil_of_length_eq_zero (by rw [ba_len6]; omega)
      rw [this]; rfl
    unfold readR at h
    rw [hn] at h
    obtain ⟨rfl, rfl⟩ : 0 = a ∧ 60 = b := by simpa using h
    clear h hn h0
    go_enter Try.func47, Try.ntmps47
    go_wp2_with fail
    go_ret2
    exact ⟨rfl, Below.refl _ _⟩
  · have d0 : decide ((s.size : Int) < 1) = false := by simp; omega
    by_cases h1 : 16 < s.size
    · have d1 : decide ((16 : Int) < (s.size : Int)) = true := by simp; omega
      have hn : readN s.data.toList = none := readN_long _ (by rw [ba_len6]; exact h1)
      unfold readR at h
      rw [hn] at h
      obtain ⟨rfl, rfl⟩ : 0 = a ∧ 60 = b := by simpa using h
      clear h hn h0 h1
      go_enter Try.func47, Try.ntmps47
      go_wp2_with fail
      go_ret2
      exact ⟨rfl, Below.refl _ _⟩
    · have d1 : decide ((16 : Int) < (s.size : Int)) = false := by simp; omega
      obtain ⟨v, hv⟩ : ∃ v, valR s.data.toList = v := ⟨_, rfl⟩
      have HV := Lib.hid hv
      have HS : Hid (s.size ≤ 16) := Lib.hid (by omega)
      by_cases ha : s.data.toList.all isDg = true
      · obtain ⟨m, hm⟩ : ∃ m, val s.data.toList = m := ⟨_, rfl⟩
        obtain rfl : v = (m : Int) := by rw [← hv]; unfold valR; rw [if_pos ha, hm]
        have d2 : decide ((m : Int) < 0) = false := by simp
        by_cases h3 : most < m
        · have d3 : decide ((9007199254740991 : Int) < (m : Int)) = true := by simp; unfold most at h3; omega
          have hn : readN s.data.toList = none := by unfold readN; rw [if_neg (by rw [hm, Bool.and_eq_true, decide_eq_true_eq]; omega)]
          unfold readR at h
          rw [hn] at h
          obtain ⟨rfl, rfl⟩ : 0 = a ∧ 60 = b := by simpa using h
          clear h hn h0 h1 h3 ha hm hv
          go_enter Try.func47, Try.ntmps47
          go_wp2_with (first
            | (go_at_call 71; (with_reducible refine (rvalue6 s w HS.out m HV.out).mono ?_); rintro e w1 ⟨rfl, hb1⟩)
            | fail)
          go_ret2
          exact ⟨rfl, hb1⟩
        · have d3 : decide ((9007199254740991 : Int) < (m : Int)) = false := by simp; unfold most at h3; omega
          obtain ⟨t, ht⟩ : ∃ t : ByteArray, t = ⟨(dg m).toArray⟩ := ⟨_, rfl⟩
          have HT := Lib.hid ht
          have HM : Hid (m ≤ 9223372036854775807) := Lib.hid (by unfold most at h3; omega)
          obtain ⟨q, hq⟩ : ∃ q, (t.toList == s.toList) = q := ⟨_, rfl⟩
          have hqq : q = decide (dg m = s.data.toList) := by rw [← hq, seq6, ht]
          cases q
          · have hn : readN s.data.toList = none := by
              cases hr : readN s.data.toList with
              | none => rfl
              | some n =>
                obtain ⟨e1, e2⟩ := (readN_iff _ _).1 hr
                have : m = n := by rw [← hm, e1, val_dg]
                subst this
                have := of_decide_eq_false hqq.symm
                exact absurd e1.symm this
            unfold readR at h
            rw [hn] at h
            obtain ⟨rfl, rfl⟩ : 0 = a ∧ 60 = b := by simpa using h
            clear h hn h0 h1 h3 ha hm hv ht hqq
            go_enter Try.func47, Try.ntmps47
            go_wp2_with (first
              | (go_at_call 71; (with_reducible refine (rvalue6 s w HS.out m HV.out).mono ?_); rintro e w1 ⟨rfl, hb1⟩)
              | (go_at_call 72; (with_reducible refine (rdigits6 m w1 HM.out t HT.out).mono ?_); rintro e w2 ⟨rfl, hb2⟩; have hB2 := stp hb1 hb2)
              | fail)
            go_ret2
            exact ⟨rfl, hB2⟩
          · have e1 : dg m = s.data.toList := of_decide_eq_true hqq.symm
            have hn : readN s.data.toList = some m := (readN_iff _ _).2 ⟨e1.symm, by omega⟩
            unfold readR at h
            rw [hn] at h
            obtain ⟨rfl, rfl⟩ : (m : Int) = a ∧ 0 = b := by simpa using h
            clear h hn h0 h1 h3 ha hm hv ht hqq e1
            go_enter Try.func47, Try.ntmps47
            go_wp2_with (first
              | (go_at_call 71; (with_reducible refine (rvalue6 s w HS.out m HV.out).mono ?_); rintro e w1 ⟨rfl, hb1⟩)
              | (go_at_call 72; (with_reducible refine (rdigits6 m w1 HM.out t HT.out).mono ?_); rintro e w2 ⟨rfl, hb2⟩; have hB2 := stp hb1 hb2)
              | fail)
            go_ret2
            exact ⟨rfl, hB2⟩
      · obtain rfl : v = -1 := by rw [← hv]; unfold valR; rw [if_neg ha]
        have hn : readN s.data.toList = none := by unfold readN; rw [if_neg (by unfold okN; simp [ha])]
        unfold readR at h
        rw [hn] at h
        obtain ⟨rfl, rfl⟩ : 0 = a ∧ 60 = b := by simpa using h
        clear h hn h0 h1 ha hv
        go_enter Try.func47, Try.ntmps47
        go_wp2_with (first
          | (go_at_call 71; (with_reducible refine (rvalue6 s w HS.out (-1) HV.out).mono ?_); rintro e w1 ⟨rfl, hb1⟩)
          | fail)
        go_ret2
        exact ⟨rfl, hb1⟩
end Hx
end Go.Proofs.Ytfdhogaknlabkaa
namespace Go.Proofs.Ytfdhogaknlabkaa
open Go.RowKit
namespace Hx
open Tx Nmb Es
set_option linter.unusedVariables false
/-- What hex answers. -/
def hexR (l : List UInt8) : Int := match hexV l with | some n => (n : Int) | none => -1
theorem fold_none (l : List UInt8) : l.foldl (fun a c => a.bind fun n => (hxv c).map fun d => 16 * n + d) none = none := by
  induction l with
  | nil => rfl
  | cons c l ih => rw [List.foldl_cons]; exact ih
theorem hexF_stop {l : List UInt8} {k : Nat} {c : UInt8} (h : l[k]? = some c) (hn : hxv c = none) : hexF l = none := by
  have e : l = l.take (k + 1) ++ l.drop (k + 1) := (List.take_append_drop _ _).symm
  have e2 : hexF (l.take (k + 1)) = none := by
    rw [take_next8 h, hexF_snoc, hn]
    cases hexF (l.take k) <;> rfl
  rw [e]
  unfold hexF at e2 ⊢
  rw [List.foldl_append, e2]
  exact fold_none _
theorem hexF_next {l : List UInt8} {k n d : Nat} {c : UInt8} (h : l[k]? = some c) (h1 : hexF (l.take k) = some n) (hd : hxv c = some d) : hexF (l.take (k + 1)) = some (16 * n + d) := by
  rw [take_next8 h, hexF_snoc, h1, hd]
  rfl
theorem hexV_in {l : List UInt8} (h1 : l ≠ []) (h2 : ¬ 6 < l.length) (h3 : l.head? ≠ some 48) : hexV l = hexF l := by
  unfold hexV
  rw [if_neg]
  rintro (h | h | h)
  · exact h1 h
  · exact h2 h
  · exact h3 h
theorem hexV_out {l : List UInt8} (h : l = [] ∨ 6 < l.length ∨ l.head? = some 48) : hexV l = none := by unfold hexV; rw [if_pos h]
theorem head_at {s : ByteArray} {c : UInt8} (h : s.data.toList[0]? = some c) : s.data.toList.head? = some c := by rw [List.head?_eq_getElem?]; exact h
/-- What number answers, of a code point or none. -/
def numR (o : Option Nat) : ByteArray × Bool := match o with | some n => (⟨(enc n).toArray⟩, true) | none => (⟨#[]⟩, false)
theorem numL_x (r : List UInt8) : numL (120 :: r) = (hexV r).filter fun n : Nat => may (n : Int) := rfl
theorem numL_d {l : List UInt8} (h : l.head? ≠ some 120) : numL l = (readN l).filter fun n : Nat => may (n : Int) := by
  unfold numL
  split
  · exact absurd rfl h
  · rfl
theorem hexV_le {l : List UInt8} {n : Nat} (h : hexR l = (n : Int)) : hexV l = some n := by
  unfold hexR at h
  cases hv : hexV l with
  | none => rw [hv] at h; simp only at h; omega
  | some m => rw [hv] at h; simp only at h; rw [Int.ofNat_inj.1 h]
theorem hexV_neg {l : List UInt8} (h : hexR l = -1) : hexV l = none := by
  unfold hexR at h
  cases hv : hexV l with
  | none => rfl
  | some m => rw [hv] at h; simp only at h; omega
theorem hexR_cases (l : List UInt8) : hexR l = -1 ∨ ∃ n : Nat, hexR l = n := by
  unfold hexR
  cases hexV l with
  | none => exact .inl rfl
  | some n => exact .inr ⟨n, rfl⟩
/-- What meant answers. -/
def mntR (o : Option (List UInt8)) : ByteArray × Bool := match o with | some y => (⟨y.toArray⟩, true) | none => (⟨#[]⟩, false)
theorem lit_eq (s : ByteArray) (l : List UInt8) : (s.toList == l) = decide (s.data.toList = l) := by
  rw [ByteArray.toList_eq, Bool.eq_iff_iff, beq_iff_eq, decide_eq_true_eq]
theorem lit_eq2 (s : ByteArray) (l : List UInt8) : (s.toList == (⟨l.toArray⟩ : ByteArray).toList) = decide (s.data.toList = l) := by
  rw [← lit_eq]
  congr 1
  rw [ByteArray.toList_eq]
end Hx
end Go.Proofs.Ytfdhogaknlabkaa
