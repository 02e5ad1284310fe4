/-
  Contracts of the document's own answers for layer 8 (tidewaiterref08): one, Written, Put.
-/
import Derived.Test.YtichboamakgabaaEscM
import Derived.Test.YtichboamakgabaaTextU
import Derived.Lib.AppendStr
import Derived.OwnWalk
import Derived.Deep.LoopGhost
namespace Go.Proofs.Ytichboamakgabaa
open Go.RowKit
namespace Hx
open Tx Nmb Es
set_option linter.unusedVariables false
theorem byte_at8 (s : ByteArray) (k : Nat) (h : k < s.size) : ∃ c, s.data.toList[k]? = some c ∧ ∀ (h : k < s.size), s[k]'h = c := by
  refine ⟨s[k]'h, ?_, fun _ => rfl⟩
  have e : k < s.data.toList.length := by rw [ba_len5]; exact h
  rw [List.getElem?_eq_getElem e]
  rfl
theorem take_next8 {α : Type} {l : List α} {k : Nat} {c : α} (h : l[k]? = some c) : l.take (k + 1) = l.take k ++ [c] := by
  obtain ⟨hk, e⟩ := List.getElem?_eq_some_iff.1 h
  rw [List.take_succ_eq_append_getElem hk, e]
theorem u8_ne {c : UInt8} {n : Nat} (hn : n < 256) (h : c.toNat ≠ n) : c ≠ UInt8.ofNat n := by
  rintro rfl
  apply h
  rw [UInt8.toNat_ofNat']
  omega
theorem u8_eq {c : UInt8} {n : Nat} (h : c.toNat = n) : c = UInt8.ofNat n := by
  subst h
  exact UInt8.ofNat_toNat.symm
set_option maxHeartbeats 2000000 in
set_option maxRecDepth 100000 in
/-- ref.one. -/
theorem rone8 (c : UInt8) (q : Bool) (t : ByteArray) (w : World) (h : (⟨(escb q c).toArray⟩ : ByteArray) = t) :
    Calls Try.prog 36 #[.int .u8 c.toNat, .bool q] w fun e w' => e = .returned (.string t) ∧ Below w.heap.size w w' := by
  have hcl := c.toNat_lt
  by_cases h38 : c.toNat = 38
  · have d38 : ((c.toNat : Int) == 38) = true := by simp; omega
    obtain rfl : (⟨#[38, 97, 109, 112, 59]⟩ : ByteArray) = t := by rw [← h, u8_eq h38]; cases q <;> rfl
    clear h h38
    go_enter Try.func36, Try.ntmps36
    go_wp2_with fail
    go_ret
    exact ⟨rfl, Below.refl _ _⟩
  have d38 : ((c.toNat : Int) == 38) = false := by simp; omega
  have e38 : c ≠ 38 := u8_ne (by decide) h38
  by_cases h60 : c.toNat = 60
  · have d60 : ((c.toNat : Int) == 60) = true := by simp; omega
    obtain rfl : (⟨#[38, 108, 116, 59]⟩ : ByteArray) = t := by rw [← h, u8_eq h60]; cases q <;> rfl
    clear h h60
    go_enter Try.func36, Try.ntmps36
    go_wp2_with fail
    go_ret
    exact ⟨rfl, Below.refl _ _⟩
  have d60 : ((c.toNat : Int) == 60) = false := by simp; omega
  have e60 : c ≠ 60 := u8_ne (by decide) h60
  by_cases h62 : c.toNat = 62
  · have d62 : ((c.toNat : Int) == 62) = true := by simp; omega
    obtain rfl : (⟨#[38, 103, 116, 59]⟩ : ByteArray) = t := by rw [← h, u8_eq h62]; cases q <;> rfl
    clear h h62
    go_enter Try.func36, Try.ntmps36
    go_wp2_with fail
    go_ret
    exact ⟨rfl, Below.refl _ _⟩
  have d62 : ((c.toNat : Int) == 62) = false := by simp; omega
  have e62 : c ≠ 62 := u8_ne (by decide) h62
  by_cases h13 : c.toNat = 13
  · have d13 : ((c.toNat : Int) == 13) = true := by simp; omega
    obtain rfl : (⟨#[38, 35, 49, 51, 59]⟩ : ByteArray) = t := by rw [← h, u8_eq h13]; cases q <;> rfl
    clear h h13
    go_enter Try.func36, Try.ntmps36
    go_wp2_with fail
    go_ret
    exact ⟨rfl, Below.refl _ _⟩
  have d13 : ((c.toNat : Int) == 13) = false := by simp; omega
  have e13 : c ≠ 13 := u8_ne (by decide) h13
  cases q
  · obtain rfl : (⟨#[c]⟩ : ByteArray) = t := by rw [← h]; unfold escb; simp [e38, e60, e62, e13]
    clear h h38 h60 h62 h13 e38 e60 e62 e13
    have hcv := conv_one (P := Try.prog) w c Try.underlying40 Try.underlying5 Try.underlying9
    go_enter Try.func36, Try.ntmps36
    go_wp2_with fail
    go_ret
    exact ⟨rfl, stpA (Below.refl _ _) _⟩
  · by_cases h34 : c.toNat = 34
    · have d34 : ((c.toNat : Int) == 34) = true := by simp; omega
      obtain rfl : (⟨#[38, 113, 117, 111, 116, 59]⟩ : ByteArray) = t := by rw [← h, u8_eq h34]; rfl
      clear h h34
      go_enter Try.func36, Try.ntmps36
      go_wp2_with fail
      go_ret
      exact ⟨rfl, Below.refl _ _⟩
    have d34 : ((c.toNat : Int) == 34) = false := by simp; omega
    have e34 : c ≠ 34 := u8_ne (by decide) h34
    by_cases h9 : c.toNat = 9
    · have d9 : ((c.toNat : Int) == 9) = true := by simp; omega
      obtain rfl : (⟨#[38, 35, 57, 59]⟩ : ByteArray) = t := by rw [← h, u8_eq h9]; rfl
      clear h h9
      go_enter Try.func36, Try.ntmps36
      go_wp2_with fail
      go_ret
      exact ⟨rfl, Below.refl _ _⟩
    have d9 : ((c.toNat : Int) == 9) = false := by simp; omega
    have e9 : c ≠ 9 := u8_ne (by decide) h9
    by_cases h10 : c.toNat = 10
    · have d10 : ((c.toNat : Int) == 10) = true := by simp; omega
      obtain rfl : (⟨#[38, 35, 49, 48, 59]⟩ : ByteArray) = t := by rw [← h, u8_eq h10]; rfl
      clear h h10
      go_enter Try.func36, Try.ntmps36
      go_wp2_with fail
      go_ret
      exact ⟨rfl, Below.refl _ _⟩
    have d10 : ((c.toNat : Int) == 10) = false := by simp; omega
    have e10 : c ≠ 10 := u8_ne (by decide) h10
    obtain rfl : (⟨#[c]⟩ : ByteArray) = t := by rw [← h]; unfold escb; simp [e38, e60, e62, e13, e34, e9, e10]
    clear h h38 h60 h62 h13 h34 h9 h10 e38 e60 e62 e13 e34 e9 e10
    have hcv := conv_one (P := Try.prog) w c Try.underlying40 Try.underlying5 Try.underlying9
    go_enter Try.func36, Try.ntmps36
    go_wp2_with fail
    go_ret
    exact ⟨rfl, stpA (Below.refl _ _) _⟩
theorem str_cells (l : List UInt8) : Lib.strCells ⟨l.toArray⟩ = Lib.byteCells l := rfl
/-- append(own, s...) of a text. -/
theorem wpList_append_str {P : Program} {w : World} {ops : Array Oper} {rest : List Oper} {o : Oper} {a : Act} {Q : Exit → Act → World → Prop} (hgd : o.guard = none) (sl x : Operand) (t u : TypeId)
    (ho : o.op = .call { callee := .builtin .append, args := #[sl, x], argTypes := #[t, u] })
    (base : Nat) (e : TypeId) (i : TypeInfo) (ht : P.underlying t = some (.slice e)) (hu : P.underlying u = some .string) (hi : P.info? e = some i) (hz : i.zero = some (.int .u8 0))
    (hsize : i.size = 1) (hby : i.bytes = 1) (v : Value) (n : Nat) (xs : List Value) (hs : a.eval sl = v) (hown : w.ownsRow base e 1 v n xs) (s : ByteArray) (hx : a.eval x = .string s)
    (hb : n + s.size ≤ 1000000000000) (hbase : base ≤ w.heap.size)
    (h : ∀ v' w', w'.ownsRow base e 1 v' (n + s.size) (xs ++ Lib.strCells s) → w.grownBy w' v.ownBlock → wpList P ops Q rest (a.put o.dst v') w') : wpList P ops Q (o :: rest) a w :=
  Lib.wpList_append_own_string w hgd sl x t u ho base e i ht hu hi hz hsize hby v n xs hs hown s hx (by unfold maxLen; omega) (by omega) hbase (fun v' w' h1 h2 _ => h v' w' h1 h2)
/-- A text as it is written. -/
def escS (q : Bool) (s : ByteArray) : ByteArray := ⟨(escL q s.data.toList).toArray⟩
theorem escS_size (q : Bool) (s : ByteArray) : s.size ≤ (escS q s).size ∧ (escS q s).size ≤ 6 * s.size := by
  have := escL_len q s.data.toList
  rw [← ba_len5 s, ← ba_len5 (escS q s)]
  exact this
set_option maxHeartbeats 4000000 in
set_option maxRecDepth 100000 in
/-- ref.Written. -/
theorem rwritten8 (s t : ByteArray) (q : Bool) (w : World) (hm : s.size ≤ 1000000) (ht : escS q s = t) :
    Calls Try.prog 25 #[.string s, .bool q] w fun e w' => e = .returned (.string t) ∧ Below w.heap.size w w' := by
  obtain ⟨i0, hi, hz0, hz1, hz2⟩ := info_parts infoU8
  have HI := Lib.hid hi
  have HZ0 := Lib.hid hz0
  have HZ1 := Lib.hid hz1
  have HZ2 := Lib.hid hz2
  have HM := Lib.hid hm
  have HT := Lib.hid ht
  clear hi hz0 hz1 hz2 hm ht
  go_enter Try.func25, Try.ntmps25
  go_wp2_with fail
  go_loopg [5, 6] s.size (fun gg v i wr => ∃ k : Nat, k + gg = s.size ∧ i = .int .i64 k ∧ wr.ownsRow w.heap.size 5 1 v (escL q (s.data.toList.take k)).length (Lib.byteCells (escL q (s.data.toList.take k))) ∧ Below w.heap.size w wr)
  case atStart => exact ⟨0, by omega, rfl, World.ownsRow_nil _ _ _ _, Below.refl _ _⟩
  case round =>
    obtain ⟨k, hk, rfl, hown, hbw⟩ := hrel
    obtain ⟨m, hmm⟩ : ∃ m, (escL q (s.data.toList.take k)).length = m := ⟨_, rfl⟩
    have hml : m ≤ 6 * k := by
      rw [← hmm]
      have := (escL_len q (s.data.toList.take k)).2
      rw [List.length_take] at this
      omega
    rw [hmm] at hown
    have HMM := Lib.hid hmm
    have HO := Lib.hid hown
    have HBW := Lib.hid hbw
    have hsz := hbw.size
    have hMM := HM.out
    clear hmm
    by_cases hlt : k < s.size
    · obtain ⟨c, hc, hat⟩ := byte_at8 s k hlt
      have bk : (0 : Int) ≤ (k : Int) ∧ (k : Int) < (s.size : Int) := by omega
      obtain ⟨x, hx⟩ : ∃ x : ByteArray, ⟨(escb q c).toArray⟩ = x := ⟨_, rfl⟩
      have hxz : x.size ≤ 6 := by rw [← hx]; exact (escb_len q c).2
      have HX := Lib.hid hx
      have HNX : Hid (escL q (s.data.toList.take (k + 1)) = escL q (s.data.toList.take k) ++ escb q c) := by show _ = _; rw [take_next8 hc, escL_snoc]
      have HXC : Hid (Lib.strCells x = Lib.byteCells (escb q c) ∧ x.size = (escb q c).length) := by
        rw [← hx]
        exact ⟨str_cells _, rfl⟩
      clear hown hbw hc hx
      go_wp2_with (first
        | (go_at_call 36; (with_reducible refine (rone8 c q x wr HX.out).mono ?_); rintro e w1 ⟨rfl, hb1⟩; have HB1 := Lib.hid hb1; have HO1 := Lib.hid (own_below HO.out hb1 (Nat.le_refl _)); have hs1 := (stp HBW.out hb1).size)
        | (at_builtin; refine wpList_append_str rfl (.tmp 13) (.tmp 18) 40 9 rfl w.heap.size 5 i0 Try.underlying40 Try.underlying9 HI.out HZ0.out HZ1.out HZ2.out _ m _ rfl HO1.out x rfl (by omega) hs1 ?_; intro v4 w4 hown4 hgr4; have HO4 := Lib.hid hown4; have HG4 := Lib.hid hgr4; clear hown4 hgr4)
        | fail)
      have hb4 : Below w.heap.size w w4 := (stp HBW.out HB1.out).grown HG4.out hs1 (fun g hg => (HO1.out.lt g hg).1)
      go_roundg (gk - 1)
      case rel =>
        refine ⟨k + 1, by omega, by go_num, ?_, hb4⟩
        rw [HNX.out, List.length_append, HMM.out, Lib.byteCells_append, ← HXC.out.1, ← HXC.out.2]
        exact HO4.out
      case measure => omega
    · obtain rfl : s.size = k := by omega
      obtain ⟨A', c', rfl⟩ := own_form hown
      have htk : s.data.toList.take s.size = s.data.toList := List.take_of_length_le (by rw [ba_len5]; exact Nat.le_refl _)
      have hrd := (RdA.of_own hown).1
      have hll := HMM.out
      rw [htk] at hrd hll
      have cv := conv_str (P := Try.prog) (n := m) (c := c') hrd hll Try.underlying40 Try.underlying5 Try.underlying9
      have ht2 : (⟨(escL q s.data.toList).toArray⟩ : ByteArray) = t := HT.out
      rw [ht2] at cv
      clear hown hbw hrd HO ht2 htk hll HMM
      go_wp2_with fail
      go_ret
      exact ⟨rfl, HBW.out⟩
/-- What Put answers. -/
def putR (s : ByteArray) (q : Bool) : ByteArray × Int := if chkE s ≠ 0 then (⟨#[]⟩, chkE s) else if 16384 < (escS q s).size then (⟨#[]⟩, 4) else (escS q s, 0)
end Hx
end Go.Proofs.Ytichboamakgabaa
