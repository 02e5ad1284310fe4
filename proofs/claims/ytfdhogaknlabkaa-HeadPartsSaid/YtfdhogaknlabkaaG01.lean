/-
  Texts of one seat, put together: AscR, MemA, AscK, AscS.
-/
import Derived.Test.YtfdhogaknlabkaaG00
import Derived.IntWalk
import Derived.OwnWalk
import Derived.Deep.LoopGhost
import Derived.Laws.StructEq
import Derived.Lib.OthersKept
import Derived.Laws.RangeAny
import Derived.Deep.WholeRow
set_option linter.unusedSimpArgs false
set_option linter.unusedVariables false
namespace Go.Proofs.Ytfdhogaknlabkaa
open Go.RowKit
namespace Hx
open As
set_option linter.unusedVariables false
theorem ba_len7 (s : ByteArray) : s.data.toList.length = s.size := by cases s; simp [ByteArray.size]
theorem ba_eq7 (s : ByteArray) : s = ⟨s.data.toList.toArray⟩ := by cases s; simp
theorem ba_ext7 {s t : ByteArray} (h : s.data.toList = t.data.toList) : s = t := by
  cases s; cases t
  simpa using h
theorem seq_b7 (a b : ByteArray) : (a.toList == b.toList) = decide (a = b) := by
  rw [Bool.eq_iff_iff, beq_iff_eq, decide_eq_true_eq, ByteArray.toList_eq, ByteArray.toList_eq]
  exact ⟨fun h => ba_ext7 h, fun h => by rw [h]⟩
theorem infoU8' : (Try.prog.info? 5).map (fun i => (i.zero, i.size, i.bytes)) = some (some (.int .u8 0), 1, 1) := by kernel_rfl
theorem byte_at (s : ByteArray) (k : Nat) (h : k < s.size) : ∃ c, s.data.toList[k]? = some c ∧ ∀ (h : k < s.size), s[k]'h = c := by
  refine ⟨s[k]'h, ?_, fun _ => rfl⟩
  have e : k < s.data.toList.length := by rw [ba_len7]; exact h
  rw [List.getElem?_eq_getElem e]
  rfl
theorem take_next {l : List UInt8} {k : Nat} {c : UInt8} (h : l[k]? = some c) : l.take (k + 1) = l.take k ++ [c] := by
  obtain ⟨hk, e⟩ := List.getElem?_eq_some_iff.1 h
  rw [List.take_succ_eq_append_getElem hk, e]
theorem lows_snoc (l : List UInt8) (c : UInt8) : lows (l ++ [c]) = lows l ++ [low c] := by simp [lows]
/-- A text with small letters. -/
def lowS (s : ByteArray) : ByteArray := ⟨(lows s.data.toList).toArray⟩
def trimS (s : ByteArray) : ByteArray := ⟨(trim s.data.toList).toArray⟩
set_option maxHeartbeats 4000000 in
set_option maxRecDepth 100000 in
/-- ref.Lower. -/
theorem rlower7 (s t : ByteArray) (w : World) (hm : s.size ≤ 1000000) (ht : lowS s = t) :
    Calls Try.prog 50 #[.string s] w fun e w' => e = .returned (.string t) ∧ Below w.heap.size w w' := by
  obtain ⟨i0, hi, hz0, hz1, hz2⟩ := info_parts infoU8'
  have HI := Lib.hid hi
  have HZ0 := Lib.hid hz0
  have HZ1 := Lib.hid hz1
  have HZ2 := Lib.hid hz2
  have HM := Lib.hid hm
  have HT := Lib.hid ht
  clear hi hz0 hz1 hz2 hm ht
  go_enter Try.func50, Try.ntmps50
  go_wp2_with fail
  go_loopw [3, 4] (fun v i wr => ∃ k : Nat, k ≤ s.size ∧ i = .int .i64 k ∧ wr.ownsRow w.heap.size 5 1 v k (Lib.byteCells (lows (s.data.toList.take k))) ∧ Below w.heap.size w wr) (fun _ i _ => s.size - (intOf i).toNat)
  case atStart => exact ⟨0, Nat.zero_le _, rfl, World.ownsRow_nil _ _ _ _, Below.refl _ _⟩
  case round =>
    obtain ⟨k, hk, rfl, hown, hbw⟩ := hrel
    have HO := Lib.hid hown
    have HBW := Lib.hid hbw
    have hsz := hbw.size
    have hMM := HM.out
    by_cases hlt : k < s.size
    · obtain ⟨c, hc, hat⟩ := byte_at s k hlt
      have bk : (0 : Int) ≤ (k : Int) ∧ (k : Int) < (s.size : Int) := by omega
      have hcl := c.toNat_lt
      obtain ⟨x, hx⟩ : ∃ x, low c = x := ⟨_, rfl⟩
      have hxn := low_nat c
      rw [hx] at hxn
      have HNX : Hid (Lib.byteCells (lows (s.data.toList.take (k + 1))) = Lib.byteCells (lows (s.data.toList.take k)) ++ Lib.byteCells [x]) := by
        show _ = _
        rw [take_next hc, lows_snoc, hx, Lib.byteCells_append]
      clear hown hbw hc
      by_cases h1 : 65 ≤ c.toNat ∧ c.toNat ≤ 90
      · rw [if_pos h1] at hxn
        have d1 : decide ((65 : Int) ≤ (c.toNat : Int)) = true := by simp; omega
        have d2 : decide ((c.toNat : Int) ≤ 90) = true := by simp; omega
        have d1' : 65 ≤ c.toNat := h1.1
        have d2' : c.toNat ≤ 90 := h1.2
        have g1 : IntKind.u8.wrap ((c.toNat : Int) + 32) = (x.toNat : Int) := by rw [IntWalk.u8_in _ (by omega)]; omega
        clear hx hxn h1
        go_wp2_with (first
          | (at_builtin; refine wpList_append_rd rfl (.tmp 23) (.tmp 25) 58 rfl w.heap.size 5 i0 (.int .u8 0) Try.underlying58 HI.out HZ0.out HZ1.out HZ2.out rfl _ k _ rfl (HO.out.alloc (.cells #[.int .u8 x.toNat] 5)) (wr.heap.size + 1) (some ⟨wr.heap.size, 0, none⟩) 1 1 [x] rfl (RdA.new wr 5 [x]) rfl (fun h => by cases h) (by omega) (by rw [World.size_alloc]; omega) ?_; intro v4 w4 hown4 hgr4; have HO4 := Lib.hid hown4; have HG4 := Lib.hid hgr4; clear hown4 hgr4)
          | fail)
        have hb4 : Below w.heap.size w w4 := (HBW.out.alloc hsz _).grown HG4.out (by rw [World.size_alloc]; omega) (fun g hg => (HO.out.lt g hg).1)
        go_roundw
        case rel =>
          refine ⟨k + 1, hlt, by go_num, ?_, hb4⟩
          rw [HNX.out]
          exact HO4.out
        case measure => simp [intOf]; omega
      · rw [if_neg h1] at hxn
        obtain rfl : c = x := UInt8.toNat_inj.1 hxn.symm
        clear hx hxn
        by_cases h2 : 65 ≤ c.toNat
        · have d1 : decide ((65 : Int) ≤ (c.toNat : Int)) = true := by simp; omega
          have d2 : decide ((c.toNat : Int) ≤ 90) = false := by simp; omega
          have d2' : ¬ c.toNat ≤ 90 := by omega
          clear h1
          go_wp2_with (first
            | (at_builtin; refine wpList_append_rd rfl (.tmp 23) (.tmp 25) 58 rfl w.heap.size 5 i0 (.int .u8 0) Try.underlying58 HI.out HZ0.out HZ1.out HZ2.out rfl _ k _ rfl (HO.out.alloc (.cells #[.int .u8 c.toNat] 5)) (wr.heap.size + 1) (some ⟨wr.heap.size, 0, none⟩) 1 1 [c] rfl (RdA.new wr 5 [c]) rfl (fun h => by cases h) (by omega) (by rw [World.size_alloc]; omega) ?_; intro v4 w4 hown4 hgr4; have HO4 := Lib.hid hown4; have HG4 := Lib.hid hgr4; clear hown4 hgr4)
            | fail)
          have hb4 : Below w.heap.size w w4 := (HBW.out.alloc hsz _).grown HG4.out (by rw [World.size_alloc]; omega) (fun g hg => (HO.out.lt g hg).1)
          go_roundw
          case rel =>
            refine ⟨k + 1, hlt, by go_num, ?_, hb4⟩
            rw [HNX.out]
            exact HO4.out
          case measure => simp [intOf]; omega
        · have d1 : decide ((65 : Int) ≤ (c.toNat : Int)) = false := by simp; omega
          clear h1
          go_wp2_with (first
            | (at_builtin; refine wpList_append_rd rfl (.tmp 23) (.tmp 25) 58 rfl w.heap.size 5 i0 (.int .u8 0) Try.underlying58 HI.out HZ0.out HZ1.out HZ2.out rfl _ k _ rfl (HO.out.alloc (.cells #[.int .u8 c.toNat] 5)) (wr.heap.size + 1) (some ⟨wr.heap.size, 0, none⟩) 1 1 [c] rfl (RdA.new wr 5 [c]) rfl (fun h => by cases h) (by omega) (by rw [World.size_alloc]; omega) ?_; intro v4 w4 hown4 hgr4; have HO4 := Lib.hid hown4; have HG4 := Lib.hid hgr4; clear hown4 hgr4)
            | fail)
          have hb4 : Below w.heap.size w w4 := (HBW.out.alloc hsz _).grown HG4.out (by rw [World.size_alloc]; omega) (fun g hg => (HO.out.lt g hg).1)
          go_roundw
          case rel =>
            refine ⟨k + 1, hlt, by go_num, ?_, hb4⟩
            rw [HNX.out]
            exact HO4.out
          case measure => simp [intOf]; omega
    · obtain rfl : k = s.size := by omega
      obtain ⟨A', c', rfl⟩ := own_form hown
      have hrd := (RdA.of_own hown).1
      rw [List.take_of_length_le (by rw [ba_len7]; exact Nat.le_refl _)] at hrd
      have cv := conv_str (P := Try.prog) (n := s.size) (c := c') hrd (by rw [lows_length, ba_len7]) Try.underlying58 Try.underlying5 Try.underlying9
      have ht2 : (⟨(lows s.data.toList).toArray⟩ : ByteArray) = t := HT.out
      rw [ht2] at cv
      clear hown hbw hrd HO ht2
      go_wp2_with fail
      go_ret
      exact ⟨rfl, HBW.out⟩
set_option maxRecDepth 100000 in
/-- ref.blank. -/
theorem rblank7 (c : UInt8) (b : Bool) (w : World) (h : blk c = b) :
    Calls Try.prog 83 #[.int .u8 c.toNat] w fun e w' => e = .returned (.bool b) ∧ w = w' := by
  unfold blk at h
  by_cases h1 : c.toNat = 32
  · have d1 : ((c.toNat : Int) == 32) = true := by simp; omega
    obtain rfl : true = b := by rw [← h, h1]; rfl
    clear h h1
    go_enter Try.func83, Try.ntmps83
    go_wp2_with fail
    go_ret
    exact ⟨rfl, rfl⟩
  · have d1 : ((c.toNat : Int) == 32) = false := by simp; omega
    have d2 : ((c.toNat : Int) == 9) = b := by
      rw [← h]
      simp only [h1, decide_false, Bool.false_or]
      rw [Bool.eq_iff_iff, beq_iff_eq, decide_eq_true_eq]
      omega
    clear h h1
    go_enter Try.func83, Try.ntmps83
    go_wp2_with fail
    go_ret
    exact ⟨rfl, rfl⟩
set_option maxRecDepth 100000 in
/-- ref.Same. -/
theorem rsame7 (s u : ByteArray) (b : Bool) (w : World) (hs : s.size ≤ 1000000) (hu : u.size ≤ 1000000) (h : decide (lowS s = lowS u) = b) :
    Calls Try.prog 52 #[.string s, .string u] w fun e w' => e = .returned (.bool b) ∧ Below w.heap.size w w' := by
  obtain ⟨t1, h1⟩ : ∃ t1, lowS s = t1 := ⟨_, rfl⟩
  obtain ⟨t2, h2⟩ : ∃ t2, lowS u = t2 := ⟨_, rfl⟩
  rw [h1, h2, ← seq_b7] at h
  have H1 := Lib.hid h1
  have H2 := Lib.hid h2
  have HS := Lib.hid hs
  have HU := Lib.hid hu
  clear h1 h2 hs hu
  go_enter Try.func52, Try.ntmps52
  go_wp2_with (first
    | (go_at_call 50; (with_reducible refine (rlower7 s t1 w HS.out H1.out).mono ?_); rintro e w1 ⟨rfl, hb1⟩)
    | (go_at_call 50; (with_reducible refine (rlower7 u t2 w1 HU.out H2.out).mono ?_); rintro e w2 ⟨rfl, hb2⟩)
    | fail)
  go_ret
  exact ⟨rfl, stp hb1 hb2⟩
end Hx
end Go.Proofs.Ytfdhogaknlabkaa
namespace Go.Proofs.Ytfdhogaknlabkaa
open Go.RowKit
namespace Hx

/-- An array's value. -/
def aggOf {α : Type} (enc : α → Value) (l : List α) : Value := .agg (l.map enc).toArray

section
variable {α : Type} {enc : α → Value} {P : Program} {t e n : Nat} {k0 : IntKind} {i0 : TypeInfo}

theorem run_isAgg_int (he : P.underlying e = some (.int k0)) (w : World) : (isAgg e).run P w = .ok false w := by
  simp [isAgg, run_underlying he]
theorem run_sizeOf_one (hi : P.info? e = some i0) (hs : i0.size = 1) (w : World) : (sizeOf e).run P w = .ok 1 w := by simp [sizeOf, typeInfo, hi, hs]
theorem run_part_int (he : P.underlying e = some (.int k0)) (l : List α) (j : Nat) (hj : j < l.length) (w : World) : (part e (l.map enc).toArray j).run P w = .ok (enc (l[j]'hj)) w := by
  simp [part, run_isAgg_int he, Sem.run_bind, hj]
/-- x[j] of an array by value. -/
theorem run_index_agg (ht : P.underlying t = some (.array n e)) (he : P.underlying e = some (.int k0)) (hi : P.info? e = some i0) (hs : i0.size = 1) (l : List α) (hl : l.length = n) (k : IntKind) (j : Nat) (hj : j < l.length) (w : World) :
    (Instr.index t (.agg (l.map enc).toArray) (.int k (j : Int))).run P w = .ok (enc (l[j]'hj)) w := by
  have h1 : (0 : Int) ≤ (j : Int) ∧ (j : Int) < (n : Int) := by omega
  simp only [Instr.index, asIntOf, Sem.run_bind, Sem.run_pure, Result.andThen_ok, run_underlying ht, Sem.run_ite, if_pos h1, run_sizeOf_one hi hs, Int.toNat_natCast, Nat.mul_one]
  exact run_part_int he l j hj w
theorem run_equal_agg (ht : P.underlying t = some (.array n e)) (he : P.underlying e = some (.int k0)) (hi : P.info? e = some i0) (hs : i0.size = 1) (henc : ∀ x, ∃ v, enc x = .int k0 v) (l : List α) (hl : l.length = n) (w : World) :
    (Op.equal t (.agg (l.map enc).toArray) (.agg (l.map enc).toArray)).run P w = .ok true w := by
  show (Op.equalIn 10000 t (.agg (l.map enc).toArray) (.agg (l.map enc).toArray)).run P w = .ok true w
  have step : ∀ j, j < n → (do
      let a ← part e (l.map enc).toArray (j * 1)
      let b ← part e (l.map enc).toArray (j * 1)
      Op.equalIn 9999 e a b : Sem Bool).run P w = .ok true w := by
    intro j hj
    obtain ⟨v, hv⟩ := henc (l[j]'(by omega))
    rw [Nat.mul_one]
    simp only [Sem.run_bind, run_part_int he l j (by omega), Result.andThen_ok, hv]
    rw [run_equalIn_int w 9998 e k0 k0 v v he]
    simp
  unfold Op.equalIn
  simp only [Sem.run_bind, run_underlying ht, Result.andThen_ok, run_sizeOf_one hi hs]
  rw [Std.Legacy.Range.forIn_eq_forIn_range']
  have key : ∀ js : List Nat, (∀ j ∈ js, j < n) → Sem.run P (forIn js ((none : Option Bool), ()) fun i __s => do
            let __do_lift ← part e (List.map enc l).toArray (i * 1)
            let __do_lift_1 ← part e (List.map enc l).toArray (i * 1)
            let __do_lift ← Op.equalIn 9999 e __do_lift __do_lift_1
            if (!__do_lift) = true then pure (ForInStep.done (some false, ())) else pure (ForInStep.yield (none, ()))) w = .ok (none, ()) w := by
    intro js
    induction js with
    | nil => intro _; rfl
    | cons j js ih =>
      intro h
      have hj := h j (List.mem_cons_self ..)
      have hs' := step j hj
      obtain ⟨v, hv⟩ := henc (l[j]'(by omega))
      simp only [List.forIn_cons, Sem.run_bind, Nat.mul_one, run_part_int he l j (by omega), Result.andThen_ok, hv]
      rw [run_equalIn_int w 9998 e k0 k0 v v he]
      simp only [beq_self_eq_true, Bool.not_true, Result.andThen_ok, Bool.false_eq_true, if_false, Sem.run_pure]
      have := ih (fun i hi => h i (List.mem_cons_of_mem _ hi))
      simp only [Nat.mul_one] at this
      exact this
  rw [key _ (fun j hj => by simpa using hj)]
  rfl
theorem run_eql_agg (ht : P.underlying t = some (.array n e)) (he : P.underlying e = some (.int k0)) (hi : P.info? e = some i0) (hs : i0.size = 1) (henc : ∀ x, ∃ v, enc x = .int k0 v) (l : List α) (hl : l.length = n) (w : World) :
    (binOp .eql t (.agg (l.map enc).toArray) (.agg (l.map enc).toArray)).run P w = .ok (.bool true) w := by
  simp only [binOp, Sem.run_bind, run_equal_agg ht he hi hs henc l hl w, Result.andThen_ok, Sem.run_pure]

/-! A variable that holds an array: its block, whole. -/
def Blk (enc : α → Value) (w : World) (B : Nat) (t : TypeId) (l : List α) : Prop := w.heap[B]? = some (.cells (l.map enc).toArray t (0, 0))
theorem Blk.new (w : World) (t : TypeId) (l : List α) : Blk enc (w.alloc (.cells (l.map enc).toArray t)) w.heap.size t l := heap_alloc_new w _
theorem Blk.lt {w : World} {B : Nat} {l : List α} (h : Blk enc w B t l) : B < w.heap.size := (Array.getElem?_eq_some_iff.1 h).1
theorem Blk.below {w w' : World} {B : Nat} {l : List α} (h : Blk enc w B t l) (hb : Below w.heap.size w w') : Blk enc w' B t l := (hb.block B h.lt).trans h
theorem Blk.cell {w : World} {B : Nat} {l : List α} (h : Blk enc w B t l) (j : Nat) (hj : j < l.length) : w.cell? ⟨B, j, none⟩ = some (enc (l[j]'hj)) := by
  rw [cell_of_row w B j _ t (0, 0) h]
  simp [hj]
theorem Blk.free {w : World} {B : Nat} {l : List α} (h : Blk enc w B t l) (j : Nat) : w.frozen? ⟨B, j, none⟩ = false := frozen_of_row w B j _ t h
theorem Blk.put {w : World} {B : Nat} {l : List α} (h : Blk enc w B t l) (j : Nat) (x : α) : Blk enc (w.setCell ⟨B, j, none⟩ (enc x)) B t (l.set j x) := by
  unfold Blk
  rw [heap_setCell_same w B j _ t _ h]
  simp [List.map_set]
theorem Blk.other {w : World} {B : Nat} {l : List α} (h : Blk enc w B t l) (a : Addr) (v : Value) (ha : B ≠ a.block) : Blk enc (w.setCell a v) B t l := (heap_setCell_other w a B v ha).trans h
/-- Its slice x[:] reads as the list. -/
theorem Blk.slice {w : World} {B : Nat} {l : List α} (h : Blk enc w B t l) : RdG enc w w.heap.size (some ⟨B, 0, none⟩) l := fun _ => ⟨B, 0, rfl, h.lt, fun j hj => by rw [Nat.zero_add]; exact h.cell j hj⟩
/-- It is loaded whole. -/
theorem Blk.load {w : World} {B : Nat} {l : List α} (h : Blk enc w B e l) (ht : P.underlying t = some (.array n e)) (hn : (P.info? t).map (·.size) = some l.length) : (loadVar t ⟨B, 0, none⟩).run P w = .ok (aggOf enc l) w :=
  run_loadVar_row w B e t _ (0, 0) (.array n e) h ht rfl (by simpa using hn)
end
end Hx
end Go.Proofs.Ytfdhogaknlabkaa
namespace Go.Proofs.Ytfdhogaknlabkaa
open Go.RowKit
namespace Hx
open As
set_option linter.unusedVariables false
/-- What a byte is: 1 a blank, 2 of plain texts, 3 a great letter, 4 of tokens, 0 none of these. -/
def kindOf (c : UInt8) : UInt8 := if blk c = true then 1 else if tokb c = true then (if 65 ≤ c.toNat ∧ c.toNat ≤ 90 then 3 else 4) else if plb c = true then 2 else 0
def kd : List UInt8 := (List.range 256).map fun n => kindOf (UInt8.ofNat n)
theorem kd_length : kd.length = 256 := by simp [kd]
theorem kd_get (c : UInt8) (h : c.toNat < kd.length) : kd[c.toNat]'h = kindOf c := by
  simp [kd]
theorem kind_blank (c : UInt8) : decide (kindOf c = 1) = blk c := u8_all (fun c => decide (kindOf c = 1) = blk c) (by decide +kernel) c
theorem kind_great (c : UInt8) : decide (kindOf c = 3) = (decide (65 ≤ c.toNat) && decide (c.toNat ≤ 90)) := u8_all (fun c => decide (kindOf c = 3) = (decide (65 ≤ c.toNat) && decide (c.toNat ≤ 90))) (by decide +kernel) c
theorem kind_tok (c : UInt8) : decide ((kindOf c).toNat < 3) = !tokb c := u8_all (fun c => decide ((kindOf c).toNat < 3) = !tokb c) (by decide +kernel) c
theorem kind_plain (c : UInt8) : decide ((kindOf c).toNat < 1) = !plb c := u8_all (fun c => decide ((kindOf c).toNat < 1) = !plb c) (by decide +kernel) c
def encK (c : UInt8) : Value := .int .u8 (c.toNat : Int)
theorem encK_one (x : UInt8) : (encK x).oneCell' = true := rfl
theorem foldl_take {α β : Type} (f : β → α → β) (b : β) {ss : List α} {k : Nat} {x : α} (h : ss[k]? = some x) : (ss.take (k + 1)).foldl f b = f ((ss.take k).foldl f b) x := by
  obtain ⟨hk, e⟩ := List.getElem?_eq_some_iff.1 h
  rw [List.take_succ_eq_append_getElem hk, List.foldl_append, e]
  rfl
theorem foldl_len {α : Type} (f : List UInt8 → α → List UInt8) (hf : ∀ l x, (f l x).length = l.length) (ss : List α) : ∀ l, (ss.foldl f l).length = l.length := by
  induction ss with
  | nil => intro l; rfl
  | cons x ss ih => intro l; rw [List.foldl_cons, ih, hf]
def z256 : List UInt8 := List.replicate 256 0
def p1 (l : List UInt8) (i : Nat) : List UInt8 := l.set (i + 32) 2
def p2 (l : List UInt8) (c : UInt8) : List UInt8 := l.set c.toNat 1
def p3 (l : List UInt8) (c : UInt8) : List UInt8 := l.set c.toNat 4
def p4 (l : List UInt8) (i : Nat) : List UInt8 := (l.set (i + 97) 4).set (i + 65) 3
def m3 : List UInt8 := [33, 35, 36, 37, 38, 39, 42, 43, 45, 46, 94, 95, 96, 124, 126, 48, 49, 50, 51, 52, 53, 54, 55, 56, 57]
theorem kd_made : (List.range 26).foldl p4 (m3.foldl p3 (([32, 9] : List UInt8).foldl p2 (((List.range 224).foldl p1 z256).set 127 0))) = kd := by decide +kernel
def zero256 : Array Value := (z256.map encK).toArray
theorem size256 : (Try.prog.info? 108).map (·.size) = some 256 := by kernel_rfl
theorem zero_256 : ∀ w, (zeroValue 108).run Try.prog w = .ok (.agg zero256) w := (zero_of_info (n := 256) (by kernel_rfl)).1
theorem Blk.iterAt {α : Type} {enc : α → Value} {w : World} {B t k : Nat} {l : List α} (h : Blk enc w B t l) (hk : B ≠ k) (s : ByteArray) (pos : Nat) : Blk enc (w.iterAt k s pos) B t l := (Lib.iterAt_other w k B s pos hk).trans h
theorem Blk.alloc {α : Type} {enc : α → Value} {w : World} {B t : Nat} {l : List α} (h : Blk enc w B t l) (o : Obj) : Blk enc (w.alloc o) B t l := h.below (stpA (Below.refl _ _) o)

/-- A store of a byte's kind into the array. -/
theorem blk_cell {w : World} {B t : Nat} {l : List UInt8} (h : Blk encK w B t l) (j : Nat) (hj : j < l.length) : ∃ v : Int, w.cell? ⟨B, j, none⟩ = some (.int .u8 v) ∧ w.frozen? ⟨B, j, none⟩ = false := ⟨_, h.cell j hj, h.free j⟩
/-- A step of a range over a constant text of bytes below 128. -/
theorem next_lit {P : Program} (w : World) (k : Nat) (s : ByteArray) (L : List UInt8) (hL : s.data.toList = L) (ha : ∀ c ∈ L, c.toNat < 128) (pos : Nat) (hk : w.heap[k]? = some (.stringIter s pos)) (h : pos < L.length) :
    ∃ c, L[pos]? = some c ∧ c.toNat < 128 ∧ ∀ ty, (Instr.next (.pointer (some ⟨k, 0, none⟩)) true ty).run P w = .ok (.tuple #[.bool true, .int .i64 pos, .int .i32 c.toNat]) (w.iterAt k s (pos + 1)) := by
  have hs : pos < s.size := by rw [← ba_len7, hL]; exact h
  have e : s[pos]'hs = L[pos]'h := by simp only [← hL]; rfl
  refine ⟨L[pos]'h, List.getElem?_eq_getElem h, ha _ (List.getElem_mem h), fun ty => ?_⟩
  rw [Lib.run_next_ascii_at w k s pos ty hk hs (by rw [e]; exact ha _ (List.getElem_mem h)), e]

/-- The memory of kinds' two arrays while it runs. -/
def KI (w wr : World) (l : List UInt8) : Prop := Blk encK wr (w.heap.size + 1) 108 l ∧ wr.heap[w.heap.size]? = some (.cells zero256 108 (0, 0)) ∧ Below w.heap.size w wr ∧ w.heap.size + 1 + 1 ≤ wr.heap.size
theorem KI.new (w : World) : KI w ((w.alloc (.cells zero256 108)).alloc (.cells zero256 108)) z256 := by
  refine ⟨?_, ?_, stpA (stpA (Below.refl _ _) _) _, by simp⟩
  · have := heap_alloc_new (w.alloc (.cells zero256 108)) (.cells zero256 108)
    rw [World.size_alloc] at this
    exact this
  · exact (Below.heap_alloc (w.alloc (.cells zero256 108)) _ _ (by simp)).trans (heap_alloc_new w _)
theorem KI.put {w wr : World} {l : List UInt8} (h : KI w wr l) (j : Nat) (v : UInt8) : KI w (wr.setCell ⟨w.heap.size + 1, j, none⟩ (encK v)) (l.set j v) :=
  ⟨h.1.put j v, (heap_setCell_other _ _ _ _ (by simp)).trans h.2.1, h.2.2.1.setCell (by simp) _, by simpa using h.2.2.2⟩
theorem KI.alloc {w wr : World} {l : List UInt8} (h : KI w wr l) (o : Obj) : KI w (wr.alloc o) l :=
  ⟨h.1.alloc o, (Below.heap_alloc wr o _ (by have := h.2.2.2; omega)).trans h.2.1, stpA h.2.2.1 o, by rw [World.size_alloc]; have := h.2.2.2; omega⟩
theorem KI.iterAt {w wr : World} {l : List UInt8} {k : Nat} (h : KI w wr l) (hk : w.heap.size + 1 + 1 ≤ k) (s : ByteArray) (pos : Nat) : KI w (wr.iterAt k s pos) l :=
  ⟨h.1.iterAt (by omega) s pos, (Lib.iterAt_other wr k _ s pos (by omega)).trans h.2.1, Lib.below_iterAt h.2.2.1 (by omega) s pos, by rw [Lib.iterAt_size]; exact h.2.2.2⟩
theorem KI.at {w wr : World} {l : List UInt8} (h : KI w wr l) (hl : l.length = 256) (j : Nat) (hj : j < 256) : ∃ v : Int, wr.cell? ⟨w.heap.size + 1, j, none⟩ = some (.int .u8 v) ∧ wr.frozen? ⟨w.heap.size + 1, j, none⟩ = false :=
  blk_cell h.1 j (by omega)
theorem below_setRow7 {B g : Nat} {w0 w : World} (hb : Below B w0 w) (hBg : B ≤ g) (cs : Array Value) : Below B w0 (w.setRow g cs) :=
  hb.trans ⟨rfl, rfl, rfl, by simp [World.setRow], fun k hk => setRow_other w g k cs (by omega)⟩
theorem p1_len (l : List UInt8) (i : Nat) : (p1 l i).length = l.length := by simp [p1]
theorem p2_len (l : List UInt8) (c : UInt8) : (p2 l c).length = l.length := by simp [p2]
theorem p3_len (l : List UInt8) (c : UInt8) : (p3 l c).length = l.length := by simp [p3]
theorem p4_len (l : List UInt8) (i : Nat) : (p4 l i).length = l.length := by simp [p4]
theorem range_at {n k : Nat} (h : k < n) : (List.range n)[k]? = some k := by simp [h]
set_option maxHeartbeats 8000000 in
set_option maxRecDepth 100000 in
theorem kinds7 (O : Array Value) (w : World) (hO : (kd.map encK).toArray = O) : Calls Try.prog 75 #[] w fun e w' => e = .returned (.agg O) ∧ Below w.heap.size w w' := by
  have hz := zero_256
  have HO := Lib.hid hO
  clear hO
  have K0 := Lib.hid (KI.new w)
  obtain ⟨R0, hR0⟩ : ∃ R, z256 = R := ⟨_, rfl⟩
  obtain ⟨R1, hR1⟩ : ∃ R, ((List.range 224).foldl p1 R0).set 127 0 = R := ⟨_, rfl⟩
  obtain ⟨R2, hR2⟩ : ∃ R, ([32, 9] : List UInt8).foldl p2 R1 = R := ⟨_, rfl⟩
  obtain ⟨R3, hR3⟩ : ∃ R, m3.foldl p3 R2 = R := ⟨_, rfl⟩
  have l0 : R0.length = 256 := by rw [← hR0]; rfl
  have l1 : R1.length = 256 := by rw [← hR1, List.length_set, foldl_len p1 p1_len, l0]
  have l2 : R2.length = 256 := by rw [← hR2, foldl_len p2 p2_len, l1]
  have l3 : R3.length = 256 := by rw [← hR3, foldl_len p3 p3_len, l2]
  have hK : (List.range 26).foldl p4 R3 = kd := by rw [← hR3, ← hR2, ← hR1, ← hR0]; exact kd_made
  rw [hR0] at K0
  have L0 := Lib.hid l0; have L1 := Lib.hid l1; have L2 := Lib.hid l2; have L3 := Lib.hid l3
  have HR1 := Lib.hid hR1; have HR2 := Lib.hid hR2; have HR3 := Lib.hid hR3; have HK := Lib.hid hK
  clear hR0 hR1 hR2 hR3 l0 l1 l2 l3 hK
  go_enter Try.func75, Try.ntmps75
  go_wp2_with fail
  go_loopg [2] 224 (fun gg i wr => ∃ k : Nat, k + gg = 224 ∧ i = .int .i32 ((k + 32 : Nat) : Int) ∧ KI w wr (((List.range 224).take k).foldl p1 R0))
  case atStart => exact ⟨0, by omega, rfl, K0.out⟩
  case round =>
    obtain ⟨k, hk, rfl, hki⟩ := hrel
    have HKI := Lib.hid hki
    clear hki
    by_cases hlt : k < 224
    · obtain ⟨v, c1, c2⟩ := HKI.out.at (by rw [foldl_len p1 p1_len, L0.out]) (k + 32) (by omega)
      have HN : Hid (KI w (wr.setCell ⟨w.heap.size + 1, k + 32, none⟩ (.int .u8 2)) (((List.range 224).take (k + 1)).foldl p1 R0)) := by
        show KI _ _ _
        rw [foldl_take p1 R0 (range_at hlt)]
        exact HKI.out.put (k + 32) 2
      have b0 : ((k + 32 : Nat) : Int) ≤ 255 := by omega
      have b1 : (0 : Int) ≤ ((k + 32 : Nat) : Int) ∧ ((k + 32 : Nat) : Int) < 256 := by omega
      obtain ⟨m, hm⟩ : ∃ m, k + 32 = m := ⟨_, rfl⟩
      rw [hm] at c1 c2 b0 b1 HN ⊢
      have s1 : IntKind.i32.wrap ((m : Int) + 1) = ((m + 1 : Nat) : Int) := by rw [IntWalk.i32_in _ (by omega)]; omega
      have HM := Lib.hid hm
      clear hm
      go_wp2_with fail
      go_roundg (gk - 1)
      case rel => exact ⟨k + 1, by omega, by rw [← HM.out, show k + 1 + 32 = k + 32 + 1 by omega]; go_num, HN.out⟩
      case measure => omega
    · obtain rfl : k = 224 := by omega
      obtain ⟨v, c1, c2⟩ := HKI.out.at (by rw [foldl_len p1 p1_len, L0.out]) 127 (by decide)
      have HK2 : Hid (KI w (wr.setCell ⟨w.heap.size + 1, 127, none⟩ (.int .u8 0)) R1) := by show KI _ _ _; rw [← HR1.out]; exact HKI.out.put 127 0
      obtain ⟨W2, hW2⟩ : ∃ W2, wr.setCell ⟨w.heap.size + 1, 127, none⟩ (.int .u8 0) = W2 := ⟨_, rfl⟩
      rw [hW2] at HK2
      have HW2 := Lib.hid hW2
      have HSZ : Hid (wr.heap.size = W2.heap.size) := by show _ = _; rw [← hW2]; simp
      clear hW2
      go_wp2_with fail
      rw [HW2.out, HSZ.out]
      have HB0 := Lib.hid (HK2.out.2.2.2)
      have HKi2 : Hid (KI w (W2.iter ⟨#[32, 9]⟩ 0) R1) := Lib.hid (HK2.out.alloc _)
      have hit2 := World.iter_heap W2 ⟨#[32, 9]⟩ 0
      obtain ⟨B2, hB2⟩ : ∃ B, W2.heap.size = B := ⟨_, rfl⟩
      have hsB2 : w.heap.size + 1 + 1 ≤ B2 := by rw [← hB2]; exact HB0.out
      rw [hB2] at hit2
      rw [hB2]
      have HIT2 := Lib.hid hit2
      clear hit2 hB2 HB0
      go_loopg [] 2 (fun gg wr => ∃ k : Nat, k + gg = 2 ∧ wr.heap[B2]? = some (.stringIter ⟨#[32, 9]⟩ k) ∧ KI w wr ((([32, 9] : List UInt8).take k).foldl p2 R1))
      case atStart => exact ⟨0, by omega, HIT2.out, HKi2.out⟩
      case round =>
        obtain ⟨k, hk, hit, hki⟩ := hrel
        have HKI := Lib.hid hki
        have HIT := Lib.hid hit
        clear hki hit
        by_cases hlt : k < 2
        · obtain ⟨c, hc, hasc, hnx⟩ := next_lit (P := Try.prog) wr B2 ⟨#[32, 9]⟩ [32, 9] rfl (by decide) k HIT.out hlt
          have HK2 := HKI.out.iterAt hsB2 ⟨#[32, 9]⟩ (k + 1)
          have hit2 := Lib.iterAt_heap wr B2 ⟨#[32, 9]⟩ k (k + 1) HIT.out
          obtain ⟨W, hW⟩ : ∃ W, wr.iterAt B2 ⟨#[32, 9]⟩ (k + 1) = W := ⟨_, rfl⟩
          rw [hW] at hnx HK2 hit2
          obtain ⟨v, c1, c2⟩ := HK2.at (by rw [foldl_len p2 p2_len, L1.out]) c.toNat (by omega)
          have HN : Hid (KI w (W.setCell ⟨w.heap.size + 1, c.toNat, none⟩ (.int .u8 1)) ((([32, 9] : List UInt8).take (k + 1)).foldl p2 R1)) := by
            show KI _ _ _
            rw [foldl_take p2 R1 hc]
            exact HK2.put c.toNat 1
          have HI2 : Hid ((W.setCell ⟨w.heap.size + 1, c.toNat, none⟩ (.int .u8 1)).heap[B2]? = some (.stringIter ⟨#[32, 9]⟩ (k + 1))) := by
            show _ = _
            rw [heap_setCell_other _ _ _ _ (show B2 ≠ w.heap.size + 1 by omega)]
            exact hit2
          have b1 : (0 : Int) ≤ (c.toNat : Int) ∧ (c.toNat : Int) < 256 := by omega
          clear hW HK2 hit2 hc hasc
          go_wp2_with fail
          go_roundg (gk - 1)
          case rel => exact ⟨k + 1, by omega, HI2.out, HN.out⟩
          case measure => omega
        · obtain rfl : k = 2 := by omega
          have hnx : ∀ ty, (Instr.next (.pointer (some ⟨B2, 0, none⟩)) true ty).run Try.prog wr = _ := fun ty => Lib.run_next_end_at wr B2 ⟨#[32, 9]⟩ 2 ty HIT.out (by decide)
          have HK3 : Hid (KI w wr R2) := by show KI _ _ _; rw [← HR2.out]; exact HKI.out
          clear HKI HIT
          obtain ⟨W3, hW3⟩ : ∃ W3, wr = W3 := ⟨_, rfl⟩
          rw [hW3] at HK3 hnx
          rw [hW3]
          clear hW3
          go_wp2_with fail
          have HB0 := Lib.hid (HK3.out.2.2.2)
          have HKi3 : Hid (KI w (W3.iter ⟨#[33, 35, 36, 37, 38, 39, 42, 43, 45, 46, 94, 95, 96, 124, 126, 48, 49, 50, 51, 52, 53, 54, 55, 56, 57]⟩ 0) R2) := Lib.hid (HK3.out.alloc _)
          have hit3 := World.iter_heap W3 ⟨#[33, 35, 36, 37, 38, 39, 42, 43, 45, 46, 94, 95, 96, 124, 126, 48, 49, 50, 51, 52, 53, 54, 55, 56, 57]⟩ 0
          obtain ⟨B3, hB3⟩ : ∃ B, W3.heap.size = B := ⟨_, rfl⟩
          have hsB3 : w.heap.size + 1 + 1 ≤ B3 := by rw [← hB3]; exact HB0.out
          rw [hB3] at hit3
          rw [hB3]
          have HIT3 := Lib.hid hit3
          clear hit3 hB3 HB0
          go_loopg [] 25 (fun gg wr => ∃ k : Nat, k + gg = 25 ∧ wr.heap[B3]? = some (.stringIter ⟨#[33, 35, 36, 37, 38, 39, 42, 43, 45, 46, 94, 95, 96, 124, 126, 48, 49, 50, 51, 52, 53, 54, 55, 56, 57]⟩ k) ∧ KI w wr (((m3 : List UInt8).take k).foldl p3 R2))
          case atStart => exact ⟨0, by omega, HIT3.out, HKi3.out⟩
          case round =>
            obtain ⟨k, hk, hit, hki⟩ := hrel
            have HKI := Lib.hid hki
            have HIT := Lib.hid hit
            clear hki hit
            by_cases hlt : k < 25
            · obtain ⟨c, hc, hasc, hnx⟩ := next_lit (P := Try.prog) wr B3 ⟨#[33, 35, 36, 37, 38, 39, 42, 43, 45, 46, 94, 95, 96, 124, 126, 48, 49, 50, 51, 52, 53, 54, 55, 56, 57]⟩ m3 rfl (by decide) k HIT.out hlt
              have HK2 := HKI.out.iterAt hsB3 ⟨#[33, 35, 36, 37, 38, 39, 42, 43, 45, 46, 94, 95, 96, 124, 126, 48, 49, 50, 51, 52, 53, 54, 55, 56, 57]⟩ (k + 1)
              have hit2 := Lib.iterAt_heap wr B3 ⟨#[33, 35, 36, 37, 38, 39, 42, 43, 45, 46, 94, 95, 96, 124, 126, 48, 49, 50, 51, 52, 53, 54, 55, 56, 57]⟩ k (k + 1) HIT.out
              obtain ⟨W, hW⟩ : ∃ W, wr.iterAt B3 ⟨#[33, 35, 36, 37, 38, 39, 42, 43, 45, 46, 94, 95, 96, 124, 126, 48, 49, 50, 51, 52, 53, 54, 55, 56, 57]⟩ (k + 1) = W := ⟨_, rfl⟩
              rw [hW] at hnx HK2 hit2
              obtain ⟨v, c1, c2⟩ := HK2.at (by rw [foldl_len p3 p3_len, L2.out]) c.toNat (by omega)
              have HN : Hid (KI w (W.setCell ⟨w.heap.size + 1, c.toNat, none⟩ (.int .u8 4)) (((m3 : List UInt8).take (k + 1)).foldl p3 R2)) := by
                show KI _ _ _
                rw [foldl_take p3 R2 hc]
                exact HK2.put c.toNat 4
              have HI2 : Hid ((W.setCell ⟨w.heap.size + 1, c.toNat, none⟩ (.int .u8 4)).heap[B3]? = some (.stringIter ⟨#[33, 35, 36, 37, 38, 39, 42, 43, 45, 46, 94, 95, 96, 124, 126, 48, 49, 50, 51, 52, 53, 54, 55, 56, 57]⟩ (k + 1))) := by
                show _ = _
                rw [heap_setCell_other _ _ _ _ (show B3 ≠ w.heap.size + 1 by omega)]
                exact hit2
              have b1 : (0 : Int) ≤ (c.toNat : Int) ∧ (c.toNat : Int) < 256 := by omega
              clear hW HK2 hit2 hc hasc
              go_wp2_with fail
              go_roundg (gk - 1)
              case rel => exact ⟨k + 1, by omega, HI2.out, HN.out⟩
              case measure => omega
            · obtain rfl : k = 25 := by omega
              have hnx : ∀ ty, (Instr.next (.pointer (some ⟨B3, 0, none⟩)) true ty).run Try.prog wr = _ := fun ty => Lib.run_next_end_at wr B3 ⟨#[33, 35, 36, 37, 38, 39, 42, 43, 45, 46, 94, 95, 96, 124, 126, 48, 49, 50, 51, 52, 53, 54, 55, 56, 57]⟩ 25 ty HIT.out (by decide)
              have HK4 : Hid (KI w wr R3) := by show KI _ _ _; rw [← HR3.out]; exact HKI.out
              clear HKI HIT
              go_wp2_with fail
              go_loopg [7] 26 (fun gg i wr => ∃ k : Nat, k + gg = 26 ∧ i = .int .i32 ((k + 97 : Nat) : Int) ∧ KI w wr (((List.range 26).take k).foldl p4 R3))
              case atStart => exact ⟨0, by omega, rfl, HK4.out⟩
              case round =>
                obtain ⟨k, hk, rfl, hki⟩ := hrel
                have HKI := Lib.hid hki
                clear hki
                by_cases hlt : k < 26
                · have hlen : (((List.range 26).take k).foldl p4 R3).length = 256 := by rw [foldl_len p4 p4_len, L3.out]
                  obtain ⟨v, c1, c2⟩ := HKI.out.at hlen (k + 97) (by omega)
                  have HN1 : KI w (wr.setCell ⟨w.heap.size + 1, k + 97, none⟩ (.int .u8 4)) _ := HKI.out.put (k + 97) 4
                  obtain ⟨v2, d1, d2⟩ := HN1.at (by rw [List.length_set]; exact hlen) (k + 65) (by omega)
                  have HN : Hid (KI w ((wr.setCell ⟨w.heap.size + 1, k + 97, none⟩ (.int .u8 4)).setCell ⟨w.heap.size + 1, k + 65, none⟩ (.int .u8 3)) (((List.range 26).take (k + 1)).foldl p4 R3)) := by
                    show KI _ _ _
                    rw [foldl_take p4 R3 (range_at hlt)]
                    exact HN1.put (k + 65) 3
                  obtain ⟨m, hm⟩ : ∃ m, k + 97 = m := ⟨_, rfl⟩
                  obtain ⟨q, hq⟩ : ∃ q, k + 65 = q := ⟨_, rfl⟩
                  rw [hm] at c1 c2 d1 d2 HN ⊢
                  rw [hq] at d1 d2 HN
                  have b0 : (m : Int) ≤ 122 := by omega
                  have b1 : (0 : Int) ≤ (m : Int) ∧ (m : Int) < 256 := by omega
                  have b2 : (0 : Int) ≤ (q : Int) ∧ (q : Int) < 256 := by omega
                  have s1 : IntKind.i32.wrap ((m : Int) + 1) = ((m + 1 : Nat) : Int) := by rw [IntWalk.i32_in _ (by omega)]; omega
                  have s2 : IntKind.i32.wrap ((m : Int) - 32) = (q : Int) := by rw [IntWalk.i32_in _ (by omega)]; omega
                  have HM := Lib.hid hm
                  clear hm hq HN1 hlen
                  go_wp2_with fail
                  go_roundg (gk - 1)
                  case rel => exact ⟨k + 1, by omega, by rw [← HM.out, show k + 1 + 97 = k + 97 + 1 by omega]; go_num, HN.out⟩
                  case measure => omega
                · obtain rfl : k = 26 := by omega
                  have hOs : O.size = 256 := by rw [← HO.out]; simp [kd_length]
                  have hOc : O.all (·.oneCell') = true := by rw [← HO.out]; simp [encK_one]
                  have hrow : wr.heap[w.heap.size + 1]? = some (.cells O 108 (0, 0)) := by
                    rw [← HO.out, ← HK.out]
                    exact HKI.out.1
                  have hz0 := HKI.out.2.1
                  have hbw := HKI.out.2.2.1
                  have HR := Lib.hid hrow
                  have HZ0 := Lib.hid hz0
                  have HBW := Lib.hid hbw
                  have HOS := Lib.hid hOs
                  have HOC := Lib.hid hOc
                  clear hrow hz0 hbw hOs hOc HKI
                  go_wp2_with (first
                    | (refine wpList_load_row rfl _ _ rfl (w.heap.size + 1) rfl 108 O (0, 0) _ HR.out Try.underlying108 rfl (by rw [size256, HOS.out]) ?_)
                    | (refine wpList_store_row rfl _ _ _ rfl w.heap.size O rfl rfl 108 zero256 HZ0.out (by rw [size256, HOS.out]) (by rw [HOS.out]; rfl) HOC.out ?_)
                    | fail)
                  exact bodyPost_ret (v := .agg O) (results_cell_row rfl _ _ _ _ _ _ _ rfl (setRow_heap _ _ _ _ _ _ HZ0.out) Try.underlying108 rfl (by rw [size256, HOS.out])) rfl ⟨rfl, below_setRow7 HBW.out (by omega) _⟩
end Hx
end Go.Proofs.Ytfdhogaknlabkaa
namespace Go.Proofs.Ytfdhogaknlabkaa
open Go.RowKit
namespace Hx
open As
set_option linter.unusedVariables false
theorem trimL_cons {c : UInt8} {r : List UInt8} (h : blk c = true) : trimL (c :: r) = trimL r := trimL_pre [c] r (by simp [h])
theorem trimL_stop {c : UInt8} {r : List UInt8} (h : blk c = false) : trimL (c :: r) = c :: r := trimL_id _ (fun _ _ e => by cases e; exact h)
theorem trimR_stop {l : List UInt8} (h : l.getLast?.map blk ≠ some true) : trimR l = l := by
  refine trimR_id l (fun c r e => ?_)
  subst e
  rw [List.getLast?_concat] at h
  simpa using h
theorem trimR_last1 {l : List UInt8} {c : UInt8} (hc : l[l.length - 1]? = some c) (h : blk c = true) : trimR l = trimR (l.take (l.length - 1)) := by
  obtain ⟨hk, e⟩ := List.getElem?_eq_some_iff.1 hc
  have hl : l = l.take (l.length - 1) ++ [c] := by
    have := take_next hc
    rw [List.take_of_length_le (by omega)] at this
    exact this
  conv => lhs; rw [hl]
  exact trimR_suf _ [c] (by simp [h])
theorem extract_drop7 (s : ByteArray) (a : Nat) : s.extract a s.size = ⟨(s.data.toList.drop a).toArray⟩ := by
  have := ByteArray.extract_mk s.data.toList a s.size
  rw [← ba_eq7] at this
  rw [this, List.take_of_length_le (by rw [List.length_drop, ba_len7]; omega)]
theorem extract_take7 (s : ByteArray) (n : Nat) : s.extract 0 n = ⟨(s.data.toList.take n).toArray⟩ := by
  have := ByteArray.extract_mk s.data.toList 0 n
  rw [← ba_eq7] at this
  rw [this]
  simp
theorem empty_b (s : ByteArray) : (s.toList == (⟨#[]⟩ : ByteArray).toList) = decide (s.size = 0) := by
  rw [seq_b7]
  refine decide_eq_decide.2 ⟨fun h => by rw [h]; rfl, fun h => ba_ext7 ?_⟩
  have := ba_len7 s
  rw [h] at this
  exact List.eq_nil_of_length_eq_zero this
theorem empty_b2 (s : ByteArray) : (s.toList == []) = decide (s.size = 0) := by
  rw [← empty_b, show (⟨#[]⟩ : ByteArray).toList = [] from by rw [ByteArray.toList_eq]]
set_option maxHeartbeats 4000000 in
set_option maxRecDepth 100000 in
/-- ref.Trim. -/
theorem rtrim7 (s t : ByteArray) (w : World) (hm : s.size ≤ 1000000) (ht : trimS s = t) :
    Calls Try.prog 69 #[.string s] w fun e w' => e = .returned (.string t) ∧ Below w.heap.size w w' := by
  have HM := Lib.hid hm
  have HT : Hid (trimR (trimL s.data.toList) = t.data.toList) := by show _ = _; rw [← ht]; rfl
  clear hm ht
  go_enter Try.func69, Try.ntmps69
  go_wp2_with fail
  go_loopg [0] s.size (fun gg x wr => ∃ u : ByteArray, u.size ≤ gg ∧ x = .string u ∧ w = wr ∧ trimL s.data.toList = trimL u.data.toList ∧ u.size ≤ 1000000)
  case atStart => exact ⟨s, Nat.le_refl _, rfl, rfl, rfl, HM.out⟩
  case round =>
    obtain ⟨u, hgk, rfl, rfl, hl, hu⟩ := hrel
    have HL := Lib.hid hl
    clear hl
    by_cases hu0 : u.size = 0
    · have e1 : (u.toList == (⟨#[]⟩ : ByteArray).toList) = true := by rw [empty_b]; simpa using hu0
      have e2 : (u.toList == []) = true := by rw [empty_b2]; simpa using hu0
      have HE : Hid (t.data.toList = trimR u.data.toList) := by
        show _ = _
        rw [← HT.out, HL.out]
        have : u.data.toList = [] := List.eq_nil_of_length_eq_zero (by rw [ba_len7]; exact hu0)
        rw [this]
        rfl
      go_wp2_with fail
      go_loopg [0] u.size (fun gg x wr => ∃ v : ByteArray, v.size ≤ gg ∧ x = .string v ∧ w = wr ∧ t.data.toList = trimR v.data.toList ∧ v.size ≤ 1000000)
      case atStart => exact ⟨u, Nat.le_refl _, rfl, rfl, HE.out, hu⟩
      case round =>
        obtain ⟨v, hgk2, rfl, rfl, hl2, hv⟩ := hrel
        have HL2 := Lib.hid hl2
        clear hl2
        by_cases hv0 : v.size = 0
        · have e1 : (v.toList == (⟨#[]⟩ : ByteArray).toList) = true := by rw [empty_b]; simpa using hv0
          have e2 : (v.toList == []) = true := by rw [empty_b2]; simpa using hv0
          have hvt : v = t := by
            refine ba_ext7 ?_
            rw [HL2.out, trimR_stop]
            have : v.data.toList = [] := List.eq_nil_of_length_eq_zero (by rw [ba_len7]; exact hv0)
            rw [this]
            simp
          subst hvt
          go_wp2_with fail
          go_ret
          exact ⟨rfl, Below.refl _ _⟩
        · have e1 : (v.toList == (⟨#[]⟩ : ByteArray).toList) = false := by rw [empty_b]; simpa using hv0
          have e2 : (v.toList == []) = false := by rw [empty_b2]; simpa using hv0
          obtain ⟨m, hm1⟩ : ∃ m, v.size - 1 = m := ⟨_, rfl⟩
          have hmlt : m < v.size := by omega
          obtain ⟨d, hd, hdat⟩ := byte_at v m hmlt
          have g1 : IntKind.i64.wrap ((v.size : Int) - 1) = (m : Int) := by rw [IntWalk.i64_in _ (by omega)]; omega
          have b1 : (0 : Int) ≤ (m : Int) ∧ (m : Int) < (v.size : Int) := by omega
          have b2 : (m : Int) ≤ (v.size : Int) := by omega
          have hlen : v.data.toList.length - 1 = m := by rw [ba_len7]; exact hm1
          cases hbd : blk d
          · have HBD := Lib.hid hbd
            have hvt : v = t := by
              refine ba_ext7 ?_
              rw [HL2.out, trimR_stop]
              rw [List.getLast?_eq_getElem?, hlen, hd]
              simp [hbd]
            subst hvt
            clear hm1 hlen hbd hd
            go_wp2_with (first
              | (go_at_call 83; (with_reducible refine (rblank7 d false w HBD.out).mono ?_); rintro e w1 ⟨rfl, rfl⟩)
              | fail)
            go_ret
            exact ⟨rfl, Below.refl _ _⟩
          · have HBD := Lib.hid hbd
            obtain ⟨v2, hv2⟩ : ∃ v2, v.extract 0 m = v2 := ⟨_, rfl⟩
            have hv2l : v2.data.toList = v.data.toList.take m := by rw [← hv2, extract_take7]
            have HV2 : Hid (t.data.toList = trimR v2.data.toList) := by
              show _ = _
              rw [HL2.out, trimR_last1 (by rw [hlen]; exact hd) hbd, hlen, hv2l]
            have hv2s : v2.size = m := by rw [← ba_len7, hv2l, List.length_take, ba_len7]; omega
            have HS2 := Lib.hid hv2s
            clear hlen hbd hd hv2l hv2s hm1
            go_wp2_with (first
              | (go_at_call 83; (with_reducible refine (rblank7 d true w HBD.out).mono ?_); rintro e w1 ⟨rfl, rfl⟩)
              | fail)
            go_roundg (gk - 1)
            case rel => exact ⟨v2, by rw [HS2.out]; omega, rfl, rfl, HV2.out, by rw [HS2.out]; omega⟩
            case measure => omega
    · have e1 : (u.toList == (⟨#[]⟩ : ByteArray).toList) = false := by rw [empty_b]; simpa using hu0
      have e2 : (u.toList == []) = false := by rw [empty_b2]; simpa using hu0
      obtain ⟨c, hc, hat⟩ := byte_at u 0 (by omega)
      have h0lt : 0 < u.size := by omega
      obtain ⟨r, hr⟩ : ∃ r, u.data.toList = c :: r := by
        cases h : u.data.toList with
        | nil => rw [h] at hc; cases hc
        | cons a r => rw [h] at hc; cases hc; exact ⟨r, rfl⟩
      have b0 : (0 : Int) < (u.size : Int) := by omega
      have b9 : (1 : Int) ≤ (u.size : Int) := by omega
      have b8 : 1 ≤ u.size := by omega
      cases hbc : blk c
      · have HBC := Lib.hid hbc
        have HE : Hid (t.data.toList = trimR u.data.toList) := by
          show _ = _
          rw [← HT.out, HL.out, hr, trimL_stop hbc]
        clear hc hr hbc
        go_wp2_with (first
          | (go_at_call 83; (with_reducible refine (rblank7 c false w HBC.out).mono ?_); rintro e w1 ⟨rfl, rfl⟩)
          | fail)
        go_loopg [0] u.size (fun gg x wr => ∃ v : ByteArray, v.size ≤ gg ∧ x = .string v ∧ w = wr ∧ t.data.toList = trimR v.data.toList ∧ v.size ≤ 1000000)
        case atStart => exact ⟨u, Nat.le_refl _, rfl, rfl, HE.out, hu⟩
        case round =>
          obtain ⟨v, hgk2, rfl, rfl, hl2, hv⟩ := hrel
          have HL2 := Lib.hid hl2
          clear hl2
          by_cases hv0 : v.size = 0
          · have e1 : (v.toList == (⟨#[]⟩ : ByteArray).toList) = true := by rw [empty_b]; simpa using hv0
            have e2 : (v.toList == []) = true := by rw [empty_b2]; simpa using hv0
            have hvt : v = t := by
              refine ba_ext7 ?_
              rw [HL2.out, trimR_stop]
              have : v.data.toList = [] := List.eq_nil_of_length_eq_zero (by rw [ba_len7]; exact hv0)
              rw [this]
              simp
            subst hvt
            go_wp2_with fail
            go_ret
            exact ⟨rfl, Below.refl _ _⟩
          · have e1 : (v.toList == (⟨#[]⟩ : ByteArray).toList) = false := by rw [empty_b]; simpa using hv0
            have e2 : (v.toList == []) = false := by rw [empty_b2]; simpa using hv0
            obtain ⟨m, hm1⟩ : ∃ m, v.size - 1 = m := ⟨_, rfl⟩
            have hmlt : m < v.size := by omega
            obtain ⟨d, hd, hdat⟩ := byte_at v m hmlt
            have g1 : IntKind.i64.wrap ((v.size : Int) - 1) = (m : Int) := by rw [IntWalk.i64_in _ (by omega)]; omega
            have b1 : (0 : Int) ≤ (m : Int) ∧ (m : Int) < (v.size : Int) := by omega
            have b2 : (m : Int) ≤ (v.size : Int) := by omega
            have hlen : v.data.toList.length - 1 = m := by rw [ba_len7]; exact hm1
            cases hbd : blk d
            · have HBD := Lib.hid hbd
              have hvt : v = t := by
                refine ba_ext7 ?_
                rw [HL2.out, trimR_stop]
                rw [List.getLast?_eq_getElem?, hlen, hd]
                simp [hbd]
              subst hvt
              clear hm1 hlen hbd hd
              go_wp2_with (first
                | (go_at_call 83; (with_reducible refine (rblank7 d false w HBD.out).mono ?_); rintro e w1 ⟨rfl, rfl⟩)
                | fail)
              go_ret
              exact ⟨rfl, Below.refl _ _⟩
            · have HBD := Lib.hid hbd
              obtain ⟨v2, hv2⟩ : ∃ v2, v.extract 0 m = v2 := ⟨_, rfl⟩
              have hv2l : v2.data.toList = v.data.toList.take m := by rw [← hv2, extract_take7]
              have HV2 : Hid (t.data.toList = trimR v2.data.toList) := by
                show _ = _
                rw [HL2.out, trimR_last1 (by rw [hlen]; exact hd) hbd, hlen, hv2l]
              have hv2s : v2.size = m := by rw [← ba_len7, hv2l, List.length_take, ba_len7]; omega
              have HS2 := Lib.hid hv2s
              clear hlen hbd hd hv2l hv2s hm1
              go_wp2_with (first
                | (go_at_call 83; (with_reducible refine (rblank7 d true w HBD.out).mono ?_); rintro e w1 ⟨rfl, rfl⟩)
                | fail)
              go_roundg (gk - 1)
              case rel => exact ⟨v2, by rw [HS2.out]; omega, rfl, rfl, HV2.out, by rw [HS2.out]; omega⟩
              case measure => omega
      · have HBC := Lib.hid hbc
        obtain ⟨u2, hu2⟩ : ∃ u2, u.extract 1 u.size = u2 := ⟨_, rfl⟩
        have hu2l : u2.data.toList = r := by rw [← hu2, extract_drop7, hr]; rfl
        have HU2 : Hid (trimL s.data.toList = trimL u2.data.toList) := by
          show _ = _
          rw [HL.out, hr, trimL_cons hbc, hu2l]
        have hu2s : u2.size + 1 = u.size := by
          rw [← ba_len7, ← ba_len7, hu2l, hr]
          rfl
        have HS2 := Lib.hid hu2s
        clear hc hr hbc hu2l hu2s
        go_wp2_with (first
          | (go_at_call 83; (with_reducible refine (rblank7 c true w HBC.out).mono ?_); rintro e w1 ⟨rfl, rfl⟩)
          | fail)
        go_roundg (gk - 1)
        case rel => exact ⟨u2, by have := HS2.out; omega, rfl, rfl, HU2.out, by have := HS2.out; omega⟩
        case measure => omega
end Hx
end Go.Proofs.Ytfdhogaknlabkaa
