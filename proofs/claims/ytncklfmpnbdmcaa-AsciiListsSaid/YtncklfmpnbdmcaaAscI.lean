/-
  What ascii.parts yields: a list's parts, without the blanks at both ends, those that are not empty.
-/
import Derived.Test.YtncklfmpnbdmcaaAscC
import Derived.RangeFuncNested
import Derived.RangeFuncBound
import Derived.RangeFuncCalls
import Derived.RangeFuncLeaves
import Derived.Shelf.Abstract
import Derived.Shelf.RegionOpen
import Derived.WalkKit
import Derived.OwnWalkIn
import Derived.TacticsInMore
import Derived.LoopNIn
import Derived.LoopIn
import Derived.RegionIn
import Derived.Outline
import Derived.Sort.LoopGhostIn
namespace Go.Proofs.Ytncklfmpnbdmcaa
open Go.RowKit Go.Shelf
namespace Hx
open As
set_option linter.unusedVariables false
attribute [local go_sem] Oper.semAt_some
/-- A part. -/
abbrev Pt := { p : ByteArray // p.size ≤ 1000000 }
/-- A list's parts as they stand in it. -/
def oneT (p : List UInt8) : List (List UInt8) := if trim p = [] then [] else [trim p]
def cutT (l : List UInt8) : List (List UInt8) := (cut l).flatMap oneT
theorem cutT_low (l : List UInt8) : (cutT l).map lows = parts l := by
  unfold cutT parts
  induction cut l with
  | nil => rfl
  | cons p ps ih =>
    rw [List.flatMap_cons, List.map_append, ih, List.filterMap_cons]
    unfold oneT
    by_cases h : trim p = []
    · rw [if_pos h, part_none h]
      rfl
    · rw [if_neg h, part_some h]
      rfl
theorem parts_any (s : ByteArray) (w : World) :
    Calls Try.prog 24 #[.string s] w fun e w' => e = .returned (.func (.func 31) #[] #[.pointer (some ⟨w.heap.size, 0, none⟩)]) ∧ w' = w.alloc (.cells #[.string s] 9) := by
  have hmf : ∀ (fn : Fn) (first cap : Array Value) (w : World), (Instr.makeFunc fn first cap).run Try.prog w = .ok (.func fn first cap) w := fun _ _ _ _ => rfl
  go_enter Try.func24, Try.ntmps24
  go_wp2
  go_ret
  exact ⟨rfl, rfl⟩
/-- Cut at the first comma, or not. -/
theorem cut_any (r : ByteArray) (hm : r.size ≤ 1000000) : ∃ (p r' : ByteArray) (b : Bool), (∀ w, Calls Try.prog 32 #[.string r, .string ⟨#[44]⟩] w (CutTo p r' b w)) ∧ p.size ≤ r.size ∧ r'.size ≤ r.size ∧ (b = true → r'.size < r.size) ∧
    cutT r.data.toList = oneT p.data.toList ++ (if b = true then cutT r'.data.toList else []) := by
  have hl := ba_len7 r
  rcases comma_cut r.data.toList with ⟨h1, h2⟩ | ⟨i, h1, h2, h3⟩
  · refine ⟨r, ⟨#[]⟩, false, fun w => cut_no r w h1, Nat.le_refl _, Nat.zero_le _, (by simp), ?_⟩
    unfold cutT
    rw [h2]
    simp
  · refine ⟨r.extract 0 i, r.extract (i + 1) r.size, true, fun w => cut_yes r _ _ i (i + 1) r.size w hm h1 (by omega) rfl rfl rfl rfl, by rw [ByteArray.size_extract]; omega, by rw [ByteArray.size_extract]; omega, fun _ => by rw [ByteArray.size_extract]; omega, ?_⟩
    rw [extract_take7, extract_drop7]
    unfold cutT
    rw [h3]
    simp
theorem trimS_size (p : ByteArray) : (trimS p).size ≤ p.size := by
  have := trim_len p.data.toList
  rw [ba_len7] at this
  exact this
theorem oneT_nil {p : ByteArray} (h : (trimS p).size = 0) : oneT p.data.toList = [] := by
  unfold oneT
  rw [if_pos]
  exact List.eq_nil_of_length_eq_zero h
theorem oneT_one {p : ByteArray} (h : (trimS p).size ≠ 0) : oneT p.data.toList = [(trimS p).data.toList] := by
  unfold oneT
  rw [if_neg]
  · rfl
  · intro e
    apply h
    show (trim p.data.toList).length = 0
    rw [e]
    rfl
/-- What a round keeps: all arrays of kinds; nothing goes. -/
def KpT (A B : World) : Prop := A.heap.size ≤ B.heap.size ∧ ∀ (k : Nat) (cs : Array Value) (fz : Nat × Nat), A.heap[k]? = some (.cells cs 41 fz) → B.heap[k]? = some (.cells cs 41 fz)
theorem wpListIn_load_row {F : Fence} {n : Nat} {P : Program} {w : World} {ops : Array Oper} {rest : List Oper} {o : Oper} {a : Act} {Q : Exit → Act → World → Prop} (hgd : o.guard = none) (ty : TypeId) (x : Operand) (ho : o.op = .load ty x)
    (g : Nat) (hx : a.eval x = .pointer (some ⟨g, 0, none⟩)) (t : TypeId) (cs : Array Value) (fr : Nat × Nat) (d : TypeDesc) (hg : w.heap[g]? = some (.cells cs t fr))
    (hu : P.underlying ty = some d) (hd : (match d with | .struct _ | .array _ _ => true | _ => false) = true) (hi : (P.info? ty).map (·.size) = some cs.size)
    (h : wpListIn F n P ops Q rest (a.put o.dst (.agg cs)) w) : wpListIn F n P ops Q (o :: rest) a w := by
  refine wpListIn_plain hgd fun K hK => ?_
  unfold Oper.wpIn
  refine ⟨by simp [Oper.about, ho], ?_⟩
  rw [Oper.semAt_plain F _ _ (by rw [ho]; intro c hc'; cases hc')]
  unfold execOp
  simp only [ho, hx, Instr.loadAt, Instr.sureAddr, Sem.run_bind, Sem.run_pure, Result.andThen_ok, run_loadVar_row w g t ty cs fr d hg hu hd hi]
  exact hK _ _ h
set_option maxHeartbeats 4000000 in
set_option maxRecDepth 100000 in
theorem parts1_in (n : Nat) (hn : 3 ≤ n) (l Bs : Nat) (s : ByteArray) (xs : List Pt) (hm : s.size ≤ 1000000) (hxs : xs.map (fun x => x.1.data.toList) = cutT s.data.toList)
    (J Jx : List Pt → World → Prop) (hJ : ∀ ys W V, J ys W → Below W.heap.size W V → J ys V)
    (hY : ∀ pre x W, J pre W → pre.length < xs.length → YieldAt Fence.wide (n - 1) Try.prog l #[.string x.1] W fun e W' =>
      (e = .returned (.bool true) ∧ J (pre ++ [x]) W' ∧ KpT W W') ∨ (e = .returned (.bool false) ∧ Jx (pre ++ [x]) W'))
    (W : World) (hs : W.cell? ⟨Bs, 0, none⟩ = some (.string s)) (hlt : Bs < W.heap.size) (h0 : J [] W) :
    CallsIn Fence.wide n Try.prog 31 #[.func (.yield l) #[] #[], .pointer (some ⟨Bs, 0, none⟩)] W fun e W' => (∃ v, e = .returned v) ∧
      ((∃ ys, ys = xs ∧ J ys W') ∨ (∃ pre, pre <+: xs ∧ Jx pre W')) := by
  have h1 : 1 ≤ n := by omega
  have h2 : 1 ≤ n - 1 := by omega
  have hz := zero_256
  obtain ⟨O, hO⟩ : ∃ O, (kd.map encK).toArray = O := ⟨_, rfl⟩
  have HO := Lib.hid hO
  have HOS : Hid (O.size = 256) := by show _ = _; rw [← hO]; simp [kd_length]
  have HOC : Hid (O.all (·.oneCell') = true) := by show _ = _; rw [← hO]; simp [encK_one]
  have HM := Lib.hid hm
  have HXS := Lib.hid hxs
  have HJ := Lib.hid hJ
  have HY := Lib.hid hY
  have HJ0 := Lib.hid h0
  have HLT := Lib.hid hlt
  have HS := Lib.hid hs
  clear hO hm hxs hJ hY h0 hs hlt
  refine callsIn_wide.2 ?_
  go_enter Try.func31, Try.ntmps31
  go_wp2_with (first
    | (go_at_call 27; (with_reducible refine (kinds7 O W HO.out).mono ?_); rintro e w1 ⟨rfl, hb1⟩; have HB1 := Lib.hid hb1; clear hb1)
    | (refine wpList_store_row rfl _ _ _ rfl w1.heap.size O rfl rfl 41 zero256 (heap_alloc_new w1 _) (by rw [size256, HOS.out]) (by rw [HOS.out]; rfl) HOC.out ?_; obtain ⟨W2, hW2, hrow, hbW, hle, hWs⟩ := opnK W w1 O HB1.out; rw [hW2]; have c2 := (hbW.cell (p := ⟨Bs, 0, none⟩) HLT.out).trans HS.out; have HROW := Lib.hid hrow; have HBW := Lib.hid hbW; clear hW2 hrow hbW hle hWs)
    | fail)
  refine (wpIn_wide (n := n)).1 ?_
  obtain ⟨A, hA⟩ : ∃ A, w1.heap.size = A := ⟨_, rfl⟩
  rw [hA] at HROW ⊢
  clear hA
  have HJ2 : Hid (J [] W2) := HJ.out [] W W2 HJ0.out HBW.out
  clear HJ0 c2 HLT HS
  gi_loopg [4, 5, 6] (s.size + 1) (fun gg r m p wr => ∃ (R : ByteArray) (b : Bool) (pre suf : List Pt), r = .string R ∧ m = .bool b ∧ xs = pre ++ suf ∧ suf.map (fun x => x.1.data.toList) = (if b = true then cutT R.data.toList else []) ∧ R.size ≤ 1000000 ∧ (if b = true then R.size + 1 else 0) ≤ gg ∧ J pre wr ∧ wr.heap[A]? = some (.cells O 41 (0, 0)))
  case atStart => exact ⟨s, true, [], xs, rfl, rfl, rfl, HXS.out, HM.out, Nat.le_refl _, HJ2.out, HROW.out⟩
  case round =>
    clear HJ2 HROW HBW HXS HM HB1
    obtain ⟨R, b, pre, suf, rfl, rfl, hx, hsuf, hR, hg, hJp, hro⟩ := hrel
    have HX := Lib.hid hx
    have HSUF := Lib.hid hsuf
    have HR := Lib.hid hR
    have HG := Lib.hid hg
    have HJP := Lib.hid hJp
    have HRO := Lib.hid hro
    clear hx hsuf hR hg hJp hro
    cases b with
    | false =>
      obtain rfl : suf = [] := by
        have := HSUF.out
        rw [if_neg (by simp), List.map_eq_nil_iff] at this
        exact this
      obtain rfl : xs = pre := by have := HX.out; simpa using this
      gi_wp2
      go_end0
      exact ⟨⟨_, rfl⟩, .inl ⟨_, rfl, HJP.out⟩⟩
    | true =>
      obtain ⟨p, R', b, hcut, hp, hR', hb, hct⟩ := cut_any R HR.out
      obtain ⟨T, hT⟩ : ∃ T, trimS p = T := ⟨_, rfl⟩
      have HCUT := Lib.hid (hcut wr)
      have HP : Hid (p.size ≤ 1000000) := Lib.hid (Nat.le_trans hp HR.out)
      have HTT := Lib.hid hT
      have hTs : T.size ≤ 1000000 := by rw [← hT]; have := trimS_size p; have := HP.out; omega
      have HTS := Lib.hid hTs
      have HR' : Hid (R'.size ≤ 1000000) := Lib.hid (Nat.le_trans hR' HR.out)
      have hgg : R.size + 1 ≤ gk := by have := HG.out; simpa using this
      have HGG : Hid ((if b = true then R'.size + 1 else 0) ≤ gk - 1 ∧ 1 ≤ gk) := by
        refine ⟨?_, by omega⟩
        cases b with
        | true => have := hb rfl; simp; omega
        | false => simp
      have hsuf := HSUF.out
      rw [if_pos rfl, hct] at hsuf
      have hem := empty_b T
      have hem2 := empty_b2 T
      by_cases h0 : T.size = 0
      · have e1 : decide (T.size = 0) = true := by simp [h0]
        rw [e1] at hem hem2
        rw [oneT_nil (by rw [hT]; exact h0), List.nil_append] at hsuf
        have HSN := Lib.hid hsuf
        clear hcut hp hR' hb hct hT hTs hgg hsuf h0 e1
        gi_wp2_with (first
          | (refine ⟨trivial, ?_⟩; gi_at_call 32; (with_reducible refine (callsIn_wide.2 HCUT.out).mono ?_); rintro e w3 ⟨rfl, hb3⟩; have HRO3 : Hid (w3.heap[A]? = some (.cells O 41 (0, 0))) := Lib.hid ((hb3.block A (heap_lt7 HRO.out)).trans HRO.out); have HB3 := Lib.hid hb3; clear hb3)
          | (refine wpListIn_load_row rfl _ _ rfl A rfl 41 O (0, 0) _ HRO3.out Try.underlying41 rfl (by rw [size256, HOS.out]) ?_)
          | (refine ⟨trivial, ?_⟩; gi_at_call 28; (with_reducible refine (callsIn_wide.2 (trimK p T O w3 HO.out HP.out HTT.out)).mono ?_); rintro e w4 ⟨rfl, hb4⟩; have HB4 := Lib.hid (stp HB3.out hb4); clear hb4)
          | fail)
        refine ⟨fun _ h => (by cases h), ?_⟩
        gi_wp2
        gi_roundg (gk - 1)
        case rel => exact ⟨R', b, pre, suf, rfl, rfl, HX.out, HSN.out, HR'.out, HGG.out.1, HJ.out _ _ _ HJP.out HB4.out, (HB4.out.block A (heap_lt7 HRO.out)).trans HRO.out⟩
        case measure => have := HGG.out.2; omega
      · have e1 : decide (T.size = 0) = false := by simp [h0]
        rw [e1] at hem hem2
        rw [oneT_one (by rw [hT]; exact h0), hT] at hsuf
        obtain ⟨x, suf', rfl⟩ : ∃ x suf', suf = x :: suf' := by
          cases suf with
          | nil => simp at hsuf
          | cons x suf' => exact ⟨x, suf', rfl⟩
        rw [List.map_cons, List.cons_append, List.nil_append] at hsuf
        injection hsuf with hx1 hs1
        obtain ⟨x, hxs⟩ := x
        obtain rfl : x = T := ba_ext7 hx1
        have HSN := Lib.hid hs1
        have hlen : pre.length < xs.length := by rw [HX.out]; simp
        have HLN := Lib.hid hlen
        have HX2 : Hid (xs = (pre ++ [(⟨x, hxs⟩ : Pt)]) ++ suf') := by show _ = _; rw [HX.out]; simp
        clear hcut hp hR' hb hct hT hTs hgg hx1 hs1 hlen h0 e1
        gi_wp2_with (first
          | (refine ⟨trivial, ?_⟩; gi_at_call 32; (with_reducible refine (callsIn_wide.2 HCUT.out).mono ?_); rintro e w3 ⟨rfl, hb3⟩; have HRO3 : Hid (w3.heap[A]? = some (.cells O 41 (0, 0))) := Lib.hid ((hb3.block A (heap_lt7 HRO.out)).trans HRO.out); have HB3 := Lib.hid hb3; clear hb3)
          | (refine wpListIn_load_row rfl _ _ rfl A rfl 41 O (0, 0) _ HRO3.out Try.underlying41 rfl (by rw [size256, HOS.out]) ?_)
          | (refine ⟨trivial, ?_⟩; gi_at_call 28; (with_reducible refine (callsIn_wide.2 (trimK p x O w3 HO.out HP.out HTT.out)).mono ?_); rintro e w4 ⟨rfl, hb4⟩; have HB4 := Lib.hid (stp HB3.out hb4); clear hb4; obtain ⟨fn, tmps, assign, body, hy, hRR⟩ := HY.out pre ⟨x, hxs⟩ w4 (HJ.out _ _ _ HJP.out HB4.out) HLN.out; have HRR := Lib.hid hRR; clear hRR)
          | fail)
        refine HRR.out.mono ?_
        rintro e V (⟨rfl, hJv, hkv⟩ | ⟨rfl, hxv⟩)
        · have HJV := Lib.hid hJv
          have HROV : Hid (V.heap[A]? = some (.cells O 41 (0, 0))) := Lib.hid (hkv.2 A O (0, 0) ((HB4.out.block A (heap_lt7 HRO.out)).trans HRO.out))
          clear hJv hkv
          gi_wp2
          gi_roundg (gk - 1)
          case rel => exact ⟨R', b, pre ++ [(⟨x, hxs⟩ : Pt)], suf', rfl, rfl, HX2.out, HSN.out, HR'.out, HGG.out.1, HJV.out, HROV.out⟩
          case measure => have := HGG.out.2; omega
        · have HXV := Lib.hid hxv
          clear hxv
          gi_wp2
          refine bodyPost_ret (results_none rfl _ _ _) rfl ?_
          exact ⟨⟨_, rfl⟩, .inr ⟨_, ⟨suf', HX2.out.symm⟩, HXV.out⟩⟩
end Hx
end Go.Proofs.Ytncklfmpnbdmcaa
