/-
  Texts of one seat, put together: SpaB, SpaC, SpaD.
-/
import Derived.Test.YtlhjcdkkmloamaaGreatDoorSp10
import Derived.Test.YtlhjcdkkmloamaaGreatDoorSp08
set_option linter.unusedSimpArgs false
namespace Go.Proofs.YtlhjcdkkmloamaaGreatDoor
open Go.RowKit
namespace Hx
open Lx Tr Tx Nmb Es Ns
set_option maxRecDepth 100000
set_option maxHeartbeats 16000000
set_option linter.unusedVariables false
theorem sz_le {x : ByteArray} {l : List UInt8} (h : x.data.toList = l) : x.size = l.length := by rw [← h, ba_len5]
theorem eq_lit (y : ByteArray) (l : List UInt8) (q : Bool) (h : decide (y.data.toList = l) = q) : (y.toList == l) = q := by
  rw [ByteArray.toList_eq, ← h]
  by_cases e : y.data.toList = l
  · rw [e]; simp
  · rw [decide_eq_false e]; exact beq_eq_false_iff_ne.2 e
theorem decl_some_iff (nm : List UInt8) : (decl nm).isSome = (decide (nm = xmlns5) || decide ((xmlns5 ++ [58]) <+: nm)) := by
  unfold decl
  cases hc : cutC nm with
  | none =>
    dsimp only
    have hno : ¬ (xmlns5 ++ [58]) <+: nm := fun ⟨r, hr⟩ => by
      have h1 := cutC_put (a := xmlns5) (b := r) (nameL_58 xmlns_name)
      rw [← hr, List.append_assoc] at hc
      have h2 : cutC (xmlns5 ++ ([58] ++ r)) = some (xmlns5, r) := h1
      rw [h2] at hc
      cases hc
    rw [decide_eq_false hno]
    by_cases h : nm = xmlns5
    · rw [if_pos h, decide_eq_true h]; rfl
    · rw [if_neg h, decide_eq_false h]; rfl
  | some x =>
    obtain ⟨a, b⟩ := x
    dsimp only
    obtain ⟨h1, _⟩ := cutC_some hc
    have hne : nm ≠ xmlns5 := fun h => by
      rw [h, nameL_cut xmlns_name] at hc
      cases hc
    rw [decide_eq_false hne]
    by_cases h : a = xmlns5
    · rw [if_pos h, decide_eq_true ⟨b, by rw [h1, h]; simp⟩]; rfl
    · rw [if_neg h, decide_eq_false]
      · rfl
      · rintro ⟨r, hr⟩
        have h2 : cutC (xmlns5 ++ ([58] ++ r)) = some (xmlns5, r) := cutC_put (a := xmlns5) (b := r) (nameL_58 xmlns_name)
        rw [← hr, List.append_assoc, h2] at hc
        injection hc with hc
        injection hc with hc _
        exact h hc.symm
theorem hp_xmlns (nm : List UInt8) : Lib.hasPrefix nm [120, 109, 108, 110, 115, 58] = decide ((xmlns5 ++ [58]) <+: nm) := by
  unfold Lib.hasPrefix
  by_cases h : (xmlns5 ++ [58]) <+: nm
  · rw [decide_eq_true h]; exact List.isPrefixOf_iff_prefix.2 h
  · rw [decide_eq_false h]; exact Bool.eq_false_iff.2 fun e => h (List.isPrefixOf_iff_prefix.1 e)
theorem declares11 (a : AB) (w : World) (q : Bool) (h : (decl a.y.data.toList).isSome = q) :
    Calls Tryz.prog 32 #[.agg #[.string a.x, .string a.y, .string a.z]] w fun e w' => e = .returned (.bool q) ∧ Below w.heap.size w w' := by
  obtain ⟨x, y, z⟩ := a
  dsimp only at h ⊢
  obtain ⟨q1, h1⟩ : ∃ q1, decide (y.data.toList = xmlns5) = q1 := ⟨_, rfl⟩
  obtain ⟨q2, h2⟩ : ∃ q2, Lib.hasPrefix y.data.toList [120, 109, 108, 110, 115, 58] = q2 := ⟨_, rfl⟩
  rw [decl_some_iff, ← hp_xmlns, h1, h2] at h
  have f1 := eq_lit y xmlns5 q1 h1
  unfold xmlns5 at f1
  have HP : Hid (∀ W : World, Calls Tryz.prog 49 #[.string y, .string ⟨#[120, 109, 108, 110, 115, 58]⟩] W fun e w' => e = .returned (.bool q2) ∧ w' = W) := Lib.hid fun W => (Tryz.strings_HasPrefix y ⟨#[120, 109, 108, 110, 115, 58]⟩ W).mono fun e w' h => ⟨by rw [h.1]; show _ = Ending.returned (Value.bool q2); rw [← h2], h.2⟩
  obtain ⟨W1, hW1⟩ : ∃ W1, w.alloc (.cells #[.string x, .string y, .string z] 34) = W1 := ⟨_, rfl⟩
  have HB1 : Hid (Below w.heap.size w W1) := Lib.hid (by rw [← hW1]; exact stpA (Below.refl _ _) _)
  have k1 := cellV W1 _ 1 _ _ _ (show W1.heap[w.heap.size]? = some (.cells #[.string x, .string y, .string z] 34 (0, 0)) by rw [← hW1]; exact heap_alloc_new w _)
  clear h1 h2
  cases q1 with
  | true =>
    obtain rfl : q = true := h.symm
    clear h
    go_enter Tryz.func32, Tryz.ntmps32
    go_wp2_with fail
    go_ret
    exact ⟨rfl, HB1.out⟩
  | false =>
    obtain rfl : q2 = q := h
    go_enter Tryz.func32, Tryz.ntmps32
    go_wp2_with (first
      | (go_at_call 49; (with_reducible refine (HP.out W1).mono ?_); rintro e2 w2 ⟨rfl, rfl⟩)
      | fail)
    go_ret
    exact ⟨rfl, HB1.out⟩
theorem maydecl11 (p v : ByteArray) (w : World) (q : Bool) (h : rightD p.data.toList v.data.toList = q) :
    Calls Tryz.prog 34 #[.string p, .string v] w fun e w' => e = .returned (.bool q) ∧ Below w.heap.size w w' := by
  obtain ⟨q1, h1⟩ : ∃ q1, decide (p.data.toList = xmlns5) = q1 := ⟨_, rfl⟩
  obtain ⟨q2, h2⟩ : ∃ q2, decide (p.data.toList = xml3) = q2 := ⟨_, rfl⟩
  obtain ⟨q3, h3⟩ : ∃ q3, decide (v.data.toList = ofXml) = q3 := ⟨_, rfl⟩
  obtain ⟨q4, h4⟩ : ∃ q4, decide (v.data.toList = ofXmlns) = q4 := ⟨_, rfl⟩
  obtain ⟨q5, h5⟩ : ∃ q5, decide (v.data.toList = []) = q5 := ⟨_, rfl⟩
  obtain ⟨q6, h6⟩ : ∃ q6, decide (p.data.toList = []) = q6 := ⟨_, rfl⟩
  have f1 := eq_lit p xmlns5 q1 h1
  have f2 := eq_lit p xml3 q2 h2
  have f3 := eq_lit v ofXml q3 h3
  have f4 := eq_lit v ofXmlns q4 h4
  have f5 : v.toList.isEmpty = q5 := by
    rw [em_lR, ← h5]
    cases v.data.toList <;> rfl
  have f6 : p.toList.isEmpty = q6 := by
    rw [em_lR, ← h6]
    cases p.data.toList <;> rfl
  unfold xmlns5 at f1
  unfold xml3 at f2
  unfold ofXml at f3
  unfold ofXmlns at f4
  have h := h
  unfold rightD at h
  have e4 : decide (v.data.toList ≠ ofXmlns) = !q4 := by rw [← h4]; simp
  have e3 : decide (v.data.toList ≠ ofXml) = !q3 := by rw [← h3]; simp
  have e5 : decide (v.data.toList ≠ []) = !q5 := by rw [← h5]; simp
  have e1 : decide (p.data.toList ≠ xmlns5) = !q1 := by rw [← h1]; simp
  rw [e1, e3, e4, e5, h3, h6] at h
  have h12 : q1 = true → q2 = false := fun e => by
    rw [e] at h1
    rw [← h2, of_decide_eq_true h1]
    decide
  have hres : q = if q1 = true then false else if q2 = true then q3 else (!q3 && (!q4 && (!q5 || q6))) := by
    cases q2 with
    | true =>
      rw [if_pos (of_decide_eq_true h2)] at h
      cases q1 with
      | true => have := h12 rfl; cases this
      | false => rw [← h]; rfl
    | false =>
      rw [if_neg (of_decide_eq_false h2)] at h
      rw [← h]
      have key : ∀ a b c d e : Bool, (!a && !b && !c && (d || !e)) = if a = true then false else if false = true then b else (!b && (!c && (!e || d))) := by decide
      exact key q1 q3 q4 q6 q5
  clear h h1 h2 h3 h4 h5 h6 e1 e3 e4 e5 h12
  cases q1 with
  | true =>
    obtain rfl : q = false := hres
    go_enter Tryz.func34, Tryz.ntmps34
    go_wp2_with fail
    go_ret
    exact ⟨rfl, Below.refl _ _⟩
  | false =>
    cases q2 with
    | true =>
      obtain rfl : q = q3 := hres
      go_enter Tryz.func34, Tryz.ntmps34
      go_wp2_with fail
      go_ret
      exact ⟨rfl, Below.refl _ _⟩
    | false =>
      cases q3 <;> cases q4 <;> cases q5 <;> cases q6
      · obtain rfl : q = true := hres
        go_enter Tryz.func34, Tryz.ntmps34
        go_wp2_with fail
        go_ret
        exact ⟨rfl, Below.refl _ _⟩
      · obtain rfl : q = true := hres
        go_enter Tryz.func34, Tryz.ntmps34
        go_wp2_with fail
        go_ret
        exact ⟨rfl, Below.refl _ _⟩
      · obtain rfl : q = false := hres
        go_enter Tryz.func34, Tryz.ntmps34
        go_wp2_with fail
        go_ret
        exact ⟨rfl, Below.refl _ _⟩
      · obtain rfl : q = true := hres
        go_enter Tryz.func34, Tryz.ntmps34
        go_wp2_with fail
        go_ret
        exact ⟨rfl, Below.refl _ _⟩
      · obtain rfl : q = false := hres
        go_enter Tryz.func34, Tryz.ntmps34
        go_wp2_with fail
        go_ret
        exact ⟨rfl, Below.refl _ _⟩
      · obtain rfl : q = false := hres
        go_enter Tryz.func34, Tryz.ntmps34
        go_wp2_with fail
        go_ret
        exact ⟨rfl, Below.refl _ _⟩
      · obtain rfl : q = false := hres
        go_enter Tryz.func34, Tryz.ntmps34
        go_wp2_with fail
        go_ret
        exact ⟨rfl, Below.refl _ _⟩
      · obtain rfl : q = false := hres
        go_enter Tryz.func34, Tryz.ntmps34
        go_wp2_with fail
        go_ret
        exact ⟨rfl, Below.refl _ _⟩
      · obtain rfl : q = false := hres
        go_enter Tryz.func34, Tryz.ntmps34
        go_wp2_with fail
        go_ret
        exact ⟨rfl, Below.refl _ _⟩
      · obtain rfl : q = false := hres
        go_enter Tryz.func34, Tryz.ntmps34
        go_wp2_with fail
        go_ret
        exact ⟨rfl, Below.refl _ _⟩
      · obtain rfl : q = false := hres
        go_enter Tryz.func34, Tryz.ntmps34
        go_wp2_with fail
        go_ret
        exact ⟨rfl, Below.refl _ _⟩
      · obtain rfl : q = false := hres
        go_enter Tryz.func34, Tryz.ntmps34
        go_wp2_with fail
        go_ret
        exact ⟨rfl, Below.refl _ _⟩
      · obtain rfl : q = false := hres
        go_enter Tryz.func34, Tryz.ntmps34
        go_wp2_with fail
        go_ret
        exact ⟨rfl, Below.refl _ _⟩
      · obtain rfl : q = false := hres
        go_enter Tryz.func34, Tryz.ntmps34
        go_wp2_with fail
        go_ret
        exact ⟨rfl, Below.refl _ _⟩
      · obtain rfl : q = false := hres
        go_enter Tryz.func34, Tryz.ntmps34
        go_wp2_with fail
        go_ret
        exact ⟨rfl, Below.refl _ _⟩
      · obtain rfl : q = false := hres
        go_enter Tryz.func34, Tryz.ntmps34
        go_wp2_with fail
        go_ret
        exact ⟨rfl, Below.refl _ _⟩
theorem cut11 (s : ByteArray) (hm : s.size ≤ 1000000) : ∃ (p r : ByteArray) (q : Bool), (∀ w : World, Calls Tryz.prog 33 #[.string s, .string ⟨#[58]⟩] w (fun e w' => e = .returned (.tuple #[.string p, .string r, .bool q]) ∧ Below w.heap.size w w')) ∧ q = (cutC s.data.toList).isSome ∧ (q = true → cutC s.data.toList = some (p.data.toList, r.data.toList) ∧ p.size ≤ 1000000 ∧ r.size ≤ 1000000) ∧ (q = false → r = ⟨#[]⟩) := by
  cases hc : cutC s.data.toList with
  | none =>
    refine ⟨s, ⟨#[]⟩, false, (fun w => xcut_58_none s w fun h => ?_), rfl, (fun h => by cases h), fun _ => rfl⟩
    have := cutC_some9 h
    rw [hc] at this
    cases this
  | some x =>
    obtain ⟨a, b⟩ := x
    obtain ⟨h1, h2⟩ := cutC_some hc
    have hl := congrArg List.length h1
    rw [ba_len5, List.length_append, List.length_cons] at hl
    refine ⟨⟨a.toArray⟩, ⟨b.toArray⟩, true, fun w => (xcut_58_some s ⟨a.toArray⟩ ⟨b.toArray⟩ w hm (by simpa using h1) (by simpa using h2)), rfl, (fun _ => ⟨by simp, ?_, ?_⟩), fun h => by cases h⟩
    · show a.toArray.size ≤ _
      rw [List.size_toArray]
      omega
    · show b.toArray.size ≤ _
      rw [List.size_toArray]
      omega
def EnvD (D : List (List UInt8 × AB)) (E : List (List At)) : Prop := ∀ p, lookE E p = match lookD D p with
  | some a => (a.z.data.toList, true)
  | none => ([], false)
theorem find11 (b : Nat) (D : List (List UInt8 × AB)) (E : List (List At)) (f : ByteArray) (w : World) (h : MapD w b D) (hE : EnvD D E) (hm : f.size ≤ 1000000) :
    Calls Tryz.prog 35 #[.map (some b), .string f] w fun e w' => (∃ s nm : ByteArray, e = .returned (.tuple #[.string s, .string nm, .bool (lookE E (Ns.nameP f.data.toList).1).2]) ∧ s.data.toList = (lookE E (Ns.nameP f.data.toList).1).1 ∧ nm.data.toList = (Ns.nameP f.data.toList).2) ∧ Below w.heap.size w w' := by
  obtain ⟨p, r, q, hC, hq, hqt, _⟩ := cut11 f hm
  have HC := Lib.hid (hC w)
  have HM := Lib.hid h
  cases q with
  | true =>
    obtain ⟨h1, _, _⟩ := hqt rfl
    have hnp : Ns.nameP f.data.toList = (p.data.toList, r.data.toList) := by unfold Ns.nameP; rw [h1]
    obtain ⟨A, hA⟩ : ∃ A, (lookD D p.data.toList).getD ⟨⟨#[]⟩, ⟨#[]⟩, ⟨#[]⟩⟩ = A := ⟨_, rfl⟩
    obtain ⟨k, hk⟩ : ∃ k, (lookD D p.data.toList).isSome = k := ⟨_, rfl⟩
    have hl : lookE E p.data.toList = (A.z.data.toList, k) := by
      rw [hE, ← hA, ← hk]
      cases lookD D p.data.toList <;> rfl
    have HL : Hid (∀ W, Below w.heap.size w W → (Instr.lookup 43 (.map (some b)) (.string p) true).run Tryz.prog W = .ok (.tuple #[.agg #[.string A.x, .string A.y, .string A.z], .bool k]) W) := Lib.hid fun W hW => by
      have := run_lookD (h.kept (hW.block b (by obtain ⟨es, cl, hb, _⟩ := h; exact (Array.getElem?_eq_some_iff.1 hb).1))) p _ rfl
      rw [hA, hk] at this
      exact this
    rw [hnp]
    dsimp only
    rw [hl]
    clear h hE hC hqt h1 hnp hA hk hl hq
    go_enter Tryz.func35, Tryz.ntmps35
    go_wp2_with (first
      | (go_at_call 33; (with_reducible refine (HC.out).mono ?_); rintro e1 w1 ⟨rfl, hb1⟩; have HB1 := Lib.hid hb1; clear hb1)
      | (refine wpList_look rfl (.tmp 20) (.tmp 21) 43 rfl rfl rfl (HL.out _ HB1.out) ?_)
      | (refine wpList_store_row rfl _ _ _ rfl w1.heap.size #[.string A.x, .string A.y, .string A.z] rfl rfl 34 #[.string ⟨#[]⟩, .string ⟨#[]⟩, .string ⟨#[]⟩] (heap_alloc_new _ _) sizeAt rfl (by simp [Value.oneCell']) ?_; rw [World.setRow_alloc_new]; obtain ⟨W2, hW2⟩ : ∃ W2, w1.alloc (.cells #[.string A.x, .string A.y, .string A.z] 34) = W2 := ⟨_, rfl⟩; rw [hW2]; have HB2 : Hid (Below w.heap.size w W2) := Lib.hid (by rw [← hW2]; exact stpA HB1.out _); have k2 := cellV W2 _ 2 _ _ _ (show W2.heap[w1.heap.size]? = some (.cells #[.string A.x, .string A.y, .string A.z] 34 (0, 0)) by rw [← hW2]; exact heap_alloc_new w1 _))
      | fail)
    go_ret3
    exact ⟨⟨_, _, rfl, rfl, rfl⟩, HB2.out⟩
  | false =>
    have hcn : cutC f.data.toList = none := by
      cases hc : cutC f.data.toList with
      | none => rfl
      | some x => rw [hc] at hq; cases hq
    have hnp : Ns.nameP f.data.toList = ([], f.data.toList) := by unfold Ns.nameP; rw [hcn]
    obtain ⟨A, hA⟩ : ∃ A, (lookD D []).getD ⟨⟨#[]⟩, ⟨#[]⟩, ⟨#[]⟩⟩ = A := ⟨_, rfl⟩
    obtain ⟨k, hk⟩ : ∃ k, (lookD D []).isSome = k := ⟨_, rfl⟩
    have hl : lookE E [] = (A.z.data.toList, k) := by
      rw [hE, ← hA, ← hk]
      cases lookD D [] <;> rfl
    have HL : Hid (∀ W, Below w.heap.size w W → (Instr.lookup 43 (.map (some b)) (.string ⟨#[]⟩) true).run Tryz.prog W = .ok (.tuple #[.agg #[.string A.x, .string A.y, .string A.z], .bool k]) W) := Lib.hid fun W hW => by
      have := run_lookD (h.kept (hW.block b (by obtain ⟨es, cl, hb, _⟩ := h; exact (Array.getElem?_eq_some_iff.1 hb).1))) ⟨#[]⟩ [] rfl
      rw [hA, hk] at this
      exact this
    rw [hnp]
    dsimp only
    rw [hl]
    clear h hE hC hqt hcn hnp hA hk hl hq
    go_enter Tryz.func35, Tryz.ntmps35
    go_wp2_with (first
      | (go_at_call 33; (with_reducible refine (HC.out).mono ?_); rintro e1 w1 ⟨rfl, hb1⟩; have HB1 := Lib.hid hb1; clear hb1)
      | (refine wpList_look rfl (.tmp 20) (.tmp 21) 43 rfl rfl rfl (HL.out _ HB1.out) ?_)
      | (refine wpList_store_row rfl _ _ _ rfl w1.heap.size #[.string A.x, .string A.y, .string A.z] rfl rfl 34 #[.string ⟨#[]⟩, .string ⟨#[]⟩, .string ⟨#[]⟩] (heap_alloc_new _ _) sizeAt rfl (by simp [Value.oneCell']) ?_; rw [World.setRow_alloc_new]; obtain ⟨W2, hW2⟩ : ∃ W2, w1.alloc (.cells #[.string A.x, .string A.y, .string A.z] 34) = W2 := ⟨_, rfl⟩; rw [hW2]; have HB2 : Hid (Below w.heap.size w W2) := Lib.hid (by rw [← hW2]; exact stpA HB1.out _); have k2 := cellV W2 _ 2 _ _ _ (show W2.heap[w1.heap.size]? = some (.cells #[.string A.x, .string A.y, .string A.z] 34 (0, 0)) by rw [← hW2]; exact heap_alloc_new w1 _))
      | fail)
    go_ret3
    exact ⟨⟨_, _, rfl, rfl, rfl⟩, HB2.out⟩
theorem wpList_upd {P : Program} {w : World} {ops : Array Oper} {rest : List Oper} {o : Oper} {a : Act} {Q : Exit → Act → World → Prop}
    (hg : o.guard = none) (m x v : Operand) (t : TypeId) (hop : o.op = Op.mapUpdate t m x v) {w' : World} {mv kv vv : Value} (hm : a.eval m = mv) (hx : a.eval x = kv) (hv : a.eval v = vv)
    (hrun : (Instr.mapUpdate t mv kv vv).run P w = .ok () w') (hK : wpList P ops Q rest (a.put o.dst undef) w') : wpList P ops Q (o :: rest) a w := by
  refine wpList_plain hg fun K' hK' => ?_
  unfold Oper.wp
  simp [execOp, hop, hm, hx, hv, hrun, Result.andThen]
  exact hK' _ _ hK
def insA (D : List (List UInt8 × AB)) (l : List At) : List (List UInt8 × AB) := l.foldl (fun D a => match decl a.name with
  | some p => insD D p (abOf a)
  | none => D) D
theorem insA_snoc (D : List (List UInt8 × AB)) (l : List At) (a : At) : insA D (l ++ [a]) = match decl a.name with
  | some p => insD (insA D l) p (abOf a)
  | none => insA D l := by
  unfold insA
  rw [List.foldl_append]
  rfl
theorem abOf_mk {a : At} {x y z : ByteArray} (h1 : x.data.toList = a.space) (h2 : y.data.toList = a.name) (h3 : z.data.toList = a.value) : abOf a = ⟨x, y, z⟩ := by
  unfold abOf
  rw [← h1, ← h2, ← h3, ← ba_eq5 x, ← ba_eq5 y, ← ba_eq5 z]
theorem decl_name {nm p : List UInt8} (h : decl nm = some p) : nm = (if cutC nm = none then xmlns5 else xmlns5 ++ 58 :: p) ∧ (cutC nm = none → p = []) := by
  unfold decl at h
  cases hc : cutC nm with
  | none =>
    rw [hc] at h
    dsimp only at h
    by_cases hn : nm = xmlns5
    · rw [if_pos hn] at h
      exact ⟨by rw [if_pos rfl]; exact hn, fun _ => (Option.some.inj h).symm⟩
    · rw [if_neg hn] at h; cases h
  | some x =>
    obtain ⟨a, b⟩ := x
    rw [hc] at h
    dsimp only at h
    by_cases ha : a = xmlns5
    · rw [if_pos ha] at h
      obtain ⟨e, _⟩ := cutC_some hc
      exact ⟨by rw [if_neg (by simp), e, ha, Option.some.inj h], fun h => by cases h⟩
    · rw [if_neg ha] at h; cases h
theorem decl_inj {n1 n2 p : List UInt8} (f1 : fullL n1 = true) (f2 : fullL n2 = true) (h1 : decl n1 = some p) (h2 : decl n2 = some p) : n1 = n2 := by
  obtain ⟨e1, k1⟩ := decl_name h1
  obtain ⟨e2, k2⟩ := decl_name h2
  have ne : ∀ n : List UInt8, fullL n = true → decl n = some p → cutC n ≠ none → p ≠ [] := fun n hf hd hc hp => by
    cases hx : cutC n with
    | none => exact hc hx
    | some x =>
      obtain ⟨a, b⟩ := x
      have := (fullL_cut hf hx).2
      unfold decl at hd
      rw [hx] at hd
      dsimp only at hd
      split at hd
      · rw [Option.some.inj hd, hp] at this
        cases this
      · cases hd
  by_cases c1 : cutC n1 = none <;> by_cases c2 : cutC n2 = none
  · rw [e1, e2, if_pos c1, if_pos c2]
  · exact absurd (k1 c1) (ne n2 f2 h2 c2)
  · exact absurd (k2 c2) (ne n1 f1 h1 c1)
  · rw [e1, e2, if_neg c1, if_neg c2]
theorem insA_look (D : List (List UInt8 × AB)) : ∀ (l : List At), (∀ a ∈ l, fullL a.name = true) → (l.map (·.name)).Nodup → ∀ p, (lookD (insA D l) p).map (·.z.data.toList) = match declL l p with
    | some v => some v
    | none => (lookD D p).map (·.z.data.toList) := by
  suffices h : ∀ r : List At, (∀ a ∈ r.reverse, fullL a.name = true) → (r.reverse.map (·.name)).Nodup → ∀ p, (lookD (insA D r.reverse) p).map (·.z.data.toList) = match declL r.reverse p with
    | some v => some v
    | none => (lookD D p).map (·.z.data.toList) by
    intro l hf hn p
    have := h l.reverse (by rw [List.reverse_reverse]; exact hf) (by rw [List.reverse_reverse]; exact hn) p
    rw [List.reverse_reverse] at this
    exact this
  intro r
  induction r with
  | nil => intro _ _ p; rfl
  | cons a r ih =>
    rw [List.reverse_cons]
    generalize r.reverse = l at ih
    intro hf hn p
    rw [List.map_append, List.nodup_append] at hn
    have hi := ih (fun b hb => hf b (List.mem_append.2 (.inl hb))) hn.1 p
    have hfa := hf a (List.mem_append.2 (.inr (List.mem_singleton.2 rfl)))
    rw [insA_snoc, declL_app]
    cases hd : decl a.name with
    | none =>
      dsimp only
      rw [hi]
      cases declL l p with
      | some v => rfl
      | none =>
        dsimp only
        rw [declL, if_neg (by rw [hd]; simp)]
        rfl
    | some k =>
      dsimp only
      rw [lookD_ins]
      by_cases hk : k = p
      · subst hk
        rw [if_pos rfl]
        have hno : declL l k = none := declL_no fun b hb e => by
          have := decl_inj (hf b (List.mem_append.2 (.inl hb))) hfa e hd
          exact hn.2.2 b.name (List.mem_map.2 ⟨b, hb, rfl⟩) a.name (by simp) this
        rw [hno]
        dsimp only
        rw [declL, if_pos hd]
        simp [abOf]
      · rw [if_neg hk, hi]
        cases declL l p with
        | some v => rfl
        | none =>
          dsimp only
          rw [declL, if_neg (by rw [hd]; simpa using hk)]
          rfl
theorem EnvD.ins {D : List (List UInt8 × AB)} {E : List (List At)} {l : List At} (h : EnvD D E) (hf : ∀ a ∈ l, fullL a.name = true) (hn : (l.map (·.name)).Nodup) : EnvD (insA D l) (l :: E) := fun p => by
  have h1 := insA_look D l hf hn p
  rw [lookE]
  cases hd : declL l p with
  | some v =>
    rw [hd] at h1
    dsimp only at h1 ⊢
    cases hl : lookD (insA D l) p with
    | none => rw [hl] at h1; cases h1
    | some a =>
      rw [hl] at h1
      rw [← Option.some.inj h1]
  | none =>
    rw [hd] at h1
    dsimp only at h1 ⊢
    rw [h p]
    cases hl : lookD (insA D l) p with
    | none =>
      rw [hl] at h1
      cases hl2 : lookD D p with
      | none => rfl
      | some a => rw [hl2] at h1; cases h1
    | some a =>
      rw [hl] at h1
      cases hl2 : lookD D p with
      | none => rw [hl2] at h1; cases h1
      | some a2 =>
        rw [hl2] at h1
        have e : a.z.data.toList = a2.z.data.toList := Option.some.inj h1
        dsimp only
        rw [e]
def declsOk (l : List At) : Bool := l.all fun a => match decl a.name with
  | some p => rightD p a.value
  | none => true

theorem declare11 (b : Nat) (D : List (List UInt8 × AB)) (A : Option Addr) (n c : Nat) (l : List At) (w : World) (h : MapD w b D) (hr : RdS AtS w (fun k => k < b) A l) (hn : l.length = n) (hm : n ≤ 1000000) (hsz : ∀ a ∈ l, a.name.length ≤ 1000000) (q : Bool) (hq : declsOk l = q) :
    Calls Tryz.prog 17 #[.map (some b), .slice A n c] w fun e w' => e = .returned (.bool q) ∧ Below b w w' ∧ w.heap.size ≤ w'.heap.size ∧ (q = true → MapD w' b (insA D l)) := by
  have HD := Lib.hid h
  have HR := Lib.hid hr
  have HN := Lib.hid hn
  have HSZ := Lib.hid hsz
  have HQ := Lib.hid hq
  have HBL : Hid (b < w.heap.size) := Lib.hid (by obtain ⟨es, cl, hb, _⟩ := h; exact (Array.getElem?_eq_some_iff.1 hb).1)
  have bn : (n : Int) ≤ 1000000 := by omega
  clear h hr hn hsz hq
  go_enter Tryz.func17, Tryz.ntmps17
  go_wp2_with fail
  go_loopg [12] n (fun gg i wr => ∃ j : Nat, j + gg = n ∧ i = .int .i64 j ∧ declsOk (l.take j) = true ∧ MapD wr b (insA D (l.take j)) ∧ Below b w wr)
  case atStart => exact ⟨0, by omega, rfl, rfl, HD.out, Below.refl _ _⟩
  case round =>
    obtain ⟨j, hjg, rfl, hok, hmd, hbw⟩ := hrel
    have HBW := Lib.hid hbw
    have HMD := Lib.hid hmd
    have HOK := Lib.hid hok
    have HBR : Hid (b < wr.heap.size) := Lib.hid (Nat.lt_of_lt_of_le HBL.out hbw.size)
    by_cases hlt : j < n
    · have hjl : j < l.length := by rw [HN.out]; exact hlt
      obtain ⟨b0, off, x, y, z, hA, hbB, hx, hy, hz, c0, c1, c2⟩ := at_at HR.out hjl
      have hnm := HSZ.out _ (List.getElem_mem hjl)
      obtain ⟨a, ha⟩ : ∃ a, l[j]'hjl = a := ⟨_, rfl⟩
      rw [ha] at hx hy hz hnm
      have q0 := (hbw.cell (p := ⟨b0, _, none⟩) hbB).trans c0
      have q1 := (hbw.cell (p := ⟨b0, _, none⟩) hbB).trans c1
      have q2 := (hbw.cell (p := ⟨b0, _, none⟩) hbB).trans c2
      have htk : l.take (j + 1) = l.take j ++ [a] := by rw [List.take_succ_eq_append_getElem hjl, ha]
      have hab := abOf_mk hx hy hz
      have bj : (0 : Int) ≤ (j : Int) ∧ (j : Int) < (n : Int) := by omega
      obtain ⟨W1, hW1⟩ : ∃ W1, wr.alloc (.cells #[.string x, .string y, .string z] 34) = W1 := ⟨_, rfl⟩
      have HB1 : Hid (Below wr.heap.size wr W1) := Lib.hid (by rw [← hW1]; exact stpA (Below.refl _ _) _)
      have HX1 : Hid (W1.heap[wr.heap.size]? = some (.cells #[.string x, .string y, .string z] 34 (0, 0))) := Lib.hid (by rw [← hW1]; exact heap_alloc_new wr _)
      obtain ⟨dq, hdq⟩ : ∃ dq, (decl a.name).isSome = dq := ⟨_, rfl⟩
      have HDC : Hid (Calls Tryz.prog 32 #[.agg #[.string x, .string y, .string z]] W1 fun e w' => e = .returned (.bool dq) ∧ Below W1.heap.size W1 w') := Lib.hid (declares11 ⟨x, y, z⟩ W1 dq (by show (decl y.data.toList).isSome = dq; rw [hy]; exact hdq))
      subst hA
      cases dq with
      | false =>
        have hdn : decl a.name = none := by cases hd : decl a.name with
          | none => rfl
          | some p => rw [hd] at hdq; cases hdq
        have HOK2 : Hid (declsOk (l.take (j + 1)) = true) := Lib.hid (by rw [htk]; unfold declsOk at hok ⊢; rw [List.all_append, hok]; simp [hdn])
        have HMD2 : Hid (∀ w', Below wr.heap.size wr w' → MapD w' b (insA D (l.take (j + 1)))) := Lib.hid fun w' hw => by
          rw [htk, insA_snoc, hdn]
          exact hmd.kept (hw.block b HBR.out)
        clear hok hmd hbw hx hy hz c0 c1 c2 htk hab ha hnm hdq hdn hjl hbB
        go_wp2_with (first
          | (refine wpList_store_row rfl _ _ _ rfl wr.heap.size #[.string x, .string y, .string z] rfl rfl 34 #[.string ⟨#[]⟩, .string ⟨#[]⟩, .string ⟨#[]⟩] (heap_alloc_new _ _) sizeAt rfl (by simp [Value.oneCell']) ?_; rw [World.setRow_alloc_new, hW1])
          | (refine wpList_load_row rfl _ _ rfl wr.heap.size rfl 34 #[.string x, .string y, .string z] (0, 0) _ HX1.out Tryz.underlying34 rfl sizeAt ?_)
          | (go_at_call 32; (with_reducible refine (HDC.out).mono ?_); rintro e2 w2 ⟨rfl, hb2⟩; have HB2 := Lib.hid (stp HB1.out hb2); clear hb2)
          | fail)
        go_roundg (gk - 1)
        case measure => omega
        case rel => exact ⟨j + 1, by omega, by go_num, HOK2.out, HMD2.out _ HB2.out, HBW.out.trans (HB2.out.mono (Nat.le_of_lt HBR.out))⟩
      | true =>
        obtain ⟨p, hdp⟩ : ∃ p, decl a.name = some p := Option.isSome_iff_exists.1 hdq
        have hys : y.size ≤ 1000000 := by rw [sz_le hy]; exact hnm
        obtain ⟨u, r, cq, hC, hcq, hct, hcn⟩ := cut11 y hys
        have HC := Lib.hid hC
        have hrp : r.data.toList = p := by
          cases hc : cutC a.name with
          | none =>
            rw [← hy] at hc
            have : cq = false := by rw [hcq, hc]; rfl
            rw [hcn this, (decl_name hdp).2 (by rw [← hy]; exact hc)]
          | some x2 =>
            obtain ⟨x2, y2⟩ := x2
            have h9 := hdp
            unfold decl at h9
            rw [hc] at h9
            dsimp only at h9
            have hcq2 : cq = true := by rw [hcq, hy, hc]; rfl
            have h8 := (hct hcq2).1
            rw [hy, hc] at h8
            injection h8 with h8
            injection h8 with _ h8
            split at h9
            · rw [← h8]; exact Option.some.inj h9
            · cases h9
        obtain ⟨mq, hmq⟩ : ∃ mq, rightD p a.value = mq := ⟨_, rfl⟩
        have HMY : Hid (∀ W : World, Calls Tryz.prog 34 #[.string r, .string z] W fun e w' => e = .returned (.bool mq) ∧ Below W.heap.size W w') := Lib.hid fun W => maydecl11 r z W mq (by rw [hrp, hz]; exact hmq)
        cases mq with
        | false =>
          obtain rfl : q = false := by
            rw [← HQ.out]
            unfold declsOk
            rw [List.all_eq_false]
            exact ⟨a, by rw [← ha]; exact List.getElem_mem hjl, by rw [hdp]; simp [hmq]⟩
          clear hok hmd hbw hx hy hz c0 c1 c2 htk hab ha hnm hdq hjl hbB hC hcq hct hcn hrp hmq hdp hys
          go_wp2_with (first
            | (refine wpList_store_row rfl _ _ _ rfl wr.heap.size #[.string x, .string y, .string z] rfl rfl 34 #[.string ⟨#[]⟩, .string ⟨#[]⟩, .string ⟨#[]⟩] (heap_alloc_new _ _) sizeAt rfl (by simp [Value.oneCell']) ?_; rw [World.setRow_alloc_new, hW1])
            | (refine wpList_load_row rfl _ _ rfl wr.heap.size rfl 34 #[.string x, .string y, .string z] (0, 0) _ HX1.out Tryz.underlying34 rfl sizeAt ?_)
            | (go_at_call 32; (with_reducible refine (HDC.out).mono ?_); rintro e2 w2 ⟨rfl, hb2⟩; have HB2 := Lib.hid (stp HB1.out hb2); have HX2 := Lib.hid (kept_heap HX1.out hb2); have k1 := cellV w2 _ 1 _ _ _ HX2.out; clear hb2)
            | (go_at_call 33; (with_reducible refine (HC.out w2).mono ?_); rintro e3 w3 ⟨rfl, hb3⟩; have HB3 := Lib.hid (stp HB2.out hb3); have HX3 := Lib.hid (kept_heap HX2.out hb3); have k2 := cellV w3 _ 2 _ _ _ HX3.out; clear hb3)
            | (go_at_call 34; (with_reducible refine (HMY.out w3).mono ?_); rintro e4 w4 ⟨rfl, hb4⟩; have HB4 := Lib.hid (stp HB3.out hb4); clear hb4)
            | fail)
          go_ret
          exact ⟨rfl, HBW.out.trans (HB4.out.mono (Nat.le_of_lt HBR.out)), Nat.le_trans HBW.out.size HB4.out.size, by first | trivial | (intro h; cases h)⟩
        | true =>
          have HOK2 : Hid (declsOk (l.take (j + 1)) = true) := Lib.hid (by rw [htk]; unfold declsOk at hok ⊢; rw [List.all_append, hok]; simp [hdp, hmq])
          have HUP : Hid (∀ W, Below wr.heap.size wr W → ∃ w', (Instr.mapUpdate 43 (.map (some b)) (.string r) (.agg #[.string x, .string y, .string z])).run Tryz.prog W = .ok () w' ∧ MapD w' b (insA D (l.take (j + 1))) ∧ Below b W w') := Lib.hid fun W hW => by
            obtain ⟨w', k1, k2, _, _, k5⟩ := run_updD (hmd.kept (hW.block b HBR.out)) r p hrp ⟨x, y, z⟩
            refine ⟨w', k1, ?_, k5 b (Nat.le_refl _)⟩
            rw [htk, insA_snoc, hdp]
            dsimp only
            rw [hab]
            exact k2
          clear hok hmd hbw hx hy hz c0 c1 c2 htk hab ha hnm hdq hjl hbB hC hcq hct hcn hrp hmq hdp hys
          go_wp2_with (first
            | (refine wpList_store_row rfl _ _ _ rfl wr.heap.size #[.string x, .string y, .string z] rfl rfl 34 #[.string ⟨#[]⟩, .string ⟨#[]⟩, .string ⟨#[]⟩] (heap_alloc_new _ _) sizeAt rfl (by simp [Value.oneCell']) ?_; rw [World.setRow_alloc_new, hW1])
            | (refine wpList_load_row rfl _ _ rfl wr.heap.size rfl 34 #[.string x, .string y, .string z] (0, 0) _ HX1.out Tryz.underlying34 rfl sizeAt ?_)
            | (go_at_call 32; (with_reducible refine (HDC.out).mono ?_); rintro e2 w2 ⟨rfl, hb2⟩; have HB2 := Lib.hid (stp HB1.out hb2); have HX2 := Lib.hid (kept_heap HX1.out hb2); have k1 := cellV w2 _ 1 _ _ _ HX2.out; clear hb2)
            | (go_at_call 33; (with_reducible refine (HC.out w2).mono ?_); rintro e3 w3 ⟨rfl, hb3⟩; have HB3 := Lib.hid (stp HB2.out hb3); have HX3 := Lib.hid (kept_heap HX2.out hb3); have k2 := cellV w3 _ 2 _ _ _ HX3.out; clear hb3)
            | (go_at_call 34; (with_reducible refine (HMY.out w3).mono ?_); rintro e4 w4 ⟨rfl, hb4⟩; have HB4 := Lib.hid (stp HB3.out hb4); have HX4 := Lib.hid (kept_heap HX3.out hb4); obtain ⟨w5, hup, hmd5, hb5⟩ := HUP.out w4 HB4.out; have HUP5 := Lib.hid hup; have HMD5 := Lib.hid hmd5; have HB5 := Lib.hid ((HBW.out.trans (HB4.out.mono (Nat.le_of_lt HBR.out))).trans hb5); clear hb4 hup hmd5 hb5)
            | (refine wpList_load_row rfl _ _ rfl wr.heap.size rfl 34 #[.string x, .string y, .string z] (0, 0) _ HX4.out Tryz.underlying34 rfl sizeAt ?_)
            | (refine wpList_upd rfl (.tmp 31) (.tmp 32) (.tmp 33) 43 rfl rfl rfl rfl HUP5.out ?_)
            | fail)
          go_roundg (gk - 1)
          case measure => omega
          case rel => exact ⟨j + 1, by omega, by go_num, HOK2.out, HMD5.out, HB5.out⟩
    · obtain rfl : j = n := by omega
      have hjj : ¬ ((j : Int) < (j : Int)) := by omega
      rw [← HN.out, List.take_length] at hok hmd
      obtain rfl : q = true := by rw [← HQ.out]; exact hok
      have HF := Lib.hid hmd
      clear hok hmd hbw
      go_wp2_with fail
      go_ret
      exact ⟨rfl, HBW.out, HBW.out.size, by first | exact HF.out | exact fun _ => HF.out⟩
theorem eq_two (a b : ByteArray) (q : Bool) (h : decide (a.data.toList = b.data.toList) = q) : (a.toList == b.toList) = q := by
  rw [ByteArray.toList_eq, ByteArray.toList_eq, ← h]
  by_cases e : a.data.toList = b.data.toList
  · rw [e]; simp
  · rw [decide_eq_false e]; exact beq_eq_false_iff_ne.2 e
def keyIs (x y : ByteArray) (a : At) : Bool := decide (x.data.toList = a.space) && decide (y.data.toList = a.name)
theorem has1 (g : Nat) (x y z x2 y2 z2 : ByteArray) (w : World) (hg : w.heap[g]? = some (.cells #[.string x, .string y, .string z] 34 (0, 0))) (q : Bool) (hq : (decide (x.data.toList = x2.data.toList) && decide (y.data.toList = y2.data.toList)) = q) :
    Calls Tryz.prog 52 #[.agg #[.string x2, .string y2, .string z2], .pointer (some ⟨g, 0, none⟩)] w fun e w' => e = .returned (.bool q) ∧ Below w.heap.size w w' := by
  obtain ⟨q1, h1⟩ : ∃ q1, decide (x.data.toList = x2.data.toList) = q1 := ⟨_, rfl⟩
  obtain ⟨q2, h2⟩ : ∃ q2, decide (y.data.toList = y2.data.toList) = q2 := ⟨_, rfl⟩
  rw [h1, h2] at hq
  have f1 := eq_two x x2 q1 h1
  have f2 := eq_two y y2 q2 h2
  obtain ⟨W1, hW1⟩ : ∃ W1, w.alloc (.cells #[.string x2, .string y2, .string z2] 34) = W1 := ⟨_, rfl⟩
  have HB1 : Hid (Below w.heap.size w W1) := Lib.hid (by rw [← hW1]; exact stpA (Below.refl _ _) _)
  have hX := kept_heap hg HB1.out
  have hN : W1.heap[w.heap.size]? = some (.cells #[.string x2, .string y2, .string z2] 34 (0, 0)) := by rw [← hW1]; exact heap_alloc_new w _
  have k0 := cellV W1 _ 0 _ _ _ hX
  have k1 := cellV W1 _ 1 _ _ _ hX
  have n0 := cellV W1 _ 0 _ _ _ hN
  have n1 := cellV W1 _ 1 _ _ _ hN
  clear h1 h2 hX hN hg
  cases q1 with
  | false =>
    obtain rfl : q = false := hq.symm
    go_enter Tryz.func52, Tryz.ntmps52
    go_wp2_with fail
    go_ret
    exact ⟨rfl, HB1.out⟩
  | true =>
    obtain rfl : q2 = q := hq
    go_enter Tryz.func52, Tryz.ntmps52
    go_wp2_with fail
    go_ret
    exact ⟨rfl, HB1.out⟩
theorem ixHas (g : Nat) (x y z : ByteArray) (w : World) (A : Option Addr) (n c : Nat) (l : List At) (hg : w.heap[g]? = some (.cells #[.string x, .string y, .string z] 34 (0, 0))) (hr : RdB AtS w A l) (hn : l.length = n) (hm : n ≤ 1000000) (q : Bool) (hq : l.any (keyIs x y) = q) :
    Calls Tryz.prog 48 #[.slice A n c, .func (.func 52) #[] #[.pointer (some ⟨g, 0, none⟩)]] w fun e w' => Below w.heap.size w w' ∧ ∃ r : Int, e = .returned (.int .i64 r) ∧ decide (0 ≤ r) = q := by
  have HR := Lib.hid hr
  have HN := Lib.hid hn
  have HQ := Lib.hid hq
  have HG := Lib.hid hg
  have bn : (n : Int) ≤ 1000000 := by omega
  clear hr hn hq
  go_enter Tryz.func48, Tryz.ntmps48
  go_wp2_with fail
  go_loopg [8] n (fun gg i wr => ∃ j : Nat, j + gg = n ∧ i = .int .i64 j ∧ (l.take j).any (keyIs x y) = false ∧ Below w.heap.size w wr)
  case atStart => exact ⟨0, by omega, rfl, rfl, Below.refl _ _⟩
  case round =>
    obtain ⟨j, hjg, rfl, hany, hbw⟩ := hrel
    have HBW := Lib.hid hbw
    by_cases hlt : j < n
    · have hjl : j < l.length := by rw [HN.out]; exact hlt
      obtain ⟨b0, off, x2, y2, z2, hA, hbB, hx, hy, hz, c0, c1, c2⟩ := at_at HR.out hjl
      obtain ⟨a, ha⟩ : ∃ a, l[j]'hjl = a := ⟨_, rfl⟩
      rw [ha] at hx hy hz
      have q0 := (hbw.cell (p := ⟨b0, _, none⟩) hbB).trans c0
      have q1 := (hbw.cell (p := ⟨b0, _, none⟩) hbB).trans c1
      have q2 := (hbw.cell (p := ⟨b0, _, none⟩) hbB).trans c2
      have htk : l.take (j + 1) = l.take j ++ [a] := by rw [List.take_succ_eq_append_getElem hjl, ha]
      have bj : (0 : Int) ≤ (j : Int) ∧ (j : Int) < (n : Int) := by omega
      obtain ⟨kq, hkq⟩ : ∃ kq, (keyIs x y) a = kq := ⟨_, rfl⟩
      have HC : Hid (Calls Tryz.prog 52 #[.agg #[.string x2, .string y2, .string z2], .pointer (some ⟨g, 0, none⟩)] wr fun e w' => e = .returned (.bool kq) ∧ Below wr.heap.size wr w') := Lib.hid (has1 g x y z x2 y2 z2 wr (kept_heap HG.out hbw) kq (by rw [hx, hy]; exact hkq))
      subst hA
      cases kq with
      | true =>
        obtain rfl : q = true := by
          rw [← HQ.out, List.any_eq_true]
          exact ⟨a, by rw [← ha]; exact List.getElem_mem hjl, hkq⟩
        clear hany hbw hx hy hz c0 c1 c2 htk ha hjl hbB hkq
        go_wp2_with (first
          | (go_at_call 52; (with_reducible refine (HC.out).mono ?_); rintro e2 w2 ⟨rfl, hb2⟩; have HB2 := Lib.hid (stp HBW.out hb2); clear hb2)
          | fail)
        go_ret
        exact ⟨HB2.out, _, rfl, decide_eq_true (by omega)⟩
      | false =>
        have HA2 : Hid ((l.take (j + 1)).any (keyIs x y) = false) := Lib.hid (by rw [htk, List.any_append, hany]; simpa using hkq)
        clear hany hbw hx hy hz c0 c1 c2 htk ha hjl hbB hkq
        go_wp2_with (first
          | (go_at_call 52; (with_reducible refine (HC.out).mono ?_); rintro e2 w2 ⟨rfl, hb2⟩; have HB2 := Lib.hid (stp HBW.out hb2); clear hb2)
          | fail)
        go_roundg (gk - 1)
        case measure => omega
        case rel => exact ⟨j + 1, by omega, by go_num, HA2.out, HB2.out⟩
    · obtain rfl : j = n := by omega
      have hjj : ¬ ((j : Int) < (j : Int)) := by omega
      rw [← HN.out, List.take_length] at hany
      obtain rfl : q = false := by rw [← HQ.out]; exact hany
      clear hany hbw
      go_wp2_with fail
      go_ret
      exact ⟨HBW.out, _, rfl, by decide⟩
theorem has11 (x y z : ByteArray) (A : Option Addr) (n c : Nat) (l : List At) (w : World) (hr : RdB AtS w A l) (hn : l.length = n) (hm : n ≤ 1000000) (a : At) (hx : x.data.toList = a.space) (hy : y.data.toList = a.name) (q : Bool) (hq : hasK l a = q) :
    Calls Tryz.prog 37 #[.slice A n c, .agg #[.string x, .string y, .string z]] w fun e w' => e = .returned (.bool q) ∧ Below w.heap.size w w' := by
  have hq2 : l.any (keyIs x y) = q := by
    rw [← hq]
    unfold hasK
    congr 1
    funext b
    unfold keyIs key
    rw [hx, hy]
    by_cases h1 : a.space = b.space
    · by_cases h2 : a.name = b.name
      · rw [decide_eq_true h1, decide_eq_true h2, decide_eq_true (by rw [h1, h2])]; rfl
      · rw [decide_eq_false h2, Bool.and_false, decide_eq_false fun e => h2 (Prod.mk.inj e).2.symm]
    · rw [decide_eq_false h1, Bool.false_and, decide_eq_false fun e => h1 (Prod.mk.inj e).1.symm]
  have HBA : Hid (Below w.heap.size w (w.alloc (.cells #[.string x, .string y, .string z] 34))) := Lib.hid (stpA (Below.refl _ _) _)
  have HIX : Hid (Calls Tryz.prog 29 #[.slice A n c, .func (.func 52) #[] #[.pointer (some ⟨w.heap.size, 0, none⟩)]] (w.alloc (.cells #[.string x, .string y, .string z] 34)) fun e w' => e = .returned (.bool q) ∧ Below w.heap.size w w') := Lib.hid (by
    have h1 := ixHas w.heap.size x y z (w.alloc (.cells #[.string x, .string y, .string z] 34)) A n c l (heap_alloc_new w _) (hr.on HBA.out) hn hm q hq2
    have HX := Lib.hid h1
    clear h1 hr hn hq hq2
    go_enter Tryz.func29, Tryz.ntmps29
    go_wp2_with (first
      | (go_at_call 48; (with_reducible refine (HX.out).mono ?_); rintro e2 w2 ⟨hb2, r, rfl, hr2⟩; have HB2 := Lib.hid (stp HBA.out hb2); clear hb2)
      | fail)
    go_ret
    exact ⟨rfl, HB2.out⟩)
  clear hr hn hq hq2
  go_enter Tryz.func37, Tryz.ntmps37
  go_wp2_with (first
    | (go_at_call 29; (with_reducible refine (HIX.out).mono ?_); rintro e2 w2 ⟨rfl, hb2⟩; have HB2 := Lib.hid hb2; clear hb2)
    | fail)
  go_ret
  exact ⟨rfl, HB2.out⟩
end Hx
end Go.Proofs.YtlhjcdkkmloamaaGreatDoor
