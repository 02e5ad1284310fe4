/-
  Texts of one seat, put together: SpaB, SraA, TreK.
-/
import Derived.Test.YteobcohjikjalaaGreatDoorSp14
import Derived.Test.YteobcohjikjalaaGreatDoorSp12
import Derived.Test.YteobcohjikjalaaGreatDoorSp15
import Derived.Deep.WholeRow
import Derived.Test.YteobcohjikjalaaGreatDoorSp04
import Derived.Test.YteobcohjikjalaaGreatDoorSp03
set_option linter.unusedSimpArgs false
namespace Go.Proofs.YteobcohjikjalaaGreatDoor
open Go.RowKit
namespace Hx
open Lx Tr Tx Nmb Es Ns
set_option maxRecDepth 100000
set_option maxHeartbeats 16000000
set_option linter.unusedVariables false
theorem sz_le {x : ByteArray} {l : List UInt8} (h : x.data.toList = l) : x.size = l.length := by rw [← h, ba_len5]
theorem eq_lit (y : ByteArray) (l : List UInt8) (q : Bool) (h : decide (y.data.toList = l) = q) : (y.toList == l) = q := by
  rw [ByteArray.toList_eq, ← h]
  by_cases e : y.data.toList = l
  · rw [e]; simp
  · rw [decide_eq_false e]; exact beq_eq_false_iff_ne.2 e
theorem decl_some_iff (nm : List UInt8) : (decl nm).isSome = (decide (nm = xmlns5) || decide ((xmlns5 ++ [58]) <+: nm)) := by
  unfold decl
  cases hc : cutC nm with
  | none =>
    dsimp only
    have hno : ¬ (xmlns5 ++ [58]) <+: nm := fun ⟨r, hr⟩ => by
      have h1 := cutC_put (a := xmlns5) (b := r) (nameL_58 xmlns_name)
      rw [← hr, List.append_assoc] at hc
      have h2 : cutC (xmlns5 ++ ([58] ++ r)) = some (xmlns5, r) := h1
      rw [h2] at hc
      cases hc
    rw [decide_eq_false hno]
    by_cases h : nm = xmlns5
    · rw [if_pos h, decide_eq_true h]; rfl
    · rw [if_neg h, decide_eq_false h]; rfl
  | some x =>
    obtain ⟨a, b⟩ := x
    dsimp only
    obtain ⟨h1, _⟩ := cutC_some hc
    have hne : nm ≠ xmlns5 := fun h => by
      rw [h, nameL_cut xmlns_name] at hc
      cases hc
    rw [decide_eq_false hne]
    by_cases h : a = xmlns5
    · rw [if_pos h, decide_eq_true ⟨b, by rw [h1, h]; simp⟩]; rfl
    · rw [if_neg h, decide_eq_false]
      · rfl
      · rintro ⟨r, hr⟩
        have h2 : cutC (xmlns5 ++ ([58] ++ r)) = some (xmlns5, r) := cutC_put (a := xmlns5) (b := r) (nameL_58 xmlns_name)
        rw [← hr, List.append_assoc, h2] at hc
        injection hc with hc
        injection hc with hc _
        exact h hc.symm
theorem hp_xmlns (nm : List UInt8) : Lib.hasPrefix nm [120, 109, 108, 110, 115, 58] = decide ((xmlns5 ++ [58]) <+: nm) := by
  unfold Lib.hasPrefix
  by_cases h : (xmlns5 ++ [58]) <+: nm
  · rw [decide_eq_true h]; exact List.isPrefixOf_iff_prefix.2 h
  · rw [decide_eq_false h]; exact Bool.eq_false_iff.2 fun e => h (List.isPrefixOf_iff_prefix.1 e)
theorem declares11 (a : AB) (w : World) (q : Bool) (h : (decl a.y.data.toList).isSome = q) :
    Calls Tryz.prog 38 #[.agg #[.string a.x, .string a.y, .string a.z]] w fun e w' => e = .returned (.bool q) ∧ Below w.heap.size w w' := by
  obtain ⟨x, y, z⟩ := a
  dsimp only at h ⊢
  obtain ⟨q1, h1⟩ : ∃ q1, decide (y.data.toList = xmlns5) = q1 := ⟨_, rfl⟩
  obtain ⟨q2, h2⟩ : ∃ q2, Lib.hasPrefix y.data.toList [120, 109, 108, 110, 115, 58] = q2 := ⟨_, rfl⟩
  rw [decl_some_iff, ← hp_xmlns, h1, h2] at h
  have f1 := eq_lit y xmlns5 q1 h1
  unfold xmlns5 at f1
  have HP : Hid (∀ W : World, Calls Tryz.prog 59 #[.string y, .string ⟨#[120, 109, 108, 110, 115, 58]⟩] W fun e w' => e = .returned (.bool q2) ∧ w' = W) := Lib.hid fun W => (Tryz.strings_HasPrefix y ⟨#[120, 109, 108, 110, 115, 58]⟩ W).mono fun e w' h => ⟨by rw [h.1]; show _ = Ending.returned (Value.bool q2); rw [← h2], h.2⟩
  obtain ⟨W1, hW1⟩ : ∃ W1, w.alloc (.cells #[.string x, .string y, .string z] 41) = W1 := ⟨_, rfl⟩
  have HB1 : Hid (Below w.heap.size w W1) := Lib.hid (by rw [← hW1]; exact stpA (Below.refl _ _) _)
  have k1 := cellV W1 _ 1 _ _ _ (show W1.heap[w.heap.size]? = some (.cells #[.string x, .string y, .string z] 41 (0, 0)) by rw [← hW1]; exact heap_alloc_new w _)
  clear h1 h2
  cases q1 with
  | true =>
    obtain rfl : q = true := h.symm
    clear h
    go_enter Tryz.func38, Tryz.ntmps38
    go_wp2_with fail
    go_ret
    exact ⟨rfl, HB1.out⟩
  | false =>
    obtain rfl : q2 = q := h
    go_enter Tryz.func38, Tryz.ntmps38
    go_wp2_with (first
      | (go_at_call 59; (with_reducible refine (HP.out W1).mono ?_); rintro e2 w2 ⟨rfl, rfl⟩)
      | fail)
    go_ret
    exact ⟨rfl, HB1.out⟩
theorem maydecl11 (p v : ByteArray) (w : World) (q : Bool) (h : rightD p.data.toList v.data.toList = q) :
    Calls Tryz.prog 40 #[.string p, .string v] w fun e w' => e = .returned (.bool q) ∧ Below w.heap.size w w' := by
  obtain ⟨q1, h1⟩ : ∃ q1, decide (p.data.toList = xmlns5) = q1 := ⟨_, rfl⟩
  obtain ⟨q2, h2⟩ : ∃ q2, decide (p.data.toList = xml3) = q2 := ⟨_, rfl⟩
  obtain ⟨q3, h3⟩ : ∃ q3, decide (v.data.toList = ofXml) = q3 := ⟨_, rfl⟩
  obtain ⟨q4, h4⟩ : ∃ q4, decide (v.data.toList = ofXmlns) = q4 := ⟨_, rfl⟩
  obtain ⟨q5, h5⟩ : ∃ q5, decide (v.data.toList = []) = q5 := ⟨_, rfl⟩
  obtain ⟨q6, h6⟩ : ∃ q6, decide (p.data.toList = []) = q6 := ⟨_, rfl⟩
  have f1 := eq_lit p xmlns5 q1 h1
  have f2 := eq_lit p xml3 q2 h2
  have f3 := eq_lit v ofXml q3 h3
  have f4 := eq_lit v ofXmlns q4 h4
  have f5 : v.toList.isEmpty = q5 := by
    rw [em_lR, ← h5]
    cases v.data.toList <;> rfl
  have f6 : p.toList.isEmpty = q6 := by
    rw [em_lR, ← h6]
    cases p.data.toList <;> rfl
  unfold xmlns5 at f1
  unfold xml3 at f2
  unfold ofXml at f3
  unfold ofXmlns at f4
  have h := h
  unfold rightD at h
  have e4 : decide (v.data.toList ≠ ofXmlns) = !q4 := by rw [← h4]; simp
  have e3 : decide (v.data.toList ≠ ofXml) = !q3 := by rw [← h3]; simp
  have e5 : decide (v.data.toList ≠ []) = !q5 := by rw [← h5]; simp
  have e1 : decide (p.data.toList ≠ xmlns5) = !q1 := by rw [← h1]; simp
  rw [e1, e3, e4, e5, h3, h6] at h
  have h12 : q1 = true → q2 = false := fun e => by
    rw [e] at h1
    rw [← h2, of_decide_eq_true h1]
    decide
  have hres : q = if q1 = true then false else if q2 = true then q3 else (!q3 && (!q4 && (!q5 || q6))) := by
    cases q2 with
    | true =>
      rw [if_pos (of_decide_eq_true h2)] at h
      cases q1 with
      | true => have := h12 rfl; cases this
      | false => rw [← h]; rfl
    | false =>
      rw [if_neg (of_decide_eq_false h2)] at h
      rw [← h]
      have key : ∀ a b c d e : Bool, (!a && !b && !c && (d || !e)) = if a = true then false else if false = true then b else (!b && (!c && (!e || d))) := by decide
      exact key q1 q3 q4 q6 q5
  clear h h1 h2 h3 h4 h5 h6 e1 e3 e4 e5 h12
  cases q1 with
  | true =>
    obtain rfl : q = false := hres
    go_enter Tryz.func40, Tryz.ntmps40
    go_wp2_with fail
    go_ret
    exact ⟨rfl, Below.refl _ _⟩
  | false =>
    cases q2 with
    | true =>
      obtain rfl : q = q3 := hres
      go_enter Tryz.func40, Tryz.ntmps40
      go_wp2_with fail
      go_ret
      exact ⟨rfl, Below.refl _ _⟩
    | false =>
      cases q3 <;> cases q4 <;> cases q5 <;> cases q6
      · obtain rfl : q = true := hres
        go_enter Tryz.func40, Tryz.ntmps40
        go_wp2_with fail
        go_ret
        exact ⟨rfl, Below.refl _ _⟩
      · obtain rfl : q = true := hres
        go_enter Tryz.func40, Tryz.ntmps40
        go_wp2_with fail
        go_ret
        exact ⟨rfl, Below.refl _ _⟩
      · obtain rfl : q = false := hres
        go_enter Tryz.func40, Tryz.ntmps40
        go_wp2_with fail
        go_ret
        exact ⟨rfl, Below.refl _ _⟩
      · obtain rfl : q = true := hres
        go_enter Tryz.func40, Tryz.ntmps40
        go_wp2_with fail
        go_ret
        exact ⟨rfl, Below.refl _ _⟩
      · obtain rfl : q = false := hres
        go_enter Tryz.func40, Tryz.ntmps40
        go_wp2_with fail
        go_ret
        exact ⟨rfl, Below.refl _ _⟩
      · obtain rfl : q = false := hres
        go_enter Tryz.func40, Tryz.ntmps40
        go_wp2_with fail
        go_ret
        exact ⟨rfl, Below.refl _ _⟩
      · obtain rfl : q = false := hres
        go_enter Tryz.func40, Tryz.ntmps40
        go_wp2_with fail
        go_ret
        exact ⟨rfl, Below.refl _ _⟩
      · obtain rfl : q = false := hres
        go_enter Tryz.func40, Tryz.ntmps40
        go_wp2_with fail
        go_ret
        exact ⟨rfl, Below.refl _ _⟩
      · obtain rfl : q = false := hres
        go_enter Tryz.func40, Tryz.ntmps40
        go_wp2_with fail
        go_ret
        exact ⟨rfl, Below.refl _ _⟩
      · obtain rfl : q = false := hres
        go_enter Tryz.func40, Tryz.ntmps40
        go_wp2_with fail
        go_ret
        exact ⟨rfl, Below.refl _ _⟩
      · obtain rfl : q = false := hres
        go_enter Tryz.func40, Tryz.ntmps40
        go_wp2_with fail
        go_ret
        exact ⟨rfl, Below.refl _ _⟩
      · obtain rfl : q = false := hres
        go_enter Tryz.func40, Tryz.ntmps40
        go_wp2_with fail
        go_ret
        exact ⟨rfl, Below.refl _ _⟩
      · obtain rfl : q = false := hres
        go_enter Tryz.func40, Tryz.ntmps40
        go_wp2_with fail
        go_ret
        exact ⟨rfl, Below.refl _ _⟩
      · obtain rfl : q = false := hres
        go_enter Tryz.func40, Tryz.ntmps40
        go_wp2_with fail
        go_ret
        exact ⟨rfl, Below.refl _ _⟩
      · obtain rfl : q = false := hres
        go_enter Tryz.func40, Tryz.ntmps40
        go_wp2_with fail
        go_ret
        exact ⟨rfl, Below.refl _ _⟩
      · obtain rfl : q = false := hres
        go_enter Tryz.func40, Tryz.ntmps40
        go_wp2_with fail
        go_ret
        exact ⟨rfl, Below.refl _ _⟩
theorem cut11 (s : ByteArray) (hm : s.size ≤ 1000000) : ∃ (p r : ByteArray) (q : Bool), (∀ w : World, Calls Tryz.prog 39 #[.string s, .string ⟨#[58]⟩] w (fun e w' => e = .returned (.tuple #[.string p, .string r, .bool q]) ∧ Below w.heap.size w w')) ∧ q = (cutC s.data.toList).isSome ∧ (q = true → cutC s.data.toList = some (p.data.toList, r.data.toList) ∧ p.size ≤ 1000000 ∧ r.size ≤ 1000000) ∧ (q = false → r = ⟨#[]⟩) := by
  cases hc : cutC s.data.toList with
  | none =>
    refine ⟨s, ⟨#[]⟩, false, (fun w => xcut_58_none s w fun h => ?_), rfl, (fun h => by cases h), fun _ => rfl⟩
    have := cutC_some9 h
    rw [hc] at this
    cases this
  | some x =>
    obtain ⟨a, b⟩ := x
    obtain ⟨h1, h2⟩ := cutC_some hc
    have hl := congrArg List.length h1
    rw [ba_len5, List.length_append, List.length_cons] at hl
    refine ⟨⟨a.toArray⟩, ⟨b.toArray⟩, true, fun w => (xcut_58_some s ⟨a.toArray⟩ ⟨b.toArray⟩ w hm (by simpa using h1) (by simpa using h2)), rfl, (fun _ => ⟨by simp, ?_, ?_⟩), fun h => by cases h⟩
    · show a.toArray.size ≤ _
      rw [List.size_toArray]
      omega
    · show b.toArray.size ≤ _
      rw [List.size_toArray]
      omega
def EnvD (D : List (List UInt8 × AB)) (E : List (List At)) : Prop := ∀ p, lookE E p = match lookD D p with
  | some a => (a.z.data.toList, true)
  | none => ([], false)
theorem find11 (b : Nat) (D : List (List UInt8 × AB)) (E : List (List At)) (f : ByteArray) (w : World) (h : MapD w b D) (hE : EnvD D E) (hm : f.size ≤ 1000000) :
    Calls Tryz.prog 41 #[.map (some b), .string f] w fun e w' => (∃ s nm : ByteArray, e = .returned (.tuple #[.string s, .string nm, .bool (lookE E (Ns.nameP f.data.toList).1).2]) ∧ s.data.toList = (lookE E (Ns.nameP f.data.toList).1).1 ∧ nm.data.toList = (Ns.nameP f.data.toList).2) ∧ Below w.heap.size w w' := by
  obtain ⟨p, r, q, hC, hq, hqt, _⟩ := cut11 f hm
  have HC := Lib.hid (hC w)
  have HM := Lib.hid h
  cases q with
  | true =>
    obtain ⟨h1, _, _⟩ := hqt rfl
    have hnp : Ns.nameP f.data.toList = (p.data.toList, r.data.toList) := by unfold Ns.nameP; rw [h1]
    obtain ⟨A, hA⟩ : ∃ A, (lookD D p.data.toList).getD ⟨⟨#[]⟩, ⟨#[]⟩, ⟨#[]⟩⟩ = A := ⟨_, rfl⟩
    obtain ⟨k, hk⟩ : ∃ k, (lookD D p.data.toList).isSome = k := ⟨_, rfl⟩
    have hl : lookE E p.data.toList = (A.z.data.toList, k) := by
      rw [hE, ← hA, ← hk]
      cases lookD D p.data.toList <;> rfl
    have HL : Hid (∀ W, Below w.heap.size w W → (Instr.lookup 46 (.map (some b)) (.string p) true).run Tryz.prog W = .ok (.tuple #[.agg #[.string A.x, .string A.y, .string A.z], .bool k]) W) := Lib.hid fun W hW => by
      have := run_lookD (h.kept (hW.block b (by obtain ⟨es, cl, hb, _⟩ := h; exact (Array.getElem?_eq_some_iff.1 hb).1))) p _ rfl
      rw [hA, hk] at this
      exact this
    rw [hnp]
    dsimp only
    rw [hl]
    clear h hE hC hqt h1 hnp hA hk hl hq
    go_enter Tryz.func41, Tryz.ntmps41
    go_wp2_with (first
      | (go_at_call 39; (with_reducible refine (HC.out).mono ?_); rintro e1 w1 ⟨rfl, hb1⟩; have HB1 := Lib.hid hb1; clear hb1)
      | (refine wpList_look rfl (.tmp 20) (.tmp 21) 46 rfl rfl rfl (HL.out _ HB1.out) ?_)
      | (refine wpList_store_row rfl _ _ _ rfl w1.heap.size #[.string A.x, .string A.y, .string A.z] rfl rfl 41 #[.string ⟨#[]⟩, .string ⟨#[]⟩, .string ⟨#[]⟩] (heap_alloc_new _ _) sizeAt rfl (by simp [Value.oneCell']) ?_; rw [World.setRow_alloc_new]; obtain ⟨W2, hW2⟩ : ∃ W2, w1.alloc (.cells #[.string A.x, .string A.y, .string A.z] 41) = W2 := ⟨_, rfl⟩; rw [hW2]; have HB2 : Hid (Below w.heap.size w W2) := Lib.hid (by rw [← hW2]; exact stpA HB1.out _); have k2 := cellV W2 _ 2 _ _ _ (show W2.heap[w1.heap.size]? = some (.cells #[.string A.x, .string A.y, .string A.z] 41 (0, 0)) by rw [← hW2]; exact heap_alloc_new w1 _))
      | fail)
    go_ret3
    exact ⟨⟨_, _, rfl, rfl, rfl⟩, HB2.out⟩
  | false =>
    have hcn : cutC f.data.toList = none := by
      cases hc : cutC f.data.toList with
      | none => rfl
      | some x => rw [hc] at hq; cases hq
    have hnp : Ns.nameP f.data.toList = ([], f.data.toList) := by unfold Ns.nameP; rw [hcn]
    obtain ⟨A, hA⟩ : ∃ A, (lookD D []).getD ⟨⟨#[]⟩, ⟨#[]⟩, ⟨#[]⟩⟩ = A := ⟨_, rfl⟩
    obtain ⟨k, hk⟩ : ∃ k, (lookD D []).isSome = k := ⟨_, rfl⟩
    have hl : lookE E [] = (A.z.data.toList, k) := by
      rw [hE, ← hA, ← hk]
      cases lookD D [] <;> rfl
    have HL : Hid (∀ W, Below w.heap.size w W → (Instr.lookup 46 (.map (some b)) (.string ⟨#[]⟩) true).run Tryz.prog W = .ok (.tuple #[.agg #[.string A.x, .string A.y, .string A.z], .bool k]) W) := Lib.hid fun W hW => by
      have := run_lookD (h.kept (hW.block b (by obtain ⟨es, cl, hb, _⟩ := h; exact (Array.getElem?_eq_some_iff.1 hb).1))) ⟨#[]⟩ [] rfl
      rw [hA, hk] at this
      exact this
    rw [hnp]
    dsimp only
    rw [hl]
    clear h hE hC hqt hcn hnp hA hk hl hq
    go_enter Tryz.func41, Tryz.ntmps41
    go_wp2_with (first
      | (go_at_call 39; (with_reducible refine (HC.out).mono ?_); rintro e1 w1 ⟨rfl, hb1⟩; have HB1 := Lib.hid hb1; clear hb1)
      | (refine wpList_look rfl (.tmp 20) (.tmp 21) 46 rfl rfl rfl (HL.out _ HB1.out) ?_)
      | (refine wpList_store_row rfl _ _ _ rfl w1.heap.size #[.string A.x, .string A.y, .string A.z] rfl rfl 41 #[.string ⟨#[]⟩, .string ⟨#[]⟩, .string ⟨#[]⟩] (heap_alloc_new _ _) sizeAt rfl (by simp [Value.oneCell']) ?_; rw [World.setRow_alloc_new]; obtain ⟨W2, hW2⟩ : ∃ W2, w1.alloc (.cells #[.string A.x, .string A.y, .string A.z] 41) = W2 := ⟨_, rfl⟩; rw [hW2]; have HB2 : Hid (Below w.heap.size w W2) := Lib.hid (by rw [← hW2]; exact stpA HB1.out _); have k2 := cellV W2 _ 2 _ _ _ (show W2.heap[w1.heap.size]? = some (.cells #[.string A.x, .string A.y, .string A.z] 41 (0, 0)) by rw [← hW2]; exact heap_alloc_new w1 _))
      | fail)
    go_ret3
    exact ⟨⟨_, _, rfl, rfl, rfl⟩, HB2.out⟩
def RdeclTo (y : ByteArray) (w : World) (e : Ending) (w' : World) : Prop := ∃ (u : ByteArray) (q : Bool), e = .returned (.tuple #[.string u, .bool q]) ∧ q = (decl y.data.toList).isSome ∧ (∀ p, decl y.data.toList = some p → u.data.toList = p) ∧ u.size ≤ y.size ∧ ∃ n, w' = w.drewN n
theorem rdecl11 (y : ByteArray) (w : World) (hm : y.size ≤ 1000000) :
    Calls Tryz.prog 67 #[.string y] w (RdeclTo y w) := by
  cases hc : cutC y.data.toList with
  | none =>
    have hd : decl y.data.toList = if y.data.toList = xmlns5 then some [] else none := by unfold decl; rw [hc]
    have HC : Hid (∀ W, Calls Tryz.prog 65 #[.string y] W fun e w' => e = .returned (.tuple #[.string ⟨#[]⟩, .string y, .bool false]) ∧ ∃ n, w' = W.drewN n) := Lib.hid fun W => rparts_none y W hm hc
    obtain ⟨q1, h1⟩ : ∃ q1, decide (y.data.toList = xmlns5) = q1 := ⟨_, rfl⟩
    have f1 := eq_lit y xmlns5 q1 h1
    unfold xmlns5 at f1
    have HD : Hid (q1 = (decl y.data.toList).isSome ∧ ∀ p, decl y.data.toList = some p → (⟨#[]⟩ : ByteArray).data.toList = p) := Lib.hid (by
      rw [hd]
      by_cases h : y.data.toList = xmlns5
      · rw [if_pos h, ← h1, decide_eq_true h]; exact ⟨rfl, fun p hp => by rw [← Option.some.inj hp]⟩
      · rw [if_neg h, ← h1, decide_eq_false h]; exact ⟨rfl, fun p hp => by cases hp⟩)
    clear hm hc hd h1
    go_enter Tryz.func67, Tryz.ntmps67
    go_wp2_with (first
      | (go_at_call 65; (with_reducible refine (HC.out w).mono ?_); rintro e2 w2 ⟨rfl, n, rfl⟩)
      | fail)
    go_ret2
    exact ⟨_, _, rfl, HD.out.1, HD.out.2, Nat.zero_le _, _, rfl⟩
  | some x =>
    obtain ⟨a, b⟩ := x
    have hl : b.length ≤ y.size := by
      have := congrArg List.length (cutC_some hc).1
      rw [ba_len5, List.length_append, List.length_cons] at this
      omega
    obtain ⟨s, rfl⟩ : ∃ s : ByteArray, s.data.toList = a := ⟨⟨a.toArray⟩, by simp⟩
    obtain ⟨u, rfl⟩ : ∃ u : ByteArray, u.data.toList = b := ⟨⟨b.toArray⟩, by simp⟩
    have hd : decl y.data.toList = if s.data.toList = xmlns5 then some u.data.toList else none := by unfold decl; rw [hc]
    have HC : Hid (∀ W, Calls Tryz.prog 65 #[.string y] W fun e w' => e = .returned (.tuple #[.string s, .string u, .bool true]) ∧ ∃ n, w' = W.drewN n) := Lib.hid fun W => rparts_some y s u W hm hc
    obtain ⟨q1, h1⟩ : ∃ q1, decide (s.data.toList = xmlns5) = q1 := ⟨_, rfl⟩
    have f1 := eq_lit s xmlns5 q1 h1
    unfold xmlns5 at f1
    have HD : Hid (q1 = (decl y.data.toList).isSome ∧ (∀ p, decl y.data.toList = some p → u.data.toList = p) ∧ u.size ≤ y.size) := Lib.hid (by
      rw [hd]
      refine ⟨?_, ?_, by rw [← ba_len5]; exact hl⟩
      · by_cases h : s.data.toList = xmlns5
        · rw [if_pos h, ← h1, decide_eq_true h]; rfl
        · rw [if_neg h, ← h1, decide_eq_false h]; rfl
      · intro p hp
        by_cases h : s.data.toList = xmlns5
        · rw [if_pos h] at hp; exact Option.some.inj hp
        · rw [if_neg h] at hp; cases hp)
    clear hm hc hd h1 hl
    go_enter Tryz.func67, Tryz.ntmps67
    go_wp2_with (first
      | (go_at_call 65; (with_reducible refine (HC.out w).mono ?_); rintro e2 w2 ⟨rfl, n, rfl⟩)
      | fail)
    go_ret2
    exact ⟨_, _, rfl, HD.out.1, HD.out.2.1, HD.out.2.2, _, rfl⟩
theorem rright11 (p v : ByteArray) (w : World) (q : Bool) (h : rightD p.data.toList v.data.toList = q) :
    Calls Tryz.prog 68 #[.string p, .string v] w fun e w' => e = .returned (.bool q) ∧ w' = w := by
  obtain ⟨q1, h1⟩ : ∃ q1, decide (p.data.toList = xmlns5) = q1 := ⟨_, rfl⟩
  obtain ⟨q2, h2⟩ : ∃ q2, decide (p.data.toList = xml3) = q2 := ⟨_, rfl⟩
  obtain ⟨q3, h3⟩ : ∃ q3, decide (v.data.toList = ofXml) = q3 := ⟨_, rfl⟩
  obtain ⟨q4, h4⟩ : ∃ q4, decide (v.data.toList = ofXmlns) = q4 := ⟨_, rfl⟩
  obtain ⟨q5, h5⟩ : ∃ q5, decide (v.data.toList = []) = q5 := ⟨_, rfl⟩
  obtain ⟨q6, h6⟩ : ∃ q6, decide (p.data.toList = []) = q6 := ⟨_, rfl⟩
  have f1 := eq_lit p xmlns5 q1 h1
  have f2 := eq_lit p xml3 q2 h2
  have f3 := eq_lit v ofXml q3 h3
  have f4 := eq_lit v ofXmlns q4 h4
  have f5 : v.toList.isEmpty = q5 := by
    rw [em_lR, ← h5]
    cases v.data.toList <;> rfl
  have f6 : p.toList.isEmpty = q6 := by
    rw [em_lR, ← h6]
    cases p.data.toList <;> rfl
  unfold xmlns5 at f1
  unfold xml3 at f2
  unfold ofXml at f3
  unfold ofXmlns at f4
  have h := h
  unfold rightD at h
  have e4 : decide (v.data.toList ≠ ofXmlns) = !q4 := by rw [← h4]; simp
  have e3 : decide (v.data.toList ≠ ofXml) = !q3 := by rw [← h3]; simp
  have e5 : decide (v.data.toList ≠ []) = !q5 := by rw [← h5]; simp
  have e1 : decide (p.data.toList ≠ xmlns5) = !q1 := by rw [← h1]; simp
  rw [e1, e3, e4, e5, h3, h6] at h
  have hres : q = if q2 = true then q3 else (!q1 && !q3 && !q4 && (q6 || !q5)) := by
    cases q2 with
    | true => rw [if_pos (of_decide_eq_true h2)] at h; rw [← h]; rfl
    | false => rw [if_neg (of_decide_eq_false h2)] at h; rw [← h]; rfl
  clear h h1 h2 h3 h4 h5 h6 e1 e3 e4 e5
  cases q2 with
  | true =>
    obtain rfl : q = q3 := hres
    go_enter Tryz.func68, Tryz.ntmps68
    go_wp2_with fail
    go_ret
    exact ⟨rfl, rfl⟩
  | false =>
    cases q1 <;> cases q3 <;> cases q4 <;> cases q5 <;> cases q6
    · obtain rfl : q = true := hres
      go_enter Tryz.func68, Tryz.ntmps68
      go_wp2_with fail
      go_ret
      exact ⟨rfl, rfl⟩
    · obtain rfl : q = true := hres
      go_enter Tryz.func68, Tryz.ntmps68
      go_wp2_with fail
      go_ret
      exact ⟨rfl, rfl⟩
    · obtain rfl : q = false := hres
      go_enter Tryz.func68, Tryz.ntmps68
      go_wp2_with fail
      go_ret
      exact ⟨rfl, rfl⟩
    · obtain rfl : q = true := hres
      go_enter Tryz.func68, Tryz.ntmps68
      go_wp2_with fail
      go_ret
      exact ⟨rfl, rfl⟩
    · obtain rfl : q = false := hres
      go_enter Tryz.func68, Tryz.ntmps68
      go_wp2_with fail
      go_ret
      exact ⟨rfl, rfl⟩
    · obtain rfl : q = false := hres
      go_enter Tryz.func68, Tryz.ntmps68
      go_wp2_with fail
      go_ret
      exact ⟨rfl, rfl⟩
    · obtain rfl : q = false := hres
      go_enter Tryz.func68, Tryz.ntmps68
      go_wp2_with fail
      go_ret
      exact ⟨rfl, rfl⟩
    · obtain rfl : q = false := hres
      go_enter Tryz.func68, Tryz.ntmps68
      go_wp2_with fail
      go_ret
      exact ⟨rfl, rfl⟩
    · obtain rfl : q = false := hres
      go_enter Tryz.func68, Tryz.ntmps68
      go_wp2_with fail
      go_ret
      exact ⟨rfl, rfl⟩
    · obtain rfl : q = false := hres
      go_enter Tryz.func68, Tryz.ntmps68
      go_wp2_with fail
      go_ret
      exact ⟨rfl, rfl⟩
    · obtain rfl : q = false := hres
      go_enter Tryz.func68, Tryz.ntmps68
      go_wp2_with fail
      go_ret
      exact ⟨rfl, rfl⟩
    · obtain rfl : q = false := hres
      go_enter Tryz.func68, Tryz.ntmps68
      go_wp2_with fail
      go_ret
      exact ⟨rfl, rfl⟩
    · obtain rfl : q = false := hres
      go_enter Tryz.func68, Tryz.ntmps68
      go_wp2_with fail
      go_ret
      exact ⟨rfl, rfl⟩
    · obtain rfl : q = false := hres
      go_enter Tryz.func68, Tryz.ntmps68
      go_wp2_with fail
      go_ret
      exact ⟨rfl, rfl⟩
    · obtain rfl : q = false := hres
      go_enter Tryz.func68, Tryz.ntmps68
      go_wp2_with fail
      go_ret
      exact ⟨rfl, rfl⟩
    · obtain rfl : q = false := hres
      go_enter Tryz.func68, Tryz.ntmps68
      go_wp2_with fail
      go_ret
      exact ⟨rfl, rfl⟩
    · obtain rfl : q = false := hres
      go_enter Tryz.func68, Tryz.ntmps68
      go_wp2_with fail
      go_ret
      exact ⟨rfl, rfl⟩
    · obtain rfl : q = false := hres
      go_enter Tryz.func68, Tryz.ntmps68
      go_wp2_with fail
      go_ret
      exact ⟨rfl, rfl⟩
    · obtain rfl : q = false := hres
      go_enter Tryz.func68, Tryz.ntmps68
      go_wp2_with fail
      go_ret
      exact ⟨rfl, rfl⟩
    · obtain rfl : q = false := hres
      go_enter Tryz.func68, Tryz.ntmps68
      go_wp2_with fail
      go_ret
      exact ⟨rfl, rfl⟩
    · obtain rfl : q = false := hres
      go_enter Tryz.func68, Tryz.ntmps68
      go_wp2_with fail
      go_ret
      exact ⟨rfl, rfl⟩
    · obtain rfl : q = false := hres
      go_enter Tryz.func68, Tryz.ntmps68
      go_wp2_with fail
      go_ret
      exact ⟨rfl, rfl⟩
    · obtain rfl : q = false := hres
      go_enter Tryz.func68, Tryz.ntmps68
      go_wp2_with fail
      go_ret
      exact ⟨rfl, rfl⟩
    · obtain rfl : q = false := hres
      go_enter Tryz.func68, Tryz.ntmps68
      go_wp2_with fail
      go_ret
      exact ⟨rfl, rfl⟩
    · obtain rfl : q = false := hres
      go_enter Tryz.func68, Tryz.ntmps68
      go_wp2_with fail
      go_ret
      exact ⟨rfl, rfl⟩
    · obtain rfl : q = false := hres
      go_enter Tryz.func68, Tryz.ntmps68
      go_wp2_with fail
      go_ret
      exact ⟨rfl, rfl⟩
    · obtain rfl : q = false := hres
      go_enter Tryz.func68, Tryz.ntmps68
      go_wp2_with fail
      go_ret
      exact ⟨rfl, rfl⟩
    · obtain rfl : q = false := hres
      go_enter Tryz.func68, Tryz.ntmps68
      go_wp2_with fail
      go_ret
      exact ⟨rfl, rfl⟩
    · obtain rfl : q = false := hres
      go_enter Tryz.func68, Tryz.ntmps68
      go_wp2_with fail
      go_ret
      exact ⟨rfl, rfl⟩
    · obtain rfl : q = false := hres
      go_enter Tryz.func68, Tryz.ntmps68
      go_wp2_with fail
      go_ret
      exact ⟨rfl, rfl⟩
    · obtain rfl : q = false := hres
      go_enter Tryz.func68, Tryz.ntmps68
      go_wp2_with fail
      go_ret
      exact ⟨rfl, rfl⟩
    · obtain rfl : q = false := hres
      go_enter Tryz.func68, Tryz.ntmps68
      go_wp2_with fail
      go_ret
      exact ⟨rfl, rfl⟩
end Hx
end Go.Proofs.YteobcohjikjalaaGreatDoor
set_option linter.unusedSimpArgs false
namespace Go.Proofs.YteobcohjikjalaaGreatDoor
namespace Hx
open Lx Tr Tx Nmb Es
set_option linter.unusedVariables false
def holdB (n : Nd) : Bool := ndOk n && decide (0 ≤ n.many)
theorem kidsD_add {g : List Nd → Option (List Nd)} : ∀ (k k2 : Nat) (b b1 : Bool) (l m : List Nd), kidsD g k b l = some (b1, m) → kidsD g (k + k2) b l = kidsD g k2 b1 m := by
  intro k
  induction k with
  | zero =>
    intro k2 b b1 l m h
    rw [kidsD] at h
    obtain ⟨rfl, rfl⟩ := (Prod.mk.injEq _ _ _ _).mp (Option.some.inj h)
    rw [Nat.zero_add]
  | succ k ih =>
    intro k2 b b1 l m h
    cases l with
    | nil => rw [kidsD] at h; cases h
    | cons n l =>
      rw [kidsD] at h
      by_cases hb : b = true ∧ n.kind = 2
      · rw [if_pos hb] at h; cases h
      · rw [if_neg hb] at h
        rw [show k + 1 + k2 = (k + k2) + 1 by omega, kidsD, if_neg hb]
        cases hn : g (n :: l) with
        | none => rw [hn] at h; cases h
        | some y =>
          rw [hn] at h
          exact ih k2 _ _ _ _ h
theorem kidsD_fail {g : List Nd → Option (List Nd)} : ∀ (k k2 : Nat) (b : Bool) (l : List Nd), kidsD g k b l = none → kidsD g (k + k2) b l = none := by
  intro k
  induction k with
  | zero => intro k2 b l h; rw [kidsD] at h; cases h
  | succ k ih =>
    intro k2 b l h
    cases l with
    | nil => rw [show k + 1 + k2 = (k + k2) + 1 by omega, kidsD]
    | cons n l =>
      rw [kidsD] at h
      rw [show k + 1 + k2 = (k + k2) + 1 by omega, kidsD]
      by_cases hb : b = true ∧ n.kind = 2
      · rw [if_pos hb]
      · rw [if_neg hb] at h ⊢
        cases hn : g (n :: l) with
        | none => rfl
        | some y =>
          rw [hn] at h
          exact ih k2 _ _ h
theorem kids_next {d j m : Nat} {b : Bool} {l : List Nd} {v : List Nd} {p' : Nat} (h : kidsD (restD d) j false l = some (b, v.drop p')) (hj : j < m) :
    (v.length ≤ p' → kidsD (restD d) m false l = none) ∧
    (∀ hp : p' < v.length, (b = true ∧ (v[p']'hp).kind = 2 → kidsD (restD d) m false l = none) ∧ (restD d (v.drop p') = none → kidsD (restD d) m false l = none) ∧
      (∀ r, ¬ (b = true ∧ (v[p']'hp).kind = 2) → restD d (v.drop p') = some r → kidsD (restD d) (j + 1) false l = some (decide ((v[p']'hp).kind = 2), r))) := by
  have e1 := kidsD_add j 1 false b l _ h
  have fail : kidsD (restD d) 1 b (v.drop p') = none → kidsD (restD d) m false l = none := by
    intro hf
    rw [hf] at e1
    have := kidsD_fail (j + 1) (m - (j + 1)) false l e1
    rwa [show j + 1 + (m - (j + 1)) = m by omega] at this
  refine ⟨fun hp => fail (by rw [List.drop_of_length_le hp, kidsD]), fun hp => ⟨fun hb => fail ?_, fun hn => fail ?_, fun r hb hr => ?_⟩⟩
  · rw [List.drop_eq_getElem_cons hp, kidsD, if_pos hb]
  · rw [List.drop_eq_getElem_cons hp] at hn ⊢
    rw [kidsD]
    by_cases hb : b = true ∧ (v[p']'hp).kind = 2
    · rw [if_pos hb]
    · rw [if_neg hb, hn]
  · rw [e1]
    rw [List.drop_eq_getElem_cons hp] at hr ⊢
    rw [kidsD, if_neg hb, hr]
    rfl
theorem restD_eq {d : Nat} {v : List Nd} {p : Nat} (hp : p < v.length) : restD d (v.drop p) = if holdB (v[p]'hp) = true ∧ ¬ ((v[p]'hp).kind = 1 ∧ d = 0) then (kidsD (restD (d - 1)) (v[p]'hp).many.toNat false (v.drop (p + 1))).map (·.2) else none := by
  rw [List.drop_eq_getElem_cons hp]
  have hB : holdB (v[p]'hp) = true ↔ ndOk (v[p]'hp) = true ∧ 0 ≤ (v[p]'hp).many := by unfold holdB; simp
  cases d with
  | zero =>
    rw [restD]
    by_cases h : ndOk (v[p]'hp) = true ∧ (v[p]'hp).kind = 2
    · have h0 := (ndOk_two h.1 h.2).1
      rw [if_pos h, if_pos ⟨hB.2 ⟨h.1, by omega⟩, by omega⟩, h0]
      rfl
    · rw [if_neg h, if_neg]
      rintro ⟨h1, h2⟩
      have h3 := hB.1 h1
      rcases ndOk_kind h3.1 with h4 | h4
      · exact h2 ⟨h4, rfl⟩
      · exact h ⟨h3.1, h4⟩
  | succ d =>
    rw [restD]
    by_cases h : ndOk (v[p]'hp) = true ∧ 0 ≤ (v[p]'hp).many
    · rw [if_pos h, if_pos ⟨hB.2 h, by omega⟩]
      rfl
    · rw [if_neg h, if_neg]
      rintro ⟨h1, _⟩
      exact h (hB.1 h1)
theorem mayV_one {v : List Nd} (h : v.length ≤ 512) (h1 : ∃ n l, v = n :: l ∧ n.kind = 1) : mayV v = decide (restD 12 v = some []) := by
  rw [Bool.eq_iff_iff, mayV_iff, decide_eq_true_eq]
  exact ⟨fun k => k.2.2, fun k => ⟨h, h1, k⟩⟩
theorem mayV_no {v : List Nd} (h : ¬ (v.length ≤ 512 ∧ ∃ n l, v = n :: l ∧ n.kind = 1)) : mayV v = false := by
  rw [Bool.eq_false_iff]
  intro hm
  have := mayV_iff.1 hm
  exact h ⟨this.1, this.2.1⟩
def checkV (v : List Nd) : Int := if mayV v = true then 0 else 8
end Hx
end Go.Proofs.YteobcohjikjalaaGreatDoor
