/-
  Texts of one seat, put together: SpaM, SpaN, SpaA, MapK, TreA, TreE.
-/
import Derived.Test.YtlhjcdkkmloamaaGreatDoorSp02
import Derived.Test.YtlhjcdkkmloamaaGreatDoorSp00
import Derived.Test.YtlhjcdkkmloamaaGreatDoorSp09
import Derived.Shelf.SlMaps.Clone
import Derived.DeepKeys4
import Derived.WideKeyEntry
import Derived.Test.YtlhjcdkkmloamaaGreatDoorSp08
import Derived.Test.YtlhjcdkkmloamaaGreatDoorSp06
import Derived.Test.YtlhjcdkkmloamaaGreatDoorSp05
import Derived.RegionTactic
import Derived.ChangeAlike
import Derived.Maps.OwnSet
import Derived.Deep.QuietTactic
import Derived.BigQuiet
set_option linter.unusedSimpArgs false
namespace Go.Proofs.YtlhjcdkkmloamaaGreatDoor
namespace Ns
open Lx Tr Tx Nmb Es
set_option linter.unusedVariables false
def walkK (g : List Nd → (List Nd × Bool) × List Nd) : Nat → List Nd → (List Nd × Bool) × List Nd
  | 0, l => (([], true), l)
  | k + 1, l => (((g l).1.1 ++ (walkK g k (g l).2).1.1, (g l).1.2 && (walkK g k (g l).2).1.2), (walkK g k (g l).2).2)
def walkD {ε : Type} (f : ε → Nd → Nd × Bool) (dn : ε → Nd → ε) : Nat → ε → List Nd → (List Nd × Bool) × List Nd
  | _, _, [] => (([], true), [])
  | 0, _, n :: l => (([n], true), l)
  | d + 1, e, n :: l => if n.kind = 2 then (([n], true), l) else
    (((f e n).1 :: (walkK (walkD f dn d (dn e n)) n.many.toNat l).1.1, (f e n).2 && (walkK (walkD f dn d (dn e n)) n.many.toNat l).1.2), (walkK (walkD f dn d (dn e n)) n.many.toNat l).2)
theorem ndOk_mk {s nm : List UInt8} {l : List At} {m : Int} (h1 : fullL nm = true) (h2 : okT s = true) (h3 : atsOk l = true) : ndOk ⟨1, s, nm, l, [], m⟩ = true := by
  unfold ndOk
  rw [if_pos rfl]
  simp [h1, h2, h3]
theorem atsOk_iff {l : List At} : atsOk l = true ↔ (∀ a ∈ l, fullL a.name = true ∧ okT a.value = true ∧ okT a.space = true) ∧ (l.map key).Nodup ∧ l.length ≤ 16 := by
  unfold atsOk
  rw [Bool.and_eq_true, Bool.and_eq_true, decide_eq_true_eq, decide_eq_true_eq, List.all_eq_true, and_assoc]
  refine and_congr ⟨fun h a ha => ?_, fun h a ha => ?_⟩ Iff.rfl
  · have := h a ha
    unfold atOk at this
    rw [Bool.and_eq_true, Bool.and_eq_true] at this
    exact ⟨this.1.1, this.1.2, this.2⟩
  · unfold atOk
    rw [(h a ha).1, (h a ha).2.1, (h a ha).2.2]; rfl
section gen
variable {ε ι : Type} {f : ε → Nd → Nd × Bool} {dn : ε → Nd → ε} {f2 : ι → Nd → Nd × Bool} {dn2 : ι → Nd → ι}
theorem walkK_rest {d : Nat} (hd : ∀ l r e, restD d l = some r → (walkD f dn d e l).2 = r ∧ (walkD f dn d e l).1.1.length + r.length = l.length) (e : ε) : ∀ (k : Nat) (b : Bool) (l : List Nd) (b' : Bool) (r : List Nd), kidsD (restD d) k b l = some (b', r) → (walkK (walkD f dn d e) k l).2 = r ∧ (walkK (walkD f dn d e) k l).1.1.length + r.length = l.length := by
  intro k
  induction k with
  | zero =>
    intro b l b' r h
    rw [kidsD] at h
    obtain ⟨rfl, rfl⟩ := (Prod.mk.injEq _ _ _ _).mp (Option.some.inj h)
    rw [walkK]
    exact ⟨rfl, by simp⟩
  | succ k ih =>
    intro b l b' r h
    cases l with
    | nil => rw [kidsD] at h; cases h
    | cons n l =>
      rw [kidsD] at h
      by_cases hb : b = true ∧ n.kind = 2
      · rw [if_pos hb] at h; cases h
      · rw [if_neg hb] at h
        cases hn : restD d (n :: l) with
        | none => rw [hn] at h; cases h
        | some y =>
          rw [hn] at h
          obtain ⟨h1, h2⟩ := hd _ _ e hn
          obtain ⟨h3, h4⟩ := ih _ _ _ _ h
          rw [walkK, h1]
          refine ⟨h3, ?_⟩
          show ((walkD f dn d e (n :: l)).1.1 ++ (walkK (walkD f dn d e) k y).1.1).length + r.length = _
          rw [List.length_append]
          omega
theorem walkD_rest : ∀ (d : Nat) (l r : List Nd) (e : ε), restD d l = some r → (walkD f dn d e l).2 = r ∧ (walkD f dn d e l).1.1.length + r.length = l.length := by
  intro d
  induction d with
  | zero =>
    intro l r e h
    cases l with
    | nil => rw [restD] at h; cases h
    | cons n l =>
      rw [restD] at h
      by_cases hn : ndOk n = true ∧ n.kind = 2
      · rw [if_pos hn] at h
        injection h with h
        subst h
        rw [walkD]
        exact ⟨rfl, by simp; omega⟩
      · rw [if_neg hn] at h; cases h
  | succ d ih =>
    intro l r e h
    cases l with
    | nil => rw [restD] at h; cases h
    | cons n l =>
      rw [restD] at h
      by_cases hn : ndOk n = true ∧ 0 ≤ n.many
      · rw [if_pos hn] at h
        cases hk : kidsD (restD d) n.many.toNat false l with
        | none => rw [hk] at h; cases h
        | some y =>
          rw [hk] at h
          obtain ⟨b', y⟩ := y
          have h : y = r := Option.some.inj h
          subst h
          rw [walkD]
          by_cases h2 : n.kind = 2
          · rw [if_pos h2]
            have hm := (ndOk_two hn.1 h2).1
            rw [hm] at hk
            have hk : some (false, l) = some (b', y) := hk
            obtain ⟨_, rfl⟩ := (Prod.mk.injEq _ _ _ _).mp (Option.some.inj hk)
            exact ⟨rfl, by simp; omega⟩
          · rw [if_neg h2]
            obtain ⟨h3, h4⟩ := walkK_rest ih (dn e n) _ _ _ _ _ hk
            exact ⟨h3, by show ((f e n).1 :: (walkK (walkD f dn d (dn e n)) n.many.toNat l).1.1).length + y.length = _; rw [List.length_cons, List.length_cons]; omega⟩
      · rw [if_neg hn] at h; cases h
def xmlns5 : List UInt8 := [120, 109, 108, 110, 115]
def xml3 : List UInt8 := [120, 109, 108]
def ofXml : List UInt8 := [104, 116, 116, 112, 58, 47, 47, 119, 119, 119, 46, 119, 51, 46, 111, 114, 103, 47, 88, 77, 76, 47, 49, 57, 57, 56, 47, 110, 97, 109, 101, 115, 112, 97, 99, 101]
def ofXmlns : List UInt8 := [104, 116, 116, 112, 58, 47, 47, 119, 119, 119, 46, 119, 51, 46, 111, 114, 103, 47, 50, 48, 48, 48, 47, 120, 109, 108, 110, 115, 47]
def decl (nm : List UInt8) : Option (List UInt8) := match cutC nm with
  | some (a, b) => if a = xmlns5 then some b else none
  | none => if nm = xmlns5 then some [] else none
def rightD (p v : List UInt8) : Bool := if p = xml3 then decide (v = ofXml) else decide (p ≠ xmlns5) && decide (v ≠ ofXml) && decide (v ≠ ofXmlns) && (decide (p = []) || decide (v ≠ []))
def declL : List At → List UInt8 → Option (List UInt8)
  | [], _ => none
  | a :: l, p => if decl a.name = some p then some a.value else declL l p
def lookE : List (List At) → List UInt8 → List UInt8 × Bool
  | [], p => if p = xml3 then (ofXml, true) else ([], decide (p = []))
  | l :: E, p => match declL l p with
    | some v => (v, true)
    | none => lookE E p
def nameP (nm : List UInt8) : List UInt8 × List UInt8 := match cutC nm with
  | some x => x
  | none => ([], nm)
def atE (E : List (List At)) (a : At) : At × Bool := match cutC a.name with
  | some (x, y) => (⟨(lookE E x).1, y, a.value⟩, (lookE E x).2)
  | none => (⟨[], a.name, a.value⟩, true)
def hasK (l : List At) (a : At) : Bool := l.any fun b => decide (key b = key a)
def atsE (E : List (List At)) : List At → List At → List At × Bool
  | acc, [] => (acc, true)
  | acc, a :: l => match decl a.name with
    | some p => ((atsE E acc l).1, rightD p a.value && (atsE E acc l).2)
    | none => ((atsE E (acc ++ [(atE E a).1]) l).1, ((atE E a).2 && !hasK acc (atE E a).1) && (atsE E (acc ++ [(atE E a).1]) l).2)
def ndE (E : List (List At)) (n : Nd) : Nd × Bool := (⟨1, (lookE E (nameP n.name).1).1, (nameP n.name).2, (atsE E [] n.attrs).1, [], n.many⟩, (lookE E (nameP n.name).1).2 && (atsE E [] n.attrs).2)
def resF (E : List (List At)) (n : Nd) : Nd × Bool := ndE (n.attrs :: E) n
def resDn (E : List (List At)) (n : Nd) : List (List At) := n.attrs :: E
def resW (v : List Nd) : (List Nd × Bool) × List Nd := walkD resF resDn 12 [] v
def resolveR (v : List Nd) : List Nd × Int := if mayV v = true ∧ rawV v = true then (if (resW v).1.2 = true then ((resW v).1.1, 0) else ([], 110)) else ([], 8)
def mayAn (a : At) : Bool := nameL a.name && !(decide (a.space = []) && decide (a.name = xmlns5)) && decide (a.space ≠ ofXmlns)
def mayNs (n : Nd) : Bool := (decide (n.kind ≠ 1) || nameL n.name) && decide (n.space ≠ ofXml) && decide (n.space ≠ ofXmlns) && n.attrs.all mayAn
def mayS (v : List Nd) : Bool := v.all mayNs && mayV v
def checkS (v : List Nd) : Int := if mayS v = true then 0 else 8
def spacesL : List (List UInt8) → List At → List (List UInt8)
  | acc, [] => acc
  | acc, a :: l => if a.space = [] ∨ a.space = ofXml ∨ a.space ∈ acc then spacesL acc l else spacesL (acc ++ [a.space]) l
def prefN (i : Nat) : List UInt8 := 110 :: dg (i + 1)
def bareA (S : List (List UInt8)) (a : At) : At :=
  if a.space = [] then ⟨[], a.name, a.value⟩ else if a.space = ofXml then ⟨[], xml3 ++ 58 :: a.name, a.value⟩ else ⟨[], prefN (S.idxOf a.space) ++ 58 :: a.name, a.value⟩
def numD : Nat → List (List UInt8) → List At
  | _, [] => []
  | i, s :: S => ⟨[], xmlns5 ++ 58 :: prefN i, s⟩ :: numD (i + 1) S
def ownD (outer : List UInt8) (n : Nd) : List At := if n.space = outer then [] else [⟨[], xmlns5, n.space⟩]
def bareL (outer : List UInt8) (n : Nd) : List At := ownD outer n ++ (numD 0 (spacesL [] n.attrs) ++ n.attrs.map (bareA (spacesL [] n.attrs)))
def bareN (outer : List UInt8) (n : Nd) : Nd := ⟨1, [], n.name, bareL outer n, [], n.many⟩
def bareF (outer : List UInt8) (n : Nd) : Nd × Bool := (bareN outer n, decide ((bareL outer n).length ≤ 16))
def bareDn (outer : List UInt8) (n : Nd) : List UInt8 := n.space
def bareW (v : List Nd) (outer : List UInt8) : (List Nd × Bool) × List Nd := walkD bareF bareDn 12 outer v
def bareR (v : List Nd) (outer : List UInt8) : List Nd × Int := if mayS v = true ∧ okT outer = true ∧ outer ≠ ofXml ∧ outer ≠ ofXmlns then (if (bareW v outer).1.2 = true then ((bareW v outer).1.1, 0) else ([], 4)) else ([], 8)
theorem cutC_put : ∀ {a b : List UInt8}, (58 : UInt8) ∉ a → cutC (a ++ 58 :: b) = some (a, b)
  | [], b, _ => by rw [List.nil_append, cutC, if_pos rfl]
  | c :: a, b, h => by
    rw [List.mem_cons, not_or] at h
    rw [List.cons_append, cutC, if_neg (Ne.symm h.1), cutC_put h.2]
    rfl
theorem cutC_out : ∀ {l : List UInt8}, (58 : UInt8) ∉ l → cutC l = none
  | [], _ => rfl
  | c :: l, h => by
    rw [List.mem_cons, not_or] at h
    rw [cutC, if_neg (Ne.symm h.1), cutC_out h.2]
    rfl
theorem nameL_58 {l : List UInt8} (h : nameL l = true) : (58 : UInt8) ∉ l := fun hm => by
  have := nameL_all h 58 hm
  revert this
  decide
theorem nameL_cut {l : List UInt8} (h : nameL l = true) : cutC l = none := cutC_out (nameL_58 h)
theorem nameL_full {l : List UInt8} (h : nameL l = true) : fullL l = true := by
  unfold fullL
  rw [nameL_cut h]
  exact h
theorem full_two {a b : List UInt8} (ha : nameL a = true) (hb : nameL b = true) : fullL (a ++ 58 :: b) = true := by
  unfold fullL
  rw [cutC_put (nameL_58 ha)]
  simp [ha, hb]
theorem xmlns_name : nameL xmlns5 = true := by decide +kernel
theorem decl_num (p : List UInt8) : decl (xmlns5 ++ 58 :: p) = some p := by
  unfold decl
  rw [cutC_put (nameL_58 xmlns_name)]
  simp
theorem decl_other {a b : List UInt8} (h : nameL a = true) (hne : a ≠ xmlns5) : decl (a ++ 58 :: b) = none := by
  unfold decl
  rw [cutC_put (nameL_58 h)]
  simp [hne]
theorem declL_app : ∀ (l m : List At) (p : List UInt8), declL (l ++ m) p = match declL l p with | some v => some v | none => declL m p
  | [], m, p => rfl
  | a :: l, m, p => by
    rw [List.cons_append, declL, declL]
    by_cases h : decl a.name = some p
    · rw [if_pos h, if_pos h]
    · rw [if_neg h, if_neg h]
      exact declL_app l m p
theorem declL_no : ∀ {l : List At} {p : List UInt8}, (∀ a ∈ l, decl a.name ≠ some p) → declL l p = none
  | [], p, _ => rfl
  | a :: l, p, h => by
    rw [declL, if_neg (h a List.mem_cons_self)]
    exact declL_no fun b hb => h b (List.mem_cons_of_mem _ hb)
theorem declL_mem : ∀ {l : List At} {p v : List UInt8}, declL l p = some v → ∃ a ∈ l, decl a.name = some p ∧ a.value = v
  | [], p, v, h => by cases h
  | a :: l, p, v, h => by
    rw [declL] at h
    by_cases hd : decl a.name = some p
    · rw [if_pos hd] at h
      exact ⟨a, List.mem_cons_self, hd, Option.some.inj h⟩
    · rw [if_neg hd] at h
      obtain ⟨b, hb, h1⟩ := declL_mem h
      exact ⟨b, List.mem_cons_of_mem _ hb, h1⟩
theorem numD_len : ∀ (i : Nat) (S : List (List UInt8)), (numD i S).length = S.length
  | _, [] => rfl
  | i, s :: S => by rw [numD, List.length_cons, numD_len, List.length_cons]
theorem spacesL_mem : ∀ (l : List At) (acc : List (List UInt8)), (∀ s ∈ acc, s ∈ spacesL acc l) ∧ (∀ a ∈ l, a.space ≠ [] → a.space ≠ ofXml → a.space ∈ spacesL acc l) ∧ ∀ s ∈ spacesL acc l, s ∈ acc ∨ ∃ a ∈ l, a.space = s ∧ s ≠ [] ∧ s ≠ ofXml
  | [], acc => ⟨fun s h => h, (fun a h => by cases h), fun s h => .inl h⟩
  | a :: l, acc => by
    rw [spacesL]
    by_cases h : a.space = [] ∨ a.space = ofXml ∨ a.space ∈ acc
    · rw [if_pos h]
      obtain ⟨h1, h2, h3⟩ := spacesL_mem l acc
      refine ⟨h1, fun b hb k1 k2 => ?_, fun s hs => ?_⟩
      · rcases List.mem_cons.1 hb with rfl | hb
        · rcases h with h | h | h
          · exact absurd h k1
          · exact absurd h k2
          · exact h1 _ h
        · exact h2 b hb k1 k2
      · rcases h3 s hs with k | ⟨b, hb, k⟩
        · exact .inl k
        · exact .inr ⟨b, List.mem_cons_of_mem _ hb, k⟩
    · rw [if_neg h]
      obtain ⟨h1, h2, h3⟩ := spacesL_mem l (acc ++ [a.space])
      refine ⟨fun s hs => h1 s (List.mem_append.2 (.inl hs)), fun b hb k1 k2 => ?_, fun s hs => ?_⟩
      · rcases List.mem_cons.1 hb with rfl | hb
        · exact h1 _ (List.mem_append.2 (.inr (List.mem_singleton.2 rfl)))
        · exact h2 b hb k1 k2
      · rcases h3 s hs with k | ⟨b, hb, k⟩
        · rcases List.mem_append.1 k with k | k
          · exact .inl k
          · obtain rfl := List.mem_singleton.1 k
            exact .inr ⟨a, List.mem_cons_self, rfl, fun e => h (.inl e), fun e => h (.inr (.inl e))⟩
        · exact .inr ⟨b, List.mem_cons_of_mem _ hb, k⟩
theorem fullL_cut {l a b : List UInt8} (h : fullL l = true) (hc : cutC l = some (a, b)) : nameL a = true ∧ nameL b = true := by
  unfold fullL at h
  rw [hc] at h
  simp only [Bool.and_eq_true] at h
  exact ⟨h.2, h.1⟩
theorem mayS_iff {v : List Nd} : mayS v = true ↔ (∀ n ∈ v, mayNs n = true) ∧ mayV v = true := by
  unfold mayS
  rw [Bool.and_eq_true, List.all_eq_true]
end gen
end Ns
end Go.Proofs.YtlhjcdkkmloamaaGreatDoor
namespace Go.Proofs.YtlhjcdkkmloamaaGreatDoor
open Go.RowKit
namespace Hx
open Lx Tr Tx Nmb Es Ns
set_option maxRecDepth 100000
set_option maxHeartbeats 16000000
set_option linter.unusedVariables false
def atV (a : AB) : Value := .agg #[.string a.x, .string a.y, .string a.z]
def keyV (k : List UInt8) : Value := .string ⟨k.toArray⟩
def lookD : List (List UInt8 × AB) → List UInt8 → Option AB
  | [], _ => none
  | p :: D, k => if p.1 = k then some p.2 else lookD D k
def insD : List (List UInt8 × AB) → List UInt8 → AB → List (List UInt8 × AB)
  | [], k, a => [(k, a)]
  | p :: D, k, a => if p.1 = k then (k, a) :: D else p :: insD D k a
theorem lookD_ins : ∀ (D : List (List UInt8 × AB)) (k : List UInt8) (a : AB) (j : List UInt8), lookD (insD D k a) j = if k = j then some a else lookD D j
  | [], k, a, j => rfl
  | p :: D, k, a, j => by
    rw [insD]
    by_cases h : p.1 = k
    · rw [if_pos h, lookD, lookD]
      by_cases hj : k = j
      · rw [if_pos hj, if_pos hj]
      · rw [if_neg hj, if_neg hj, if_neg (by rw [h]; exact hj)]
    · rw [if_neg h, lookD, lookD, lookD_ins D k a j]
      by_cases hj : p.1 = j
      · rw [if_pos hj, if_pos hj, if_neg (by rw [← hj]; exact fun e => h e.symm)]
      · rw [if_neg hj, if_neg hj]
def MapD (w : World) (b : Nat) (D : List (List UInt8 × AB)) : Prop := ∃ (es : Array MapEntry) (clock : Nat), w.heap[b]? = some (.map es clock) ∧ es.toList.map (fun e => (e.key, e.val)) = D.map fun p => (keyV p.1, atV p.2)
theorem MapD.kept {w w' : World} {b : Nat} {D : List (List UInt8 × AB)} (h : MapD w b D) (hb : w'.heap[b]? = w.heap[b]?) : MapD w' b D := by
  obtain ⟨es, clock, h1, h2⟩ := h
  exact ⟨es, clock, hb.trans h1, h2⟩
theorem keyV_same (k j : List UInt8) : Instr.sameNow .string (keyV k) (keyV j) = some (decide (k = j)) := by
  obtain ⟨r, h1, h2⟩ := MapKept.sameNow_of_keys (d := .string) (a := keyV k) (b := keyV j) trivial trivial
  rw [h1]
  congr 1
  by_cases h : k = j
  · rw [decide_eq_true h]
    exact h2.2 (by rw [h])
  · rw [decide_eq_false h]
    refine Bool.eq_false_iff.2 fun hr => h ?_
    have e := h2.1 hr
    unfold keyV at e
    injection e with e
    have := congrArg (fun b : ByteArray => b.data.toList) e
    simpa using this
theorem find_key (k : List UInt8) : ∀ (es : List MapEntry) (D : List (List UInt8 × AB)) (i : Nat), es.map (fun e => (e.key, e.val)) = D.map (fun p => (keyV p.1, atV p.2)) →
    (lookD D k = none ∧ Instr.findNow .string (keyV k) es i = some none ∧ insD D k = fun a => D ++ [(k, a)]) ∨ ∃ (a : AB) (D1 D2 : List (List UInt8 × AB)), lookD D k = some a ∧ Instr.findNow .string (keyV k) es i = some (some (i + D1.length, atV a)) ∧ D = D1 ++ (k, a) :: D2 ∧ insD D k = fun a' => D1 ++ (k, a') :: D2
  | [], [], i, _ => .inl ⟨rfl, rfl, rfl⟩
  | [], _ :: _, i, h => by cases h
  | _ :: _, [], i, h => by cases h
  | e :: es, p :: D, i, h => by
    rw [List.map_cons, List.map_cons] at h
    injection h with h1 h2
    injection h1 with h3 h4
    rw [lookD, Instr.findNow, h3, keyV_same]
    by_cases hp : p.1 = k
    · right
      refine ⟨p.2, [], D, by rw [if_pos hp], ?_, by rw [← hp]; rfl, by funext a; rw [insD, if_pos hp]; rfl⟩
      rw [decide_eq_true hp.symm, h4]
      rfl
    · rw [decide_eq_false fun e => hp e.symm, if_neg hp]
      rcases find_key k es D (i + 1) h2 with ⟨k1, k2, k3⟩ | ⟨a, D1, D2, k1, k2, k3, k4⟩
      · left
        refine ⟨k1, k2, ?_⟩
        funext a
        rw [insD, if_neg hp, k3]
        rfl
      · right
        refine ⟨a, p :: D1, D2, k1, ?_, by rw [k3]; rfl, by funext a'; rw [insD, if_neg hp, k4]; rfl⟩
        dsimp only
        rw [k2, List.length_cons]
        congr 3
        omega
theorem underD : Tryz.prog.underlying 43 = some (.map 9 34) := by kernel_rfl
theorem run_lookD {w : World} {b : Nat} {D : List (List UInt8 × AB)} (h : MapD w b D) (s : ByteArray) (k : List UInt8) (hs : s.data.toList = k) :
    (Instr.lookup 43 (.map (some b)) (.string s) true).run Tryz.prog w = .ok (.tuple #[atV ((lookD D k).getD ⟨⟨#[]⟩, ⟨#[]⟩, ⟨#[]⟩⟩), .bool (lookD D k).isSome]) w := by
  obtain ⟨es, clock, hb, he⟩ := h
  have hkv : Value.string s = keyV k := by unfold keyV; rw [← hs, ← ba_eq5 s]
  rw [hkv]
  have hk : MapKept.IsKey .string (keyV k) := trivial
  have hc := MapKept.run_checkKey (w := w) Tryz.underlying9 hk es.isEmpty 9999
  rcases find_key k es.toList D 0 he with ⟨k1, k2, _⟩ | ⟨a, D1, D2, k1, k2, _, _⟩
  · have hf := MapKept.run_findKey (w := w) Tryz.underlying9 k2
    rw [k1]
    simp [Instr.lookup, run_underlying underD, MapKept.run_getObj_map hb, hc, hf, Result.andThen, atV]
  · have hf := MapKept.run_findKey (w := w) Tryz.underlying9 k2
    rw [k1]
    simp [Instr.lookup, run_underlying underD, MapKept.run_getObj_map hb, hc, hf, Result.andThen]
theorem run_updD {w : World} {b : Nat} {D : List (List UInt8 × AB)} (h : MapD w b D) (s : ByteArray) (k : List UInt8) (hs : s.data.toList = k) (a : AB) :
    ∃ w', (Instr.mapUpdate 43 (.map (some b)) (.string s) (atV a)).run Tryz.prog w = .ok () w' ∧ MapD w' b (insD D k a) ∧ w'.heap.size = w.heap.size ∧ (∀ q, q ≠ b → w'.heap[q]? = w.heap[q]?) ∧ ∀ B, B ≤ b → Below B w w' := by
  obtain ⟨es, clock, hb, he⟩ := h
  have hkv : Value.string s = keyV k := by unfold keyV; rw [← hs, ← ba_eq5 s]
  rw [hkv]
  have hk : MapKept.IsKey .string (keyV k) := trivial
  have hc := MapKept.run_checkKey (w := w) Tryz.underlying9 hk false 9999
  have hbel : ∀ (o : Obj) (B : Nat), B ≤ b → Below B w { w with heap := w.heap.setIfInBounds b o } := fun o B hB => ⟨rfl, rfl, rfl, by simp, fun q hq => (MapKept.heap_set hb).2 q (by omega)⟩
  rcases find_key k es.toList D 0 he with ⟨k1, k2, k3⟩ | ⟨a0, D1, D2, k1, k2, k3, k4⟩
  · have hf := MapKept.run_findKey (w := w) Tryz.underlying9 k2
    refine ⟨_, ?_, ⟨_, _, (MapKept.heap_set (o' := .map (es.push ⟨keyV k, atV a, clock⟩) (clock + 1)) hb).1, ?_⟩, by simp, (MapKept.heap_set hb).2, hbel _⟩
    · simp [Instr.mapUpdate, run_underlying underD, MapKept.run_getObj_map hb, hc, hf, MapKept.run_setObj_map _ hb, Result.andThen]
    · rw [k3]
      simp [he]
  · have hf := MapKept.run_findKey (w := w) Tryz.underlying9 k2
    rw [Nat.zero_add] at hf
    have hlen : es.toList.length = D.length := by have := congrArg List.length he; simpa using this
    have hj : D1.length < es.size := by rw [← Array.length_toList, hlen, k3]; simp
    have hkey : (es[D1.length]'hj).key = keyV k := by
      have := congrArg (fun l => l[D1.length]?) he
      simp [k3] at this
      obtain ⟨e0, h1, h2, _⟩ := this
      rw [Array.getElem?_eq_getElem hj] at h1
      rw [Option.some.inj h1]
      exact h2
    have hst := MapKept.run_keyThatStays (P := Tryz.prog) (w := w) hk
    refine ⟨_, ?_, ⟨_, _, (MapKept.heap_set (o' := .map (es.modify D1.length fun e => { e with key := keyV k, val := atV a }) clock) hb).1, ?_⟩, by simp, (MapKept.heap_set hb).2, hbel _⟩
    · simp [Instr.mapUpdate, run_underlying underD, MapKept.run_getObj_map hb, hc, hf, hkey, hst, hj, MapKept.run_setObj_map _ hb, Result.andThen]
    · rw [k4, Array.toList_modify]
      rw [k3] at he
      have hs : es.toList = es.toList.take D1.length ++ (es[D1.length]'hj) :: es.toList.drop (D1.length + 1) := by
        rw [← Array.getElem_toList, ← List.drop_eq_getElem_cons (by simpa using hj), List.take_append_drop]
      have hl1 : (es.toList.take D1.length).length = D1.length := by rw [List.length_take, Array.length_toList]; exact Nat.min_eq_left (Nat.le_of_lt hj)
      obtain ⟨l1, hl1'⟩ : ∃ l1, es.toList.take D1.length = l1 := ⟨_, rfl⟩
      obtain ⟨l2, hl2'⟩ : ∃ l2, es.toList.drop (D1.length + 1) = l2 := ⟨_, rfl⟩
      obtain ⟨x, hx⟩ : ∃ x, es[D1.length]'hj = x := ⟨_, rfl⟩
      rw [hl1', hl2', hx] at hs
      rw [hl1'] at hl1
      rw [hs] at he ⊢
      rw [List.map_append, List.map_append, List.map_cons, List.map_cons] at he
      obtain ⟨e1, e2⟩ := List.append_inj he (by rw [List.length_map, List.length_map, hl1])
      have e3 := (List.cons.inj e2).2
      have hmod : ∀ (l1 : List MapEntry) (x : MapEntry) (l2 : List MapEntry) (f : MapEntry → MapEntry), (l1 ++ x :: l2).modify l1.length f = l1 ++ f x :: l2 := fun l1 x l2 f => by
        induction l1 with
        | nil => rfl
        | cons y l1 ih => rw [List.cons_append, List.length_cons, List.modify_succ_cons, ih]; rfl
      rw [← hl1, hmod, List.map_append, List.map_append, List.map_cons, List.map_cons, e1, e3]
theorem clone11 (b : Nat) (D : List (List UInt8 × AB)) (w : World) (h : MapD w b D) : Calls Tryz.prog 16 #[.map (some b)] w fun e w' => e = .returned (.map (some w.heap.size)) ∧ MapD w' w.heap.size D ∧ Below w.heap.size w w' ∧ w'.heap.size = w.heap.size + 1 := by
  obtain ⟨es, clock, hb, he⟩ := h
  have hq := fun w => run_eql_map_nil_sl (P := Tryz.prog) w 43 _ _ (some b) underD
  go_enter Tryz.func16, Tryz.ntmps16
  go_wp2
  rw [run_callFunc_extern Tryz.func31 (by kernel_rfl) (by kernel_rfl) (by kernel_rfl) (e := Extern.MapsClone.clone) (by kernel_rfl), run_maps_clone_sl w 43 hb]
  simp only [Result.andThen]
  rw [Oper.upon_value]
  go_wp2
  rw [run_typeAssert_map_sl _ 43 _ _ _ _ underD]
  simp only [Result.andThen]
  rw [Oper.upon_value]
  go_wp2
  go_ret
  exact ⟨rfl, ⟨es, clock, heap_alloc_new w _, he⟩, stpA (Below.refl _ _) _, World.size_alloc ..⟩
end Hx
end Go.Proofs.YtlhjcdkkmloamaaGreatDoor
namespace Go.Proofs.YtlhjcdkkmloamaaGreatDoor
open Go.RowKit
namespace Hx
open Lx Tr
set_option maxRecDepth 100000
set_option maxHeartbeats 16000000
set_option linter.unusedVariables false
abbrev Ky := List UInt8 × List UInt8
def kyV (p : Ky) : Value := .agg #[.string ⟨p.1.toArray⟩, .string ⟨p.2.toArray⟩, .string ⟨#[]⟩]
theorem laidOutK : laidOutB Tryz.prog = true := by kernel_rfl
theorem rowK : (34 : TypeId) < Tryz.prog.types.size := of_decide_eq_true (by kernel_rfl)
theorem lawK : WideMaps.KeyLaw Tryz.prog 34 := deep_law_laid laidOutK (m := 2) (by omega) rowK (by kernel_rfl) (by rw [Tryz.underlying34])
theorem keyTK : Tryz.prog.keyType 34 = true := by kernel_rfl
def SmallK (p : Ky) : Prop := p.1.length ≤ 1000000 ∧ p.2.length ≤ 1000000
theorem keyOfK {p : Ky} (h : SmallK p) : ∃ l, keyOf Tryz.prog 34 (kyV p) = some l := by
  obtain ⟨c1, _, _, _, c3, _⟩ := cells_oneN
  have h1 : (⟨p.1.toArray⟩ : ByteArray).size ≤ maxLen := by
    have := h.1
    show p.1.toArray.size ≤ maxLen
    rw [List.size_toArray]
    unfold maxLen
    omega
  have h2 : (⟨p.2.toArray⟩ : ByteArray).size ≤ maxLen := by
    have := h.2
    show p.2.toArray.size ≤ maxLen
    rw [List.size_toArray]
    unfold maxLen
    omega
  have hf : (kyV p).formed Tryz.prog 34 = true := by
    unfold kyV
    simp [Value.formed, Tryz.underlying34, c3]
  have hk := keyTK
  unfold keyOf
  rw [Tryz.underlying34]
  dsimp only
  rw [if_pos (by rw [hk, hf]; rfl)]
  obtain ⟨m, hm⟩ : ∃ m, Tryz.prog.types.size + 1 = m + 2 := ⟨Tryz.prog.types.size - 1, by have h9 : (34 : Nat) < Tryz.prog.types.size := rowK; omega⟩
  rw [hm]
  simp [kyV, Value.cells, c1, c3, Program.keyLits, Tryz.underlying34, Tryz.underlying9, h1, h2, show (⟨#[]⟩ : ByteArray).size ≤ maxLen from Nat.zero_le _]
theorem kyV_inj {p q : Ky} (h : kyV p = kyV q) : p = q := by
  unfold kyV at h
  simp at h
  exact Prod.ext h.1 h.2
def MapN (w : World) (b : Nat) (D : List Ky) (m : Nat) : Prop := ((∀ p ∈ D, SmallK p) ∧ D.Nodup) ∧
  ∃ (es : Array MapEntry) (clock : Nat), w.heap[b]? = some (.map es clock) ∧ (∀ e ∈ es.toList, e.born < clock) ∧ (es.toList.map (·.born)).Nodup ∧ es.toList.map (·.key) = D.map kyV ∧ ∀ e ∈ es.toList, ∃ c : Nat, e.val = .int .i64 c ∧ c ≤ m
def addK (D : List Ky) (p : Ky) : List Ky := if p ∈ D then D else D ++ [p]
theorem MapN.kept {w w' : World} {b : Nat} {D : List Ky} {m : Nat} (h : MapN w b D m) (hb : w'.heap[b]? = w.heap[b]?) : MapN w' b D m := by
  obtain ⟨h0, es, clock, h1, h2⟩ := h
  exact ⟨h0, es, clock, hb.trans h1, h2⟩
structure Only (b : Nat) (w w' : World) : Prop where
  os : w'.os = w.os
  tape : w'.tape = w.tape
  output : w'.output = w.output
  size : w'.heap.size = w.heap.size
  block : ∀ k, k ≠ b → w'.heap[k]? = w.heap[k]?
theorem Only.below {b B : Nat} {w w' : World} (h : Only b w w') (hB : B ≤ b) : Below B w w' := ⟨h.os, h.tape, h.output, by rw [h.size]; exact Nat.le_refl _, fun k hk => h.block k (by omega)⟩
theorem Only.trans {b : Nat} {w w1 w2 : World} (h : Only b w w1) (k : Only b w1 w2) : Only b w w2 := ⟨k.os.trans h.os, k.tape.trans h.tape, k.output.trans h.output, k.size.trans h.size, fun x hx => (k.block x hx).trans (h.block x hx)⟩
theorem Only.set {b : Nat} {w : World} {o o' : Obj} (hb : w.heap[b]? = some o) : Only b w { w with heap := w.heap.setIfInBounds b o' } :=
  ⟨rfl, rfl, rfl, by simp, fun k hk => (MapKept.heap_set hb).2 k hk⟩
def T0 : TypeId := 101
theorem underK : Tryz.prog.underlying T0 = some (.map 34 3) := by kernel_rfl
theorem map_step {w : World} {b : Nat} {D : List Ky} {m : Nat} {p : Ky} (h : MapN w b D m) (hp : SmallK p) :
    ∃ (c st : Nat) (W1 W2 : World), c ≤ m ∧ (Instr.lookup T0 (.map (some b)) (kyV p) false).run Tryz.prog w = .ok (.int .i64 c) w ∧
      (Instr.mapEntry T0 (.map (some b)) (kyV p)).run Tryz.prog w = .ok (.tuple #[.int .i64 c, .int .i64 st]) W1 ∧
      (Instr.lookup T0 (.map (some b)) (kyV p) false).run Tryz.prog W1 = .ok (.int .i64 c) W1 ∧
      (Instr.entryStore T0 (.map (some b)) (.int .i64 st) (.int .i64 ((c : Int) + 1))).run Tryz.prog W1 = .ok () W2 ∧ MapN W2 b (addK D p) (m + 1) ∧ Only b w W1 ∧ Only b W1 W2 := by
  obtain ⟨⟨h0, h9⟩, es, clock, hb, h1, h2, h3, h4⟩ := h
  obtain ⟨l, hl⟩ := keyOfK hp
  have hks : ∀ e ∈ es.toList, ∃ l, keyOf Tryz.prog 34 e.key = some l := by
    intro e he
    have : e.key ∈ D.map kyV := by rw [← h3]; exact List.mem_map.2 ⟨e, he, rfl⟩
    obtain ⟨q, hq, e2⟩ := List.mem_map.1 this
    rw [← e2]
    exact keyOfK (h0 q hq)
  have hmem : p ∈ D ↔ ∃ e ∈ es.toList, e.key = kyV p := by
    constructor
    · intro hq
      have : kyV p ∈ es.toList.map (·.key) := by rw [h3]; exact List.mem_map.2 ⟨p, hq, rfl⟩
      obtain ⟨e, he, e2⟩ := List.mem_map.1 this
      exact ⟨e, he, e2⟩
    · rintro ⟨e, he, e2⟩
      have : e.key ∈ D.map kyV := by rw [← h3]; exact List.mem_map.2 ⟨e, he, rfl⟩
      obtain ⟨q, hq, e3⟩ := List.mem_map.1 this
      rw [← kyV_inj (e3.trans e2)]
      exact hq
  have look : ∀ (W : World) (es' : Array MapEntry) (cl : Nat) (v : Value) (r : Option (Nat × Value)), W.heap[b]? = some (.map es' cl) → (Instr.findKey 34 (kyV p) es'.toList).run Tryz.prog W = .ok r W → (match r with | some (_, x) => x | none => .int .i64 0) = v →
      (Instr.lookup T0 (.map (some b)) (kyV p) false).run Tryz.prog W = .ok v W := by
    intro W es' cl v r hW hf hv
    subst hv
    cases r with
    | none => simp [Instr.lookup, run_underlying underK, MapKept.run_getObj_map hW, lawK.check W es'.isEmpty hl, hf, Result.andThen]
    | some q => simp [Instr.lookup, run_underlying underK, MapKept.run_getObj_map hW, lawK.check W es'.isEmpty hl, hf, Result.andThen]
  rcases lawK.find w hl es.toList hks with ⟨f1, f2⟩ | ⟨j, e0, f1, f2, f3⟩
  · have hnot : p ∉ D := fun hq => by
      obtain ⟨e, he, e2⟩ := hmem.1 hq
      exact f2 e he e2
    have ho := Only.set (o' := .map (es.push ⟨kyV p, .int .i64 0, clock⟩) (clock + 1)) hb
    obtain ⟨W1, hW1⟩ : ∃ W1, ({ w with heap := w.heap.setIfInBounds b (.map (es.push ⟨kyV p, .int .i64 0, clock⟩) (clock + 1)) } : World) = W1 := ⟨_, rfl⟩
    rw [hW1] at ho
    have hb1 : W1.heap[b]? = some (.map (es.push ⟨kyV p, .int .i64 0, clock⟩) (clock + 1)) := by
      rw [← hW1]
      exact (MapKept.heap_set hb).1
    have ho2 := Only.set (o' := .map (es.push ⟨kyV p, .int .i64 (((0 : Nat) : Int) + 1), clock⟩) (clock + 1)) hb1
    have hidx : (es.push ⟨kyV p, .int .i64 0, clock⟩).findIdx? (fun e => ((e.born : Nat) : Int) == ((clock : Nat) : Int)) = some es.size := by
      rw [WideElems.findIdx_arr]
      have := WideElems.findIdx_born (l := (es.push ⟨kyV p, .int .i64 0, clock⟩).toList) (j := es.size) (e0 := ⟨kyV p, .int .i64 0, clock⟩) (by
        simp only [Array.toList_push, List.map_append, List.map_cons, List.map_nil]
        refine List.nodup_append.2 ⟨h2, by simp, fun a ha c hc e1 => ?_⟩
        simp only [List.mem_singleton] at hc
        obtain ⟨x, hx, rfl⟩ := List.mem_map.1 ha
        have := h1 x hx
        omega) (by simp)
      exact this
    have hmod : (es.push ⟨kyV p, .int .i64 0, clock⟩).modify es.size (fun e => { e with val := .int .i64 (((0 : Nat) : Int) + 1) }) = es.push ⟨kyV p, .int .i64 (((0 : Nat) : Int) + 1), clock⟩ := by
      apply Array.ext'
      rw [Array.toList_modify, Array.toList_push, Array.toList_push, ← Array.length_toList, WideElems.modify_last]
    have hks1 : ∀ e ∈ (es.push ⟨kyV p, .int .i64 0, clock⟩).toList, ∃ l, keyOf Tryz.prog 34 e.key = some l := by
      intro e he
      rw [Array.toList_push] at he
      rcases List.mem_append.1 he with he | he
      · exact hks e he
      · rw [List.mem_singleton] at he
        subst he
        exact ⟨l, hl⟩
    have hl1 : (Instr.lookup T0 (.map (some b)) (kyV p) false).run Tryz.prog W1 = .ok (.int .i64 0) W1 := by
      rcases lawK.find W1 hl _ hks1 with ⟨_, g2⟩ | ⟨j, e0, g1, g2, g3⟩
      · exact absurd rfl (g2 ⟨kyV p, .int .i64 0, clock⟩ (by simp))
      · refine look W1 _ _ _ _ hb1 g1 ?_
        have hm := List.mem_of_getElem? g2
        rw [Array.toList_push] at hm
        rcases List.mem_append.1 hm with hm | hm
        · exact absurd g3 (f2 e0 hm)
        · rw [List.mem_singleton] at hm
          rw [hm]
    refine ⟨0, clock, W1, _, Nat.zero_le _, look w es clock _ none hb f1 rfl, ?_, hl1, ?_, ?_, ho, ho2⟩
    · rw [← hW1]
      simp [Instr.mapEntry, run_underlying underK, MapKept.run_getObj_map hb, lawK.check w false hl, f1, MapKept.run_setObj_map _ hb, Result.andThen, goInt]
    · simp [Instr.entryStore, MapKept.run_getObj_map hb1, asInt, asIntOf, hidx, MapKept.run_setObj_map _ hb1, Result.andThen]
      rw [show (es.push ⟨kyV p, .int .i64 0, clock⟩).modify es.size (fun e => { e with val := .int .i64 1 }) = es.push ⟨kyV p, .int .i64 1, clock⟩ from hmod]
    · unfold addK
      rw [if_neg hnot]
      refine ⟨⟨fun q hq => ?_, List.nodup_append.2 ⟨h9, by simp, fun a ha c hc e => ?_⟩⟩, _, _, (MapKept.heap_set hb1).1, ?_, ?_, ?_, ?_⟩
      · rcases List.mem_append.1 hq with hq | hq
        · exact h0 q hq
        · rw [List.mem_singleton] at hq; rw [hq]; exact hp
      · rw [List.mem_singleton] at hc
        exact hnot (hc ▸ e ▸ ha)
      · intro e he
        rw [Array.toList_push] at he
        rcases List.mem_append.1 he with he | he
        · have := h1 e he; omega
        · rw [List.mem_singleton] at he; rw [he]; exact Nat.lt_succ_self _
      · rw [Array.toList_push, List.map_append]
        refine List.nodup_append.2 ⟨h2, by simp, fun a ha c hc e1 => ?_⟩
        simp only [List.map_cons, List.map_nil, List.mem_singleton] at hc
        obtain ⟨x, hx, rfl⟩ := List.mem_map.1 ha
        have := h1 x hx
        omega
      · rw [Array.toList_push, List.map_append, h3, List.map_append]
        rfl
      · intro e he
        rw [Array.toList_push] at he
        rcases List.mem_append.1 he with he | he
        · obtain ⟨c, hc, hcm⟩ := h4 e he
          exact ⟨c, hc, by omega⟩
        · rw [List.mem_singleton] at he
          subst he
          exact ⟨1, rfl, by omega⟩
  · have hin : p ∈ D := hmem.2 ⟨e0, List.mem_of_getElem? f2, f3⟩
    obtain ⟨c, hc, hcm⟩ := h4 e0 (List.mem_of_getElem? f2)
    have hj : es[j]? = some e0 := by simpa using f2
    have hsame : es.modify j (fun e => { e with key := kyV p }) = es := by
      apply Array.ext'
      rw [Array.toList_modify, ChangeMaps.modify_eq_set _ _ _ _ f2]
      have : ({ e0 with key := kyV p } : MapEntry) = e0 := by rw [← f3]
      rw [this]
      exact WideElems.set_self _ _ _ f2
    have ho := Only.set (o' := .map es clock) hb
    obtain ⟨W1, hW1⟩ : ∃ W1, ({ w with heap := w.heap.setIfInBounds b (.map es clock) } : World) = W1 := ⟨_, rfl⟩
    rw [hW1] at ho
    have hb1 : W1.heap[b]? = some (.map es clock) := by
      rw [← hW1]
      exact (MapKept.heap_set hb).1
    have ho2 := Only.set (o' := .map (es.modify j (fun e => { e with val := .int .i64 ((c : Int) + 1) })) clock) hb1
    have hidx : es.findIdx? (fun e => ((e.born : Nat) : Int) == ((e0.born : Nat) : Int)) = some j := by
      rw [WideElems.findIdx_arr]
      exact WideElems.findIdx_born h2 f2
    have hl1 : (Instr.lookup T0 (.map (some b)) (kyV p) false).run Tryz.prog W1 = .ok (.int .i64 c) W1 := by
      rcases lawK.find W1 hl _ hks with ⟨_, g2⟩ | ⟨j', e', g1, g2, g3⟩
      · exact absurd f3 (g2 e0 (List.mem_of_getElem? f2))
      · refine look W1 _ _ _ _ hb1 g1 ?_
        obtain ⟨hjl, hje⟩ := List.getElem?_eq_some_iff.1 f2
        obtain ⟨hjl', hje'⟩ := List.getElem?_eq_some_iff.1 g2
        have hnd : (es.toList.map (·.key)).Nodup := by
          rw [h3]
          exact List.Pairwise.map _ (fun a b hab e => hab (kyV_inj e)) h9
        have hjj : j' = j := by
          refine (List.getElem_inj (h₀ := by rw [List.length_map]; exact hjl') (h₁ := by rw [List.length_map]; exact hjl) hnd).1 ?_
          rw [List.getElem_map, List.getElem_map, hje, hje', f3, g3]
        subst hjj
        have g4 : e0 = e' := Option.some.inj (f2.symm.trans g2)
        rw [← g4]
        exact hc
    refine ⟨c, e0.born, W1, _, hcm, look w es clock _ _ hb f1 hc, ?_, hl1, ?_, ?_, ho, ho2⟩
    · rw [← hW1]
      simp [Instr.mapEntry, run_underlying underK, MapKept.run_getObj_map hb, lawK.check w false hl, f1, hj, f3, lawK.stays w hl, hsame, MapKept.run_setObj_map _ hb, Result.andThen, goInt, hc]
    · simp [Instr.entryStore, MapKept.run_getObj_map hb1, asInt, asIntOf, hidx, MapKept.run_setObj_map _ hb1, Result.andThen]
    · unfold addK
      rw [if_pos hin]
      have hset : (es.modify j (fun e => { e with val := .int .i64 ((c : Int) + 1) })).toList = es.toList.set j { e0 with val := .int .i64 ((c : Int) + 1) } := by
        rw [Array.toList_modify, ChangeMaps.modify_eq_set _ _ _ _ f2]
      refine ⟨⟨h0, h9⟩, _, _, (MapKept.heap_set hb1).1, ?_, ?_, ?_, ?_⟩
      · intro e he
        rw [hset] at he
        rcases List.mem_or_eq_of_mem_set he with he | he
        · exact h1 e he
        · rw [he]; exact h1 e0 (List.mem_of_getElem? f2)
      · rw [hset, List.map_set, WideElems.set_self _ _ _ (by rw [List.getElem?_map, f2]; rfl)]
        exact h2
      · rw [hset, List.map_set, WideElems.set_self _ _ _ (by rw [List.getElem?_map, f2]; rfl)]
        exact h3
      · intro e he
        rw [hset] at he
        rcases List.mem_or_eq_of_mem_set he with he | he
        · obtain ⟨c', hc', hcm'⟩ := h4 e he
          exact ⟨c', hc', by omega⟩
        · rw [he]
          exact ⟨c + 1, by simp, by omega⟩
end Hx
end Go.Proofs.YtlhjcdkkmloamaaGreatDoor
namespace Go.Proofs.YtlhjcdkkmloamaaGreatDoor
open Go.RowKit
namespace Hx
open Lx Tr Tx Nmb Es
set_option maxRecDepth 100000
set_option maxHeartbeats 16000000
set_option linter.unusedVariables false
theorem istext (s : ByteArray) (w : World) (hm : s.size ≤ 1000000) (b : Bool) (h : okT s.data.toList = b) :
    Calls Tryz.prog 64 #[.string s] w fun e w' => e = .returned (.bool b) ∧ Below w.heap.size w w' := by
  cases b with
  | true =>
    have HC := Lib.hid (check5 s w hm 0 (chk9_ok h))
    clear hm h
    go_enter Tryz.func64, Tryz.ntmps64
    go_wp2_with (first
      | (go_at_call 42; (with_reducible refine (HC.out).mono ?_); rintro e1 w1 ⟨rfl, hb1⟩)
      | fail)
    go_ret
    exact ⟨rfl, hb1⟩
  | false =>
    obtain ⟨q, hq⟩ : ∃ q, chkE s = q := ⟨_, rfl⟩
    have h0 : (q == 0) = false := by
      have := chk9_bad h
      rw [hq] at this
      simpa using this
    have HC := Lib.hid (check5 s w hm q hq)
    clear hm h hq
    go_enter Tryz.func64, Tryz.ntmps64
    go_wp2_with (first
      | (go_at_call 42; (with_reducible refine (HC.out).mono ?_); rintro e1 w1 ⟨rfl, hb1⟩)
      | fail)
    go_ret
    exact ⟨rfl, hb1⟩
def ddK (ks : List Ky) : List Ky := ks.foldl addK []
theorem ddK_len : ∀ (ks D : List Ky), (ks.foldl addK D).length ≤ D.length + ks.length ∧ ((ks.foldl addK D).length = D.length + ks.length ↔ ks.Nodup ∧ ∀ p ∈ ks, p ∉ D) := by
  intro ks
  induction ks with
  | nil => intro D; simp
  | cons p ks ih =>
    intro D
    rw [List.foldl_cons]
    by_cases hp : p ∈ D
    · rw [show addK D p = D from if_pos hp]
      obtain ⟨h1, _⟩ := ih D
      refine ⟨by rw [List.length_cons]; omega, ?_⟩
      constructor
      · intro h; rw [List.length_cons] at h; omega
      · rintro ⟨_, h⟩; exact absurd hp (h p (by simp))
    · rw [show addK D p = D ++ [p] from if_neg hp]
      obtain ⟨h1, h2⟩ := ih (D ++ [p])
      rw [List.length_append, List.length_singleton] at h1 h2
      refine ⟨by rw [List.length_cons]; omega, ?_⟩
      rw [List.length_cons, show D.length + (ks.length + 1) = D.length + 1 + ks.length by omega, h2, List.nodup_cons]
      constructor
      · rintro ⟨k1, k2⟩
        refine ⟨⟨fun hm => (k2 p hm) (by simp), k1⟩, fun q hq => ?_⟩
        rcases List.mem_cons.1 hq with rfl | hq
        · exact hp
        · intro hd; exact k2 q hq (by simp [hd])
      · rintro ⟨⟨k0, k1⟩, k2⟩
        refine ⟨k1, fun q hq hd => ?_⟩
        rcases List.mem_append.1 hd with hd | hd
        · exact k2 q (by simp [hq]) hd
        · rw [List.mem_singleton] at hd; exact k0 (hd ▸ hq)
theorem ddK_snoc (l : List At) (k : Nat) (h : k < l.length) : ddK ((l.take (k + 1)).map key) = addK (ddK ((l.take k).map key)) (key (l[k]'h)) := by
  unfold ddK
  rw [List.take_succ_eq_append_getElem h, List.map_append, List.foldl_append]
  rfl
theorem ddK_all (l : List At) : decide ((ddK (l.map key)).length = l.length) = decide ((l.map key).Nodup) := by
  have := (ddK_len (l.map key) []).2
  unfold ddK
  rw [List.length_nil, Nat.zero_add, List.length_map] at this
  rw [decide_eq_decide, this]
  simp
theorem mayhave (A : Option Addr) (n cp : Nat) (l : List At) (w : World) (hr : RdB AtS w A l) (hn : l.length = n) (hm : n ≤ 1000000) (hsz : ∀ a ∈ l, a.space.length ≤ 1000000 ∧ a.name.length ≤ 1000000 ∧ a.value.length ≤ 1000000) (q : Bool) (h : atsOk l = q) :
    Calls Tryz.prog 66 #[.slice A n cp] w fun e w' => e = .returned (.bool q) ∧ Below w.heap.size w w' := by
  have HR := Lib.hid hr
  have HN := Lib.hid hn
  have HM := Lib.hid hm
  have HH := Lib.hid h
  have HSZ := Lib.hid hsz
  clear hr hn h hsz
  by_cases h16 : 16 < n
  · have f16 : decide ((16 : Int) < (n : Int)) = true := decide_eq_true (by omega)
    obtain rfl : false = q := by
      rw [← HH.out]
      unfold atsOk
      rw [HN.out, decide_eq_false (by omega : ¬ n ≤ 16), Bool.and_false]
    go_enter Tryz.func66, Tryz.ntmps66
    go_wp2_with fail
    go_ret
    exact ⟨rfl, Below.refl _ _⟩
  · have f16 : decide ((16 : Int) < (n : Int)) = false := decide_eq_false (by omega)
    have hmm := @run_makeMap Tryz.prog
    have HB0 : Hid (Below w.heap.size w (w.alloc (.map #[] 0))) := Lib.hid ((Below.refl _ _).alloc (Nat.le_refl _) _)
    go_enter Tryz.func66, Tryz.ntmps66
    go_wp2_with fail
    go_loopw [12] (fun i wr => ∃ k : Nat, k ≤ n ∧ i = .int .i64 k ∧ (l.take k).all atOk = true ∧ MapN wr w.heap.size (ddK ((l.take k).map key)) k ∧ Below w.heap.size w wr ∧ w.heap.size < wr.heap.size) (fun i _ => n - (intOf i).toNat)
    case atStart => exact ⟨0, Nat.zero_le _, rfl, rfl, ⟨⟨(fun p hp => by cases hp), List.nodup_nil⟩, #[], 0, MapKept.heap_alloc w _ |>.1, (fun e he => by simp at he), by simp, rfl, (fun e he => by simp at he)⟩, HB0.out, by simp⟩
    case round =>
      obtain ⟨k, hk, rfl, hall, hmap, hbw, hsz0⟩ := hrel
      have hm := HM.out
      have HBW := Lib.hid hbw
      have HALL := Lib.hid hall
      have HMAP := Lib.hid hmap
      by_cases hlt : k < n
      · have hk1 : k < l.length := by rw [HN.out]; exact hlt
        obtain ⟨b0, off, x, y, z, rfl, hbB, hx, hy, hz, c0, c1, c2⟩ := at_at (HR.out.on hbw) hk1
        have hs := HSZ.out _ (List.getElem_mem hk1)
        rw [← hx, ← hy, ← hz, ba_l, ba_l, ba_l] at hs
        have HXS := Lib.hid hs.1
        have HYS := Lib.hid hs.2.1
        have HZS := Lib.hid hs.2.2
        have HKEY : Hid (ddK ((l.take (k + 1)).map key) = addK (ddK ((l.take k).map key)) (x.data.toList, y.data.toList)) := Lib.hid (by rw [ddK_snoc l k hk1]; unfold key; rw [hx, hy])
        have HAT : Hid ((l.take (k + 1)).all atOk = (fullL y.data.toList && okT z.data.toList && okT x.data.toList)) := Lib.hid (by
          rw [List.take_succ_eq_append_getElem hk1, List.all_append, hall, hx, hy, hz]
          simp [atOk])
        have HQ : Hid ((fullL y.data.toList && okT z.data.toList && okT x.data.toList) = false → false = q) := Lib.hid fun hf => by
          rw [← HH.out]
          unfold atsOk
          have : l.all atOk = false := by
            rw [List.all_eq_false]
            refine ⟨_, List.getElem_mem hk1, ?_⟩
            unfold atOk
            rw [← hx, ← hy, ← hz, hf]
            decide
          rw [this]
          rfl
        have HBO : Hid (∀ o, Below wr.heap.size wr (wr.alloc o)) := Lib.hid fun o => (Below.refl _ _).alloc (Nat.le_refl _) o
        have bk : (0 : Int) ≤ (k : Int) ∧ (k : Int) < (n : Int) := by omega
        have HLT := Lib.hid hlt
        clear hbw hall hmap hx hy hz hs hk1
        cases hf1 : okT x.data.toList with
        | false =>
          have HF1 := Lib.hid hf1
          obtain rfl : false = q := HQ.out (by rw [hf1, Bool.and_false])
          clear hf1
          go_wp2_with (first
            | (go_at_call 64; (with_reducible refine (istext x _ HXS.out false HF1.out).mono ?_); rintro e1 w1 ⟨rfl, hb1⟩; have HB1 : Hid (Below wr.heap.size wr w1) := Lib.hid (bel_in9 (HBO.out _) hb1); have HX1 := Lib.hid (kept_heap (heap_alloc_new wr (.cells #[.string x, .string y, .string z] 34)) hb1); have d10 := cellV w1 _ 0 _ _ _ HX1.out; have d11 := cellV w1 _ 1 _ _ _ HX1.out; have d12 := cellV w1 _ 2 _ _ _ HX1.out; clear hb1)
            | fail)
          go_ret
          exact ⟨rfl, stp HBW.out HB1.out⟩
        | true =>
          have HF1 := Lib.hid hf1
          cases hf2 : fullL y.data.toList with
          | false =>
            have HF2 := Lib.hid hf2
            obtain rfl : false = q := HQ.out (by rw [hf2, Bool.false_and, Bool.false_and])
            clear hf1 hf2
            go_wp2_with (first
              | (go_at_call 64; (with_reducible refine (istext x _ HXS.out true HF1.out).mono ?_); rintro e1 w1 ⟨rfl, hb1⟩; have HB1 : Hid (Below wr.heap.size wr w1) := Lib.hid (bel_in9 (HBO.out _) hb1); have HX1 := Lib.hid (kept_heap (heap_alloc_new wr (.cells #[.string x, .string y, .string z] 34)) hb1); have d10 := cellV w1 _ 0 _ _ _ HX1.out; have d11 := cellV w1 _ 1 _ _ _ HX1.out; have d12 := cellV w1 _ 2 _ _ _ HX1.out; clear hb1)
              | (go_at_call 65; (with_reducible refine (full9q y _ HYS.out false HF2.out).mono ?_); rintro e2 w2 ⟨rfl, hb2⟩; have HB2 : Hid (Below wr.heap.size wr w2) := Lib.hid (stp HB1.out hb2); have HX2 := Lib.hid (kept_heap HX1.out hb2); have d20 := cellV w2 _ 0 _ _ _ HX2.out; have d21 := cellV w2 _ 1 _ _ _ HX2.out; have d22 := cellV w2 _ 2 _ _ _ HX2.out; clear hb2)
              | fail)
            go_ret
            exact ⟨rfl, stp HBW.out HB2.out⟩
          | true =>
            have HF2 := Lib.hid hf2
            cases hf3 : okT z.data.toList with
            | false =>
              have HF3 := Lib.hid hf3
              obtain rfl : false = q := HQ.out (by rw [hf3, Bool.and_false, Bool.false_and])
              clear hf1 hf2 hf3
              go_wp2_with (first
                | (go_at_call 64; (with_reducible refine (istext x _ HXS.out true HF1.out).mono ?_); rintro e1 w1 ⟨rfl, hb1⟩; have HB1 : Hid (Below wr.heap.size wr w1) := Lib.hid (bel_in9 (HBO.out _) hb1); have HX1 := Lib.hid (kept_heap (heap_alloc_new wr (.cells #[.string x, .string y, .string z] 34)) hb1); have d10 := cellV w1 _ 0 _ _ _ HX1.out; have d11 := cellV w1 _ 1 _ _ _ HX1.out; have d12 := cellV w1 _ 2 _ _ _ HX1.out; clear hb1)
                | (go_at_call 65; (with_reducible refine (full9q y _ HYS.out true HF2.out).mono ?_); rintro e2 w2 ⟨rfl, hb2⟩; have HB2 : Hid (Below wr.heap.size wr w2) := Lib.hid (stp HB1.out hb2); have HX2 := Lib.hid (kept_heap HX1.out hb2); have d20 := cellV w2 _ 0 _ _ _ HX2.out; have d21 := cellV w2 _ 1 _ _ _ HX2.out; have d22 := cellV w2 _ 2 _ _ _ HX2.out; clear hb2)
                | (go_at_call 64; (with_reducible refine (istext z _ HZS.out false HF3.out).mono ?_); rintro e3 w3 ⟨rfl, hb3⟩; have HB3 : Hid (Below wr.heap.size wr w3) := Lib.hid (stp HB2.out hb3); have HX3 := Lib.hid (kept_heap HX2.out hb3); have f32 := freeV w3 _ 2 _ _ HX3.out; have d30 := cellV w3 _ 0 _ _ _ HX3.out; have d31 := cellV w3 _ 1 _ _ _ HX3.out; have d32 := cellV w3 _ 2 _ _ _ HX3.out; clear hb3)
                | fail)
              go_ret
              exact ⟨rfl, stp HBW.out HB3.out⟩
            | true =>
              have HF3 := Lib.hid hf3
              have HAT2 : Hid ((l.take (k + 1)).all atOk = true) := Lib.hid (by rw [HAT.out, hf1, hf2, hf3]; rfl)
              clear hf1 hf2 hf3
              go_wp2_with (first
                | (go_at_call 64; (with_reducible refine (istext x _ HXS.out true HF1.out).mono ?_); rintro e1 w1 ⟨rfl, hb1⟩; have HB1 : Hid (Below wr.heap.size wr w1) := Lib.hid (bel_in9 (HBO.out _) hb1); have HX1 := Lib.hid (kept_heap (heap_alloc_new wr (.cells #[.string x, .string y, .string z] 34)) hb1); have d10 := cellV w1 _ 0 _ _ _ HX1.out; have d11 := cellV w1 _ 1 _ _ _ HX1.out; have d12 := cellV w1 _ 2 _ _ _ HX1.out; clear hb1)
                | (go_at_call 65; (with_reducible refine (full9q y _ HYS.out true HF2.out).mono ?_); rintro e2 w2 ⟨rfl, hb2⟩; have HB2 : Hid (Below wr.heap.size wr w2) := Lib.hid (stp HB1.out hb2); have HX2 := Lib.hid (kept_heap HX1.out hb2); have d20 := cellV w2 _ 0 _ _ _ HX2.out; have d21 := cellV w2 _ 1 _ _ _ HX2.out; have d22 := cellV w2 _ 2 _ _ _ HX2.out; clear hb2)
                | (go_at_call 64; (with_reducible refine (istext z _ HZS.out true HF3.out).mono ?_); rintro e3 w3 ⟨rfl, hb3⟩; have HB3 : Hid (Below wr.heap.size wr w3) := Lib.hid (stp HB2.out hb3); have HX3 := Lib.hid (kept_heap HX2.out hb3); have f32 := freeV w3 _ 2 _ _ HX3.out; have d30 := cellV w3 _ 0 _ _ _ HX3.out; have d31 := cellV w3 _ 1 _ _ _ HX3.out; have d32 := cellV w3 _ 2 _ _ _ HX3.out; clear hb3)
                | fail)
              obtain ⟨V, hV⟩ : ∃ V, w3.setCell ⟨wr.heap.size, 2, none⟩ (.string ⟨#[]⟩) = V := ⟨_, rfl⟩
              rw [hV]
              have hsz3 := HB3.out.size
              have hXV : V.heap[wr.heap.size]? = some (.cells #[.string x, .string y, .string ⟨#[]⟩] 34 (0, 0)) := by
                rw [← hV]
                exact heap_setCell_same w3 wr.heap.size 2 _ _ _ HX3.out
              have hBV : Below wr.heap.size wr V := by
                rw [← hV]
                exact HB3.out.setCell (p := ⟨wr.heap.size, 2, none⟩) (Nat.le_refl _) _
              obtain ⟨c, st, W1, W2, hc, E1, E2, E3, E4, hM2, o1, o2⟩ := map_step (w := V.drew) (HMAP.out.kept (hBV.block _ hsz0)) (p := (x.data.toList, y.data.toList)) ⟨by rw [ba_l]; exact HXS.out, by rw [ba_l]; exact HYS.out⟩
              have ek : kyV (x.data.toList, y.data.toList) = .agg #[.string x, .string y, .string ⟨#[]⟩] := rfl
              rw [ek] at E1 E2 E3
              unfold T0 at E1 E2 E3 E4
              have hne : wr.heap.size ≠ w.heap.size := by omega
              have dV0 := cellV V _ 0 _ _ _ hXV
              have dV1 := cellV V _ 1 _ _ _ hXV
              have dV2 := cellV V _ 2 _ _ _ hXV
              have hX1 := (o1.block _ hne).trans hXV
              have dW0 := cellV W1 _ 0 _ _ _ hX1
              have dW1 := cellV W1 _ 1 _ _ _ hX1
              have dW2 := cellV W1 _ 2 _ _ _ hX1
              have HB5 : Hid (Below w.heap.size w W2) := Lib.hid (((stp HBW.out hBV).drew.trans (o1.below (Nat.le_refl _))).trans (o2.below (Nat.le_refl _)))
              have HSZ5 : Hid (w.heap.size < W2.heap.size) := Lib.hid (by rw [o2.size, o1.size]; have : wr.heap.size ≤ V.heap.size := hBV.size; show w.heap.size < V.heap.size; omega)
              have HM5 := Lib.hid hM2
              have bc : (0 : Int) ≤ (c : Int) ∧ (c : Int) ≤ 1000000 := by omega
              clear hV hXV hBV hM2 o1 o2 hX1 ek hne hsz3 d10 d11 d12 d20 d21 d22 d30 d31 d32 f32 hsz0 hlt c0 c1 c2
              go_region
              all_goals
                go_wp2_with fail
                exact ⟨⟨k + 1, HLT.out, by go_num, HAT2.out, by rw [HKEY.out]; exact HM5.out, HB5.out, HSZ5.out⟩, by have := HLT.out; simp [intOf]; omega⟩
      · obtain rfl : k = n := by omega
        obtain ⟨_, es, clock, hes, _, _, hkeys, _⟩ := hmap
        have hsz : es.size = (ddK ((l.take k).map key)).length := by
          have := congrArg List.length hkeys
          rw [List.length_map, List.length_map] at this
          exact this
        have htk : l.take k = l := by rw [← HN.out]; exact List.take_length
        obtain ⟨r, hr⟩ : ∃ r, (((es.size : Nat) : Int) == (k : Int)) = r := ⟨_, rfl⟩
        have HQ : Hid (r = q) := Lib.hid (by
          rw [← hr, ← HH.out]
          unfold atsOk
          rw [htk] at hall hsz
          have h1 := ddK_all l
          rw [hall, HN.out, decide_eq_true (by omega : k ≤ 16), Bool.true_and, Bool.and_true, ← h1, hsz, HN.out]
          rw [Bool.eq_iff_iff]
          simp
          omega)
        have hlen : (Builtin.len_ #[101] 3 #[.map (some w.heap.size)]).run Tryz.prog wr = .ok (.int .i64 (es.size : Nat)) wr := by
          simp [Builtin.len_, MapKept.run_getObj_map hes, goInt, Result.andThen]
        clear hbw hall hkeys hsz htk hes
        go_wp2_with fail
        go_ret
        exact ⟨ret_b HQ.out, HBW.out⟩
end Hx
end Go.Proofs.YtlhjcdkkmloamaaGreatDoor
namespace Go.Proofs.YtlhjcdkkmloamaaGreatDoor
open Go.RowKit
namespace Hx
open Lx Tr Tx Nmb Es
set_option linter.unusedVariables false
theorem em_lR (s : ByteArray) : s.toList.isEmpty = s.data.toList.isEmpty := by rw [ByteArray.toList_eq]
end Hx
end Go.Proofs.YtlhjcdkkmloamaaGreatDoor
