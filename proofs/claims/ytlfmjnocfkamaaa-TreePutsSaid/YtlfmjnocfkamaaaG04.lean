/-
  Texts of one seat, put together: MapK, LexR, LexS, LeaA.
-/
import Derived.Test.YtlfmjnocfkamaaaG03
import Derived.DeepKeys4
import Derived.WideKeyEntry
import Derived.Test.YtlfmjnocfkamaaaG02
import Derived.Lib.Strings
import Derived.Deep.LoopGhost
namespace Go.Proofs.Ytlfmjnocfkamaaa
open Go.RowKit
namespace Hx
open Lx Tr
set_option linter.unusedVariables false
abbrev Ky := List UInt8 × List UInt8
def kyV (p : Ky) : Value := .agg #[.string ⟨p.1.toArray⟩, .string ⟨p.2.toArray⟩, .string ⟨#[]⟩]
theorem laidOutK : laidOutB Try.prog = true := by kernel_rfl
theorem rowK : (59 : TypeId) < Try.prog.types.size := of_decide_eq_true (by kernel_rfl)
theorem wideK : (match Try.prog.underlying 59 with | some (.array _ _) | some (.struct _) => true | _ => false) = true := by kernel_rfl
set_option maxRecDepth 100000 in
theorem lawK : WideMaps.KeyLaw Try.prog 59 := deep_law_laid laidOutK (m := 2) (by omega) rowK (by kernel_rfl) (by rw [Try.underlying59])
theorem keyTK : Try.prog.keyType 59 = true := by kernel_rfl
def SmallK (p : Ky) : Prop := p.1.length ≤ 1000000 ∧ p.2.length ≤ 1000000
theorem keyOfK {p : Ky} (h : SmallK p) : ∃ l, keyOf Try.prog 59 (kyV p) = some l := by
  obtain ⟨c1, _, _, _, c3, _⟩ := cells_oneN
  have h1 : (⟨p.1.toArray⟩ : ByteArray).size ≤ maxLen := by
    have := h.1
    show p.1.toArray.size ≤ maxLen
    rw [List.size_toArray]
    unfold maxLen
    omega
  have h2 : (⟨p.2.toArray⟩ : ByteArray).size ≤ maxLen := by
    have := h.2
    show p.2.toArray.size ≤ maxLen
    rw [List.size_toArray]
    unfold maxLen
    omega
  have hf : (kyV p).formed Try.prog 59 = true := by
    unfold kyV
    simp [Value.formed, Try.underlying59, c3]
  have hk := keyTK
  unfold keyOf
  rw [Try.underlying59]
  dsimp only
  rw [if_pos (by rw [hk, hf]; rfl)]
  obtain ⟨m, hm⟩ : ∃ m, Try.prog.types.size + 1 = m + 2 := ⟨Try.prog.types.size - 1, by have h9 : (59 : Nat) < Try.prog.types.size := rowK; omega⟩
  rw [hm]
  simp [kyV, Value.cells, c1, c3, Program.keyLits, Try.underlying59, Try.underlying9, h1, h2, show (⟨#[]⟩ : ByteArray).size ≤ maxLen from Nat.zero_le _]
theorem kyV_inj {p q : Ky} (h : kyV p = kyV q) : p = q := by
  unfold kyV at h
  simp at h
  exact Prod.ext h.1 h.2
/-- The map at block b has these keys, each no more than m times. -/
def MapN (w : World) (b : Nat) (D : List Ky) (m : Nat) : Prop := ((∀ p ∈ D, SmallK p) ∧ D.Nodup) ∧
  ∃ (es : Array MapEntry) (clock : Nat), w.heap[b]? = some (.map es clock) ∧ (∀ e ∈ es.toList, e.born < clock) ∧ (es.toList.map (·.born)).Nodup ∧ es.toList.map (·.key) = D.map kyV ∧ ∀ e ∈ es.toList, ∃ c : Nat, e.val = .int .i64 c ∧ c ≤ m
def addK (D : List Ky) (p : Ky) : List Ky := if p ∈ D then D else D ++ [p]
theorem MapN.kept {w w' : World} {b : Nat} {D : List Ky} {m : Nat} (h : MapN w b D m) (hb : w'.heap[b]? = w.heap[b]?) : MapN w' b D m := by
  obtain ⟨h0, es, clock, h1, h2⟩ := h
  exact ⟨h0, es, clock, hb.trans h1, h2⟩
theorem zeroK (w : World) : (zeroValue 3).run Try.prog w = .ok (.int .i64 0) w := by kernel_rfl
/-- Only block b is another one. -/
structure Only (b : Nat) (w w' : World) : Prop where
  os : w'.os = w.os
  tape : w'.tape = w.tape
  output : w'.output = w.output
  size : w'.heap.size = w.heap.size
  block : ∀ k, k ≠ b → w'.heap[k]? = w.heap[k]?
theorem Only.below {b B : Nat} {w w' : World} (h : Only b w w') (hB : B ≤ b) : Below B w w' := ⟨h.os, h.tape, h.output, by rw [h.size]; exact Nat.le_refl _, fun k hk => h.block k (by omega)⟩
theorem Only.trans {b : Nat} {w w1 w2 : World} (h : Only b w w1) (k : Only b w1 w2) : Only b w w2 := ⟨k.os.trans h.os, k.tape.trans h.tape, k.output.trans h.output, k.size.trans h.size, fun x hx => (k.block x hx).trans (h.block x hx)⟩
theorem Only.set {b : Nat} {w : World} {o o' : Obj} (hb : w.heap[b]? = some o) : Only b w { w with heap := w.heap.setIfInBounds b o' } :=
  ⟨rfl, rfl, rfl, by simp, fun k hk => (MapKept.heap_set hb).2 k hk⟩
def T0 : TypeId := 105
theorem underK : Try.prog.underlying T0 = some (.map 59 3) := by kernel_rfl
/-- One key more. -/
theorem map_step {w : World} {b : Nat} {D : List Ky} {m : Nat} {p : Ky} (h : MapN w b D m) (hp : SmallK p) :
    ∃ (c st : Nat) (W1 W2 : World), c ≤ m ∧ (Instr.lookup T0 (.map (some b)) (kyV p) false).run Try.prog w = .ok (.int .i64 c) w ∧
      (Instr.mapEntry T0 (.map (some b)) (kyV p)).run Try.prog w = .ok (.tuple #[.int .i64 c, .int .i64 st]) W1 ∧
      (Instr.lookup T0 (.map (some b)) (kyV p) false).run Try.prog W1 = .ok (.int .i64 c) W1 ∧
      (Instr.entryStore T0 (.map (some b)) (.int .i64 st) (.int .i64 ((c : Int) + 1))).run Try.prog W1 = .ok () W2 ∧ MapN W2 b (addK D p) (m + 1) ∧ Only b w W1 ∧ Only b W1 W2 := by
  obtain ⟨⟨h0, h9⟩, es, clock, hb, h1, h2, h3, h4⟩ := h
  obtain ⟨l, hl⟩ := keyOfK hp
  have hks : ∀ e ∈ es.toList, ∃ l, keyOf Try.prog 59 e.key = some l := by
    intro e he
    have : e.key ∈ D.map kyV := by rw [← h3]; exact List.mem_map.2 ⟨e, he, rfl⟩
    obtain ⟨q, hq, e2⟩ := List.mem_map.1 this
    rw [← e2]
    exact keyOfK (h0 q hq)
  have hmem : p ∈ D ↔ ∃ e ∈ es.toList, e.key = kyV p := by
    constructor
    · intro hq
      have : kyV p ∈ es.toList.map (·.key) := by rw [h3]; exact List.mem_map.2 ⟨p, hq, rfl⟩
      obtain ⟨e, he, e2⟩ := List.mem_map.1 this
      exact ⟨e, he, e2⟩
    · rintro ⟨e, he, e2⟩
      have : e.key ∈ D.map kyV := by rw [← h3]; exact List.mem_map.2 ⟨e, he, rfl⟩
      obtain ⟨q, hq, e3⟩ := List.mem_map.1 this
      rw [← kyV_inj (e3.trans e2)]
      exact hq
  have look : ∀ (W : World) (es' : Array MapEntry) (cl : Nat) (v : Value) (r : Option (Nat × Value)), W.heap[b]? = some (.map es' cl) → (Instr.findKey 59 (kyV p) es'.toList).run Try.prog W = .ok r W → (match r with | some (_, x) => x | none => .int .i64 0) = v →
      (Instr.lookup T0 (.map (some b)) (kyV p) false).run Try.prog W = .ok v W := by
    intro W es' cl v r hW hf hv
    subst hv
    cases r with
    | none => simp [Instr.lookup, run_underlying underK, MapKept.run_getObj_map hW, lawK.check W es'.isEmpty hl, hf, Result.andThen]
    | some q => simp [Instr.lookup, run_underlying underK, MapKept.run_getObj_map hW, lawK.check W es'.isEmpty hl, hf, Result.andThen]
  rcases lawK.find w hl es.toList hks with ⟨f1, f2⟩ | ⟨j, e0, f1, f2, f3⟩
  · have hnot : p ∉ D := fun hq => by
      obtain ⟨e, he, e2⟩ := hmem.1 hq
      exact f2 e he e2
    have ho := Only.set (o' := .map (es.push ⟨kyV p, .int .i64 0, clock⟩) (clock + 1)) hb
    obtain ⟨W1, hW1⟩ : ∃ W1, ({ w with heap := w.heap.setIfInBounds b (.map (es.push ⟨kyV p, .int .i64 0, clock⟩) (clock + 1)) } : World) = W1 := ⟨_, rfl⟩
    rw [hW1] at ho
    have hb1 : W1.heap[b]? = some (.map (es.push ⟨kyV p, .int .i64 0, clock⟩) (clock + 1)) := by
      rw [← hW1]
      exact (MapKept.heap_set hb).1
    have ho2 := Only.set (o' := .map (es.push ⟨kyV p, .int .i64 (((0 : Nat) : Int) + 1), clock⟩) (clock + 1)) hb1
    have hidx : (es.push ⟨kyV p, .int .i64 0, clock⟩).findIdx? (fun e => ((e.born : Nat) : Int) == ((clock : Nat) : Int)) = some es.size := by
      rw [WideElems.findIdx_arr]
      have := WideElems.findIdx_born (l := (es.push ⟨kyV p, .int .i64 0, clock⟩).toList) (j := es.size) (e0 := ⟨kyV p, .int .i64 0, clock⟩) (by
        simp only [Array.toList_push, List.map_append, List.map_cons, List.map_nil]
        refine List.nodup_append.2 ⟨h2, by simp, fun a ha c hc e1 => ?_⟩
        simp only [List.mem_singleton] at hc
        obtain ⟨x, hx, rfl⟩ := List.mem_map.1 ha
        have := h1 x hx
        omega) (by simp)
      exact this
    have hmod : (es.push ⟨kyV p, .int .i64 0, clock⟩).modify es.size (fun e => { e with val := .int .i64 (((0 : Nat) : Int) + 1) }) = es.push ⟨kyV p, .int .i64 (((0 : Nat) : Int) + 1), clock⟩ := by
      apply Array.ext'
      rw [Array.toList_modify, Array.toList_push, Array.toList_push, ← Array.length_toList, WideElems.modify_last]
    have hks1 : ∀ e ∈ (es.push ⟨kyV p, .int .i64 0, clock⟩).toList, ∃ l, keyOf Try.prog 59 e.key = some l := by
      intro e he
      rw [Array.toList_push] at he
      rcases List.mem_append.1 he with he | he
      · exact hks e he
      · rw [List.mem_singleton] at he
        subst he
        exact ⟨l, hl⟩
    have hl1 : (Instr.lookup T0 (.map (some b)) (kyV p) false).run Try.prog W1 = .ok (.int .i64 0) W1 := by
      rcases lawK.find W1 hl _ hks1 with ⟨_, g2⟩ | ⟨j, e0, g1, g2, g3⟩
      · exact absurd rfl (g2 ⟨kyV p, .int .i64 0, clock⟩ (by simp))
      · refine look W1 _ _ _ _ hb1 g1 ?_
        have hm := List.mem_of_getElem? g2
        rw [Array.toList_push] at hm
        rcases List.mem_append.1 hm with hm | hm
        · exact absurd g3 (f2 e0 hm)
        · rw [List.mem_singleton] at hm
          rw [hm]
    refine ⟨0, clock, W1, _, Nat.zero_le _, look w es clock _ none hb f1 rfl, ?_, hl1, ?_, ?_, ho, ho2⟩
    · rw [← hW1]
      simp [Instr.mapEntry, run_underlying underK, MapKept.run_getObj_map hb, lawK.check w false hl, f1, MapKept.run_setObj_map _ hb, Result.andThen, goInt]
    · simp [Instr.entryStore, MapKept.run_getObj_map hb1, asInt, asIntOf, hidx, MapKept.run_setObj_map _ hb1, Result.andThen]
      rw [show (es.push ⟨kyV p, .int .i64 0, clock⟩).modify es.size (fun e => { e with val := .int .i64 1 }) = es.push ⟨kyV p, .int .i64 1, clock⟩ from hmod]
    · unfold addK
      rw [if_neg hnot]
      refine ⟨⟨fun q hq => ?_, List.nodup_append.2 ⟨h9, by simp, fun a ha c hc e => ?_⟩⟩, _, _, (MapKept.heap_set hb1).1, ?_, ?_, ?_, ?_⟩
      · rcases List.mem_append.1 hq with hq | hq
        · exact h0 q hq
        · rw [List.mem_singleton] at hq; rw [hq]; exact hp
      · rw [List.mem_singleton] at hc
        exact hnot (hc ▸ e ▸ ha)
      · intro e he
        rw [Array.toList_push] at he
        rcases List.mem_append.1 he with he | he
        · have := h1 e he; omega
        · rw [List.mem_singleton] at he; rw [he]; exact Nat.lt_succ_self _
      · rw [Array.toList_push, List.map_append]
        refine List.nodup_append.2 ⟨h2, by simp, fun a ha c hc e1 => ?_⟩
        simp only [List.map_cons, List.map_nil, List.mem_singleton] at hc
        obtain ⟨x, hx, rfl⟩ := List.mem_map.1 ha
        have := h1 x hx
        omega
      · rw [Array.toList_push, List.map_append, h3, List.map_append]
        rfl
      · intro e he
        rw [Array.toList_push] at he
        rcases List.mem_append.1 he with he | he
        · obtain ⟨c, hc, hcm⟩ := h4 e he
          exact ⟨c, hc, by omega⟩
        · rw [List.mem_singleton] at he
          subst he
          exact ⟨1, rfl, by omega⟩
  · have hin : p ∈ D := hmem.2 ⟨e0, List.mem_of_getElem? f2, f3⟩
    obtain ⟨c, hc, hcm⟩ := h4 e0 (List.mem_of_getElem? f2)
    have hj : es[j]? = some e0 := by simpa using f2
    have hsame : es.modify j (fun e => { e with key := kyV p }) = es := by
      apply Array.ext'
      rw [Array.toList_modify, ChangeMaps.modify_eq_set _ _ _ _ f2]
      have : ({ e0 with key := kyV p } : MapEntry) = e0 := by rw [← f3]
      rw [this]
      exact WideElems.set_self _ _ _ f2
    have ho := Only.set (o' := .map es clock) hb
    obtain ⟨W1, hW1⟩ : ∃ W1, ({ w with heap := w.heap.setIfInBounds b (.map es clock) } : World) = W1 := ⟨_, rfl⟩
    rw [hW1] at ho
    have hb1 : W1.heap[b]? = some (.map es clock) := by
      rw [← hW1]
      exact (MapKept.heap_set hb).1
    have ho2 := Only.set (o' := .map (es.modify j (fun e => { e with val := .int .i64 ((c : Int) + 1) })) clock) hb1
    have hidx : es.findIdx? (fun e => ((e.born : Nat) : Int) == ((e0.born : Nat) : Int)) = some j := by
      rw [WideElems.findIdx_arr]
      exact WideElems.findIdx_born h2 f2
    have hl1 : (Instr.lookup T0 (.map (some b)) (kyV p) false).run Try.prog W1 = .ok (.int .i64 c) W1 := by
      rcases lawK.find W1 hl _ hks with ⟨_, g2⟩ | ⟨j', e', g1, g2, g3⟩
      · exact absurd f3 (g2 e0 (List.mem_of_getElem? f2))
      · refine look W1 _ _ _ _ hb1 g1 ?_
        obtain ⟨hjl, hje⟩ := List.getElem?_eq_some_iff.1 f2
        obtain ⟨hjl', hje'⟩ := List.getElem?_eq_some_iff.1 g2
        have hnd : (es.toList.map (·.key)).Nodup := by
          rw [h3]
          exact List.Pairwise.map _ (fun a b hab e => hab (kyV_inj e)) h9
        have hjj : j' = j := by
          refine (List.getElem_inj (h₀ := by rw [List.length_map]; exact hjl') (h₁ := by rw [List.length_map]; exact hjl) hnd).1 ?_
          rw [List.getElem_map, List.getElem_map, hje, hje', f3, g3]
        subst hjj
        have g4 : e0 = e' := Option.some.inj (f2.symm.trans g2)
        rw [← g4]
        exact hc
    refine ⟨c, e0.born, W1, _, hcm, look w es clock _ _ hb f1 hc, ?_, hl1, ?_, ?_, ho, ho2⟩
    · rw [← hW1]
      simp [Instr.mapEntry, run_underlying underK, MapKept.run_getObj_map hb, lawK.check w false hl, f1, hj, f3, lawK.stays w hl, hsame, MapKept.run_setObj_map _ hb, Result.andThen, goInt, hc]
    · simp [Instr.entryStore, MapKept.run_getObj_map hb1, asInt, asIntOf, hidx, MapKept.run_setObj_map _ hb1, Result.andThen]
    · unfold addK
      rw [if_pos hin]
      have hset : (es.modify j (fun e => { e with val := .int .i64 ((c : Int) + 1) })).toList = es.toList.set j { e0 with val := .int .i64 ((c : Int) + 1) } := by
        rw [Array.toList_modify, ChangeMaps.modify_eq_set _ _ _ _ f2]
      refine ⟨⟨h0, h9⟩, _, _, (MapKept.heap_set hb1).1, ?_, ?_, ?_, ?_⟩
      · intro e he
        rw [hset] at he
        rcases List.mem_or_eq_of_mem_set he with he | he
        · exact h1 e he
        · rw [he]; exact h1 e0 (List.mem_of_getElem? f2)
      · rw [hset, List.map_set, WideElems.set_self _ _ _ (by rw [List.getElem?_map, f2]; rfl)]
        exact h2
      · rw [hset, List.map_set, WideElems.set_self _ _ _ (by rw [List.getElem?_map, f2]; rfl)]
        exact h3
      · intro e he
        rw [hset] at he
        rcases List.mem_or_eq_of_mem_set he with he | he
        · obtain ⟨c', hc', hcm'⟩ := h4 e he
          exact ⟨c', hc', by omega⟩
        · rw [he]
          exact ⟨c + 1, by simp, by omega⟩
end Hx
end Go.Proofs.Ytlfmjnocfkamaaa
namespace Go.Proofs.Ytlfmjnocfkamaaa
open Go.RowKit
namespace Hx
open Lx
set_option linter.unusedVariables false
theorem ba_l (s : ByteArray) : s.data.toList.length = s.size := by cases s; simp [ByteArray.size]
theorem at_l (s : ByteArray) (k : Nat) (h : k < s.size) : s.data.toList[k]'(by rw [ba_l]; exact h) = s[k]'h := by cases s; rfl
theorem ba_x {s t : ByteArray} (h : s.data.toList = t.data.toList) : s = t := by
  cases s; cases t
  simpa using h
theorem empty_l (s : ByteArray) : s.toList.isEmpty = decide (s.size = 0) := by
  rw [ByteArray.toList_eq, Bool.eq_iff_iff, List.isEmpty_iff, decide_eq_true_eq, ← ba_l]
  constructor
  · intro e; rw [e]; rfl
  · exact List.eq_nil_of_length_eq_zero
theorem extract_l (s : ByteArray) (a b : Nat) (h : b ≤ s.size) : (s.extract a b).data.toList = (s.data.toList.drop a).take (b - a) := Lib.extract_data s a b
set_option maxHeartbeats 1000000 in
set_option maxRecDepth 100000 in
theorem rletter9 (c : UInt8) (w : World) (b : Bool) (h : ltr c = b) :
    Calls Try.prog 72 #[.int .u8 c.toNat] w fun e w' => e = .returned (.bool b) ∧ w = w' := by
  have hlim := c.toNat_lt
  rcases (show (0 ≤ c.toNat ∧ c.toNat ≤ 64) ∨ (65 ≤ c.toNat ∧ c.toNat ≤ 90) ∨ (91 ≤ c.toNat ∧ c.toNat ≤ 94) ∨ (95 ≤ c.toNat ∧ c.toNat ≤ 95) ∨ (96 ≤ c.toNat ∧ c.toNat ≤ 96) ∨ (97 ≤ c.toNat ∧ c.toNat ≤ 122) ∨ (123 ≤ c.toNat ∧ c.toNat ≤ 255) by omega) with ⟨q1, q2⟩ | ⟨q1, q2⟩ | ⟨q1, q2⟩ | ⟨q1, q2⟩ | ⟨q1, q2⟩ | ⟨q1, q2⟩ | ⟨q1, q2⟩
  · obtain rfl : false = b := by
      rw [← h]
      unfold ltr
      have e95 : (c == 95) = false := by rw [Bool.eq_iff_iff]; simp [← UInt8.toNat_inj]; omega
      rw [e95]
      simp <;> omega
    clear h
    have fge97 : decide ((97 : Int) ≤ (c.toNat : Int)) = false := decide_eq_false (by omega)
    have fle122 : decide ((c.toNat : Int) ≤ 122) = true := decide_eq_true (by omega)
    have fge65 : decide ((65 : Int) ≤ (c.toNat : Int)) = false := decide_eq_false (by omega)
    have fle90 : decide ((c.toNat : Int) ≤ 90) = true := decide_eq_true (by omega)
    have feq95 : ((c.toNat : Int) == 95) = false := by simp; omega
    go_enter Try.func72, Try.ntmps72
    go_wp2_with fail
    go_ret
    exact ⟨rfl, rfl⟩
  · obtain rfl : true = b := by
      rw [← h]
      unfold ltr
      have e95 : (c == 95) = false := by rw [Bool.eq_iff_iff]; simp [← UInt8.toNat_inj]; omega
      rw [e95]
      simp <;> omega
    clear h
    have fge97 : decide ((97 : Int) ≤ (c.toNat : Int)) = false := decide_eq_false (by omega)
    have fle122 : decide ((c.toNat : Int) ≤ 122) = true := decide_eq_true (by omega)
    have fge65 : decide ((65 : Int) ≤ (c.toNat : Int)) = true := decide_eq_true (by omega)
    have fle90 : decide ((c.toNat : Int) ≤ 90) = true := decide_eq_true (by omega)
    have feq95 : ((c.toNat : Int) == 95) = false := by simp; omega
    go_enter Try.func72, Try.ntmps72
    go_wp2_with fail
    go_ret
    exact ⟨rfl, rfl⟩
  · obtain rfl : false = b := by
      rw [← h]
      unfold ltr
      have e95 : (c == 95) = false := by rw [Bool.eq_iff_iff]; simp [← UInt8.toNat_inj]; omega
      rw [e95]
      simp <;> omega
    clear h
    have fge97 : decide ((97 : Int) ≤ (c.toNat : Int)) = false := decide_eq_false (by omega)
    have fle122 : decide ((c.toNat : Int) ≤ 122) = true := decide_eq_true (by omega)
    have fge65 : decide ((65 : Int) ≤ (c.toNat : Int)) = true := decide_eq_true (by omega)
    have fle90 : decide ((c.toNat : Int) ≤ 90) = false := decide_eq_false (by omega)
    have feq95 : ((c.toNat : Int) == 95) = false := by simp; omega
    go_enter Try.func72, Try.ntmps72
    go_wp2_with fail
    go_ret
    exact ⟨rfl, rfl⟩
  · obtain rfl : true = b := by
      rw [← h]
      unfold ltr
      have e95 : (c == 95) = true := by rw [Bool.eq_iff_iff]; simp [← UInt8.toNat_inj]; omega
      rw [e95]
      simp <;> omega
    clear h
    have fge97 : decide ((97 : Int) ≤ (c.toNat : Int)) = false := decide_eq_false (by omega)
    have fle122 : decide ((c.toNat : Int) ≤ 122) = true := decide_eq_true (by omega)
    have fge65 : decide ((65 : Int) ≤ (c.toNat : Int)) = true := decide_eq_true (by omega)
    have fle90 : decide ((c.toNat : Int) ≤ 90) = false := decide_eq_false (by omega)
    have feq95 : ((c.toNat : Int) == 95) = true := by simp; omega
    go_enter Try.func72, Try.ntmps72
    go_wp2_with fail
    go_ret
    exact ⟨rfl, rfl⟩
  · obtain rfl : false = b := by
      rw [← h]
      unfold ltr
      have e95 : (c == 95) = false := by rw [Bool.eq_iff_iff]; simp [← UInt8.toNat_inj]; omega
      rw [e95]
      simp <;> omega
    clear h
    have fge97 : decide ((97 : Int) ≤ (c.toNat : Int)) = false := decide_eq_false (by omega)
    have fle122 : decide ((c.toNat : Int) ≤ 122) = true := decide_eq_true (by omega)
    have fge65 : decide ((65 : Int) ≤ (c.toNat : Int)) = true := decide_eq_true (by omega)
    have fle90 : decide ((c.toNat : Int) ≤ 90) = false := decide_eq_false (by omega)
    have feq95 : ((c.toNat : Int) == 95) = false := by simp; omega
    go_enter Try.func72, Try.ntmps72
    go_wp2_with fail
    go_ret
    exact ⟨rfl, rfl⟩
  · obtain rfl : true = b := by
      rw [← h]
      unfold ltr
      have e95 : (c == 95) = false := by rw [Bool.eq_iff_iff]; simp [← UInt8.toNat_inj]; omega
      rw [e95]
      simp <;> omega
    clear h
    have fge97 : decide ((97 : Int) ≤ (c.toNat : Int)) = true := decide_eq_true (by omega)
    have fle122 : decide ((c.toNat : Int) ≤ 122) = true := decide_eq_true (by omega)
    have fge65 : decide ((65 : Int) ≤ (c.toNat : Int)) = true := decide_eq_true (by omega)
    have fle90 : decide ((c.toNat : Int) ≤ 90) = false := decide_eq_false (by omega)
    have feq95 : ((c.toNat : Int) == 95) = false := by simp; omega
    go_enter Try.func72, Try.ntmps72
    go_wp2_with fail
    go_ret
    exact ⟨rfl, rfl⟩
  · obtain rfl : false = b := by
      rw [← h]
      unfold ltr
      have e95 : (c == 95) = false := by rw [Bool.eq_iff_iff]; simp [← UInt8.toNat_inj]; omega
      rw [e95]
      simp <;> omega
    clear h
    have fge97 : decide ((97 : Int) ≤ (c.toNat : Int)) = true := decide_eq_true (by omega)
    have fle122 : decide ((c.toNat : Int) ≤ 122) = false := decide_eq_false (by omega)
    have fge65 : decide ((65 : Int) ≤ (c.toNat : Int)) = true := decide_eq_true (by omega)
    have fle90 : decide ((c.toNat : Int) ≤ 90) = false := decide_eq_false (by omega)
    have feq95 : ((c.toNat : Int) == 95) = false := by simp; omega
    go_enter Try.func72, Try.ntmps72
    go_wp2_with fail
    go_ret
    exact ⟨rfl, rfl⟩
theorem ret_b9 {x y : Bool} (h : x = y) : Ending.returned (.bool x) = .returned (.bool y) := by rw [h]
/-- So far a name. -/
def nameP (l : List UInt8) : Prop := l = [] ∨ nameL l = true
theorem nameP_step {l : List UInt8} {c : UInt8} (h : nameP l) (h0 : l = [] → ltr c = true) (h1 : nch c = true) : nameP (l ++ [c]) := by
  right
  cases l with
  | nil => show (ltr c && [].all nch) = true; rw [h0 rfl]; rfl
  | cons d r =>
    rcases h with h | h
    · cases h
    · unfold nameL at h ⊢
      rw [Bool.and_eq_true] at h
      show (ltr d && (r ++ [c]).all nch) = true
      rw [h.1, List.all_append, h.2]
      simp [h1]
theorem nameL_no {l : List UInt8} {k : Nat} (h : k < l.length) (h1 : nch (l[k]'h) = false) : nameL l = false := by
  cases hq : nameL l with
  | false => rfl
  | true => have := nameL_all hq _ (List.getElem_mem h); rw [h1] at this; cases this
theorem nameL_no0 {l : List UInt8} (h : 0 < l.length) (h1 : ltr (l[0]'h) = false) : nameL l = false := by
  cases l with
  | nil => simp at h
  | cons c r =>
    have h1' : ltr c = false := h1
    show (ltr c && r.all nch) = false
    rw [h1']
    rfl
theorem nch_not {c : UInt8} (h : ltr c = false) : nch c = (decide (48 ≤ c.toNat) && decide (c.toNat ≤ 57) || c == 46 || c == 45) := by unfold nch; rw [h]; simp
set_option maxHeartbeats 4000000 in
set_option maxRecDepth 100000 in
theorem rname9 (s : ByteArray) (w : World) (hm : s.size ≤ 1000000) (b : Bool) (h : nameL s.data.toList = b) :
    Calls Try.prog 67 #[.string s] w fun e w' => e = .returned (.bool b) ∧ w = w' := by
  have hem := empty_l s
  have HH := Lib.hid h
  have HM := Lib.hid hm
  obtain ⟨ie, hie⟩ : ∃ ie, decide (s.size = 0) = ie := ⟨_, rfl⟩
  rw [hie] at hem
  have HIE := Lib.hid hie
  clear h hm hie
  go_enter Try.func67, Try.ntmps67
  go_wp2_with fail
  go_loopw [3] (fun i wr => ∃ k : Nat, k ≤ s.size ∧ i = .int .i64 k ∧ nameP (s.data.toList.take k) ∧ w = wr) (fun i _ => s.size - (intOf i).toNat)
  case atStart => exact ⟨0, Nat.zero_le _, rfl, .inl rfl, by first | rfl | trivial⟩
  case round =>
    obtain ⟨k, hk, rfl, hn, rfl⟩ := hrel
    have hs := HM.out
    by_cases hlt : k < s.size
    · obtain ⟨c, hc⟩ : ∃ c, s[k]'hlt = c := ⟨_, rfl⟩
      have hca : ∀ h, s[k]'h = c := fun _ => hc
      have hkl : k < s.data.toList.length := by rw [ba_l]; exact hlt
      have hck : s.data.toList[k]'hkl = c := (at_l s k hlt).trans hc
      have bk : (0 : Int) ≤ (k : Int) ∧ (k : Int) < (s.size : Int) := by omega
      have hstep := fun h0 h1 => nameP_step (c := c) hn h0 h1
      rw [← hck, ← List.take_succ_eq_append_getElem hkl, hck] at hstep
      have HST := Lib.hid hstep
      have HCK := Lib.hid hck
      clear hck hc hn hstep
      cases hl : ltr c
      · have HL := Lib.hid hl
        by_cases h0 : k = 0
        · subst h0
          obtain rfl : false = b := by
            have := nameL_no0 (l := s.data.toList) hkl (by rw [HCK.out]; exact HL.out)
            rw [← HH.out, this]
          clear hl hem
          go_wp2_with (first
            | (go_at_call 72; (with_reducible refine (rletter9 c _ false HL.out).mono ?_); rintro e w1 ⟨rfl, rfl⟩)
            | fail)
          go_ret
          exact ⟨rfl, rfl⟩
        · have hk0 : ((k : Int) == 0) = false := by simp; omega
          have HK0 : Hid (s.data.toList.take k ≠ []) := Lib.hid fun e => by
            have := congrArg List.length e
            rw [List.length_take, List.length_nil] at this
            omega
          clear hl h0
          have hlim := c.toNat_lt
          rcases (show (0 ≤ c.toNat ∧ c.toNat ≤ 44) ∨ (45 ≤ c.toNat ∧ c.toNat ≤ 45) ∨ (46 ≤ c.toNat ∧ c.toNat ≤ 46) ∨ (47 ≤ c.toNat ∧ c.toNat ≤ 47) ∨ (48 ≤ c.toNat ∧ c.toNat ≤ 57) ∨ (58 ≤ c.toNat ∧ c.toNat ≤ 255) by omega) with ⟨q1, q2⟩ | ⟨q1, q2⟩ | ⟨q1, q2⟩ | ⟨q1, q2⟩ | ⟨q1, q2⟩ | ⟨q1, q2⟩
          · have hv : nch c = false := by
              rw [nch_not HL.out]
              have e45 : (c == 45) = false := by rw [Bool.eq_iff_iff]; simp [← UInt8.toNat_inj]; omega
              have e46 : (c == 46) = false := by rw [Bool.eq_iff_iff]; simp [← UInt8.toNat_inj]; omega
              rw [e45, e46]
              simp
              omega
            have flt48 : decide ((c.toNat : Int) < 48) = true := decide_eq_true (by omega)
            have fgt57 : decide ((57 : Int) < (c.toNat : Int)) = false := decide_eq_false (by omega)
            have fne46 : ((c.toNat : Int) != 46) = true := by simp; omega
            have fne45 : ((c.toNat : Int) != 45) = true := by simp; omega
            obtain rfl : false = b := by
              have := nameL_no (l := s.data.toList) hkl (by rw [HCK.out]; exact hv)
              rw [← HH.out, this]
            clear hv hem
            go_wp2_with (first
              | (go_at_call 72; (with_reducible refine (rletter9 c _ false HL.out).mono ?_); rintro e w1 ⟨rfl, rfl⟩)
              | fail)
            go_ret
            exact ⟨rfl, rfl⟩
          · have hv : nch c = true := by
              rw [nch_not HL.out]
              have e45 : (c == 45) = true := by rw [Bool.eq_iff_iff]; simp [← UInt8.toNat_inj]; omega
              have e46 : (c == 46) = false := by rw [Bool.eq_iff_iff]; simp [← UInt8.toNat_inj]; omega
              rw [e45, e46]
              simp
            have flt48 : decide ((c.toNat : Int) < 48) = true := decide_eq_true (by omega)
            have fgt57 : decide ((57 : Int) < (c.toNat : Int)) = false := decide_eq_false (by omega)
            have fne46 : ((c.toNat : Int) != 46) = true := by simp; omega
            have fne45 : ((c.toNat : Int) != 45) = false := by simp; omega
            have HV := Lib.hid (HST.out (fun e => absurd e HK0.out) hv)
            clear hv
            go_wp2_with (first
              | (go_at_call 72; (with_reducible refine (rletter9 c _ false HL.out).mono ?_); rintro e w1 ⟨rfl, rfl⟩)
              | fail)
            go_roundw
            case rel => exact ⟨k + 1, hlt, by go_num, HV.out, by first | rfl | trivial⟩
            case measure => simp [intOf]; omega
          · have hv : nch c = true := by
              rw [nch_not HL.out]
              have e45 : (c == 45) = false := by rw [Bool.eq_iff_iff]; simp [← UInt8.toNat_inj]; omega
              have e46 : (c == 46) = true := by rw [Bool.eq_iff_iff]; simp [← UInt8.toNat_inj]; omega
              rw [e45, e46]
              simp
            have flt48 : decide ((c.toNat : Int) < 48) = true := decide_eq_true (by omega)
            have fgt57 : decide ((57 : Int) < (c.toNat : Int)) = false := decide_eq_false (by omega)
            have fne46 : ((c.toNat : Int) != 46) = false := by simp; omega
            have fne45 : ((c.toNat : Int) != 45) = true := by simp; omega
            have HV := Lib.hid (HST.out (fun e => absurd e HK0.out) hv)
            clear hv
            go_wp2_with (first
              | (go_at_call 72; (with_reducible refine (rletter9 c _ false HL.out).mono ?_); rintro e w1 ⟨rfl, rfl⟩)
              | fail)
            go_roundw
            case rel => exact ⟨k + 1, hlt, by go_num, HV.out, by first | rfl | trivial⟩
            case measure => simp [intOf]; omega
          · have hv : nch c = false := by
              rw [nch_not HL.out]
              have e45 : (c == 45) = false := by rw [Bool.eq_iff_iff]; simp [← UInt8.toNat_inj]; omega
              have e46 : (c == 46) = false := by rw [Bool.eq_iff_iff]; simp [← UInt8.toNat_inj]; omega
              rw [e45, e46]
              simp
              omega
            have flt48 : decide ((c.toNat : Int) < 48) = true := decide_eq_true (by omega)
            have fgt57 : decide ((57 : Int) < (c.toNat : Int)) = false := decide_eq_false (by omega)
            have fne46 : ((c.toNat : Int) != 46) = true := by simp; omega
            have fne45 : ((c.toNat : Int) != 45) = true := by simp; omega
            obtain rfl : false = b := by
              have := nameL_no (l := s.data.toList) hkl (by rw [HCK.out]; exact hv)
              rw [← HH.out, this]
            clear hv hem
            go_wp2_with (first
              | (go_at_call 72; (with_reducible refine (rletter9 c _ false HL.out).mono ?_); rintro e w1 ⟨rfl, rfl⟩)
              | fail)
            go_ret
            exact ⟨rfl, rfl⟩
          · have hv : nch c = true := by
              rw [nch_not HL.out]
              have e45 : (c == 45) = false := by rw [Bool.eq_iff_iff]; simp [← UInt8.toNat_inj]; omega
              have e46 : (c == 46) = false := by rw [Bool.eq_iff_iff]; simp [← UInt8.toNat_inj]; omega
              rw [e45, e46]
              simp
              omega
            have flt48 : decide ((c.toNat : Int) < 48) = false := decide_eq_false (by omega)
            have fgt57 : decide ((57 : Int) < (c.toNat : Int)) = false := decide_eq_false (by omega)
            have fne46 : ((c.toNat : Int) != 46) = true := by simp; omega
            have fne45 : ((c.toNat : Int) != 45) = true := by simp; omega
            have HV := Lib.hid (HST.out (fun e => absurd e HK0.out) hv)
            clear hv
            go_wp2_with (first
              | (go_at_call 72; (with_reducible refine (rletter9 c _ false HL.out).mono ?_); rintro e w1 ⟨rfl, rfl⟩)
              | fail)
            go_roundw
            case rel => exact ⟨k + 1, hlt, by go_num, HV.out, by first | rfl | trivial⟩
            case measure => simp [intOf]; omega
          · have hv : nch c = false := by
              rw [nch_not HL.out]
              have e45 : (c == 45) = false := by rw [Bool.eq_iff_iff]; simp [← UInt8.toNat_inj]; omega
              have e46 : (c == 46) = false := by rw [Bool.eq_iff_iff]; simp [← UInt8.toNat_inj]; omega
              rw [e45, e46]
              simp
              omega
            have flt48 : decide ((c.toNat : Int) < 48) = false := decide_eq_false (by omega)
            have fgt57 : decide ((57 : Int) < (c.toNat : Int)) = true := decide_eq_true (by omega)
            have fne46 : ((c.toNat : Int) != 46) = true := by simp; omega
            have fne45 : ((c.toNat : Int) != 45) = true := by simp; omega
            obtain rfl : false = b := by
              have := nameL_no (l := s.data.toList) hkl (by rw [HCK.out]; exact hv)
              rw [← HH.out, this]
            clear hv hem
            go_wp2_with (first
              | (go_at_call 72; (with_reducible refine (rletter9 c _ false HL.out).mono ?_); rintro e w1 ⟨rfl, rfl⟩)
              | fail)
            go_ret
            exact ⟨rfl, rfl⟩
      · have HL := Lib.hid hl
        have HV := Lib.hid (HST.out (fun _ => hl) (nch_of_ltr hl))
        clear hl
        go_wp2_with (first
          | (go_at_call 72; (with_reducible refine (rletter9 c _ true HL.out).mono ?_); rintro e w1 ⟨rfl, rfl⟩)
          | fail)
        go_roundw
        case rel => exact ⟨k + 1, hlt, by go_num, HV.out, by first | rfl | trivial⟩
        case measure => simp [intOf]; omega
    · obtain rfl : k = s.size := by omega
      have HX : Hid ((!ie) = b) := Lib.hid (by
        have hn' := hn
        rw [List.take_of_length_le (by rw [ba_l]; omega)] at hn'
        rw [← HIE.out, ← HH.out]
        rcases hn' with h | h
        · rw [h]
          have : s.size = 0 := by rw [← ba_l, h]; rfl
          simp [this, nameL]
        · rw [h]
          have : s.size ≠ 0 := by
            intro e
            rw [List.eq_nil_of_length_eq_zero ((ba_l s).trans e)] at h
            cases h
          simp [this])
      clear hn
      go_wp2_with fail
      go_ret
      exact ⟨ret_b9 HX.out, rfl⟩
end Hx
end Go.Proofs.Ytlfmjnocfkamaaa
namespace Go.Proofs.Ytlfmjnocfkamaaa
open Go.RowKit
namespace Hx
open Lx
set_option linter.unusedVariables false
theorem cutC_at {l : List UInt8} {k : Nat} (h : k < l.length) (h1 : (58 : UInt8) ∉ l.take k) (h2 : l[k]'h = 58) : cutC l = some (l.take k, l.drop (k + 1)) := by
  have e : l = l.take k ++ 58 :: l.drop (k + 1) := by rw [← h2, ← List.drop_eq_getElem_cons h, List.take_append_drop]
  have gen : ∀ (a b : List UInt8), (58 : UInt8) ∉ a → cutC (a ++ 58 :: b) = some (a, b) := by
    intro a
    induction a with
    | nil => intro b _; show (if (58 : UInt8) = 58 then _ else _) = _; rw [if_pos rfl]
    | cons c a ih =>
      intro b hn
      rw [List.mem_cons, not_or] at hn
      show (if c = 58 then _ else _) = _
      rw [if_neg (Ne.symm hn.1)]
      show Option.map _ (cutC (a ++ 58 :: b)) = _
      rw [ih b hn.2]
      rfl
  have := gen _ (l.drop (k + 1)) h1
  rwa [← e] at this
theorem cutC_no {l : List UInt8} (h : (58 : UInt8) ∉ l) : cutC l = none := by
  induction l with
  | nil => rfl
  | cons c l ih =>
    rw [List.mem_cons, not_or] at h
    show (if c = 58 then _ else _) = _
    rw [if_neg (Ne.symm h.1), ih h.2]
    rfl
/-- What Parts answers. -/
def PartsTo (s : ByteArray) (w : World) (e : Ending) (w' : World) : Prop := (∃ n, w' = w.drewN n) ∧
  ((∃ x y : ByteArray, cutC s.data.toList = some (x.data.toList, y.data.toList) ∧ e = .returned (.tuple #[.string x, .string y, .bool true])) ∨ (cutC s.data.toList = none ∧ e = .returned (.tuple #[.string ⟨#[]⟩, .string s, .bool false])))
set_option maxHeartbeats 2000000 in
set_option maxRecDepth 100000 in
theorem rparts9 (s : ByteArray) (w : World) (hm : s.size ≤ 1000000) : Calls Try.prog 66 #[.string s] w (PartsTo s w) := by
  have HM := Lib.hid hm
  clear hm
  go_enter Try.func66, Try.ntmps66
  go_wp2_with fail
  go_loopw [5] (fun i wr => ∃ k : Nat, k ≤ s.size ∧ i = .int .i64 k ∧ (58 : UInt8) ∉ s.data.toList.take k ∧ w = wr) (fun i _ => s.size - (intOf i).toNat)
  case atStart => exact ⟨0, Nat.zero_le _, rfl, by simp, by first | rfl | trivial⟩
  case round =>
    obtain ⟨k, hk, rfl, hn, rfl⟩ := hrel
    have hs := HM.out
    by_cases hlt : k < s.size
    · obtain ⟨c, hc⟩ : ∃ c, s[k]'hlt = c := ⟨_, rfl⟩
      have hca : ∀ h, s[k]'h = c := fun _ => hc
      have hkl : k < s.data.toList.length := by rw [ba_l]; exact hlt
      have hck : s.data.toList[k]'hkl = c := (at_l s k hlt).trans hc
      have bk : (0 : Int) ≤ (k : Int) ∧ (k : Int) < (s.size : Int) := by omega
      have hcl := c.toNat_lt
      by_cases h58 : c.toNat = 58
      · have e58 : c = 58 := UInt8.toNat_inj.1 h58
        have f58 : ((c.toNat : Int) == 58) = true := by simp; omega
        obtain ⟨x, hx⟩ : ∃ x, s.extract 0 k = x := ⟨_, rfl⟩
        obtain ⟨y, hy⟩ : ∃ y, s.extract (k + 1) s.size = y := ⟨_, rfl⟩
        have HC : Hid (cutC s.data.toList = some (x.data.toList, y.data.toList)) := Lib.hid (by
          rw [cutC_at hkl hn (hck.trans e58), ← hx, ← hy, extract_l s 0 k hk, extract_l s (k + 1) s.size (Nat.le_refl _), List.drop_zero, Nat.sub_zero, List.take_of_length_le (l := s.data.toList.drop (k + 1)) (by rw [List.length_drop, ba_l]; omega)])
        clear hck hc hn e58 h58
        go_wp2_with fail
        go_region
        go_wp2_with fail
        refine bodyPost_ret (v := .tuple #[.string x, .string y, .bool true]) ?_ rfl ⟨⟨1, rfl⟩, .inl ⟨x, y, HC.out, rfl⟩⟩
        simp [results, Try.results66, go_sem]
      · have f58 : ((c.toNat : Int) == 58) = false := by simp; omega
        have HV : Hid ((58 : UInt8) ∉ s.data.toList.take (k + 1)) := Lib.hid (by
          rw [List.take_succ_eq_append_getElem hkl, hck, List.mem_append, not_or]
          refine ⟨hn, ?_⟩
          rw [List.mem_singleton]
          rintro rfl
          exact h58 rfl)
        clear hck hc hn h58
        go_wp2_with fail
        go_roundw
        case rel => exact ⟨k + 1, hlt, by go_num, HV.out, by first | rfl | trivial⟩
        case measure => simp [intOf]; omega
    · obtain rfl : k = s.size := by omega
      have HC : Hid (cutC s.data.toList = none) := Lib.hid (by
        rw [List.take_of_length_le (by rw [ba_l]; omega)] at hn
        exact cutC_no hn)
      clear hn
      go_wp2_with fail
      refine bodyPost_ret (v := .tuple #[.string ⟨#[]⟩, .string s, .bool false]) ?_ rfl ⟨⟨0, rfl⟩, .inr ⟨HC.out, rfl⟩⟩
      simp [results, Try.results66, go_sem]
theorem ex_size {l : List UInt8} {x y : ByteArray} (h : cutC l = some (x.data.toList, y.data.toList)) : x.size + y.size + 1 = l.length := by
  have := congrArg List.length (cutC_some h).1
  rw [List.length_append, List.length_cons, ba_l, ba_l] at this
  omega
theorem rparts_some (s x y : ByteArray) (w : World) (hm : s.size ≤ 1000000) (h : cutC s.data.toList = some (x.data.toList, y.data.toList)) : Calls Try.prog 66 #[.string s] w fun e w' => e = .returned (.tuple #[.string x, .string y, .bool true]) ∧ ∃ n, w' = w.drewN n :=
  (rparts9 s w hm).mono fun e w' hp => by
    obtain ⟨hb, ⟨x', y', h1, h2⟩ | ⟨h1, _⟩⟩ := hp
    · rw [h] at h1
      obtain ⟨e1, e2⟩ := (Prod.mk.injEq _ _ _ _).mp (Option.some.inj h1)
      rw [ba_x e1, ba_x e2]
      exact ⟨h2, hb⟩
    · rw [h] at h1; cases h1
theorem rparts_none (s : ByteArray) (w : World) (hm : s.size ≤ 1000000) (h : cutC s.data.toList = none) : Calls Try.prog 66 #[.string s] w fun e w' => e = .returned (.tuple #[.string ⟨#[]⟩, .string s, .bool false]) ∧ ∃ n, w' = w.drewN n :=
  (rparts9 s w hm).mono fun e w' hp => by
    obtain ⟨hb, ⟨x', y', h1, h2⟩ | ⟨h1, h2⟩⟩ := hp
    · rw [h] at h1; cases h1
    · exact ⟨h2, hb⟩
set_option maxHeartbeats 2000000 in
set_option maxRecDepth 100000 in
theorem rfull9q (s : ByteArray) (w : World) (hm : s.size ≤ 1000000) (b : Bool) (h : fullL s.data.toList = b) :
    Calls Try.prog 59 #[.string s] w fun e w' => e = .returned (.bool b) ∧ ∃ n, w' = w.drewN n := by
  unfold fullL at h
  have HM := Lib.hid hm
  cases hc : cutC s.data.toList with
  | none =>
    rw [hc] at h
    have HC := Lib.hid hc
    have HH : Hid (nameL s.data.toList = b) := h
    clear hc h hm
    cases b <;> (
      go_enter Try.func59, Try.ntmps59
      go_wp2_with (first
        | (go_at_call 66; (with_reducible refine (rparts_none s w HM.out HC.out).mono ?_); rintro e w1 ⟨rfl, n1, rfl⟩)
        | (go_at_call 67; (with_reducible refine (rname9 s _ HM.out _ HH.out).mono ?_); rintro e w2 ⟨rfl, rfl⟩)
        | fail)
      go_ret
      exact ⟨rfl, n1, rfl⟩)
  | some p =>
    obtain ⟨a, c⟩ := p
    rw [hc] at h
    dsimp only at h
    obtain ⟨x, hx⟩ : ∃ x : ByteArray, x.data.toList = a := ⟨⟨a.toArray⟩, rfl⟩
    obtain ⟨y, hy⟩ : ∃ y : ByteArray, y.data.toList = c := ⟨⟨c.toArray⟩, rfl⟩
    subst hx hy
    have hsz := ex_size hc
    rw [ba_l] at hsz
    have HX : Hid (x.size ≤ 1000000) := Lib.hid (by omega)
    have HY : Hid (y.size ≤ 1000000) := Lib.hid (by omega)
    obtain ⟨b1, h1⟩ : ∃ b1, nameL y.data.toList = b1 := ⟨_, rfl⟩
    obtain ⟨b2, h2⟩ : ∃ b2, nameL x.data.toList = b2 := ⟨_, rfl⟩
    rw [h1, h2] at h
    have HC := Lib.hid hc
    have H1 := Lib.hid h1
    have H2 := Lib.hid h2
    clear hc h1 h2 hm hsz
    subst h
    cases b1
    · go_enter Try.func59, Try.ntmps59
      go_wp2_with (first
        | (go_at_call 66; (with_reducible refine (rparts_some s x y w HM.out HC.out).mono ?_); rintro e w1 ⟨rfl, n1, rfl⟩)
        | (go_at_call 67; (with_reducible refine (rname9 y _ HY.out _ H1.out).mono ?_); rintro e w2 ⟨rfl, rfl⟩)
        | fail)
      go_ret
      exact ⟨rfl, n1, rfl⟩
    · cases b2 <;> (
      go_enter Try.func59, Try.ntmps59
      go_wp2_with (first
        | (go_at_call 66; (with_reducible refine (rparts_some s x y w HM.out HC.out).mono ?_); rintro e w1 ⟨rfl, n1, rfl⟩)
        | (go_at_call 67; (with_reducible refine (rname9 y _ HY.out _ H1.out).mono ?_); rintro e w2 ⟨rfl, rfl⟩)
        | (go_at_call 67; (with_reducible refine (rname9 x _ HX.out _ H2.out).mono ?_); rintro e w3 ⟨rfl, rfl⟩)
        | fail)
      go_ret
      exact ⟨rfl, n1, rfl⟩)
theorem rfull9 (s : ByteArray) (w : World) (hm : s.size ≤ 1000000) (b : Bool) (h : fullL s.data.toList = b) :
    Calls Try.prog 59 #[.string s] w fun e w' => e = .returned (.bool b) ∧ Below w.heap.size w w' :=
  (rfull9q s w hm b h).mono fun e w' ⟨h1, n, h2⟩ => ⟨h1, by rw [h2]; exact ⟨rfl, rfl, rfl, Nat.le_refl _, fun _ _ => rfl⟩⟩
theorem tw_next {p : UInt8 → Bool} {l : List UInt8} {n : Nat} (h : n < l.length) (h1 : (l.take n).all p = true) : (p (l[n]'h) = true → (l.take (n + 1)).all p = true) ∧ (p (l[n]'h) = false → l.takeWhile p = l.take n) := by
  refine ⟨fun h2 => ?_, fun h2 => ?_⟩
  · rw [List.take_succ_eq_append_getElem h, List.all_append, h1]
    simp [h2]
  · have e : l = l.take n ++ l.drop n := (List.take_append_drop n l).symm
    conv => lhs; rw [e]
    refine (tw_app (List.all_eq_true.1 h1) fun c r e2 => ?_).1
    rw [List.drop_eq_getElem_cons h] at e2
    rw [← (List.cons.inj e2).1]
    exact h2
theorem tw_all {p : UInt8 → Bool} {l : List UInt8} (h1 : l.all p = true) : l.takeWhile p = l := by
  have := (tw_app (b := []) (List.all_eq_true.1 h1) (fun c r e => by cases e)).1
  rwa [List.append_nil] at this
theorem wch_not {c : UInt8} (h : ltr c = false) : wch c = (decide (48 ≤ c.toNat) && decide (c.toNat ≤ 57) || c == 46 || c == 45 || c == 58) := by unfold wch; rw [nch_not h]
end Hx
end Go.Proofs.Ytlfmjnocfkamaaa
namespace Go.Proofs.Ytlfmjnocfkamaaa
namespace Lx
open Tx Nmb Es
set_option linter.unusedVariables false
/-- Are the names new, behind others? -/
def fresh : List Pr → List Pr → Bool
  | _, [] => true
  | acc, p :: r => !hasL acc p.name && fresh (acc ++ [p]) r
theorem fresh_snoc : ∀ (l acc : List Pr) (p : Pr), fresh acc (l ++ [p]) = (fresh acc l && !hasL (acc ++ l) p.name) := by
  intro l
  induction l with
  | nil => intro acc p; simp [fresh]
  | cons q l ih =>
    intro acc p
    rw [List.cons_append]
    show (!hasL acc q.name && fresh (acc ++ [q]) (l ++ [p])) = ((!hasL acc q.name && fresh (acc ++ [q]) l) && _)
    rw [ih, List.append_assoc, List.singleton_append, Bool.and_assoc]
/-- How many different names there are. -/
def dis : List Pr → List Pr → Nat
  | _, [] => 0
  | acc, p :: r => (if hasL acc p.name then 0 else 1) + dis (acc ++ [p]) r
theorem dis_snoc : ∀ (l acc : List Pr) (p : Pr), dis acc (l ++ [p]) = dis acc l + (if hasL (acc ++ l) p.name then 0 else 1) := by
  intro l
  induction l with
  | nil => intro acc p; simp [dis]
  | cons q l ih =>
    intro acc p
    rw [List.cons_append]
    show (if hasL acc q.name then 0 else 1) + dis (acc ++ [q]) (l ++ [p]) = ((if hasL acc q.name then 0 else 1) + dis (acc ++ [q]) l) + _
    rw [ih, List.append_assoc, List.singleton_append, Nat.add_assoc]
theorem dis_le : ∀ (l acc : List Pr), dis acc l ≤ l.length ∧ (dis acc l = l.length ↔ fresh acc l = true) := by
  intro l
  induction l with
  | nil => intro acc; simp [dis, fresh]
  | cons q l ih =>
    intro acc
    obtain ⟨h1, h2⟩ := ih (acc ++ [q])
    unfold dis fresh
    rw [List.length_cons]
    cases hh : hasL acc q.name
    · simp
      refine ⟨by omega, ?_⟩
      rw [← h2]
      omega
    · simp
      omega
theorem attrsF_fresh : ∀ (l acc : List Pr), attrsF acc l = (fresh acc l && l.all fun p => fullL p.name && okT p.value) := by
  intro l
  induction l with
  | nil => intro acc; rfl
  | cons p l ih =>
    intro acc
    unfold attrsF fresh
    rw [ih, List.all_cons]
    cases fullL p.name <;> cases hasL acc p.name <;> cases okT p.value <;> simp
/-- The tag whose name stands ahead of a text, names that come twice let through. -/
def tagN : Nat → List UInt8 → Option (Bool × List Pr × List UInt8)
  | 0, _ => none
  | f + 1, l => match l.dropWhile blk with
    | [] => none
    | c :: x => if c = 62 then some (false, [], x) else if c = 47 ∧ x.head? = some 62 then some (true, [], x.tail) else
      match attrL (c :: x) with
      | none => none
      | some (p, y) => if l.length = (c :: x).length then none else (tagN f y).map fun q => (q.1, p :: q.2.1, q.2.2)
theorem tagN_same : ∀ (f g : Nat) (l : List UInt8), l.length < f → l.length < g → tagN f l = tagN g l := by
  intro f
  induction f with
  | zero => intro g l h; omega
  | succ f ih =>
    intro g l h1 h2
    cases g with
    | zero => omega
    | succ g =>
      unfold tagN
      have hd := dropWhile_len blk l
      cases hb : l.dropWhile blk with
      | nil => rfl
      | cons c x =>
        dsimp only
        split
        · rfl
        split
        · rfl
        cases ha : attrL (c :: x) with
        | none => rfl
        | some q =>
          obtain ⟨p, y⟩ := q
          have hl := attrL_len ha
          rw [hb] at hd
          dsimp only
          split
          · rfl
          rw [ih g y (by omega) (by omega)]
/-- .. and then asked. -/
theorem tagF_N : ∀ (f : Nat) (acc : List Pr) (l : List UInt8), tagF f acc l = match tagN f l with
    | none => none
    | some (b, m, x) => if fresh acc m = true then some (b, acc ++ m, x) else none := by
  intro f
  induction f with
  | zero => intro acc l; rfl
  | succ f ih =>
    intro acc l
    unfold tagF tagN
    cases hb : l.dropWhile blk with
    | nil => rfl
    | cons c x =>
      dsimp only
      by_cases h1 : c = 62
      · rw [if_pos h1, if_pos h1]
        simp [fresh]
      rw [if_neg h1, if_neg h1]
      by_cases h2 : c = 47 ∧ x.head? = some 62
      · rw [if_pos h2, if_pos h2]
        simp [fresh]
      rw [if_neg h2, if_neg h2]
      cases ha : attrL (c :: x) with
      | none => rfl
      | some q =>
        obtain ⟨p, y⟩ := q
        dsimp only
        by_cases h3 : l.length = (c :: x).length
        · rw [if_pos (.inl h3), if_pos h3]
        · rw [if_neg h3]
          by_cases h4 : hasL acc p.name = true
          · rw [if_pos (.inr h4)]
            cases tagN f y with
            | none => rfl
            | some r =>
              obtain ⟨b, m, z⟩ := r
              simp [fresh, h4]
          · rw [if_neg (by rintro (h | h); exact h3 h; exact h4 h), ih]
            cases tagN f y with
            | none => rfl
            | some r =>
              obtain ⟨b, m, z⟩ := r
              simp [fresh, h4]
def tagH (l : List UInt8) : Option (Bool × List Pr × List UInt8) := tagN (l.length + 1) l
theorem tagH_nil {l : List UInt8} (h : l.dropWhile blk = []) : tagH l = none := by unfold tagH tagN; rw [h]
theorem tagH_shut {l x : List UInt8} (h : l.dropWhile blk = 62 :: x) : tagH l = some (false, [], x) := by unfold tagH tagN; rw [h]; simp
theorem tagH_bare {l x : List UInt8} (h : l.dropWhile blk = 47 :: 62 :: x) : tagH l = some (true, [], x) := by unfold tagH tagN; rw [h]; simp
/-- No end of a tag stands here. -/
def noEnd9 (l : List UInt8) : Prop := l.head? ≠ some 62 ∧ l.take 2 ≠ [47, 62]
theorem noEnd9_cons {c : UInt8} {x : List UInt8} (h : noEnd9 (c :: x)) : c ≠ 62 ∧ ¬ (c = 47 ∧ x.head? = some 62) := by
  obtain ⟨h1, h2⟩ := h
  refine ⟨fun e => h1 (by rw [e]; rfl), ?_⟩
  rintro ⟨rfl, h4⟩
  cases x with
  | nil => cases h4
  | cons d x => injection h4 with h4; exact h2 (by rw [h4]; rfl)
theorem tagH_none {l : List UInt8} (h : noEnd9 (l.dropWhile blk)) (h2 : (l.dropWhile blk).length = l.length ∨ attrL (l.dropWhile blk) = none) : tagH l = none := by
  unfold tagH tagN
  cases hb : l.dropWhile blk with
  | nil => rfl
  | cons c x =>
    rw [hb] at h h2
    obtain ⟨h3, h4⟩ := noEnd9_cons h
    dsimp only
    rw [if_neg h3, if_neg h4]
    rcases h2 with h2 | h2
    · cases attrL (c :: x) with
      | none => rfl
      | some q => dsimp only; rw [if_pos h2.symm]
    · rw [h2]
theorem tagH_next {l y : List UInt8} {p : Pr} (h : noEnd9 (l.dropWhile blk)) (h2 : (l.dropWhile blk).length ≠ l.length) (ha : attrL (l.dropWhile blk) = some (p, y)) : tagH l = (tagH y).map fun q => (q.1, p :: q.2.1, q.2.2) := by
  have hd := dropWhile_len blk l
  have hl := attrL_len ha
  unfold tagH
  conv => lhs; unfold tagN
  cases hb : l.dropWhile blk with
  | nil => rw [hb] at ha; cases ha
  | cons c x =>
    rw [hb] at h h2 ha hd hl
    obtain ⟨h3, h4⟩ := noEnd9_cons h
    dsimp only
    rw [if_neg h3, if_neg h4, ha]
    dsimp only
    rw [if_neg (fun e => h2 e.symm), tagN_same l.length (y.length + 1) y (by omega) (by omega)]
/-- The tag behind < and a name. -/
theorem tagL_H {l : List UInt8} (h47 : l.head? ≠ some 47) (hw : wordL l ≠ []) : tagL l = match tagH (l.drop (wordL l).length) with
    | none => none
    | some (b, m, x) => if fresh [] m = true then some (⟨if b then 3 else 1, wordL l, m, []⟩, x) else none := by
  unfold tagL tagH
  rw [if_neg h47, if_neg hw, tagF_N, tagN_same (l.length + 1) ((l.drop (wordL l).length).length + 1) _ (by rw [List.length_drop]; omega) (by omega)]
  cases tagN ((l.drop (wordL l).length).length + 1) (l.drop (wordL l).length) with
  | none => rfl
  | some r =>
    obtain ⟨b, m, x⟩ := r
    dsimp only
    by_cases hf : fresh [] m = true
    · rw [if_pos hf, if_pos hf]
      simp
    · rw [if_neg hf, if_neg hf]
      rfl
theorem tagL_no {l : List UInt8} (h47 : l.head? ≠ some 47) (hw : wordL l = []) : tagL l = none := by unfold tagL; rw [if_neg h47, if_pos hw]
theorem tagL_47 {l : List UInt8} : tagL (47 :: l) = shutL l := by unfold tagL; simp
theorem tw_len (p : UInt8 → Bool) (l : List UInt8) : l.drop (l.takeWhile p).length = l.dropWhile p ∧ l.take (l.takeWhile p).length = l.takeWhile p := by
  induction l with
  | nil => simp
  | cons c l ih =>
    by_cases h : p c = true
    · rw [List.takeWhile_cons_of_pos h, List.dropWhile_cons_of_pos h, List.length_cons, List.drop_succ_cons, List.take_succ_cons, ih.1, ih.2]
      exact ⟨rfl, rfl⟩
    · rw [List.takeWhile_cons_of_neg h, List.dropWhile_cons_of_neg h]
      exact ⟨rfl, rfl⟩
/-- Full names: what stands there, if it is one. -/
theorem wordL_of (l : List UInt8) : (fullL (l.takeWhile wch) = true → wordL l = l.takeWhile wch ∧ wordL l ≠ [] ∧ l.drop (wordL l).length = l.dropWhile wch) ∧ (fullL (l.takeWhile wch) = false → wordL l = []) := by
  refine ⟨fun h => ?_, fun h => ?_⟩
  · have e : wordL l = l.takeWhile wch := by unfold wordL; rw [if_pos h]
    refine ⟨e, by rw [e]; exact fullL_ne h, ?_⟩
    rw [e]
    exact (tw_len wch l).1
  · unfold wordL
    rw [if_neg (by rw [h]; decide)]
/-- What is not a sign. -/
def ne (q c : UInt8) : Bool := c != q
theorem ne_iff (q c : UInt8) : ne q c = true ↔ c ≠ q := by unfold ne; simp
theorem cutQ_ne (q : UInt8) (l : List UInt8) : cutQ q l = match l.dropWhile (ne q) with | [] => none | _ :: y => some (l.takeWhile (ne q), y) := by
  obtain ⟨h1, h2, h3⟩ := tw_split (ne q) l
  cases hd : l.dropWhile (ne q) with
  | nil =>
    rw [hd, List.append_nil] at h1
    dsimp only
    refine cutQ_none fun hm => ?_
    rw [h1] at hm
    exact (ne_iff q q).1 (h2 q hm) rfl
  | cons c y =>
    have hc := h3 c y hd
    have : c = q := by unfold ne at hc; simpa using hc
    subst this
    rw [hd] at h1
    dsimp only
    conv => lhs; rw [h1]
    refine cutQ_of y fun hm => (ne_iff c c).1 (h2 c hm) rfl
theorem txt_ne : txt = ne 60 := rfl
end Lx
end Go.Proofs.Ytlfmjnocfkamaaa
