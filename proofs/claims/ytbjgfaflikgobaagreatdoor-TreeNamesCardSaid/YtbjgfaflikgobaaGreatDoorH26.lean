/-
  Texts of one seat, put together: MapK, TreA, TreK.
-/
import Derived.Test.YtbjgfaflikgobaaGreatDoorH02
import Derived.DeepKeys4
import Derived.WideKeyEntry
import Derived.Test.YtbjgfaflikgobaaGreatDoorH09
import Derived.Test.YtbjgfaflikgobaaGreatDoorH08
import Derived.Test.YtbjgfaflikgobaaGreatDoorH07
import Derived.Test.YtbjgfaflikgobaaGreatDoorH06
import Derived.RegionTactic
import Derived.ChangeAlike
import Derived.Maps.OwnSet
namespace Go.Proofs.YtbjgfaflikgobaaGreatDoor
open Go.RowKit
namespace Hx
open Lx Tr
set_option linter.unusedVariables false
abbrev Ky := List UInt8 × List UInt8
def kyV (p : Ky) : Value := .agg #[.string ⟨p.1.toArray⟩, .string ⟨p.2.toArray⟩, .string ⟨#[]⟩]
theorem laidOutK : laidOutB Tryz.prog = true := by kernel_rfl
theorem rowK : (52 : TypeId) < Tryz.prog.types.size := of_decide_eq_true (by kernel_rfl)
set_option maxRecDepth 100000 in
theorem lawK : WideMaps.KeyLaw Tryz.prog 52 := deep_law_laid laidOutK (m := 2) (by omega) rowK (by kernel_rfl) (by rw [Tryz.underlying52])
theorem keyTK : Tryz.prog.keyType 52 = true := by kernel_rfl
def SmallK (p : Ky) : Prop := p.1.length ≤ 1000000 ∧ p.2.length ≤ 1000000
theorem keyOfK {p : Ky} (h : SmallK p) : ∃ l, keyOf Tryz.prog 52 (kyV p) = some l := by
  obtain ⟨c1, _, _, _, c3, _⟩ := cells_oneN
  have h1 : (⟨p.1.toArray⟩ : ByteArray).size ≤ maxLen := by
    have := h.1
    show p.1.toArray.size ≤ maxLen
    rw [List.size_toArray]
    unfold maxLen
    omega
  have h2 : (⟨p.2.toArray⟩ : ByteArray).size ≤ maxLen := by
    have := h.2
    show p.2.toArray.size ≤ maxLen
    rw [List.size_toArray]
    unfold maxLen
    omega
  have hf : (kyV p).formed Tryz.prog 52 = true := by
    unfold kyV
    simp [Value.formed, Tryz.underlying52, c3]
  have hk := keyTK
  unfold keyOf
  rw [Tryz.underlying52]
  dsimp only
  rw [if_pos (by rw [hk, hf]; rfl)]
  obtain ⟨m, hm⟩ : ∃ m, Tryz.prog.types.size + 1 = m + 2 := ⟨Tryz.prog.types.size - 1, by have h9 : (52 : Nat) < Tryz.prog.types.size := rowK; omega⟩
  rw [hm]
  simp [kyV, Value.cells, c1, c3, Program.keyLits, Tryz.underlying52, Tryz.underlying9, h1, h2, show (⟨#[]⟩ : ByteArray).size ≤ maxLen from Nat.zero_le _]
theorem kyV_inj {p q : Ky} (h : kyV p = kyV q) : p = q := by
  unfold kyV at h
  simp at h
  exact Prod.ext h.1 h.2
/-- The map at block b has these keys, each no more than m times. -/
def MapN (w : World) (b : Nat) (D : List Ky) (m : Nat) : Prop := ((∀ p ∈ D, SmallK p) ∧ D.Nodup) ∧
  ∃ (es : Array MapEntry) (clock : Nat), w.heap[b]? = some (.map es clock) ∧ (∀ e ∈ es.toList, e.born < clock) ∧ (es.toList.map (·.born)).Nodup ∧ es.toList.map (·.key) = D.map kyV ∧ ∀ e ∈ es.toList, ∃ c : Nat, e.val = .int .i64 c ∧ c ≤ m
def addK (D : List Ky) (p : Ky) : List Ky := if p ∈ D then D else D ++ [p]
theorem MapN.kept {w w' : World} {b : Nat} {D : List Ky} {m : Nat} (h : MapN w b D m) (hb : w'.heap[b]? = w.heap[b]?) : MapN w' b D m := by
  obtain ⟨h0, es, clock, h1, h2⟩ := h
  exact ⟨h0, es, clock, hb.trans h1, h2⟩
/-- Only block b is another one. -/
structure Only (b : Nat) (w w' : World) : Prop where
  os : w'.os = w.os
  tape : w'.tape = w.tape
  output : w'.output = w.output
  size : w'.heap.size = w.heap.size
  block : ∀ k, k ≠ b → w'.heap[k]? = w.heap[k]?
theorem Only.below {b B : Nat} {w w' : World} (h : Only b w w') (hB : B ≤ b) : Below B w w' := ⟨h.os, h.tape, h.output, by rw [h.size]; exact Nat.le_refl _, fun k hk => h.block k (by omega)⟩
theorem Only.trans {b : Nat} {w w1 w2 : World} (h : Only b w w1) (k : Only b w1 w2) : Only b w w2 := ⟨k.os.trans h.os, k.tape.trans h.tape, k.output.trans h.output, k.size.trans h.size, fun x hx => (k.block x hx).trans (h.block x hx)⟩
theorem Only.set {b : Nat} {w : World} {o o' : Obj} (hb : w.heap[b]? = some o) : Only b w { w with heap := w.heap.setIfInBounds b o' } :=
  ⟨rfl, rfl, rfl, by simp, fun k hk => (MapKept.heap_set hb).2 k hk⟩
def T0 : TypeId := 160
theorem underK : Tryz.prog.underlying T0 = some (.map 52 3) := by kernel_rfl
/-- One key more. -/
theorem map_step {w : World} {b : Nat} {D : List Ky} {m : Nat} {p : Ky} (h : MapN w b D m) (hp : SmallK p) :
    ∃ (c st : Nat) (W1 W2 : World), c ≤ m ∧ (Instr.lookup T0 (.map (some b)) (kyV p) false).run Tryz.prog w = .ok (.int .i64 c) w ∧
      (Instr.mapEntry T0 (.map (some b)) (kyV p)).run Tryz.prog w = .ok (.tuple #[.int .i64 c, .int .i64 st]) W1 ∧
      (Instr.lookup T0 (.map (some b)) (kyV p) false).run Tryz.prog W1 = .ok (.int .i64 c) W1 ∧
      (Instr.entryStore T0 (.map (some b)) (.int .i64 st) (.int .i64 ((c : Int) + 1))).run Tryz.prog W1 = .ok () W2 ∧ MapN W2 b (addK D p) (m + 1) ∧ Only b w W1 ∧ Only b W1 W2 := by
  obtain ⟨⟨h0, h9⟩, es, clock, hb, h1, h2, h3, h4⟩ := h
  obtain ⟨l, hl⟩ := keyOfK hp
  have hks : ∀ e ∈ es.toList, ∃ l, keyOf Tryz.prog 52 e.key = some l := by
    intro e he
    have : e.key ∈ D.map kyV := by rw [← h3]; exact List.mem_map.2 ⟨e, he, rfl⟩
    obtain ⟨q, hq, e2⟩ := List.mem_map.1 this
    rw [← e2]
    exact keyOfK (h0 q hq)
  have hmem : p ∈ D ↔ ∃ e ∈ es.toList, e.key = kyV p := by
    constructor
    · intro hq
      have : kyV p ∈ es.toList.map (·.key) := by rw [h3]; exact List.mem_map.2 ⟨p, hq, rfl⟩
      obtain ⟨e, he, e2⟩ := List.mem_map.1 this
      exact ⟨e, he, e2⟩
    · rintro ⟨e, he, e2⟩
      have : e.key ∈ D.map kyV := by rw [← h3]; exact List.mem_map.2 ⟨e, he, rfl⟩
      obtain ⟨q, hq, e3⟩ := List.mem_map.1 this
      rw [← kyV_inj (e3.trans e2)]
      exact hq
  have look : ∀ (W : World) (es' : Array MapEntry) (cl : Nat) (v : Value) (r : Option (Nat × Value)), W.heap[b]? = some (.map es' cl) → (Instr.findKey 52 (kyV p) es'.toList).run Tryz.prog W = .ok r W → (match r with | some (_, x) => x | none => .int .i64 0) = v →
      (Instr.lookup T0 (.map (some b)) (kyV p) false).run Tryz.prog W = .ok v W := by
    intro W es' cl v r hW hf hv
    subst hv
    cases r with
    | none => simp [Instr.lookup, run_underlying underK, MapKept.run_getObj_map hW, lawK.check W es'.isEmpty hl, hf, Result.andThen]
    | some q => simp [Instr.lookup, run_underlying underK, MapKept.run_getObj_map hW, lawK.check W es'.isEmpty hl, hf, Result.andThen]
  rcases lawK.find w hl es.toList hks with ⟨f1, f2⟩ | ⟨j, e0, f1, f2, f3⟩
  · have hnot : p ∉ D := fun hq => by
      obtain ⟨e, he, e2⟩ := hmem.1 hq
      exact f2 e he e2
    have ho := Only.set (o' := .map (es.push ⟨kyV p, .int .i64 0, clock⟩) (clock + 1)) hb
    obtain ⟨W1, hW1⟩ : ∃ W1, ({ w with heap := w.heap.setIfInBounds b (.map (es.push ⟨kyV p, .int .i64 0, clock⟩) (clock + 1)) } : World) = W1 := ⟨_, rfl⟩
    rw [hW1] at ho
    have hb1 : W1.heap[b]? = some (.map (es.push ⟨kyV p, .int .i64 0, clock⟩) (clock + 1)) := by
      rw [← hW1]
      exact (MapKept.heap_set hb).1
    have ho2 := Only.set (o' := .map (es.push ⟨kyV p, .int .i64 (((0 : Nat) : Int) + 1), clock⟩) (clock + 1)) hb1
    have hidx : (es.push ⟨kyV p, .int .i64 0, clock⟩).findIdx? (fun e => ((e.born : Nat) : Int) == ((clock : Nat) : Int)) = some es.size := by
      rw [WideElems.findIdx_arr]
      have := WideElems.findIdx_born (l := (es.push ⟨kyV p, .int .i64 0, clock⟩).toList) (j := es.size) (e0 := ⟨kyV p, .int .i64 0, clock⟩) (by
        simp only [Array.toList_push, List.map_append, List.map_cons, List.map_nil]
        refine List.nodup_append.2 ⟨h2, by simp, fun a ha c hc e1 => ?_⟩
        simp only [List.mem_singleton] at hc
        obtain ⟨x, hx, rfl⟩ := List.mem_map.1 ha
        have := h1 x hx
        omega) (by simp)
      exact this
    have hmod : (es.push ⟨kyV p, .int .i64 0, clock⟩).modify es.size (fun e => { e with val := .int .i64 (((0 : Nat) : Int) + 1) }) = es.push ⟨kyV p, .int .i64 (((0 : Nat) : Int) + 1), clock⟩ := by
      apply Array.ext'
      rw [Array.toList_modify, Array.toList_push, Array.toList_push, ← Array.length_toList, WideElems.modify_last]
    have hks1 : ∀ e ∈ (es.push ⟨kyV p, .int .i64 0, clock⟩).toList, ∃ l, keyOf Tryz.prog 52 e.key = some l := by
      intro e he
      rw [Array.toList_push] at he
      rcases List.mem_append.1 he with he | he
      · exact hks e he
      · rw [List.mem_singleton] at he
        subst he
        exact ⟨l, hl⟩
    have hl1 : (Instr.lookup T0 (.map (some b)) (kyV p) false).run Tryz.prog W1 = .ok (.int .i64 0) W1 := by
      rcases lawK.find W1 hl _ hks1 with ⟨_, g2⟩ | ⟨j, e0, g1, g2, g3⟩
      · exact absurd rfl (g2 ⟨kyV p, .int .i64 0, clock⟩ (by simp))
      · refine look W1 _ _ _ _ hb1 g1 ?_
        have hm := List.mem_of_getElem? g2
        rw [Array.toList_push] at hm
        rcases List.mem_append.1 hm with hm | hm
        · exact absurd g3 (f2 e0 hm)
        · rw [List.mem_singleton] at hm
          rw [hm]
    refine ⟨0, clock, W1, _, Nat.zero_le _, look w es clock _ none hb f1 rfl, ?_, hl1, ?_, ?_, ho, ho2⟩
    · rw [← hW1]
      simp [Instr.mapEntry, run_underlying underK, MapKept.run_getObj_map hb, lawK.check w false hl, f1, MapKept.run_setObj_map _ hb, Result.andThen, goInt]
    · simp [Instr.entryStore, MapKept.run_getObj_map hb1, asInt, asIntOf, hidx, MapKept.run_setObj_map _ hb1, Result.andThen]
      rw [show (es.push ⟨kyV p, .int .i64 0, clock⟩).modify es.size (fun e => { e with val := .int .i64 1 }) = es.push ⟨kyV p, .int .i64 1, clock⟩ from hmod]
    · unfold addK
      rw [if_neg hnot]
      refine ⟨⟨fun q hq => ?_, List.nodup_append.2 ⟨h9, by simp, fun a ha c hc e => ?_⟩⟩, _, _, (MapKept.heap_set hb1).1, ?_, ?_, ?_, ?_⟩
      · rcases List.mem_append.1 hq with hq | hq
        · exact h0 q hq
        · rw [List.mem_singleton] at hq; rw [hq]; exact hp
      · rw [List.mem_singleton] at hc
        exact hnot (hc ▸ e ▸ ha)
      · intro e he
        rw [Array.toList_push] at he
        rcases List.mem_append.1 he with he | he
        · have := h1 e he; omega
        · rw [List.mem_singleton] at he; rw [he]; exact Nat.lt_succ_self _
      · rw [Array.toList_push, List.map_append]
        refine List.nodup_append.2 ⟨h2, by simp, fun a ha c hc e1 => ?_⟩
        simp only [List.map_cons, List.map_nil, List.mem_singleton] at hc
        obtain ⟨x, hx, rfl⟩ := List.mem_map.1 ha
        have := h1 x hx
        omega
      · rw [Array.toList_push, List.map_append, h3, List.map_append]
        rfl
      · intro e he
        rw [Array.toList_push] at he
        rcases List.mem_append.1 he with he | he
        · obtain ⟨c, hc, hcm⟩ := h4 e he
          exact ⟨c, hc, by omega⟩
        · rw [List.mem_singleton] at he
          subst he
          exact ⟨1, rfl, by omega⟩
  · have hin : p ∈ D := hmem.2 ⟨e0, List.mem_of_getElem? f2, f3⟩
    obtain ⟨c, hc, hcm⟩ := h4 e0 (List.mem_of_getElem? f2)
    have hj : es[j]? = some e0 := by simpa using f2
    have hsame : es.modify j (fun e => { e with key := kyV p }) = es := by
      apply Array.ext'
      rw [Array.toList_modify, ChangeMaps.modify_eq_set _ _ _ _ f2]
      have : ({ e0 with key := kyV p } : MapEntry) = e0 := by rw [← f3]
      rw [this]
      exact WideElems.set_self _ _ _ f2
    have ho := Only.set (o' := .map es clock) hb
    obtain ⟨W1, hW1⟩ : ∃ W1, ({ w with heap := w.heap.setIfInBounds b (.map es clock) } : World) = W1 := ⟨_, rfl⟩
    rw [hW1] at ho
    have hb1 : W1.heap[b]? = some (.map es clock) := by
      rw [← hW1]
      exact (MapKept.heap_set hb).1
    have ho2 := Only.set (o' := .map (es.modify j (fun e => { e with val := .int .i64 ((c : Int) + 1) })) clock) hb1
    have hidx : es.findIdx? (fun e => ((e.born : Nat) : Int) == ((e0.born : Nat) : Int)) = some j := by
      rw [WideElems.findIdx_arr]
      exact WideElems.findIdx_born h2 f2
    have hl1 : (Instr.lookup T0 (.map (some b)) (kyV p) false).run Tryz.prog W1 = .ok (.int .i64 c) W1 := by
      rcases lawK.find W1 hl _ hks with ⟨_, g2⟩ | ⟨j', e', g1, g2, g3⟩
      · exact absurd f3 (g2 e0 (List.mem_of_getElem? f2))
      · refine look W1 _ _ _ _ hb1 g1 ?_
        obtain ⟨hjl, hje⟩ := List.getElem?_eq_some_iff.1 f2
        obtain ⟨hjl', hje'⟩ := List.getElem?_eq_some_iff.1 g2
        have hnd : (es.toList.map (·.key)).Nodup := by
          rw [h3]
          exact List.Pairwise.map _ (fun a b hab e => hab (kyV_inj e)) h9
        have hjj : j' = j := by
          refine (List.getElem_inj (h₀ := by rw [List.length_map]; exact hjl') (h₁ := by rw [List.length_map]; exact hjl) hnd).1 ?_
          rw [List.getElem_map, List.getElem_map, hje, hje', f3, g3]
        subst hjj
        have g4 : e0 = e' := Option.some.inj (f2.symm.trans g2)
        rw [← g4]
        exact hc
    refine ⟨c, e0.born, W1, _, hcm, look w es clock _ _ hb f1 hc, ?_, hl1, ?_, ?_, ho, ho2⟩
    · rw [← hW1]
      simp [Instr.mapEntry, run_underlying underK, MapKept.run_getObj_map hb, lawK.check w false hl, f1, hj, f3, lawK.stays w hl, hsame, MapKept.run_setObj_map _ hb, Result.andThen, goInt, hc]
    · simp [Instr.entryStore, MapKept.run_getObj_map hb1, asInt, asIntOf, hidx, MapKept.run_setObj_map _ hb1, Result.andThen]
    · unfold addK
      rw [if_pos hin]
      have hset : (es.modify j (fun e => { e with val := .int .i64 ((c : Int) + 1) })).toList = es.toList.set j { e0 with val := .int .i64 ((c : Int) + 1) } := by
        rw [Array.toList_modify, ChangeMaps.modify_eq_set _ _ _ _ f2]
      refine ⟨⟨h0, h9⟩, _, _, (MapKept.heap_set hb1).1, ?_, ?_, ?_, ?_⟩
      · intro e he
        rw [hset] at he
        rcases List.mem_or_eq_of_mem_set he with he | he
        · exact h1 e he
        · rw [he]; exact h1 e0 (List.mem_of_getElem? f2)
      · rw [hset, List.map_set, WideElems.set_self _ _ _ (by rw [List.getElem?_map, f2]; rfl)]
        exact h2
      · rw [hset, List.map_set, WideElems.set_self _ _ _ (by rw [List.getElem?_map, f2]; rfl)]
        exact h3
      · intro e he
        rw [hset] at he
        rcases List.mem_or_eq_of_mem_set he with he | he
        · obtain ⟨c', hc', hcm'⟩ := h4 e he
          exact ⟨c', hc', by omega⟩
        · rw [he]
          exact ⟨c + 1, by simp, by omega⟩
end Hx
end Go.Proofs.YtbjgfaflikgobaaGreatDoor
namespace Go.Proofs.YtbjgfaflikgobaaGreatDoor
open Go.RowKit
namespace Hx
open Lx Tr Tx Nmb Es
set_option linter.unusedVariables false
set_option maxRecDepth 100000 in
theorem istext (s : ByteArray) (w : World) (hm : s.size ≤ 1000000) (b : Bool) (h : okT s.data.toList = b) :
    Calls Tryz.prog 118 #[.string s] w fun e w' => e = .returned (.bool b) ∧ Below w.heap.size w w' := by
  cases b with
  | true =>
    have HC := Lib.hid (check5 s w hm 0 (chk9_ok h))
    clear hm h
    go_enter Tryz.func118, Tryz.ntmps118
    go_wp2_with (first
      | (go_at_call 63; (with_reducible refine (HC.out).mono ?_); rintro e1 w1 ⟨rfl, hb1⟩)
      | fail)
    go_ret
    exact ⟨rfl, hb1⟩
  | false =>
    obtain ⟨q, hq⟩ : ∃ q, chkE s = q := ⟨_, rfl⟩
    have h0 : (q == 0) = false := by
      have := chk9_bad h
      rw [hq] at this
      simpa using this
    have HC := Lib.hid (check5 s w hm q hq)
    clear hm h hq
    go_enter Tryz.func118, Tryz.ntmps118
    go_wp2_with (first
      | (go_at_call 63; (with_reducible refine (HC.out).mono ?_); rintro e1 w1 ⟨rfl, hb1⟩)
      | fail)
    go_ret
    exact ⟨rfl, hb1⟩
def ddK (ks : List Ky) : List Ky := ks.foldl addK []
theorem ddK_len : ∀ (ks D : List Ky), (ks.foldl addK D).length ≤ D.length + ks.length ∧ ((ks.foldl addK D).length = D.length + ks.length ↔ ks.Nodup ∧ ∀ p ∈ ks, p ∉ D) := by
  intro ks
  induction ks with
  | nil => intro D; simp
  | cons p ks ih =>
    intro D
    rw [List.foldl_cons]
    by_cases hp : p ∈ D
    · rw [show addK D p = D from if_pos hp]
      obtain ⟨h1, _⟩ := ih D
      refine ⟨by rw [List.length_cons]; omega, ?_⟩
      constructor
      · intro h; rw [List.length_cons] at h; omega
      · rintro ⟨_, h⟩; exact absurd hp (h p (by simp))
    · rw [show addK D p = D ++ [p] from if_neg hp]
      obtain ⟨h1, h2⟩ := ih (D ++ [p])
      rw [List.length_append, List.length_singleton] at h1 h2
      refine ⟨by rw [List.length_cons]; omega, ?_⟩
      rw [List.length_cons, show D.length + (ks.length + 1) = D.length + 1 + ks.length by omega, h2, List.nodup_cons]
      constructor
      · rintro ⟨k1, k2⟩
        refine ⟨⟨fun hm => (k2 p hm) (by simp), k1⟩, fun q hq => ?_⟩
        rcases List.mem_cons.1 hq with rfl | hq
        · exact hp
        · intro hd; exact k2 q hq (by simp [hd])
      · rintro ⟨⟨k0, k1⟩, k2⟩
        refine ⟨k1, fun q hq hd => ?_⟩
        rcases List.mem_append.1 hd with hd | hd
        · exact k2 q (by simp [hq]) hd
        · rw [List.mem_singleton] at hd; exact k0 (hd ▸ hq)
theorem ddK_snoc (l : List At) (k : Nat) (h : k < l.length) : ddK ((l.take (k + 1)).map key) = addK (ddK ((l.take k).map key)) (key (l[k]'h)) := by
  unfold ddK
  rw [List.take_succ_eq_append_getElem h, List.map_append, List.foldl_append]
  rfl
theorem ddK_all (l : List At) : decide ((ddK (l.map key)).length = l.length) = decide ((l.map key).Nodup) := by
  have := (ddK_len (l.map key) []).2
  unfold ddK
  rw [List.length_nil, Nat.zero_add, List.length_map] at this
  rw [decide_eq_decide, this]
  simp
set_option maxHeartbeats 8000000 in
set_option maxRecDepth 100000 in
theorem mayhave (A : Option Addr) (n cp : Nat) (l : List At) (w : World) (hr : RdB AtS w A l) (hn : l.length = n) (hm : n ≤ 1000000) (hsz : ∀ a ∈ l, a.space.length ≤ 1000000 ∧ a.name.length ≤ 1000000 ∧ a.value.length ≤ 1000000) (q : Bool) (h : atsOk l = q) :
    Calls Tryz.prog 120 #[.slice A n cp] w fun e w' => e = .returned (.bool q) ∧ Below w.heap.size w w' := by
  have HR := Lib.hid hr
  have HN := Lib.hid hn
  have HM := Lib.hid hm
  have HH := Lib.hid h
  have HSZ := Lib.hid hsz
  clear hr hn h hsz
  by_cases h16 : 16 < n
  · have f16 : decide ((16 : Int) < (n : Int)) = true := decide_eq_true (by omega)
    obtain rfl : false = q := by
      rw [← HH.out]
      unfold atsOk
      rw [HN.out, decide_eq_false (by omega : ¬ n ≤ 16), Bool.and_false]
    go_enter Tryz.func120, Tryz.ntmps120
    go_wp2_with fail
    go_ret
    exact ⟨rfl, Below.refl _ _⟩
  · have f16 : decide ((16 : Int) < (n : Int)) = false := decide_eq_false (by omega)
    have hmm := @run_makeMap Tryz.prog
    have HB0 : Hid (Below w.heap.size w (w.alloc (.map #[] 0))) := Lib.hid ((Below.refl _ _).alloc (Nat.le_refl _) _)
    go_enter Tryz.func120, Tryz.ntmps120
    go_wp2_with fail
    go_loopw [12] (fun i wr => ∃ k : Nat, k ≤ n ∧ i = .int .i64 k ∧ (l.take k).all atOk = true ∧ MapN wr w.heap.size (ddK ((l.take k).map key)) k ∧ Below w.heap.size w wr ∧ w.heap.size < wr.heap.size) (fun i _ => n - (intOf i).toNat)
    case atStart => exact ⟨0, Nat.zero_le _, rfl, rfl, ⟨⟨(fun p hp => by cases hp), List.nodup_nil⟩, #[], 0, MapKept.heap_alloc w _ |>.1, (fun e he => by simp at he), by simp, rfl, (fun e he => by simp at he)⟩, HB0.out, by simp⟩
    case round =>
      obtain ⟨k, hk, rfl, hall, hmap, hbw, hsz0⟩ := hrel
      have hm := HM.out
      have HBW := Lib.hid hbw
      have HALL := Lib.hid hall
      have HMAP := Lib.hid hmap
      by_cases hlt : k < n
      · have hk1 : k < l.length := by rw [HN.out]; exact hlt
        obtain ⟨b0, off, x, y, z, rfl, hbB, hx, hy, hz, c0, c1, c2⟩ := at_at (HR.out.on hbw) hk1
        have hs := HSZ.out _ (List.getElem_mem hk1)
        rw [← hx, ← hy, ← hz, ba_l, ba_l, ba_l] at hs
        have HXS := Lib.hid hs.1
        have HYS := Lib.hid hs.2.1
        have HZS := Lib.hid hs.2.2
        have HKEY : Hid (ddK ((l.take (k + 1)).map key) = addK (ddK ((l.take k).map key)) (x.data.toList, y.data.toList)) := Lib.hid (by rw [ddK_snoc l k hk1]; unfold key; rw [hx, hy])
        have HAT : Hid ((l.take (k + 1)).all atOk = (fullL y.data.toList && okT z.data.toList && okT x.data.toList)) := Lib.hid (by
          rw [List.take_succ_eq_append_getElem hk1, List.all_append, hall, hx, hy, hz]
          simp [atOk])
        have HQ : Hid ((fullL y.data.toList && okT z.data.toList && okT x.data.toList) = false → false = q) := Lib.hid fun hf => by
          rw [← HH.out]
          unfold atsOk
          have : l.all atOk = false := by
            rw [List.all_eq_false]
            refine ⟨_, List.getElem_mem hk1, ?_⟩
            unfold atOk
            rw [← hx, ← hy, ← hz, hf]
            decide
          rw [this]
          rfl
        have HBO : Hid (∀ o, Below wr.heap.size wr (wr.alloc o)) := Lib.hid fun o => (Below.refl _ _).alloc (Nat.le_refl _) o
        have bk : (0 : Int) ≤ (k : Int) ∧ (k : Int) < (n : Int) := by omega
        have HLT := Lib.hid hlt
        clear hbw hall hmap hx hy hz hs hk1
        cases hf1 : okT x.data.toList with
        | false =>
          have HF1 := Lib.hid hf1
          obtain rfl : false = q := HQ.out (by rw [hf1, Bool.and_false])
          clear hf1
          go_wp2_with (first
            | (go_at_call 118; (with_reducible refine (istext x _ HXS.out false HF1.out).mono ?_); rintro e1 w1 ⟨rfl, hb1⟩; have HB1 : Hid (Below wr.heap.size wr w1) := Lib.hid (bel_in9 (HBO.out _) hb1); have HX1 := Lib.hid (kept_heap (heap_alloc_new wr (.cells #[.string x, .string y, .string z] 52)) hb1); have d10 := cellV w1 _ 0 _ _ _ HX1.out; have d11 := cellV w1 _ 1 _ _ _ HX1.out; have d12 := cellV w1 _ 2 _ _ _ HX1.out; clear hb1)
            | fail)
          go_ret
          exact ⟨rfl, stp HBW.out HB1.out⟩
        | true =>
          have HF1 := Lib.hid hf1
          cases hf2 : fullL y.data.toList with
          | false =>
            have HF2 := Lib.hid hf2
            obtain rfl : false = q := HQ.out (by rw [hf2, Bool.false_and, Bool.false_and])
            clear hf1 hf2
            go_wp2_with (first
              | (go_at_call 118; (with_reducible refine (istext x _ HXS.out true HF1.out).mono ?_); rintro e1 w1 ⟨rfl, hb1⟩; have HB1 : Hid (Below wr.heap.size wr w1) := Lib.hid (bel_in9 (HBO.out _) hb1); have HX1 := Lib.hid (kept_heap (heap_alloc_new wr (.cells #[.string x, .string y, .string z] 52)) hb1); have d10 := cellV w1 _ 0 _ _ _ HX1.out; have d11 := cellV w1 _ 1 _ _ _ HX1.out; have d12 := cellV w1 _ 2 _ _ _ HX1.out; clear hb1)
              | (go_at_call 119; (with_reducible refine (full9q y _ HYS.out false HF2.out).mono ?_); rintro e2 w2 ⟨rfl, hb2⟩; have HB2 : Hid (Below wr.heap.size wr w2) := Lib.hid (stp HB1.out hb2); have HX2 := Lib.hid (kept_heap HX1.out hb2); have d20 := cellV w2 _ 0 _ _ _ HX2.out; have d21 := cellV w2 _ 1 _ _ _ HX2.out; have d22 := cellV w2 _ 2 _ _ _ HX2.out; clear hb2)
              | fail)
            go_ret
            exact ⟨rfl, stp HBW.out HB2.out⟩
          | true =>
            have HF2 := Lib.hid hf2
            cases hf3 : okT z.data.toList with
            | false =>
              have HF3 := Lib.hid hf3
              obtain rfl : false = q := HQ.out (by rw [hf3, Bool.and_false, Bool.false_and])
              clear hf1 hf2 hf3
              go_wp2_with (first
                | (go_at_call 118; (with_reducible refine (istext x _ HXS.out true HF1.out).mono ?_); rintro e1 w1 ⟨rfl, hb1⟩; have HB1 : Hid (Below wr.heap.size wr w1) := Lib.hid (bel_in9 (HBO.out _) hb1); have HX1 := Lib.hid (kept_heap (heap_alloc_new wr (.cells #[.string x, .string y, .string z] 52)) hb1); have d10 := cellV w1 _ 0 _ _ _ HX1.out; have d11 := cellV w1 _ 1 _ _ _ HX1.out; have d12 := cellV w1 _ 2 _ _ _ HX1.out; clear hb1)
                | (go_at_call 119; (with_reducible refine (full9q y _ HYS.out true HF2.out).mono ?_); rintro e2 w2 ⟨rfl, hb2⟩; have HB2 : Hid (Below wr.heap.size wr w2) := Lib.hid (stp HB1.out hb2); have HX2 := Lib.hid (kept_heap HX1.out hb2); have d20 := cellV w2 _ 0 _ _ _ HX2.out; have d21 := cellV w2 _ 1 _ _ _ HX2.out; have d22 := cellV w2 _ 2 _ _ _ HX2.out; clear hb2)
                | (go_at_call 118; (with_reducible refine (istext z _ HZS.out false HF3.out).mono ?_); rintro e3 w3 ⟨rfl, hb3⟩; have HB3 : Hid (Below wr.heap.size wr w3) := Lib.hid (stp HB2.out hb3); have HX3 := Lib.hid (kept_heap HX2.out hb3); have f32 := freeV w3 _ 2 _ _ HX3.out; have d30 := cellV w3 _ 0 _ _ _ HX3.out; have d31 := cellV w3 _ 1 _ _ _ HX3.out; have d32 := cellV w3 _ 2 _ _ _ HX3.out; clear hb3)
                | fail)
              go_ret
              exact ⟨rfl, stp HBW.out HB3.out⟩
            | true =>
              have HF3 := Lib.hid hf3
              have HAT2 : Hid ((l.take (k + 1)).all atOk = true) := Lib.hid (by rw [HAT.out, hf1, hf2, hf3]; rfl)
              clear hf1 hf2 hf3
              go_wp2_with (first
                | (go_at_call 118; (with_reducible refine (istext x _ HXS.out true HF1.out).mono ?_); rintro e1 w1 ⟨rfl, hb1⟩; have HB1 : Hid (Below wr.heap.size wr w1) := Lib.hid (bel_in9 (HBO.out _) hb1); have HX1 := Lib.hid (kept_heap (heap_alloc_new wr (.cells #[.string x, .string y, .string z] 52)) hb1); have d10 := cellV w1 _ 0 _ _ _ HX1.out; have d11 := cellV w1 _ 1 _ _ _ HX1.out; have d12 := cellV w1 _ 2 _ _ _ HX1.out; clear hb1)
                | (go_at_call 119; (with_reducible refine (full9q y _ HYS.out true HF2.out).mono ?_); rintro e2 w2 ⟨rfl, hb2⟩; have HB2 : Hid (Below wr.heap.size wr w2) := Lib.hid (stp HB1.out hb2); have HX2 := Lib.hid (kept_heap HX1.out hb2); have d20 := cellV w2 _ 0 _ _ _ HX2.out; have d21 := cellV w2 _ 1 _ _ _ HX2.out; have d22 := cellV w2 _ 2 _ _ _ HX2.out; clear hb2)
                | (go_at_call 118; (with_reducible refine (istext z _ HZS.out true HF3.out).mono ?_); rintro e3 w3 ⟨rfl, hb3⟩; have HB3 : Hid (Below wr.heap.size wr w3) := Lib.hid (stp HB2.out hb3); have HX3 := Lib.hid (kept_heap HX2.out hb3); have f32 := freeV w3 _ 2 _ _ HX3.out; have d30 := cellV w3 _ 0 _ _ _ HX3.out; have d31 := cellV w3 _ 1 _ _ _ HX3.out; have d32 := cellV w3 _ 2 _ _ _ HX3.out; clear hb3)
                | fail)
              obtain ⟨V, hV⟩ : ∃ V, w3.setCell ⟨wr.heap.size, 2, none⟩ (.string ⟨#[]⟩) = V := ⟨_, rfl⟩
              rw [hV]
              have hsz3 := HB3.out.size
              have hXV : V.heap[wr.heap.size]? = some (.cells #[.string x, .string y, .string ⟨#[]⟩] 52 (0, 0)) := by
                rw [← hV]
                exact heap_setCell_same w3 wr.heap.size 2 _ _ _ HX3.out
              have hBV : Below wr.heap.size wr V := by
                rw [← hV]
                exact HB3.out.setCell (p := ⟨wr.heap.size, 2, none⟩) (Nat.le_refl _) _
              obtain ⟨c, st, W1, W2, hc, E1, E2, E3, E4, hM2, o1, o2⟩ := map_step (w := V.drew) (HMAP.out.kept (hBV.block _ hsz0)) (p := (x.data.toList, y.data.toList)) ⟨by rw [ba_l]; exact HXS.out, by rw [ba_l]; exact HYS.out⟩
              have ek : kyV (x.data.toList, y.data.toList) = .agg #[.string x, .string y, .string ⟨#[]⟩] := rfl
              rw [ek] at E1 E2 E3
              unfold T0 at E1 E2 E3 E4
              have hne : wr.heap.size ≠ w.heap.size := by omega
              have dV0 := cellV V _ 0 _ _ _ hXV
              have dV1 := cellV V _ 1 _ _ _ hXV
              have dV2 := cellV V _ 2 _ _ _ hXV
              have hX1 := (o1.block _ hne).trans hXV
              have dW0 := cellV W1 _ 0 _ _ _ hX1
              have dW1 := cellV W1 _ 1 _ _ _ hX1
              have dW2 := cellV W1 _ 2 _ _ _ hX1
              have HB5 : Hid (Below w.heap.size w W2) := Lib.hid (((stp HBW.out hBV).drew.trans (o1.below (Nat.le_refl _))).trans (o2.below (Nat.le_refl _)))
              have HSZ5 : Hid (w.heap.size < W2.heap.size) := Lib.hid (by rw [o2.size, o1.size]; have : wr.heap.size ≤ V.heap.size := hBV.size; show w.heap.size < V.heap.size; omega)
              have HM5 := Lib.hid hM2
              have bc : (0 : Int) ≤ (c : Int) ∧ (c : Int) ≤ 1000000 := by omega
              clear hV hXV hBV hM2 o1 o2 hX1 ek hne hsz3 d10 d11 d12 d20 d21 d22 d30 d31 d32 f32 hsz0 hlt c0 c1 c2
              go_region
              all_goals
                go_wp2_with fail
                exact ⟨⟨k + 1, HLT.out, by go_num, HAT2.out, by rw [HKEY.out]; exact HM5.out, HB5.out, HSZ5.out⟩, by have := HLT.out; simp [intOf]; omega⟩
      · obtain rfl : k = n := by omega
        obtain ⟨_, es, clock, hes, _, _, hkeys, _⟩ := hmap
        have hsz : es.size = (ddK ((l.take k).map key)).length := by
          have := congrArg List.length hkeys
          rw [List.length_map, List.length_map] at this
          exact this
        have htk : l.take k = l := by rw [← HN.out]; exact List.take_length
        obtain ⟨r, hr⟩ : ∃ r, (((es.size : Nat) : Int) == (k : Int)) = r := ⟨_, rfl⟩
        have HQ : Hid (r = q) := Lib.hid (by
          rw [← hr, ← HH.out]
          unfold atsOk
          rw [htk] at hall hsz
          have h1 := ddK_all l
          rw [hall, HN.out, decide_eq_true (by omega : k ≤ 16), Bool.true_and, Bool.and_true, ← h1, hsz, HN.out]
          rw [Bool.eq_iff_iff]
          simp
          omega)
        have hlen : (Builtin.len_ #[160] 3 #[.map (some w.heap.size)]).run Tryz.prog wr = .ok (.int .i64 (es.size : Nat)) wr := by
          simp [Builtin.len_, MapKept.run_getObj_map hes, goInt, Result.andThen]
        clear hbw hall hkeys hsz htk hes
        go_wp2_with fail
        go_ret
        exact ⟨ret_b HQ.out, HBW.out⟩
end Hx
end Go.Proofs.YtbjgfaflikgobaaGreatDoor
namespace Go.Proofs.YtbjgfaflikgobaaGreatDoor
namespace Hx
open Lx Tr Tx Nmb Es
set_option linter.unusedVariables false
def holdB (n : Nd) : Bool := ndOk n && decide (0 ≤ n.many)
theorem kidsD_add {g : List Nd → Option (List Nd)} : ∀ (k k2 : Nat) (b b1 : Bool) (l m : List Nd), kidsD g k b l = some (b1, m) → kidsD g (k + k2) b l = kidsD g k2 b1 m := by
  intro k
  induction k with
  | zero =>
    intro k2 b b1 l m h
    rw [kidsD] at h
    obtain ⟨rfl, rfl⟩ := (Prod.mk.injEq _ _ _ _).mp (Option.some.inj h)
    rw [Nat.zero_add]
  | succ k ih =>
    intro k2 b b1 l m h
    cases l with
    | nil => rw [kidsD] at h; cases h
    | cons n l =>
      rw [kidsD] at h
      by_cases hb : b = true ∧ n.kind = 2
      · rw [if_pos hb] at h; cases h
      · rw [if_neg hb] at h
        rw [show k + 1 + k2 = (k + k2) + 1 by omega, kidsD, if_neg hb]
        cases hn : g (n :: l) with
        | none => rw [hn] at h; cases h
        | some y =>
          rw [hn] at h
          exact ih k2 _ _ _ _ h
theorem kidsD_fail {g : List Nd → Option (List Nd)} : ∀ (k k2 : Nat) (b : Bool) (l : List Nd), kidsD g k b l = none → kidsD g (k + k2) b l = none := by
  intro k
  induction k with
  | zero => intro k2 b l h; rw [kidsD] at h; cases h
  | succ k ih =>
    intro k2 b l h
    cases l with
    | nil => rw [show k + 1 + k2 = (k + k2) + 1 by omega, kidsD]
    | cons n l =>
      rw [kidsD] at h
      rw [show k + 1 + k2 = (k + k2) + 1 by omega, kidsD]
      by_cases hb : b = true ∧ n.kind = 2
      · rw [if_pos hb]
      · rw [if_neg hb] at h ⊢
        cases hn : g (n :: l) with
        | none => rfl
        | some y =>
          rw [hn] at h
          exact ih k2 _ _ h
/-- One node more among those within a node: none is there; two texts; it may not be; it may. -/
theorem kids_next {d j m : Nat} {b : Bool} {l : List Nd} {v : List Nd} {p' : Nat} (h : kidsD (restD d) j false l = some (b, v.drop p')) (hj : j < m) :
    (v.length ≤ p' → kidsD (restD d) m false l = none) ∧
    (∀ hp : p' < v.length, (b = true ∧ (v[p']'hp).kind = 2 → kidsD (restD d) m false l = none) ∧ (restD d (v.drop p') = none → kidsD (restD d) m false l = none) ∧
      (∀ r, ¬ (b = true ∧ (v[p']'hp).kind = 2) → restD d (v.drop p') = some r → kidsD (restD d) (j + 1) false l = some (decide ((v[p']'hp).kind = 2), r))) := by
  have e1 := kidsD_add j 1 false b l _ h
  have fail : kidsD (restD d) 1 b (v.drop p') = none → kidsD (restD d) m false l = none := by
    intro hf
    rw [hf] at e1
    have := kidsD_fail (j + 1) (m - (j + 1)) false l e1
    rwa [show j + 1 + (m - (j + 1)) = m by omega] at this
  refine ⟨fun hp => fail (by rw [List.drop_of_length_le hp, kidsD]), fun hp => ⟨fun hb => fail ?_, fun hn => fail ?_, fun r hb hr => ?_⟩⟩
  · rw [List.drop_eq_getElem_cons hp, kidsD, if_pos hb]
  · rw [List.drop_eq_getElem_cons hp] at hn ⊢
    rw [kidsD]
    by_cases hb : b = true ∧ (v[p']'hp).kind = 2
    · rw [if_pos hb]
    · rw [if_neg hb, hn]
  · rw [e1]
    rw [List.drop_eq_getElem_cons hp] at hr ⊢
    rw [kidsD, if_neg hb, hr]
    rfl
theorem restD_eq {d : Nat} {v : List Nd} {p : Nat} (hp : p < v.length) : restD d (v.drop p) = if holdB (v[p]'hp) = true ∧ ¬ ((v[p]'hp).kind = 1 ∧ d = 0) then (kidsD (restD (d - 1)) (v[p]'hp).many.toNat false (v.drop (p + 1))).map (·.2) else none := by
  rw [List.drop_eq_getElem_cons hp]
  have hB : holdB (v[p]'hp) = true ↔ ndOk (v[p]'hp) = true ∧ 0 ≤ (v[p]'hp).many := by unfold holdB; simp
  cases d with
  | zero =>
    rw [restD]
    by_cases h : ndOk (v[p]'hp) = true ∧ (v[p]'hp).kind = 2
    · have h0 := (ndOk_two h.1 h.2).1
      rw [if_pos h, if_pos ⟨hB.2 ⟨h.1, by omega⟩, by omega⟩, h0]
      rfl
    · rw [if_neg h, if_neg]
      rintro ⟨h1, h2⟩
      have h3 := hB.1 h1
      rcases ndOk_kind h3.1 with h4 | h4
      · exact h2 ⟨h4, rfl⟩
      · exact h ⟨h3.1, h4⟩
  | succ d =>
    rw [restD]
    by_cases h : ndOk (v[p]'hp) = true ∧ 0 ≤ (v[p]'hp).many
    · rw [if_pos h, if_pos ⟨hB.2 h, by omega⟩]
      rfl
    · rw [if_neg h, if_neg]
      rintro ⟨h1, _⟩
      exact h (hB.1 h1)
theorem mayV_one {v : List Nd} (h : v.length ≤ 512) (h1 : ∃ n l, v = n :: l ∧ n.kind = 1) : mayV v = decide (restD 12 v = some []) := by
  rw [Bool.eq_iff_iff, mayV_iff, decide_eq_true_eq]
  exact ⟨fun k => k.2.2, fun k => ⟨h, h1, k⟩⟩
theorem mayV_no {v : List Nd} (h : ¬ (v.length ≤ 512 ∧ ∃ n l, v = n :: l ∧ n.kind = 1)) : mayV v = false := by
  rw [Bool.eq_false_iff]
  intro hm
  have := mayV_iff.1 hm
  exact h ⟨this.1, this.2.1⟩
def checkV (v : List Nd) : Int := if mayV v = true then 0 else 8
end Hx
end Go.Proofs.YtbjgfaflikgobaaGreatDoor
