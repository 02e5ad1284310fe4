/-
  Texts of one seat, put together: TrhO, TrsA, TrsB.
-/
import Derived.Test.YtbjgfaflikgobaaGreatDoorH37
import Derived.Test.YtbjgfaflikgobaaGreatDoorH32
import Derived.Test.YtbjgfaflikgobaaGreatDoorH20
import Derived.Test.YtbjgfaflikgobaaGreatDoorH22
import Derived.Test.YtbjgfaflikgobaaGreatDoorH23
import Derived.Test.YtbjgfaflikgobaaGreatDoorH24
import Derived.Test.YtbjgfaflikgobaaGreatDoorH25
import Derived.Test.YtbjgfaflikgobaaGreatDoorH33
import Derived.Deep.Cut
namespace Go.Proofs.YtbjgfaflikgobaaGreatDoor
open Go.RowKit
namespace Hx
open Lx Tr Tx Nmb Es
set_option linter.unusedVariables false
/-- What Tokens answers. -/
def TokTo (v : List Nd) (w : World) (e : Ending) (w' : World) : Prop := ∃ (ts : List Tk) (q : Int) (A : Option Addr) (c : Nat), tokensR v = (ts, q) ∧ e = .returned (.tuple #[.slice A ts.length c, .int .i64 q]) ∧ RdC TkC w' w'.heap.size A ts ∧ ts.length ≤ c ∧ c ≤ maxLen ∧ (A = none → c = 0) ∧ Below w.heap.size w w'
theorem TokTo.bad {v : List Nd} {w w' : World} {q : Int} (h : tokensR v = ([], q)) (hb : Below w.heap.size w w') : TokTo v w (.returned (.tuple #[.slice none 0 0, .int .i64 q])) w' := ⟨[], q, none, 0, h, rfl, RdC.nil _ _ _, Nat.le_refl _, Nat.zero_le _, fun _ => rfl, hb⟩
theorem tokensR_bad {v : List Nd} (h : mayV v = false ∨ rawV v = false) : tokensR v = ([], 8) := by
  unfold tokensR
  rw [if_neg]
  rintro ⟨h1, h2⟩
  rcases h with h | h
  · rw [h] at h1; cases h1
  · rw [h] at h2; cases h2
theorem tl_made {w w2 : World} {A : Option Addr} {c : Nat} {v : List Nd} (hr : RdB NdS w A v) (hb : Below w.heap.size w w2) (hv : w2.heap[w.heap.size]? = some (.cells #[.slice A v.length c] 24 (0, 0))) :
    TlSt w.heap.size (w2.heap.size + 3) w.heap.size (w2.heap.size + 1) w2.heap.size (w2.heap.size + 1 + 1) A c v 0 [] (.slice none 0 0) (((w2.alloc (.cells #[.slice none 0 0] 41)).alloc (.cells #[.int .i64 0] 3)).alloc (.cells #[tellF w.heap.size (w2.heap.size + 1) w2.heap.size (w2.heap.size + 1 + 1)] 1)) := by
  have h0 := heap_alloc_new w2 (.cells #[.slice none 0 0] 41)
  have h1 := heap_alloc_new (w2.alloc (.cells #[.slice none 0 0] 41)) (.cells #[.int .i64 0] 3)
  rw [World.size_alloc] at h1
  have h2 := heap_alloc_new ((w2.alloc (.cells #[.slice none 0 0] 41)).alloc (.cells #[.int .i64 0] 3)) (.cells #[tellF w.heap.size (w2.heap.size + 1) w2.heap.size (w2.heap.size + 1 + 1)] 1)
  rw [World.size_alloc, World.size_alloc] at h2
  have hb3 : Below w2.heap.size w2 (((w2.alloc (.cells #[.slice none 0 0] 41)).alloc (.cells #[.int .i64 0] 3)).alloc (.cells #[tellF w.heap.size (w2.heap.size + 1) w2.heap.size (w2.heap.size + 1 + 1)] 1)) := stpA (stpA (stpA (Below.refl _ _) _) _) _
  have hlt := lt_heap hv
  refine ⟨kept_heap hv hb3, kept_heap h1 (stpA (Below.refl _ _) _), kept_heap (kept_heap h0 (stpA (Below.refl _ _) _)) (stpA (Below.refl _ _) _), h2, ?_, World.ownsRow_nil _ _ _ _, (fun b hb => by cases hb), by omega, by simp⟩
  exact hr.keep (fun _ hb => hb) fun b o hlt2 => (stp hb hb3).cell (p := ⟨b, o, none⟩) hlt2
set_option maxHeartbeats 16000000 in
set_option maxRecDepth 100000 in
theorem tokens10 (A : Option Addr) (n c : Nat) (v : List Nd) (w : World) (hr : RdB NdS w A v) (hn : v.length = n) (hmax : n ≤ 9223372036854775807) (hsm : n ≤ 512 → ∀ m ∈ v, SmallN m) :
    Calls Tryz.prog 22 #[.slice A n c] w (TokTo v w) := by
  have hmf : ∀ (fn : Fn) (first cap : Array Value) (w : World), (Instr.makeFunc fn first cap).run Tryz.prog w = .ok (.func fn first cap) w := fun _ _ _ _ => rfl
  have HB0 : Hid (Below w.heap.size w (w.alloc (.cells #[.slice A n c] 24))) := Lib.hid (stpA (Below.refl _ _) _)
  have HBX : Hid (∀ w1, Below (w.alloc (.cells #[.slice A n c] 24)).heap.size (w.alloc (.cells #[.slice A n c] 24)) w1 → w1.heap[w.heap.size]? = some (.cells #[.slice A n c] 24 (0, 0))) := Lib.hid fun w1 hb => kept_heap (heap_alloc_new w _) hb
  cases hm : mayV v with
  | false =>
    have HC : Hid (∀ W, Below w.heap.size w W → Calls Tryz.prog 20 #[.slice A n c] W fun e w' => e = .returned (.int .i64 8) ∧ Below W.heap.size W w') := Lib.hid fun W hW => checkv A n c v W (hr.on hW) hn hmax hsm 8 (checkV_no hm)
    have HT := Lib.hid (tokensR_bad (v := v) (.inl hm))
    clear hr hn hmax hsm hm
    go_enter Tryz.func22, Tryz.ntmps22
    go_wp2_with (first
      | (go_at_call 20; (with_reducible refine (HC.out _ HB0.out).mono ?_); rintro e1 w1 ⟨rfl, hb1⟩; have HB1 := Lib.hid hb1; clear hb1)
      | fail)
    go_ret2
    exact TokTo.bad HT.out (stp HB0.out HB1.out)
  | true =>
    have h5 := (mayV_iff.1 hm).1
    have hrest := (mayV_iff.1 hm).2.2
    have hs := hsm (by omega)
    have HC : Hid (∀ W, Below w.heap.size w W → Calls Tryz.prog 20 #[.slice A n c] W fun e w' => e = .returned (.int .i64 0) ∧ Below W.heap.size W w') := Lib.hid fun W hW => checkv A n c v W (hr.on hW) hn hmax hsm 0 (checkV_yes hm)
    have hraw : ∀ q, rawV v = q → ∀ W, Below w.heap.size w W → Calls Tryz.prog 49 #[.slice A n c] W fun e w' => e = .returned (.bool q) ∧ Below W.heap.size W w' := fun q hq W hW => raw10 A n c v W (hr.on hW) hn (by omega) hs q hq
    cases hq : rawV v with
    | false =>
      have HR := Lib.hid (hraw false hq)
      have HT := Lib.hid (tokensR_bad (v := v) (.inr hq))
      clear hr hn hmax hsm hm h5 hrest hs hraw hq
      go_enter Tryz.func22, Tryz.ntmps22
      go_wp2_with (first
        | (go_at_call 20; (with_reducible refine (HC.out _ HB0.out).mono ?_); rintro e1 w1 ⟨rfl, hb1⟩; have HB1 := Lib.hid hb1; have kv1 := cell_of_one (HBX.out w1 hb1); clear hb1)
        | (go_at_call 49; (with_reducible refine (HR.out _ (stp HB0.out HB1.out)).mono ?_); rintro e2 w2 ⟨rfl, hb2⟩; have HB2 := Lib.hid hb2; clear hb2)
        | fail)
      go_ret2
      exact TokTo.bad HT.out (stp (stp HB0.out HB1.out) HB2.out)
    | true =>
      have HR := Lib.hid (hraw true hq)
      obtain ⟨ts, hts⟩ : ∃ ts, (toldD 12 v).1 = ts := ⟨_, rfl⟩
      have hlen := toldD_cnt 12 v [] hrest
      have hTR : tokensR v = if 512 < ts.length then ([], 4) else (ts, 0) := by
        unfold tokensR
        rw [if_pos ⟨hm, hq⟩, hts]
      have hcv : cnt v ≤ 1024 := by
        unfold cnt
        have := List.countP_le_length (p := fun n : Nd => decide (0 < n.many)) (l := v)
        omega
      have hp0 : 0 < v.length := by
        obtain ⟨_, ⟨m, l, rfl, _⟩, _⟩ := mayV_iff.1 hm
        simp
      have htell : ∀ w2, Below w.heap.size w w2 → w2.heap[w.heap.size]? = some (.cells #[.slice A n c] 24 (0, 0)) → Calls Tryz.prog 50 #[.pointer (some ⟨w.heap.size, 0, none⟩), .pointer (some ⟨w2.heap.size + 1, 0, none⟩), .pointer (some ⟨w2.heap.size, 0, none⟩), .pointer (some ⟨w2.heap.size + 1 + 1, 0, none⟩)] (((w2.alloc (.cells #[.slice none 0 0] 41)).alloc (.cells #[.int .i64 0] 3)).alloc (.cells #[.func (.func 50) #[] #[.pointer (some ⟨w.heap.size, 0, none⟩), .pointer (some ⟨w2.heap.size + 1, 0, none⟩), .pointer (some ⟨w2.heap.size, 0, none⟩), .pointer (some ⟨w2.heap.size + 1 + 1, 0, none⟩)]] 1))
          (fun e w' => e = .returned (.tuple #[]) ∧ ∃ (Ao : Option Addr) (co : Nat), w'.heap[w2.heap.size]? = some (.cells #[.slice Ao ts.length co] 41 (0, 0)) ∧ RdC TkC w' w'.heap.size Ao ts ∧ ts.length ≤ co ∧ co ≤ maxLen ∧ (Ao = none → co = 0) ∧ Below w.heap.size w w') := fun w2 hb hv => by
        have hst := tl_made (c := c) hr hb (by rw [hn]; exact hv)
        refine (tell_all _ _ _ _ _ _ A c v h5 hs 12 0 [] (.slice none 0 0) [] _ hp0 hrest (by simp; omega) hst).mono ?_
        rintro e w' ⟨rfl, M, V', hM, hs2, hf⟩
        rw [List.nil_append] at hs2
        rw [List.drop_zero, hts] at hM
        obtain ⟨Ao, co, rfl⟩ := own_form2 hs2.own
        obtain ⟨r1, r2, r3, r4, r5⟩ := RdC.of_own (C := TkC) tbCells TB.t (fun _ => rfl) (by decide) M (fun b hm => (hs2.tk b hm).1) hs2.own
        have hMl : M.length = ts.length := by rw [← hM, List.length_map]
        have hgl := hs2.hl
        rw [hM] at r1
        rw [hMl] at r3 hgl
        exact ⟨rfl, Ao, co, hgl, r1, r3, r4, r5, (hb.trans ((stpA (stpA (stpA (Below.refl w2.heap.size w2) _) _) _).mono hb.size)).trans hf.bel⟩
      have HTL := Lib.hid htell
      have hb : ∀ k : Nat, (k : Int) = k := fun _ => rfl
      have btl : (ts.length : Int) ≤ 3000 := by
        have : cnt ([] : List Nd) = 0 := rfl
        rw [hts] at hlen
        omega
      by_cases hlong : 512 < ts.length
      · rw [if_pos hlong] at hTR
        have HT := Lib.hid hTR
        have f9 : decide ((512 : Int) < (ts.length : Int)) = true := decide_eq_true (by omega)
        clear hr hn hmax hsm hm h5 hrest hs hraw hq hlen hTR hcv hp0 htell hb hts
        go_enter Tryz.func22, Tryz.ntmps22
        go_wp2_with (first
          | (go_at_call 20; (with_reducible refine (HC.out _ HB0.out).mono ?_); rintro e1 w1 ⟨rfl, hb1⟩; have HB1 := Lib.hid hb1; have kv1 := cell_of_one (HBX.out w1 hb1); clear hb1)
          | (go_at_call 49; (with_reducible refine (HR.out _ (stp HB0.out HB1.out)).mono ?_); rintro e2 w2 ⟨rfl, hb2⟩; have HB2 := Lib.hid hb2; clear hb2)
          | (go_at_call 50; (with_reducible refine (HTL.out w2 (stp (stp HB0.out HB1.out) HB2.out) (HBX.out w2 (stp HB1.out HB2.out))).mono ?_); rintro e3 w3 ⟨rfl, Ao, co, hgl, hrd, hle, hcm, hnl, hbw⟩; have kl := cell_of_one hgl; have HBW := Lib.hid hbw; clear hgl hrd hbw)
          | fail)
        go_ret2
        exact TokTo.bad HT.out HBW.out
      · rw [if_neg hlong] at hTR
        have HT := Lib.hid hTR
        have f9 : decide ((512 : Int) < (ts.length : Int)) = false := decide_eq_false (by omega)
        clear hr hn hmax hsm hm h5 hrest hs hraw hq hlen hTR hcv hp0 htell hb hts
        go_enter Tryz.func22, Tryz.ntmps22
        go_wp2_with (first
          | (go_at_call 20; (with_reducible refine (HC.out _ HB0.out).mono ?_); rintro e1 w1 ⟨rfl, hb1⟩; have HB1 := Lib.hid hb1; have kv1 := cell_of_one (HBX.out w1 hb1); clear hb1)
          | (go_at_call 49; (with_reducible refine (HR.out _ (stp HB0.out HB1.out)).mono ?_); rintro e2 w2 ⟨rfl, hb2⟩; have HB2 := Lib.hid hb2; clear hb2)
          | (go_at_call 50; (with_reducible refine (HTL.out w2 (stp (stp HB0.out HB1.out) HB2.out) (HBX.out w2 (stp HB1.out HB2.out))).mono ?_); rintro e3 w3 ⟨rfl, Ao, co, hgl, hrd, hle, hcm, hnl, hbw⟩; have kl := cell_of_one hgl; have HBW := Lib.hid hbw; have HRD := Lib.hid hrd; have HRE := Lib.hid (And.intro hle (And.intro hcm hnl)); clear hgl hrd hbw hle hcm hnl)
          | fail)
        go_ret2
        exact ⟨ts, 0, Ao, co, HT.out, rfl, HRD.out, HRE.out.1, HRE.out.2.1, HRE.out.2.2, HBW.out⟩
end Hx
end Go.Proofs.YtbjgfaflikgobaaGreatDoor
namespace Go.Proofs.YtbjgfaflikgobaaGreatDoor
open Go.RowKit
namespace Hx
open Lx Tr Tx Nmb Es
set_option linter.unusedVariables false
/-- A text's tree. -/
def rdTree (s : List UInt8) : List Nd × Int := if (lexR s).2.2 = 0 then parseR (lexR s).1 else ([], (lexR s).2.2)
theorem ParseTo.with {ts : List Tk} {w w' : World} {e : Ending} {v : List Nd} {q : Int} {n : Nat} (h : ParseTo ts w e w') (hp : parseR ts = (v, q)) (hn : v.length = n) : ∃ A c, e = .returned (.tuple #[.slice A n c, .int .i64 q]) ∧ RdB NdS w' A v ∧ n ≤ c ∧ c ≤ maxLen ∧ (A = none → c = 0) ∧ Below w.heap.size w w' := by
  obtain ⟨v2, q2, A, c, h1, h2, h3, h4, h5, h6, h7⟩ := h
  rw [hp] at h1
  obtain ⟨rfl, rfl⟩ := (Prod.mk.injEq _ _ _ _).mp h1
  exact ⟨A, c, by rw [← hn]; exact h2, h3, by rw [← hn]; exact h4, h5, h6, h7⟩
set_option maxHeartbeats 8000000 in
set_option maxRecDepth 100000 in
theorem lparse10 (s : ByteArray) (w : World) (hm : s.size ≤ 2000) (v : List Nd) (q : Int) (n : Nat) (h : rdTree s.data.toList = (v, q)) (hn : v.length = n) (hE : Ev9 w := by first | assumption | exact Ev9.to (by assumption) (by assumption)) :
    Calls Tryz.prog 13 #[.string s] w fun e w' => ∃ A c, e = .returned (.tuple #[.slice A n c, .int .i64 q]) ∧ RdB NdS w' A v ∧ n ≤ c ∧ c ≤ maxLen ∧ (A = none → c = 0) ∧ Below w.heap.size w w' := by
  obtain ⟨ts, k, er, hl⟩ : ∃ ts k er, lexR s.data.toList = (ts, k, er) := ⟨_, _, _, rfl⟩
  obtain ⟨tn, htn⟩ : ∃ tn, ts.length = tn := ⟨_, rfl⟩
  have HL := Lib.hid (lex9 s w (by omega) ts k er hl)
  rw [htn] at HL
  unfold rdTree at h
  rw [hl] at h
  dsimp only at h
  by_cases h0 : er = 0
  · subst h0
    rw [if_pos rfl] at h
    obtain ⟨ha, _, hl5, _, _⟩ := lexR_all hl (by rw [ba_len5]; exact hm)
    have HP : Hid (∀ A c W, RdC TkC W W.heap.size A ts → Calls Tryz.prog 23 #[.slice A tn c] W fun e w' => ∃ A c, e = .returned (.tuple #[.slice A n c, .int .i64 q]) ∧ RdB NdS w' A v ∧ n ≤ c ∧ c ≤ maxLen ∧ (A = none → c = 0) ∧ Below W.heap.size W w') := Lib.hid fun A c W hW => (parse10 A tn c ts W hW htn (by omega) fun t ht => (ha t ht).2).mono fun e w' hh => hh.with h hn
    clear h hl ha hl5 hm hn htn
    go_enter Tryz.func13, Tryz.ntmps13
    go_wp2_with (first
      | (go_at_call 41; (with_reducible refine (HL.out).mono ?_); rintro e1 w1 ⟨A1, c1, rfl, hi1, hb1⟩; have HI1 := Lib.hid hi1.1; have HB1 := Lib.hid hb1; clear hi1 hb1)
      | (go_at_call 23; (with_reducible refine (HP.out _ _ _ HI1.out).mono ?_); rintro e2 w2 ⟨A2, c2, rfl, hr2, hn2, hc2, hz2, hb2⟩; have HR2 := Lib.hid hr2; have HC2 := Lib.hid (And.intro hn2 (And.intro hc2 hz2)); have HB2 := Lib.hid (stp HB1.out hb2); clear hr2 hb2 hn2 hc2 hz2)
      | fail)
    go_ret2
    exact ⟨A2, c2, rfl, HR2.out, HC2.out.1, HC2.out.2.1, HC2.out.2.2, HB2.out⟩
  · rw [if_neg h0] at h
    obtain ⟨rfl, rfl⟩ := (Prod.mk.injEq _ _ _ _).mp h
    obtain rfl : 0 = n := hn
    have fe : (er == 0) = false := by simp; omega
    clear h hl hm htn
    go_enter Tryz.func13, Tryz.ntmps13
    go_wp2_with (first
      | (go_at_call 41; (with_reducible refine (HL.out).mono ?_); rintro e1 w1 ⟨A1, c1, rfl, hi1, hb1⟩; have HB1 := Lib.hid hb1; clear hi1 hb1)
      | fail)
    go_ret2
    exact ⟨none, 0, rfl, RdS.nil _ _ _, Nat.le_refl _, Nat.zero_le _, fun _ => rfl, HB1.out⟩
theorem elem10 (x : ByteArray) (m : Int) (w : World) :
    Calls Tryz.prog 18 #[.string x, .int .i64 m] w fun e w' => e = .returned (.agg #[.int .u8 1, .string ⟨#[]⟩, .string x, .slice none 0 0, .string ⟨#[]⟩, .int .i64 m]) ∧ Below w.heap.size w w' := by
  go_enter Tryz.func18, Tryz.ntmps18
  go_wp2_with fail
  refine bodyPost_ret (v := .agg #[.int .u8 1, .string ⟨#[]⟩, .string x, .slice none 0 0, .string ⟨#[]⟩, .int .i64 m]) ?_ rfl ⟨rfl, (Below.refl _ _).alloc (Nat.le_refl _) _⟩
  simp [results, Tryz.results18, go_sem]
def alv : List Nd := [⟨1, [], [97], [], [], 2⟩, ⟨2, [], [], [], [116], 0⟩, ⟨1, [], [98], [], [], 0⟩]
set_option maxRecDepth 100000 in
theorem al_px : rdTree (⟨#[60, 97, 62, 116, 60, 98, 47, 62, 60, 47, 97, 62]⟩ : ByteArray).data.toList = (alv, 0) := by decide +kernel
set_option maxRecDepth 100000 in
theorem al_chk : checkV alv = 0 := by decide +kernel
theorem rds_row {α : Type} {C : CodS α} {w : World} {cs : Array Value} {T : TypeId} (l : List α)
    (hcs : ∀ (j : Nat) (h : j < l.length), ∃ x : List Value, C.R (w.alloc (.cells cs T)) (fun b => b < (w.alloc (.cells cs T)).heap.size) x (l[j]'h) ∧ ∀ (i : Nat) (hi : i < x.length), cs[j * C.k + i]? = some (x[i]'hi)) :
    RdB C (w.alloc (.cells cs T)) (some ⟨w.heap.size, 0, none⟩) l := by
  intro _
  refine ⟨w.heap.size, 0, rfl, by simp, fun j hj => ?_⟩
  obtain ⟨x, h1, h2⟩ := hcs j hj
  refine ⟨x, h1, fun i hi => ?_⟩
  have := h2 i hi
  simp only [Nat.zero_add]
  simpa using this
theorem nd_plain (n : Nd) (y z : ByteArray) (w : World) (S : Nat → Prop) (h1 : n.space = []) (h2 : y.data.toList = n.name) (h3 : z.data.toList = n.text) (h4 : n.attrs = []) (h5 : n.kind < 256) (h6 : -9223372036854775808 ≤ n.many ∧ n.many ≤ 9223372036854775807) : NdIn n ⟨#[]⟩ y z none 0 w S :=
  ⟨by rw [h1], h2, h3, by rw [h4]; exact RdS.nil _ _ _, by rw [h4]; exact Nat.le_refl _, Nat.zero_le _, fun _ => rfl, h5, h6.1, h6.2⟩
theorem al_row (w : World) (T : TypeId) : RdB NdS (w.alloc (.cells #[.int .u8 1, .string ⟨#[]⟩, .string ⟨#[97]⟩, .slice none 0 0, .string ⟨#[]⟩, .int .i64 2, .int .u8 2, .string ⟨#[]⟩, .string ⟨#[]⟩, .slice none 0 0, .string ⟨#[116]⟩, .int .i64 0, .int .u8 1, .string ⟨#[]⟩, .string ⟨#[98]⟩, .slice none 0 0, .string ⟨#[]⟩, .int .i64 0] T)) (some ⟨w.heap.size, 0, none⟩) alv :=
  rds_row alv fun j hj => match j, hj with
    | 0, _ => ⟨_, ⟨⟨#[]⟩, ⟨#[97]⟩, ⟨#[]⟩, none, 0, rfl, nd_plain _ _ _ _ _ rfl rfl rfl rfl (show 1 < 256 by decide) ⟨show (-9223372036854775808 : Int) ≤ 2 by decide, show (2 : Int) ≤ 9223372036854775807 by decide⟩⟩, fun i hi => match i, hi with
      | 0, _ => rfl
      | 1, _ => rfl
      | 2, _ => rfl
      | 3, _ => rfl
      | 4, _ => rfl
      | 5, _ => rfl⟩
    | 1, _ => ⟨_, ⟨⟨#[]⟩, ⟨#[]⟩, ⟨#[116]⟩, none, 0, rfl, nd_plain _ _ _ _ _ rfl rfl rfl rfl (show 2 < 256 by decide) ⟨show (-9223372036854775808 : Int) ≤ 0 by decide, show (0 : Int) ≤ 9223372036854775807 by decide⟩⟩, fun i hi => match i, hi with
      | 0, _ => rfl
      | 1, _ => rfl
      | 2, _ => rfl
      | 3, _ => rfl
      | 4, _ => rfl
      | 5, _ => rfl⟩
    | 2, _ => ⟨_, ⟨⟨#[]⟩, ⟨#[98]⟩, ⟨#[]⟩, none, 0, rfl, nd_plain _ _ _ _ _ rfl rfl rfl rfl (show 1 < 256 by decide) ⟨show (-9223372036854775808 : Int) ≤ 0 by decide, show (0 : Int) ≤ 9223372036854775807 by decide⟩⟩, fun i hi => match i, hi with
      | 0, _ => rfl
      | 1, _ => rfl
      | 2, _ => rfl
      | 3, _ => rfl
      | 4, _ => rfl
      | 5, _ => rfl⟩
theorem alv_small : ∀ n ∈ alv, SmallN n := by
  intro n hn
  simp [alv] at hn
  rcases hn with rfl | rfl | rfl <;> exact ⟨by decide, by decide, by decide, by decide, fun a h => by cases h⟩
set_option maxHeartbeats 8000000 in
set_option maxRecDepth 100000 in
theorem alive10 (w : World) (hE : Ev9 w := by first | assumption | exact Ev9.to (by assumption) (by assumption)) : Calls Tryz.prog 19 #[] w fun e w' => e = .returned (.bool true) ∧ Below w.heap.size w w' := by
  have HP := Lib.hid (lparse10 ⟨#[60, 97, 62, 116, 60, 98, 47, 62, 60, 47, 97, 62]⟩ w (by decide) alv 0 3 al_px rfl)
  have HS : Hid (∀ A c B d W, RdB NdS W A alv → RdB NdS W B alv → Calls Tryz.prog 17 #[.slice A 3 c, .slice B 3 d] W fun e w' => e = .returned (.bool true) ∧ Below W.heap.size W w') := Lib.hid fun A c B d W ha hb => rsame10 A B 3 c 3 d alv alv W ha rfl hb rfl (by decide) (by decide) (fun t ht => (alv_small t ht).attrs) (fun t ht => (alv_small t ht).attrs) true (decide_eq_true rfl)
  have HC : Hid (∀ A c W, RdB NdS W A alv → Calls Tryz.prog 20 #[.slice A 3 c] W fun e w' => e = .returned (.int .i64 0) ∧ Below W.heap.size W w') := Lib.hid fun A c W ha => checkv A 3 c alv W ha rfl (by decide) (fun _ => alv_small) 0 al_chk
  go_enter Tryz.func19, Tryz.ntmps19
  go_wp2_with (first
    | (go_at_call 13; (with_reducible refine (HP.out).mono ?_); rintro e1 w1 ⟨A1, c1, rfl, hr1, -, -, -, hb1⟩; have HR1 := Lib.hid hr1; have HB1 := Lib.hid hb1; clear hr1 hb1)
    | (go_at_call 18; (with_reducible refine (elem10 ⟨#[97]⟩ 2 w1).mono ?_); rintro e2 w2 ⟨rfl, hb2⟩; have HB2 := Lib.hid hb2; clear hb2)
    | (go_at_call 18; (with_reducible refine (elem10 ⟨#[98]⟩ 0 w2).mono ?_); rintro e3 w3 ⟨rfl, hb3⟩; have HB3 := Lib.hid (stp HB2.out hb3); clear hb3)
    | (go_at_call 17; (with_reducible refine (HS.out _ _ _ _ _ (HR1.out.on (stpA HB3.out _)) (al_row w3 _)).mono ?_); rintro e4 w4 ⟨rfl, hb4⟩; have HB4 := Lib.hid (stp (stpA HB3.out _) hb4); clear hb4)
    | (go_at_call 20; (with_reducible refine (HC.out _ _ _ (HR1.out.on HB4.out)).mono ?_); rintro e5 w5 ⟨rfl, hb5⟩; have HB5 := Lib.hid (stp HB1.out (stp HB4.out hb5)); clear hb5)
    | fail)
  go_ret
  exact ⟨rfl, HB5.out⟩
end Hx
end Go.Proofs.YtbjgfaflikgobaaGreatDoor
namespace Go.Proofs.YtbjgfaflikgobaaGreatDoor
open Go.RowKit
namespace Hx
open Lx Tr Tx Nmb Es
set_option linter.unusedVariables false
theorem tokensR_cnt {v : List Nd} {ts : List Tk} (h : tokensR v = (ts, 0)) : ts.length = cnt v ∧ mayV v = true := by
  unfold tokensR at h
  split at h
  · rename_i hm
    split at h
    · have := congrArg Prod.snd h
      cases this
    · obtain ⟨rfl, _⟩ := (Prod.mk.injEq _ _ _ _).mp h
      have := toldD_cnt 12 v [] (mayV_iff.1 hm.1).2.2
      have h0 : cnt ([] : List Nd) = 0 := rfl
      exact ⟨by omega, hm.1⟩
  · have := congrArg Prod.snd h
    cases this
theorem tokensR_err {v : List Nd} {ts : List Tk} {q : Int} (h : tokensR v = (ts, q)) (hq : q ≠ 0) : ts = [] := by
  unfold tokensR at h
  split at h
  · split at h
    · exact ((Prod.mk.injEq _ _ _ _).mp h).1.symm
    · exact absurd ((Prod.mk.injEq _ _ _ _).mp h).2.symm hq
  · exact ((Prod.mk.injEq _ _ _ _).mp h).1.symm
theorem TokTo.with2 {v : List Nd} {w w' : World} {e : Ending} {ts : List Tk} {q : Int} {tn : Nat} (h : TokTo v w e w') (ht : tokensR v = (ts, q)) (hl : ts.length = tn) : ∃ A c, e = .returned (.tuple #[.slice A tn c, .int .i64 q]) ∧ RdC TkC w' w'.heap.size A ts ∧ Below w.heap.size w w' := by
  obtain ⟨t2, q2, A, c, h1, h2, h3, _, _, _, h4⟩ := h
  rw [ht] at h1
  obtain ⟨rfl, rfl⟩ := (Prod.mk.injEq _ _ _ _).mp h1
  exact ⟨A, c, by rw [← hl]; exact h2, h3, h4⟩
set_option maxHeartbeats 8000000 in
set_option maxRecDepth 100000 in
theorem short10 (A : Option Addr) (n c : Nat) (v : List Nd) (w : World) (hr : RdB NdS w A v) (hn : v.length = n) (hmax : n ≤ 9223372036854775807) (hE : Ev9 w := by first | assumption | exact Ev9.to (by assumption) (by assumption)) :
    Calls Tryz.prog 6 #[.slice A n c] w fun e w' => e = .returned (.bool true) ∧ Below w.heap.size w w' := by
  have HR := Lib.hid hr
  have HN := Lib.hid hn
  have HG : Hid (∀ W, Below w.heap.size w W → Calls Tryz.prog 21 #[.slice A n c, .int .i64 100, .int .i64 3000] W (GreatTo v 100 3000 W)) := Lib.hid fun W hW => rgreat10 A n c v 100 3000 W (hr.on hW) hn (by decide) (by decide) hmax
  clear hr hn hmax
  go_enter Tryz.func6, Tryz.ntmps6
  go_upto_region 4 with (first
    | (go_at_call 19; (with_reducible refine (alive10 w hE).mono ?_); rintro e1 w1 ⟨rfl, hb1⟩; have HB1 := Lib.hid hb1; clear hb1)
    | (go_at_call 21; (with_reducible refine (HG.out _ HB1.out).mono ?_); rintro e2 w2 ⟨qa, rfl, hb2, hqa⟩; have HB2 := Lib.hid (stp HB1.out hb2); have HQA := Lib.hid hqa; clear hb2 hqa)
    | fail)
  · go_ret
    exact ⟨rfl, HB2.out⟩
  · obtain rfl : qa = false := by
      cases qa
      · rfl
      · first | exact absurd rfl (by assumption) | assumption | simp_all
    have hsm : ∀ m ∈ v, SmallN m := fun m hm => ((HQA.out rfl).2 m hm).small (by decide)
    have hle : n ≤ 100 := by have := (HQA.out rfl).1; have := HN.out; omega
    obtain ⟨ts, q, hts⟩ : ∃ ts q, tokensR v = (ts, q) := ⟨_, _, rfl⟩
    obtain ⟨tn, htn⟩ : ∃ tn, ts.length = tn := ⟨_, rfl⟩
    have HT := Lib.hid ((tokens10 A n c v w2 (HR.out.on HB2.out) HN.out (by omega) fun _ => hsm).mono fun e w' h => h.with2 hts htn)
    have bn : (0 : Int) ≤ (n : Int) ∧ (n : Int) ≤ 100 := by omega
    by_cases hq : q = 0
    · subst hq
      obtain ⟨hc, hm⟩ := tokensR_cnt hts
      have HC : Hid (tn = n + v.countP fun m => decide (0 < m.many)) := Lib.hid (by rw [← htn, hc, ← HN.out]; rfl)
      clear hts htn hsm hc hm
      go_wp2_with (first
      | (go_at_call 22; (with_reducible refine (HT.out).mono ?_); rintro e3 w3 ⟨A3, c3, rfl, -, hb3⟩; have HB3 := Lib.hid (stp HB2.out hb3); clear hb3)
      | fail)
      go_loopg [6, 7] n (fun gg x6 i wr => ∃ k : Nat, k + gg = n ∧ i = .int .i64 k ∧ x6 = .int .i64 ((n + (v.take k).countP fun m => decide (0 < m.many) : Nat) : Int) ∧ Below w.heap.size w wr)
      case atStart => exact ⟨0, by omega, rfl, by simp, HB3.out⟩
      case round =>
        obtain ⟨k, hk, rfl, rfl, hbw⟩ := hrel
        have HBW := Lib.hid hbw
        obtain ⟨cn, hcn⟩ : ∃ cn, ((v.take k).countP fun m => decide (0 < m.many)) = cn := ⟨_, rfl⟩
        have hcl : cn ≤ 100 := by
          have := List.countP_le_length (p := fun m : Nd => decide (0 < m.many)) (l := v.take k)
          rw [List.length_take] at this
          omega
        rw [hcn]
        by_cases hlt : k < n
        · have hk1 : k < v.length := by rw [HN.out]; exact hlt
          obtain ⟨b0, off, x, y, z, A1, c1, hA, hbB, hin, -, -, -, -, -, q5⟩ := nd_at (HR.out.on hbw) hk1
          obtain ⟨mm, hmm⟩ : ∃ mm, (v[k]'hk1).many = mm := ⟨_, rfl⟩
          rw [hmm] at q5
          have bk : (0 : Int) ≤ (k : Int) ∧ (k : Int) < (n : Int) := by omega
          have bc : (0 : Int) ≤ (cn : Int) ∧ (cn : Int) ≤ 100 := by omega
          subst hA
          by_cases h0 : 0 < mm
          · have HX : Hid (((v.take (k + 1)).countP fun m => decide (0 < m.many)) = cn + 1) := Lib.hid (by rw [List.take_succ_eq_append_getElem hk1, List.countP_append, hcn]; simp [hmm, h0])
            clear hbw hin hmm hcn hk1
            go_wp2_with fail
            go_roundg (gk - 1)
            case measure => omega
            case rel => exact ⟨k + 1, by omega, by go_num, by rw [HX.out]; go_num, HBW.out⟩
          · have HX : Hid (((v.take (k + 1)).countP fun m => decide (0 < m.many)) = cn) := Lib.hid (by rw [List.take_succ_eq_append_getElem hk1, List.countP_append, hcn]; simp [hmm, h0])
            clear hbw hin hmm hcn hk1
            go_wp2_with fail
            go_roundg (gk - 1)
            case measure => omega
            case rel => exact ⟨k + 1, by omega, by go_num, by rw [HX.out]; first | go_num | simp, HBW.out⟩
        · obtain rfl : k = n := by omega
          have hjj : ¬ ((k : Int) < (k : Int)) := by omega
          obtain rfl : tn = k + cn := by rw [HC.out, ← hcn, List.take_of_length_le (by rw [HN.out]; exact Nat.le_refl _)]
          clear hbw hcn
          go_wp2_with fail
          go_ret
          exact ⟨rfl, HBW.out⟩
    · have h0 := tokensR_err hts hq
      subst h0
      obtain rfl : 0 = tn := htn
      have fq : (q == 0) = false := by simp; omega
      clear hts hsm
      go_wp2_with (first
      | (go_at_call 22; (with_reducible refine (HT.out).mono ?_); rintro e3 w3 ⟨A3, c3, rfl, -, hb3⟩; have HB3 := Lib.hid (stp HB2.out hb3); clear hb3)
      | fail)
      go_ret
      exact ⟨rfl, HB3.out⟩
end Hx
end Go.Proofs.YtbjgfaflikgobaaGreatDoor
