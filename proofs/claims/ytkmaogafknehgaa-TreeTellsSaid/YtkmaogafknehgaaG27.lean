/-
  Texts of one seat, put together: TrhW.
-/
import Derived.Test.YtkmaogafknehgaaG23
import Derived.Test.YtkmaogafknehgaaG25
import Derived.Test.YtkmaogafknehgaaG26
import Derived.Test.YtkmaogafknehgaaG18
import Derived.Test.YtkmaogafknehgaaG20
import Derived.Deep.Cut
namespace Go.Proofs.Ytkmaogafknehgaa
open Go.RowKit
namespace Hx
open Lx Tr Tx Nmb Es
set_option linter.unusedVariables false
theorem toldK_attrs {K : Nat} {g : List Nd → List Tk × List Nd} (hg : ∀ l, (∀ n ∈ l, n.attrs.length ≤ K) → (∀ t ∈ (g l).1, t.attrs.length ≤ K) ∧ ∀ n ∈ (g l).2, n ∈ l) : ∀ (k : Nat) (l : List Nd), (∀ n ∈ l, n.attrs.length ≤ K) → (∀ t ∈ (toldK g k l).1, t.attrs.length ≤ K) ∧ ∀ n ∈ (toldK g k l).2, n ∈ l := by
  intro k
  induction k with
  | zero => intro l _; exact ⟨fun t ht => by simp [toldK] at ht, fun n hn => by simpa [toldK] using hn⟩
  | succ k ih =>
    intro l hl
    obtain ⟨h1, h2⟩ := hg l hl
    obtain ⟨h3, h4⟩ := ih (g l).2 fun n hn => hl n (h2 n hn)
    rw [toldK]
    refine ⟨fun t ht => ?_, fun n hn => h2 n (h4 n hn)⟩
    rcases List.mem_append.1 ht with ht | ht
    · exact h1 t ht
    · exact h3 t ht
theorem toldD_attrs {K : Nat} : ∀ (d : Nat) (l : List Nd), (∀ n ∈ l, n.attrs.length ≤ K) → (∀ t ∈ (toldD d l).1, t.attrs.length ≤ K) ∧ ∀ n ∈ (toldD d l).2, n ∈ l := by
  have none : ∀ d, toldD d [] = ([], []) := fun d => by rw [toldD]
  have hp : ∀ (n : Nd) (l : List Nd), (∀ m ∈ n :: l, m.attrs.length ≤ K) → (pairsN n.attrs).length ≤ K := fun n l h => by
    unfold pairsN
    rw [List.length_map]
    exact h n List.mem_cons_self
  intro d
  induction d with
  | zero =>
    intro l hl
    cases l with
    | nil => rw [none]; exact ⟨fun t ht => (by cases ht), fun n hn => (by cases hn)⟩
    | cons n l =>
      rw [toldD]
      exact ⟨fun t ht => by obtain rfl := List.mem_singleton.1 ht; exact Nat.zero_le _, fun m hm => List.mem_cons_of_mem _ hm⟩
  | succ d ih =>
    intro l hl
    cases l with
    | nil => rw [none]; exact ⟨fun t ht => (by cases ht), fun n hn => (by cases hn)⟩
    | cons n l =>
      rw [toldD]
      by_cases hk : n.kind = 2
      · rw [if_pos hk]
        exact ⟨fun t ht => by obtain rfl := List.mem_singleton.1 ht; exact Nat.zero_le _, fun m hm => List.mem_cons_of_mem _ hm⟩
      · rw [if_neg hk]
        by_cases hm : n.many = 0
        · rw [if_pos hm]
          exact ⟨fun t ht => by obtain rfl := List.mem_singleton.1 ht; exact hp n l hl, fun m hm => List.mem_cons_of_mem _ hm⟩
        · rw [if_neg hm]
          obtain ⟨h1, h2⟩ := toldK_attrs ih n.many.toNat l fun m hm => hl m (List.mem_cons_of_mem _ hm)
          refine ⟨fun t ht => ?_, fun m hm => List.mem_cons_of_mem _ (h2 m hm)⟩
          rcases List.mem_cons.1 ht with rfl | ht
          · exact hp n l hl
          · rcases List.mem_append.1 ht with ht | ht
            · exact h1 t ht
            · obtain rfl := List.mem_singleton.1 ht
              exact Nat.zero_le _
theorem tokensR_small {v : List Nd} {ts : List Tk} {q : Int} (h : tokensR v = (ts, q)) (hv : ∀ n ∈ v, n.attrs.length ≤ 1000000) : ts.length ≤ 512 ∧ ∀ t ∈ ts, t.attrs.length ≤ 1000000 := by
  unfold tokensR at h
  split at h
  · split at h
    · obtain ⟨rfl, _⟩ := (Prod.mk.injEq _ _ _ _).mp h
      exact ⟨Nat.zero_le _, fun t ht => by cases ht⟩
    · obtain ⟨rfl, _⟩ := (Prod.mk.injEq _ _ _ _).mp h
      exact ⟨by omega, (toldD_attrs 12 v hv).1⟩
  · obtain ⟨rfl, _⟩ := (Prod.mk.injEq _ _ _ _).mp h
    exact ⟨Nat.zero_le _, fun t ht => by cases ht⟩
theorem partV_in {v : List Nd} {p : Nat} : ∀ n ∈ partV v p, n ∈ v := by
  intro n hn
  unfold partV at hn
  split at hn
  · cases hn
  · exact List.mem_of_mem_drop (List.mem_of_mem_take hn)
theorem partV_len {v : List Nd} {p : Nat} : (partV v p).length ≤ v.length := by
  unfold partV
  split
  · exact Nat.zero_le _
  · rw [List.length_take, List.length_drop]
    omega
theorem subR_small {v out : List Nd} {i q : Int} (h : subR v i = (out, q)) : out.length ≤ v.length ∧ ∀ n ∈ out, n ∈ v := by
  unfold subR at h
  split at h
  · split at h
    · split at h
      · obtain ⟨rfl, _⟩ := (Prod.mk.injEq _ _ _ _).mp h
        exact ⟨Nat.zero_le _, fun t ht => by cases ht⟩
      · obtain ⟨rfl, _⟩ := (Prod.mk.injEq _ _ _ _).mp h
        exact ⟨partV_len, partV_in⟩
    · obtain ⟨rfl, _⟩ := (Prod.mk.injEq _ _ _ _).mp h
      exact ⟨Nat.zero_le _, fun t ht => by cases ht⟩
  · obtain ⟨rfl, _⟩ := (Prod.mk.injEq _ _ _ _).mp h
    exact ⟨Nat.zero_le _, fun t ht => by cases ht⟩
theorem kidsR_small {v : List Nd} {i : Int} {l : List Nat} (h : kidsR v i = l) : l.length ≤ v.length := by
  unfold kidsR at h
  split at h
  · rename_i h0
    obtain ⟨hm, h1, h2⟩ := asked_zero h0
    have hp : i.toNat < v.length := by omega
    obtain ⟨r, hr⟩ := mayV_at hm hp
    obtain ⟨_, hu⟩ := under_lt hp hr
    rw [← h]
    omega
  · rw [← h]
    exact Nat.zero_le _
theorem TokTo.with {v : List Nd} {w w' : World} {e : Ending} {ts : List Tk} {q : Int} {tn : Nat} (h : TokTo v w e w') (ht : tokensR v = (ts, q)) (hl : ts.length = tn) : ∃ A c, e = .returned (.tuple #[.slice A tn c, .int .i64 q]) ∧ RdC TkC w' w'.heap.size A ts ∧ Below w.heap.size w w' := by
  obtain ⟨t2, q2, A, c, h1, h2, h3, _, _, _, h4⟩ := h
  rw [ht] at h1
  obtain ⟨rfl, rfl⟩ := (Prod.mk.injEq _ _ _ _).mp h1
  exact ⟨A, c, by rw [← hl]; exact h2, h3, h4⟩
theorem SubTo.with {v : List Nd} {i : Int} {w w' : World} {e : Ending} {out : List Nd} {q : Int} {p : Nat} (h : SubTo v i w e w') (ht : subR v i = (out, q)) (hl : out.length = p) : ∃ A c, e = .returned (.tuple #[.slice A p c, .int .i64 q]) ∧ NdOut w.heap.size w out A c w' ∧ Below w.heap.size w w' := by
  obtain ⟨t2, q2, A, c, h1, h2, h3, h4⟩ := h
  rw [ht] at h1
  obtain ⟨rfl, rfl⟩ := (Prod.mk.injEq _ _ _ _).mp h1
  exact ⟨A, c, by rw [← hl]; exact h2, h3, h4⟩
theorem KidsTo.with {l : List Nat} {q : Int} {w w' : World} {e : Ending} {k : Nat} (h : KidsTo l q w e w') (hl : l.length = k) : ∃ A c, e = .returned (.tuple #[.slice A k c, .int .i64 q]) ∧ RdZ w' w'.heap.size A (zs l) ∧ Below w.heap.size w w' := by
  obtain ⟨hb, A, c, h1, _, h2⟩ := h
  exact ⟨A, c, by rw [← hl]; exact h1, h2, hb⟩
theorem TwinTo.with {v : List Nd} {w w' : World} {e : Ending} {n : Nat} (h : TwinTo v w e w') (hn : v.length = n) : ∃ A c, e = .returned (.slice A n c) ∧ NdOut w.heap.size w v A c w' ∧ Below w.heap.size w w' := by
  obtain ⟨A, c, h1, h2, h3⟩ := h
  exact ⟨A, c, by rw [← hn]; exact h1, h2, h3⟩
set_option maxHeartbeats 32000000 in
set_option maxRecDepth 100000 in
theorem tells_mid (A1 : Option Addr) (n c1 : Nat) (v : List Nd) (A2 : Option Addr) (n2 c2 : Nat) (o : List Nd) (i : Int) (w : World) (hr1 : RdB NdS w A1 v) (hn1 : v.length = n) (hm1 : n ≤ 9223372036854775807) (hr2 : RdB NdS w A2 o) (hn2 : o.length = n2) (hm2 : n2 ≤ 9223372036854775807) (h1 : 100 < n) (h2 : n ≤ 512) :
    Calls Try.prog 3 #[.slice A1 n c1, .slice A2 n2 c2, .int .i64 i] w fun e w' => e = .returned (.bool true) ∧ Below w.heap.size w w' := by
  have HG1 : Hid (Calls Try.prog 4 #[.slice A1 n c1, .int .i64 600, .int .i64 3000] w (GreatTo v 600 3000 w)) := Lib.hid (rgreat10 A1 n c1 v 600 3000 w hr1 hn1 (by decide) (by decide) hm1)
  have HG2 : Hid (∀ W, Below w.heap.size w W → Calls Try.prog 4 #[.slice A2 n2 c2, .int .i64 100, .int .i64 3000] W (GreatTo o 100 3000 W)) := Lib.hid fun W hW => rgreat10 A2 n2 c2 o 100 3000 W (hr2.on hW) hn2 (by decide) (by decide) hm2
  have HR1 := Lib.hid hr1
  have HR2 := Lib.hid hr2
  have HN1 := Lib.hid hn1
  have HN2 := Lib.hid hn2
  have f1 : decide ((100 : Int) < (n : Int)) = true := decide_eq_true (by omega)
  have f2 : decide ((n : Int) ≤ (512 : Int)) = true := decide_eq_true (by omega)
  clear hr1 hn1 hm1 hr2 hn2 hm2 h1 h2
  go_enter Try.func3, Try.ntmps3
  go_wp2_with (first
      | (go_at_call 4; (with_reducible refine (HG1.out).mono ?_); rintro e1 w1 ⟨qa, rfl, hb1, hqa⟩; have HB1 := Lib.hid hb1; have HQA := Lib.hid hqa; clear hb1 hqa)
      | fail)
  all_goals
    go_ret
    exact ⟨rfl, HB1.out⟩
theorem tells_kept {w3 w7 w11 w21 w22 w23 : World} (h7 : Below w3.heap.size w3 w7) (h11 : Below w3.heap.size w3 w11) (h21 : Below w3.heap.size w3 w21) (h22 : Below w7.heap.size w21 w22) (h23 : Below w11.heap.size w22 w23) : Below w3.heap.size w3 w23 :=
  (h21.trans (h22.mono h7.size)).trans (h23.mono h11.size)
theorem Sp2.kept {w0 w1 w : World} {A : Option Addr} {v : List Nd} {c : Nat} (h : NdOut w0.heap.size w0 v A c w1) (hb : ∀ k, w0.heap.size ≤ k → k < w1.heap.size → w.heap[k]? = w1.heap[k]?) : Sp2 w0.heap.size w1.heap.size w A v w := by
  have h2 : RdS NdS w (fun k => w0.heap.size ≤ k ∧ k < w1.heap.size ∧ ∀ o, w.frozen? ⟨k, o, none⟩ = false) A v := h.rd.keep (fun k hk => ⟨hk.1, hk.2.1, fun o => (World.frozen?_of_block (w := w1) (w' := w) (a := ⟨k, o, none⟩) (hb k hk.1 hk.2.1)).trans (hk.2.2.2 hk.1 o)⟩) fun b o hk => cell_blk (hb b hk.1 hk.2.1)
  exact Sp2.made h2
set_option maxHeartbeats 32000000 in
set_option maxRecDepth 100000 in
theorem tells_in (A1 : Option Addr) (n c1 : Nat) (v : List Nd) (A2 : Option Addr) (n2 c2 : Nat) (o : List Nd) (i : Int) (w : World) (hr1 : RdB NdS w A1 v) (hn1 : v.length = n) (hm1 : n ≤ 9223372036854775807) (hr2 : RdB NdS w A2 o) (hn2 : o.length = n2) (hm2 : n2 ≤ 9223372036854775807) (hc1 : n ≤ c1) (h1 : n ≤ 100 ∨ 512 < n) :
    Calls Try.prog 3 #[.slice A1 n c1, .slice A2 n2 c2, .int .i64 i] w fun e w' => e = .returned (.bool true) ∧ Below w.heap.size w w' := by
  have HG1 : Hid (Calls Try.prog 4 #[.slice A1 n c1, .int .i64 600, .int .i64 3000] w (GreatTo v 600 3000 w)) := Lib.hid (rgreat10 A1 n c1 v 600 3000 w hr1 hn1 (by decide) (by decide) hm1)
  have HG2 : Hid (∀ W, Below w.heap.size w W → Calls Try.prog 4 #[.slice A2 n2 c2, .int .i64 100, .int .i64 3000] W (GreatTo o 100 3000 W)) := Lib.hid fun W hW => rgreat10 A2 n2 c2 o 100 3000 W (hr2.on hW) hn2 (by decide) (by decide) hm2
  have HR1 := Lib.hid hr1
  have HR2 := Lib.hid hr2
  have HN1 := Lib.hid hn1
  have HN2 := Lib.hid hn2
  have HC1 := Lib.hid hc1
  clear hr1 hn1 hm1 hr2 hn2 hm2 hc1
  rcases h1 with h1 | h1
  · have f1 : decide ((100 : Int) < (n : Int)) = false := decide_eq_false (by omega)
    clear h1
    go_enter Try.func3, Try.ntmps3
    go_upto_region 3 with (first
      | (go_at_call 4; (with_reducible refine (HG1.out).mono ?_); rintro e1 w1 ⟨qa, rfl, hb1, hqa⟩; have HB1 := Lib.hid hb1; have HQA := Lib.hid hqa; clear hb1 hqa)
      | (go_at_call 4; (with_reducible refine (HG2.out _ HB1.out).mono ?_); rintro e2 w2 ⟨qb, rfl, hb2, hqb⟩; have HB2 := Lib.hid (stp HB1.out hb2); have HQB := Lib.hid hqb; clear hb2 hqb)
      | fail)
    · go_ret
      exact ⟨rfl, HB1.out⟩
    · go_ret
      exact ⟨rfl, HB2.out⟩
    · obtain rfl : qa = false := by
        cases qa
        · rfl
        · exact absurd rfl (by assumption)
      obtain rfl : qb = false := by assumption
      have HSM : Hid (∀ m ∈ v, SmallN m) := Lib.hid fun m hm => ((HQA.out rfl).2 m hm).small (by decide)
      have HSO : Hid (∀ m ∈ o, SmallN m) := Lib.hid fun m hm => ((HQB.out rfl).2 m hm).small (by decide)
      have hle : n ≤ 600 := by have := (HQA.out rfl).1; have := HN1.out; omega
      have hle2 : n2 ≤ 100 := by have := (HQB.out rfl).1; have := HN2.out; omega
      have hat : ∀ x ∈ v, x.attrs.length ≤ 1000000 := fun x hx => (HSM.out x hx).attrs
      have hato : ∀ x ∈ o, x.attrs.length ≤ 1000000 := fun x hx => (HSO.out x hx).attrs
      obtain ⟨ts, qt, hts⟩ : ∃ ts qt, tokensR v = (ts, qt) := ⟨_, _, rfl⟩
      obtain ⟨tn, htn⟩ : ∃ tn, ts.length = tn := ⟨_, rfl⟩
      have htsm := tokensR_small hts hat
      obtain ⟨kl, hkl⟩ : ∃ kl, kidsR v i = kl := ⟨_, rfl⟩
      obtain ⟨kn, hkn⟩ : ∃ kn, kl.length = kn := ⟨_, rfl⟩
      have hkls := kidsR_small hkl
      obtain ⟨qk, hqk⟩ : ∃ qk, askedR v i = qk := ⟨_, rfl⟩
      obtain ⟨out, qs, hsub⟩ : ∃ out qs, subR v i = (out, qs) := ⟨_, _, rfl⟩
      obtain ⟨p, hp⟩ : ∃ p, out.length = p := ⟨_, rfl⟩
      have hsus := subR_small hsub
      obtain ⟨s, hs⟩ : ∃ s : ByteArray, wordsR v i = s.data.toList := ⟨⟨(wordsR v i).toArray⟩, rfl⟩
      obtain ⟨qc, hqc⟩ : ∃ qc, checkV v = qc := ⟨_, rfl⟩
      obtain ⟨qo, hqo⟩ : ∃ qo, decide (v = o) = qo := ⟨_, rfl⟩
      have hn := HN1.out
      have hno := HN2.out
      have hmx : n ≤ 9223372036854775807 := by omega
      have hsm := HSM.out
      have HTW := Lib.hid ((rtwin10 A1 n c1 v w2 (HR1.out.on HB2.out) hn (by omega) hat).mono fun e w' h => h.with hn)
      have HARG : Hid (∀ W, Below w.heap.size w W → RdB NdS W A1 v) := Lib.hid fun W hW => HR1.out.on hW
      have HARO : Hid (∀ W, Below w.heap.size w W → RdB NdS W A2 o) := Lib.hid fun W hW => HR2.out.on hW
      have HT1 : Hid (∀ A c W, RdB NdS W A v → Calls Try.prog 6 #[.slice A n c] W fun e w' => ∃ A c, e = .returned (.tuple #[.slice A tn c, .int .i64 qt]) ∧ RdC TkC w' w'.heap.size A ts ∧ Below W.heap.size W w') := Lib.hid fun A c W hW => (tokens10 A n c v W hW hn hmx fun _ => hsm).mono fun e w' h => h.with hts htn
      have HT2 : Hid (∀ A c W, RdB NdS W A v → Calls Try.prog 7 #[.slice A n c] W fun e w' => ∃ A c, e = .returned (.tuple #[.slice A tn c, .int .i64 qt]) ∧ RdC TkC w' w'.heap.size A ts ∧ Below W.heap.size W w') := Lib.hid fun A c W hW => (rtokens10 A n c v W hW hn hmx fun _ => hsm).mono fun e w' h => h.with hts htn
      have HK1 : Hid (∀ A c W, RdB NdS W A v → Calls Try.prog 8 #[.slice A n c, .int .i64 i] W fun e w' => ∃ A c, e = .returned (.tuple #[.slice A kn c, .int .i64 qk]) ∧ RdZ w' w'.heap.size A (zs kl) ∧ Below W.heap.size W w') := Lib.hid fun A c W hW => (kids10 A n c v i W hW hn hmx (fun _ => hsm) qk hqk kl hkl).mono fun e w' h => h.with hkn
      have HK2 : Hid (∀ A c W, RdB NdS W A v → Calls Try.prog 9 #[.slice A n c, .int .i64 i] W fun e w' => ∃ A c, e = .returned (.tuple #[.slice A kn c, .int .i64 qk]) ∧ RdZ w' w'.heap.size A (zs kl) ∧ Below W.heap.size W w') := Lib.hid fun A c W hW => (rkids10 A n c v i W hW hn hmx (fun _ => hsm) qk hqk kl hkl).mono fun e w' h => h.with hkn
      have HS1 : Hid (∀ A c W, RdB NdS W A v → n ≤ c → Calls Try.prog 10 #[.slice A n c, .int .i64 i] W fun e w' => ∃ A c, e = .returned (.tuple #[.slice A p c, .int .i64 qs]) ∧ NdOut W.heap.size W out A c w' ∧ Below W.heap.size W w') := Lib.hid fun A c W hW hc => (sub10 A n c v i W hW hn hc hmx fun _ => hsm).mono fun e w' h => h.with hsub hp
      have HS2 : Hid (∀ A c W, RdB NdS W A v → n ≤ c → Calls Try.prog 11 #[.slice A n c, .int .i64 i] W fun e w' => ∃ A c, e = .returned (.tuple #[.slice A p c, .int .i64 qs]) ∧ NdOut W.heap.size W out A c w' ∧ Below W.heap.size W w') := Lib.hid fun A c W hW hc => (rsub10 A n c v i W hW hn hc hmx fun _ => hsm).mono fun e w' h => h.with hsub hp
      have HW1 : Hid (∀ A c W, RdB NdS W A v → Calls Try.prog 12 #[.slice A n c, .int .i64 i] W fun e w' => e = .returned (.tuple #[.string s, .int .i64 qk]) ∧ Below W.heap.size W w') := Lib.hid fun A c W hW => words10 A n c v i W hW hn hmx (fun _ => hsm) qk hqk s hs
      have HW2 : Hid (∀ A c W, RdB NdS W A v → Calls Try.prog 13 #[.slice A n c, .int .i64 i] W fun e w' => e = .returned (.tuple #[.string s, .int .i64 qk]) ∧ Below W.heap.size W w') := Lib.hid fun A c W hW => rwords10 A n c v i W hW hn hmx (fun _ => hsm) qk hqk s hs
      have HTN : Hid (∀ A c W, RdB NdS W A v → Calls Try.prog 14 #[.slice A n c] W fun e w' => ∃ A c, e = .returned (.slice A n c) ∧ NdOut W.heap.size W v A c w' ∧ Below W.heap.size W w') := Lib.hid fun A c W hW => (twin10 A n c v W hW hn (by omega) hsm).mono fun e w' h => h.with hn
      have HSA : Hid (∀ A c B d W, RdC TkC W W.heap.size A ts → RdC TkC W W.heap.size B ts → Calls Try.prog 15 #[.slice A tn c, .slice B tn d] W fun e w' => e = .returned (.bool true) ∧ Below W.heap.size W w') := Lib.hid fun A c B d W ha hb => rsame9 A B tn c tn d ts ts W ha htn hb htn (by omega) (by omega) htsm.2 htsm.2 true (decide_eq_true rfl)
      have HSI : Hid (∀ A c B d W, RdZ W W.heap.size A (zs kl) → RdZ W W.heap.size B (zs kl) → Calls Try.prog 16 #[.slice A kn c, .slice B kn d] W fun e w' => e = .returned (.bool true) ∧ Below W.heap.size W w') := Lib.hid fun A c B d W ha hb => rsints10 A B kn c d (zs kl) W ha hb (by rw [zs_length]; exact hkn) (by omega)
      have HSX : Hid (∀ A c B d W, RdB NdS W A out → RdB NdS W B out → Calls Try.prog 17 #[.slice A p c, .slice B p d] W fun e w' => e = .returned (.bool true) ∧ Below W.heap.size W w') := Lib.hid fun A c B d W ha hb => rsame10 A B p c p d out out W ha hp hb hp (by omega) (by omega) (fun t ht => hat t (hsus.2 t ht)) (fun t ht => hat t (hsus.2 t ht)) true (decide_eq_true rfl)
      have HSV : Hid (∀ A c B d W, RdB NdS W A v → RdB NdS W B v → Calls Try.prog 17 #[.slice A n c, .slice B n d] W fun e w' => e = .returned (.bool true) ∧ Below W.heap.size W w') := Lib.hid fun A c B d W ha hb => rsame10 A B n c n d v v W ha hn hb hn (by omega) (by omega) hat hat true (decide_eq_true rfl)
      have HSR : Hid (∀ A c B d W, RdB NdS W A v → RdB NdS W B o → Calls Try.prog 17 #[.slice A n c, .slice B n2 d] W fun e w' => e = .returned (.bool qo) ∧ Below W.heap.size W w') := Lib.hid fun A c B d W ha hb => rsame10 A B n c n2 d v o W ha hn hb hno (by omega) (by omega) hat hato qo hqo
      have HSO2 : Hid (∀ A c B d W, RdB NdS W A v → RdB NdS W B o → Calls Try.prog 20 #[.slice A n c, .slice B n2 d] W fun e w' => e = .returned (.bool qo) ∧ Below W.heap.size W w') := Lib.hid fun A c B d W ha hb => same10 A B n c n2 d v o W ha hn hb hno (by omega) (by omega) hat hato qo hqo
      have HSN2 : Hid (∀ A c B d W, RdB NdS W A v → RdB NdS W B v → Calls Try.prog 20 #[.slice A n c, .slice B n d] W fun e w' => e = .returned (.bool true) ∧ Below W.heap.size W w') := Lib.hid fun A c B d W ha hb => same10 A B n c n d v v W ha hn hb hn (by omega) (by omega) hat hat true (decide_eq_true rfl)
      have HCK : Hid (∀ A c W, RdB NdS W A v → Calls Try.prog 18 #[.slice A n c] W fun e w' => e = .returned (.int .i64 qc) ∧ Below W.heap.size W w') := Lib.hid fun A c W hW => checkv A n c v W hW hn hmx (fun _ => hsm) qc hqc
      have HRC : Hid (∀ A c W, RdB NdS W A v → Calls Try.prog 19 #[.slice A n c] W fun e w' => e = .returned (.int .i64 qc) ∧ Below W.heap.size W w') := Lib.hid fun A c W hW => rcheckv A n c v W hW hn hmx (fun _ => hsm) qc hqc
      have HP1 : Hid (∀ A c W0 W1 W, NdOut W0.heap.size W0 out A c W1 → Below W1.heap.size W1 W → Calls Try.prog 21 #[.slice A p c] W fun e w' => e = .returned (.tuple #[]) ∧ Below W0.heap.size W w' ∧ ∀ k, W1.heap.size ≤ k → w'.heap[k]? = W.heap[k]?) := Lib.hid fun A c W0 W1 W h hb => spoil11 W0.heap.size W1.heap.size W A p c out W (Sp2.of h hb) hp (by omega) (fun t ht => hat t (hsus.2 t ht))
      have HP2 : Hid (∀ A c W0 W1 W, NdOut W0.heap.size W0 v A c W1 → (∀ k, W0.heap.size ≤ k → k < W1.heap.size → W.heap[k]? = W1.heap[k]?) → Calls Try.prog 21 #[.slice A n c] W fun e w' => e = .returned (.tuple #[]) ∧ Below W0.heap.size W w') := Lib.hid fun A c W0 W1 W h hb => (spoil11 W0.heap.size W1.heap.size W A n c v W (Sp2.kept h hb) hn (by omega) hat).mono fun e w' h => ⟨h.1, h.2.1⟩
      clear hts htn htsm hkl hkn hkls hqk hsub hp hsus hs hqc hqo hn hno hmx hsm hle hle2 hat hato
      go_wp2_with (first
      | (go_at_call 5; (with_reducible refine (HTW.out).mono ?_); rintro e3 w3 ⟨Ao, co, rfl, ho3, hb3⟩; have HO3 := Lib.hid ho3; have HB3 := Lib.hid (stp HB2.out hb3); have KO := Lib.hid (fun W (hW : Below w3.heap.size w3 W) => (ho3.below hW).all); clear ho3 hb3)
      | (go_at_call 6; (with_reducible refine (HT1.out _ _ _ (KO.out _ (Below.refl _ _))).mono ?_); rintro e4 w4 ⟨A4, c4, rfl, hr4, hb4⟩; have HR4 := Lib.hid hr4; have HB4 := Lib.hid hb4; clear hr4 hb4)
      | (go_at_call 7; (with_reducible refine (HT2.out _ _ _ (HARG.out _ (stp HB3.out HB4.out))).mono ?_); rintro e5 w5 ⟨A5, c5, rfl, hr5, hb5⟩; have HR5 := Lib.hid hr5; have HB5 := Lib.hid (stp HB4.out hb5); have HB45 := Lib.hid hb5; clear hr5 hb5)
      | (go_at_call 8; (with_reducible refine (HK1.out _ _ _ (KO.out _ HB5.out)).mono ?_); rintro e6 w6 ⟨A6, c6, rfl, hr6, hb6⟩; have HR6 := Lib.hid hr6; have HB6 := Lib.hid (stp HB5.out hb6); have HB56 := Lib.hid hb6; clear hr6 hb6)
      | (go_at_call 9; (with_reducible refine (HK2.out _ _ _ (HARG.out _ (stp HB3.out HB6.out))).mono ?_); rintro e7 w7 ⟨A7, c7, rfl, hr7, hb7⟩; have HR7 := Lib.hid hr7; have HB7 := Lib.hid (stp HB6.out hb7); have HB67 := Lib.hid hb7; clear hr7 hb7)
      | (go_at_call 10; (with_reducible refine (HS1.out _ _ _ (KO.out _ HB7.out) (by have := HO3.out.le; have := HN1.out; omega)).mono ?_); rintro e8 w8 ⟨A8, c8, rfl, hr8, hb8⟩; have HO8 := Lib.hid hr8; have HB8 := Lib.hid (stp HB7.out hb8); have HB78 := Lib.hid hb8; clear hr8 hb8)
      | (go_at_call 11; (with_reducible refine (HS2.out _ _ _ (HARG.out _ (stp HB3.out HB8.out)) HC1.out).mono ?_); rintro e9 w9 ⟨A9, c9, rfl, hr9, hb9⟩; have HO9 := Lib.hid hr9; have HB9 := Lib.hid (stp HB8.out hb9); have HB89 := Lib.hid hb9; clear hr9 hb9)
      | (go_at_call 12; (with_reducible refine (HW1.out _ _ _ (KO.out _ HB9.out)).mono ?_); rintro e10 w10 ⟨rfl, hb10⟩; have HB10 := Lib.hid (stp HB9.out hb10); have HB90 := Lib.hid hb10; clear hb10)
      | (go_at_call 13; (with_reducible refine (HW2.out _ _ _ (HARG.out _ (stp HB3.out HB10.out))).mono ?_); rintro e11 w11 ⟨rfl, hb11⟩; have HB11 := Lib.hid (stp HB10.out hb11); have HB91 := Lib.hid (stp HB90.out hb11); clear hb11)
      | (go_at_call 14; (with_reducible refine (HTN.out _ _ _ (KO.out _ HB11.out)).mono ?_); rintro e12 w12 ⟨A12, c12, rfl, hr12, hb12⟩; have HO12 := Lib.hid hr12; have HB12 := Lib.hid (stp HB11.out hb12); have HB92 := Lib.hid (stp HB91.out hb12); have K9 := Lib.hid (stp HB89.out (stp HB91.out hb12)); clear hr12 hb12)
      | (go_at_call 15; (with_reducible refine (HSA.out _ _ _ _ _ (HR4.out.on (stp HB45.out (stp HB56.out (stp HB67.out (stp HB78.out (stp HB89.out HB92.out)))))) (HR5.out.on (stp HB56.out (stp HB67.out (stp HB78.out (stp HB89.out HB92.out)))))).mono ?_); rintro e13 w13 ⟨rfl, hb13⟩; have HB13 := Lib.hid hb13; clear hb13)
      | (go_at_call 16; (with_reducible refine (HSI.out _ _ _ _ _ (HR6.out.on (stp HB67.out (stp HB78.out (stp HB89.out (stp HB92.out HB13.out))))) (HR7.out.on (stp HB78.out (stp HB89.out (stp HB92.out HB13.out))))).mono ?_); rintro e14 w14 ⟨rfl, hb14⟩; have HB14 := Lib.hid (stp HB13.out hb14); clear hb14)
      | (go_at_call 17; (with_reducible refine (HSX.out _ _ _ _ _ (HO8.out.below (stp HB89.out (stp HB92.out HB14.out))).all (HO9.out.below (stp HB92.out HB14.out)).all).mono ?_); rintro e15 w15 ⟨rfl, hb15⟩; have HB15 := Lib.hid (stp HB14.out hb15); clear hb15)
      | (go_at_call 18; (with_reducible refine (HCK.out _ _ _ (KO.out _ (stp HB12.out HB15.out))).mono ?_); rintro e16 w16 ⟨rfl, hb16⟩; have HB16 := Lib.hid (stp HB15.out hb16); clear hb16)
      | (go_at_call 19; (with_reducible refine (HRC.out _ _ _ (HARG.out _ (stp HB3.out (stp HB12.out HB16.out)))).mono ?_); rintro e17 w17 ⟨rfl, hb17⟩; have HB17 := Lib.hid (stp HB16.out hb17); clear hb17)
      | (go_at_call 20; (with_reducible refine (HSO2.out _ _ _ _ _ (KO.out _ (stp HB12.out HB17.out)) (HARO.out _ (stp HB3.out (stp HB12.out HB17.out)))).mono ?_); rintro e18 w18 ⟨rfl, hb18⟩; have HB18 := Lib.hid (stp HB17.out hb18); clear hb18)
      | (go_at_call 17; (with_reducible refine (HSR.out _ _ _ _ _ (HARG.out _ (stp HB3.out (stp HB12.out HB18.out))) (HARO.out _ (stp HB3.out (stp HB12.out HB18.out)))).mono ?_); rintro e19 w19 ⟨rfl, hb19⟩; have HB19 := Lib.hid (stp HB18.out hb19); clear hb19)
      | (go_at_call 20; (with_reducible refine (HSN2.out _ _ _ _ _ (KO.out _ (stp HB12.out HB19.out)) (HARG.out _ (stp HB3.out (stp HB12.out HB19.out)))).mono ?_); rintro e20 w20 ⟨rfl, hb20⟩; have HB20 := Lib.hid (stp HB19.out hb20); clear hb20)
      | (go_at_call 17; (with_reducible refine (HSV.out _ _ _ _ _ (HO12.out.below HB20.out).all (HARG.out _ (stp HB3.out (stp HB12.out HB20.out)))).mono ?_); rintro e21 w21 ⟨rfl, hb21⟩; have HB21 := Lib.hid (stp HB20.out hb21); clear hb21)
      | (go_at_call 21; (with_reducible refine (HP1.out _ _ _ _ _ HO8.out (stp K9.out HB21.out)).mono ?_); rintro e22 w22 ⟨rfl, hb22, hk22⟩; have HB22 := Lib.hid hb22; have HK22 := Lib.hid hk22; clear hb22 hk22)
      | (go_at_call 21; (with_reducible refine (HP2.out _ _ _ _ _ HO12.out (fun k hk1 hk2 => (HK22.out k (Nat.le_trans (Nat.le_trans HB89.out.size HB91.out.size) hk1)).trans (HB21.out.block k hk2))).mono ?_); rintro e23 w23 ⟨rfl, hb23⟩; have HB23 := Lib.hid hb23; have K23 := Lib.hid (tells_kept HB7.out HB11.out (stp HB12.out HB21.out) HB22.out hb23); clear hb23)
      | (go_at_call 17; (with_reducible refine (HSV.out _ _ _ _ _ (KO.out _ K23.out) (HARG.out _ (stp HB3.out K23.out))).mono ?_); rintro e24 w24 ⟨rfl, hb24⟩; have HB24 := Lib.hid hb24; clear hb24)
      | fail)
      go_ret
      exact ⟨rfl, stp HB3.out (stp K23.out HB24.out)⟩
  · have f1 : decide ((100 : Int) < (n : Int)) = true := decide_eq_true (by omega)
    have f2 : decide ((n : Int) ≤ (512 : Int)) = false := decide_eq_false (by omega)
    clear h1
    go_enter Try.func3, Try.ntmps3
    go_upto_region 3 with (first
      | (go_at_call 4; (with_reducible refine (HG1.out).mono ?_); rintro e1 w1 ⟨qa, rfl, hb1, hqa⟩; have HB1 := Lib.hid hb1; have HQA := Lib.hid hqa; clear hb1 hqa)
      | (go_at_call 4; (with_reducible refine (HG2.out _ HB1.out).mono ?_); rintro e2 w2 ⟨qb, rfl, hb2, hqb⟩; have HB2 := Lib.hid (stp HB1.out hb2); have HQB := Lib.hid hqb; clear hb2 hqb)
      | fail)
    · go_ret
      exact ⟨rfl, HB1.out⟩
    · go_ret
      exact ⟨rfl, HB2.out⟩
    · obtain rfl : qa = false := by
        cases qa
        · rfl
        · exact absurd rfl (by assumption)
      obtain rfl : qb = false := by assumption
      have HSM : Hid (∀ m ∈ v, SmallN m) := Lib.hid fun m hm => ((HQA.out rfl).2 m hm).small (by decide)
      have HSO : Hid (∀ m ∈ o, SmallN m) := Lib.hid fun m hm => ((HQB.out rfl).2 m hm).small (by decide)
      have hle : n ≤ 600 := by have := (HQA.out rfl).1; have := HN1.out; omega
      have hle2 : n2 ≤ 100 := by have := (HQB.out rfl).1; have := HN2.out; omega
      have hat : ∀ x ∈ v, x.attrs.length ≤ 1000000 := fun x hx => (HSM.out x hx).attrs
      have hato : ∀ x ∈ o, x.attrs.length ≤ 1000000 := fun x hx => (HSO.out x hx).attrs
      obtain ⟨ts, qt, hts⟩ : ∃ ts qt, tokensR v = (ts, qt) := ⟨_, _, rfl⟩
      obtain ⟨tn, htn⟩ : ∃ tn, ts.length = tn := ⟨_, rfl⟩
      have htsm := tokensR_small hts hat
      obtain ⟨kl, hkl⟩ : ∃ kl, kidsR v i = kl := ⟨_, rfl⟩
      obtain ⟨kn, hkn⟩ : ∃ kn, kl.length = kn := ⟨_, rfl⟩
      have hkls := kidsR_small hkl
      obtain ⟨qk, hqk⟩ : ∃ qk, askedR v i = qk := ⟨_, rfl⟩
      obtain ⟨out, qs, hsub⟩ : ∃ out qs, subR v i = (out, qs) := ⟨_, _, rfl⟩
      obtain ⟨p, hp⟩ : ∃ p, out.length = p := ⟨_, rfl⟩
      have hsus := subR_small hsub
      obtain ⟨s, hs⟩ : ∃ s : ByteArray, wordsR v i = s.data.toList := ⟨⟨(wordsR v i).toArray⟩, rfl⟩
      obtain ⟨qc, hqc⟩ : ∃ qc, checkV v = qc := ⟨_, rfl⟩
      obtain ⟨qo, hqo⟩ : ∃ qo, decide (v = o) = qo := ⟨_, rfl⟩
      have hn := HN1.out
      have hno := HN2.out
      have hmx : n ≤ 9223372036854775807 := by omega
      have hsm := HSM.out
      have HTW := Lib.hid ((rtwin10 A1 n c1 v w2 (HR1.out.on HB2.out) hn (by omega) hat).mono fun e w' h => h.with hn)
      have HARG : Hid (∀ W, Below w.heap.size w W → RdB NdS W A1 v) := Lib.hid fun W hW => HR1.out.on hW
      have HARO : Hid (∀ W, Below w.heap.size w W → RdB NdS W A2 o) := Lib.hid fun W hW => HR2.out.on hW
      have HT1 : Hid (∀ A c W, RdB NdS W A v → Calls Try.prog 6 #[.slice A n c] W fun e w' => ∃ A c, e = .returned (.tuple #[.slice A tn c, .int .i64 qt]) ∧ RdC TkC w' w'.heap.size A ts ∧ Below W.heap.size W w') := Lib.hid fun A c W hW => (tokens10 A n c v W hW hn hmx fun _ => hsm).mono fun e w' h => h.with hts htn
      have HT2 : Hid (∀ A c W, RdB NdS W A v → Calls Try.prog 7 #[.slice A n c] W fun e w' => ∃ A c, e = .returned (.tuple #[.slice A tn c, .int .i64 qt]) ∧ RdC TkC w' w'.heap.size A ts ∧ Below W.heap.size W w') := Lib.hid fun A c W hW => (rtokens10 A n c v W hW hn hmx fun _ => hsm).mono fun e w' h => h.with hts htn
      have HK1 : Hid (∀ A c W, RdB NdS W A v → Calls Try.prog 8 #[.slice A n c, .int .i64 i] W fun e w' => ∃ A c, e = .returned (.tuple #[.slice A kn c, .int .i64 qk]) ∧ RdZ w' w'.heap.size A (zs kl) ∧ Below W.heap.size W w') := Lib.hid fun A c W hW => (kids10 A n c v i W hW hn hmx (fun _ => hsm) qk hqk kl hkl).mono fun e w' h => h.with hkn
      have HK2 : Hid (∀ A c W, RdB NdS W A v → Calls Try.prog 9 #[.slice A n c, .int .i64 i] W fun e w' => ∃ A c, e = .returned (.tuple #[.slice A kn c, .int .i64 qk]) ∧ RdZ w' w'.heap.size A (zs kl) ∧ Below W.heap.size W w') := Lib.hid fun A c W hW => (rkids10 A n c v i W hW hn hmx (fun _ => hsm) qk hqk kl hkl).mono fun e w' h => h.with hkn
      have HS1 : Hid (∀ A c W, RdB NdS W A v → n ≤ c → Calls Try.prog 10 #[.slice A n c, .int .i64 i] W fun e w' => ∃ A c, e = .returned (.tuple #[.slice A p c, .int .i64 qs]) ∧ NdOut W.heap.size W out A c w' ∧ Below W.heap.size W w') := Lib.hid fun A c W hW hc => (sub10 A n c v i W hW hn hc hmx fun _ => hsm).mono fun e w' h => h.with hsub hp
      have HS2 : Hid (∀ A c W, RdB NdS W A v → n ≤ c → Calls Try.prog 11 #[.slice A n c, .int .i64 i] W fun e w' => ∃ A c, e = .returned (.tuple #[.slice A p c, .int .i64 qs]) ∧ NdOut W.heap.size W out A c w' ∧ Below W.heap.size W w') := Lib.hid fun A c W hW hc => (rsub10 A n c v i W hW hn hc hmx fun _ => hsm).mono fun e w' h => h.with hsub hp
      have HW1 : Hid (∀ A c W, RdB NdS W A v → Calls Try.prog 12 #[.slice A n c, .int .i64 i] W fun e w' => e = .returned (.tuple #[.string s, .int .i64 qk]) ∧ Below W.heap.size W w') := Lib.hid fun A c W hW => words10 A n c v i W hW hn hmx (fun _ => hsm) qk hqk s hs
      have HW2 : Hid (∀ A c W, RdB NdS W A v → Calls Try.prog 13 #[.slice A n c, .int .i64 i] W fun e w' => e = .returned (.tuple #[.string s, .int .i64 qk]) ∧ Below W.heap.size W w') := Lib.hid fun A c W hW => rwords10 A n c v i W hW hn hmx (fun _ => hsm) qk hqk s hs
      have HTN : Hid (∀ A c W, RdB NdS W A v → Calls Try.prog 14 #[.slice A n c] W fun e w' => ∃ A c, e = .returned (.slice A n c) ∧ NdOut W.heap.size W v A c w' ∧ Below W.heap.size W w') := Lib.hid fun A c W hW => (twin10 A n c v W hW hn (by omega) hsm).mono fun e w' h => h.with hn
      have HSA : Hid (∀ A c B d W, RdC TkC W W.heap.size A ts → RdC TkC W W.heap.size B ts → Calls Try.prog 15 #[.slice A tn c, .slice B tn d] W fun e w' => e = .returned (.bool true) ∧ Below W.heap.size W w') := Lib.hid fun A c B d W ha hb => rsame9 A B tn c tn d ts ts W ha htn hb htn (by omega) (by omega) htsm.2 htsm.2 true (decide_eq_true rfl)
      have HSI : Hid (∀ A c B d W, RdZ W W.heap.size A (zs kl) → RdZ W W.heap.size B (zs kl) → Calls Try.prog 16 #[.slice A kn c, .slice B kn d] W fun e w' => e = .returned (.bool true) ∧ Below W.heap.size W w') := Lib.hid fun A c B d W ha hb => rsints10 A B kn c d (zs kl) W ha hb (by rw [zs_length]; exact hkn) (by omega)
      have HSX : Hid (∀ A c B d W, RdB NdS W A out → RdB NdS W B out → Calls Try.prog 17 #[.slice A p c, .slice B p d] W fun e w' => e = .returned (.bool true) ∧ Below W.heap.size W w') := Lib.hid fun A c B d W ha hb => rsame10 A B p c p d out out W ha hp hb hp (by omega) (by omega) (fun t ht => hat t (hsus.2 t ht)) (fun t ht => hat t (hsus.2 t ht)) true (decide_eq_true rfl)
      have HSV : Hid (∀ A c B d W, RdB NdS W A v → RdB NdS W B v → Calls Try.prog 17 #[.slice A n c, .slice B n d] W fun e w' => e = .returned (.bool true) ∧ Below W.heap.size W w') := Lib.hid fun A c B d W ha hb => rsame10 A B n c n d v v W ha hn hb hn (by omega) (by omega) hat hat true (decide_eq_true rfl)
      have HSR : Hid (∀ A c B d W, RdB NdS W A v → RdB NdS W B o → Calls Try.prog 17 #[.slice A n c, .slice B n2 d] W fun e w' => e = .returned (.bool qo) ∧ Below W.heap.size W w') := Lib.hid fun A c B d W ha hb => rsame10 A B n c n2 d v o W ha hn hb hno (by omega) (by omega) hat hato qo hqo
      have HSO2 : Hid (∀ A c B d W, RdB NdS W A v → RdB NdS W B o → Calls Try.prog 20 #[.slice A n c, .slice B n2 d] W fun e w' => e = .returned (.bool qo) ∧ Below W.heap.size W w') := Lib.hid fun A c B d W ha hb => same10 A B n c n2 d v o W ha hn hb hno (by omega) (by omega) hat hato qo hqo
      have HSN2 : Hid (∀ A c B d W, RdB NdS W A v → RdB NdS W B v → Calls Try.prog 20 #[.slice A n c, .slice B n d] W fun e w' => e = .returned (.bool true) ∧ Below W.heap.size W w') := Lib.hid fun A c B d W ha hb => same10 A B n c n d v v W ha hn hb hn (by omega) (by omega) hat hat true (decide_eq_true rfl)
      have HCK : Hid (∀ A c W, RdB NdS W A v → Calls Try.prog 18 #[.slice A n c] W fun e w' => e = .returned (.int .i64 qc) ∧ Below W.heap.size W w') := Lib.hid fun A c W hW => checkv A n c v W hW hn hmx (fun _ => hsm) qc hqc
      have HRC : Hid (∀ A c W, RdB NdS W A v → Calls Try.prog 19 #[.slice A n c] W fun e w' => e = .returned (.int .i64 qc) ∧ Below W.heap.size W w') := Lib.hid fun A c W hW => rcheckv A n c v W hW hn hmx (fun _ => hsm) qc hqc
      have HP1 : Hid (∀ A c W0 W1 W, NdOut W0.heap.size W0 out A c W1 → Below W1.heap.size W1 W → Calls Try.prog 21 #[.slice A p c] W fun e w' => e = .returned (.tuple #[]) ∧ Below W0.heap.size W w' ∧ ∀ k, W1.heap.size ≤ k → w'.heap[k]? = W.heap[k]?) := Lib.hid fun A c W0 W1 W h hb => spoil11 W0.heap.size W1.heap.size W A p c out W (Sp2.of h hb) hp (by omega) (fun t ht => hat t (hsus.2 t ht))
      have HP2 : Hid (∀ A c W0 W1 W, NdOut W0.heap.size W0 v A c W1 → (∀ k, W0.heap.size ≤ k → k < W1.heap.size → W.heap[k]? = W1.heap[k]?) → Calls Try.prog 21 #[.slice A n c] W fun e w' => e = .returned (.tuple #[]) ∧ Below W0.heap.size W w') := Lib.hid fun A c W0 W1 W h hb => (spoil11 W0.heap.size W1.heap.size W A n c v W (Sp2.kept h hb) hn (by omega) hat).mono fun e w' h => ⟨h.1, h.2.1⟩
      clear hts htn htsm hkl hkn hkls hqk hsub hp hsus hs hqc hqo hn hno hmx hsm hle hle2 hat hato
      go_wp2_with (first
      | (go_at_call 5; (with_reducible refine (HTW.out).mono ?_); rintro e3 w3 ⟨Ao, co, rfl, ho3, hb3⟩; have HO3 := Lib.hid ho3; have HB3 := Lib.hid (stp HB2.out hb3); have KO := Lib.hid (fun W (hW : Below w3.heap.size w3 W) => (ho3.below hW).all); clear ho3 hb3)
      | (go_at_call 6; (with_reducible refine (HT1.out _ _ _ (KO.out _ (Below.refl _ _))).mono ?_); rintro e4 w4 ⟨A4, c4, rfl, hr4, hb4⟩; have HR4 := Lib.hid hr4; have HB4 := Lib.hid hb4; clear hr4 hb4)
      | (go_at_call 7; (with_reducible refine (HT2.out _ _ _ (HARG.out _ (stp HB3.out HB4.out))).mono ?_); rintro e5 w5 ⟨A5, c5, rfl, hr5, hb5⟩; have HR5 := Lib.hid hr5; have HB5 := Lib.hid (stp HB4.out hb5); have HB45 := Lib.hid hb5; clear hr5 hb5)
      | (go_at_call 8; (with_reducible refine (HK1.out _ _ _ (KO.out _ HB5.out)).mono ?_); rintro e6 w6 ⟨A6, c6, rfl, hr6, hb6⟩; have HR6 := Lib.hid hr6; have HB6 := Lib.hid (stp HB5.out hb6); have HB56 := Lib.hid hb6; clear hr6 hb6)
      | (go_at_call 9; (with_reducible refine (HK2.out _ _ _ (HARG.out _ (stp HB3.out HB6.out))).mono ?_); rintro e7 w7 ⟨A7, c7, rfl, hr7, hb7⟩; have HR7 := Lib.hid hr7; have HB7 := Lib.hid (stp HB6.out hb7); have HB67 := Lib.hid hb7; clear hr7 hb7)
      | (go_at_call 10; (with_reducible refine (HS1.out _ _ _ (KO.out _ HB7.out) (by have := HO3.out.le; have := HN1.out; omega)).mono ?_); rintro e8 w8 ⟨A8, c8, rfl, hr8, hb8⟩; have HO8 := Lib.hid hr8; have HB8 := Lib.hid (stp HB7.out hb8); have HB78 := Lib.hid hb8; clear hr8 hb8)
      | (go_at_call 11; (with_reducible refine (HS2.out _ _ _ (HARG.out _ (stp HB3.out HB8.out)) HC1.out).mono ?_); rintro e9 w9 ⟨A9, c9, rfl, hr9, hb9⟩; have HO9 := Lib.hid hr9; have HB9 := Lib.hid (stp HB8.out hb9); have HB89 := Lib.hid hb9; clear hr9 hb9)
      | (go_at_call 12; (with_reducible refine (HW1.out _ _ _ (KO.out _ HB9.out)).mono ?_); rintro e10 w10 ⟨rfl, hb10⟩; have HB10 := Lib.hid (stp HB9.out hb10); have HB90 := Lib.hid hb10; clear hb10)
      | (go_at_call 13; (with_reducible refine (HW2.out _ _ _ (HARG.out _ (stp HB3.out HB10.out))).mono ?_); rintro e11 w11 ⟨rfl, hb11⟩; have HB11 := Lib.hid (stp HB10.out hb11); have HB91 := Lib.hid (stp HB90.out hb11); clear hb11)
      | (go_at_call 14; (with_reducible refine (HTN.out _ _ _ (KO.out _ HB11.out)).mono ?_); rintro e12 w12 ⟨A12, c12, rfl, hr12, hb12⟩; have HO12 := Lib.hid hr12; have HB12 := Lib.hid (stp HB11.out hb12); have HB92 := Lib.hid (stp HB91.out hb12); have K9 := Lib.hid (stp HB89.out (stp HB91.out hb12)); clear hr12 hb12)
      | (go_at_call 15; (with_reducible refine (HSA.out _ _ _ _ _ (HR4.out.on (stp HB45.out (stp HB56.out (stp HB67.out (stp HB78.out (stp HB89.out HB92.out)))))) (HR5.out.on (stp HB56.out (stp HB67.out (stp HB78.out (stp HB89.out HB92.out)))))).mono ?_); rintro e13 w13 ⟨rfl, hb13⟩; have HB13 := Lib.hid hb13; clear hb13)
      | (go_at_call 16; (with_reducible refine (HSI.out _ _ _ _ _ (HR6.out.on (stp HB67.out (stp HB78.out (stp HB89.out (stp HB92.out HB13.out))))) (HR7.out.on (stp HB78.out (stp HB89.out (stp HB92.out HB13.out))))).mono ?_); rintro e14 w14 ⟨rfl, hb14⟩; have HB14 := Lib.hid (stp HB13.out hb14); clear hb14)
      | (go_at_call 17; (with_reducible refine (HSX.out _ _ _ _ _ (HO8.out.below (stp HB89.out (stp HB92.out HB14.out))).all (HO9.out.below (stp HB92.out HB14.out)).all).mono ?_); rintro e15 w15 ⟨rfl, hb15⟩; have HB15 := Lib.hid (stp HB14.out hb15); clear hb15)
      | (go_at_call 18; (with_reducible refine (HCK.out _ _ _ (KO.out _ (stp HB12.out HB15.out))).mono ?_); rintro e16 w16 ⟨rfl, hb16⟩; have HB16 := Lib.hid (stp HB15.out hb16); clear hb16)
      | (go_at_call 19; (with_reducible refine (HRC.out _ _ _ (HARG.out _ (stp HB3.out (stp HB12.out HB16.out)))).mono ?_); rintro e17 w17 ⟨rfl, hb17⟩; have HB17 := Lib.hid (stp HB16.out hb17); clear hb17)
      | (go_at_call 20; (with_reducible refine (HSO2.out _ _ _ _ _ (KO.out _ (stp HB12.out HB17.out)) (HARO.out _ (stp HB3.out (stp HB12.out HB17.out)))).mono ?_); rintro e18 w18 ⟨rfl, hb18⟩; have HB18 := Lib.hid (stp HB17.out hb18); clear hb18)
      | (go_at_call 17; (with_reducible refine (HSR.out _ _ _ _ _ (HARG.out _ (stp HB3.out (stp HB12.out HB18.out))) (HARO.out _ (stp HB3.out (stp HB12.out HB18.out)))).mono ?_); rintro e19 w19 ⟨rfl, hb19⟩; have HB19 := Lib.hid (stp HB18.out hb19); clear hb19)
      | (go_at_call 20; (with_reducible refine (HSN2.out _ _ _ _ _ (KO.out _ (stp HB12.out HB19.out)) (HARG.out _ (stp HB3.out (stp HB12.out HB19.out)))).mono ?_); rintro e20 w20 ⟨rfl, hb20⟩; have HB20 := Lib.hid (stp HB19.out hb20); clear hb20)
      | (go_at_call 17; (with_reducible refine (HSV.out _ _ _ _ _ (HO12.out.below HB20.out).all (HARG.out _ (stp HB3.out (stp HB12.out HB20.out)))).mono ?_); rintro e21 w21 ⟨rfl, hb21⟩; have HB21 := Lib.hid (stp HB20.out hb21); clear hb21)
      | (go_at_call 21; (with_reducible refine (HP1.out _ _ _ _ _ HO8.out (stp K9.out HB21.out)).mono ?_); rintro e22 w22 ⟨rfl, hb22, hk22⟩; have HB22 := Lib.hid hb22; have HK22 := Lib.hid hk22; clear hb22 hk22)
      | (go_at_call 21; (with_reducible refine (HP2.out _ _ _ _ _ HO12.out (fun k hk1 hk2 => (HK22.out k (Nat.le_trans (Nat.le_trans HB89.out.size HB91.out.size) hk1)).trans (HB21.out.block k hk2))).mono ?_); rintro e23 w23 ⟨rfl, hb23⟩; have HB23 := Lib.hid hb23; have K23 := Lib.hid (tells_kept HB7.out HB11.out (stp HB12.out HB21.out) HB22.out hb23); clear hb23)
      | (go_at_call 17; (with_reducible refine (HSV.out _ _ _ _ _ (KO.out _ K23.out) (HARG.out _ (stp HB3.out K23.out))).mono ?_); rintro e24 w24 ⟨rfl, hb24⟩; have HB24 := Lib.hid hb24; clear hb24)
      | fail)
      go_ret
      exact ⟨rfl, stp HB3.out (stp K23.out HB24.out)⟩
end Hx
end Go.Proofs.Ytkmaogafknehgaa
