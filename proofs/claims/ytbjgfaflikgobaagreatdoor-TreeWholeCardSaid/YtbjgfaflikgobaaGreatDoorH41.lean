/-
  Texts of one seat, put together: TrsC, TrwA, TreS, TreY.
-/
import Derived.Test.YtbjgfaflikgobaaGreatDoorH38
import Derived.Test.YtbjgfaflikgobaaGreatDoorH40
import Derived.Test.YtbjgfaflikgobaaGreatDoorH32
import Derived.Test.YtbjgfaflikgobaaGreatDoorH35
import Derived.Test.YtbjgfaflikgobaaGreatDoorH33
import Derived.Test.YtbjgfaflikgobaaGreatDoorH11
import Derived.Test.YtbjgfaflikgobaaGreatDoorH25
import Derived.Test.YtbjgfaflikgobaaGreatDoorH24
namespace Go.Proofs.YtbjgfaflikgobaaGreatDoor
open Go.RowKit
namespace Hx
open Lx Tr Tx Nmb Es
set_option linter.unusedVariables false
theorem small_text {n : Nd} (h : SmallN n) : Small ⟨4, [], [], n.text⟩ := ⟨Nat.zero_le _, h.text, Nat.zero_le _, fun p hp => (by cases hp)⟩
theorem small_tag {n : Nd} (k : Nat) (h : SmallN n) : Small ⟨k, n.name, pairsN n.attrs, []⟩ := ⟨h.name, Nat.zero_le _, by show (pairsN n.attrs).length ≤ _; unfold pairsN; rw [List.length_map]; exact h.attrs, fun p hp => by
  have hp : p ∈ pairsN n.attrs := hp
  unfold pairsN at hp
  obtain ⟨a, ha, rfl⟩ := List.mem_map.1 hp
  exact ⟨(h.each a ha).2.1, (h.each a ha).2.2⟩⟩
theorem small_end {n : Nd} (h : SmallN n) : Small ⟨2, n.name, [], []⟩ := ⟨h.name, Nat.zero_le _, Nat.zero_le _, fun p hp => (by cases hp)⟩
theorem toldK_small {g : List Nd → List Tk × List Nd} (hg : ∀ l, (∀ n ∈ l, SmallN n) → (∀ t ∈ (g l).1, Small t) ∧ ∀ n ∈ (g l).2, n ∈ l) : ∀ (k : Nat) (l : List Nd), (∀ n ∈ l, SmallN n) → (∀ t ∈ (toldK g k l).1, Small t) ∧ ∀ n ∈ (toldK g k l).2, n ∈ l := by
  intro k
  induction k with
  | zero => intro l _; exact ⟨fun t ht => by simp [toldK] at ht, fun n hn => by simpa [toldK] using hn⟩
  | succ k ih =>
    intro l hl
    obtain ⟨h1, h2⟩ := hg l hl
    obtain ⟨h3, h4⟩ := ih (g l).2 fun n hn => hl n (h2 n hn)
    rw [toldK]
    refine ⟨fun t ht => ?_, fun n hn => h2 n (h4 n hn)⟩
    rcases List.mem_append.1 ht with ht | ht
    · exact h1 t ht
    · exact h3 t ht
theorem toldD_small : ∀ (d : Nat) (l : List Nd), (∀ n ∈ l, SmallN n) → (∀ t ∈ (toldD d l).1, Small t) ∧ ∀ n ∈ (toldD d l).2, n ∈ l := by
  have none : ∀ d, toldD d [] = ([], []) := fun d => by rw [toldD]
  intro d
  induction d with
  | zero =>
    intro l hl
    cases l with
    | nil => rw [none]; exact ⟨fun t ht => (by cases ht), fun n hn => (by cases hn)⟩
    | cons n l =>
      rw [toldD]
      exact ⟨fun t ht => by obtain rfl := List.mem_singleton.1 ht; exact small_text (hl n List.mem_cons_self), fun m hm => List.mem_cons_of_mem _ hm⟩
  | succ d ih =>
    intro l hl
    cases l with
    | nil => rw [none]; exact ⟨fun t ht => (by cases ht), fun n hn => (by cases hn)⟩
    | cons n l =>
      have hn := hl n List.mem_cons_self
      rw [toldD]
      by_cases hk : n.kind = 2
      · rw [if_pos hk]
        exact ⟨fun t ht => by obtain rfl := List.mem_singleton.1 ht; exact small_text hn, fun m hm => List.mem_cons_of_mem _ hm⟩
      · rw [if_neg hk]
        by_cases hm : n.many = 0
        · rw [if_pos hm]
          exact ⟨fun t ht => by obtain rfl := List.mem_singleton.1 ht; exact small_tag 3 hn, fun m hm => List.mem_cons_of_mem _ hm⟩
        · rw [if_neg hm]
          obtain ⟨h1, h2⟩ := toldK_small ih n.many.toNat l fun m hm => hl m (List.mem_cons_of_mem _ hm)
          refine ⟨fun t ht => ?_, fun m hm => List.mem_cons_of_mem _ (h2 m hm)⟩
          rcases List.mem_cons.1 ht with rfl | ht
          · exact small_tag 1 hn
          · rcases List.mem_append.1 ht with ht | ht
            · exact h1 t ht
            · obtain rfl := List.mem_singleton.1 ht
              exact small_end hn
theorem tokensR_sm {v : List Nd} {ts : List Tk} (h : tokensR v = (ts, 0)) (hv : ∀ n ∈ v, SmallN n) : ts.length ≤ 512 ∧ ∀ t ∈ ts, Small t := by
  unfold tokensR at h
  split at h
  · split at h
    · have := congrArg Prod.snd h
      cases this
    · obtain ⟨rfl, _⟩ := (Prod.mk.injEq _ _ _ _).mp h
      exact ⟨by omega, (toldD_small 12 v hv).1⟩
  · have := congrArg Prod.snd h
    cases this
theorem nodeT_small {t : Tk} (h : Small t) : SmallN (nodeT t) := by
  obtain ⟨h1, h2, h3, h4⟩ := h
  unfold nodeT
  split
  · exact ⟨Nat.zero_le _, Nat.zero_le _, h2, Nat.zero_le _, fun a ha => (by cases ha)⟩
  · refine ⟨Nat.zero_le _, h1, Nat.zero_le _, by show (givenN t.attrs).length ≤ _; unfold givenN; rw [List.length_map]; exact h3, fun a ha => ?_⟩
    have ha : a ∈ givenN t.attrs := ha
    unfold givenN at ha
    obtain ⟨p, hp, rfl⟩ := List.mem_map.1 ha
    exact ⟨Nat.zero_le _, (h4 p hp).1, (h4 p hp).2⟩
theorem bump_small {O : List Nat} {V : List Nd} (h : ∀ n ∈ V, SmallN n) : ∀ n ∈ bump O V, SmallN n := by
  intro n hn
  unfold bump at hn
  split at hn
  · exact h n hn
  · obtain ⟨j, hj, e⟩ := List.getElem_of_mem hn
    rw [List.getElem_modify] at e
    rw [List.length_modify] at hj
    have h9 := h _ (List.getElem_mem hj)
    split at e
    · rw [← e]; exact ⟨h9.space, h9.name, h9.text, h9.attrs, h9.each⟩
    · rw [← e]; exact h9
theorem stepP_small {s s' : PS} {b : Bool} {t : Tk} (h : ∀ n ∈ s.V, SmallN n) (ht : Small t) (hs : stepP s b t = .ok s') : ∀ n ∈ s'.V, SmallN n := by
  have hnew : ∀ n ∈ bump s.O s.V ++ [nodeT t], SmallN n := fun n hn => by
    rcases List.mem_append.1 hn with hn | hn
    · exact bump_small h n hn
    · obtain rfl := List.mem_singleton.1 hn
      exact nodeT_small ht
  unfold stepP at hs
  split at hs
  · split at hs
    · cases hs
    · split at hs
      · split at hs
        · injection hs with hs; subst hs; exact h
        · cases hs
      · injection hs with hs
        subst hs
        exact hnew
  · split at hs
    · split at hs
      · cases hs
      · split at hs
        · injection hs with hs
          subst hs
          exact h
        · cases hs
    · split at hs
      · cases hs
      · split at hs
        · cases hs
        · injection hs with hs
          subst hs
          exact hnew
theorem runP_small : ∀ (l : List Tk) (s s' : PS) (b : Bool), (∀ n ∈ s.V, SmallN n) → (∀ t ∈ l, Small t) → runP s b l = .ok s' → ∀ n ∈ s'.V, SmallN n
  | [], s, s', b, h, _, hr => by
    rw [runP] at hr
    injection hr with hr
    subst hr
    exact h
  | t :: l, s, s', b, h, hl, hr => by
    rw [runP] at hr
    cases hx : stepP s b t with
    | error e => rw [hx] at hr; cases hr
    | ok s2 =>
      rw [hx] at hr
      exact runP_small l s2 s' _ (stepP_small h (hl t List.mem_cons_self) hx) (fun t ht => hl t (List.mem_cons_of_mem _ ht)) hr
theorem parseR_small {l : List Tk} {v : List Nd} (h : parseR l = (v, 0)) (hl : ∀ t ∈ l, Small t) : ∀ n ∈ v, SmallN n := by
  unfold parseR at h
  split at h
  · have := congrArg Prod.snd h
    cases this
  · split at h
    · cases hx : runP ⟨[], []⟩ false l with
      | error e =>
        rw [hx] at h
        have h1 : ([], e) = (v, (0 : Int)) := h
        rw [((Prod.mk.injEq _ _ _ _).mp h1).1.symm]
        exact fun n hn => (by cases hn)
      | ok s =>
        rw [hx] at h
        unfold endP at h
        dsimp only at h
        split at h
        · have := congrArg Prod.snd h
          cases this
        · rw [← ((Prod.mk.injEq _ _ _ _).mp h).1]
          exact runP_small l _ s false (fun n hn => (by cases hn)) hl hx
    · have := congrArg Prod.snd h
      cases this
/-- What is read of a text. -/
theorem rdTree_ok {s : List UInt8} {u : List Nd} (h : rdTree s = (u, 0)) (hs : s.length ≤ 2000) : ∃ m, tokensR u = (m, 0) ∧ parseR m = (u, 0) ∧ mayV u = true ∧ u.length ≤ 512 ∧ (∀ n ∈ u, SmallN n) ∧ m.length ≤ 512 ∧ ∀ t ∈ m, Small t := by
  obtain ⟨ts, k, er, hl⟩ : ∃ ts k er, lexR s = (ts, k, er) := ⟨_, _, _, rfl⟩
  unfold rdTree at h
  rw [hl] at h
  dsimp only at h
  by_cases h0 : er = 0
  · subst h0
    rw [if_pos rfl] at h
    obtain ⟨ha, _, hl5, _, _⟩ := lexR_all hl hs
    obtain ⟨m, h1, h2⟩ := tokens_parse h
    obtain ⟨k1, _, k3, _, _, k6⟩ := parse_may h
    have hsm := parseR_small h fun t ht => (ha t ht).2
    obtain ⟨j1, j2⟩ := tokensR_sm h1 hsm
    exact ⟨m, h1, h2, k1, by omega, hsm, j1, j2⟩
  · rw [if_neg h0] at h
    exact absurd ((Prod.mk.injEq _ _ _ _).mp h).2 h0
theorem rdTree_err {s : List UInt8} {u : List Nd} {f : Int} (h : rdTree s = (u, f)) (hf : f ≠ 0) : u = [] := by
  unfold rdTree at h
  split at h
  · exact (parse_bad h hf).1
  · exact ((Prod.mk.injEq _ _ _ _).mp h).1.symm
set_option maxHeartbeats 8000000 in
set_option maxRecDepth 100000 in
theorem back_big (A : Option Addr) (n c : Nat) (v : List Nd) (s : ByteArray) (w : World) (hr : RdB NdS w A v) (hn : v.length = n) (hmax : n ≤ 9223372036854775807) (hz : s.size ≤ 9223372036854775807) (hs : 2000 < s.size) (hE : Ev9 w := by first | assumption | exact Ev9.to (by assumption) (by assumption)) :
    Calls Tryz.prog 4 #[.slice A n c, .string s] w fun e w' => e = .returned (.bool true) ∧ Below w.heap.size w w' := by
  have HR := Lib.hid hr
  have HN := Lib.hid hn
  have HG : Hid (∀ W, Below w.heap.size w W → Calls Tryz.prog 21 #[.slice A n c, .int .i64 100, .int .i64 2000] W (GreatTo v 100 2000 W)) := Lib.hid fun W hW => rgreat10 A n c v 100 2000 W (hr.on hW) hn (by decide) (by decide) hmax
  have f1 : decide ((2000 : Int) < (s.size : Int)) = true := decide_eq_true (by omega)
  clear hr hn hmax hz hs
  go_enter Tryz.func4, Tryz.ntmps4
  go_wp2_with (first
    | (go_at_call 19; (with_reducible refine (alive10 w hE).mono ?_); rintro e1 w1 ⟨rfl, hb1⟩; have HB1 := Lib.hid hb1; clear hb1)
    | (go_at_call 21; (with_reducible refine (HG.out _ HB1.out).mono ?_); rintro e2 w2 ⟨qa, rfl, hb2, hqa⟩; have HB2 := Lib.hid (stp HB1.out hb2); have HQA := Lib.hid hqa; clear hb2 hqa)
    | fail)
  all_goals
    go_ret
    exact ⟨rfl, HB2.out⟩
set_option maxHeartbeats 8000000 in
set_option maxRecDepth 100000 in
theorem back_in (A : Option Addr) (n c : Nat) (v : List Nd) (s : ByteArray) (w : World) (hr : RdB NdS w A v) (hn : v.length = n) (hmax : n ≤ 9223372036854775807) (hz : s.size ≤ 9223372036854775807) (hs : s.size ≤ 2000) (hE : Ev9 w := by first | assumption | exact Ev9.to (by assumption) (by assumption)) :
    Calls Tryz.prog 4 #[.slice A n c, .string s] w fun e w' => e = .returned (.bool true) ∧ Below w.heap.size w w' := by
  have HR := Lib.hid hr
  have HN := Lib.hid hn
  have HG : Hid (∀ W, Below w.heap.size w W → Calls Tryz.prog 21 #[.slice A n c, .int .i64 100, .int .i64 2000] W (GreatTo v 100 2000 W)) := Lib.hid fun W hW => rgreat10 A n c v 100 2000 W (hr.on hW) hn (by decide) (by decide) hmax
  have f1 : decide ((2000 : Int) < (s.size : Int)) = false := decide_eq_false (by omega)
  obtain ⟨u, f, hu⟩ : ∃ u f, rdTree s.data.toList = (u, f) := ⟨_, _, rfl⟩
  obtain ⟨un, hun⟩ : ∃ un, u.length = un := ⟨_, rfl⟩
  clear hr hn hmax hz
  go_enter Tryz.func4, Tryz.ntmps4
  go_upto_region 4 with (first
    | (go_at_call 19; (with_reducible refine (alive10 w hE).mono ?_); rintro e1 w1 ⟨rfl, hb1⟩; have HB1 := Lib.hid hb1; clear hb1)
    | (go_at_call 21; (with_reducible refine (HG.out _ HB1.out).mono ?_); rintro e2 w2 ⟨qa, rfl, hb2, hqa⟩; have HB2 := Lib.hid (stp HB1.out hb2); have HQA := Lib.hid hqa; clear hb2 hqa)
    | fail)
  · go_ret
    exact ⟨rfl, HB2.out⟩
  · obtain rfl : qa = false := by
      cases qa
      · rfl
      · first | exact absurd rfl (by assumption) | assumption | simp_all
    have hsm : ∀ m ∈ v, SmallN m := fun m hm => ((HQA.out rfl).2 m hm).small (by decide)
    have hle : n ≤ 100 := by have := (HQA.out rfl).1; have := HN.out; omega
    obtain ⟨ts, q, hts⟩ : ∃ ts q, tokensR v = (ts, q) := ⟨_, _, rfl⟩
    obtain ⟨tn, htn⟩ : ∃ tn, ts.length = tn := ⟨_, rfl⟩
    have HT1 := Lib.hid ((tokens10 A n c v w2 (HR.out.on HB2.out) HN.out (by omega) fun _ => hsm).mono fun e w' h => h.with2 hts htn)
    have HX : Hid (∀ W, Below w.heap.size w W → Calls Tryz.prog 13 #[.string s] W fun e w' => ∃ A c, e = .returned (.tuple #[.slice A un c, .int .i64 f]) ∧ RdB NdS w' A u ∧ un ≤ c ∧ c ≤ maxLen ∧ (A = none → c = 0) ∧ Below W.heap.size W w') := Lib.hid fun W hW => lparse10 s W hs u f un hu hun (hE.to hW)
    rcases (by omega : q = 0 ∨ q ≠ 0) with hq0 | hq0 <;> rcases (by omega : f = 0 ∨ f ≠ 0) with hf0 | hf0
    · subst hq0
      obtain ⟨hp1, hm1, _⟩ := parse_tokens hts
      obtain ⟨hl1, hs1⟩ := tokensR_sm hts hsm
      have HP1 : Hid (∀ A c W, RdC TkC W W.heap.size A ts → Calls Tryz.prog 23 #[.slice A tn c] W fun e w' => ∃ A c, e = .returned (.tuple #[.slice A n c, .int .i64 0]) ∧ RdB NdS w' A v ∧ n ≤ c ∧ c ≤ maxLen ∧ (A = none → c = 0) ∧ Below W.heap.size W w') := Lib.hid fun A c W hW => (parse10 A tn c ts W hW htn (by omega) hs1).mono fun e w' h => h.with hp1 HN.out
      have HS1 : Hid (∀ B d W, RdB NdS W B v → RdB NdS W A v → Calls Tryz.prog 24 #[.slice B n d, .slice A n c] W fun e w' => e = .returned (.bool true) ∧ Below W.heap.size W w') := Lib.hid fun B d W h1 h2 => same10 B A n d n c v v W h1 HN.out h2 HN.out (by omega) (by omega) (fun t ht => (hsm t ht).attrs) (fun t ht => (hsm t ht).attrs) true (decide_eq_true rfl)
      have HC1 : Hid (∀ W, Below w.heap.size w W → Calls Tryz.prog 20 #[.slice A n c] W fun e w' => e = .returned (.int .i64 0) ∧ Below W.heap.size W w') := Lib.hid fun W hW => checkv A n c v W (HR.out.on hW) HN.out (by omega) (fun _ => hsm) 0 (checkV_yes hm1)
      subst hf0
      obtain ⟨m2, h21, h22, hm2, hul, hus, hml, hms⟩ := rdTree_ok hu (by rw [ba_len5]; exact hs)
      obtain ⟨mn, hmn⟩ : ∃ mn, m2.length = mn := ⟨_, rfl⟩
      have HT2 : Hid (∀ A c W, RdB NdS W A u → Calls Tryz.prog 22 #[.slice A un c] W fun e w' => ∃ A c, e = .returned (.tuple #[.slice A mn c, .int .i64 0]) ∧ RdC TkC w' w'.heap.size A m2 ∧ Below W.heap.size W w') := Lib.hid fun A c W hW => (tokens10 A un c u W hW hun (by omega) fun _ => hus).mono fun e w' h => h.with2 h21 hmn
      have HP2 : Hid (∀ A c W, RdC TkC W W.heap.size A m2 → Calls Tryz.prog 23 #[.slice A mn c] W fun e w' => ∃ A c, e = .returned (.tuple #[.slice A un c, .int .i64 0]) ∧ RdB NdS w' A u ∧ un ≤ c ∧ c ≤ maxLen ∧ (A = none → c = 0) ∧ Below W.heap.size W w') := Lib.hid fun A c W hW => (parse10 A mn c m2 W hW hmn (by omega) hms).mono fun e w' h => h.with h22 hun
      have HS2 : Hid (∀ B d A c W, RdB NdS W B u → RdB NdS W A u → Calls Tryz.prog 24 #[.slice B un d, .slice A un c] W fun e w' => e = .returned (.bool true) ∧ Below W.heap.size W w') := Lib.hid fun B d A c W h1 h2 => same10 B A un d un c u u W h1 hun h2 hun (by omega) (by omega) (fun t ht => (hus t ht).attrs) (fun t ht => (hus t ht).attrs) true (decide_eq_true rfl)
      have HC2 : Hid (∀ A c W, RdB NdS W A u → Calls Tryz.prog 20 #[.slice A un c] W fun e w' => e = .returned (.int .i64 0) ∧ Below W.heap.size W w') := Lib.hid fun A c W hW => checkv A un c u W hW hun (by omega) (fun _ => hus) 0 (checkV_yes hm2)
      clear h21 h22 hm2 hul hus hml hms hmn
      clear hts htn hsm hu hp1 hm1 hl1 hs1 hun
      go_wp2_with (first
        | (go_at_call 22; (with_reducible refine (HT1.out).mono ?_); rintro e3 w3 ⟨A3, c3, rfl, hr3, hb3⟩; have HR3 := Lib.hid hr3; have HB3 := Lib.hid (stp HB2.out hb3); clear hr3 hb3)
        | (go_at_call 23; (with_reducible refine (HP1.out _ _ _ HR3.out).mono ?_); rintro e4 w4 ⟨A4, c4, rfl, hr4, -, -, -, hb4⟩; have HR4 := Lib.hid hr4; have HB4 := Lib.hid (stp HB3.out hb4); clear hr4 hb4)
        | (go_at_call 24; (with_reducible refine (HS1.out _ _ _ HR4.out (HR.out.on HB4.out)).mono ?_); rintro e5 w5 ⟨rfl, hb5⟩; have HB5 := Lib.hid (stp HB4.out hb5); clear hb5)
        | (go_at_call 20; (with_reducible refine (HC1.out _ HB5.out).mono ?_); rintro e6 w6 ⟨rfl, hb6⟩; have HBX := Lib.hid (stp HB5.out hb6); clear hb6)
        | (go_at_call 13; (with_reducible refine (HX.out w6 HBX.out).mono ?_); rintro e7 w7 ⟨A7, c7, rfl, hr7, -, -, -, hb7⟩; have HR7 := Lib.hid hr7; have HB7 := Lib.hid (stp HBX.out hb7); clear hr7 hb7)
        | (go_at_call 22; (with_reducible refine (HT2.out _ _ _ HR7.out).mono ?_); rintro e8 w8 ⟨A8, c8, rfl, hr8, hb8⟩; have HR8 := Lib.hid hr8; have HB78 := Lib.hid hb8; have HB8 := Lib.hid (stp HB7.out hb8); clear hr8 hb8)
        | (go_at_call 23; (with_reducible refine (HP2.out _ _ _ HR8.out).mono ?_); rintro e9 w9 ⟨A9, c9, rfl, hr9, -, -, -, hb9⟩; have HR9 := Lib.hid hr9; have HB79 := Lib.hid (stp HB78.out hb9); have HB9 := Lib.hid (stp HB8.out hb9); clear hr9 hb9)
        | (go_at_call 24; (with_reducible refine (HS2.out _ _ _ _ _ HR9.out (HR7.out.on HB79.out)).mono ?_); rintro e10 w10 ⟨rfl, hb10⟩; have HB710 := Lib.hid (stp HB79.out hb10); have HB10 := Lib.hid (stp HB9.out hb10); clear hb10)
        | (go_at_call 20; (with_reducible refine (HC2.out _ _ _ (HR7.out.on HB710.out)).mono ?_); rintro e11 w11 ⟨rfl, hb11⟩; have HB11 := Lib.hid (stp HB10.out hb11); clear hb11)
        | fail)
      go_ret
      exact ⟨rfl, HB11.out⟩
    · subst hq0
      obtain ⟨hp1, hm1, _⟩ := parse_tokens hts
      obtain ⟨hl1, hs1⟩ := tokensR_sm hts hsm
      have HP1 : Hid (∀ A c W, RdC TkC W W.heap.size A ts → Calls Tryz.prog 23 #[.slice A tn c] W fun e w' => ∃ A c, e = .returned (.tuple #[.slice A n c, .int .i64 0]) ∧ RdB NdS w' A v ∧ n ≤ c ∧ c ≤ maxLen ∧ (A = none → c = 0) ∧ Below W.heap.size W w') := Lib.hid fun A c W hW => (parse10 A tn c ts W hW htn (by omega) hs1).mono fun e w' h => h.with hp1 HN.out
      have HS1 : Hid (∀ B d W, RdB NdS W B v → RdB NdS W A v → Calls Tryz.prog 24 #[.slice B n d, .slice A n c] W fun e w' => e = .returned (.bool true) ∧ Below W.heap.size W w') := Lib.hid fun B d W h1 h2 => same10 B A n d n c v v W h1 HN.out h2 HN.out (by omega) (by omega) (fun t ht => (hsm t ht).attrs) (fun t ht => (hsm t ht).attrs) true (decide_eq_true rfl)
      have HC1 : Hid (∀ W, Below w.heap.size w W → Calls Tryz.prog 20 #[.slice A n c] W fun e w' => e = .returned (.int .i64 0) ∧ Below W.heap.size W w') := Lib.hid fun W hW => checkv A n c v W (HR.out.on hW) HN.out (by omega) (fun _ => hsm) 0 (checkV_yes hm1)
      have hu0 := rdTree_err hu hf0
      subst hu0
      obtain rfl : 0 = un := hun
      have ff : (f == 0) = false := by simp; omega
      clear hts htn hsm hu hp1 hm1 hl1 hs1 hf0
      go_wp2_with (first
        | (go_at_call 22; (with_reducible refine (HT1.out).mono ?_); rintro e3 w3 ⟨A3, c3, rfl, hr3, hb3⟩; have HR3 := Lib.hid hr3; have HB3 := Lib.hid (stp HB2.out hb3); clear hr3 hb3)
        | (go_at_call 23; (with_reducible refine (HP1.out _ _ _ HR3.out).mono ?_); rintro e4 w4 ⟨A4, c4, rfl, hr4, -, -, -, hb4⟩; have HR4 := Lib.hid hr4; have HB4 := Lib.hid (stp HB3.out hb4); clear hr4 hb4)
        | (go_at_call 24; (with_reducible refine (HS1.out _ _ _ HR4.out (HR.out.on HB4.out)).mono ?_); rintro e5 w5 ⟨rfl, hb5⟩; have HB5 := Lib.hid (stp HB4.out hb5); clear hb5)
        | (go_at_call 20; (with_reducible refine (HC1.out _ HB5.out).mono ?_); rintro e6 w6 ⟨rfl, hb6⟩; have HBX := Lib.hid (stp HB5.out hb6); clear hb6)
        | (go_at_call 13; (with_reducible refine (HX.out w6 HBX.out).mono ?_); rintro e7 w7 ⟨A7, c7, rfl, hr7, -, -, -, hb7⟩; have HR7 := Lib.hid hr7; have HB7 := Lib.hid (stp HBX.out hb7); clear hr7 hb7)
        | fail)
      go_ret
      exact ⟨rfl, HB7.out⟩
    ·
      have fq : (q == 0) = false := by simp; omega
      subst hf0
      obtain ⟨m2, h21, h22, hm2, hul, hus, hml, hms⟩ := rdTree_ok hu (by rw [ba_len5]; exact hs)
      obtain ⟨mn, hmn⟩ : ∃ mn, m2.length = mn := ⟨_, rfl⟩
      have HT2 : Hid (∀ A c W, RdB NdS W A u → Calls Tryz.prog 22 #[.slice A un c] W fun e w' => ∃ A c, e = .returned (.tuple #[.slice A mn c, .int .i64 0]) ∧ RdC TkC w' w'.heap.size A m2 ∧ Below W.heap.size W w') := Lib.hid fun A c W hW => (tokens10 A un c u W hW hun (by omega) fun _ => hus).mono fun e w' h => h.with2 h21 hmn
      have HP2 : Hid (∀ A c W, RdC TkC W W.heap.size A m2 → Calls Tryz.prog 23 #[.slice A mn c] W fun e w' => ∃ A c, e = .returned (.tuple #[.slice A un c, .int .i64 0]) ∧ RdB NdS w' A u ∧ un ≤ c ∧ c ≤ maxLen ∧ (A = none → c = 0) ∧ Below W.heap.size W w') := Lib.hid fun A c W hW => (parse10 A mn c m2 W hW hmn (by omega) hms).mono fun e w' h => h.with h22 hun
      have HS2 : Hid (∀ B d A c W, RdB NdS W B u → RdB NdS W A u → Calls Tryz.prog 24 #[.slice B un d, .slice A un c] W fun e w' => e = .returned (.bool true) ∧ Below W.heap.size W w') := Lib.hid fun B d A c W h1 h2 => same10 B A un d un c u u W h1 hun h2 hun (by omega) (by omega) (fun t ht => (hus t ht).attrs) (fun t ht => (hus t ht).attrs) true (decide_eq_true rfl)
      have HC2 : Hid (∀ A c W, RdB NdS W A u → Calls Tryz.prog 20 #[.slice A un c] W fun e w' => e = .returned (.int .i64 0) ∧ Below W.heap.size W w') := Lib.hid fun A c W hW => checkv A un c u W hW hun (by omega) (fun _ => hus) 0 (checkV_yes hm2)
      clear h21 h22 hm2 hul hus hml hms hmn
      clear hts htn hsm hu hq0 hun
      go_wp2_with (first
        | (go_at_call 22; (with_reducible refine (HT1.out).mono ?_); rintro e3 w3 ⟨A3, c3, rfl, hr3, hb3⟩; have HR3 := Lib.hid hr3; have HB3 := Lib.hid (stp HB2.out hb3); clear hr3 hb3)
        | (go_at_call 13; (with_reducible refine (HX.out w3 HB3.out).mono ?_); rintro e7 w7 ⟨A7, c7, rfl, hr7, -, -, -, hb7⟩; have HR7 := Lib.hid hr7; have HB7 := Lib.hid (stp HB3.out hb7); clear hr7 hb7)
        | (go_at_call 22; (with_reducible refine (HT2.out _ _ _ HR7.out).mono ?_); rintro e8 w8 ⟨A8, c8, rfl, hr8, hb8⟩; have HR8 := Lib.hid hr8; have HB78 := Lib.hid hb8; have HB8 := Lib.hid (stp HB7.out hb8); clear hr8 hb8)
        | (go_at_call 23; (with_reducible refine (HP2.out _ _ _ HR8.out).mono ?_); rintro e9 w9 ⟨A9, c9, rfl, hr9, -, -, -, hb9⟩; have HR9 := Lib.hid hr9; have HB79 := Lib.hid (stp HB78.out hb9); have HB9 := Lib.hid (stp HB8.out hb9); clear hr9 hb9)
        | (go_at_call 24; (with_reducible refine (HS2.out _ _ _ _ _ HR9.out (HR7.out.on HB79.out)).mono ?_); rintro e10 w10 ⟨rfl, hb10⟩; have HB710 := Lib.hid (stp HB79.out hb10); have HB10 := Lib.hid (stp HB9.out hb10); clear hb10)
        | (go_at_call 20; (with_reducible refine (HC2.out _ _ _ (HR7.out.on HB710.out)).mono ?_); rintro e11 w11 ⟨rfl, hb11⟩; have HB11 := Lib.hid (stp HB10.out hb11); clear hb11)
        | fail)
      go_ret
      exact ⟨rfl, HB11.out⟩
    ·
      have fq : (q == 0) = false := by simp; omega
      have hu0 := rdTree_err hu hf0
      subst hu0
      obtain rfl : 0 = un := hun
      have ff : (f == 0) = false := by simp; omega
      clear hts htn hsm hu hq0 hf0
      go_wp2_with (first
        | (go_at_call 22; (with_reducible refine (HT1.out).mono ?_); rintro e3 w3 ⟨A3, c3, rfl, hr3, hb3⟩; have HR3 := Lib.hid hr3; have HB3 := Lib.hid (stp HB2.out hb3); clear hr3 hb3)
        | (go_at_call 13; (with_reducible refine (HX.out w3 HB3.out).mono ?_); rintro e7 w7 ⟨A7, c7, rfl, hr7, -, -, -, hb7⟩; have HR7 := Lib.hid hr7; have HB7 := Lib.hid (stp HB3.out hb7); clear hr7 hb7)
        | fail)
      go_ret
      exact ⟨rfl, HB7.out⟩
end Hx
end Go.Proofs.YtbjgfaflikgobaaGreatDoor
namespace Go.Proofs.YtbjgfaflikgobaaGreatDoor
open Go.RowKit
namespace Hx
open Lx Tr Tx Nmb Es
set_option linter.unusedVariables false
/-- What is right within, part by part. -/
def piecesK (g : List Nd → Option (List Nd)) : Nat → List Nd → List (List Nd)
  | 0, _ => []
  | k + 1, l => match g l with
    | none => []
    | some r => l.take (l.length - r.length) :: piecesK g k r
theorem pieces_all {g : List Nd → Option (List Nd)} (hg : Tr.Loc g) : ∀ (k : Nat) (b b' : Bool) (l r : List Nd), kidsD g k b l = some (b', r) → (piecesK g k l).length = k ∧ (piecesK g k l).flatten ++ r = l ∧ (∀ q ∈ piecesK g k l, q ≠ [] ∧ ∀ x, g (q ++ x) = some x) ∧
    (∀ p j, j < k → (places g k p l)[j]? = some (p + ((piecesK g k l).take j).flatten.length)) ∧ ∀ p, (places g k p l).length = k := by
  intro k
  induction k with
  | zero =>
    intro b b' l r h
    rw [kidsD] at h
    obtain ⟨rfl, rfl⟩ := (Prod.mk.injEq _ _ _ _).mp (Option.some.inj h)
    exact ⟨rfl, rfl, (fun q hq => by cases hq), (fun p j hj => by omega), fun p => rfl⟩
  | succ k ih =>
    intro b b' l r h
    cases l with
    | nil => rw [kidsD] at h; cases h
    | cons n l =>
      rw [kidsD] at h
      by_cases hb : b = true ∧ n.kind = 2
      · rw [if_pos hb] at h; cases h
      · rw [if_neg hb] at h
        cases hn : g (n :: l) with
        | none => rw [hn] at h; cases h
        | some y =>
          rw [hn] at h
          obtain ⟨q, hq0, e1, hq1⟩ := hg _ _ hn
          obtain ⟨k1, k2, k3, k4, k5⟩ := ih _ _ _ _ h
          have hy : (n :: l).length = q.length + y.length := by rw [e1, List.length_append]
          have hq : (n :: l).take ((n :: l).length - y.length) = q := by rw [hy, Nat.add_sub_cancel, e1, List.take_left]
          have hpc : piecesK g (k + 1) (n :: l) = q :: piecesK g k y := by rw [piecesK, hn]; show _ :: _ = _; rw [hq]
          rw [hpc]
          refine ⟨by rw [List.length_cons, k1], by rw [List.flatten_cons, List.append_assoc, k2, e1], fun q' hq' => ?_, fun p j hj => ?_, fun p => ?_⟩
          · rcases List.mem_cons.1 hq' with rfl | hq'
            · exact ⟨hq0, hq1⟩
            · exact k3 q' hq'
          · rw [places, hn]
            cases j with
            | zero => rfl
            | succ j =>
              show (places g k (p + ((n :: l).length - y.length)) y)[j]? = _
              rw [k4 _ j (by omega), List.take_succ_cons, List.flatten_cons, List.length_append]
              congr 1
              omega
          · rw [places, hn]
            show (p :: _).length = _
            rw [List.length_cons, k5]
/-- The parts of an element. -/
def pieces (v : List Nd) : List (List Nd) := match v with
  | [] => []
  | n :: l => piecesK (restD 12) n.many.toNat l
structure Pcs (v : List Nd) (ps : List (List Nd)) : Prop where
  head : ∃ n l, v = n :: l ∧ ndOk n = true ∧ n.kind = 1 ∧ n.many = (ps.length : Int) ∧ ps.flatten = l
  each : ∀ q ∈ ps, q ≠ [] ∧ ∀ x, restD 12 (q ++ x) = some x
  len : (under v 0).length = ps.length
  plc : ∀ j, j < ps.length → (under v 0)[j]? = some (1 + (ps.take j).flatten.length)
theorem pieces_of {v : List Nd} (h : mayV v = true) : Pcs v (pieces v) := by
  obtain ⟨h1, ⟨n, l, rfl, hk⟩, h3⟩ := mayV_iff.1 h
  obtain ⟨g1, g2, b, g3⟩ := restD_ok h3
  have g4 := kidsD_le (e := 12) (by omega) g3
  obtain ⟨k1, k2, k3, k4, k5⟩ := pieces_all (restD_loc 12) _ _ _ _ _ g4
  have hu : under (n :: l) 0 = places (restD 12) n.many.toNat 1 l := rfl
  refine ⟨⟨n, l, rfl, g1, hk, ?_, by rw [List.append_nil] at k2; exact k2⟩, k3, ?_, fun j hj => ?_⟩
  · show n.many = ((piecesK (restD 12) n.many.toNat l).length : Int)
    rw [k1]
    omega
  · rw [hu, k5]; exact k1.symm
  · rw [hu]
    exact k4 1 j (by rw [← k1]; exact hj)
theorem pflat_split {ps : List (List Nd)} {j : Nat} (hj : j < ps.length) : ps.flatten = (ps.take j).flatten ++ (ps[j]'hj ++ (ps.drop (j + 1)).flatten) := by
  have h := List.take_append_drop j ps
  rw [List.drop_eq_getElem_cons hj] at h
  have h2 := congrArg List.flatten h
  rw [List.flatten_append, List.flatten_cons] at h2
  exact h2.symm
theorem pflat_next {ps : List (List Nd)} {j : Nat} (hj : j < ps.length) : (ps.take (j + 1)).flatten.length = (ps.take j).flatten.length + (ps[j]'hj).length := by
  rw [List.take_succ_eq_append_getElem hj, List.flatten_append, List.length_append, List.flatten_singleton]
/-- The part at a place. -/
theorem Pcs.at {v : List Nd} {ps : List (List Nd)} (h : Pcs v ps) {j p : Nat} (hj : j < ps.length) (hp : p = 1 + (ps.take j).flatten.length) :
    ∃ (hp2 : p < v.length), v.drop p = ps[j]'hj ++ (ps.drop (j + 1)).flatten ∧ partV v p = ps[j]'hj ∧ ((v[p]'hp2).kind = 2 → ps[j]'hj = [v[p]'hp2]) ∧ ((v[p]'hp2).kind = 1 ∨ (v[p]'hp2).kind = 2) ∧ p + (ps[j]'hj).length ≤ v.length := by
  obtain ⟨n, l, rfl, _, _, _, hfl⟩ := h.head
  obtain ⟨h0, hq⟩ := h.each _ (List.getElem_mem hj)
  have hs := pflat_split hj
  rw [hfl] at hs
  have hd : (n :: l).drop p = ps[j]'hj ++ (ps.drop (j + 1)).flatten := by
    rw [hp, Nat.add_comm, List.drop_succ_cons, hs, List.drop_left]
  have hl := congrArg List.length hd
  rw [List.length_drop, List.length_append] at hl
  have hpos := List.length_pos_iff.2 h0
  have hp2 : p < (n :: l).length := by omega
  have hr := hq (ps.drop (j + 1)).flatten
  rw [← hd] at hr
  have hpart : partV (n :: l) p = ps[j]'hj := by
    obtain ⟨e, _⟩ := partV_eq hr
    rw [e, hd, List.length_append, Nat.add_sub_cancel, List.take_left]
  have hr2 := hr
  rw [List.drop_eq_getElem_cons hp2] at hr2
  obtain ⟨g1, _, _⟩ := restD_ok hr2
  refine ⟨hp2, hd, hpart, fun hk => ?_, ndOk_kind g1, by omega⟩
  rw [restD_text g1 hk] at hr2
  have h9 := Option.some.inj hr2
  rw [List.drop_eq_getElem_cons hp2, h9] at hd
  rw [← List.singleton_append] at hd
  exact (List.append_cancel_right hd).symm
theorem Pcs.put {v : List Nd} {ps : List (List Nd)} (hv : mayV v = true) (h : Pcs v ps) {n : Nd} (hn : v[0]? = some n) : putN n ps = (v, 0) := by
  have hat := @Pcs.at v ps h
  obtain ⟨n', l, rfl, h1, h2, h3, h4⟩ := h.head
  obtain rfl : n' = n := Option.some.inj hn
  obtain ⟨k1, _, k3⟩ := mayV_iff.1 hv
  have hw : withM n' (ps.length : Int) = n' := by
    unfold withM
    cases n'
    cases h3
    rfl
  have hw0 : mayV [withM n' 0] = true := by
    refine mayV_iff.2 ⟨by simp, ⟨withM n' 0, [], rfl, h2⟩, ?_⟩
    have : ndOk (withM n' 0) = true := by unfold ndOk at h1 ⊢; rw [if_pos h2] at h1; rw [if_pos (show (withM n' 0).kind = 1 from h2)]; exact h1
    rw [restD, if_pos ⟨this, (show (0 : Int) ≤ 0 by decide)⟩]
    rfl
  have hall : ps.all partOk = true := List.all_eq_true.2 fun q hq => by
    obtain ⟨j, hj, rfl⟩ := List.getElem_of_mem hq
    obtain ⟨hp2, hd, hpart, ht, hk, _⟩ := hat hj rfl
    rcases hk with hk | hk
    · unfold partOk
      rw [← hpart, partV_may hv hp2 hk, Bool.or_true]
    · have ht := ht hk
      obtain ⟨r, hr⟩ := mayV_at hv hp2
      rw [List.drop_eq_getElem_cons hp2] at hr
      rw [ht]
      unfold partOk
      have h9 := (restD_ok hr).1
      show (decide (_ = 2) && ndOk _ || _) = true
      rw [decide_eq_true hk, h9]
      rfl
  unfold putN
  rw [if_pos hw0, if_pos hall, if_neg (by rw [h4]; rw [List.length_cons] at k1; omega), hw, h4, if_pos hv]
theorem SubTo.with {v : List Nd} {i : Int} {w w' : World} {e : Ending} {out : List Nd} {q : Int} {p : Nat} (h : SubTo v i w e w') (hp : subR v i = (out, q)) (hl : out.length = p) : ∃ A c, e = .returned (.tuple #[.slice A p c, .int .i64 q]) ∧ NdOut w.heap.size w out A c w' ∧ Below w.heap.size w w' := by
  obtain ⟨o, r, A, c, h1, h2, h3, h4⟩ := h
  rw [hp] at h1
  obtain ⟨rfl, rfl⟩ := (Prod.mk.injEq _ _ _ _).mp h1
  exact ⟨A, c, by rw [← hl]; exact h2, h3, h4⟩
end Hx
end Go.Proofs.YtbjgfaflikgobaaGreatDoor
namespace Go.Proofs.YtbjgfaflikgobaaGreatDoor
open Go.RowKit
namespace Hx
open Lx Tr Tx Nmb Es
set_option linter.unusedVariables false
/-- Nodes of one's own that may be written over. -/
def Sp (w0 : World) (A : Option Addr) (v : List Nd) (w : World) : Prop := Below w0.heap.size w0 w ∧
  (0 < v.length → ∃ b off, A = some ⟨b, off, none⟩ ∧ w0.heap.size ≤ b ∧ (∀ o, w.frozen? ⟨b, o, none⟩ = false) ∧ ∀ i (h : i < v.length), ∃ A1 c1, w.cell? ⟨b, off + i * 6 + 3, none⟩ = some (.slice A1 (v[i]'h).attrs.length c1) ∧ (∃ m, w.cell? ⟨b, off + i * 6 + 5, none⟩ = some (.int .i64 m)) ∧
    (0 < (v[i]'h).attrs.length → ∃ b1 of1, A1 = some ⟨b1, of1, none⟩ ∧ w0.heap.size ≤ b1 ∧ (∀ o, w.frozen? ⟨b1, o, none⟩ = false) ∧ ∀ k, k < (v[i]'h).attrs.length → ∃ s, w.cell? ⟨b1, of1 + k * 3 + 1, none⟩ = some (.string s)))
theorem Sp.of {w0 w : World} {A : Option Addr} {v : List Nd} {c : Nat} (h : NdOut w0.heap.size w0 v A c w) (hb : Below w0.heap.size w0 w) : Sp w0 A v w := by
  refine ⟨hb, fun hp => ?_⟩
  obtain ⟨b, off, e, hS, hc⟩ := h.rd hp
  refine ⟨b, off, e, hS.1, hS.2.2.2 hS.1, fun i hi => ?_⟩
  obtain ⟨cs, ⟨x, y, z, A1, c1, rfl, hin⟩, hcell⟩ := hc i hi
  refine ⟨A1, c1, hcell 3 (by simp [ndCells]), ⟨_, hcell 5 (by simp [ndCells])⟩, fun hp2 => ?_⟩
  obtain ⟨b1, of1, e1, hS1, hc1⟩ := hin.attrs hp2
  refine ⟨b1, of1, e1, hS1.1, hS1.2.2.2 hS1.1, fun k hk => ?_⟩
  obtain ⟨cs2, ⟨x2, y2, z2, rfl, _⟩, hcell2⟩ := hc1 k hk
  exact ⟨y2, hcell2 1 (by simp)⟩
theorem Sp.set {w0 w : World} {A : Option Addr} {v : List Nd} (h : Sp w0 A v w) (a : Addr) (ha : w0.heap.size ≤ a.block) (u u' : Value) (hu : w.cell? a = some u) (hk : (∃ s s', u = .string s ∧ u' = .string s') ∨ (∃ m m', u = .int .i64 m ∧ u' = .int .i64 m')) : Sp w0 A v (w.setCell a u') := by
  refine ⟨h.1.setCell ha _, fun hp => ?_⟩
  obtain ⟨b, off, e, hB, hf, hc⟩ := h.2 hp
  refine ⟨b, off, e, hB, fun o => by rw [World.frozen?_setCell]; exact hf o, fun i hi => ?_⟩
  obtain ⟨A1, c1, h3, ⟨m, h5⟩, h6⟩ := hc i hi
  refine ⟨A1, c1, ?_, ?_, fun hp2 => ?_⟩
  · by_cases ea : a = ⟨b, off + i * 6 + 3, none⟩
    · subst ea
      rw [h3] at hu
      rcases hk with ⟨s, s', rfl, _⟩ | ⟨m, m', rfl, _⟩ <;> cases hu
    · rw [World.cell?_setCell_other _ _ _ _ ea]; exact h3
  · by_cases ea : a = ⟨b, off + i * 6 + 5, none⟩
    · subst ea
      rw [h5] at hu
      rcases hk with ⟨s, s', rfl, _⟩ | ⟨m1, m', rfl, rfl⟩
      · cases hu
      · exact ⟨m', World.cell?_setCell_same _ _ _ h5⟩
    · exact ⟨m, by rw [World.cell?_setCell_other _ _ _ _ ea]; exact h5⟩
  · obtain ⟨b1, of1, e1, hB1, hf1, hc1⟩ := h6 hp2
    refine ⟨b1, of1, e1, hB1, fun o => by rw [World.frozen?_setCell]; exact hf1 o, fun k hk2 => ?_⟩
    obtain ⟨s0, hs0⟩ := hc1 k hk2
    by_cases ea : a = ⟨b1, of1 + k * 3 + 1, none⟩
    · subst ea
      rw [hs0] at hu
      rcases hk with ⟨s, s', rfl, rfl⟩ | ⟨m1, m', rfl, _⟩
      · exact ⟨s', World.cell?_setCell_same _ _ _ hs0⟩
      · cases hu
    · exact ⟨s0, by rw [World.cell?_setCell_other _ _ _ _ ea]; exact hs0⟩
end Hx
end Go.Proofs.YtbjgfaflikgobaaGreatDoor
namespace Go.Proofs.YtbjgfaflikgobaaGreatDoor
open Go.RowKit
namespace Hx
open Lx Tr Tx Nmb Es
set_option linter.unusedVariables false
/-- A tree's slice as the program holds it. -/
structure LB where
  l : List Nd
  A : Option Addr
  c : Nat
def lbCells (b : LB) : List Value := [.slice b.A b.l.length b.c]
/-- The trees so far: an own row. -/
def LsSt (w0 : World) (L : List LB) (v : Value) (wr : World) : Prop :=
  wr.ownsRow w0.heap.size 24 1 v L.length (L.flatMap lbCells) ∧ (∀ b ∈ L, RdS NdS wr (Far w0.heap.size w0 wr v.ownBlock) b.A b.l ∧ b.l.length ≤ b.c ∧ b.c ≤ maxLen ∧ (b.A = none → b.c = 0)) ∧ Below w0.heap.size w0 wr
theorem LsSt.below {w wr w' : World} {L : List LB} {v : Value} (h : LsSt w L v wr) (hb : Below wr.heap.size wr w') : LsSt w L v w' :=
  ⟨own_belowK h.1 hb (Nat.le_refl _), fun b hm => ⟨(h.2.1 b hm).1.keep (fun k hk => hk.below hb) fun b o hk => hb.cell (p := ⟨b, o, none⟩) hk.2.1, (h.2.1 b hm).2⟩, stp h.2.2 hb⟩
theorem LsSt.more {w wr w2 w5 : World} {L : List LB} {b0 : LB} {v v5 : Value} (h : LsSt w L v wr) (hb : Below wr.heap.size wr w2) (hM : RdS NdS w2 (Far w.heap.size w w2 v.ownBlock) b0.A b0.l ∧ b0.l.length ≤ b0.c ∧ b0.c ≤ maxLen ∧ (b0.A = none → b0.c = 0))
    (hown : w5.ownsRow w.heap.size 24 1 v5 (L.length + 1) (L.flatMap lbCells ++ [.slice b0.A b0.l.length b0.c])) (hgr : w2.grownBy w5 v.ownBlock) (hlie : v5.ownBlock = v.ownBlock ∨ v5.ownBlock = some w2.heap.size) : LsSt w (L ++ [b0]) v5 w5 := by
  have h2 := h.below hb
  refine ⟨by rw [List.length_append, List.flatMap_append]; simpa [lbCells] using hown, fun b hm => ?_, h2.2.2.grown hgr ?_ fun k hk => (h.1.lt k hk).1⟩
  · have hb0 : RdS NdS w2 (Far w.heap.size w w2 v.ownBlock) b.A b.l ∧ b.l.length ≤ b.c ∧ b.c ≤ maxLen ∧ (b.A = none → b.c = 0) := by
      rcases List.mem_append.1 hm with hm | hm
      · exact h2.2.1 b hm
      · rw [List.mem_singleton] at hm; subst hm; exact hM
    refine ⟨hb0.1.keep (fun k hk => ⟨hk.1, Nat.lt_of_lt_of_le hk.2.1 hgr.size, ?_, fun hk2 o => (hgr.frozen_far ⟨k, o, none⟩ hk.2.1 hk.2.2.1).trans (hk.2.2.2 hk2 o)⟩) fun k o hk => hgr.cell_far ⟨k, o, none⟩ hk.2.1 hk.2.2.1, hb0.2⟩
    rcases hlie with e | e
    · rw [e]; exact hk.2.2.1
    · rw [e]
      intro e2
      injection e2 with e2
      have := hk.2.1
      omega
  · have := h2.2.2.size
    omega
theorem LsSt.read {w wr : World} {L : List LB} {A : Option Addr} {n c : Nat} (h : LsSt w L (.slice A n c) wr) : RdB (SlS NdS) wr A (L.map LB.l) ∧ L.length = n := by
  have hn : n = L.length := by
    have h1 := h.1
    rcases h1.2 with ⟨e, h0⟩ | ⟨g, cap, cur, hv, _⟩
    · injection e with _ e _; omega
    · injection hv with _ e _
  subst hn
  obtain ⟨r1, _⟩ := RdS.of_own (C := SlS NdS) (S := fun b => b < wr.heap.size) lbCells LB.l (fun _ => rfl) (by decide) L (fun b hm => ⟨b.A, b.c, rfl, (h.2.1 b hm).2.1, (h.2.1 b hm).2.2.1, (h.2.1 b hm).2.2.2, (h.2.1 b hm).1.mono fun k hk => hk.2.1⟩) (fun g hg => (h.1.lt g hg).2) h.1
  exact ⟨r1, rfl⟩
/-- A tree that was copied, put behind. -/
theorem NdOut.far {w W w' : World} {v : List Nd} {A : Option Addr} {c : Nat} {row : Option Nat} (h : NdOut W.heap.size W v A c w') (hs : w.heap.size ≤ W.heap.size) (hrow : ∀ k, row = some k → k < W.heap.size) :
    RdS NdS w' (Far w.heap.size w w' row) A v ∧ v.length ≤ c ∧ c ≤ maxLen ∧ (A = Option.none → c = 0) :=
  ⟨h.rd.mono fun k hk => ⟨Nat.le_trans hs hk.1, hk.2.1, fun e => by have := hrow k e.symm; have := hk.1; omega, fun _ => hk.2.2.2 hk.1⟩, h.le, h.cm, h.nil⟩
theorem infoSl : (Tryz.prog.info? 24).map (fun i => (i.zero, i.size, i.bytes)) = some (some (.slice none 0 0), 1, 24) := by kernel_rfl
section
variable {H : Type} {enc : TypeId × Value → H}
end
end Hx
end Go.Proofs.YtbjgfaflikgobaaGreatDoor
