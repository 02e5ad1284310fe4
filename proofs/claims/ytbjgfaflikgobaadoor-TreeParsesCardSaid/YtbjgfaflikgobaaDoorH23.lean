/-
  Texts of one seat, put together: PkM.
-/
import Derived.Test.YtbjgfaflikgobaaDoorH21
import Derived.Test.YtbjgfaflikgobaaDoorH22
import Derived.Test.YtbjgfaflikgobaaDoorH12
import Derived.Test.YtbjgfaflikgobaaDoorH09
import Derived.Test.YtbjgfaflikgobaaDoorH07
namespace Go.Proofs.YtbjgfaflikgobaaDoor
open Go.RowKit
namespace Hx
open Lx Tr Tx Nmb Es
set_option linter.unusedVariables false
theorem nodeT_smallP {t : Tk} (h : Small t) : SmallN (nodeT t) := by
  obtain ⟨h1, h2, h3, h4⟩ := h
  unfold nodeT
  split
  · exact ⟨Nat.zero_le _, Nat.zero_le _, h2, Nat.zero_le _, fun a ha => (by cases ha)⟩
  · refine ⟨Nat.zero_le _, h1, Nat.zero_le _, by show (givenN t.attrs).length ≤ _; unfold givenN; rw [List.length_map]; exact h3, fun a ha => ?_⟩
    have ha : a ∈ givenN t.attrs := ha
    unfold givenN at ha
    obtain ⟨p, hp, rfl⟩ := List.mem_map.1 ha
    exact ⟨Nat.zero_le _, (h4 p hp).1, (h4 p hp).2⟩
theorem bump_smallP {O : List Nat} {V : List Nd} (h : ∀ n ∈ V, SmallN n) : ∀ n ∈ bump O V, SmallN n := by
  intro n hn
  unfold bump at hn
  split at hn
  · exact h n hn
  · obtain ⟨j, hj, e⟩ := List.getElem_of_mem hn
    rw [List.getElem_modify] at e
    rw [List.length_modify] at hj
    have h9 := h _ (List.getElem_mem hj)
    split at e
    · rw [← e]; exact ⟨h9.space, h9.name, h9.text, h9.attrs, h9.each⟩
    · rw [← e]; exact h9
theorem stepP_smallP {s s' : PS} {b : Bool} {t : Tk} (h : ∀ n ∈ s.V, SmallN n) (ht : Small t) (hs : stepP s b t = .ok s') : ∀ n ∈ s'.V, SmallN n := by
  have hnew : ∀ n ∈ bump s.O s.V ++ [nodeT t], SmallN n := fun n hn => by
    rcases List.mem_append.1 hn with hn | hn
    · exact bump_smallP h n hn
    · obtain rfl := List.mem_singleton.1 hn
      exact nodeT_smallP ht
  unfold stepP at hs
  split at hs
  · split at hs
    · cases hs
    · split at hs
      · split at hs
        · injection hs with hs; subst hs; exact h
        · cases hs
      · injection hs with hs
        subst hs
        exact hnew
  · split at hs
    · split at hs
      · cases hs
      · split at hs
        · injection hs with hs
          subst hs
          exact h
        · cases hs
    · split at hs
      · cases hs
      · split at hs
        · cases hs
        · injection hs with hs
          subst hs
          exact hnew
theorem runP_smallP : ∀ (l : List Tk) (s s' : PS) (b : Bool), (∀ n ∈ s.V, SmallN n) → (∀ t ∈ l, Small t) → runP s b l = .ok s' → ∀ n ∈ s'.V, SmallN n
  | [], s, s', b, h, _, hr => by
    rw [runP] at hr
    injection hr with hr
    subst hr
    exact h
  | t :: l, s, s', b, h, hl, hr => by
    rw [runP] at hr
    cases hx : stepP s b t with
    | error e => rw [hx] at hr; cases hr
    | ok s2 =>
      rw [hx] at hr
      exact runP_smallP l s2 s' _ (stepP_smallP h (hl t List.mem_cons_self) hx) (fun t ht => hl t (List.mem_cons_of_mem _ ht)) hr
theorem parseR_smallP {l : List Tk} {v : List Nd} (h : parseR l = (v, 0)) (hl : ∀ t ∈ l, Small t) : ∀ n ∈ v, SmallN n := by
  unfold parseR at h
  split at h
  · have := congrArg Prod.snd h
    cases this
  · split at h
    · cases hx : runP ⟨[], []⟩ false l with
      | error e =>
        rw [hx] at h
        have h1 : ([], e) = (v, (0 : Int)) := h
        rw [((Prod.mk.injEq _ _ _ _).mp h1).1.symm]
        exact fun n hn => (by cases hn)
      | ok s =>
        rw [hx] at h
        unfold endP at h
        dsimp only at h
        split at h
        · have := congrArg Prod.snd h
          cases this
        · rw [← ((Prod.mk.injEq _ _ _ _).mp h).1]
          exact runP_smallP l _ s false (fun n hn => (by cases hn)) hl hx
    · have := congrArg Prod.snd h
      cases this
theorem ParseTo.withP {ts : List Tk} {w w' : World} {e : Ending} {v : List Nd} {q : Int} {n : Nat} (h : ParseTo ts w e w') (hp : parseR ts = (v, q)) (hn : v.length = n) : ∃ A c, e = .returned (.tuple #[.slice A n c, .int .i64 q]) ∧ RdB NdS w' A v ∧ Below w.heap.size w w' := by
  obtain ⟨v2, q2, A, c, h1, h2, h3, h4, h5, h6, h7⟩ := h
  rw [hp] at h1
  obtain ⟨rfl, rfl⟩ := (Prod.mk.injEq _ _ _ _).mp h1
  exact ⟨A, c, by rw [← hn]; exact h2, h3, h7⟩
theorem parseR_len {l : List Tk} {v : List Nd} {e : Int} (h : parseR l = (v, e)) (hl : ∀ t ∈ l, Small t) : v.length ≤ 512 ∧ ∀ n ∈ v, SmallN n := by
  by_cases he : e = 0
  · subst he
    obtain ⟨_, _, k3, _, _, k6⟩ := parse_may h
    exact ⟨by omega, parseR_smallP h hl⟩
  · rw [(parse_bad h he).1]
    exact ⟨by decide, fun n hn => (by cases hn)⟩
end Hx
end Go.Proofs.YtbjgfaflikgobaaDoor
