/-
  Plain mathematics of tokens: what is read of texts is texts; a text's tokens; what is written of tokens.
-/
import Derived.Test.YtichboamakgabaaLexM
namespace Go.Proofs.Ytichboamakgabaa
namespace Lx
open Tx Nmb Es
set_option linter.unusedVariables false
/-- Is that a text's code points? -/
def isP (l : List UInt8) : Bool := (pts l).isSome
theorem isP_nil : isP [] = true := rfl
theorem isP_encs {ns : List Nat} (h : mays ns) : isP (encs ns) = true := by unfold isP; rw [pts_encs h]; rfl
theorem isP_of {l : List UInt8} (h : isP l = true) : ∃ ns, l = encs ns ∧ mays ns := by
  obtain ⟨ns, hns⟩ := Option.isSome_iff_exists.1 h
  exact ⟨ns, (pts_iff l ns).1 hns⟩
theorem isP_app {a b : List UInt8} (ha : isP a = true) (hb : isP b = true) : isP (a ++ b) = true := pts_app ha hb
theorem enc_near {n : Nat} (h : n < 128) : enc n = [bt n] := by unfold enc; rw [if_pos h]
/-- A text is cut at a sign into texts. -/
theorem isP_cut : ∀ (ns : List Nat) (a b : List UInt8) (c : UInt8), mays ns → c.toNat < 128 → encs ns = a ++ c :: b → isP a = true ∧ isP b = true ∧ may (c.toNat : Int) = true := by
  intro ns
  induction ns with
  | nil =>
    intro a b c _ _ e
    cases a <;> cases e
  | cons n ns ih =>
    intro a b c hm hc e
    rw [mays_cons] at hm
    rw [encs_cons] at e
    have hs := nat_sv hm.1
    obtain ⟨h1, h2⟩ := enc_length n
    by_cases hl : (enc n).length ≤ a.length
    · have ea : a = enc n ++ a.drop (enc n).length := by
        have := congrArg (List.take (enc n).length) e
        rw [List.take_left, List.take_append_of_le_length hl] at this
        conv => lhs; rw [← List.take_append_drop (enc n).length a]
        rw [← this]
      have e2 : encs ns = a.drop (enc n).length ++ c :: b := by
        rw [ea, List.append_assoc] at e
        exact List.append_cancel_left e
      obtain ⟨i1, i2, i3⟩ := ih _ _ _ hm.2 hc e2
      refine ⟨?_, i2, i3⟩
      rw [ea]
      refine isP_app ?_ i1
      have := isP_encs (ns := [n]) (mays_cons.2 ⟨hm.1, mays_nil⟩)
      rwa [encs_cons, encs_nil, List.append_nil] at this
    · have e2 : (enc n).drop a.length ++ encs ns = c :: b := by
        have := congrArg (List.drop a.length) e
        rwa [List.drop_left, List.drop_append_of_le_length (by omega)] at this
      by_cases h0 : a.length = 0
      · obtain rfl := List.eq_nil_of_length_eq_zero h0
        rw [List.length_nil, List.drop_zero] at e2
        by_cases hn : n < 128
        · rw [enc_near hn] at e2
          obtain ⟨rfl, rfl⟩ := List.cons.inj e2
          rw [bt_nat n (by omega)]
          exact ⟨rfl, isP_encs hm.2, hm.1⟩
        · exfalso
          cases he : enc n with
          | nil => rw [he] at h1; simp at h1
          | cons d r =>
            rw [he] at e2
            obtain ⟨rfl, _⟩ := List.cons.inj e2
            have := enc_far n (by omega) hs d (by rw [he]; simp)
            omega
      · exfalso
        obtain ⟨d, r, e3, hd⟩ := enc_cont n hs a.length (by omega) (by omega)
        rw [e3] at e2
        obtain ⟨rfl, _⟩ := List.cons.inj e2
        unfold cont at hd
        have := of_decide_eq_true hd
        omega
theorem isP_split {a b : List UInt8} {c : UInt8} (h : isP (a ++ c :: b) = true) (hc : c.toNat < 128) : isP a = true ∧ isP b = true ∧ may (c.toNat : Int) = true := by
  obtain ⟨ns, e, hm⟩ := isP_of h
  exact isP_cut ns a b c hm hc e.symm
theorem isP_one {c : UInt8} (h : c.toNat < 128) (hm : may (c.toNat : Int) = true) : isP [c] = true := by
  have := isP_encs (ns := [c.toNat]) (mays_cons.2 ⟨hm, mays_nil⟩)
  rwa [encs_cons, encs_nil, List.append_nil, enc_near h, bt_of c _ rfl] at this
/-- Signs put into a text leave it a text. -/
theorem isP_map (f : UInt8 → UInt8) (hf : ∀ c, 128 ≤ c.toNat → f c = c) (hf2 : ∀ c, c.toNat < 128 → may (c.toNat : Int) = true → (f c).toNat < 128 ∧ may ((f c).toNat : Int) = true) {l : List UInt8} (h : isP l = true) : isP (l.map f) = true := by
  obtain ⟨ns, rfl, hm⟩ := isP_of h
  clear h
  induction ns with
  | nil => rfl
  | cons n ns ih =>
    rw [mays_cons] at hm
    rw [encs_cons, List.map_append]
    refine isP_app ?_ (ih hm.2)
    by_cases hn : n < 128
    · rw [enc_near hn]
      have hb : (bt n).toNat = n := bt_nat n (by omega)
      obtain ⟨q1, q2⟩ := hf2 (bt n) (by omega) (by rw [hb]; exact hm.1)
      exact isP_one q1 q2
    · have he : (enc n).map f = enc n := by
        have := enc_far n (by omega) (nat_sv hm.1)
        rw [List.map_congr_left (g := id) (fun x hx => hf x (this x hx)), List.map_id]
      rw [he]
      have := isP_encs (ns := [n]) (mays_cons.2 ⟨hm.1, mays_nil⟩)
      rwa [encs_cons, encs_nil, List.append_nil] at this
theorem isP_enc {n : Nat} (h : may (n : Int) = true) : isP (enc n) = true := by
  have := isP_encs (ns := [n]) (mays_cons.2 ⟨h, mays_nil⟩)
  rwa [encs_cons, encs_nil, List.append_nil] at this
theorem meantL_text {x y : List UInt8} (h : meantL x = some y) : isP y = true ∧ y.length ≤ x.length + 2 ∧ y ≠ [] := by
  unfold meantL at h
  by_cases h1 : x = [97, 109, 112]
  · rw [if_pos h1] at h; cases h; exact ⟨by decide +kernel, by simp, by simp⟩
  rw [if_neg h1] at h
  by_cases h2 : x = [108, 116]
  · rw [if_pos h2] at h; cases h; exact ⟨by decide +kernel, by simp, by simp⟩
  rw [if_neg h2] at h
  by_cases h3 : x = [103, 116]
  · rw [if_pos h3] at h; cases h; exact ⟨by decide +kernel, by simp, by simp⟩
  rw [if_neg h3] at h
  by_cases h4 : x = [113, 117, 111, 116]
  · rw [if_pos h4] at h; cases h; exact ⟨by decide +kernel, by simp, by simp⟩
  rw [if_neg h4] at h
  by_cases h5 : x = [97, 112, 111, 115]
  · rw [if_pos h5] at h; cases h; exact ⟨by decide +kernel, by simp, by simp⟩
  rw [if_neg h5] at h
  split at h
  · rename_i r
    cases hn : numL r with
    | none => rw [hn] at h; cases h
    | some n =>
      rw [hn] at h
      obtain rfl := Option.some.inj h
      have hm : may (n : Int) = true := by
        unfold numL at hn
        exact (Option.filter_eq_some_iff.1 hn).2
      have hr : 1 ≤ r.length := by
        cases r with
        | nil => unfold numL at hn; cases hn
        | cons c r => simp
      have := enc_length n
      refine ⟨isP_enc hm, by rw [List.length_cons]; omega, fun e => ?_⟩
      rw [e] at this
      simp at this
  · cases h
/-- What is read of a text is a text, no longer than it; none of none alone. -/
theorem rd_text : ∀ (k : Nat) (l z : List UInt8), l.length ≤ k → isP l = true → rd l = some z → isP z = true := by
  intro k
  induction k with
  | zero =>
    intro l z hl hp h
    obtain rfl := List.eq_nil_of_length_eq_zero (Nat.le_zero.1 hl)
    cases h
    rfl
  | succ k ih =>
    intro l z hl hp h
    obtain ⟨ns, rfl, hm⟩ := isP_of hp
    cases ns with
    | nil => cases h; rfl
    | cons n ns =>
      rw [mays_cons] at hm
      rw [encs_cons] at h hl
      have hel := enc_length n
      rw [List.length_append] at hl
      by_cases hn : n < 128
      · have hb : (bt n).toNat = n := bt_nat n (by omega)
        rw [enc_near hn] at h hl
        rw [List.singleton_append] at h
        by_cases h60 : bt n = 60
        · rw [h60, rd_bad] at h; cases h
        · by_cases h38 : bt n = 38
          · rw [h38, rd_amp] at h
            cases hs : semi (encs ns) with
            | none => rw [hs] at h; cases h
            | some q =>
              obtain ⟨x, t⟩ := q
              rw [hs] at h
              dsimp only at h
              cases hx : meantL x with
              | none => rw [hx] at h; cases h
              | some y =>
                rw [hx] at h
                dsimp only at h
                cases ht : rd t with
                | none => rw [ht] at h; cases h
                | some z' =>
                  rw [ht] at h
                  obtain rfl := Option.some.inj h
                  obtain ⟨e, _⟩ := semi_some _ _ _ hs
                  obtain ⟨_, q2, _⟩ := isP_cut ns x t 59 hm.2 (by decide) e
                  have he := congrArg List.length e
                  rw [List.length_append, List.length_cons] at he
                  exact isP_app (meantL_text hx).1 (ih t z' (by simp at hl; omega) q2 ht)
          · rw [rd_byte _ _ h60 h38] at h
            cases ht : rd (encs ns) with
            | none => rw [ht] at h; cases h
            | some z' =>
              rw [ht] at h
              obtain rfl := Option.some.inj h
              have := isP_app (isP_one (c := bt n) (by omega) (by rw [hb]; exact hm.1)) (ih _ z' (by simp at hl; omega) (isP_encs hm.2) ht)
              exact this
      · have hf := enc_far n (by omega) (nat_sv hm.1)
        have hr : ∀ (e : List UInt8), (∀ x ∈ e, 128 ≤ x.toNat) → ∀ r, rd (e ++ r) = (rd r).map (e ++ ·) := by
          intro e
          induction e with
          | nil => intro _ r; simp
          | cons c e ihe =>
            intro he r
            have hc := he c (by simp)
            rw [List.cons_append, rd_byte c _ (by rintro rfl; exact absurd hc (by decide)) (by rintro rfl; exact absurd hc (by decide)), ihe (fun x hx => he x (by simp [hx])) r]
            cases rd r <;> rfl
        rw [hr _ hf] at h
        cases ht : rd (encs ns) with
        | none => rw [ht] at h; cases h
        | some z' =>
          rw [ht] at h
          obtain rfl := Option.some.inj h
          exact isP_app (isP_enc hm.1) (ih _ z' (by omega) (isP_encs hm.2) ht)
theorem rd_len : ∀ (k : Nat) (l z : List UInt8), l.length ≤ k → rd l = some z → z.length ≤ l.length ∧ (l ≠ [] → z ≠ []) := by
  intro k
  induction k with
  | zero =>
    intro l z hl h
    obtain rfl := List.eq_nil_of_length_eq_zero (Nat.le_zero.1 hl)
    cases h
    exact ⟨Nat.le_refl _, fun h => absurd rfl h⟩
  | succ k ih =>
    intro l z hl h
    cases l with
    | nil => cases h; exact ⟨Nat.le_refl _, fun h => absurd rfl h⟩
    | cons c r =>
      rw [List.length_cons] at hl
      by_cases h60 : c = 60
      · rw [h60, rd_bad] at h; cases h
      · by_cases h38 : c = 38
        · rw [h38, rd_amp] at h
          cases hs : semi r with
          | none => rw [hs] at h; cases h
          | some q =>
            obtain ⟨x, t⟩ := q
            rw [hs] at h
            dsimp only at h
            cases hx : meantL x with
            | none => rw [hx] at h; cases h
            | some y =>
              rw [hx] at h
              dsimp only at h
              cases ht : rd t with
              | none => rw [ht] at h; cases h
              | some z' =>
                rw [ht] at h
                obtain rfl := Option.some.inj h
                obtain ⟨e, _⟩ := semi_some _ _ _ hs
                obtain ⟨_, m2, m3⟩ := meantL_text hx
                have he := congrArg List.length e
                rw [List.length_append, List.length_cons] at he
                have := (ih t z' (by omega) ht).1
                refine ⟨by rw [List.length_append, List.length_cons]; omega, fun _ e => m3 (List.append_eq_nil_iff.1 e).1⟩
        · rw [rd_byte _ _ h60 h38] at h
          cases ht : rd r with
          | none => rw [ht] at h; cases h
          | some z' =>
            rw [ht] at h
            obtain rfl := Option.some.inj h
            have := (ih r z' (by omega) ht).1
            exact ⟨by rw [List.length_cons, List.length_cons]; omega, fun _ e => by cases e⟩
theorem toldL_text {l v : List UInt8} (hp : isP l = true) (h : toldL l = some v) : isP v = true ∧ v.length ≤ l.length := by
  have hm : isP (l.map fun c => if blk c then 32 else c) = true := by
    refine isP_map _ (fun c hc => ?_) (fun c hc hc2 => ?_) hp
    · rw [if_neg]
      intro hb
      have := (blk_far hb).2.2.2.2.2.2.2
      omega
    · by_cases hb : blk c = true
      · rw [if_pos hb]; exact ⟨by decide, by decide⟩
      · rw [if_neg hb]; exact ⟨hc, hc2⟩
  have h2 := (rd_len _ _ _ (Nat.le_refl _) h).1
  rw [List.length_map] at h2
  exact ⟨rd_text _ _ _ (Nat.le_refl _) hm h, h2⟩
theorem toldL_esc (v : List UInt8) : toldL (escL true v) = some v := by
  unfold toldL
  rw [List.map_congr_left (g := id), List.map_id, rd_esc]
  intro x hx
  obtain ⟨h1, h2, h3, h4⟩ := escL_ok true v x hx
  obtain ⟨_, h5, h6⟩ := h4 rfl
  by_cases hb : blk x = true
  · rw [if_pos hb]
    unfold blk at hb
    simp only [Bool.or_eq_true, beq_iff_eq] at hb
    rcases hb with ((rfl | rfl) | rfl) | rfl
    · rfl
    · exact absurd rfl h5
    · exact absurd rfl h6
    · exact absurd rfl h3
  · rw [if_neg hb]
    rfl
end Lx
end Go.Proofs.Ytichboamakgabaa
