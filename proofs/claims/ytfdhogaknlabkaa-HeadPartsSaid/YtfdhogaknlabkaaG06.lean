/-
  Texts of one seat, put together: LexN, LexO, LexP, LexC.
-/
import Derived.Test.YtfdhogaknlabkaaG05
import Derived.Test.YtfdhogaknlabkaaG04
set_option linter.unusedSimpArgs false
set_option linter.unusedVariables false
namespace Go.Proofs.Ytfdhogaknlabkaa
namespace Lx
open Tx Nmb Es
set_option linter.unusedVariables false
/-- Is that a text's code points? -/
def isP (l : List UInt8) : Bool := (pts l).isSome
theorem isP_nil : isP [] = true := rfl
theorem isP_encs {ns : List Nat} (h : mays ns) : isP (encs ns) = true := by unfold isP; rw [pts_encs h]; rfl
theorem isP_of {l : List UInt8} (h : isP l = true) : ∃ ns, l = encs ns ∧ mays ns := by
  obtain ⟨ns, hns⟩ := Option.isSome_iff_exists.1 h
  exact ⟨ns, (pts_iff l ns).1 hns⟩
theorem isP_app {a b : List UInt8} (ha : isP a = true) (hb : isP b = true) : isP (a ++ b) = true := pts_app ha hb
theorem enc_near {n : Nat} (h : n < 128) : enc n = [bt n] := by unfold enc; rw [if_pos h]
/-- A text is cut at a sign into texts. -/
theorem isP_cut : ∀ (ns : List Nat) (a b : List UInt8) (c : UInt8), mays ns → c.toNat < 128 → encs ns = a ++ c :: b → isP a = true ∧ isP b = true ∧ may (c.toNat : Int) = true := by
  intro ns
  induction ns with
  | nil =>
    intro a b c _ _ e
    cases a <;> cases e
  | cons n ns ih =>
    intro a b c hm hc e
    rw [mays_cons] at hm
    rw [encs_cons] at e
    have hs := nat_sv hm.1
    obtain ⟨h1, h2⟩ := enc_length n
    by_cases hl : (enc n).length ≤ a.length
    · have ea : a = enc n ++ a.drop (enc n).length := by
        have := congrArg (List.take (enc n).length) e
        rw [List.take_left, List.take_append_of_le_length hl] at this
        conv => lhs; rw [← List.take_append_drop (enc n).length a]
        rw [← this]
      have e2 : encs ns = a.drop (enc n).length ++ c :: b := by
        rw [ea, List.append_assoc] at e
        exact List.append_cancel_left e
      obtain ⟨i1, i2, i3⟩ := ih _ _ _ hm.2 hc e2
      refine ⟨?_, i2, i3⟩
      rw [ea]
      refine isP_app ?_ i1
      have := isP_encs (ns := [n]) (mays_cons.2 ⟨hm.1, mays_nil⟩)
      rwa [encs_cons, encs_nil, List.append_nil] at this
    · have e2 : (enc n).drop a.length ++ encs ns = c :: b := by
        have := congrArg (List.drop a.length) e
        rwa [List.drop_left, List.drop_append_of_le_length (by omega)] at this
      by_cases h0 : a.length = 0
      · obtain rfl := List.eq_nil_of_length_eq_zero h0
        rw [List.length_nil, List.drop_zero] at e2
        by_cases hn : n < 128
        · rw [enc_near hn] at e2
          obtain ⟨rfl, rfl⟩ := List.cons.inj e2
          rw [bt_nat n (by omega)]
          exact ⟨rfl, isP_encs hm.2, hm.1⟩
        · exfalso
          cases he : enc n with
          | nil => rw [he] at h1; simp at h1
          | cons d r =>
            rw [he] at e2
            obtain ⟨rfl, _⟩ := List.cons.inj e2
            have := enc_far n (by omega) hs d (by rw [he]; simp)
            omega
      · exfalso
        obtain ⟨d, r, e3, hd⟩ := enc_cont n hs a.length (by omega) (by omega)
        rw [e3] at e2
        obtain ⟨rfl, _⟩ := List.cons.inj e2
        unfold cont at hd
        have := of_decide_eq_true hd
        omega
theorem isP_split {a b : List UInt8} {c : UInt8} (h : isP (a ++ c :: b) = true) (hc : c.toNat < 128) : isP a = true ∧ isP b = true ∧ may (c.toNat : Int) = true := by
  obtain ⟨ns, e, hm⟩ := isP_of h
  exact isP_cut ns a b c hm hc e.symm
theorem isP_one {c : UInt8} (h : c.toNat < 128) (hm : may (c.toNat : Int) = true) : isP [c] = true := by
  have := isP_encs (ns := [c.toNat]) (mays_cons.2 ⟨hm, mays_nil⟩)
  rwa [encs_cons, encs_nil, List.append_nil, enc_near h, bt_of c _ rfl] at this
/-- Signs put into a text leave it a text. -/
theorem isP_map (f : UInt8 → UInt8) (hf : ∀ c, 128 ≤ c.toNat → f c = c) (hf2 : ∀ c, c.toNat < 128 → may (c.toNat : Int) = true → (f c).toNat < 128 ∧ may ((f c).toNat : Int) = true) {l : List UInt8} (h : isP l = true) : isP (l.map f) = true := by
  obtain ⟨ns, rfl, hm⟩ := isP_of h
  clear h
  induction ns with
  | nil => rfl
  | cons n ns ih =>
    rw [mays_cons] at hm
    rw [encs_cons, List.map_append]
    refine isP_app ?_ (ih hm.2)
    by_cases hn : n < 128
    · rw [enc_near hn]
      have hb : (bt n).toNat = n := bt_nat n (by omega)
      obtain ⟨q1, q2⟩ := hf2 (bt n) (by omega) (by rw [hb]; exact hm.1)
      exact isP_one q1 q2
    · have he : (enc n).map f = enc n := by
        have := enc_far n (by omega) (nat_sv hm.1)
        rw [List.map_congr_left (g := id) (fun x hx => hf x (this x hx)), List.map_id]
      rw [he]
      have := isP_encs (ns := [n]) (mays_cons.2 ⟨hm.1, mays_nil⟩)
      rwa [encs_cons, encs_nil, List.append_nil] at this
theorem isP_enc {n : Nat} (h : may (n : Int) = true) : isP (enc n) = true := by
  have := isP_encs (ns := [n]) (mays_cons.2 ⟨h, mays_nil⟩)
  rwa [encs_cons, encs_nil, List.append_nil] at this
theorem meantL_text {x y : List UInt8} (h : meantL x = some y) : isP y = true ∧ y.length ≤ x.length + 2 ∧ y ≠ [] := by
  unfold meantL at h
  by_cases h1 : x = [97, 109, 112]
  · rw [if_pos h1] at h; cases h; exact ⟨by decide +kernel, by simp, by simp⟩
  rw [if_neg h1] at h
  by_cases h2 : x = [108, 116]
  · rw [if_pos h2] at h; cases h; exact ⟨by decide +kernel, by simp, by simp⟩
  rw [if_neg h2] at h
  by_cases h3 : x = [103, 116]
  · rw [if_pos h3] at h; cases h; exact ⟨by decide +kernel, by simp, by simp⟩
  rw [if_neg h3] at h
  by_cases h4 : x = [113, 117, 111, 116]
  · rw [if_pos h4] at h; cases h; exact ⟨by decide +kernel, by simp, by simp⟩
  rw [if_neg h4] at h
  by_cases h5 : x = [97, 112, 111, 115]
  · rw [if_pos h5] at h; cases h; exact ⟨by decide +kernel, by simp, by simp⟩
  rw [if_neg h5] at h
  split at h
  · rename_i r
    cases hn : numL r with
    | none => rw [hn] at h; cases h
    | some n =>
      rw [hn] at h
      obtain rfl := Option.some.inj h
      have hm : may (n : Int) = true := by
        unfold numL at hn
        exact (Option.filter_eq_some_iff.1 hn).2
      have hr : 1 ≤ r.length := by
        cases r with
        | nil => unfold numL at hn; cases hn
        | cons c r => simp
      have := enc_length n
      refine ⟨isP_enc hm, by rw [List.length_cons]; omega, fun e => ?_⟩
      rw [e] at this
      simp at this
  · cases h
/-- What is read of a text is a text, no longer than it; none of none alone. -/
theorem rd_text : ∀ (k : Nat) (l z : List UInt8), l.length ≤ k → isP l = true → rd l = some z → isP z = true := by
  intro k
  induction k with
  | zero =>
    intro l z hl hp h
    obtain rfl := List.eq_nil_of_length_eq_zero (Nat.le_zero.1 hl)
    cases h
    rfl
  | succ k ih =>
    intro l z hl hp h
    obtain ⟨ns, rfl, hm⟩ := isP_of hp
    cases ns with
    | nil => cases h; rfl
    | cons n ns =>
      rw [mays_cons] at hm
      rw [encs_cons] at h hl
      have hel := enc_length n
      rw [List.length_append] at hl
      by_cases hn : n < 128
      · have hb : (bt n).toNat = n := bt_nat n (by omega)
        rw [enc_near hn] at h hl
        rw [List.singleton_append] at h
        by_cases h60 : bt n = 60
        · rw [h60, rd_bad] at h; cases h
        · by_cases h38 : bt n = 38
          · rw [h38, rd_amp] at h
            cases hs : semi (encs ns) with
            | none => rw [hs] at h; cases h
            | some q =>
              obtain ⟨x, t⟩ := q
              rw [hs] at h
              dsimp only at h
              cases hx : meantL x with
              | none => rw [hx] at h; cases h
              | some y =>
                rw [hx] at h
                dsimp only at h
                cases ht : rd t with
                | none => rw [ht] at h; cases h
                | some z' =>
                  rw [ht] at h
                  obtain rfl := Option.some.inj h
                  obtain ⟨e, _⟩ := semi_some _ _ _ hs
                  obtain ⟨_, q2, _⟩ := isP_cut ns x t 59 hm.2 (by decide) e
                  have he := congrArg List.length e
                  rw [List.length_append, List.length_cons] at he
                  exact isP_app (meantL_text hx).1 (ih t z' (by simp at hl; omega) q2 ht)
          · rw [rd_byte _ _ h60 h38] at h
            cases ht : rd (encs ns) with
            | none => rw [ht] at h; cases h
            | some z' =>
              rw [ht] at h
              obtain rfl := Option.some.inj h
              have := isP_app (isP_one (c := bt n) (by omega) (by rw [hb]; exact hm.1)) (ih _ z' (by simp at hl; omega) (isP_encs hm.2) ht)
              exact this
      · have hf := enc_far n (by omega) (nat_sv hm.1)
        have hr : ∀ (e : List UInt8), (∀ x ∈ e, 128 ≤ x.toNat) → ∀ r, rd (e ++ r) = (rd r).map (e ++ ·) := by
          intro e
          induction e with
          | nil => intro _ r; simp
          | cons c e ihe =>
            intro he r
            have hc := he c (by simp)
            rw [List.cons_append, rd_byte c _ (by rintro rfl; exact absurd hc (by decide)) (by rintro rfl; exact absurd hc (by decide)), ihe (fun x hx => he x (by simp [hx])) r]
            cases rd r <;> rfl
        rw [hr _ hf] at h
        cases ht : rd (encs ns) with
        | none => rw [ht] at h; cases h
        | some z' =>
          rw [ht] at h
          obtain rfl := Option.some.inj h
          exact isP_app (isP_enc hm.1) (ih _ z' (by omega) (isP_encs hm.2) ht)
theorem rd_len : ∀ (k : Nat) (l z : List UInt8), l.length ≤ k → rd l = some z → z.length ≤ l.length ∧ (l ≠ [] → z ≠ []) := by
  intro k
  induction k with
  | zero =>
    intro l z hl h
    obtain rfl := List.eq_nil_of_length_eq_zero (Nat.le_zero.1 hl)
    cases h
    exact ⟨Nat.le_refl _, fun h => absurd rfl h⟩
  | succ k ih =>
    intro l z hl h
    cases l with
    | nil => cases h; exact ⟨Nat.le_refl _, fun h => absurd rfl h⟩
    | cons c r =>
      rw [List.length_cons] at hl
      by_cases h60 : c = 60
      · rw [h60, rd_bad] at h; cases h
      · by_cases h38 : c = 38
        · rw [h38, rd_amp] at h
          cases hs : semi r with
          | none => rw [hs] at h; cases h
          | some q =>
            obtain ⟨x, t⟩ := q
            rw [hs] at h
            dsimp only at h
            cases hx : meantL x with
            | none => rw [hx] at h; cases h
            | some y =>
              rw [hx] at h
              dsimp only at h
              cases ht : rd t with
              | none => rw [ht] at h; cases h
              | some z' =>
                rw [ht] at h
                obtain rfl := Option.some.inj h
                obtain ⟨e, _⟩ := semi_some _ _ _ hs
                obtain ⟨_, m2, m3⟩ := meantL_text hx
                have he := congrArg List.length e
                rw [List.length_append, List.length_cons] at he
                have := (ih t z' (by omega) ht).1
                refine ⟨by rw [List.length_append, List.length_cons]; omega, fun _ e => m3 (List.append_eq_nil_iff.1 e).1⟩
        · rw [rd_byte _ _ h60 h38] at h
          cases ht : rd r with
          | none => rw [ht] at h; cases h
          | some z' =>
            rw [ht] at h
            obtain rfl := Option.some.inj h
            have := (ih r z' (by omega) ht).1
            exact ⟨by rw [List.length_cons, List.length_cons]; omega, fun _ e => by cases e⟩
theorem toldL_text {l v : List UInt8} (hp : isP l = true) (h : toldL l = some v) : isP v = true ∧ v.length ≤ l.length := by
  have hm : isP (l.map fun c => if blk c then 32 else c) = true := by
    refine isP_map _ (fun c hc => ?_) (fun c hc hc2 => ?_) hp
    · rw [if_neg]
      intro hb
      have := (blk_far hb).2.2.2.2.2.2.2
      omega
    · by_cases hb : blk c = true
      · rw [if_pos hb]; exact ⟨by decide, by decide⟩
      · rw [if_neg hb]; exact ⟨hc, hc2⟩
  have h2 := (rd_len _ _ _ (Nat.le_refl _) h).1
  rw [List.length_map] at h2
  exact ⟨rd_text _ _ _ (Nat.le_refl _) hm h, h2⟩
theorem toldL_esc (v : List UInt8) : toldL (escL true v) = some v := by
  unfold toldL
  rw [List.map_congr_left (g := id), List.map_id, rd_esc]
  intro x hx
  obtain ⟨h1, h2, h3, h4⟩ := escL_ok true v x hx
  obtain ⟨_, h5, h6⟩ := h4 rfl
  by_cases hb : blk x = true
  · rw [if_pos hb]
    unfold blk at hb
    simp only [Bool.or_eq_true, beq_iff_eq] at hb
    rcases hb with ((rfl | rfl) | rfl) | rfl
    · rfl
    · exact absurd rfl h5
    · exact absurd rfl h6
    · exact absurd rfl h3
  · rw [if_neg hb]
    rfl
end Lx
end Go.Proofs.Ytfdhogaknlabkaa
namespace Go.Proofs.Ytfdhogaknlabkaa
namespace Lx
open Tx Nmb Es
set_option linter.unusedVariables false
/-- Is that a text? -/
def okT (l : List UInt8) : Bool := decide (l.length ≤ 16384) && isP l
/-- May attributes be, behind others? -/
def attrsF : List Pr → List Pr → Bool
  | _, [] => true
  | acc, p :: r => fullL p.name && !hasL acc p.name && okT p.value && attrsF (acc ++ [p]) r
def attrsOk (l : List Pr) : Bool := attrsF [] l && decide (l.length ≤ 16)
/-- May a token be? -/
def mayT (t : Tk) : Bool :=
  if t.kind = 1 ∨ t.kind = 3 then fullL t.name && attrsOk t.attrs && t.text.isEmpty
  else if t.kind = 2 then fullL t.name && t.attrs.isEmpty && t.text.isEmpty
  else if t.kind = 4 then t.name.isEmpty && t.attrs.isEmpty && !t.text.isEmpty && okT t.text else false
/-- An attribute as it is written; a token. -/
def writeA (p : Pr) : List UInt8 := 32 :: (p.name ++ 61 :: 34 :: (escL true p.value ++ [34]))
def writeT (t : Tk) : List UInt8 :=
  if t.kind = 4 then escL false t.text else if t.kind = 2 then 60 :: 47 :: (t.name ++ [62])
  else 60 :: (t.name ++ (t.attrs.flatMap writeA ++ (if t.kind = 3 then [47, 62] else [62])))
/-- No two texts stand side by side. -/
def apart : List Tk → Bool
  | [] => true
  | [_] => true
  | a :: b :: r => !(decide (a.kind = 4) && decide (b.kind = 4)) && apart (b :: r)
theorem attrL_write (p : Pr) (hf : fullL p.name = true) (r : List UInt8) : attrL (p.name ++ 61 :: 34 :: (escL true p.value ++ 34 :: r)) = some (p, r) := by
  refine (attrL_iff _ _ _).2 ⟨[], [], 34 :: (escL true p.value ++ 34 :: r), by simp, hf, by simp, by simp, (valL_iff _ _ _).2 ⟨34, escL true p.value, rfl, .inl rfl, fun h => ?_, toldL_esc _⟩⟩
  exact ((escL_ok true p.value 34 h).2.2.2 rfl).1 rfl
theorem TagI_write : ∀ (l acc : List Pr) (b : Bool) (r : List UInt8), attrsF acc l = true → TagI acc (l.flatMap writeA ++ ((if b then [47, 62] else [62]) ++ r)) b (acc ++ l) r := by
  intro l
  induction l with
  | nil =>
    intro acc b r _
    rw [List.append_nil]
    cases b
    · exact .shut acc [] r (by simp)
    · exact .bare acc [] r (by simp)
  | cons p l ih =>
    intro acc b r h
    unfold attrsF at h
    simp only [Bool.and_eq_true, Bool.not_eq_true'] at h
    obtain ⟨⟨⟨h1, h2⟩, h3⟩, h4⟩ := h
    have e : (p :: l).flatMap writeA ++ ((if b then [47, 62] else [62]) ++ r) = [32] ++ (p.name ++ 61 :: 34 :: (escL true p.value ++ 34 :: (l.flatMap writeA ++ ((if b then [47, 62] else [62]) ++ r)))) := by
      rw [List.flatMap_cons]
      simp [writeA]
    rw [e]
    have := ih (acc ++ [p]) b r h4
    rw [List.append_assoc, List.singleton_append] at this
    exact .attr acc [32] _ _ p b _ r (by decide) (by simp) (attrL_write p h1 _) h2 this
theorem mayT_cases {t : Tk} (h : mayT t = true) : (∃ b : Bool, t.kind = (if b then 3 else 1) ∧ fullL t.name = true ∧ attrsOk t.attrs = true ∧ t.text = []) ∨ (t.kind = 2 ∧ fullL t.name = true ∧ t.attrs = [] ∧ t.text = []) ∨ (t.kind = 4 ∧ t.name = [] ∧ t.attrs = [] ∧ t.text ≠ [] ∧ okT t.text = true) := by
  unfold mayT at h
  by_cases h1 : t.kind = 1 ∨ t.kind = 3
  · rw [if_pos h1] at h
    simp only [Bool.and_eq_true, List.isEmpty_iff] at h
    rcases h1 with h1 | h1
    · exact .inl ⟨false, h1, h.1.1, h.1.2, h.2⟩
    · exact .inl ⟨true, h1, h.1.1, h.1.2, h.2⟩
  · rw [if_neg h1] at h
    by_cases h2 : t.kind = 2
    · rw [if_pos h2] at h
      simp only [Bool.and_eq_true, List.isEmpty_iff] at h
      exact .inr (.inl ⟨h2, h.1.1, h.1.2, h.2⟩)
    · rw [if_neg h2] at h
      by_cases h4 : t.kind = 4
      · rw [if_pos h4] at h
        simp only [Bool.and_eq_true, List.isEmpty_iff, Bool.not_eq_true', List.isEmpty_eq_false_iff] at h
        exact .inr (.inr ⟨h4, h.1.1.1, h.1.1.2, h.1.2, h.2⟩)
      · rw [if_neg h4] at h; cases h
theorem oneL_tag (l r : List UInt8) (t : Tk) : oneL (60 :: l) = some (t, r) ↔ tagL l = some (t, r) := by
  unfold oneL
  dsimp only
  rw [if_pos rfl]
/-- A tag that is written is read as that. -/
theorem oneL_write {t : Tk} (h : mayT t = true) (h4 : t.kind ≠ 4) (r : List UInt8) : oneL (writeT t ++ r) = some (t, r) := by
  unfold writeT
  rw [if_neg h4]
  rcases mayT_cases h with ⟨b, h1, h2, h3, h5⟩ | ⟨h1, h2, h3, h5⟩ | ⟨h1, _⟩
  · have hk : t.kind ≠ 2 := by rw [h1]; cases b <;> decide
    rw [if_neg hk]
    have ha : attrsF [] t.attrs = true := by unfold attrsOk at h3; rw [Bool.and_eq_true] at h3; exact h3.1
    have e : (if t.kind = 3 then [47, 62] else [62] : List UInt8) = if b then [47, 62] else [62] := by rw [h1]; cases b <;> rfl
    have ht := TagI_write t.attrs [] b r ha
    rw [e, List.cons_append, List.append_assoc, List.append_assoc]
    refine (oneL_tag _ _ _).2 ((tagL_iff _ _ _).2 (.inr ⟨b, _, rfl, h2, ht, ?_⟩))
    cases t
    simp only at h1 h5
    subst h1 h5
    rfl
  · rw [if_pos h1]
    refine (oneL_tag _ _ _).2 ((tagL_iff _ _ _).2 (.inl ⟨[], by simp, h2, by simp, ?_⟩))
    cases t
    simp only at h1 h3 h5
    subst h1 h3 h5
    rfl
  · exact absurd h1 h4
theorem txt_iff (c : UInt8) : txt c = true ↔ c ≠ 60 := by unfold txt; simp
/-- A text that is written is read as that, ahead of a tag or the end. -/
theorem oneL_text {t : Tk} (h : mayT t = true) (h4 : t.kind = 4) (r : List UInt8) (hr : ∀ c s, r = c :: s → c = 60) : oneL (writeT t ++ r) = some (t, r) := by
  unfold writeT
  rw [if_pos h4]
  rcases mayT_cases h with ⟨b, h1, _⟩ | ⟨h1, _⟩ | ⟨_, h1, h2, h3, h5⟩
  · rw [h4] at h1; cases b <;> cases h1
  · rw [h4] at h1; cases h1
  · have hl := (escL_len false t.text).1
    have hok := escL_ok false t.text
    have hsp := tw_app (p := txt) (a := escL false t.text) (b := r) (fun c hc => (txt_iff c).2 (hok c hc).1) (fun c s e => by rw [hr c s e]; rfl)
    cases he : escL false t.text with
    | nil =>
      rw [he] at hl
      exact absurd (List.eq_nil_of_length_eq_zero (Nat.le_zero.1 hl)) h3
    | cons c s =>
      have hc : c ≠ 60 := (hok c (by rw [he]; simp)).1
      rw [he] at hsp
      rw [List.cons_append] at hsp ⊢
      show (if c = 60 then _ else _) = _
      rw [if_neg hc, hsp.1, hsp.2, ← he, rd_esc]
      show some ((⟨4, [], [], t.text⟩ : Tk), r) = _
      cases t
      simp only at h4 h1 h2
      subst h4 h1 h2
      rfl
/-- What a text that begins with a token begins with. -/
theorem oneL_kind {l r : List UInt8} {t : Tk} (h : oneL l = some (t, r)) : (t.kind ≠ 4 ∧ ∃ s, l = 60 :: s ∧ tagL s = some (t, r)) ∨
    (t.kind = 4 ∧ l.head? ≠ some 60 ∧ ∃ a x, l = a ++ r ∧ a ≠ [] ∧ (∀ c ∈ a, c ≠ 60) ∧ rd a = some x ∧ t = ⟨4, [], [], x⟩ ∧ ∀ c s, r = c :: s → c = 60) := by
  cases l with
  | nil => cases h
  | cons c s =>
    by_cases hc : c = 60
    · subst hc
      have ht := (oneL_tag _ _ _).1 h
      left
      refine ⟨?_, s, rfl, ht⟩
      rcases (tagL_iff _ _ _).1 ht with ⟨g, _, _, _, e⟩ | ⟨b, y, _, _, _, e⟩
      · rw [e]; simp
      · rw [e]; cases b <;> simp
    · right
      unfold oneL at h
      dsimp only at h
      rw [if_neg hc] at h
      cases hr : rd ((c :: s).takeWhile txt) with
      | none => rw [hr] at h; cases h
      | some x =>
        rw [hr] at h
        obtain ⟨rfl, rfl⟩ := (Prod.mk.injEq _ _ _ _).mp (Option.some.inj h)
        obtain ⟨e1, e2, e3⟩ := tw_split txt (c :: s)
        refine ⟨rfl, by simpa using hc, _, x, e1, ?_, fun d hd => (txt_iff d).1 (e2 d hd), hr, rfl, fun d q e => ?_⟩
        · have : txt c = true := (txt_iff c).2 hc
          rw [List.takeWhile_cons, this]
          simp
        · have := e3 d q e
          unfold txt at this
          simpa using this
theorem oneL_app {l r : List UInt8} {t : Tk} (h : oneL l = some (t, r)) (z : List UInt8) (hz : t.kind ≠ 4 ∨ r ≠ [] ∨ ∀ c s, z = c :: s → c = 60) : oneL (l ++ z) = some (t, r ++ z) := by
  rcases oneL_kind h with ⟨h1, s, rfl, ht⟩ | ⟨h1, h2, a, x, rfl, h3, h4, h5, rfl, h6⟩
  · exact (oneL_tag _ _ _).2 (tagL_app ht z)
  · have hb : ∀ c s, r ++ z = c :: s → txt c = false := by
      intro c s e
      have : c = 60 := by
        cases r with
        | nil =>
          rcases hz with hz | hz | hz
          · exact absurd h1 hz
          · exact absurd rfl hz
          · exact hz c s e
        | cons d q =>
          obtain ⟨rfl, _⟩ := List.cons.inj e
          exact h6 d q rfl
      rw [this]; rfl
    have hsp := tw_app (p := txt) (a := a) (b := r ++ z) (fun c hc => (txt_iff c).2 (h4 c hc)) hb
    rw [List.append_assoc]
    cases a with
    | nil => exact absurd rfl h3
    | cons c s =>
      have hc : c ≠ 60 := h4 c (by simp)
      rw [List.cons_append] at hsp ⊢
      show (if c = 60 then _ else _) = _
      rw [if_neg hc, hsp.1, hsp.2, h5]
      rfl
/-- A text's tokens. -/
inductive LexI : List Tk → List UInt8 → Prop
  | nil : LexI [] []
  | cons (t : Tk) (ts : List Tk) (l r : List UInt8) : oneL l = some (t, r) → LexI ts r → LexI (t :: ts) l
theorem LexI.same {a b : List Tk} {l : List UInt8} (h : LexI a l) (k : LexI b l) : a = b := by
  induction h generalizing b with
  | nil =>
    cases k with
    | nil => rfl
    | cons t ts l r h1 h2 => cases h1
  | cons t ts l r h1 h2 ih =>
    cases k with
    | nil => cases h1
    | cons t' ts' _ r' k1 k2 =>
      rw [h1] at k1
      obtain ⟨rfl, rfl⟩ := (Prod.mk.injEq _ _ _ _).mp (Option.some.inj k1)
      rw [ih k2]
theorem LexI.len {a : List Tk} {l : List UInt8} (h : LexI a l) : a.length ≤ l.length := by
  induction h with
  | nil => exact Nat.le_refl _
  | cons t ts l r h1 h2 ih => have := oneL_len h1; rw [List.length_cons]; omega
theorem LexI.first {t : Tk} {a : List Tk} {l : List UInt8} (h : LexI (t :: a) l) (ht : t.kind ≠ 4) : ∀ c s, l = c :: s → c = 60 := by
  intro c s e
  cases h with
  | cons _ _ _ r h1 h2 =>
    rcases oneL_kind h1 with ⟨_, q, e2, _⟩ | ⟨h3, _⟩
    · rw [e2] at e
      exact (List.cons.inj e).1.symm
    · exact absurd h3 ht
/-- Two texts' tokens are both's, where not both have words at the cut. -/
theorem LexI.app {a b : List Tk} {l m : List UInt8} (h : LexI a l) (k : LexI b m) (hc : ∀ x y r s, a = r ++ [x] → b = y :: s → x.kind ≠ 4 ∨ y.kind ≠ 4) : LexI (a ++ b) (l ++ m) := by
  induction h with
  | nil => exact k
  | cons t ts l r h1 h2 ih =>
    have ih2 := ih (fun x y r s e1 e2 => hc x y (t :: r) s (by rw [e1]; rfl) e2)
    refine .cons t (ts ++ b) (l ++ m) (r ++ m) (oneL_app h1 m ?_) ih2
    by_cases ht : t.kind = 4
    · right
      by_cases hr : r = []
      · right
        subst hr
        have hts : ts = [] := by
          cases h2 with
          | nil => rfl
          | cons _ _ _ _ h3 _ => cases h3
        cases b with
        | nil =>
          cases k
          intro c s e
          cases e
        | cons y s =>
          rcases hc t y [] s (by rw [hts]; rfl) rfl with h3 | h3
          · exact absurd ht h3
          · exact k.first h3
      · exact .inl hr
    · exact .inl ht
theorem apart_tail {t : Tk} {l : List Tk} (h : apart (t :: l) = true) : apart l = true := by
  cases l with
  | nil => rfl
  | cons b r => unfold apart at h; rw [Bool.and_eq_true] at h; exact h.2
/-- What is written of tokens is read as these. -/
theorem LexI_write : ∀ (l : List Tk), (∀ t ∈ l, mayT t = true) → apart l = true → LexI l (l.flatMap writeT) := by
  intro l
  induction l with
  | nil => intro _ _; exact .nil
  | cons t l ih =>
    intro hm ha
    have i := ih (fun x hx => hm x (by simp [hx])) (apart_tail ha)
    rw [List.flatMap_cons]
    refine .cons t l _ (l.flatMap writeT) ?_ i
    by_cases h4 : t.kind = 4
    · refine oneL_text (hm t (by simp)) h4 _ fun c s e => ?_
      cases l with
      | nil => cases e
      | cons b r =>
        unfold apart at ha
        rw [Bool.and_eq_true] at ha
        refine i.first (fun hb => ?_) c s e
        rw [h4, hb] at ha
        exact absurd ha.1 (by decide)
    · exact oneL_write (hm t (by simp)) h4 _
theorem writeT_first {t : Tk} (h : mayT t = true) : writeT t ≠ [] := by
  unfold writeT
  by_cases h4 : t.kind = 4
  · rw [if_pos h4]
    rcases mayT_cases h with ⟨b, h1, _⟩ | ⟨h1, _⟩ | ⟨_, _, _, h3, _⟩
    · rw [h4] at h1; cases b <;> cases h1
    · rw [h4] at h1; cases h1
    · intro e
      have := (escL_len false t.text).1
      rw [e] at this
      exact h3 (List.eq_nil_of_length_eq_zero (Nat.le_zero.1 this))
  · rw [if_neg h4]
    by_cases h2 : t.kind = 2
    · rw [if_pos h2]; simp
    · rw [if_neg h2]; simp
/-- Signs alone are a text. -/
theorem isP_signs (l : List UInt8) (h : ∀ c ∈ l, c.toNat < 128 ∧ may (c.toNat : Int) = true) : isP l = true := by
  induction l with
  | nil => rfl
  | cons c l ih => exact isP_app (isP_one (h c (by simp)).1 (h c (by simp)).2) (ih fun x hx => h x (by simp [hx]))
theorem may_far {n : Nat} (h : 32 ≤ n) (h2 : n < 128) : may (n : Int) = true := by unfold may; rw [if_neg (by omega)]; simp; omega
theorem fullL_text {l : List UInt8} (h : fullL l = true) : isP l = true := isP_signs l fun c hc => by
  obtain ⟨_, _, _, _, _, _, _, h1, h2⟩ := wch_far (fullL_all h c hc)
  exact ⟨h1, may_far (by omega) h1⟩
theorem okT_text {l : List UInt8} (h : okT l = true) : isP l = true := by unfold okT at h; rw [Bool.and_eq_true] at h; exact h.2
theorem attrsF_text : ∀ (l acc : List Pr), attrsF acc l = true → isP (l.flatMap writeA) = true := by
  intro l
  induction l with
  | nil => intro _ _; rfl
  | cons p l ih =>
    intro acc h
    unfold attrsF at h
    simp only [Bool.and_eq_true] at h
    rw [List.flatMap_cons]
    refine isP_app ?_ (ih _ h.2)
    unfold writeA
    have e : (32 :: (p.name ++ 61 :: 34 :: (escL true p.value ++ [34])) : List UInt8) = [32] ++ (p.name ++ ([61, 34] ++ (escL true p.value ++ [34]))) := by simp
    rw [e]
    exact isP_app (by decide +kernel) (isP_app (fullL_text h.1.1.1) (isP_app (by decide +kernel) (isP_app (pts_esc true _ (okT_text h.1.2)) (by decide +kernel))))
theorem writeT_text {t : Tk} (h : mayT t = true) : isP (writeT t) = true := by
  unfold writeT
  rcases mayT_cases h with ⟨b, h1, h2, h3, h5⟩ | ⟨h1, h2, h3, h5⟩ | ⟨h1, _, _, _, h5⟩
  · have hk : t.kind ≠ 4 := by rw [h1]; cases b <;> decide
    have hk2 : t.kind ≠ 2 := by rw [h1]; cases b <;> decide
    have ha : attrsF [] t.attrs = true := by unfold attrsOk at h3; rw [Bool.and_eq_true] at h3; exact h3.1
    rw [if_neg hk, if_neg hk2]
    show isP ([60] ++ _) = true
    refine isP_app (by decide +kernel) (isP_app (fullL_text h2) (isP_app (attrsF_text _ _ ha) ?_))
    split <;> decide +kernel
  · rw [if_neg (by rw [h1]; decide), if_pos h1]
    show isP ([60, 47] ++ (t.name ++ [62])) = true
    exact isP_app (by decide +kernel) (isP_app (fullL_text h2) (by decide +kernel))
  · rw [if_pos h1]
    exact pts_esc false _ (okT_text h5)
theorem write_text (l : List Tk) (h : ∀ t ∈ l, mayT t = true) : isP (l.flatMap writeT) = true := by
  induction l with
  | nil => rfl
  | cons t l ih =>
    rw [List.flatMap_cons]
    exact isP_app (writeT_text (h t (by simp))) (ih fun x hx => h x (by simp [hx]))
end Lx
end Go.Proofs.Ytfdhogaknlabkaa
namespace Go.Proofs.Ytfdhogaknlabkaa
namespace Lx
open Tx Nmb Es
set_option linter.unusedVariables false
theorem isP_behind {g l : List UInt8} (h : isP (g ++ l) = true) (hg : ∀ c ∈ g, c.toNat < 128) : isP l = true := by
  induction g with
  | nil => exact h
  | cons c g ih => exact ih (isP_split (a := []) (b := g ++ l) (c := c) h (hg c (by simp))).2.1 (fun x hx => hg x (by simp [hx]))
theorem blk_low {c : UInt8} (h : blk c = true) : c.toNat < 128 := (blk_far h).2.2.2.2.2.2.2
theorem wch_low {c : UInt8} (h : wch c = true) : c.toNat < 128 := (wch_far h).2.2.2.2.2.2.2.1
theorem q_low {q : UInt8} (h : q = 34 ∨ q = 39) : q.toNat < 128 := by rcases h with rfl | rfl <;> decide
/-- An attribute that is read of a text may be; what is left is a text. -/
theorem attrL_text {l r : List UInt8} {p : Pr} (h : attrL l = some (p, r)) (hp : isP l = true) (hl : l.length ≤ 16384) : fullL p.name = true ∧ okT p.value = true ∧ isP r = true ∧ (writeA p).length + 6 * r.length ≤ 6 * l.length + 5 := by
  obtain ⟨g1, g2, x, rfl, h1, h2, h3, h4⟩ := (attrL_iff _ _ _).1 h
  obtain ⟨q, raw, rfl, h5, h6, h7⟩ := (valL_iff _ _ _).1 h4
  have k1 := isP_behind hp (fun c hc => wch_low (fullL_all h1 c hc))
  have k2 := isP_behind k1 (fun c hc => blk_low (h2 c hc))
  have k3 := (isP_split (a := []) (c := 61) k2 (by decide)).2.1
  have k4 := isP_behind k3 (fun c hc => blk_low (h3 c hc))
  have k5 := (isP_split (a := []) (c := q) k4 (q_low h5)).2.1
  obtain ⟨k6, k7, _⟩ := isP_split k5 (q_low h5)
  obtain ⟨k8, k9⟩ := toldL_text k6 h7
  have hel := (escL_len true p.value).2
  simp only [List.length_append, List.length_cons] at hl
  refine ⟨h1, by unfold okT; rw [k8, Bool.and_true, decide_eq_true_eq]; omega, k7, ?_⟩
  unfold writeA
  simp only [List.length_append, List.length_cons, List.length_nil]
  omega
theorem TagI.text {acc : List Pr} {l : List UInt8} {b : Bool} {at1 : List Pr} {x : List UInt8} (h : TagI acc l b at1 x) (hp : isP l = true) (hl : l.length ≤ 16384) : ∃ more, at1 = acc ++ more ∧ attrsF acc more = true ∧ isP x = true ∧ (more.flatMap writeA).length + (if b then 2 else 1) + 6 * x.length ≤ 6 * l.length := by
  induction h with
  | shut acc g x hg =>
    have := isP_behind hp (fun c hc => blk_low (hg c hc))
    exact ⟨[], by simp, rfl, (isP_split (a := []) (c := 62) this (by decide)).2.1, by simp; omega⟩
  | bare acc g x hg =>
    have := isP_behind hp (fun c hc => blk_low (hg c hc))
    have := (isP_split (a := []) (c := 47) this (by decide)).2.1
    exact ⟨[], by simp, rfl, (isP_split (a := []) (c := 62) this (by decide)).2.1, by simp; omega⟩
  | attr acc g l y p b at1 x hg hn ha hh _ ih =>
    have k1 := isP_behind hp (fun c hc => blk_low (hg c hc))
    rw [List.length_append] at hl
    obtain ⟨k2, k3, k4, k5⟩ := attrL_text ha k1 (by omega)
    have hy := attrL_len ha
    obtain ⟨more, e1, e2, e3, e4⟩ := ih k4 (by omega)
    refine ⟨p :: more, by rw [e1]; simp, ?_, e3, ?_⟩
    · unfold attrsF
      rw [k2, hh, k3, e2]
      rfl
    · rw [List.flatMap_cons, List.length_append, List.length_append]
      have : 1 ≤ g.length := List.length_pos_iff.2 hn
      omega
/-- A token that is read of a text may be, but for how many attributes it has. -/
def mayL (t : Tk) : Prop := t.attrs.length ≤ 16 → mayT t = true
theorem mayL_tag {b : Bool} {name : List UInt8} {at1 : List Pr} (h1 : fullL name = true) (h2 : attrsF [] at1 = true) : mayL ⟨if b then 3 else 1, name, at1, []⟩ := by
  intro hl
  unfold mayT
  dsimp only at hl ⊢
  rw [if_pos (by cases b <;> simp)]
  unfold attrsOk
  rw [h1, h2]
  simp [hl]
theorem oneL_text1 {l r : List UInt8} {t : Tk} (h : oneL l = some (t, r)) (hp : isP l = true) (hl : l.length ≤ 16384) : mayL t ∧ isP r = true ∧ (writeT t).length + 6 * r.length ≤ 6 * l.length := by
  rcases oneL_kind h with ⟨h1, s, rfl, ht⟩ | ⟨h1, h2, a, x, rfl, h3, h4, h5, rfl, h6⟩
  · have k0 := (isP_split (a := []) (c := 60) hp (by decide)).2.1
    rw [List.length_cons] at hl
    rcases (tagL_iff _ _ _).1 ht with ⟨g, rfl, k1, k2, k3⟩ | ⟨b, y, rfl, k1, k2, k3⟩
    · have q1 := (isP_split (a := []) (c := 47) k0 (by decide)).2.1
      have q2 := isP_behind q1 (fun c hc => wch_low (fullL_all k1 c hc))
      have q3 := isP_behind q2 (fun c hc => blk_low (k2 c hc))
      have q4 := (isP_split (a := []) (c := 62) q3 (by decide)).2.1
      refine ⟨fun _ => ?_, q4, ?_⟩
      · rw [k3]
        unfold mayT
        simp [k1]
      · rw [k3]
        unfold writeT
        simp only [List.length_append, List.length_cons]
        rw [if_neg (by decide), if_pos trivial]
        simp only [List.length_append, List.length_cons, List.length_nil]
        omega
    · have q2 := isP_behind k0 (fun c hc => wch_low (fullL_all k1 c hc))
      rw [List.length_append] at hl
      obtain ⟨more, e1, e2, e3, e4⟩ := k2.text q2 (by omega)
      rw [List.nil_append] at e1
      rw [k3]
      refine ⟨mayL_tag k1 (by rw [e1]; exact e2), e3, ?_⟩
      unfold writeT
      rw [e1]
      dsimp only
      rw [if_neg (by cases b <;> simp), if_neg (by cases b <;> simp)]
      simp only [List.length_append, List.length_cons]
      cases b
      · rw [if_neg (by simp)]
        simp only [List.length_cons, List.length_nil, Bool.false_eq_true, if_false] at e4 ⊢
        omega
      · rw [if_pos (by simp)]
        simp only [List.length_cons, List.length_nil, if_true] at e4 ⊢
        omega
  · have ha : isP a = true ∧ isP r = true := by
      cases r with
      | nil => rw [List.append_nil] at hp; exact ⟨hp, rfl⟩
      | cons c s =>
        obtain rfl := h6 c s rfl
        obtain ⟨q1, q2, q3⟩ := isP_split hp (by decide)
        exact ⟨q1, isP_app (a := [60]) (by decide +kernel) q2⟩
    have hx := rd_text _ _ _ (Nat.le_refl _) ha.1 h5
    obtain ⟨hx2, hx3⟩ := rd_len _ _ _ (Nat.le_refl _) h5
    rw [List.length_append] at hl
    have hel := (escL_len false x).2
    refine ⟨fun _ => ?_, ha.2, ?_⟩
    · unfold mayT
      have : x ≠ [] := hx3 h3
      have h16 : x.length ≤ 16384 := by omega
      simp [okT, hx, this, h16]
    · unfold writeT
      rw [if_pos rfl, List.length_append]
      dsimp only
      omega
theorem LexI.text {a : List Tk} {l : List UInt8} (h : LexI a l) (hp : isP l = true) (hl : l.length ≤ 16384) : (∀ t ∈ a, mayL t) ∧ apart a = true ∧ (a.flatMap writeT).length ≤ 6 * l.length := by
  induction h with
  | nil => exact ⟨fun t h => (by cases h), rfl, Nat.le_refl _⟩
  | cons t ts l r h1 h2 ih =>
    obtain ⟨k1, k2, k3⟩ := oneL_text1 h1 hp hl
    have := oneL_len h1
    obtain ⟨i1, i2, i3⟩ := ih k2 (by omega)
    refine ⟨fun x hx => ?_, ?_, ?_⟩
    · rcases List.mem_cons.1 hx with rfl | hx
      · exact k1
      · exact i1 x hx
    · cases ts with
      | nil => rfl
      | cons u ts =>
        unfold apart
        rw [i2, Bool.and_true]
        rcases oneL_kind h1 with ⟨q1, _⟩ | ⟨q1, _, a, x, _, _, _, _, _, q6⟩
        · simp [q1]
        · cases h2 with
          | cons _ _ _ r2 h3 h4 =>
            rcases oneL_kind h3 with ⟨p1, _⟩ | ⟨_, p2, b, x2, rfl, p3, p4, _⟩
            · simp [p1]
            · exfalso
              cases b with
              | nil => exact p3 rfl
              | cons c s => exact p4 c (by simp) (q6 c (s ++ r2) rfl)
    · rw [List.flatMap_cons, List.length_append]
      omega
/-- Token by token: these, or the error and how much is left. -/
def lexE : Nat → Nat → List UInt8 → Except (Int × Nat) (List Tk)
  | _, _, [] => .ok []
  | 0, _, _ :: _ => .ok []
  | f + 1, n, c :: l => match oneL (c :: l) with
    | none => .error (if n = 512 then 4 else 80, l.length + 1)
    | some (t, r) => if n = 512 ∨ 16 < t.attrs.length then .error (4, l.length + 1) else (lexE f (n + 1) r).map (t :: ·)
theorem lexE_ok : ∀ (f n : Nat) (l : List UInt8) (ts : List Tk), l.length ≤ f → n ≤ 512 → (lexE f n l = .ok ts ↔ LexI ts l ∧ n + ts.length ≤ 512 ∧ ∀ t ∈ ts, t.attrs.length ≤ 16) := by
  intro f
  induction f with
  | zero =>
    intro n l ts hl hn
    obtain rfl := List.eq_nil_of_length_eq_zero (Nat.le_zero.1 hl)
    constructor
    · intro h
      obtain rfl : [] = ts := Except.ok.inj h
      exact ⟨.nil, hn, fun t h => by cases h⟩
    · rintro ⟨h, _⟩
      cases h with
      | nil => rfl
      | cons t ts l r h1 h2 => cases h1
  | succ f ih =>
    intro n l ts hl hn
    cases l with
    | nil =>
      constructor
      · intro h
        obtain rfl : [] = ts := Except.ok.inj h
        exact ⟨.nil, hn, fun t h => by cases h⟩
      · rintro ⟨h, _⟩
        cases h with
        | nil => rfl
        | cons t ts l r h1 h2 => cases h1
    | cons c l =>
      show (match oneL (c :: l) with | none => _ | some (t, r) => _) = _ ↔ _
      cases ho : oneL (c :: l) with
      | none =>
        constructor
        · intro h; cases h
        · rintro ⟨h, _⟩
          cases h with
          | cons t ts _ r h1 h2 => rw [ho] at h1; cases h1
      | some q =>
        obtain ⟨t, r⟩ := q
        have hrl := oneL_len ho
        dsimp only
        by_cases hc : n = 512 ∨ 16 < t.attrs.length
        · rw [if_pos hc]
          constructor
          · intro h; cases h
          · rintro ⟨h, h2, h3⟩
            cases h with
            | cons t' ts _ r' h1 h4 =>
              rw [ho] at h1
              obtain ⟨rfl, rfl⟩ := (Prod.mk.injEq _ _ _ _).mp (Option.some.inj h1)
              rw [List.length_cons] at h2
              have := h3 t (by simp)
              omega
        · rw [if_neg hc]
          have hn2 : n + 1 ≤ 512 := by omega
          rw [List.length_cons] at hl hrl
          constructor
          · intro h
            cases he : lexE f (n + 1) r with
            | error e => rw [he] at h; cases h
            | ok ts' =>
              rw [he] at h
              obtain rfl : t :: ts' = ts := Except.ok.inj h
              obtain ⟨k1, k2, k3⟩ := (ih (n + 1) r ts' (by omega) hn2).1 he
              refine ⟨.cons t ts' _ r ho k1, by rw [List.length_cons]; omega, fun x hx => ?_⟩
              rcases List.mem_cons.1 hx with rfl | hx
              · omega
              · exact k3 x hx
          · rintro ⟨h, h2, h3⟩
            cases h with
            | cons t' ts _ r' h1 h4 =>
              rw [ho] at h1
              obtain ⟨rfl, rfl⟩ := (Prod.mk.injEq _ _ _ _).mp (Option.some.inj h1)
              rw [List.length_cons] at h2
              rw [(ih (n + 1) r ts (by omega) hn2).2 ⟨h4, by omega, fun x hx => h3 x (by simp [hx])⟩]
              rfl
theorem lexE_err : ∀ (f n : Nat) (l : List UInt8) (e : Int) (k : Nat), l.length ≤ f → n ≤ 512 → lexE f n l = .error (e, k) → (e = 4 ∨ e = 80) ∧ 0 < k ∧ k ≤ l.length := by
  intro f
  induction f with
  | zero =>
    intro n l e k hl hn h
    obtain rfl := List.eq_nil_of_length_eq_zero (Nat.le_zero.1 hl)
    cases h
  | succ f ih =>
    intro n l e k hl hn h
    cases l with
    | nil => cases h
    | cons c l =>
      have h' : (match oneL (c :: l) with
        | none => Except.error (if n = 512 then (4 : Int) else 80, l.length + 1)
        | some (t, r) => if n = 512 ∨ 16 < t.attrs.length then .error (4, l.length + 1) else (lexE f (n + 1) r).map (t :: ·)) = Except.error (e, k) := h
      cases ho : oneL (c :: l) with
      | none =>
        rw [ho] at h'
        dsimp only at h'
        obtain ⟨rfl, rfl⟩ := (Prod.mk.injEq _ _ _ _).mp (Except.error.inj h')
        refine ⟨?_, by omega, by rw [List.length_cons]; omega⟩
        split
        · exact .inl rfl
        · exact .inr rfl
      | some q =>
        obtain ⟨t, r⟩ := q
        rw [ho] at h'
        dsimp only at h'
        have hrl := oneL_len ho
        rw [List.length_cons] at hl hrl
        by_cases hc : n = 512 ∨ 16 < t.attrs.length
        · rw [if_pos hc] at h'
          obtain ⟨rfl, rfl⟩ := (Prod.mk.injEq _ _ _ _).mp (Except.error.inj h')
          exact ⟨.inl rfl, by omega, by rw [List.length_cons]; omega⟩
        · rw [if_neg hc] at h'
          cases he : lexE f (n + 1) r with
          | error p =>
            obtain ⟨e', k'⟩ := p
            rw [he] at h'
            obtain ⟨rfl, rfl⟩ := (Prod.mk.injEq _ _ _ _).mp (Except.error.inj h')
            obtain ⟨q1, q2, q3⟩ := ih (n + 1) r e' k' (by omega) (by omega) he
            exact ⟨q1, q2, by rw [List.length_cons]; omega⟩
          | ok ts => rw [he] at h'; cases h'
/-- What Lex answers: tokens, a place, an error. -/
def lexR (l : List UInt8) : List Tk × Int × Int :=
  if 16384 < l.length then ([], 0, 4) else if isP l then (match lexE l.length 0 l with | .ok ts => (ts, 0, 0) | .error (e, k) => ([], (l.length : Int) - k, e)) else ([], 0, 50)
/-- What Join answers. -/
def joinR (l : List Tk) : List UInt8 × Int :=
  if l.all mayT = true ∧ apart l = true then (if 512 < l.length ∨ 16384 < (l.flatMap writeT).length then ([], 4) else (l.flatMap writeT, 0)) else ([], 8)
theorem lexR_ok {l : List UInt8} {ts : List Tk} {n : Int} (h : lexR l = (ts, n, 0)) : n = 0 ∧ LexI ts l ∧ isP l = true ∧ l.length ≤ 16384 ∧ ts.length ≤ 512 ∧ ∀ t ∈ ts, t.attrs.length ≤ 16 := by
  unfold lexR at h
  by_cases h1 : 16384 < l.length
  · rw [if_pos h1] at h; cases h
  · rw [if_neg h1] at h
    by_cases h2 : isP l = true
    · rw [if_pos h2] at h
      cases he : lexE l.length 0 l with
      | ok a =>
        rw [he] at h
        obtain ⟨rfl, rfl⟩ : a = ts ∧ 0 = n := by simpa using h
        obtain ⟨k1, k2, k3⟩ := (lexE_ok _ _ _ _ (Nat.le_refl _) (by omega)).1 he
        exact ⟨rfl, k1, h2, by omega, by omega, k3⟩
      | error p =>
        obtain ⟨e, k⟩ := p
        rw [he] at h
        obtain ⟨q, _⟩ := lexE_err _ _ _ _ _ (Nat.le_refl _) (by omega) he
        have : e = 0 := by simp at h; exact h.2.2
        omega
    · rw [if_neg h2] at h; cases h
theorem lexR_of {l : List UInt8} {ts : List Tk} (h1 : LexI ts l) (h2 : isP l = true) (h3 : l.length ≤ 16384) (h4 : ts.length ≤ 512) (h5 : ∀ t ∈ ts, t.attrs.length ≤ 16) : lexR l = (ts, 0, 0) := by
  unfold lexR
  rw [if_neg (by omega), if_pos h2, (lexE_ok _ _ _ _ (Nat.le_refl _) (by omega)).2 ⟨h1, by omega, h5⟩]
theorem lexR_bad {l : List UInt8} {ts : List Tk} {n e : Int} (h : lexR l = (ts, n, e)) (he : e ≠ 0) : ts = [] ∧ (e = 4 ∨ e = 50 ∨ e = 80) ∧ 0 ≤ n ∧ n ≤ l.length ∧ (e = 80 → n < l.length) := by
  unfold lexR at h
  by_cases h1 : 16384 < l.length
  · rw [if_pos h1] at h
    obtain ⟨rfl, rfl, rfl⟩ : [] = ts ∧ 0 = n ∧ 4 = e := by simpa using h
    exact ⟨rfl, .inl rfl, by omega, by omega, by omega⟩
  · rw [if_neg h1] at h
    by_cases h2 : isP l = true
    · rw [if_pos h2] at h
      cases hx : lexE l.length 0 l with
      | ok a =>
        rw [hx] at h
        obtain ⟨_, _, rfl⟩ : a = ts ∧ 0 = n ∧ 0 = e := by simpa using h
        exact absurd rfl he
      | error p =>
        obtain ⟨e', k⟩ := p
        rw [hx] at h
        obtain ⟨rfl, rfl, rfl⟩ : [] = ts ∧ (l.length : Int) - k = n ∧ e' = e := by simpa using h
        obtain ⟨q1, q2, q3⟩ := lexE_err _ _ _ _ _ (Nat.le_refl _) (by omega) hx
        exact ⟨rfl, by omega, by omega, by omega, by omega⟩
    · rw [if_neg h2] at h
      obtain ⟨rfl, rfl, rfl⟩ : [] = ts ∧ 0 = n ∧ 50 = e := by simpa using h
      exact ⟨rfl, .inr (.inl rfl), by omega, by omega, by omega⟩
theorem mayT_attrs {t : Tk} (h : mayT t = true) : t.attrs.length ≤ 16 := by
  rcases mayT_cases h with ⟨b, _, _, h3, _⟩ | ⟨_, _, h3, _⟩ | ⟨_, _, h3, _⟩
  · unfold attrsOk at h3
    rw [Bool.and_eq_true, decide_eq_true_eq] at h3
    exact h3.2
  · rw [h3]; simp
  · rw [h3]; simp
/-- What is written is read as these tokens. -/
theorem join_lex {l : List Tk} {x : List UInt8} (h : joinR l = (x, 0)) : lexR x = (l, 0, 0) := by
  unfold joinR at h
  by_cases h1 : l.all mayT = true ∧ apart l = true
  · rw [if_pos h1] at h
    by_cases h2 : 512 < l.length ∨ 16384 < (l.flatMap writeT).length
    · rw [if_pos h2] at h; cases h
    · rw [if_neg h2] at h
      obtain ⟨rfl, _⟩ := (Prod.mk.injEq _ _ _ _).mp h
      have hm : ∀ t ∈ l, mayT t = true := List.all_eq_true.1 h1.1
      exact lexR_of (LexI_write l hm h1.2) (write_text l hm) (by omega) (by omega) (fun t ht => mayT_attrs (hm t ht))
  · rw [if_neg h1] at h; cases h
/-- What is read may be written again. -/
theorem lex_join {s : List UInt8} {m : List Tk} {n : Int} (h : lexR s = (m, n, 0)) (hs : s.length ≤ 2000) : joinR m = (m.flatMap writeT, 0) := by
  obtain ⟨_, h1, h2, h3, h4, h5⟩ := lexR_ok h
  obtain ⟨k1, k2, k3⟩ := h1.text h2 h3
  unfold joinR
  rw [if_pos ⟨List.all_eq_true.2 fun t ht => k1 t ht (h5 t ht), k2⟩, if_neg (by omega)]
/-- Two texts' tokens are both's. -/
theorem lex_both {a b : List UInt8} {x y : List Tk} {n m : Int} (ha : lexR a = (x, n, 0)) (hb : lexR b = (y, m, 0)) (hl : x.length + y.length ≤ 512) (hs : (a ++ b).length ≤ 16384) (hc : ∀ u v r s, x = r ++ [u] → y = v :: s → u.kind ≠ 4 ∨ v.kind ≠ 4) : lexR (a ++ b) = (x ++ y, 0, 0) := by
  obtain ⟨_, h1, h2, h3, h4, h5⟩ := lexR_ok ha
  obtain ⟨_, k1, k2, k3, k4, k5⟩ := lexR_ok hb
  refine lexR_of (h1.app k1 hc) (isP_app h2 k2) hs (by rw [List.length_append]; exact hl) fun t ht => ?_
  rcases List.mem_append.1 ht with ht | ht
  · exact h5 t ht
  · exact k5 t ht
end Lx
end Go.Proofs.Ytfdhogaknlabkaa
namespace Go.Proofs.Ytfdhogaknlabkaa
open Go.RowKit
namespace Hx
open Lx
set_option linter.unusedVariables false
def PrC : Cod Pr where
  k := 2
  R _ _ cs p := ∃ s t : ByteArray, cs = [.string s, .string t] ∧ s.data.toList = p.name ∧ t.data.toList = p.value
  len := by rintro _ _ _ _ ⟨s, t, rfl, _⟩; rfl
  keep := fun h _ _ => h
def TkC : Cod Tk where
  k := 4
  R w B cs t := ∃ (s : ByteArray) (A : Option Addr) (c : Nat) (u : ByteArray), cs = [.int .u8 (t.kind : Int), .string s, .slice A t.attrs.length c, .string u] ∧ t.kind < 256 ∧ s.data.toList = t.name ∧ u.data.toList = t.text ∧ t.attrs.length ≤ c ∧ c ≤ maxLen ∧ (A = none → c = 0) ∧ RdC PrC w B A t.attrs
  len := by rintro _ _ _ _ ⟨s, A, c, u, rfl, _⟩; rfl
  keep := fun ⟨s, A, c, u, h1, h2, h3, h4, h5, h6, h7, h8⟩ hB hk => ⟨s, A, c, u, h1, h2, h3, h4, h5, h6, h7, h8.keep hB hk⟩
theorem two_of {cs : List Value} (h : cs.length = 2) : ∃ x y, cs = [x, y] := by
  match cs, h with
  | [x, y], _ => exact ⟨x, y, rfl⟩
theorem four_of {cs : List Value} (h : cs.length = 4) : ∃ x y z u, cs = [x, y, z, u] := by
  match cs, h with
  | [x, y, z, u], _ => exact ⟨x, y, z, u, rfl⟩
section
variable {H : Type} {enc : TypeId × Value → H}
end
end Hx
end Go.Proofs.Ytfdhogaknlabkaa
