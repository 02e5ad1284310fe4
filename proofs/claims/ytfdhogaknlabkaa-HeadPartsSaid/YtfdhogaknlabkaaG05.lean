/-
  Texts of one seat, put together: TextM, NumM, EscM, LexM.
-/
import GoSem.Core.Utf8
import Derived.Test.YtfdhogaknlabkaaG00
set_option linter.unusedSimpArgs false
set_option linter.unusedVariables false
namespace Go.Proofs.Ytfdhogaknlabkaa
namespace Tx
open Go

/-- A scalar value. -/
def sv (n : Nat) : Bool := decide (n < 55296) || (decide (57344 ≤ n) && decide (n ≤ 1114111))
/-- May a code point be? -/
def may (n : Int) : Bool := if n < 32 then decide (n = 9) || decide (n = 10) || decide (n = 13) else decide (n ≤ 1114111) && (decide (n < 55296) || decide (57343 < n)) && decide (n ≠ 65534) && decide (n ≠ 65535)
theorem may_sv {n : Int} (h : may n = true) : 0 ≤ n ∧ n ≤ 1114111 ∧ sv n.toNat = true := by
  unfold may at h
  split at h
  · simp at h
    refine ⟨by omega, by omega, ?_⟩
    simp [sv]; omega
  · simp at h
    refine ⟨by omega, by omega, ?_⟩
    simp [sv]; omega
theorem sv_le {n : Nat} (h : sv n = true) : n ≤ 1114111 := by simp [sv] at h; omega

def bt (n : Nat) : UInt8 := UInt8.ofNat n
theorem bt_nat (n : Nat) (h : n < 256) : (bt n).toNat = n := by unfold bt; rw [UInt8.toNat_ofNat']; omega
/-- A scalar value's bytes. -/
def enc (n : Nat) : List UInt8 :=
  if n < 128 then [bt n]
  else if n < 2048 then [bt (192 + n / 64), bt (128 + n % 64)]
  else if n < 65536 then [bt (224 + n / 4096), bt (128 + n / 64 % 64), bt (128 + n % 64)]
  else [bt (240 + n / 262144), bt (128 + n / 4096 % 64), bt (128 + n / 64 % 64), bt (128 + n % 64)]
theorem enc_length (n : Nat) : 1 ≤ (enc n).length ∧ (enc n).length ≤ 4 := by
  unfold enc
  split
  · simp
  · split
    · simp
    · split <;> simp
/-- A byte that goes on. -/
def cont (b : UInt8) : Bool := decide (b.toNat / 64 = 2)
/-- The scalar value that bytes begin with, and how many they are. -/
def decL : List UInt8 → Option (Nat × Nat)
  | [] => none
  | a :: r =>
    if a.toNat < 128 then some (a.toNat, 1)
    else if a.toNat / 32 = 6 then
      match r with
      | b :: _ => if cont b && decide (128 ≤ a.toNat % 32 * 64 + b.toNat % 64) then some (a.toNat % 32 * 64 + b.toNat % 64, 2) else none
      | [] => none
    else if a.toNat / 16 = 14 then
      match r with
      | b :: c :: _ => if cont b && cont c && decide (2048 ≤ a.toNat % 16 * 4096 + b.toNat % 64 * 64 + c.toNat % 64) && sv (a.toNat % 16 * 4096 + b.toNat % 64 * 64 + c.toNat % 64) then some (a.toNat % 16 * 4096 + b.toNat % 64 * 64 + c.toNat % 64, 3) else none
      | _ => none
    else if a.toNat / 8 = 30 then
      match r with
      | b :: c :: d :: _ => if cont b && cont c && cont d && decide (65536 ≤ a.toNat % 8 * 262144 + b.toNat % 64 * 4096 + c.toNat % 64 * 64 + d.toNat % 64) && sv (a.toNat % 8 * 262144 + b.toNat % 64 * 4096 + c.toNat % 64 * 64 + d.toNat % 64) then some (a.toNat % 8 * 262144 + b.toNat % 64 * 4096 + c.toNat % 64 * 64 + d.toNat % 64, 4) else none
      | _ => none
    else none

theorem dec_enc (n : Nat) (h : sv n = true) (r : List UInt8) : decL (enc n ++ r) = some (n, (enc n).length) := by
  have hb := sv_le h
  unfold enc
  by_cases h1 : n < 128
  · rw [if_pos h1]
    simp only [List.cons_append, List.nil_append, decL, List.length_cons, List.length_nil]
    rw [bt_nat n (by omega), if_pos h1]
  · rw [if_neg h1]
    by_cases h2 : n < 2048
    · rw [if_pos h2]
      have e0 := bt_nat (192 + n / 64) (by omega)
      have e1 := bt_nat (128 + n % 64) (by omega)
      simp only [List.cons_append, List.nil_append, decL, List.length_cons, List.length_nil, cont, e0, e1]
      rw [if_neg (by omega), if_pos (by omega)]
      have v : (192 + n / 64) % 32 * 64 + (128 + n % 64) % 64 = n := by omega
      rw [v, if_pos (by simp; omega)]
    · rw [if_neg h2]
      by_cases h3 : n < 65536
      · rw [if_pos h3]
        have e0 := bt_nat (224 + n / 4096) (by omega)
        have e1 := bt_nat (128 + n / 64 % 64) (by omega)
        have e2 := bt_nat (128 + n % 64) (by omega)
        simp only [List.cons_append, List.nil_append, decL, List.length_cons, List.length_nil, cont, e0, e1, e2]
        rw [if_neg (by omega), if_neg (by omega), if_pos (by omega)]
        have v : (224 + n / 4096) % 16 * 4096 + (128 + n / 64 % 64) % 64 * 64 + (128 + n % 64) % 64 = n := by omega
        rw [v, if_pos (by simp [h]; omega)]
      · rw [if_neg h3]
        have e0 := bt_nat (240 + n / 262144) (by omega)
        have e1 := bt_nat (128 + n / 4096 % 64) (by omega)
        have e2 := bt_nat (128 + n / 64 % 64) (by omega)
        have e3 := bt_nat (128 + n % 64) (by omega)
        simp only [List.cons_append, List.nil_append, decL, List.length_cons, List.length_nil, cont, e0, e1, e2, e3]
        rw [if_neg (by omega), if_neg (by omega), if_neg (by omega), if_pos (by omega)]
        have v : (240 + n / 262144) % 8 * 262144 + (128 + n / 4096 % 64) % 64 * 4096 + (128 + n / 64 % 64) % 64 * 64 + (128 + n % 64) % 64 = n := by omega
        rw [v, if_pos (by simp [h]; omega)]

theorem bt_of (a : UInt8) (n : Nat) (h : a.toNat = n) : bt n = a := by subst h; exact UInt8.ofNat_toNat
theorem dec_sound (l : List UInt8) (n k : Nat) (h : decL l = some (n, k)) : sv n = true ∧ k = (enc n).length ∧ ∃ r, l = enc n ++ r := by
  cases l with
  | nil => simp [decL] at h
  | cons a r =>
    have ha := a.toNat_lt
    unfold decL at h
    dsimp only at h
    by_cases h1 : a.toNat < 128
    · rw [if_pos h1] at h
      obtain ⟨rfl, rfl⟩ : a.toNat = n ∧ 1 = k := by simpa using h
      have e : enc a.toNat = [a] := by unfold enc; rw [if_pos h1, bt_of a _ rfl]
      rw [e]
      exact ⟨by simp [sv]; omega, rfl, r, rfl⟩
    · rw [if_neg h1] at h
      by_cases h2 : a.toNat / 32 = 6
      · rw [if_pos h2] at h
        cases r with
        | nil => simp at h
        | cons b r =>
          have hb := b.toNat_lt
          simp only at h
          split at h
          · rename_i hc
            simp only [cont, Bool.and_eq_true, decide_eq_true_eq] at hc
            obtain ⟨rfl, rfl⟩ : a.toNat % 32 * 64 + b.toNat % 64 = n ∧ 2 = k := by simpa using h
            have e : enc (a.toNat % 32 * 64 + b.toNat % 64) = [a, b] := by
              unfold enc
              rw [if_neg (by omega), if_pos (by omega), bt_of a _ (by omega), bt_of b _ (by omega)]
            rw [e]
            exact ⟨by simp [sv]; omega, rfl, r, rfl⟩
          · cases h
      · rw [if_neg h2] at h
        by_cases h3 : a.toNat / 16 = 14
        · rw [if_pos h3] at h
          match r, h with
          | [], h => simp at h
          | [b], h => simp at h
          | b :: c :: r, h =>
            have hb := b.toNat_lt
            have hc := c.toNat_lt
            simp only at h
            split at h
            · rename_i hd
              simp only [cont, Bool.and_eq_true, decide_eq_true_eq] at hd
              obtain ⟨hx, rfl⟩ : a.toNat % 16 * 4096 + b.toNat % 64 * 64 + c.toNat % 64 = n ∧ 3 = k := by simpa using h
              rw [hx] at hd
              have e : enc n = [a, b, c] := by
                unfold enc
                rw [if_neg (by omega), if_neg (by omega), if_pos (by omega), bt_of a _ (by omega), bt_of b _ (by omega), bt_of c _ (by omega)]
              rw [e]
              exact ⟨hd.2, rfl, r, rfl⟩
            · cases h
        · rw [if_neg h3] at h
          by_cases h4 : a.toNat / 8 = 30
          · rw [if_pos h4] at h
            match r, h with
            | [], h => simp at h
            | [b], h => simp at h
            | [b, c], h => simp at h
            | b :: c :: d :: r, h =>
              have hb := b.toNat_lt
              have hc := c.toNat_lt
              have hd := d.toNat_lt
              simp only at h
              split at h
              · rename_i hq
                simp only [cont, Bool.and_eq_true, decide_eq_true_eq] at hq
                obtain ⟨hx, rfl⟩ : a.toNat % 8 * 262144 + b.toNat % 64 * 4096 + c.toNat % 64 * 64 + d.toNat % 64 = n ∧ 4 = k := by simpa using h
                rw [hx] at hq
                have e : enc n = [a, b, c, d] := by
                  unfold enc
                  rw [if_neg (by omega), if_neg (by omega), if_neg (by omega), bt_of a _ (by omega), bt_of b _ (by omega), bt_of c _ (by omega), bt_of d _ (by omega)]
                rw [e]
                exact ⟨hq.2, rfl, r, rfl⟩
              · cases h
          · rw [if_neg h4] at h
            cases h

theorem enc_pre {n m : Nat} (hn : sv n = true) (hm : sv m = true) {r r' : List UInt8} (h : enc n ++ r = enc m ++ r') : n = m ∧ r = r' := by
  have h1 := dec_enc n hn r
  rw [h, dec_enc m hm r'] at h1
  obtain ⟨rfl, _⟩ : m = n ∧ (enc m).length = (enc n).length := by simpa using h1
  exact ⟨rfl, List.append_cancel_left h⟩
/-- The code point that bytes begin with, if it may be. -/
def one (l : List UInt8) : Option (Nat × Nat) := (decL l).filter fun p => may p.1
theorem one_enc (n : Nat) (h : may n = true) (r : List UInt8) : one (enc n ++ r) = some (n, (enc n).length) := by
  have hs := (may_sv h).2.2
  rw [Int.toNat_natCast] at hs
  rw [one, dec_enc n hs r]
  simp [h]
theorem one_sound {l : List UInt8} {n k : Nat} (h : one l = some (n, k)) : may n = true ∧ sv n = true ∧ k = (enc n).length ∧ ∃ r, l = enc n ++ r := by
  unfold one at h
  rw [Option.filter_eq_some_iff] at h
  obtain ⟨h1, h2⟩ := h
  obtain ⟨a, b, c⟩ := dec_sound l n k h1
  exact ⟨h2, a, b, c⟩
theorem one_nil : one [] = none := rfl
/-- Code points' bytes. -/
def encs (l : List Nat) : List UInt8 := l.flatMap enc
theorem encs_nil : encs [] = [] := rfl
theorem encs_cons (n : Nat) (l : List Nat) : encs (n :: l) = enc n ++ encs l := by simp [encs]
theorem encs_append (a b : List Nat) : encs (a ++ b) = encs a ++ encs b := by simp [encs]
/-- All may be. -/
def mays (l : List Nat) : Prop := ∀ n ∈ l, may (n : Int) = true
theorem mays_nil : mays [] := fun _ h => by cases h
theorem mays_cons {n : Nat} {l : List Nat} : mays (n :: l) ↔ may (n : Int) = true ∧ mays l := by simp [mays]
theorem mays_append {a b : List Nat} : mays (a ++ b) ↔ mays a ∧ mays b := by
  unfold mays
  constructor
  · intro h
    exact ⟨fun n hn => h n (by simp [hn]), fun n hn => h n (by simp [hn])⟩
  · rintro ⟨h1, h2⟩ n hn
    rcases List.mem_append.1 hn with h | h
    · exact h1 n h
    · exact h2 n h
theorem nat_sv {n : Nat} (h : may (n : Int) = true) : sv n = true := by
  have := (may_sv h).2.2
  rwa [Int.toNat_natCast] at this
theorem encs_split : ∀ (ms ns : List Nat) (y : List UInt8), mays ms → mays ns → encs ns = encs ms ++ y → ∃ rest, ns = ms ++ rest ∧ y = encs rest
  | [], ns, y, _, _, h => ⟨ns, rfl, by simpa [encs] using h.symm⟩
  | m :: ms, ns, y, h1, h2, h => by
    rw [mays_cons] at h1
    rw [encs_cons, List.append_assoc] at h
    cases ns with
    | nil =>
      have := congrArg List.length h
      have := (enc_length m).1
      simp [encs] at *
      omega
    | cons n ns =>
      rw [mays_cons] at h2
      rw [encs_cons] at h
      obtain ⟨rfl, h3⟩ := enc_pre (nat_sv h2.1) (nat_sv h1.1) h
      obtain ⟨rest, rfl, e⟩ := encs_split ms ns y h1.2 h2.2 h3
      exact ⟨rest, rfl, e⟩
theorem encs_inj {a b : List Nat} (ha : mays a) (hb : mays b) (h : encs a = encs b) : a = b := by
  obtain ⟨rest, e, hr⟩ := encs_split b a [] hb ha (by simpa using h)
  cases rest with
  | nil => simpa using e
  | cons n r =>
    have h1 := congrArg List.length hr
    have h2 := (enc_length n).1
    rw [encs_cons] at h1
    simp at h1
    omega

/-- The code points of bytes, so many at most. -/
def ptsF : Nat → List UInt8 → Option (List Nat)
  | _, [] => some []
  | 0, _ :: _ => none
  | f + 1, a :: l => match one (a :: l) with
    | none => none
    | some (n, k) => (ptsF f ((a :: l).drop k)).map (n :: ·)
/-- A text's code points; none: it is no text. -/
def pts (l : List UInt8) : Option (List Nat) := ptsF l.length l
theorem ptsF_encs : ∀ (f : Nat) (ns : List Nat), mays ns → (encs ns).length ≤ f → ptsF f (encs ns) = some ns
  | f, [], _, _ => by cases f <;> rfl
  | f, n :: ns, h, hl => by
    rw [mays_cons] at h
    have h1 := (enc_length n).1
    have h4 := one_enc n h.1 (encs ns)
    rw [encs_cons] at *
    rw [List.length_append] at hl
    cases f with
    | zero => omega
    | succ f =>
      have e : ∃ a r, enc n ++ encs ns = a :: r := by
        cases hq : enc n with
        | nil => rw [hq] at h1; simp at h1
        | cons a r => exact ⟨a, r ++ encs ns, rfl⟩
      obtain ⟨a, r, e⟩ := e
      rw [e] at h4 ⊢
      rw [ptsF, h4]
      have ed : (a :: r).drop (enc n).length = encs ns := by rw [← e, List.drop_left]
      simp only [ed]
      rw [ptsF_encs f ns h.2 (by omega)]
      rfl
theorem ptsF_sound : ∀ (f : Nat) (l : List UInt8) (ns : List Nat), ptsF f l = some ns → l = encs ns ∧ mays ns
  | f, [], ns, h => by
    have : ns = [] := by cases f <;> simpa [ptsF] using h.symm
    subst this
    exact ⟨rfl, mays_nil⟩
  | 0, a :: l, ns, h => by simp [ptsF] at h
  | f + 1, a :: l, ns, h => by
    rw [ptsF] at h
    cases ho : one (a :: l) with
    | none => rw [ho] at h; cases h
    | some p =>
      obtain ⟨n, k⟩ := p
      rw [ho] at h
      obtain ⟨h1, _, rfl, r, hr⟩ := one_sound ho
      simp only [Option.map_eq_some_iff] at h
      obtain ⟨ms, h2, rfl⟩ := h
      rw [hr, List.drop_left] at h2
      obtain ⟨e, hm⟩ := ptsF_sound f r ms h2
      exact ⟨by rw [hr, encs_cons, e], mays_cons.2 ⟨h1, hm⟩⟩
theorem pts_iff (l : List UInt8) (ns : List Nat) : pts l = some ns ↔ l = encs ns ∧ mays ns := by
  constructor
  · exact ptsF_sound _ _ _
  · rintro ⟨rfl, h⟩
    exact ptsF_encs _ _ h (Nat.le_refl _)
theorem pts_encs {ns : List Nat} (h : mays ns) : pts (encs ns) = some ns := (pts_iff _ _).2 ⟨rfl, h⟩
/-- One step of the way through a text. -/
theorem pts_step (l : List UInt8) (h : l ≠ []) : pts l = match one l with | none => none | some (n, k) => (pts (l.drop k)).map (n :: ·) := by
  cases ho : one l with
  | none =>
    cases hp : pts l with
    | none => rfl
    | some ns =>
      obtain ⟨e, hm⟩ := (pts_iff _ _).1 hp
      cases ns with
      | nil => exact absurd e h
      | cons n ns =>
        rw [mays_cons] at hm
        rw [e, encs_cons, one_enc n hm.1] at ho
        cases ho
  | some p =>
    obtain ⟨n, k⟩ := p
    obtain ⟨h1, _, rfl, r, rfl⟩ := one_sound ho
    simp only [List.drop_left]
    cases hp : pts r with
    | none =>
      cases hq : pts (enc n ++ r) with
      | none => rfl
      | some ns =>
        obtain ⟨e, hm⟩ := (pts_iff _ _).1 hq
        obtain ⟨rest, _, e2⟩ := encs_split [n] ns r (mays_cons.2 ⟨h1, mays_nil⟩) hm (by rw [← e, encs_cons, encs_nil, List.append_nil])
        have hm2 : mays rest := by
          rename_i e1
          rw [e1] at hm
          exact (mays_append.1 hm).2
        rw [e2, pts_encs hm2] at hp
        cases hp
    | some ms =>
      obtain ⟨e, hm⟩ := (pts_iff _ _).1 hp
      rw [e, ← encs_cons]
      exact pts_encs (mays_cons.2 ⟨h1, hm⟩)

/-- A byte that goes on begins nothing. -/
theorem dec_cont (b : UInt8) (r : List UInt8) (h : cont b = true) : decL (b :: r) = none := by
  have hb : b.toNat / 64 = 2 := by simpa [cont] using h
  unfold decL
  dsimp only
  rw [if_neg (by omega), if_neg (by omega), if_neg (by omega), if_neg (by omega)]
theorem one_cont (b : UInt8) (r : List UInt8) (h : cont b = true) : one (b :: r) = none := by rw [one, dec_cont b r h]; rfl
/-- What stands behind the first byte of a scalar value goes on. -/
theorem enc_cont (n : Nat) (h : sv n = true) (j : Nat) (h0 : 0 < j) (hj : j < (enc n).length) : ∃ b r, (enc n).drop j = b :: r ∧ cont b = true := by
  have hb := sv_le h
  have c : ∀ m, m < 64 → cont (bt (128 + m)) = true := fun m hm => by unfold cont; rw [bt_nat _ (by omega)]; simp; omega
  revert hj
  unfold enc
  split
  · intro hj; simp at hj; omega
  · split
    · intro hj
      obtain rfl : j = 1 := by simp at hj; omega
      exact ⟨_, _, rfl, c _ (by omega)⟩
    · split
      · intro hj
        have : j = 1 ∨ j = 2 := by simp at hj; omega
        rcases this with rfl | rfl
        · exact ⟨_, _, rfl, c _ (by omega)⟩
        · exact ⟨_, _, rfl, c _ (by omega)⟩
      · intro hj
        have : j = 1 ∨ j = 2 ∨ j = 3 := by simp at hj; omega
        rcases this with rfl | rfl | rfl
        · exact ⟨_, _, rfl, c _ (by omega)⟩
        · exact ⟨_, _, rfl, c _ (by omega)⟩
        · exact ⟨_, _, rfl, c _ (by omega)⟩
/-- A place in a text is the beginning of a code point, or lies inside one. -/
theorem place : ∀ (ns : List Nat) (k : Nat), k < (encs ns).length → (∃ a b, ns = a ++ b ∧ k = (encs a).length ∧ b ≠ []) ∨ (∃ a n b j, ns = a ++ n :: b ∧ k = (encs a).length + j ∧ 0 < j ∧ j < (enc n).length)
  | [], k, h => by simp [encs] at h
  | n :: ns, k, h => by
    rw [encs_cons, List.length_append] at h
    by_cases h0 : k = 0
    · subst h0; exact .inl ⟨[], n :: ns, rfl, rfl, by simp⟩
    · by_cases h1 : k < (enc n).length
      · exact .inr ⟨[], n, ns, k, rfl, by simp [encs], by omega, h1⟩
      · rcases place ns (k - (enc n).length) (by omega) with ⟨a, b, rfl, e, hb⟩ | ⟨a, m, b, j, rfl, e, h2, h3⟩
        · exact .inl ⟨n :: a, b, rfl, by rw [encs_cons, List.length_append]; omega, hb⟩
        · exact .inr ⟨n :: a, m, b, j, rfl, by rw [encs_cons, List.length_append]; omega, h2, h3⟩
/-- A text is cut between code points, and nowhere else. -/
theorem cut (ns : List Nat) (hm : mays ns) (k : Nat) (hk : k < (encs ns).length) :
    ((one ((encs ns).drop k)).isSome = true ∧ (pts ((encs ns).take k)).isSome = true ∧ (pts ((encs ns).drop k)).isSome = true) ∨
    (one ((encs ns).drop k) = none ∧ pts ((encs ns).take k) = none ∧ pts ((encs ns).drop k) = none) := by
  rcases place ns k hk with ⟨a, b, rfl, rfl, hb⟩ | ⟨a, n, b, j, rfl, rfl, h0, hj⟩
  · rw [mays_append] at hm
    rw [encs_append, List.drop_left, List.take_left]
    refine .inl ⟨?_, by rw [pts_encs hm.1]; rfl, by rw [pts_encs hm.2]; rfl⟩
    cases b with
    | nil => exact absurd rfl hb
    | cons n b =>
      rw [encs_cons, one_enc n (mays_cons.1 hm.2).1]
      rfl
  · rw [mays_append, mays_cons] at hm
    have hn := nat_sv hm.2.1
    obtain ⟨x, r, hx, hc⟩ := enc_cont n hn j h0 hj
    have hd : (encs (a ++ n :: b)).drop ((encs a).length + j) = x :: (r ++ encs b) := by
      rw [encs_append, encs_cons, List.drop_append, List.drop_of_length_le (by omega), List.nil_append, show (encs a).length + j - (encs a).length = j by omega, List.drop_append, hx, show j - (enc n).length = 0 by omega]
      rfl
    have ho : one (x :: (r ++ encs b)) = none := one_cont x _ hc
    have ht : (encs (a ++ n :: b)).take ((encs a).length + j) = encs a ++ (enc n).take j := by
      rw [encs_append, encs_cons, List.take_append, List.take_of_length_le (by omega), show (encs a).length + j - (encs a).length = j by omega, List.take_append, show j - (enc n).length = 0 by omega]
      simp
    rw [hd, ht]
    refine .inr ⟨ho, ?_, ?_⟩
    · cases hp : pts (encs a ++ (enc n).take j) with
      | none => rfl
      | some ms =>
        obtain ⟨e, hms⟩ := (pts_iff _ _).1 hp
        obtain ⟨rest, rfl, er⟩ := encs_split a ms _ hm.1 hms e.symm
        rw [mays_append] at hms
        cases rest with
        | nil =>
          have := congrArg List.length er
          rw [List.length_take, encs_nil, List.length_nil] at this
          omega
        | cons m rest =>
          rw [encs_cons] at er
          have hmm := nat_sv (mays_cons.1 hms.2).1
          have e2 : enc n ++ [] = enc m ++ (encs rest ++ (enc n).drop j) := by rw [List.append_nil, ← List.append_assoc, ← er, List.take_append_drop]
          obtain ⟨rfl, e3⟩ := enc_pre hn hmm e2
          have := congrArg List.length e3
          rw [List.length_append, List.length_drop] at this
          simp at this
          omega
    · rw [pts_step _ (by simp), ho]

/-- The bytes of a lesser value differ at a place within both, and are less there. -/
theorem enc_less (n m : Nat) (hn : sv n = true) (hm : sv m = true) (h : n < m) : ∃ p u v x y, enc n = p ++ u :: x ∧ enc m = p ++ v :: y ∧ u < v := by
  have h1 := sv_le hn
  have h2 := sv_le hm
  have lt : ∀ a b, a < b → b < 256 → bt a < bt b := fun a b hab hb => by
    rw [UInt8.lt_iff_toNat_lt, bt_nat a (by omega), bt_nat b hb]; exact hab
  unfold enc
  by_cases a1 : n < 128
  · rw [if_pos a1]
    split
    · exact ⟨[], _, _, _, _, rfl, rfl, lt _ _ h (by omega)⟩
    · split
      · exact ⟨[], _, _, _, _, rfl, rfl, lt _ _ (by omega) (by omega)⟩
      · split
        · exact ⟨[], _, _, _, _, rfl, rfl, lt _ _ (by omega) (by omega)⟩
        · exact ⟨[], _, _, _, _, rfl, rfl, lt _ _ (by omega) (by omega)⟩
  · rw [if_neg a1, if_neg (show ¬ m < 128 by omega)]
    by_cases a2 : n < 2048
    · rw [if_pos a2]
      split
      · by_cases q : n / 64 = m / 64
        · exact ⟨[bt (192 + n / 64)], _, _, _, _, rfl, by rw [q]; rfl, lt _ _ (by omega) (by omega)⟩
        · exact ⟨[], _, _, _, _, rfl, rfl, lt _ _ (by omega) (by omega)⟩
      · split
        · exact ⟨[], _, _, _, _, rfl, rfl, lt _ _ (by omega) (by omega)⟩
        · exact ⟨[], _, _, _, _, rfl, rfl, lt _ _ (by omega) (by omega)⟩
    · rw [if_neg a2, if_neg (show ¬ m < 2048 by omega)]
      by_cases a3 : n < 65536
      · rw [if_pos a3]
        split
        · by_cases q : n / 4096 = m / 4096
          · by_cases q2 : n / 64 % 64 = m / 64 % 64
            · exact ⟨[bt (224 + n / 4096), bt (128 + n / 64 % 64)], _, _, _, _, rfl, by rw [q, q2]; rfl, lt _ _ (by omega) (by omega)⟩
            · exact ⟨[bt (224 + n / 4096)], _, _, _, _, rfl, by rw [q]; rfl, lt _ _ (by omega) (by omega)⟩
          · exact ⟨[], _, _, _, _, rfl, rfl, lt _ _ (by omega) (by omega)⟩
        · exact ⟨[], _, _, _, _, rfl, rfl, lt _ _ (by omega) (by omega)⟩
      · rw [if_neg a3, if_neg (show ¬ m < 65536 by omega)]
        by_cases q : n / 262144 = m / 262144
        · by_cases q2 : n / 4096 % 64 = m / 4096 % 64
          · by_cases q3 : n / 64 % 64 = m / 64 % 64
            · exact ⟨[bt (240 + n / 262144), bt (128 + n / 4096 % 64), bt (128 + n / 64 % 64)], _, _, _, _, rfl, by rw [q, q2, q3]; rfl, lt _ _ (by omega) (by omega)⟩
            · exact ⟨[bt (240 + n / 262144), bt (128 + n / 4096 % 64)], _, _, _, _, rfl, by rw [q, q2]; rfl, lt _ _ (by omega) (by omega)⟩
          · exact ⟨[bt (240 + n / 262144)], _, _, _, _, rfl, by rw [q]; rfl, lt _ _ (by omega) (by omega)⟩
        · exact ⟨[], _, _, _, _, rfl, rfl, lt _ _ (by omega) (by omega)⟩
theorem lex_at (p : List UInt8) (u v : UInt8) (x y : List UInt8) (h : u < v) : p ++ u :: x < p ++ v :: y := by
  induction p with
  | nil => exact List.Lex.rel h
  | cons a p ih => exact List.Lex.cons ih
theorem lex_cancel (p x y : List UInt8) : p ++ x < p ++ y ↔ x < y := by
  induction p with
  | nil => rfl
  | cons a p ih =>
    rw [List.cons_append, List.cons_append, List.cons_lt_cons_iff, ih]
    simp
/-- Texts are in the order of their code points. -/
theorem order : ∀ (a b : List Nat), mays a → mays b → (encs a < encs b ↔ a < b)
  | [], [], _, _ => by simp [encs]
  | [], n :: b, _, _ => by
    have h1 := (enc_length n).1
    rw [encs_cons]
    cases hq : enc n with
    | nil => rw [hq] at h1; simp at h1
    | cons x r => simp [encs]
  | n :: a, [], _, _ => by simp [encs]
  | n :: a, m :: b, ha, hb => by
    rw [mays_cons] at ha hb
    rw [encs_cons, encs_cons, List.cons_lt_cons_iff]
    rcases Nat.lt_trichotomy n m with h | h | h
    · obtain ⟨p, u, v, x, y, e1, e2, hl⟩ := enc_less n m (nat_sv ha.1) (nat_sv hb.1) h
      rw [e1, e2, List.append_assoc, List.append_assoc]
      simp only [List.cons_append, h, true_or, iff_true]
      exact lex_at p u v _ _ hl
    · subst h
      rw [lex_cancel, order a b ha.2 hb.2]
      simp
    · obtain ⟨p, u, v, x, y, e1, e2, hl⟩ := enc_less m n (nat_sv hb.1) (nat_sv ha.1) h
      rw [e1, e2, List.append_assoc, List.append_assoc]
      have k : p ++ (u :: x ++ encs b) < p ++ (v :: y ++ encs a) := lex_at p u v _ _ hl
      have nk : ¬ (p ++ (v :: y ++ encs a) < p ++ (u :: x ++ encs b)) := fun q => absurd (List.lt_trans k q) (List.lt_irrefl _)
      simp only [nk, false_iff]
      omega
end Tx
end Go.Proofs.Ytfdhogaknlabkaa
namespace Go.Proofs.Ytfdhogaknlabkaa
namespace Nmb
set_option linter.unusedVariables false
/-- The digit of n. -/
def dgt (n : Nat) : UInt8 := UInt8.ofNat (48 + n)
theorem dgt_nat {n : Nat} (h : n < 10) : (dgt n).toNat = 48 + n := by unfold dgt; rw [UInt8.toNat_ofNat']; omega
/-- The decimal digits of n. -/
def dg (n : Nat) : List UInt8 := if h : n < 10 then [dgt n] else dg (n / 10) ++ [dgt (n % 10)]
termination_by n
decreasing_by omega
theorem dg_small {n : Nat} (h : n < 10) : dg n = [dgt n] := by rw [dg, dif_pos h]
theorem dg_more {n : Nat} (h : 10 ≤ n) : dg n = dg (n / 10) ++ [dgt (n % 10)] := by rw [dg, dif_neg (by omega)]
def isDg (b : UInt8) : Bool := decide (48 ≤ b.toNat) && decide (b.toNat ≤ 57)
theorem isDg_dgt {n : Nat} (h : n < 10) : isDg (dgt n) = true := by unfold isDg; rw [dgt_nat h]; simp; omega
theorem dgt_of {b : UInt8} (h : isDg b = true) : dgt (b.toNat - 48) = b := by
  simp only [isDg, Bool.and_eq_true, decide_eq_true_eq] at h
  unfold dgt
  rw [show 48 + (b.toNat - 48) = b.toNat by omega]
  exact UInt8.ofNat_toNat
/-- The number that digits tell. -/
def val (l : List UInt8) : Nat := l.foldl (fun n b => 10 * n + (b.toNat - 48)) 0
theorem val_nil : val [] = 0 := rfl
theorem val_snoc (l : List UInt8) (b : UInt8) : val (l ++ [b]) = 10 * val l + (b.toNat - 48) := by unfold val; rw [List.foldl_append]; rfl
theorem val_dg (n : Nat) : val (dg n) = n := by
  induction n using Nat.strongRecOn with
  | ind n ih =>
    by_cases h : n < 10
    · rw [dg_small h, ← List.nil_append [dgt n], val_snoc, val_nil, dgt_nat h]
      omega
    · rw [dg_more (by omega), val_snoc, ih (n / 10) (by omega), dgt_nat (by omega)]
      omega
theorem dg_inj {n m : Nat} (h : dg n = dg m) : n = m := by rw [← val_dg n, h, val_dg]
theorem dg_all (n : Nat) : (dg n).all isDg = true := by
  induction n using Nat.strongRecOn with
  | ind n ih =>
    by_cases h : n < 10
    · rw [dg_small h]; simp [isDg_dgt h]
    · rw [dg_more (by omega), List.all_append, ih (n / 10) (by omega)]
      simp [isDg_dgt (show n % 10 < 10 by omega)]
theorem dg_length (n : Nat) : 1 ≤ (dg n).length := by
  by_cases h : n < 10
  · rw [dg_small h]; simp
  · rw [dg_more (by omega)]; simp
theorem dg_ne (n : Nat) : dg n ≠ [] := fun h => by have := dg_length n; rw [h] at this; simp at this
theorem head_app {l r : List UInt8} (h : l ≠ []) : (l ++ r).head? = l.head? := by
  cases l with
  | nil => exact absurd rfl h
  | cons a l => rfl
theorem dg_first (n : Nat) (h0 : 0 < n) : (dg n).head? ≠ some 48 := by
  induction n using Nat.strongRecOn with
  | ind n ih =>
    by_cases h : n < 10
    · rw [dg_small h]
      simp only [List.head?_cons, ne_eq, Option.some.injEq]
      intro q
      have := congrArg UInt8.toNat q
      rw [dgt_nat h] at this
      simp at this
      omega
    · rw [dg_more (by omega), head_app (dg_ne _)]
      exact ih (n / 10) (by omega) (by omega)
/-- Is that a number's text, however great? -/
def okN (l : List UInt8) : Bool := !l.isEmpty && l.all isDg && (l.length == 1 || l.head? != some 48)
theorem okN_dg (n : Nat) : okN (dg n) = true := by
  unfold okN
  rw [dg_all]
  by_cases h : n = 0
  · subst h
    rw [dg_small (by omega)]
    rfl
  · have h1 := dg_first n (by omega)
    have h2 := dg_ne n
    simp [h1, h2]
theorem val_pos (l : List UInt8) (h : l.all isDg = true) (hn : l ≠ []) (hf : l.head? ≠ some 48) : 0 < val l := by
  cases l with
  | nil => exact absurd rfl hn
  | cons b r =>
    simp only [List.head?_cons, ne_eq, Option.some.injEq] at hf
    rw [List.all_cons, Bool.and_eq_true] at h
    have hb : 0 < b.toNat - 48 := by
      have h1 := h.1
      simp only [isDg, Bool.and_eq_true, decide_eq_true_eq] at h1
      have : b.toNat ≠ 48 := fun q => hf (UInt8.toNat_inj.1 (by rw [q]; rfl))
      omega
    have gen : ∀ (r : List UInt8) (x : Nat), 0 < x → 0 < r.foldl (fun n b => 10 * n + (b.toNat - 48)) x := by
      intro r
      induction r with
      | nil => exact fun x hx => hx
      | cons c r ih => exact fun x hx => ih (10 * x + (c.toNat - 48)) (by omega)
    exact gen r (10 * 0 + (b.toNat - 48)) (by omega)
theorem dg_val (l : List UInt8) (h : okN l = true) : dg (val l) = l := by
  simp only [okN, Bool.and_eq_true, Bool.or_eq_true, bne_iff_ne, beq_iff_eq, Bool.not_eq_true', List.isEmpty_eq_false_iff] at h
  obtain ⟨⟨hn, ha⟩, hf⟩ := h
  obtain ⟨k, hk⟩ : ∃ k, l.length = k := ⟨_, rfl⟩
  induction k generalizing l with
  | zero => exact absurd (List.eq_nil_of_length_eq_zero hk) hn
  | succ k ih =>
    obtain ⟨r, b, rfl⟩ : ∃ r b, l = r ++ [b] := ⟨l.dropLast, l.getLast hn, (List.dropLast_concat_getLast hn).symm⟩
    rw [List.all_append, Bool.and_eq_true] at ha
    have hb : isDg b = true := by simpa using ha.2
    have hb2 := hb
    simp only [isDg, Bool.and_eq_true, decide_eq_true_eq] at hb2
    rw [val_snoc]
    by_cases hr : r = []
    · subst hr
      rw [val_nil, dg_small (by omega), show 10 * 0 + (b.toNat - 48) = b.toNat - 48 by omega, dgt_of hb]
      rfl
    · have hrl : 0 < r.length := List.length_pos_iff.2 hr
      have hf' : r.head? ≠ some 48 := by
        rcases hf with hf | hf
        · rw [List.length_append] at hf; simp only [List.length_cons, List.length_nil] at hf; omega
        · rw [head_app hr] at hf; exact hf
      have hp := val_pos r ha.1 hr hf'
      have hrk : r.length = k := by rw [List.length_append] at hk; simpa using hk
      have hi : dg (val r) = r := by apply ih <;> first | exact ha.1 | assumption | exact Or.inr hf'
      rw [dg_more (by omega), show (10 * val r + (b.toNat - 48)) / 10 = val r by omega, show (10 * val r + (b.toNat - 48)) % 10 = b.toNat - 48 by omega, hi, dgt_of hb]
theorem val_lt (l : List UInt8) (h : l.all isDg = true) : val l < 10 ^ l.length := by
  obtain ⟨k, hk⟩ : ∃ k, l.length = k := ⟨_, rfl⟩
  rw [hk]
  induction k generalizing l with
  | zero => rw [List.eq_nil_of_length_eq_zero hk]; decide
  | succ k ih =>
    have hn : l ≠ [] := fun q => by rw [q] at hk; simp at hk
    obtain ⟨r, b, rfl⟩ : ∃ r b, l = r ++ [b] := ⟨l.dropLast, l.getLast hn, (List.dropLast_concat_getLast hn).symm⟩
    rw [List.all_append, Bool.and_eq_true] at h
    have hb : isDg b = true := by simpa using h.2
    simp only [isDg, Bool.and_eq_true, decide_eq_true_eq] at hb
    have := ih r h.1 (by rw [List.length_append] at hk; simpa using hk)
    rw [val_snoc, Nat.pow_succ]
    omega
theorem dg_lt (n k : Nat) (h : (dg n).length ≤ k) : n < 10 ^ k := by
  have := val_lt (dg n) (dg_all n)
  rw [val_dg] at this
  exact Nat.lt_of_lt_of_le this (Nat.pow_le_pow_right (by decide) h)
theorem dg_short (k n : Nat) (h : n < 10 ^ (k + 1)) : (dg n).length ≤ k + 1 := by
  induction k generalizing n with
  | zero => rw [dg_small (by simpa using h)]; simp
  | succ k ih =>
    by_cases h9 : n < 10
    · rw [dg_small h9]; simp
    · rw [dg_more (by omega), List.length_append]
      have := ih (n / 10) (by rw [Nat.pow_succ] at h; omega)
      simp
      omega
/-- Numbers are in the order of their texts, the longer ones behind. -/
theorem lex_pre {x y u v : List UInt8} (hl : x.length = y.length) (h : x < y) : x ++ u < y ++ v := by
  induction x generalizing y with
  | nil =>
    cases y with
    | nil => exact absurd h (List.lt_irrefl _)
    | cons b y => simp at hl
  | cons a x ih =>
    cases y with
    | nil => simp at hl
    | cons b y =>
      rw [List.cons_append, List.cons_append, List.cons_lt_cons_iff]
      rw [List.cons_lt_cons_iff] at h
      rcases h with h | ⟨rfl, h⟩
      · exact .inl h
      · exact .inr ⟨rfl, ih (by simpa using hl) h⟩
theorem lex_post {x u v : List UInt8} (h : u < v) : x ++ u < x ++ v := by
  induction x with
  | nil => exact h
  | cons a x ih => rw [List.cons_append, List.cons_append, List.cons_lt_cons_iff]; exact .inr ⟨rfl, ih⟩
theorem dgt_lt {a b : Nat} (ha : a < 10) (hb : b < 10) (h : a < b) : dgt a < dgt b := by rw [UInt8.lt_iff_toNat_lt, dgt_nat ha, dgt_nat hb]; omega
theorem dg_mono (n m : Nat) (h : n < m) : (dg n).length < (dg m).length ∨ ((dg n).length = (dg m).length ∧ dg n < dg m) := by
  induction m using Nat.strongRecOn generalizing n with
  | ind m ih =>
    by_cases hm : m < 10
    · rw [dg_small hm, dg_small (by omega)]
      exact .inr ⟨rfl, List.cons_lt_cons_iff.2 (.inl (dgt_lt (by omega) hm h))⟩
    · rw [dg_more (by omega : 10 ≤ m)]
      have hl := dg_length (m / 10)
      by_cases hn : n < 10
      · rw [dg_small hn]
        exact .inl (by simp; omega)
      · rw [dg_more (by omega : 10 ≤ n)]
        by_cases hd : n / 10 < m / 10
        · rcases ih (m / 10) (by omega) (n / 10) hd with q | ⟨q, r⟩
          · exact .inl (by simp; omega)
          · exact .inr ⟨by simp; omega, lex_pre q r⟩
        · have he : n / 10 = m / 10 := by omega
          rw [he]
          exact .inr ⟨by simp, lex_post (List.cons_lt_cons_iff.2 (.inl (dgt_lt (by omega) (by omega) (by omega))))⟩
theorem dg_order (n m : Nat) : n < m ↔ (dg n).length < (dg m).length ∨ ((dg n).length = (dg m).length ∧ dg n < dg m) := by
  refine ⟨dg_mono n m, fun h => ?_⟩
  rcases Nat.lt_trichotomy n m with q | rfl | q
  · exact q
  · rcases h with h | ⟨_, h⟩
    · omega
    · exact absurd h (List.lt_irrefl _)
  · rcases dg_mono m n q with r | ⟨r, s⟩
    · rcases h with h | ⟨h, _⟩ <;> omega
    · rcases h with h | ⟨_, h⟩
      · omega
      · exact absurd (List.lt_trans h s) (List.lt_irrefl _)
/-- The greatest number. -/
def most : Nat := 9007199254740991
/-- The number whose text that is. -/
def readN (l : List UInt8) : Option Nat := if okN l && decide (val l ≤ most) then some (val l) else none
theorem readN_iff (l : List UInt8) (n : Nat) : readN l = some n ↔ l = dg n ∧ n ≤ most := by
  unfold readN
  constructor
  · intro h
    split at h
    · rename_i hc
      rw [Bool.and_eq_true, decide_eq_true_eq] at hc
      injection h with h
      subst h
      exact ⟨(dg_val l hc.1).symm, hc.2⟩
    · cases h
  · rintro ⟨rfl, h⟩
    rw [okN_dg, val_dg, if_pos (by simpa using h)]
theorem dg_most {n : Nat} (h : n ≤ most) : (dg n).length ≤ 16 := dg_short 15 n (by unfold most at h; omega)
theorem readN_long (l : List UInt8) (h : 16 < l.length) : readN l = none := by
  cases hr : readN l with
  | none => rfl
  | some n =>
    obtain ⟨rfl, hn⟩ := (readN_iff l n).1 hr
    have := dg_most hn
    omega
/-- A level's text. -/
def sgn (n : Int) : List UInt8 := if n < 0 then 45 :: dg (-n).toNat else dg n.toNat
theorem dg_no (n : Nat) (b : UInt8) (r : List UInt8) (hb : isDg b = false) : dg n ≠ b :: r := fun h => by
  have := dg_all n
  rw [h, List.all_cons, hb] at this
  cases this
theorem sgn_inj {n m : Int} (h : sgn n = sgn m) : n = m := by
  unfold sgn at h
  split at h <;> split at h
  · injection h with _ h
    have := dg_inj h
    omega
  · exact absurd h.symm (dg_no _ _ _ (by decide))
  · exact absurd h (dg_no _ _ _ (by decide))
  · have := dg_inj h
    omega
/-- A version's text. -/
def ver (n m : Nat) : List UInt8 := dg n ++ 46 :: dg m
theorem split_at {x x' y y' : List UInt8} {b : UInt8} (hx : b ∉ x) (hx' : b ∉ x') (h : x ++ b :: y = x' ++ b :: y') : x = x' ∧ y = y' := by
  induction x generalizing x' with
  | nil =>
    cases x' with
    | nil => injection h with _ h; exact ⟨rfl, h⟩
    | cons a x' => injection h with h _; exact absurd (h ▸ List.mem_cons_self) hx'
  | cons a x ih =>
    cases x' with
    | nil => injection h with h _; exact absurd (h ▸ List.mem_cons_self) hx
    | cons a' x' =>
      injection h with h1 h2
      obtain ⟨e1, e2⟩ := ih (fun q => hx (List.mem_cons_of_mem _ q)) (fun q => hx' (List.mem_cons_of_mem _ q)) h2
      exact ⟨by rw [h1, e1], e2⟩
theorem dg_not (n : Nat) (b : UInt8) (hb : isDg b = false) : b ∉ dg n := fun h => by
  have := List.all_eq_true.1 (dg_all n) b h
  rw [hb] at this
  cases this
theorem ver_inj {n m n' m' : Nat} (h : ver n m = ver n' m') : n = n' ∧ m = m' := by
  obtain ⟨h1, h2⟩ := split_at (dg_not n 46 (by decide)) (dg_not n' 46 (by decide)) h
  exact ⟨dg_inj h1, dg_inj h2⟩
end Nmb
end Go.Proofs.Ytfdhogaknlabkaa
namespace Go.Proofs.Ytfdhogaknlabkaa
namespace Es
open Go Tx Nmb
theorem u8_every (p : UInt8 → Prop) [DecidablePred p] (h : ∀ n : Fin 256, p (UInt8.ofNat n.val)) (c : UInt8) : p c := by
  have := h ⟨c.toNat, c.toNat_lt⟩
  simpa using this
/-- How a byte is written. -/
def escb (q : Bool) (c : UInt8) : List UInt8 :=
  if c = 38 then [38, 97, 109, 112, 59] else if c = 60 then [38, 108, 116, 59] else if c = 62 then [38, 103, 116, 59] else if c = 13 then [38, 35, 49, 51, 59]
  else if q = true ∧ c = 34 then [38, 113, 117, 111, 116, 59] else if q = true ∧ c = 9 then [38, 35, 57, 59] else if q = true ∧ c = 10 then [38, 35, 49, 48, 59] else [c]
/-- A text as it is written. -/
def escL (q : Bool) (l : List UInt8) : List UInt8 := l.flatMap (escb q)
theorem escL_nil (q : Bool) : escL q [] = [] := rfl
theorem escL_cons (q : Bool) (c : UInt8) (l : List UInt8) : escL q (c :: l) = escb q c ++ escL q l := by simp [escL]
theorem escL_app (q : Bool) (a b : List UInt8) : escL q (a ++ b) = escL q a ++ escL q b := by simp [escL]
theorem escL_snoc (q : Bool) (l : List UInt8) (c : UInt8) : escL q (l ++ [c]) = escL q l ++ escb q c := by simp [escL]
/-- What a hexadecimal digit tells. -/
def hxv (c : UInt8) : Option Nat := if 48 ≤ c.toNat ∧ c.toNat ≤ 57 then some (c.toNat - 48) else if 97 ≤ c.toNat ∧ c.toNat ≤ 102 then some (c.toNat - 87) else if 65 ≤ c.toNat ∧ c.toNat ≤ 70 then some (c.toNat - 55) else none
def hexF (l : List UInt8) : Option Nat := l.foldl (fun a c => a.bind fun n => (hxv c).map fun d => 16 * n + d) (some 0)
theorem hexF_snoc (l : List UInt8) (c : UInt8) : hexF (l ++ [c]) = (hexF l).bind fun n => (hxv c).map fun d => 16 * n + d := by simp [hexF]
def hexV (l : List UInt8) : Option Nat := if l = [] ∨ 6 < l.length ∨ l.head? = some 48 then none else hexF l
/-- The code point of a reference's number. -/
def numL (l : List UInt8) : Option Nat := ((match l with | 120 :: r => hexV r | _ => readN l)).filter fun n => may n
/-- What a reference's inside tells. -/
def meantL (l : List UInt8) : Option (List UInt8) :=
  if l = [97, 109, 112] then some [38] else if l = [108, 116] then some [60] else if l = [103, 116] then some [62] else if l = [113, 117, 111, 116] then some [34] else if l = [97, 112, 111, 115] then some [39]
  else match l with | 35 :: r => (numL r).map enc | _ => none
/-- What stands ahead of the first semicolon, and behind it. -/
def semi : List UInt8 → Option (List UInt8 × List UInt8)
  | [] => none
  | c :: r => if c = 59 then some ([], r) else (semi r).map fun p => (c :: p.1, p.2)
theorem semi_some : ∀ (l x r : List UInt8), semi l = some (x, r) → l = x ++ 59 :: r ∧ (59 : UInt8) ∉ x
  | [], x, r, h => by cases h
  | c :: l, x, r, h => by
    rw [semi] at h
    split at h
    · rename_i hc
      cases h
      exact ⟨by rw [hc]; rfl, by simp⟩
    · rename_i hc
      rw [Option.map_eq_some_iff] at h
      obtain ⟨⟨y, t⟩, h1, h2⟩ := h
      cases h2
      obtain ⟨e, hn⟩ := semi_some l y _ h1
      refine ⟨by rw [e]; rfl, ?_⟩
      intro hm
      rcases List.mem_cons.1 hm with h | h
      · exact hc h.symm
      · exact hn h
theorem semi_of (x r : List UInt8) (h : (59 : UInt8) ∉ x) : semi (x ++ 59 :: r) = some (x, r) := by
  induction x with
  | nil => simp [semi]
  | cons c x ih =>
    rw [List.cons_append, semi, if_neg (fun e => h (by simp [e])), ih (fun hm => h (by simp [hm]))]
    rfl
theorem semi_none (l : List UInt8) (h : (59 : UInt8) ∉ l) : semi l = none := by
  induction l with
  | nil => rfl
  | cons c l ih =>
    rw [semi, if_neg (fun e => h (by simp [e])), ih (fun hm => h (by simp [hm]))]
    rfl
/-- What is read, in so many steps at most. -/
def rdF : Nat → List UInt8 → Option (List UInt8)
  | _, [] => some []
  | 0, _ :: _ => none
  | f + 1, c :: r => if c = 60 then none else if c = 38 then (match semi r with
      | none => none
      | some (x, t) => match meantL x with
        | none => none
        | some y => (rdF f t).map (y ++ ·)) else (rdF f r).map (c :: ·)
def rd (l : List UInt8) : Option (List UInt8) := rdF l.length l
theorem rdF_same : ∀ (f g : Nat) (l : List UInt8), l.length ≤ f → l.length ≤ g → rdF f l = rdF g l
  | f, g, [], _, _ => by cases f <;> cases g <;> rfl
  | 0, g, c :: r, h, _ => by simp at h
  | f + 1, 0, c :: r, _, h => by simp at h
  | f + 1, g + 1, c :: r, h1, h2 => by
    simp only [List.length_cons] at h1 h2
    rw [rdF, rdF]
    by_cases h60 : c = 60
    · rw [if_pos h60, if_pos h60]
    · rw [if_neg h60, if_neg h60]
      by_cases h38 : c = 38
      · rw [if_pos h38, if_pos h38]
        cases hs : semi r with
        | none => rfl
        | some p =>
          obtain ⟨x, t⟩ := p
          have hl := congrArg List.length (semi_some r x t hs).1
          simp only [List.length_append, List.length_cons] at hl
          simp only
          rw [rdF_same f g t (by omega) (by omega)]
      · rw [if_neg h38, if_neg h38, rdF_same f g r (by omega) (by omega)]
theorem rd_nil : rd [] = some [] := rfl
theorem rd_bad (r : List UInt8) : rd (60 :: r) = none := by unfold rd; rw [List.length_cons, rdF, if_pos rfl]
theorem rd_byte (c : UInt8) (r : List UInt8) (h1 : c ≠ 60) (h2 : c ≠ 38) : rd (c :: r) = (rd r).map (c :: ·) := by
  unfold rd
  rw [List.length_cons, rdF, if_neg h1, if_neg h2]
theorem rd_amp (r : List UInt8) : rd (38 :: r) = match semi r with
    | none => none
    | some (x, t) => match meantL x with
      | none => none
      | some y => (rd t).map (y ++ ·) := by
  unfold rd
  rw [List.length_cons, rdF, if_neg (by decide), if_pos rfl]
  cases hs : semi r with
  | none => rfl
  | some p =>
    obtain ⟨x, t⟩ := p
    have hl := congrArg List.length (semi_some r x t hs).1
    simp only [List.length_append, List.length_cons] at hl
    simp only
    rw [rdF_same r.length t.length t (by omega) (Nat.le_refl _)]
theorem rd_app : ∀ (n : Nat) (a b z : List UInt8), a.length ≤ n → rd a = some z → rd (a ++ b) = (rd b).map (z ++ ·)
  | n, [], b, z, _, h => by
    cases h
    simp
  | 0, c :: a, b, z, h, _ => by simp at h
  | n + 1, c :: a, b, z, hn, h => by
    simp only [List.length_cons] at hn
    rw [List.cons_append]
    by_cases h60 : c = 60
    · subst h60; rw [rd_bad] at h; cases h
    · by_cases h38 : c = 38
      · subst h38
        rw [rd_amp] at h ⊢
        cases hs : semi a with
        | none => rw [hs] at h; cases h
        | some p =>
          obtain ⟨x, t⟩ := p
          obtain ⟨e, hx⟩ := semi_some a x t hs
          rw [hs] at h
          have e2 : semi (a ++ b) = some (x, t ++ b) := by rw [e, List.append_assoc]; exact semi_of x (t ++ b) hx
          rw [e2]
          simp only at h ⊢
          cases hm : meantL x with
          | none => rw [hm] at h; cases h
          | some y =>
            rw [hm] at h
            simp only at h ⊢
            rw [Option.map_eq_some_iff] at h
            obtain ⟨u, hu, rfl⟩ := h
            have hl := congrArg List.length e
            simp only [List.length_append, List.length_cons] at hl
            rw [rd_app n t b u (by omega) hu]
            cases rd b <;> simp
      · rw [rd_byte c a h60 h38] at h
        rw [rd_byte c (a ++ b) h60 h38]
        rw [Option.map_eq_some_iff] at h
        obtain ⟨u, hu, rfl⟩ := h
        rw [rd_app n a b u (by omega) hu]
        cases rd b <;> simp
theorem rd_append (a b z : List UInt8) (h : rd a = some z) : rd (a ++ b) = (rd b).map (z ++ ·) := rd_app a.length a b z (Nat.le_refl _) h
theorem rd_escb (q : Bool) (c : UInt8) : rd (escb q c) = some [c] := by
  cases q
  · exact u8_every (fun c => rd (escb false c) = some [c]) (by decide +kernel) c
  · exact u8_every (fun c => rd (escb true c) = some [c]) (by decide +kernel) c
/-- What is written is read as that text. -/
theorem rd_esc (q : Bool) (l : List UInt8) : rd (escL q l) = some l := by
  induction l with
  | nil => rfl
  | cons c l ih =>
    rw [escL_cons, rd_append _ _ _ (rd_escb q c), ih]
    rfl
/-- The bytes that are written. -/
theorem escb_ok (q : Bool) (c : UInt8) : ∀ x ∈ escb q c, x ≠ 60 ∧ x ≠ 62 ∧ x ≠ 13 ∧ (q = true → x ≠ 34 ∧ x ≠ 9 ∧ x ≠ 10) := by
  cases q
  · exact u8_every (fun c => ∀ x ∈ escb false c, x ≠ 60 ∧ x ≠ 62 ∧ x ≠ 13 ∧ (false = true → x ≠ 34 ∧ x ≠ 9 ∧ x ≠ 10)) (by decide +kernel) c
  · exact u8_every (fun c => ∀ x ∈ escb true c, x ≠ 60 ∧ x ≠ 62 ∧ x ≠ 13 ∧ (true = true → x ≠ 34 ∧ x ≠ 9 ∧ x ≠ 10)) (by decide +kernel) c
theorem escL_ok (q : Bool) (l : List UInt8) : ∀ x ∈ escL q l, x ≠ 60 ∧ x ≠ 62 ∧ x ≠ 13 ∧ (q = true → x ≠ 34 ∧ x ≠ 9 ∧ x ≠ 10) := by
  intro x hx
  unfold escL at hx
  rw [List.mem_flatMap] at hx
  obtain ⟨c, _, hc⟩ := hx
  exact escb_ok q c x hc
theorem escb_len (q : Bool) (c : UInt8) : 1 ≤ (escb q c).length ∧ (escb q c).length ≤ 6 := by
  cases q
  · exact u8_every (fun c => 1 ≤ (escb false c).length ∧ (escb false c).length ≤ 6) (by decide +kernel) c
  · exact u8_every (fun c => 1 ≤ (escb true c).length ∧ (escb true c).length ≤ 6) (by decide +kernel) c
theorem escL_len (q : Bool) (l : List UInt8) : l.length ≤ (escL q l).length ∧ (escL q l).length ≤ 6 * l.length := by
  induction l with
  | nil => simp [escL]
  | cons c l ih =>
    have := escb_len q c
    rw [escL_cons, List.length_append, List.length_cons]
    omega
/-- The code points of what is written. -/
def escn (q : Bool) (n : Nat) : List Nat := if n < 128 then (escb q (bt n)).map UInt8.toNat else [n]
theorem escb_far (q : Bool) (c : UInt8) (h : 128 ≤ c.toNat) : escb q c = [c] := by
  cases q
  · exact u8_every (fun c => 128 ≤ c.toNat → escb false c = [c]) (by decide +kernel) c h
  · exact u8_every (fun c => 128 ≤ c.toNat → escb true c = [c]) (by decide +kernel) c h
theorem escb_near (q : Bool) (c : UInt8) (h : c.toNat < 128) : ∀ x ∈ escb q c, x.toNat < 128 ∧ (may (c.toNat : Int) = true → may (x.toNat : Int) = true) := by
  cases q
  · exact u8_every (fun c => c.toNat < 128 → ∀ x ∈ escb false c, x.toNat < 128 ∧ (may (c.toNat : Int) = true → may (x.toNat : Int) = true)) (by decide +kernel) c h
  · exact u8_every (fun c => c.toNat < 128 → ∀ x ∈ escb true c, x.toNat < 128 ∧ (may (c.toNat : Int) = true → may (x.toNat : Int) = true)) (by decide +kernel) c h
theorem encs_near (l : List UInt8) (h : ∀ x ∈ l, x.toNat < 128) : encs (l.map UInt8.toNat) = l := by
  induction l with
  | nil => rfl
  | cons c l ih =>
    rw [List.map_cons, encs_cons, ih (fun x hx => h x (by simp [hx]))]
    have : enc c.toNat = [c] := by unfold enc; rw [if_pos (h c (by simp)), bt_of c _ rfl]
    rw [this]
    rfl
theorem enc_far (n : Nat) (h : 128 ≤ n) (hs : sv n = true) : ∀ x ∈ enc n, 128 ≤ x.toNat := by
  have hb := sv_le hs
  unfold enc
  rw [if_neg (by omega)]
  intro x hx
  split at hx
  · simp only [List.mem_cons, List.not_mem_nil, or_false] at hx
    rcases hx with rfl | rfl <;> rw [bt_nat _ (by omega)] <;> omega
  · split at hx
    · simp only [List.mem_cons, List.not_mem_nil, or_false] at hx
      rcases hx with rfl | rfl | rfl <;> rw [bt_nat _ (by omega)] <;> omega
    · simp only [List.mem_cons, List.not_mem_nil, or_false] at hx
      rcases hx with rfl | rfl | rfl | rfl <;> rw [bt_nat _ (by omega)] <;> omega
theorem escL_far (q : Bool) (l : List UInt8) (h : ∀ x ∈ l, 128 ≤ x.toNat) : escL q l = l := by
  induction l with
  | nil => rfl
  | cons c l ih => rw [escL_cons, escb_far q c (h c (by simp)), ih (fun x hx => h x (by simp [hx]))]; rfl
theorem esc_enc (q : Bool) (n : Nat) (hs : sv n = true) : escL q (enc n) = encs (escn q n) := by
  unfold escn
  by_cases h : n < 128
  · rw [if_pos h]
    have hb : (bt n).toNat = n := bt_nat n (by omega)
    have e : enc n = [bt n] := by unfold enc; rw [if_pos h]
    rw [e, escL_cons, escL_nil, List.append_nil, encs_near _ (fun x hx => (escb_near q (bt n) (by omega) x hx).1)]
  · rw [if_neg h, escL_far q _ (enc_far n (by omega) hs), encs_cons, encs_nil, List.append_nil]
theorem escn_may (q : Bool) (n : Nat) (h : may (n : Int) = true) : mays (escn q n) := by
  unfold escn
  by_cases h1 : n < 128
  · rw [if_pos h1]
    have hb : (bt n).toNat = n := bt_nat n (by omega)
    intro x hx
    obtain ⟨y, hy, rfl⟩ := List.mem_map.1 hx
    exact (escb_near q (bt n) (by omega) y hy).2 (by rw [hb]; exact h)
  · rw [if_neg h1]
    intro x hx
    rw [List.mem_singleton] at hx
    subst hx
    exact h
theorem esc_encs (q : Bool) (ns : List Nat) (h : mays ns) : escL q (encs ns) = encs (ns.flatMap (escn q)) ∧ mays (ns.flatMap (escn q)) := by
  induction ns with
  | nil => exact ⟨rfl, mays_nil⟩
  | cons n ns ih =>
    rw [mays_cons] at h
    obtain ⟨i1, i2⟩ := ih h.2
    refine ⟨?_, ?_⟩
    · rw [encs_cons, escL_app, esc_enc q n (nat_sv h.1), i1, List.flatMap_cons, encs_append]
    · rw [List.flatMap_cons, mays_append]
      exact ⟨escn_may q n h.1, i2⟩
/-- What is written of a text is a text. -/
theorem pts_esc (q : Bool) (l : List UInt8) (h : (pts l).isSome = true) : (pts (escL q l)).isSome = true := by
  obtain ⟨ns, hns⟩ := Option.isSome_iff_exists.1 h
  obtain ⟨e, hm⟩ := (pts_iff l ns).1 hns
  obtain ⟨e2, hm2⟩ := esc_encs q ns hm
  rw [e, e2, pts_encs hm2]
  rfl
theorem pts_app {a b : List UInt8} (ha : (pts a).isSome = true) (hb : (pts b).isSome = true) : (pts (a ++ b)).isSome = true := by
  obtain ⟨na, h1⟩ := Option.isSome_iff_exists.1 ha
  obtain ⟨nb, h2⟩ := Option.isSome_iff_exists.1 hb
  obtain ⟨e1, m1⟩ := (pts_iff a na).1 h1
  obtain ⟨e2, m2⟩ := (pts_iff b nb).1 h2
  rw [e1, e2, ← encs_append, pts_encs (mays_append.2 ⟨m1, m2⟩)]
  rfl
end Es
end Go.Proofs.Ytfdhogaknlabkaa
namespace Go.Proofs.Ytfdhogaknlabkaa
namespace Lx
open Tx Nmb Es
set_option linter.unusedVariables false
/-- An attribute; a token. -/
structure Pr where
  name : List UInt8
  value : List UInt8
structure Tk where
  kind : Nat
  name : List UInt8
  attrs : List Pr
  text : List UInt8
def ltr (c : UInt8) : Bool := (decide (97 ≤ c.toNat) && decide (c.toNat ≤ 122)) || (decide (65 ≤ c.toNat) && decide (c.toNat ≤ 90)) || c == 95
def nch (c : UInt8) : Bool := ltr c || (decide (48 ≤ c.toNat) && decide (c.toNat ≤ 57)) || c == 46 || c == 45
def wch (c : UInt8) : Bool := nch c || c == 58
def blk (c : UInt8) : Bool := c == 32 || c == 9 || c == 10 || c == 13
/-- Is that a name? -/
def nameL : List UInt8 → Bool
  | [] => false
  | c :: r => ltr c && r.all nch
/-- What stands ahead of the first colon, and behind it. -/
def cutC : List UInt8 → Option (List UInt8 × List UInt8)
  | [] => none
  | c :: r => if c = 58 then some ([], r) else (cutC r).map fun p => (c :: p.1, p.2)
def fullL (l : List UInt8) : Bool := match cutC l with | some (a, b) => nameL b && nameL a | none => nameL l
theorem cutC_some : ∀ {l a b : List UInt8}, cutC l = some (a, b) → l = a ++ 58 :: b ∧ (58 : UInt8) ∉ a := by
  intro l
  induction l with
  | nil => intro a b h; cases h
  | cons c r ih =>
    intro a b h
    unfold cutC at h
    by_cases hc : c = 58
    · rw [if_pos hc] at h
      obtain ⟨rfl, rfl⟩ := (Prod.mk.injEq _ _ _ _).mp (Option.some.inj h)
      exact ⟨by rw [hc]; rfl, by simp⟩
    · rw [if_neg hc] at h
      cases hr : cutC r with
      | none => rw [hr] at h; cases h
      | some p =>
        rw [hr] at h
        obtain ⟨rfl, rfl⟩ := (Prod.mk.injEq _ _ _ _).mp (Option.some.inj h)
        obtain ⟨h1, h2⟩ := ih (a := p.1) (b := p.2) hr
        exact ⟨by rw [h1]; rfl, by rw [List.mem_cons, not_or]; exact ⟨Ne.symm hc, h2⟩⟩
theorem nch_of_ltr {c : UInt8} (h : ltr c = true) : nch c = true := by unfold nch; rw [h]; rfl
theorem nameL_all {l : List UInt8} (h : nameL l = true) : ∀ c ∈ l, nch c = true := by
  cases l with
  | nil => cases h
  | cons c r =>
    unfold nameL at h
    rw [Bool.and_eq_true] at h
    intro x hx
    rcases List.mem_cons.1 hx with rfl | hx
    · exact nch_of_ltr h.1
    · exact List.all_eq_true.1 h.2 x hx
theorem fullL_all {l : List UInt8} (h : fullL l = true) : ∀ c ∈ l, wch c = true := by
  unfold fullL at h
  cases hc : cutC l with
  | none =>
    rw [hc] at h
    intro x hx
    unfold wch
    rw [nameL_all h x hx]
    rfl
  | some p =>
    obtain ⟨a, b⟩ := p
    rw [hc] at h
    simp only [Bool.and_eq_true] at h
    obtain ⟨rfl, _⟩ := cutC_some hc
    intro x hx
    unfold wch
    rcases List.mem_append.1 hx with hx | hx
    · rw [nameL_all h.2 x hx]; rfl
    · rcases List.mem_cons.1 hx with rfl | hx
      · decide
      · rw [nameL_all h.1 x hx]; rfl
theorem fullL_ne {l : List UInt8} (h : fullL l = true) : l ≠ [] := by rintro rfl; cases h
theorem wch_far {c : UInt8} (h : wch c = true) : blk c = false ∧ c ≠ 61 ∧ c ≠ 62 ∧ c ≠ 47 ∧ c ≠ 60 ∧ c ≠ 34 ∧ c ≠ 39 ∧ c.toNat < 128 ∧ 45 ≤ c.toNat := by
  revert h
  exact u8_every (fun c => wch c = true → blk c = false ∧ c ≠ 61 ∧ c ≠ 62 ∧ c ≠ 47 ∧ c ≠ 60 ∧ c ≠ 34 ∧ c ≠ 39 ∧ c.toNat < 128 ∧ 45 ≤ c.toNat) (by decide +kernel) c
theorem blk_far {c : UInt8} (h : blk c = true) : wch c = false ∧ c ≠ 61 ∧ c ≠ 62 ∧ c ≠ 47 ∧ c ≠ 60 ∧ c ≠ 34 ∧ c ≠ 39 ∧ c.toNat < 128 := by
  revert h
  exact u8_every (fun c => blk c = true → wch c = false ∧ c ≠ 61 ∧ c ≠ 62 ∧ c ≠ 47 ∧ c ≠ 60 ∧ c ≠ 34 ∧ c ≠ 39 ∧ c.toNat < 128) (by decide +kernel) c
/-- Taken while, and dropped while, ahead of what is other. -/
theorem tw_app {p : UInt8 → Bool} {a b : List UInt8} (ha : ∀ c ∈ a, p c = true) (hb : ∀ c r, b = c :: r → p c = false) : (a ++ b).takeWhile p = a ∧ (a ++ b).dropWhile p = b := by
  induction a with
  | nil =>
    cases b with
    | nil => exact ⟨rfl, rfl⟩
    | cons c r =>
      have := hb c r rfl
      simp [this]
  | cons c a ih =>
    have hc := ha c (by simp)
    obtain ⟨h1, h2⟩ := ih (fun x hx => ha x (by simp [hx]))
    simp only [List.cons_append, List.takeWhile_cons, List.dropWhile_cons, hc, if_true, h1, h2]
    refine ⟨?_, ?_⟩ <;> first | rfl | trivial
theorem tw_split (p : UInt8 → Bool) (l : List UInt8) : l = l.takeWhile p ++ l.dropWhile p ∧ (∀ c ∈ l.takeWhile p, p c = true) ∧ ∀ c r, l.dropWhile p = c :: r → p c = false := by
  induction l with
  | nil => exact ⟨rfl, by simp, fun c r h => by cases h⟩
  | cons c l ih =>
    by_cases hc : p c = true
    · simp only [List.takeWhile_cons, List.dropWhile_cons, hc, if_true]
      refine ⟨by rw [List.cons_append, ← ih.1], fun x hx => ?_, ih.2.2⟩
      rcases List.mem_cons.1 hx with rfl | hx
      · exact hc
      · exact ih.2.1 x hx
    · simp only [List.takeWhile_cons, List.dropWhile_cons, hc]
      refine ⟨rfl, by simp, fun x r h => ?_⟩
      obtain ⟨rfl, _⟩ := List.cons.inj h
      exact Bool.eq_false_iff.2 hc
/-- The full name that a text begins with; none: empty. -/
def wordL (l : List UInt8) : List UInt8 := if fullL (l.takeWhile wch) then l.takeWhile wch else []
theorem wordL_app {a b : List UInt8} (ha : fullL a = true) (hb : ∀ c r, b = c :: r → wch c = false) : wordL (a ++ b) = a := by
  unfold wordL
  rw [(tw_app (fullL_all ha) hb).1, if_pos ha]
theorem wordL_ne {l : List UInt8} (h : wordL l ≠ []) : fullL (wordL l) = true ∧ l = wordL l ++ l.dropWhile wch ∧ (∀ c r, l.dropWhile wch = c :: r → wch c = false) := by
  unfold wordL at h ⊢
  by_cases hf : fullL (l.takeWhile wch) = true
  · rw [if_pos hf] at h ⊢
    obtain ⟨h1, _, h3⟩ := tw_split wch l
    exact ⟨hf, h1, h3⟩
  · rw [if_neg hf] at h
    exact absurd rfl h
/-- What a value tells. -/
def toldL (l : List UInt8) : Option (List UInt8) := rd (l.map fun c => if blk c then 32 else c)
/-- What stands ahead of a sign, and behind it. -/
def cutQ (q : UInt8) : List UInt8 → Option (List UInt8 × List UInt8)
  | [] => none
  | c :: r => if c = q then some ([], r) else (cutQ q r).map fun p => (c :: p.1, p.2)
theorem cutQ_some {q : UInt8} : ∀ {l a b : List UInt8}, cutQ q l = some (a, b) → l = a ++ q :: b ∧ q ∉ a := by
  intro l
  induction l with
  | nil => intro a b h; cases h
  | cons c r ih =>
    intro a b h
    unfold cutQ at h
    by_cases hc : c = q
    · rw [if_pos hc] at h
      obtain ⟨rfl, rfl⟩ := (Prod.mk.injEq _ _ _ _).mp (Option.some.inj h)
      exact ⟨by rw [hc]; rfl, by simp⟩
    · rw [if_neg hc] at h
      cases hr : cutQ q r with
      | none => rw [hr] at h; cases h
      | some p =>
        rw [hr] at h
        obtain ⟨rfl, rfl⟩ := (Prod.mk.injEq _ _ _ _).mp (Option.some.inj h)
        obtain ⟨h1, h2⟩ := ih (a := p.1) (b := p.2) hr
        exact ⟨by rw [h1]; rfl, by rw [List.mem_cons, not_or]; exact ⟨Ne.symm hc, h2⟩⟩
theorem cutQ_of {q : UInt8} : ∀ {a : List UInt8} (b : List UInt8), q ∉ a → cutQ q (a ++ q :: b) = some (a, b) := by
  intro a
  induction a with
  | nil => intro b _; show (if q = q then _ else _) = _; rw [if_pos rfl]
  | cons c a ih =>
    intro b h
    rw [List.mem_cons, not_or] at h
    show (if c = q then _ else _) = _
    rw [if_neg (Ne.symm h.1)]
    show Option.map _ (cutQ q (a ++ q :: b)) = _
    rw [ih b h.2]
    rfl
theorem cutQ_none {q : UInt8} : ∀ {l : List UInt8}, q ∉ l → cutQ q l = none := by
  intro l
  induction l with
  | nil => intro _; rfl
  | cons c l ih =>
    intro h
    rw [List.mem_cons, not_or] at h
    show (if c = q then _ else _) = _
    rw [if_neg (Ne.symm h.1), ih h.2]
    rfl
/-- A value that begins here, and what stands behind it. -/
def valL (l : List UInt8) : Option (List UInt8 × List UInt8) := match l with
  | [] => none
  | q :: r => if q = 34 ∨ q = 39 then match cutQ q r with | none => none | some (raw, y) => (toldL raw).map fun v => (v, y) else none
/-- The attribute that a text begins with, and what stands behind it. -/
def attrL (l : List UInt8) : Option (Pr × List UInt8) :=
  if wordL l = [] then none else
  match (l.drop (wordL l).length).dropWhile blk with
  | [] => none
  | c :: r => if c = 61 then (valL (r.dropWhile blk)).map fun p => (⟨wordL l, p.1⟩, p.2) else none
theorem valL_iff (l v r : List UInt8) : valL l = some (v, r) ↔ ∃ q raw, l = q :: (raw ++ q :: r) ∧ (q = 34 ∨ q = 39) ∧ q ∉ raw ∧ toldL raw = some v := by
  constructor
  · intro h
    unfold valL at h
    cases l with
    | nil => cases h
    | cons q s =>
      dsimp only at h
      by_cases hq : q = 34 ∨ q = 39
      · rw [if_pos hq] at h
        cases hc : cutQ q s with
        | none => rw [hc] at h; cases h
        | some p =>
          obtain ⟨raw, y⟩ := p
          rw [hc] at h
          dsimp only at h
          obtain ⟨e1, e2⟩ := cutQ_some hc
          cases ht : toldL raw with
          | none => rw [ht] at h; cases h
          | some v' =>
            rw [ht] at h
            obtain ⟨rfl, rfl⟩ := (Prod.mk.injEq _ _ _ _).mp (Option.some.inj h)
            exact ⟨q, raw, by rw [e1], hq, e2, ht⟩
      · rw [if_neg hq] at h
        cases h
  · rintro ⟨q, raw, rfl, hq, hn, ht⟩
    unfold valL
    dsimp only
    rw [if_pos hq, cutQ_of _ hn]
    dsimp only
    rw [ht]
    rfl
theorem attrL_iff (l r : List UInt8) (p : Pr) : attrL l = some (p, r) ↔ ∃ g1 g2 x, l = p.name ++ (g1 ++ 61 :: (g2 ++ x)) ∧ fullL p.name = true ∧ (∀ c ∈ g1, blk c = true) ∧ (∀ c ∈ g2, blk c = true) ∧ valL x = some (p.value, r) := by
  constructor
  · intro h
    unfold attrL at h
    by_cases hw : wordL l = []
    · rw [if_pos hw] at h; cases h
    · rw [if_neg hw] at h
      obtain ⟨h1, h2, h3⟩ := wordL_ne hw
      have hd : l.drop (wordL l).length = l.dropWhile wch := by
        conv => lhs; arg 2; rw [h2]
        rw [List.drop_left]
      rw [hd] at h
      obtain ⟨e1, e2, e3⟩ := tw_split blk (l.dropWhile wch)
      cases hr : (l.dropWhile wch).dropWhile blk with
      | nil => rw [hr] at h; cases h
      | cons c s =>
        rw [hr] at h
        dsimp only at h
        by_cases hc : c = 61
        · rw [if_pos hc] at h
          obtain ⟨f1, f2, f3⟩ := tw_split blk s
          cases hv : valL (s.dropWhile blk) with
          | none => rw [hv] at h; cases h
          | some y =>
            rw [hv] at h
            obtain ⟨rfl, rfl⟩ := (Prod.mk.injEq _ _ _ _).mp (Option.some.inj h)
            refine ⟨_, _, _, ?_, h1, e2, f2, hv⟩
            show l = wordL l ++ _
            rw [← f1, ← hc, ← hr, ← e1]
            exact h2
        · rw [if_neg hc] at h; cases h
  · rintro ⟨g1, g2, x, rfl, hf, h1, h2, hv⟩
    have hb : ∀ c r, g1 ++ 61 :: (g2 ++ x) = c :: r → wch c = false := by
      intro c r e
      cases g1 with
      | nil => obtain ⟨rfl, _⟩ := List.cons.inj e; decide
      | cons d g => obtain ⟨rfl, _⟩ := List.cons.inj e; exact (blk_far (h1 d (by simp))).1
    have hw := wordL_app hf hb
    unfold attrL
    rw [hw, if_neg (fullL_ne hf), List.drop_left, (tw_app h1 (fun c r e => by obtain ⟨rfl, _⟩ := List.cons.inj e; decide)).2]
    dsimp only
    rw [if_pos rfl]
    have hx : ∀ c r, x = c :: r → blk c = false := by
      rintro c r' rfl
      obtain ⟨q, raw, e, hq, _⟩ := (valL_iff _ _ _).1 hv
      obtain ⟨rfl, _⟩ := List.cons.inj e
      rcases hq with rfl | rfl <;> decide
    rw [(tw_app h2 hx).2, hv]
    rfl
theorem attrL_app {l r : List UInt8} {p : Pr} (h : attrL l = some (p, r)) (b : List UInt8) : attrL (l ++ b) = some (p, r ++ b) := by
  obtain ⟨g1, g2, x, rfl, h1, h2, h3, h4⟩ := (attrL_iff _ _ _).1 h
  obtain ⟨q, raw, rfl, h5, h6, h7⟩ := (valL_iff _ _ _).1 h4
  exact (attrL_iff _ _ _).2 ⟨g1, g2, q :: (raw ++ q :: (r ++ b)), by simp, h1, h2, h3, (valL_iff _ _ _).2 ⟨q, raw, rfl, h5, h6, h7⟩⟩
theorem attrL_len {l r : List UInt8} {p : Pr} (h : attrL l = some (p, r)) : r.length + p.name.length + 3 ≤ l.length := by
  obtain ⟨g1, g2, x, rfl, h1, h2, h3, h4⟩ := (attrL_iff _ _ _).1 h
  obtain ⟨q, raw, rfl, h5, h6, h7⟩ := (valL_iff _ _ _).1 h4
  simp only [List.length_append, List.length_cons]
  omega
/-- Has one of some a name? -/
def hasL (l : List Pr) (name : List UInt8) : Bool := l.any fun p => decide (p.name = name)
/-- What stands behind a tag's name: is it bare, its attributes, and what stands behind it. -/
def tagF : Nat → List Pr → List UInt8 → Option (Bool × List Pr × List UInt8)
  | 0, _, _ => none
  | f + 1, acc, l => match l.dropWhile blk with
    | [] => none
    | c :: x => if c = 62 then some (false, acc, x) else if c = 47 ∧ x.head? = some 62 then some (true, acc, x.tail) else
      match attrL (c :: x) with
      | none => none
      | some (p, y) => if l.length = (c :: x).length ∨ hasL acc p.name = true then none else tagF f (acc ++ [p]) y
/-- The closing tag whose < and / stand ahead of a text. -/
def shutL (l : List UInt8) : Option (Tk × List UInt8) :=
  if wordL l = [] then none else
  match (l.drop (wordL l).length).dropWhile blk with
  | [] => none
  | c :: r => if c = 62 then some (⟨2, wordL l, [], []⟩, r) else none
/-- The tag whose < stands ahead of a text. -/
def tagL (l : List UInt8) : Option (Tk × List UInt8) :=
  if l.head? = some 47 then shutL l.tail else
  if wordL l = [] then none else
  (tagF (l.length + 1) [] (l.drop (wordL l).length)).map fun p => (⟨if p.1 then 3 else 1, wordL l, p.2.1, []⟩, p.2.2)
def txt (c : UInt8) : Bool := c != 60
/-- The token that a text begins with, and what stands behind it. -/
def oneL (l : List UInt8) : Option (Tk × List UInt8) := match l with
  | [] => none
  | c :: r => if c = 60 then tagL r else (rd (l.takeWhile txt)).map fun x => (⟨4, [], [], x⟩, l.dropWhile txt)
theorem dropWhile_len (p : UInt8 → Bool) (l : List UInt8) : (l.dropWhile p).length ≤ l.length := by
  have := congrArg List.length (tw_split p l).1
  rw [List.length_append] at this
  omega
theorem tagF_same : ∀ (f g : Nat) (acc : List Pr) (l : List UInt8), l.length < f → l.length < g → tagF f acc l = tagF g acc l := by
  intro f
  induction f with
  | zero => intro g acc l h; omega
  | succ f ih =>
    intro g acc l h1 h2
    cases g with
    | zero => omega
    | succ g =>
      unfold tagF
      have hl := dropWhile_len blk l
      cases hd : l.dropWhile blk with
      | nil => rfl
      | cons c x =>
        dsimp only
        rw [hd] at hl
        by_cases c1 : c = 62
        · rw [if_pos c1, if_pos c1]
        · rw [if_neg c1, if_neg c1]
          by_cases c2 : c = 47 ∧ x.head? = some 62
          · rw [if_pos c2, if_pos c2]
          · rw [if_neg c2, if_neg c2]
            cases ha : attrL (c :: x) with
            | none => rfl
            | some q =>
              obtain ⟨p, y⟩ := q
              dsimp only
              have := attrL_len ha
              by_cases c3 : l.length = (c :: x).length ∨ hasL acc p.name = true
              · rw [if_pos c3, if_pos c3]
              · rw [if_neg c3, if_neg c3]
                exact ih g _ y (by omega) (by omega)
/-- What stands behind a tag's name, put together of its parts. -/
inductive TagI : List Pr → List UInt8 → Bool → List Pr → List UInt8 → Prop
  | shut (acc : List Pr) (g x : List UInt8) : (∀ c ∈ g, blk c = true) → TagI acc (g ++ 62 :: x) false acc x
  | bare (acc : List Pr) (g x : List UInt8) : (∀ c ∈ g, blk c = true) → TagI acc (g ++ 47 :: 62 :: x) true acc x
  | attr (acc : List Pr) (g l y : List UInt8) (p : Pr) (b : Bool) (at1 : List Pr) (x : List UInt8) : (∀ c ∈ g, blk c = true) → g ≠ [] → attrL l = some (p, y) → hasL acc p.name = false → TagI (acc ++ [p]) y b at1 x → TagI acc (g ++ l) b at1 x
theorem attrL_head {c : UInt8} {x : List UInt8} {q : Pr × List UInt8} (h : attrL (c :: x) = some q) : wch c = true := by
  obtain ⟨p, y⟩ := q
  obtain ⟨g1, g2, z, e, hf, _⟩ := (attrL_iff _ _ _).1 h
  have hn := fullL_ne hf
  cases hp : p.name with
  | nil => exact absurd hp hn
  | cons d r =>
    rw [hp] at e
    obtain ⟨rfl, _⟩ := List.cons.inj e
    exact fullL_all hf c (by rw [hp]; simp)
theorem tagF_iff : ∀ (f : Nat) (acc : List Pr) (l : List UInt8) (b : Bool) (at1 : List Pr) (x : List UInt8), l.length < f → (tagF f acc l = some (b, at1, x) ↔ TagI acc l b at1 x) := by
  intro f
  induction f with
  | zero => intro acc l b at1 x h; omega
  | succ f ih =>
    intro acc l b at1 x hl
    have hsp := tw_split blk l
    constructor
    · intro h
      unfold tagF at h
      cases hd : l.dropWhile blk with
      | nil => rw [hd] at h; cases h
      | cons c r =>
        rw [hd] at h hsp
        dsimp only at h
        rw [hsp.1]
        by_cases c1 : c = 62
        · rw [if_pos c1] at h
          obtain ⟨rfl, rfl, rfl⟩ : false = b ∧ acc = at1 ∧ r = x := by simpa using h
          rw [c1]
          exact .shut _ _ _ hsp.2.1
        · rw [if_neg c1] at h
          by_cases c2 : c = 47 ∧ r.head? = some 62
          · rw [if_pos c2] at h
            obtain ⟨rfl, rfl, rfl⟩ : true = b ∧ acc = at1 ∧ r.tail = x := by simpa using h
            rw [c2.1]
            cases r with
            | nil => exact absurd c2.2 (by simp)
            | cons d r =>
              obtain rfl : d = 62 := by simpa using c2.2
              exact .bare _ _ _ hsp.2.1
          · rw [if_neg c2] at h
            cases ha : attrL (c :: r) with
            | none => rw [ha] at h; cases h
            | some q =>
              obtain ⟨p, y⟩ := q
              rw [ha] at h
              dsimp only at h
              have hal := attrL_len ha
              have hdl := dropWhile_len blk l
              rw [hd] at hdl
              by_cases c3 : l.length = (c :: r).length ∨ hasL acc p.name = true
              · rw [if_pos c3] at h; cases h
              · rw [if_neg c3] at h
                rw [not_or] at c3
                refine .attr _ _ _ _ p _ _ _ hsp.2.1 ?_ ha (Bool.eq_false_iff.2 c3.2) ((ih _ _ _ _ _ (by omega)).1 h)
                intro hg
                apply c3.1
                have := congrArg List.length hsp.1
                rw [hg] at this
                exact this
    · intro h
      unfold tagF
      cases h with
      | shut _ g _ hg =>
        rw [(tw_app hg (fun c r e => by obtain ⟨rfl, _⟩ := List.cons.inj e; decide)).2]
        rfl
      | bare _ g _ hg =>
        rw [(tw_app hg (fun c r e => by obtain ⟨rfl, _⟩ := List.cons.inj e; decide)).2]
        rfl
      | attr _ g l' y p _ _ _ hg hn ha hh ht =>
        cases hl' : l' with
        | nil => rw [hl'] at ha; cases ha
        | cons c r =>
          rw [hl'] at ha hl
          have hw := attrL_head ha
          obtain ⟨w1, _, w3, w4, _⟩ := wch_far hw
          rw [(tw_app hg (fun d s e => by obtain ⟨rfl, _⟩ := List.cons.inj e; exact w1)).2]
          dsimp only
          have hal := attrL_len ha
          rw [if_neg w3, if_neg (fun h => w4 h.1), ha]
          dsimp only
          rw [if_neg (by
            rw [not_or]
            refine ⟨fun e => hn ?_, by rw [hh]; simp⟩
            rw [List.length_append] at e
            exact List.eq_nil_of_length_eq_zero (by omega))]
          rw [List.length_append] at hl
          exact (ih _ _ _ _ _ (by omega)).2 ht
theorem TagI.app {acc : List Pr} {l : List UInt8} {b : Bool} {at1 : List Pr} {x : List UInt8} (h : TagI acc l b at1 x) (z : List UInt8) : TagI acc (l ++ z) b at1 (x ++ z) := by
  induction h with
  | shut acc g x hg => rw [List.append_assoc]; exact .shut _ _ _ hg
  | bare acc g x hg => rw [List.append_assoc]; exact .bare _ _ _ hg
  | attr acc g l y p b at1 x hg hn ha hh _ ih => rw [List.append_assoc]; exact .attr _ _ _ _ p _ _ _ hg hn (attrL_app ha z) hh ih
theorem TagI.len {acc : List Pr} {l : List UInt8} {b : Bool} {at1 : List Pr} {x : List UInt8} (h : TagI acc l b at1 x) : x.length < l.length := by
  induction h with
  | shut acc g x hg => simp; omega
  | bare acc g x hg => simp; omega
  | attr acc g l y p b at1 x hg hn ha hh _ ih =>
    have := attrL_len ha
    rw [List.length_append]
    omega
theorem TagI.first {acc : List Pr} {l : List UInt8} {b : Bool} {at1 : List Pr} {x : List UInt8} (h : TagI acc l b at1 x) : ∀ c r, l = c :: r → wch c = false := by
  intro c r e
  cases h with
  | shut _ g _ hg =>
    cases g with
    | nil => obtain ⟨rfl, _⟩ := List.cons.inj e; decide
    | cons d g => obtain ⟨rfl, _⟩ := List.cons.inj e; exact (blk_far (hg d (by simp))).1
  | bare _ g _ hg =>
    cases g with
    | nil => obtain ⟨rfl, _⟩ := List.cons.inj e; decide
    | cons d g => obtain ⟨rfl, _⟩ := List.cons.inj e; exact (blk_far (hg d (by simp))).1
  | attr _ g l' y p _ _ _ hg hn _ _ _ =>
    cases g with
    | nil => exact absurd rfl hn
    | cons d g => obtain ⟨rfl, _⟩ := List.cons.inj e; exact (blk_far (hg d (by simp))).1
/-- A tag, put together of its parts. -/
theorem shutL_iff (l r : List UInt8) (t : Tk) : shutL l = some (t, r) ↔ ∃ g, l = t.name ++ (g ++ 62 :: r) ∧ fullL t.name = true ∧ (∀ c ∈ g, blk c = true) ∧ t = ⟨2, t.name, [], []⟩ := by
  constructor
  · intro h
    unfold shutL at h
    by_cases hw : wordL l = []
    · rw [if_pos hw] at h; cases h
    · rw [if_neg hw] at h
      obtain ⟨h1, h2, h3⟩ := wordL_ne hw
      have hd : l.drop (wordL l).length = l.dropWhile wch := by
        conv => lhs; arg 2; rw [h2]
        rw [List.drop_left]
      rw [hd] at h
      obtain ⟨e1, e2, e3⟩ := tw_split blk (l.dropWhile wch)
      cases hr : (l.dropWhile wch).dropWhile blk with
      | nil => rw [hr] at h; cases h
      | cons c s =>
        rw [hr] at h
        dsimp only at h
        by_cases hc : c = 62
        · rw [if_pos hc] at h
          obtain ⟨rfl, rfl⟩ := (Prod.mk.injEq _ _ _ _).mp (Option.some.inj h)
          refine ⟨_, ?_, h1, e2, rfl⟩
          show l = wordL l ++ _
          rw [← hc, ← hr, ← e1]
          exact h2
        · rw [if_neg hc] at h; cases h
  · rintro ⟨g, rfl, hf, hg, ht⟩
    have hb : ∀ c s, g ++ 62 :: r = c :: s → wch c = false := by
      intro c s e
      cases g with
      | nil => obtain ⟨rfl, _⟩ := List.cons.inj e; decide
      | cons d g => obtain ⟨rfl, _⟩ := List.cons.inj e; exact (blk_far (hg d (by simp))).1
    unfold shutL
    rw [wordL_app hf hb, if_neg (fullL_ne hf), List.drop_left, (tw_app hg (fun c s e => by obtain ⟨rfl, _⟩ := List.cons.inj e; decide)).2]
    dsimp only
    rw [if_pos rfl, ← ht]
theorem fullL_head {l : List UInt8} (h : fullL l = true) (z : List UInt8) : (l ++ z).head? ≠ some 47 := by
  cases l with
  | nil => cases h
  | cons c r =>
    intro e
    obtain rfl : c = 47 := by simpa using e
    have := fullL_all h 47 (by simp)
    exact absurd this (by decide)
theorem tagL_iff (l r : List UInt8) (t : Tk) : tagL l = some (t, r) ↔ (∃ g, l = 47 :: (t.name ++ (g ++ 62 :: r)) ∧ fullL t.name = true ∧ (∀ c ∈ g, blk c = true) ∧ t = ⟨2, t.name, [], []⟩) ∨
    (∃ b y, l = t.name ++ y ∧ fullL t.name = true ∧ TagI [] y b t.attrs r ∧ t = ⟨if b then 3 else 1, t.name, t.attrs, []⟩) := by
  constructor
  · intro h
    unfold tagL at h
    by_cases h0 : l.head? = some 47
    · rw [if_pos h0] at h
      left
      cases l with
      | nil => cases h0
      | cons c s =>
        obtain rfl : c = 47 := by simpa using h0
        obtain ⟨g, e, h1, h2, h3⟩ := (shutL_iff _ _ _).1 h
        exact ⟨g, by rw [← e]; rfl, h1, h2, h3⟩
    · rw [if_neg h0] at h
      right
      by_cases hw : wordL l = []
      · rw [if_pos hw] at h; cases h
      · rw [if_neg hw] at h
        obtain ⟨h1, h2, h3⟩ := wordL_ne hw
        have hd : l.drop (wordL l).length = l.dropWhile wch := by
          conv => lhs; arg 2; rw [h2]
          rw [List.drop_left]
        rw [hd] at h
        cases ht : tagF (l.length + 1) [] (l.dropWhile wch) with
        | none => rw [ht] at h; cases h
        | some q =>
          obtain ⟨b, at1, x⟩ := q
          rw [ht] at h
          obtain ⟨rfl, rfl⟩ := (Prod.mk.injEq _ _ _ _).mp (Option.some.inj h)
          exact ⟨b, _, h2, h1, (tagF_iff _ _ _ _ _ _ (by have := dropWhile_len wch l; omega)).1 ht, rfl⟩
  · rintro (⟨g, rfl, h1, h2, h3⟩ | ⟨b, y, rfl, h1, h2, h3⟩)
    · unfold tagL
      rw [if_pos (show (47 :: (t.name ++ (g ++ 62 :: r))).head? = some 47 from rfl)]
      exact (shutL_iff _ _ _).2 ⟨g, rfl, h1, h2, h3⟩
    · unfold tagL
      rw [if_neg (fullL_head h1 _), wordL_app h1 h2.first, if_neg (fullL_ne h1), List.drop_left, (tagF_iff _ _ _ _ _ _ (by rw [List.length_append]; omega)).2 h2]
      show some ((⟨if b then 3 else 1, t.name, t.attrs, []⟩ : Tk), r) = _
      rw [← h3]
theorem tagL_app {l r : List UInt8} {t : Tk} (h : tagL l = some (t, r)) (b : List UInt8) : tagL (l ++ b) = some (t, r ++ b) := by
  rcases (tagL_iff _ _ _).1 h with ⟨g, rfl, h1, h2, h3⟩ | ⟨q, y, e, h1, h2, h3⟩
  · exact (tagL_iff _ _ _).2 (.inl ⟨g, by simp, h1, h2, h3⟩)
  · exact (tagL_iff _ _ _).2 (.inr ⟨q, y ++ b, by rw [e]; simp, h1, h2.app b, h3⟩)
theorem tagL_len {l r : List UInt8} {t : Tk} (h : tagL l = some (t, r)) : r.length < l.length := by
  rcases (tagL_iff _ _ _).1 h with ⟨g, rfl, h1, h2, h3⟩ | ⟨q, y, e, h1, h2, h3⟩
  · simp; omega
  · have := h2.len
    rw [e, List.length_append]
    omega
theorem oneL_len {l r : List UInt8} {t : Tk} (h : oneL l = some (t, r)) : r.length < l.length := by
  cases l with
  | nil => cases h
  | cons c s =>
    unfold oneL at h
    dsimp only at h
    by_cases hc : c = 60
    · rw [if_pos hc] at h
      have := tagL_len h
      simp
      omega
    · rw [if_neg hc] at h
      have ht : txt c = true := by simpa [txt] using hc
      cases hr : rd ((c :: s).takeWhile txt) with
      | none => rw [hr] at h; cases h
      | some x =>
        rw [hr] at h
        obtain ⟨_, rfl⟩ := (Prod.mk.injEq _ _ _ _).mp (Option.some.inj h)
        simp only [List.dropWhile_cons, ht, if_true]
        have := dropWhile_len txt s
        simp
        omega
end Lx
end Go.Proofs.Ytfdhogaknlabkaa
