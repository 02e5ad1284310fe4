/-
  Plain facts on UTF-8: bytes of a scalar value, the value that bytes begin with, texts, their order, where they may be cut.
-/
import GoSem.Core.Utf8
namespace Go.Proofs.Ytichboamakgabaa
namespace Tx
open Go

/-- A scalar value. -/
def sv (n : Nat) : Bool := decide (n < 55296) || (decide (57344 ≤ n) && decide (n ≤ 1114111))
/-- May a code point be? -/
def may (n : Int) : Bool := if n < 32 then decide (n = 9) || decide (n = 10) || decide (n = 13) else decide (n ≤ 1114111) && (decide (n < 55296) || decide (57343 < n)) && decide (n ≠ 65534) && decide (n ≠ 65535)
theorem may_sv {n : Int} (h : may n = true) : 0 ≤ n ∧ n ≤ 1114111 ∧ sv n.toNat = true := by
  unfold may at h
  split at h
  · simp at h
    refine ⟨by omega, by omega, ?_⟩
    simp [sv]; omega
  · simp at h
    refine ⟨by omega, by omega, ?_⟩
    simp [sv]; omega
theorem sv_le {n : Nat} (h : sv n = true) : n ≤ 1114111 := by simp [sv] at h; omega

def bt (n : Nat) : UInt8 := UInt8.ofNat n
theorem bt_nat (n : Nat) (h : n < 256) : (bt n).toNat = n := by unfold bt; rw [UInt8.toNat_ofNat']; omega
/-- A scalar value's bytes. -/
def enc (n : Nat) : List UInt8 :=
  if n < 128 then [bt n]
  else if n < 2048 then [bt (192 + n / 64), bt (128 + n % 64)]
  else if n < 65536 then [bt (224 + n / 4096), bt (128 + n / 64 % 64), bt (128 + n % 64)]
  else [bt (240 + n / 262144), bt (128 + n / 4096 % 64), bt (128 + n / 64 % 64), bt (128 + n % 64)]
theorem enc_length (n : Nat) : 1 ≤ (enc n).length ∧ (enc n).length ≤ 4 := by
  unfold enc
  split
  · simp
  · split
    · simp
    · split <;> simp
/-- A byte that goes on. -/
def cont (b : UInt8) : Bool := decide (b.toNat / 64 = 2)
/-- The scalar value that bytes begin with, and how many they are. -/
def decL : List UInt8 → Option (Nat × Nat)
  | [] => none
  | a :: r =>
    if a.toNat < 128 then some (a.toNat, 1)
    else if a.toNat / 32 = 6 then
      match r with
      | b :: _ => if cont b && decide (128 ≤ a.toNat % 32 * 64 + b.toNat % 64) then some (a.toNat % 32 * 64 + b.toNat % 64, 2) else none
      | [] => none
    else if a.toNat / 16 = 14 then
      match r with
      | b :: c :: _ => if cont b && cont c && decide (2048 ≤ a.toNat % 16 * 4096 + b.toNat % 64 * 64 + c.toNat % 64) && sv (a.toNat % 16 * 4096 + b.toNat % 64 * 64 + c.toNat % 64) then some (a.toNat % 16 * 4096 + b.toNat % 64 * 64 + c.toNat % 64, 3) else none
      | _ => none
    else if a.toNat / 8 = 30 then
      match r with
      | b :: c :: d :: _ => if cont b && cont c && cont d && decide (65536 ≤ a.toNat % 8 * 262144 + b.toNat % 64 * 4096 + c.toNat % 64 * 64 + d.toNat % 64) && sv (a.toNat % 8 * 262144 + b.toNat % 64 * 4096 + c.toNat % 64 * 64 + d.toNat % 64) then some (a.toNat % 8 * 262144 + b.toNat % 64 * 4096 + c.toNat % 64 * 64 + d.toNat % 64, 4) else none
      | _ => none
    else none

theorem dec_enc (n : Nat) (h : sv n = true) (r : List UInt8) : decL (enc n ++ r) = some (n, (enc n).length) := by
  have hb := sv_le h
  unfold enc
  by_cases h1 : n < 128
  · rw [if_pos h1]
    simp only [List.cons_append, List.nil_append, decL, List.length_cons, List.length_nil]
    rw [bt_nat n (by omega), if_pos h1]
  · rw [if_neg h1]
    by_cases h2 : n < 2048
    · rw [if_pos h2]
      have e0 := bt_nat (192 + n / 64) (by omega)
      have e1 := bt_nat (128 + n % 64) (by omega)
      simp only [List.cons_append, List.nil_append, decL, List.length_cons, List.length_nil, cont, e0, e1]
      rw [if_neg (by omega), if_pos (by omega)]
      have v : (192 + n / 64) % 32 * 64 + (128 + n % 64) % 64 = n := by omega
      rw [v, if_pos (by simp; omega)]
    · rw [if_neg h2]
      by_cases h3 : n < 65536
      · rw [if_pos h3]
        have e0 := bt_nat (224 + n / 4096) (by omega)
        have e1 := bt_nat (128 + n / 64 % 64) (by omega)
        have e2 := bt_nat (128 + n % 64) (by omega)
        simp only [List.cons_append, List.nil_append, decL, List.length_cons, List.length_nil, cont, e0, e1, e2]
        rw [if_neg (by omega), if_neg (by omega), if_pos (by omega)]
        have v : (224 + n / 4096) % 16 * 4096 + (128 + n / 64 % 64) % 64 * 64 + (128 + n % 64) % 64 = n := by omega
        rw [v, if_pos (by simp [h]; omega)]
      · rw [if_neg h3]
        have e0 := bt_nat (240 + n / 262144) (by omega)
        have e1 := bt_nat (128 + n / 4096 % 64) (by omega)
        have e2 := bt_nat (128 + n / 64 % 64) (by omega)
        have e3 := bt_nat (128 + n % 64) (by omega)
        simp only [List.cons_append, List.nil_append, decL, List.length_cons, List.length_nil, cont, e0, e1, e2, e3]
        rw [if_neg (by omega), if_neg (by omega), if_neg (by omega), if_pos (by omega)]
        have v : (240 + n / 262144) % 8 * 262144 + (128 + n / 4096 % 64) % 64 * 4096 + (128 + n / 64 % 64) % 64 * 64 + (128 + n % 64) % 64 = n := by omega
        rw [v, if_pos (by simp [h]; omega)]

theorem bt_of (a : UInt8) (n : Nat) (h : a.toNat = n) : bt n = a := by subst h; exact UInt8.ofNat_toNat
theorem dec_sound (l : List UInt8) (n k : Nat) (h : decL l = some (n, k)) : sv n = true ∧ k = (enc n).length ∧ ∃ r, l = enc n ++ r := by
  cases l with
  | nil => simp [decL] at h
  | cons a r =>
    have ha := a.toNat_lt
    unfold decL at h
    dsimp only at h
    by_cases h1 : a.toNat < 128
    · rw [if_pos h1] at h
      obtain ⟨rfl, rfl⟩ : a.toNat = n ∧ 1 = k := by simpa using h
      have e : enc a.toNat = [a] := by unfold enc; rw [if_pos h1, bt_of a _ rfl]
      rw [e]
      exact ⟨by simp [sv]; omega, rfl, r, rfl⟩
    · rw [if_neg h1] at h
      by_cases h2 : a.toNat / 32 = 6
      · rw [if_pos h2] at h
        cases r with
        | nil => simp at h
        | cons b r =>
          have hb := b.toNat_lt
          simp only at h
          split at h
          · rename_i hc
            simp only [cont, Bool.and_eq_true, decide_eq_true_eq] at hc
            obtain ⟨rfl, rfl⟩ : a.toNat % 32 * 64 + b.toNat % 64 = n ∧ 2 = k := by simpa using h
            have e : enc (a.toNat % 32 * 64 + b.toNat % 64) = [a, b] := by
              unfold enc
              rw [if_neg (by omega), if_pos (by omega), bt_of a _ (by omega), bt_of b _ (by omega)]
            rw [e]
            exact ⟨by simp [sv]; omega, rfl, r, rfl⟩
          · cases h
      · rw [if_neg h2] at h
        by_cases h3 : a.toNat / 16 = 14
        · rw [if_pos h3] at h
          match r, h with
          | [], h => simp at h
          | [b], h => simp at h
          | b :: c :: r, h =>
            have hb := b.toNat_lt
            have hc := c.toNat_lt
            simp only at h
            split at h
            · rename_i hd
              simp only [cont, Bool.and_eq_true, decide_eq_true_eq] at hd
              obtain ⟨hx, rfl⟩ : a.toNat % 16 * 4096 + b.toNat % 64 * 64 + c.toNat % 64 = n ∧ 3 = k := by simpa using h
              rw [hx] at hd
              have e : enc n = [a, b, c] := by
                unfold enc
                rw [if_neg (by omega), if_neg (by omega), if_pos (by omega), bt_of a _ (by omega), bt_of b _ (by omega), bt_of c _ (by omega)]
              rw [e]
              exact ⟨hd.2, rfl, r, rfl⟩
            · cases h
        · rw [if_neg h3] at h
          by_cases h4 : a.toNat / 8 = 30
          · rw [if_pos h4] at h
            match r, h with
            | [], h => simp at h
            | [b], h => simp at h
            | [b, c], h => simp at h
            | b :: c :: d :: r, h =>
              have hb := b.toNat_lt
              have hc := c.toNat_lt
              have hd := d.toNat_lt
              simp only at h
              split at h
              · rename_i hq
                simp only [cont, Bool.and_eq_true, decide_eq_true_eq] at hq
                obtain ⟨hx, rfl⟩ : a.toNat % 8 * 262144 + b.toNat % 64 * 4096 + c.toNat % 64 * 64 + d.toNat % 64 = n ∧ 4 = k := by simpa using h
                rw [hx] at hq
                have e : enc n = [a, b, c, d] := by
                  unfold enc
                  rw [if_neg (by omega), if_neg (by omega), if_neg (by omega), bt_of a _ (by omega), bt_of b _ (by omega), bt_of c _ (by omega), bt_of d _ (by omega)]
                rw [e]
                exact ⟨hq.2, rfl, r, rfl⟩
              · cases h
          · rw [if_neg h4] at h
            cases h

theorem enc_pre {n m : Nat} (hn : sv n = true) (hm : sv m = true) {r r' : List UInt8} (h : enc n ++ r = enc m ++ r') : n = m ∧ r = r' := by
  have h1 := dec_enc n hn r
  rw [h, dec_enc m hm r'] at h1
  obtain ⟨rfl, _⟩ : m = n ∧ (enc m).length = (enc n).length := by simpa using h1
  exact ⟨rfl, List.append_cancel_left h⟩
/-- The code point that bytes begin with, if it may be. -/
def one (l : List UInt8) : Option (Nat × Nat) := (decL l).filter fun p => may p.1
theorem one_enc (n : Nat) (h : may n = true) (r : List UInt8) : one (enc n ++ r) = some (n, (enc n).length) := by
  have hs := (may_sv h).2.2
  rw [Int.toNat_natCast] at hs
  rw [one, dec_enc n hs r]
  simp [h]
theorem one_sound {l : List UInt8} {n k : Nat} (h : one l = some (n, k)) : may n = true ∧ sv n = true ∧ k = (enc n).length ∧ ∃ r, l = enc n ++ r := by
  unfold one at h
  rw [Option.filter_eq_some_iff] at h
  obtain ⟨h1, h2⟩ := h
  obtain ⟨a, b, c⟩ := dec_sound l n k h1
  exact ⟨h2, a, b, c⟩
theorem one_nil : one [] = none := rfl
/-- Code points' bytes. -/
def encs (l : List Nat) : List UInt8 := l.flatMap enc
theorem encs_nil : encs [] = [] := rfl
theorem encs_cons (n : Nat) (l : List Nat) : encs (n :: l) = enc n ++ encs l := by simp [encs]
theorem encs_append (a b : List Nat) : encs (a ++ b) = encs a ++ encs b := by simp [encs]
/-- All may be. -/
def mays (l : List Nat) : Prop := ∀ n ∈ l, may (n : Int) = true
theorem mays_nil : mays [] := fun _ h => by cases h
theorem mays_cons {n : Nat} {l : List Nat} : mays (n :: l) ↔ may (n : Int) = true ∧ mays l := by simp [mays]
theorem mays_append {a b : List Nat} : mays (a ++ b) ↔ mays a ∧ mays b := by
  unfold mays
  constructor
  · intro h
    exact ⟨fun n hn => h n (by simp [hn]), fun n hn => h n (by simp [hn])⟩
  · rintro ⟨h1, h2⟩ n hn
    rcases List.mem_append.1 hn with h | h
    · exact h1 n h
    · exact h2 n h
theorem nat_sv {n : Nat} (h : may (n : Int) = true) : sv n = true := by
  have := (may_sv h).2.2
  rwa [Int.toNat_natCast] at this
theorem encs_split : ∀ (ms ns : List Nat) (y : List UInt8), mays ms → mays ns → encs ns = encs ms ++ y → ∃ rest, ns = ms ++ rest ∧ y = encs rest
  | [], ns, y, _, _, h => ⟨ns, rfl, by simpa [encs] using h.symm⟩
  | m :: ms, ns, y, h1, h2, h => by
    rw [mays_cons] at h1
    rw [encs_cons, List.append_assoc] at h
    cases ns with
    | nil =>
      have := congrArg List.length h
      have := (enc_length m).1
      simp [encs] at *
      omega
    | cons n ns =>
      rw [mays_cons] at h2
      rw [encs_cons] at h
      obtain ⟨rfl, h3⟩ := enc_pre (nat_sv h2.1) (nat_sv h1.1) h
      obtain ⟨rest, rfl, e⟩ := encs_split ms ns y h1.2 h2.2 h3
      exact ⟨rest, rfl, e⟩
theorem encs_inj {a b : List Nat} (ha : mays a) (hb : mays b) (h : encs a = encs b) : a = b := by
  obtain ⟨rest, e, hr⟩ := encs_split b a [] hb ha (by simpa using h)
  cases rest with
  | nil => simpa using e
  | cons n r =>
    have h1 := congrArg List.length hr
    have h2 := (enc_length n).1
    rw [encs_cons] at h1
    simp at h1
    omega

/-- The code points of bytes, so many at most. -/
def ptsF : Nat → List UInt8 → Option (List Nat)
  | _, [] => some []
  | 0, _ :: _ => none
  | f + 1, a :: l => match one (a :: l) with
    | none => none
    | some (n, k) => (ptsF f ((a :: l).drop k)).map (n :: ·)
/-- A text's code points; none: it is no text. -/
def pts (l : List UInt8) : Option (List Nat) := ptsF l.length l
theorem ptsF_encs : ∀ (f : Nat) (ns : List Nat), mays ns → (encs ns).length ≤ f → ptsF f (encs ns) = some ns
  | f, [], _, _ => by cases f <;> rfl
  | f, n :: ns, h, hl => by
    rw [mays_cons] at h
    have h1 := (enc_length n).1
    have h4 := one_enc n h.1 (encs ns)
    rw [encs_cons] at *
    rw [List.length_append] at hl
    cases f with
    | zero => omega
    | succ f =>
      have e : ∃ a r, enc n ++ encs ns = a :: r := by
        cases hq : enc n with
        | nil => rw [hq] at h1; simp at h1
        | cons a r => exact ⟨a, r ++ encs ns, rfl⟩
      obtain ⟨a, r, e⟩ := e
      rw [e] at h4 ⊢
      rw [ptsF, h4]
      have ed : (a :: r).drop (enc n).length = encs ns := by rw [← e, List.drop_left]
      simp only [ed]
      rw [ptsF_encs f ns h.2 (by omega)]
      rfl
theorem ptsF_sound : ∀ (f : Nat) (l : List UInt8) (ns : List Nat), ptsF f l = some ns → l = encs ns ∧ mays ns
  | f, [], ns, h => by
    have : ns = [] := by cases f <;> simpa [ptsF] using h.symm
    subst this
    exact ⟨rfl, mays_nil⟩
  | 0, a :: l, ns, h => by simp [ptsF] at h
  | f + 1, a :: l, ns, h => by
    rw [ptsF] at h
    cases ho : one (a :: l) with
    | none => rw [ho] at h; cases h
    | some p =>
      obtain ⟨n, k⟩ := p
      rw [ho] at h
      obtain ⟨h1, _, rfl, r, hr⟩ := one_sound ho
      simp only [Option.map_eq_some_iff] at h
      obtain ⟨ms, h2, rfl⟩ := h
      rw [hr, List.drop_left] at h2
      obtain ⟨e, hm⟩ := ptsF_sound f r ms h2
      exact ⟨by rw [hr, encs_cons, e], mays_cons.2 ⟨h1, hm⟩⟩
theorem pts_iff (l : List UInt8) (ns : List Nat) : pts l = some ns ↔ l = encs ns ∧ mays ns := by
  constructor
  · exact ptsF_sound _ _ _
  · rintro ⟨rfl, h⟩
    exact ptsF_encs _ _ h (Nat.le_refl _)
theorem pts_encs {ns : List Nat} (h : mays ns) : pts (encs ns) = some ns := (pts_iff _ _).2 ⟨rfl, h⟩
/-- One step of the way through a text. -/
theorem pts_step (l : List UInt8) (h : l ≠ []) : pts l = match one l with | none => none | some (n, k) => (pts (l.drop k)).map (n :: ·) := by
  cases ho : one l with
  | none =>
    cases hp : pts l with
    | none => rfl
    | some ns =>
      obtain ⟨e, hm⟩ := (pts_iff _ _).1 hp
      cases ns with
      | nil => exact absurd e h
      | cons n ns =>
        rw [mays_cons] at hm
        rw [e, encs_cons, one_enc n hm.1] at ho
        cases ho
  | some p =>
    obtain ⟨n, k⟩ := p
    obtain ⟨h1, _, rfl, r, rfl⟩ := one_sound ho
    simp only [List.drop_left]
    cases hp : pts r with
    | none =>
      cases hq : pts (enc n ++ r) with
      | none => rfl
      | some ns =>
        obtain ⟨e, hm⟩ := (pts_iff _ _).1 hq
        obtain ⟨rest, _, e2⟩ := encs_split [n] ns r (mays_cons.2 ⟨h1, mays_nil⟩) hm (by rw [← e, encs_cons, encs_nil, List.append_nil])
        have hm2 : mays rest := by
          rename_i e1
          rw [e1] at hm
          exact (mays_append.1 hm).2
        rw [e2, pts_encs hm2] at hp
        cases hp
    | some ms =>
      obtain ⟨e, hm⟩ := (pts_iff _ _).1 hp
      rw [e, ← encs_cons]
      exact pts_encs (mays_cons.2 ⟨h1, hm⟩)

/-- A byte that goes on begins nothing. -/
theorem dec_cont (b : UInt8) (r : List UInt8) (h : cont b = true) : decL (b :: r) = none := by
  have hb : b.toNat / 64 = 2 := by simpa [cont] using h
  unfold decL
  dsimp only
  rw [if_neg (by omega), if_neg (by omega), if_neg (by omega), if_neg (by omega)]
theorem one_cont (b : UInt8) (r : List UInt8) (h : cont b = true) : one (b :: r) = none := by rw [one, dec_cont b r h]; rfl
/-- What stands behind the first byte of a scalar value goes on. -/
theorem enc_cont (n : Nat) (h : sv n = true) (j : Nat) (h0 : 0 < j) (hj : j < (enc n).length) : ∃ b r, (enc n).drop j = b :: r ∧ cont b = true := by
  have hb := sv_le h
  have c : ∀ m, m < 64 → cont (bt (128 + m)) = true := fun m hm => by unfold cont; rw [bt_nat _ (by omega)]; simp; omega
  revert hj
  unfold enc
  split
  · intro hj; simp at hj; omega
  · split
    · intro hj
      obtain rfl : j = 1 := by simp at hj; omega
      exact ⟨_, _, rfl, c _ (by omega)⟩
    · split
      · intro hj
        have : j = 1 ∨ j = 2 := by simp at hj; omega
        rcases this with rfl | rfl
        · exact ⟨_, _, rfl, c _ (by omega)⟩
        · exact ⟨_, _, rfl, c _ (by omega)⟩
      · intro hj
        have : j = 1 ∨ j = 2 ∨ j = 3 := by simp at hj; omega
        rcases this with rfl | rfl | rfl
        · exact ⟨_, _, rfl, c _ (by omega)⟩
        · exact ⟨_, _, rfl, c _ (by omega)⟩
        · exact ⟨_, _, rfl, c _ (by omega)⟩
/-- A place in a text is the beginning of a code point, or lies inside one. -/
theorem place : ∀ (ns : List Nat) (k : Nat), k < (encs ns).length → (∃ a b, ns = a ++ b ∧ k = (encs a).length ∧ b ≠ []) ∨ (∃ a n b j, ns = a ++ n :: b ∧ k = (encs a).length + j ∧ 0 < j ∧ j < (enc n).length)
  | [], k, h => by simp [encs] at h
  | n :: ns, k, h => by
    rw [encs_cons, List.length_append] at h
    by_cases h0 : k = 0
    · subst h0; exact .inl ⟨[], n :: ns, rfl, rfl, by simp⟩
    · by_cases h1 : k < (enc n).length
      · exact .inr ⟨[], n, ns, k, rfl, by simp [encs], by omega, h1⟩
      · rcases place ns (k - (enc n).length) (by omega) with ⟨a, b, rfl, e, hb⟩ | ⟨a, m, b, j, rfl, e, h2, h3⟩
        · exact .inl ⟨n :: a, b, rfl, by rw [encs_cons, List.length_append]; omega, hb⟩
        · exact .inr ⟨n :: a, m, b, j, rfl, by rw [encs_cons, List.length_append]; omega, h2, h3⟩
/-- A text is cut between code points, and nowhere else. -/
theorem cut (ns : List Nat) (hm : mays ns) (k : Nat) (hk : k < (encs ns).length) :
    ((one ((encs ns).drop k)).isSome = true ∧ (pts ((encs ns).take k)).isSome = true ∧ (pts ((encs ns).drop k)).isSome = true) ∨
    (one ((encs ns).drop k) = none ∧ pts ((encs ns).take k) = none ∧ pts ((encs ns).drop k) = none) := by
  rcases place ns k hk with ⟨a, b, rfl, rfl, hb⟩ | ⟨a, n, b, j, rfl, rfl, h0, hj⟩
  · rw [mays_append] at hm
    rw [encs_append, List.drop_left, List.take_left]
    refine .inl ⟨?_, by rw [pts_encs hm.1]; rfl, by rw [pts_encs hm.2]; rfl⟩
    cases b with
    | nil => exact absurd rfl hb
    | cons n b =>
      rw [encs_cons, one_enc n (mays_cons.1 hm.2).1]
      rfl
  · rw [mays_append, mays_cons] at hm
    have hn := nat_sv hm.2.1
    obtain ⟨x, r, hx, hc⟩ := enc_cont n hn j h0 hj
    have hd : (encs (a ++ n :: b)).drop ((encs a).length + j) = x :: (r ++ encs b) := by
      rw [encs_append, encs_cons, List.drop_append, List.drop_of_length_le (by omega), List.nil_append, show (encs a).length + j - (encs a).length = j by omega, List.drop_append, hx, show j - (enc n).length = 0 by omega]
      rfl
    have ho : one (x :: (r ++ encs b)) = none := one_cont x _ hc
    have ht : (encs (a ++ n :: b)).take ((encs a).length + j) = encs a ++ (enc n).take j := by
      rw [encs_append, encs_cons, List.take_append, List.take_of_length_le (by omega), show (encs a).length + j - (encs a).length = j by omega, List.take_append, show j - (enc n).length = 0 by omega]
      simp
    rw [hd, ht]
    refine .inr ⟨ho, ?_, ?_⟩
    · cases hp : pts (encs a ++ (enc n).take j) with
      | none => rfl
      | some ms =>
        obtain ⟨e, hms⟩ := (pts_iff _ _).1 hp
        obtain ⟨rest, rfl, er⟩ := encs_split a ms _ hm.1 hms e.symm
        rw [mays_append] at hms
        cases rest with
        | nil =>
          have := congrArg List.length er
          rw [List.length_take, encs_nil, List.length_nil] at this
          omega
        | cons m rest =>
          rw [encs_cons] at er
          have hmm := nat_sv (mays_cons.1 hms.2).1
          have e2 : enc n ++ [] = enc m ++ (encs rest ++ (enc n).drop j) := by rw [List.append_nil, ← List.append_assoc, ← er, List.take_append_drop]
          obtain ⟨rfl, e3⟩ := enc_pre hn hmm e2
          have := congrArg List.length e3
          rw [List.length_append, List.length_drop] at this
          simp at this
          omega
    · rw [pts_step _ (by simp), ho]

/-- The bytes of a lesser value differ at a place within both, and are less there. -/
theorem enc_less (n m : Nat) (hn : sv n = true) (hm : sv m = true) (h : n < m) : ∃ p u v x y, enc n = p ++ u :: x ∧ enc m = p ++ v :: y ∧ u < v := by
  have h1 := sv_le hn
  have h2 := sv_le hm
  have lt : ∀ a b, a < b → b < 256 → bt a < bt b := fun a b hab hb => by
    rw [UInt8.lt_iff_toNat_lt, bt_nat a (by omega), bt_nat b hb]; exact hab
  unfold enc
  by_cases a1 : n < 128
  · rw [if_pos a1]
    split
    · exact ⟨[], _, _, _, _, rfl, rfl, lt _ _ h (by omega)⟩
    · split
      · exact ⟨[], _, _, _, _, rfl, rfl, lt _ _ (by omega) (by omega)⟩
      · split
        · exact ⟨[], _, _, _, _, rfl, rfl, lt _ _ (by omega) (by omega)⟩
        · exact ⟨[], _, _, _, _, rfl, rfl, lt _ _ (by omega) (by omega)⟩
  · rw [if_neg a1, if_neg (show ¬ m < 128 by omega)]
    by_cases a2 : n < 2048
    · rw [if_pos a2]
      split
      · by_cases q : n / 64 = m / 64
        · exact ⟨[bt (192 + n / 64)], _, _, _, _, rfl, by rw [q]; rfl, lt _ _ (by omega) (by omega)⟩
        · exact ⟨[], _, _, _, _, rfl, rfl, lt _ _ (by omega) (by omega)⟩
      · split
        · exact ⟨[], _, _, _, _, rfl, rfl, lt _ _ (by omega) (by omega)⟩
        · exact ⟨[], _, _, _, _, rfl, rfl, lt _ _ (by omega) (by omega)⟩
    · rw [if_neg a2, if_neg (show ¬ m < 2048 by omega)]
      by_cases a3 : n < 65536
      · rw [if_pos a3]
        split
        · by_cases q : n / 4096 = m / 4096
          · by_cases q2 : n / 64 % 64 = m / 64 % 64
            · exact ⟨[bt (224 + n / 4096), bt (128 + n / 64 % 64)], _, _, _, _, rfl, by rw [q, q2]; rfl, lt _ _ (by omega) (by omega)⟩
            · exact ⟨[bt (224 + n / 4096)], _, _, _, _, rfl, by rw [q]; rfl, lt _ _ (by omega) (by omega)⟩
          · exact ⟨[], _, _, _, _, rfl, rfl, lt _ _ (by omega) (by omega)⟩
        · exact ⟨[], _, _, _, _, rfl, rfl, lt _ _ (by omega) (by omega)⟩
      · rw [if_neg a3, if_neg (show ¬ m < 65536 by omega)]
        by_cases q : n / 262144 = m / 262144
        · by_cases q2 : n / 4096 % 64 = m / 4096 % 64
          · by_cases q3 : n / 64 % 64 = m / 64 % 64
            · exact ⟨[bt (240 + n / 262144), bt (128 + n / 4096 % 64), bt (128 + n / 64 % 64)], _, _, _, _, rfl, by rw [q, q2, q3]; rfl, lt _ _ (by omega) (by omega)⟩
            · exact ⟨[bt (240 + n / 262144), bt (128 + n / 4096 % 64)], _, _, _, _, rfl, by rw [q, q2]; rfl, lt _ _ (by omega) (by omega)⟩
          · exact ⟨[bt (240 + n / 262144)], _, _, _, _, rfl, by rw [q]; rfl, lt _ _ (by omega) (by omega)⟩
        · exact ⟨[], _, _, _, _, rfl, rfl, lt _ _ (by omega) (by omega)⟩
theorem lex_at (p : List UInt8) (u v : UInt8) (x y : List UInt8) (h : u < v) : p ++ u :: x < p ++ v :: y := by
  induction p with
  | nil => exact List.Lex.rel h
  | cons a p ih => exact List.Lex.cons ih
theorem lex_cancel (p x y : List UInt8) : p ++ x < p ++ y ↔ x < y := by
  induction p with
  | nil => rfl
  | cons a p ih =>
    rw [List.cons_append, List.cons_append, List.cons_lt_cons_iff, ih]
    simp
/-- Texts are in the order of their code points. -/
theorem order : ∀ (a b : List Nat), mays a → mays b → (encs a < encs b ↔ a < b)
  | [], [], _, _ => by simp [encs]
  | [], n :: b, _, _ => by
    have h1 := (enc_length n).1
    rw [encs_cons]
    cases hq : enc n with
    | nil => rw [hq] at h1; simp at h1
    | cons x r => simp [encs]
  | n :: a, [], _, _ => by simp [encs]
  | n :: a, m :: b, ha, hb => by
    rw [mays_cons] at ha hb
    rw [encs_cons, encs_cons, List.cons_lt_cons_iff]
    rcases Nat.lt_trichotomy n m with h | h | h
    · obtain ⟨p, u, v, x, y, e1, e2, hl⟩ := enc_less n m (nat_sv ha.1) (nat_sv hb.1) h
      rw [e1, e2, List.append_assoc, List.append_assoc]
      simp only [List.cons_append, h, true_or, iff_true]
      exact lex_at p u v _ _ hl
    · subst h
      rw [lex_cancel, order a b ha.2 hb.2]
      simp
    · obtain ⟨p, u, v, x, y, e1, e2, hl⟩ := enc_less m n (nat_sv hb.1) (nat_sv ha.1) h
      rw [e1, e2, List.append_assoc, List.append_assoc]
      have k : p ++ (u :: x ++ encs b) < p ++ (v :: y ++ encs a) := lex_at p u v _ _ hl
      have nk : ¬ (p ++ (v :: y ++ encs a) < p ++ (u :: x ++ encs b)) := fun q => absurd (List.lt_trans k q) (List.lt_irrefl _)
      simp only [nk, false_iff]
      omega
end Tx
end Go.Proofs.Ytichboamakgabaa
